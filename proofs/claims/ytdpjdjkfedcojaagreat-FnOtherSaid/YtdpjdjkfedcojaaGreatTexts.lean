/- What the laws' own helpers on rows of texts answer and leave: laws.markText, markStringS, heldStringS, eqStringS. Condition: rows that the call owns. -/
import Derived.Test.YtdpjdjkfedcojaaGreatRows
import Derived.Test.YtdpjdjkfedcojaaGreatBaseA
import Derived.WalkKit
import Derived.WalkSpells
import Derived.WalkLawsBesides
import Derived.LoopTactic
import Derived.Lib.Hide
import Derived.Deep.QuietTactic
import Derived.BigQuiet
import Derived.Deep.RegionHeld3
namespace Go.Proofs.YtdpjdjkfedcojaaGreat
open Go.RowKit
set_option linter.unusedVariables false

end Go.Proofs.YtdpjdjkfedcojaaGreat
