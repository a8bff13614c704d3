/- What spec.Lines answers at every text: its pieces between newlines, in a row of the call's own. Condition: the text has at most 2^40 bytes. -/
import Derived.Test.YtebmaplflpfjbaaDoorRows
import Derived.Test.YtebmaplflpfjbaaDoorBaseA
import Derived.WalkKit
import Derived.WalkSpells
import Derived.WalkLawsBesides
import Derived.LoopTactic
import Derived.Lib.Hide
namespace Go.Proofs.YtebmaplflpfjbaaDoor
open Go.RowKit
set_option linter.unusedVariables false

theorem infoS : (Tryd.prog.info? 9).map (fun i => (i.zero, i.size, i.bytes)) = some (some (.string ⟨#[]⟩), 1, 16) := by kernel_rfl

end Go.Proofs.YtebmaplflpfjbaaDoor
