/- The draws of one number. Condition: none. -/
import Derived.Test.YtdpjdjkfedcojaaCurA
namespace Go.Proofs.Ytdpjdjkfedcojaa
open Go.RowKit
set_option linter.unusedVariables false

end Go.Proofs.Ytdpjdjkfedcojaa
