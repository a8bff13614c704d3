/- What spec.DropItem answers: a state of its own. Condition: rows that can be read, of a bulk that a row may have. -/
import Derived.Test.YtdpjdjkfedcojaaGreatBaseA
import Derived.Test.YtdpjdjkfedcojaaGreatStateOk
namespace Go.Proofs.YtdpjdjkfedcojaaGreat
open Go.RowKit List
set_option linter.unusedVariables false

/-- A state without the item of a key. -/
def dropS (s : St) (key : ByteArray) : St :=
  if stOk s = true ∧ 0 ≤ itemAt s.items key then ⟨s.items.take (itemAt s.items key).toNat ++ s.items.drop ((itemAt s.items key).toNat + 1), s.talks⟩ else s

set_option linter.unusedSimpArgs false
end Go.Proofs.YtdpjdjkfedcojaaGreat
