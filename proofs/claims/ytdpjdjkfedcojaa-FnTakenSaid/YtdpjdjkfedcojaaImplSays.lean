/- What is to be proved of the program's StateOk, ItemAt, TalkAt. Condition: none. -/
import Derived.Test.YtdpjdjkfedcojaaBaseA
import Derived.Test.YtdpjdjkfedcojaaStateOk
namespace Go.Proofs.Ytdpjdjkfedcojaa
open Go.RowKit

/-- What the program's own StateOk answers. -/
def ImplStateOk : Prop := ∀ (s : St) (v : Value) (B : Nat) (w : World), StV w B v s → B ≤ w.heap.size → Fits s →
  Calls Try.prog 20 #[v] w fun e w' => e = .returned (.bool (stOk s)) ∧ Below w.heap.size w w'
end Go.Proofs.Ytdpjdjkfedcojaa
