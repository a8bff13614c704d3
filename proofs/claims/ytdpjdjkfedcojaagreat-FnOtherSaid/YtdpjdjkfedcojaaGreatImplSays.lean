/- What is to be proved of the program's StateOk, ItemAt, TalkAt. Condition: none. -/
import Derived.Test.YtdpjdjkfedcojaaGreatBaseA
import Derived.Test.YtdpjdjkfedcojaaGreatStateOk
namespace Go.Proofs.YtdpjdjkfedcojaaGreat
open Go.RowKit

/-- What the program's own StateOk answers. -/
def ImplStateOk : Prop := ∀ (s : St) (v : Value) (B : Nat) (w : World), StV w B v s → B ≤ w.heap.size → Fits s →
  Calls Tryz.prog 23 #[v] w fun e w' => e = .returned (.bool (stOk s)) ∧ Below w.heap.size w w'
/-- What the program's own ItemAt answers. -/
def ImplItemAt : Prop := ∀ (s : St) (v : Value) (B : Nat) (key : ByteArray) (w : World), StV w B v s → B ≤ w.heap.size → Fits s → key.size ≤ maxLen →
  Calls Tryz.prog 22 #[v, .string key] w fun e w' => e = .returned (.int .i64 (itemAt s.items key)) ∧ Below w.heap.size w w'
end Go.Proofs.YtdpjdjkfedcojaaGreat
