/- What is to be proved of the program's StateOk, ItemAt, TalkAt. Condition: none. -/
import Derived.Test.YtebmaplflpfjbaaDoorBaseA
import Derived.Test.YtebmaplflpfjbaaDoorStateOk
namespace Go.Proofs.YtebmaplflpfjbaaDoor
open Go.RowKit

/-- What the program's own StateOk answers. -/
def ImplStateOk : Prop := ∀ (s : St) (v : Value) (B : Nat) (w : World), StV w B v s → B ≤ w.heap.size → Fits s →
  Calls Tryd.prog 12 #[v] w fun e w' => e = .returned (.bool (stOk s)) ∧ Below w.heap.size w w'
/-- What the program's own ItemAt answers. -/
def ImplItemAt : Prop := ∀ (s : St) (v : Value) (B : Nat) (key : ByteArray) (w : World), StV w B v s → B ≤ w.heap.size → Fits s → key.size ≤ maxLen →
  Calls Tryd.prog 29 #[v, .string key] w fun e w' => e = .returned (.int .i64 (itemAt s.items key)) ∧ Below w.heap.size w w'
/-- What the program's own TalkAt answers. -/
def ImplTalkAt : Prop := ∀ (s : St) (v : Value) (B : Nat) (key : ByteArray) (w : World), StV w B v s → B ≤ w.heap.size → Fits s → key.size ≤ maxLen →
  Calls Tryd.prog 72 #[v, .string key] w fun e w' => e = .returned (.int .i64 (talkAt s.talks key)) ∧ Below w.heap.size w w'
end Go.Proofs.YtebmaplflpfjbaaDoor
