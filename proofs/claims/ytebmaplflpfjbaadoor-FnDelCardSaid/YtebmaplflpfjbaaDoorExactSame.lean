/- The exact law of SameState: the program answers as its model, given what the program's own function answers. Condition: what the program's own function answers. -/
import Derived.Test.YtebmaplflpfjbaaDoorBaseA
import Derived.Test.YtebmaplflpfjbaaDoorExactState
import Derived.Test.YtebmaplflpfjbaaDoorSpecSame
namespace Go.Proofs.YtebmaplflpfjbaaDoor
open Go.RowKit List
set_option linter.unusedVariables false

/-- What the program's own SameState answers. -/
def ImplSameState : Prop := ∀ (a b : St) (va vb : Value) (B : Nat) (w : World), StV w B va a → StV w B vb b → B ≤ w.heap.size → Fits a → Fits b →
  Calls Tryd.prog 28 #[va, vb] w fun e w' => ∃ r, e = .returned (.bool r) ∧ (r = true ↔ a = b) ∧ Below w.heap.size w w'

end Go.Proofs.YtebmaplflpfjbaaDoor
