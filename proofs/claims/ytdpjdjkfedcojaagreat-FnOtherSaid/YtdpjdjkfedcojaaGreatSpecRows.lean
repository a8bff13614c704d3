/- What spec.l06Items and spec.l06Talks answer: the rows that stand at a place, and the place behind. Condition: a text of at most 2^40 bytes, a place in it. -/
import Derived.Test.YtdpjdjkfedcojaaGreatFmtA
import Derived.Test.YtdpjdjkfedcojaaGreatNumA
import Derived.Test.YtdpjdjkfedcojaaGreatBaseA
import Derived.Maps.Ext
namespace Go.Proofs.YtdpjdjkfedcojaaGreat
open Go.RowKit
set_option linter.unusedVariables false
set_option linter.unusedSimpArgs false

theorem wpList_appX {P : Program} {w w' : World} {ops : Array Oper} {rest : List Oper} {o : Oper} {a : Act} {Q : Exit → Act → World → Prop} {sv xv v' : Value} (hg : o.guard = none) (s x : Operand) (t : TypeId) (hop : o.op = Op.call { callee := Callee.builtin Builtin.append, args := #[s, x], argTypes := #[t, t] })
    (run : (Builtin.append_ #[t, t] o.type #[sv, xv]).run P w = .ok v' w') (hs : a.eval s = sv) (hx : a.eval x = xv) (hK : wpList P ops Q rest (a.put o.dst v') w') : wpList P ops Q (o :: rest) a w := by
  refine wpList_plain hg fun K' hK' => ?_
  unfold Oper.wp
  simp [execOp, hop, resolve, invoke, builtin, hs, hx, run, Result.andThen]
  exact hK' _ _ hK

end Go.Proofs.YtdpjdjkfedcojaaGreat
