/- A Taker that came in (a law's own type), opened. Condition: none. -/
import Derived.Test.YtdpjdjkfedcojaaBaseA
import Derived.Test.YtdpjdjkfedcojaaRows
import Derived.ProofKit
import Derived.Deep.Slices
import Derived.Deep.Strs
import Derived.OpenShut
import Derived.Test.YtdpjdjkfedcojaaTkForms
import Derived.Lib.SmallJoins
namespace Go.Proofs.Ytdpjdjkfedcojaa
open Go.RowKit Go.Deep Go.ChangeShapes Go.WideShapes
set_option linter.unusedVariables false
section
variable {H : Type} {enc : TypeId × Value → H}
theorem cellsStrT : Try.prog.cellsOf 9 = 1 := by kernel_rfl
theorem cellsIntT : Try.prog.cellsOf 3 = 1 := by kernel_rfl
theorem cellsLTk : Try.prog.cellsOf 44 = 4 := by kernel_rfl
set_option maxRecDepth 100000 in
theorem open_taker {W : World} {base : Nat} {sp : Nat → Bool} {held : Bool} {fuel : Nat} {cs : List Value} {x : DataW H × List MemPlace} (h : DataW.trod enc Try.prog W base sp held fuel 44 cs = some x) :
    ∃ t : Tkr, cs = [.int .i64 t.of, .int .i64 t.nx, .int .i64 t.ch, .string t.b] ∧ FitTkr t := by
  obtain ⟨y0, y1, y2, y3, k, _, hlen, u0, u1, u2, u3⟩ := Go.Joins.trod_struct4 Try.underlying44 h
  rw [cellsLTk] at hlen
  match cs, hlen with
  | [v0, v1, v2, v3], _ =>
    simp only [cellsStrT, cellsIntT, List.drop, List.take] at u0 u1 u2 u3
    obtain ⟨a, e0, d0, s0⟩ := DataW.trod_int Try.underlying3 u0
    obtain ⟨b, e1, d1, s1⟩ := DataW.trod_int Try.underlying3 u1
    obtain ⟨c, e2, d2, s2⟩ := DataW.trod_int Try.underlying3 u2
    obtain ⟨d, e3, d3, s3⟩ := DataW.trod_string Try.underlying9 u3
    simp only [List.cons.injEq, and_true] at e0 e1 e2 e3
    subst e0; subst e1; subst e2; subst e3
    exact ⟨⟨a, b, c, d⟩, rfl, bounds_i64 s0, bounds_i64 s1, bounds_i64 s2, s3⟩
end
end Go.Proofs.Ytdpjdjkfedcojaa
