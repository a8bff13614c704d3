/- A Disk that came in (a law's own type), opened. Condition: none. -/
import Derived.Test.YtkkmjlpeahkiaaaRows
import Derived.ProofKit
import Derived.Deep.Slices
import Derived.Deep.Strs
import Derived.OpenShut
import Derived.Test.YtkkmjlpeahkiaaaDskForms
import Derived.Lib.SmallJoins
namespace Go.Proofs.Ytkkmjlpeahkiaaa
open Go.RowKit Go.Deep Go.ChangeShapes Go.WideShapes
set_option linter.unusedVariables false
section
variable {H : Type} {enc : TypeId × Value → H}
theorem cellsStrD : Try.prog.cellsOf 9 = 1 := by kernel_rfl
theorem cellsIntD : Try.prog.cellsOf 3 = 1 := by kernel_rfl
theorem cellsLDsk : Try.prog.cellsOf 23 = 4 := by kernel_rfl
set_option maxRecDepth 100000 in
theorem open_disk {W : World} {base : Nat} {sp : Nat → Bool} {held : Bool} {fuel : Nat} {cs : List Value} {x : DataW H × List MemPlace} (h : DataW.trod enc Try.prog W base sp held fuel 23 cs = some x) :
    ∃ d : Dsk, cs = [.int .i64 d.rm, .string d.sn, .string d.kp, .string d.ls] ∧ FitDsk d := by
  obtain ⟨y0, y1, y2, y3, k, _, hlen, u0, u1, u2, u3⟩ := Go.Joins.trod_struct4 Try.underlying23 h
  rw [cellsLDsk] at hlen
  match cs, hlen with
  | [v0, v1, v2, v3], _ =>
    simp only [cellsStrD, cellsIntD, List.drop, List.take] at u0 u1 u2 u3
    obtain ⟨a, e0, d0, s0⟩ := DataW.trod_int Try.underlying3 u0
    obtain ⟨b, e1, d1, s1⟩ := DataW.trod_string Try.underlying9 u1
    obtain ⟨c, e2, d2, s2⟩ := DataW.trod_string Try.underlying9 u2
    obtain ⟨d, e3, d3, s3⟩ := DataW.trod_string Try.underlying9 u3
    simp only [List.cons.injEq, and_true] at e0 e1 e2 e3
    subst e0; subst e1; subst e2; subst e3
    exact ⟨⟨a, b, c, d⟩, rfl, bounds_i64 s0, s1, s2, s3⟩
end
end Go.Proofs.Ytkkmjlpeahkiaaa
