/- An item or a talk that came in (a law's own types), opened. Condition: none. -/
import Derived.Test.YtlklhmdpkicpnaaOpenState
namespace Go.Proofs.Ytlklhmdpkicpnaa
open Go.RowKit Go.Deep Go.ChangeShapes Go.WideShapes
set_option linter.unusedVariables false
section
variable {H : Type} {enc : TypeId × Value → H}
set_option maxRecDepth 100000 in
theorem open_item {W : World} {base : Nat} {sp : Nat → Bool} {held : Bool} {fuel : Nat} {cs : List Value} {x : DataW H × List MemPlace} (h : DataW.trod enc Try.prog W base sp held fuel 152 cs = some x) :
    ∃ q : It, cs = [.string q.k, .string q.v] ∧ FitIt q := by
  obtain ⟨y0, y1, k, _, hlen, u0, u1⟩ := trod_struct2 Try.underlying152 h
  rw [cellsLI] at hlen
  match cs, hlen with
  | [v0, v1], _ =>
    simp only [cellsStr, List.drop, List.take] at u0 u1
    obtain ⟨s, e0, d0, s0⟩ := DataW.trod_string Try.underlying9 u0
    obtain ⟨q, e1, d1, s1⟩ := DataW.trod_string Try.underlying9 u1
    simp only [List.cons.injEq, and_true] at e0 e1
    subst e0; subst e1
    exact ⟨⟨s, q⟩, rfl, s0, s1⟩
set_option maxRecDepth 100000 in
theorem open_talk {W : World} {base : Nat} {sp : Nat → Bool} {held : Bool} {fuel : Nat} {cs : List Value} {x : DataW H × List MemPlace} (h : DataW.trod enc Try.prog W base sp held fuel 154 cs = some x) :
    ∃ q : Tk, cs = [.string q.c, .int .i64 q.q, .string q.r] ∧ FitTk q := by
  obtain ⟨y0, y1, y2, k, _, hlen, u0, u1, u2⟩ := trod_struct3 Try.underlying154 h
  rw [cellsLT] at hlen
  match cs, hlen with
  | [v0, v1, v2], _ =>
    simp only [cellsStr, cellsInt, List.drop, List.take] at u0 u1 u2
    obtain ⟨s, e0, d0, s0⟩ := DataW.trod_string Try.underlying9 u0
    obtain ⟨p, e1, d1, s1⟩ := DataW.trod_int Try.underlying3 u1
    obtain ⟨q, e2, d2, s2⟩ := DataW.trod_string Try.underlying9 u2
    simp only [List.cons.injEq, and_true] at e0 e1 e2
    subst e0; subst e1; subst e2
    exact ⟨⟨s, p, q⟩, rfl, s0, s2, bounds_i64 s1⟩
end
end Go.Proofs.Ytlklhmdpkicpnaa
