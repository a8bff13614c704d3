/- An operation that came in (a law's own type), opened; its size; its copy. Condition: none. -/
import Derived.Test.YtclcaflkopnbpaaDoorOp
import Derived.Test.YtclcaflkopnbpaaDoorRows
import Derived.ProofKit
import Derived.Deep.Slices
import Derived.Deep.Strs
import Derived.OpenShut
namespace Go.Proofs.YtclcaflkopnbpaaDoor
open Go.RowKit Go.Deep Go.ChangeShapes Go.WideShapes
set_option linter.unusedVariables false

section
variable {H : Type} {P : Program} {w : World} {base : Nat} {spare : Nat → Bool} {held : Bool} {enc : TypeId × Value → H}
theorem trod_struct5 {t : TypeId} {f0 f1 f2 f3 f4 : Field} {fuel : Nat} {cs : List Value} {x : DataW H × List MemPlace} (ht : P.underlying t = some (.struct #[f0, f1, f2, f3, f4])) (h : DataW.trod enc P w base spare held fuel t cs = some x) :
    ∃ y0 y1 y2 y3 y4 n, x = (.agg [y0.1, y1.1, y2.1, y3.1, y4.1], y0.2 ++ (y1.2 ++ (y2.2 ++ (y3.2 ++ y4.2)))) ∧ cs.length = P.cellsOf t ∧ DataW.trod enc P w base spare held n f0.type ((cs.drop f0.offset).take (P.cellsOf f0.type)) = some y0 ∧
      DataW.trod enc P w base spare held n f1.type ((cs.drop f1.offset).take (P.cellsOf f1.type)) = some y1 ∧ DataW.trod enc P w base spare held n f2.type ((cs.drop f2.offset).take (P.cellsOf f2.type)) = some y2 ∧
      DataW.trod enc P w base spare held n f3.type ((cs.drop f3.offset).take (P.cellsOf f3.type)) = some y3 ∧ DataW.trod enc P w base spare held n f4.type ((cs.drop f4.offset).take (P.cellsOf f4.type)) = some y4 := by
  obtain ⟨xs, n, _, rfl, hl, hlen, hf⟩ := DataW.trod_struct ht h
  match xs, hlen with
  | [y0, y1, y2, y3, y4], _ => exact ⟨y0, y1, y2, y3, y4, n, by simp, hl, by simpa using hf 0 f0 rfl, by simpa using hf 1 f1 rfl, by simpa using hf 2 f2 rfl, by simpa using hf 3 f3 rfl, by simpa using hf 4 f4 rfl⟩
end
theorem cellsStrO : Tryd.prog.cellsOf 9 = 1 := by kernel_rfl
theorem cellsIntO : Tryd.prog.cellsOf 3 = 1 := by kernel_rfl
theorem cellsLO : Tryd.prog.cellsOf 45 = 5 := by kernel_rfl
section
variable {H : Type} {enc : TypeId × Value → H}
set_option maxRecDepth 100000 in
theorem open_op {W : World} {base : Nat} {sp : Nat → Bool} {held : Bool} {fuel : Nat} {cs : List Value} {x : DataW H × List MemPlace} (h : DataW.trod enc Tryd.prog W base sp held fuel 45 cs = some x) :
    ∃ q : Rq, cs = rqC q ∧ FitRq q := by
  obtain ⟨y0, y1, y2, y3, y4, k, _, hlen, u0, u1, u2, u3, u4⟩ := trod_struct5 Tryd.underlying45 h
  rw [cellsLO] at hlen
  match cs, hlen with
  | [v0, v1, v2, v3, v4], _ =>
    simp only [cellsStrO, cellsIntO, List.drop, List.take] at u0 u1 u2 u3 u4
    obtain ⟨s0, e0, d0, b0⟩ := DataW.trod_string Tryd.underlying9 u0
    obtain ⟨s1, e1, d1, b1⟩ := DataW.trod_int Tryd.underlying3 u1
    obtain ⟨s2, e2, d2, b2⟩ := DataW.trod_int Tryd.underlying3 u2
    obtain ⟨s3, e3, d3, b3⟩ := DataW.trod_string Tryd.underlying9 u3
    obtain ⟨s4, e4, d4, b4⟩ := DataW.trod_string Tryd.underlying9 u4
    simp only [List.cons.injEq, and_true] at e0 e1 e2 e3 e4
    subst e0; subst e1; subst e2; subst e3; subst e4
    exact ⟨⟨s0, s1, s2, s3, s4⟩, rfl, b0, b3, b4, bounds_i64 b1, bounds_i64 b2⟩
end

/-- Where an operation's size isn't negative, its texts are small. -/
def SmallRq (x : Rq) (l : Int) : Prop := (x.c.size : Int) ≤ l ∧ (x.k.size : Int) ≤ l ∧ (x.v.size : Int) ≤ l
theorem sz_op (x : Rq) (l : Int) (w : World) (hf : FitRq x) (hl : 0 ≤ l ∧ l ≤ 1048576) :
    Calls Tryd.prog 20 #[rqA x, .int .i64 l] w fun e w' => ∃ r : Int, e = .returned (.int .i64 r) ∧ -1 ≤ r ∧ r ≤ l ∧ (0 ≤ r → SmallRq x l) ∧ Below w.heap.size w w' := by
  obtain ⟨hc, hk, hv, _, _⟩ := hf
  unfold maxLen at hc hk hv
  unfold rqA SmallRq
  by_cases h1 : l - (x.c.size : Int) < 0
  · go_enter Tryd.func20, Tryd.ntmps20
    go_wp2
    go_ret
    exact ⟨-1, ret_int rfl, by omega, by omega, fun h => by omega, (Below.refl _ _).alloc (Nat.le_refl _) _⟩
  · by_cases h2 : l - (x.c.size : Int) - (x.k.size : Int) < 0
    · go_enter Tryd.func20, Tryd.ntmps20
      go_wp2
      go_ret
      exact ⟨-1, ret_int rfl, by omega, by omega, fun h => by omega, (Below.refl _ _).alloc (Nat.le_refl _) _⟩
    · by_cases h3 : l - (x.c.size : Int) - (x.k.size : Int) - (x.v.size : Int) < 0
      · go_enter Tryd.func20, Tryd.ntmps20
        go_wp2
        go_ret
        exact ⟨-1, ret_int rfl, by omega, by omega, fun h => by omega, (Below.refl _ _).alloc (Nat.le_refl _) _⟩
      · go_enter Tryd.func20, Tryd.ntmps20
        go_wp2
        go_ret
        exact ⟨l - x.c.size - x.k.size - x.v.size, ret_int rfl, by omega, by omega, fun h => by omega, (Below.refl _ _).alloc (Nat.le_refl _) _⟩
theorem to_op (x : Rq) (w : World) : Calls Tryd.prog 22 #[rqA x] w fun e w' => e = .returned (rqA x) ∧ Below w.heap.size w w' := by
  unfold rqA
  go_enter Tryd.func22, Tryd.ntmps22
  go_wp2
  refine bodyPost_ret (v := .agg #[.string x.c, .int .i64 x.q, .int .i64 x.n, .string x.k, .string x.v]) (by simp [results, Tryd.results22, go_sem]) rfl ⟨rfl, ?_⟩
  exact (((Below.refl _ _).alloc (Nat.le_refl _) _).alloc (by simp) _).alloc (by simp; omega) _
end Go.Proofs.YtclcaflkopnbpaaDoor
