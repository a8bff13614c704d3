/- An operation that came in (a law's own type), opened; its size; its copy; the exact law of OpOk. Condition: none. -/
import Derived.Test.YtclcaflkopnbpaaOp
import Derived.Test.YtclcaflkopnbpaaRows
import Derived.ProofKit
import Derived.Deep.Slices
import Derived.Deep.Strs
import Derived.OpenShut
namespace Go.Proofs.Ytclcaflkopnbpaa
open Go.RowKit Go.Deep Go.ChangeShapes Go.WideShapes
set_option linter.unusedVariables false

section
variable {H : Type} {P : Program} {w : World} {base : Nat} {spare : Nat → Bool} {held : Bool} {enc : TypeId × Value → H}
theorem trod_struct5 {t : TypeId} {f0 f1 f2 f3 f4 : Field} {fuel : Nat} {cs : List Value} {x : DataW H × List MemPlace} (ht : P.underlying t = some (.struct #[f0, f1, f2, f3, f4])) (h : DataW.trod enc P w base spare held fuel t cs = some x) :
    ∃ y0 y1 y2 y3 y4 n, x = (.agg [y0.1, y1.1, y2.1, y3.1, y4.1], y0.2 ++ (y1.2 ++ (y2.2 ++ (y3.2 ++ y4.2)))) ∧ cs.length = P.cellsOf t ∧ DataW.trod enc P w base spare held n f0.type ((cs.drop f0.offset).take (P.cellsOf f0.type)) = some y0 ∧
      DataW.trod enc P w base spare held n f1.type ((cs.drop f1.offset).take (P.cellsOf f1.type)) = some y1 ∧ DataW.trod enc P w base spare held n f2.type ((cs.drop f2.offset).take (P.cellsOf f2.type)) = some y2 ∧
      DataW.trod enc P w base spare held n f3.type ((cs.drop f3.offset).take (P.cellsOf f3.type)) = some y3 ∧ DataW.trod enc P w base spare held n f4.type ((cs.drop f4.offset).take (P.cellsOf f4.type)) = some y4 := by
  obtain ⟨xs, n, _, rfl, hl, hlen, hf⟩ := DataW.trod_struct ht h
  match xs, hlen with
  | [y0, y1, y2, y3, y4], _ => exact ⟨y0, y1, y2, y3, y4, n, by simp, hl, by simpa using hf 0 f0 rfl, by simpa using hf 1 f1 rfl, by simpa using hf 2 f2 rfl, by simpa using hf 3 f3 rfl, by simpa using hf 4 f4 rfl⟩
end
theorem cellsStrO : Try.prog.cellsOf 9 = 1 := by kernel_rfl
theorem cellsIntO : Try.prog.cellsOf 3 = 1 := by kernel_rfl
theorem cellsLO : Try.prog.cellsOf 23 = 5 := by kernel_rfl
section
variable {H : Type} {enc : TypeId × Value → H}
set_option maxRecDepth 100000 in
theorem open_op {W : World} {base : Nat} {sp : Nat → Bool} {held : Bool} {fuel : Nat} {cs : List Value} {x : DataW H × List MemPlace} (h : DataW.trod enc Try.prog W base sp held fuel 23 cs = some x) :
    ∃ q : Rq, cs = rqC q ∧ FitRq q := by
  obtain ⟨y0, y1, y2, y3, y4, k, _, hlen, u0, u1, u2, u3, u4⟩ := trod_struct5 Try.underlying23 h
  rw [cellsLO] at hlen
  match cs, hlen with
  | [v0, v1, v2, v3, v4], _ =>
    simp only [cellsStrO, cellsIntO, List.drop, List.take] at u0 u1 u2 u3 u4
    obtain ⟨s0, e0, d0, b0⟩ := DataW.trod_string Try.underlying9 u0
    obtain ⟨s1, e1, d1, b1⟩ := DataW.trod_int Try.underlying3 u1
    obtain ⟨s2, e2, d2, b2⟩ := DataW.trod_int Try.underlying3 u2
    obtain ⟨s3, e3, d3, b3⟩ := DataW.trod_string Try.underlying9 u3
    obtain ⟨s4, e4, d4, b4⟩ := DataW.trod_string Try.underlying9 u4
    simp only [List.cons.injEq, and_true] at e0 e1 e2 e3 e4
    subst e0; subst e1; subst e2; subst e3; subst e4
    exact ⟨⟨s0, s1, s2, s3, s4⟩, rfl, b0, b3, b4, bounds_i64 b1, bounds_i64 b2⟩
end

/-- Where an operation's size isn't negative, its texts are small. -/
def SmallRq (x : Rq) (l : Int) : Prop := (x.c.size : Int) ≤ l ∧ (x.k.size : Int) ≤ l ∧ (x.v.size : Int) ≤ l
theorem sz_op (x : Rq) (l : Int) (w : World) (hf : FitRq x) (hl : 0 ≤ l ∧ l ≤ 1048576) :
    Calls Try.prog 4 #[rqA x, .int .i64 l] w fun e w' => ∃ r : Int, e = .returned (.int .i64 r) ∧ -1 ≤ r ∧ r ≤ l ∧ (0 ≤ r → SmallRq x l) ∧ Below w.heap.size w w' := by
  obtain ⟨hc, hk, hv, _, _⟩ := hf
  unfold maxLen at hc hk hv
  unfold rqA SmallRq
  by_cases h1 : l - (x.c.size : Int) < 0
  · go_enter Try.func4, Try.ntmps4
    go_wp2
    go_ret
    exact ⟨-1, ret_int rfl, by omega, by omega, fun h => by omega, (Below.refl _ _).alloc (Nat.le_refl _) _⟩
  · by_cases h2 : l - (x.c.size : Int) - (x.k.size : Int) < 0
    · go_enter Try.func4, Try.ntmps4
      go_wp2
      go_ret
      exact ⟨-1, ret_int rfl, by omega, by omega, fun h => by omega, (Below.refl _ _).alloc (Nat.le_refl _) _⟩
    · by_cases h3 : l - (x.c.size : Int) - (x.k.size : Int) - (x.v.size : Int) < 0
      · go_enter Try.func4, Try.ntmps4
        go_wp2
        go_ret
        exact ⟨-1, ret_int rfl, by omega, by omega, fun h => by omega, (Below.refl _ _).alloc (Nat.le_refl _) _⟩
      · go_enter Try.func4, Try.ntmps4
        go_wp2
        go_ret
        exact ⟨l - x.c.size - x.k.size - x.v.size, ret_int rfl, by omega, by omega, fun h => by omega, (Below.refl _ _).alloc (Nat.le_refl _) _⟩
theorem to_op (x : Rq) (w : World) : Calls Try.prog 6 #[rqA x] w fun e w' => e = .returned (rqA x) ∧ Below w.heap.size w w' := by
  unfold rqA
  go_enter Try.func6, Try.ntmps6
  go_wp2
  refine bodyPost_ret (v := .agg #[.string x.c, .int .i64 x.q, .int .i64 x.n, .string x.k, .string x.v]) (by simp [results, Try.results6, go_sem]) rfl ⟨rfl, ?_⟩
  exact (((Below.refl _ _).alloc (Nat.le_refl _) _).alloc (by simp) _).alloc (by simp; omega) _
set_option maxHeartbeats 4000000 in
theorem law_opOk (x : Rq) (w : World) (hf : FitRq x) :
    Calls Try.prog 3 #[rqA x] w fun e w' => e = .returned (.bool true) ∧ Below w.heap.size w w' := by
  obtain ⟨W, hW⟩ : ∃ W, W = w.alloc (.cells #[.string x.c, .int .i64 x.q, .int .i64 x.n, .string x.k, .string x.v] 23) := ⟨_, rfl⟩
  have hbW : Below w.heap.size w W := by rw [hW]; exact (Below.refl _ _).alloc (Nat.le_refl _) _
  have hWs : W.heap.size = w.heap.size + 1 := by rw [hW]; simp
  have c0 := sz_op x 1048576 W hf (by omega)
  have c1 := fun w => to_op x w
  have c2 := fun w => spec_opOk x w hf
  have c3 := fun w => impl_opOk x w hf
  unfold rqA at *
  rw [hW] at c0
  have HC : Hid (∀ w', Below W.heap.size W w' → w'.cell? ⟨w.heap.size, 0, none⟩ = some (.string x.c) ∧ w'.cell? ⟨w.heap.size, 1, none⟩ = some (.int .i64 x.q) ∧ w'.cell? ⟨w.heap.size, 2, none⟩ = some (.int .i64 x.n) ∧ w'.cell? ⟨w.heap.size, 3, none⟩ = some (.string x.k) ∧ w'.cell? ⟨w.heap.size, 4, none⟩ = some (.string x.v)) := Lib.hid (fun w' h => by
    rw [h.cell (show w.heap.size < W.heap.size by omega), h.cell (show w.heap.size < W.heap.size by omega), h.cell (show w.heap.size < W.heap.size by omega), h.cell (show w.heap.size < W.heap.size by omega), h.cell (show w.heap.size < W.heap.size by omega), hW, World.cell?_alloc_new, World.cell?_alloc_new, World.cell?_alloc_new, World.cell?_alloc_new, World.cell?_alloc_new]
    exact ⟨rfl, rfl, rfl, rfl, rfl⟩)
  go_enter Try.func3, Try.ntmps3
  go_wp2_with (go_at_call 4; refine c0.mono ?_; rintro e w1 ⟨r, rfl, hr0, hr1, hr2, hb1⟩; refine Hid.out ?_)
  refine Lib.hid ?_
  rw [← hW] at hb1
  have hB1 := hbW.trans (hb1.mono hbW.size)
  obtain ⟨f0, f1, f2, f3, f4⟩ := HC.out w1 hb1
  have HB1 := Lib.hid hb1
  clear c0 hW hb1 hr2
  by_cases hneg : r < 0
  · go_wp2_with fail
    go_ret
    exact ⟨rfl, hB1⟩
  · go_wp2_with (go_at_call 6; refine (c1 _).mono ?_; rintro e w2 ⟨rfl, hb2⟩; refine Hid.out ?_)
    refine Lib.hid ?_
    clear f0 f1 f2 f3 f4
    go_wp2_with (go_at_call 5; refine (c2 _).mono ?_; rintro e w3 ⟨rfl, hb3⟩; refine Hid.out ?_)
    refine Lib.hid ?_
    have hb23 := hb2.trans (hb3.mono hb2.size)
    obtain ⟨f0, f1, f2, f3, f4⟩ := HC.out w3 (HB1.out.trans (hb23.mono HB1.out.size))
    clear hb2 hb3
    go_wp2_with (go_at_call 6; refine (c1 _).mono ?_; rintro e w4 ⟨rfl, hb4⟩; refine Hid.out ?_)
    refine Lib.hid ?_
    clear f0 f1 f2 f3 f4
    go_wp2_with (go_at_call 7; refine (c3 _).mono ?_; rintro e w5 ⟨rfl, hb5⟩; refine Hid.out ?_)
    refine Lib.hid ?_
    have hb25 := hb23.trans ((hb4.trans (hb5.mono hb4.size)).mono hb23.size)
    have hB5 := hB1.trans (hb25.mono hB1.size)
    clear hb23 hb4 hb5 hb25
    go_wp2_with fail
    go_ret
    exact ⟨rfl, hB5⟩
end Go.Proofs.Ytclcaflkopnbpaa
