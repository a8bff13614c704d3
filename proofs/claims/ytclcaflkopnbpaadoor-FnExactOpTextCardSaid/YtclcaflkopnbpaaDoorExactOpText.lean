/- The exact law of OpText: the program answers as its model. Condition: the table of kinds' words and the table of powers of ten read as their initialisers lay them. -/
import Derived.Test.YtclcaflkopnbpaaDoorLawOp
import Derived.Test.YtclcaflkopnbpaaDoorImplOpText
namespace Go.Proofs.YtclcaflkopnbpaaDoor
open Go.RowKit
set_option linter.unusedVariables false

set_option maxHeartbeats 4000000 in
theorem law_opText (x : Rq) (w : World) (hf : FitRq x) (hdo : Doors w) :
    Calls Tryd.prog 5 #[rqA x] w fun e w' => e = .returned (.bool true) ∧ Below w.heap.size w w' := by
  obtain ⟨W, hW⟩ : ∃ W, W = w.alloc (.cells #[.string x.c, .int .i64 x.q, .int .i64 x.n, .string x.k, .string x.v] 45) := ⟨_, rfl⟩
  have hbW : Below w.heap.size w W := by rw [hW]; exact (Below.refl _ _).alloc (Nat.le_refl _) _
  have hWs : W.heap.size = w.heap.size + 1 := by rw [hW]; simp
  have c0 := sz_op x 1048576 W hf (by omega)
  have c1 := fun w => to_op x w
  have c2 := fun w => spec_opText x w hf
  have c3 := Lib.hid (fun w h => impl_opText x w hf h)
  have HDo := Lib.hid hdo
  clear hdo
  unfold rqA at c0 c1 c2 c3 ⊢
  rw [hW] at c0
  have HC : Hid (∀ w', Below W.heap.size W w' → w'.cell? ⟨w.heap.size, 0, none⟩ = some (.string x.c) ∧ w'.cell? ⟨w.heap.size, 1, none⟩ = some (.int .i64 x.q) ∧ w'.cell? ⟨w.heap.size, 2, none⟩ = some (.int .i64 x.n) ∧ w'.cell? ⟨w.heap.size, 3, none⟩ = some (.string x.k) ∧ w'.cell? ⟨w.heap.size, 4, none⟩ = some (.string x.v)) := Lib.hid (fun w' h => by
    rw [h.cell (show w.heap.size < W.heap.size by omega), h.cell (show w.heap.size < W.heap.size by omega), h.cell (show w.heap.size < W.heap.size by omega), h.cell (show w.heap.size < W.heap.size by omega), h.cell (show w.heap.size < W.heap.size by omega), hW, World.cell?_alloc_new, World.cell?_alloc_new, World.cell?_alloc_new, World.cell?_alloc_new, World.cell?_alloc_new]
    exact ⟨rfl, rfl, rfl, rfl, rfl⟩)
  go_enter Tryd.func5, Tryd.ntmps5
  go_wp2_with (go_at_call 20; refine c0.mono ?_; rintro e w1 ⟨r, rfl, hr0, hr1, hr2, hb1⟩; refine Hid.out ?_)
  refine Lib.hid ?_
  rw [← hW] at hb1
  have hB1 := hbW.trans (hb1.mono hbW.size)
  obtain ⟨f0, f1, f2, f3, f4⟩ := HC.out w1 hb1
  have HB1 := Lib.hid hb1
  clear c0 hW hb1 hr2
  by_cases hneg : r < 0
  · go_wp2_with fail
    go_ret
    exact ⟨rfl, hB1⟩
  · go_wp2_with (go_at_call 22; refine (c1 _).mono ?_; rintro e w2 ⟨rfl, hb2⟩; refine Hid.out ?_)
    refine Lib.hid ?_
    clear f0 f1 f2 f3 f4
    go_wp2_with (go_at_call 21; refine (c2 _).mono ?_; rintro e w3 ⟨rfl, hb3⟩; refine Hid.out ?_)
    refine Lib.hid ?_
    have hb23 := hb2.trans (hb3.mono hb2.size)
    obtain ⟨f0, f1, f2, f3, f4⟩ := HC.out w3 (HB1.out.trans (hb23.mono HB1.out.size))
    clear hb2 hb3
    go_wp2_with (go_at_call 22; refine (c1 _).mono ?_; rintro e w4 ⟨rfl, hb4⟩; refine Hid.out ?_)
    refine Lib.hid ?_
    clear f0 f1 f2 f3 f4
    have HD4 := Lib.hid (HDo.out.later (hB1.trans ((hb23.trans (hb4.mono hb23.size)).mono hB1.size)))
    go_wp2_with (go_at_call 23; refine (c3.out _ HD4.out).mono ?_; rintro e w5 ⟨rfl, hb5⟩; refine Hid.out ?_)
    refine Lib.hid ?_
    have hb25 := hb23.trans ((hb4.trans (hb5.mono hb4.size)).mono hb23.size)
    have hB5 := hB1.trans (hb25.mono hB1.size)
    clear hb23 hb4 hb5 hb25
    go_wp2_with fail
    go_ret
    exact ⟨rfl, hB5⟩
end Go.Proofs.YtclcaflkopnbpaaDoor
