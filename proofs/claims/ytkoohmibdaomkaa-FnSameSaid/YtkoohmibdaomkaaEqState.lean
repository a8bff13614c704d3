/- What laws.eqState answers where both states hold the same: true. Condition: none. -/
import Derived.Test.YtkoohmibdaomkaaEq
namespace Go.Proofs.Ytkoohmibdaomkaa
open Go.RowKit
set_option linter.unusedVariables false

set_option maxHeartbeats 2000000 in
theorem eq_state (s : St) (va vb : Value) (B : Nat) (w : World) (ha : Rd w B va s) (hb : Rd w B vb s) (hB : B ≤ w.heap.size) :
    Calls Try.prog 41 #[va, vb] w fun e w' => e = .returned (.bool true) ∧ Below w.heap.size w w' := by
  obtain ⟨ai, at_, rfl, hai, hat⟩ := ha
  obtain ⟨bi, bt, rfl, hbi, hbt⟩ := hb
  obtain ⟨W, hW⟩ : ∃ W, W = (w.alloc (.cells #[ai, at_] 27)).alloc (.cells #[bi, bt] 27) := ⟨_, rfl⟩
  have hbW : Below w.heap.size w W := by rw [hW]; exact ((Below.refl _ _).alloc (Nat.le_refl _) _).alloc (by simp) _
  have hWs : W.heap.size = w.heap.size + 2 := by rw [hW]; simp
  have k0 : W.heap[w.heap.size]? = some (.cells #[ai, at_] 27 (0, 0)) := by
    rw [hW, Below.heap_alloc _ _ _ (by simp)]; exact heap_new _ _
  have k1 : W.heap[w.heap.size + 1]? = some (.cells #[bi, bt] 27 (0, 0)) := by
    rw [hW]; simpa using heap_new (w.alloc (.cells #[ai, at_] 27)) (.cells #[bi, bt] 27)
  have hc0 := eq_items s.items ai bi B W (hai.later (hbW.mono hB) (Nat.le_refl _)) (hbi.later (hbW.mono hB) (Nat.le_refl _)) (Nat.le_trans hB hbW.size)
  rw [hW] at hc0
  have Hat := Lib.hid hat
  have Hbt := Lib.hid hbt
  clear hai hbi hat hbt
  go_enter Try.func41, Try.ntmps41
  go_wp2_with (go_at_call 79; refine hc0.mono ?_; rintro e w1 ⟨rfl, hb1⟩; refine Hid.out ?_)
  refine Lib.hid ?_
  rw [← hW] at hb1
  have j0 := (hb1.block _ (show w.heap.size < W.heap.size by omega)).trans k0
  have j1 := (hb1.block _ (show w.heap.size + 1 < W.heap.size by omega)).trans k1
  have a1 := cell_of_row w1 _ 1 _ _ _ j0
  have b1 := cell_of_row w1 _ 1 _ _ _ j1
  simp only [List.getElem?_toArray, List.getElem?_cons_zero, List.getElem?_cons_succ] at a1 b1
  have hb2 := hbW.trans (hb1.mono hbW.size)
  have hc1 := eq_talks s.talks at_ bt B w1 (Hat.out.later (hb2.mono hB) (Nat.le_refl _)) (Hbt.out.later (hb2.mono hB) (Nat.le_refl _)) (Nat.le_trans hB hb2.size)
  have Hb2 := Lib.hid hb2
  clear hc0 hW k0 k1 j0 j1 hb1 hb2 hbW
  go_wp2_with (go_at_call 80; refine hc1.mono ?_; rintro e w2 ⟨rfl, hb3⟩)
  go_ret
  exact ⟨rfl, Hb2.out.trans (hb3.mono Hb2.out.size)⟩
end Go.Proofs.Ytkoohmibdaomkaa
