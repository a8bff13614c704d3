/- A state copied by the exact laws: rows of its own. Condition: none. -/
import Derived.Test.YtkoohmibdaomkaaTo
namespace Go.Proofs.Ytkoohmibdaomkaa
open Go.RowKit
set_option linter.unusedVariables false

set_option maxHeartbeats 2000000 in
theorem to_state (s : St) (v : Value) (B : Nat) (w : World) (hr : RawS w B v s) (hB : B ≤ w.heap.size) (hs : Small s 1048576) :
    Calls Try.prog 40 #[v] w fun e w' => ∃ v', e = .returned v' ∧ OwnS w' w.heap.size v' s ∧ Below w.heap.size w w' := by
  obtain ⟨vi, vt, rfl, hri, hrt, hfi, hft⟩ := hr
  obtain ⟨W, hW⟩ : ∃ W, W = ((w.alloc (.cells #[vi, vt] 53)).alloc (.cells #[.slice none 0 0, .slice none 0 0] 27)).alloc (.cells #[.slice none 0 0, .slice none 0 0] 27) := ⟨_, rfl⟩
  have hbW : Below w.heap.size w W := by rw [hW]; exact (((Below.refl _ _).alloc (Nat.le_refl _) _).alloc (by simp) _).alloc (by simp; omega) _
  have hWs : W.heap.size = w.heap.size + 3 := by rw [hW]; simp
  have k0 : W.heap[w.heap.size]? = some (.cells #[vi, vt] 53 (0, 0)) := by
    rw [hW, Below.heap_alloc _ _ _ (by simp; omega), Below.heap_alloc _ _ _ (by simp)]; exact heap_new _ _
  have k1 : W.heap[w.heap.size + 1]? = some (.cells #[.slice none 0 0, .slice none 0 0] 27 (0, 0)) := by
    rw [hW, Below.heap_alloc _ _ _ (by simp)]; simpa using heap_new (w.alloc (.cells #[vi, vt] 53)) (.cells #[.slice none 0 0, .slice none 0 0] 27)
  have k2 : W.heap[w.heap.size + 1 + 1]? = some (.cells #[.slice none 0 0, .slice none 0 0] 27 (0, 0)) := by
    rw [hW]; simpa using heap_new ((w.alloc (.cells #[vi, vt] 53)).alloc (.cells #[.slice none 0 0, .slice none 0 0] 27)) (.cells #[.slice none 0 0, .slice none 0 0] 27)
  have hc0 := to_items s.items vi B W (hri.later (hbW.mono hB) (Nat.le_refl _)) (Nat.le_trans hB hbW.size) (by have := hs.1; omega)
  rw [hW] at hc0
  have Hs := Lib.hid hs
  have Hrt := Lib.hid hrt
  clear hri hrt hs hfi hft
  go_enter Try.func40, Try.ntmps40
  go_wp2_with (go_at_call 77; refine hc0.mono ?_; rintro e w1 ⟨v1, rfl, ho1, ⟨g, rfl⟩, hb1⟩; refine Hid.out ?_)
  refine Lib.hid ?_
  rw [← hW] at hb1 ho1
  have j0 := (hb1.block _ (show w.heap.size < W.heap.size by omega)).trans k0
  have j1 := (hb1.block _ (show w.heap.size + 1 < W.heap.size by omega)).trans k1
  have j2 := (hb1.block _ (show w.heap.size + 1 + 1 < W.heap.size by omega)).trans k2
  have hgb := ho1.lt g rfl
  have a0 := cell_of_row w1 _ 1 _ _ _ j0
  have b0 := cell_of_row w1 _ 0 _ _ _ j2
  have b1 := frozen_of_row w1 _ 0 _ _ j2
  simp only [List.getElem?_toArray, List.getElem?_cons_zero, List.getElem?_cons_succ] at a0 b0
  have hset := setCell_eq_setRow w1 (w.heap.size + 1 + 1) 0 #[.slice none 0 0, .slice none 0 0] 27 (0, 0) (Value.slice (some ⟨g, 0, none⟩) s.items.length s.items.length) j2
  have hbs := (hbW.trans (hb1.mono hbW.size)).setCell (p := ⟨w.heap.size + 1 + 1, 0, none⟩) (show w.heap.size ≤ w.heap.size + 1 + 1 by omega) (Value.slice (some ⟨g, 0, none⟩) s.items.length s.items.length)
  obtain ⟨w2, hw2⟩ : ∃ w2, w2 = w1.setCell ⟨w.heap.size + 1 + 1, 0, none⟩ (Value.slice (some ⟨g, 0, none⟩) s.items.length s.items.length) := ⟨_, rfl⟩
  have hw2s : w2.heap.size = w1.heap.size := by rw [hw2]; simp
  have hc1 := to_talks s.talks vt B w2 (Hrt.out.later (hw2 ▸ hbs.mono hB) (Nat.le_refl _)) (Nat.le_trans hB (hw2 ▸ hbs).size) (by have := Hs.out.2.2.1; omega)
  rw [hw2] at hc1
  have Hset := Lib.hid hset
  have Hbs := Lib.hid hbs
  have Ho1 := Lib.hid ho1
  have Hgb := Lib.hid hgb
  have Hj1 := Lib.hid j1
  have Hj2 := Lib.hid j2
  clear hset hbs ho1 hgb j0 j1 j2 k0 k1 k2 hc0 hW
  go_wp2_with (go_at_call 78; refine hc1.mono ?_; rintro e w3 ⟨v3, rfl, ho3, ⟨h, rfl⟩, hb3⟩; refine Hid.out ?_)
  refine Lib.hid ?_
  have e1 : w3.heap[w.heap.size + 1]? = some (.cells #[.slice none 0 0, .slice none 0 0] 27 (0, 0)) := by
    rw [hb3.block _ (by rw [World.size_setCell]; have := Hgb.out; have := hb1.size; omega), Below.heap_setCell _ _ _ _ (by simp)]; exact Hj1.out
  have e2 : w3.heap[w.heap.size + 1 + 1]? = some (.cells #[(Value.slice (some ⟨g, 0, none⟩) s.items.length s.items.length), .slice none 0 0] 27 (0, 0)) := by
    rw [hb3.block _ (by rw [World.size_setCell]; have := hb1.size; omega), Hset.out]
    exact setRow_heap w1 _ _ _ _ _ Hj2.out
  have c0 := cell_of_row w3 _ 0 _ _ _ e2
  have c1 := cell_of_row w3 _ 1 _ _ _ e2
  have c2 := cell_of_row w3 _ 0 _ _ _ e1
  have c3 := cell_of_row w3 _ 1 _ _ _ e1
  have z1 := frozen_of_row w3 _ 1 _ _ e2
  have z2 := frozen_of_row w3 _ 0 _ _ e1
  have z3 := frozen_of_row w3 _ 1 _ _ e1
  simp only [List.getElem?_toArray, List.getElem?_cons_zero, List.getElem?_cons_succ] at c0 c1 c2 c3
  have He1 := Lib.hid e1
  have He2 := Lib.hid e2
  have Ho3 := Lib.hid ho3
  have Hb3 := Lib.hid hb3
  clear e1 e2 ho3 hb3 hw2 hw2s hc1
  go_wp2_with fail
  have hp2 : w.heap.size + 1 + 1 < W.heap.size := by omega
  have hgb := Hgb.out
  have hh := Ho3.out.lt h rfl
  rw [World.size_setCell] at hh
  have hgh : g ≠ h := by omega
  have f1 : (w3.setCell ⟨w.heap.size + 1 + 1, 1, none⟩ (Value.slice (some ⟨h, 0, none⟩) s.talks.length s.talks.length)).heap[w.heap.size + 1]? = some (.cells #[.slice none 0 0, .slice none 0 0] 27 (0, 0)) := by
    rw [Below.heap_setCell _ _ _ _ (by simp)]; exact He1.out
  have f2 := heap_setCell_same _ (w.heap.size + 1) 0 _ _ (Value.slice (some ⟨g, 0, none⟩) s.items.length s.items.length) f1
  have f3 := heap_setCell_same _ (w.heap.size + 1) 1 _ _ (Value.slice (some ⟨h, 0, none⟩) s.talks.length s.talks.length) f2
  have hsz := info_parts infoSt
  obtain ⟨i0, q1, q2, q3, q4⟩ := hsz
  refine bodyPost_ret (results_cell_row (P := Try.prog) rfl _ _ (w.heap.size + 1) _ _ (0, 0) _ rfl f3 Try.underlying27 rfl (by rw [q1]; simp [q3])) rfl ⟨_, rfl, ⟨g, h, rfl, hgh, ?_, ?_⟩, ?_⟩
  · have o1 := Ho1.out.kept (grown_set w1 ⟨w.heap.size + 1 + 1, 0, none⟩ (Value.slice (some ⟨g, 0, none⟩) s.items.length s.items.length)) (Or.inr (by simp [Value.ownBlock]; omega))
    have o2 := owns_later o1 Hb3.out
    have o3 := o2.kept (grown_set w3 ⟨w.heap.size + 1 + 1, 1, none⟩ (Value.slice (some ⟨h, 0, none⟩) s.talks.length s.talks.length)) (Or.inr (by simp [Value.ownBlock]; omega))
    have o4 := o3.kept (grown_set _ ⟨w.heap.size + 1, 0, none⟩ (Value.slice (some ⟨g, 0, none⟩) s.items.length s.items.length)) (Or.inr (by simp [Value.ownBlock]; omega))
    have o5 := o4.kept (grown_set _ ⟨w.heap.size + 1, 1, none⟩ (Value.slice (some ⟨h, 0, none⟩) s.talks.length s.talks.length)) (Or.inr (by simp [Value.ownBlock]; omega))
    exact owns_base o5 (by omega)
  · have o3 := Ho3.out.kept (grown_set w3 ⟨w.heap.size + 1 + 1, 1, none⟩ (Value.slice (some ⟨h, 0, none⟩) s.talks.length s.talks.length)) (Or.inr (by simp [Value.ownBlock]; have := hb1.size; omega))
    have o4 := o3.kept (grown_set _ ⟨w.heap.size + 1, 0, none⟩ (Value.slice (some ⟨g, 0, none⟩) s.items.length s.items.length)) (Or.inr (by simp [Value.ownBlock]; have := hb1.size; omega))
    have o5 := o4.kept (grown_set _ ⟨w.heap.size + 1, 1, none⟩ (Value.slice (some ⟨h, 0, none⟩) s.talks.length s.talks.length)) (Or.inr (by simp [Value.ownBlock]; have := hb1.size; omega))
    exact owns_base o5 (by have := Hbs.out.size; exact this)
  · exact (((Hbs.out.trans (Hb3.out.mono Hbs.out.size)).setCell (p := ⟨w.heap.size + 1 + 1, 1, none⟩) (by simp; omega) _).setCell (p := ⟨w.heap.size + 1, 0, none⟩) (by simp) _).setCell (p := ⟨w.heap.size + 1, 1, none⟩) (by simp) _
end Go.Proofs.Ytkoohmibdaomkaa
