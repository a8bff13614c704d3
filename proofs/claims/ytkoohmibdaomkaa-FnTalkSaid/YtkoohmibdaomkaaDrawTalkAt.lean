/- Drawn states with an item, a talk, a text: TalkAt. Condition: a code of at most 2^20 bytes. -/
import Derived.Test.YtkoohmibdaomkaaDrawPlain
namespace Go.Proofs.Ytkoohmibdaomkaa
open Go.RowKit
set_option linter.unusedVariables false
set_option linter.unusedSimpArgs false

set_option maxRecDepth 100000 in
set_option maxHeartbeats 8000000 in
theorem drawTalkAt_any (a : Option Addr) (len cap : Nat) (zs : List Int) (w : World) (hr : Row8 w w.heap.size a len cap zs) (hl : len ≤ 1048576) :
    Calls Try.prog 31 #[.slice a len cap] w (DrawnTx w) := by
  obtain ⟨W, hW⟩ : ∃ W, W = w.alloc (.cells #[.slice none 0 0, .slice none 0 0] 27) := ⟨_, rfl⟩
  have hbW : Below w.heap.size w W := by rw [hW]; exact (Below.refl _ _).alloc (Nat.le_refl _) _
  have hWs : W.heap.size = w.heap.size + 1 := by rw [hW]; simp
  have kr : W.heap[w.heap.size]? = some (.cells #[.slice none 0 0, .slice none 0 0] 27 (0, 0)) := by rw [hW]; exact heap_new _ _
  have HRX : Hid (∀ z, Below W.heap.size W z → z.heap[w.heap.size]? = some (.cells #[.slice none 0 0, .slice none 0 0] 27 (0, 0))) := Lib.hid (fun z h => (h.block _ (by omega)).trans kr)
  have hc0 := new_any a len cap zs W (hr.later hbW) hl
  rw [hW] at hc0
  have HbW := Lib.hid hbW
  go_enter Try.func31, Try.ntmps31
  go_wp2_with (go_at_call 48; refine hc0.mono ?_; rintro e w1 ⟨rfl, cu, hb⟩; refine Hid.out ?_)
  refine Lib.hid ?_
  rw [← hW] at cu hb
  rw [hWs] at cu
  have LB1 : Hid (W.heap.size < w1.heap.size) := Lib.hid (by have := cu.lt; omega)
  have BW : Hid (Below W.heap.size W w1) := Lib.hid hb
  have HWs := Lib.hid hWs
  have hc1 := odd_any _ _ w1 cu
  clear hc0 hb kr hr hbW hWs hW cu
  go_wp2_with (go_at_call 49; refine hc1.mono ?_; rintro e w2 ⟨v, s, rfl, ho, hsm, cu, gr⟩; refine Hid.out ?_)
  refine Lib.hid ?_
  have OS := Lib.hid ho
  obtain ⟨_, _, gi, ci, gt, ct, rfl, _, ⟨ai, rfl, _⟩, ⟨at_, rfl, _⟩, _, _⟩ := ho
  replace BW := Lib.hid (BW.out.trans (below_other gr (by have := HWs.out; omega) BW.out.size))
  have NS : Hid (w1.heap.size ≤ w2.heap.size) := Lib.hid gr.size
  have CU := Lib.hid cu
  clear hc1 gr cu
  have HNR : Hid (w.heap.size ≠ w2.heap.size) := Lib.hid (by have := HWs.out; have := LB1.out; have := NS.out; omega)
  have HNX : Hid (w.heap.size + 1 ≠ w2.heap.size) := Lib.hid (by have := HWs.out; have := LB1.out; have := NS.out; omega)
  obtain ⟨X2, hX2⟩ : ∃ x, x = w2.alloc (.cells #[.slice ai s.items.length ci, .slice at_ s.talks.length ct] 27) := ⟨_, rfl⟩
  have bX : Below w2.heap.size w2 X2 := by rw [hX2]; exact (Below.refl _ _).alloc (Nat.le_refl _) _
  have sX : X2.heap.size = w2.heap.size + 1 := by rw [hX2]; simp
  have KS : Hid (X2.heap[w2.heap.size]? = some (.cells #[.slice ai s.items.length ci, .slice at_ s.talks.length ct] 27 (0, 0))) := Lib.hid (by rw [hX2]; exact heap_new _ _)
  have LS : Hid (w2.heap.size < X2.heap.size) := Lib.hid (by omega)
  replace OS := Lib.hid (OS.out.later bX)
  replace BW := Lib.hid (BW.out.trans (bX.mono BW.out.size))
  replace CU := Lib.hid (CU.out.kept (bX.mono (by have := CU.out.le; have := CU.out.lt; omega)) (bX.block _ CU.out.lt))
  clear bX sX
  go_wp2_with fail
  rw [← hX2]
  clear hX2
  refine wp_region_held_drew (S := (fun w' => w'.cell? ⟨w2.heap.size, 0, none⟩ = some (.slice ai s.items.length ci) ∧ w'.cell? ⟨w2.heap.size, 1, none⟩ = some (.slice at_ s.talks.length ct))) (by kernel_rfl) ⟨by simpa using cell_of_row X2 _ 0 _ _ _ KS.out, by simpa using cell_of_row X2 _ 1 _ _ _ KS.out⟩ (fun hHeld => ?_)
  refine wpAnyH_take (i := 0) (v := ?_) rfl (by kernel_rfl) (by kernel_rfl) (by kernel_rfl) (fun _ _ _ h => h) ?_ (by assumption) ?_
  rotate_left
  · first | (refine Or.inl ⟨by rfl, ?_⟩; intro w hSw; obtain ⟨hS0, hS1⟩ := hSw; go_simp; done) | (refine Or.inl ⟨by rfl, ?_⟩; intro w hSw; obtain ⟨hS0, hS1⟩ := hSw; go_simp; with_reducible rfl)
  try simp only [List.getElem_toArray, List.getElem_cons_zero, Act.put, List.setIfInBounds_toArray, List.set_cons_zero, List.set_cons_succ]
  refine wpAnyH_take (i := 1) (v := ?_) rfl (by kernel_rfl) (by kernel_rfl) (by kernel_rfl) (fun _ _ _ h => h) ?_ (by assumption) ?_
  rotate_left
  · first | (refine Or.inl ⟨by rfl, ?_⟩; intro w hSw; go_simp; done) | (refine Or.inl ⟨by rfl, ?_⟩; intro w hSw; go_simp; with_reducible rfl)
  try simp only [List.getElem_toArray, List.getElem_cons_zero, List.getElem_cons_succ, Act.put, List.setIfInBounds_toArray, List.set_cons_zero, List.set_cons_succ]
  refine wpAnyH_ready (rs := [2]) (by kernel_rfl) (by simp) ?_
  refine AllReadyH.cons rfl (fun K hK => ?_) AllReadyH.nil
  go_simp
  go_at_call 64
  refine (client_any _ _ _ (CU.out.drew)).mono ?_
  rintro e z9 ⟨t, ht, rfl, cu, gr0⟩
  have gr := (grown_drew X2 (some (w.heap.size + 1))).trans gr0
  replace KS := Lib.hid ((gr.block _ LS.out (by simp; have := HWs.out; have := LB1.out; have := NS.out; omega)).trans KS.out)
  replace LS := Lib.hid (Nat.lt_of_lt_of_le LS.out gr.size)
  replace OS := Lib.hid (OS.out.kept gr (by have := HWs.out; have := LB1.out; omega))
  replace BW := Lib.hid (BW.out.trans (below_other gr (by have := HWs.out; omega) BW.out.size))
  replace CU := Lib.hid cu
  clear gr gr0 cu
  go_wp2_with fail
  refine hK.out _ _ ⟨by simpa using cell_of_row z9 _ 0 _ _ _ KS.out, by simpa using cell_of_row z9 _ 1 _ _ _ KS.out⟩ (fun hHeld => ?_)
  clear hK K
  try simp only [List.getElem_toArray, List.getElem_cons_zero, List.getElem_cons_succ, Act.put, List.setIfInBounds_toArray, List.set_cons_zero, List.set_cons_succ]
  have rx := HRX.out z9 BW.out
  have r0 := cell_of_row z9 _ 0 _ _ _ rx
  have r1 := cell_of_row z9 _ 1 _ _ _ rx
  have rf0 := frozen_of_row z9 _ 0 _ _ rx
  have rf1 := frozen_of_row z9 _ 1 _ _ rx
  simp only [List.getElem?_toArray, List.getElem?_cons_zero, List.getElem?_cons_succ] at r0 r1
  refine wpAnyH_ready (rs := [3]) (by kernel_rfl) (by simp) ?_
  refine AllReadyH.cons rfl (fun K hK => ?_) AllReadyH.nil
  go_simp
  refine hK.out _ _ (show _ from ⟨(cell_far (cell_far (show z9.cell? ⟨w2.heap.size, 0, none⟩ = some (.slice ai s.items.length ci) by simpa using cell_of_row z9 _ 0 _ _ _ KS.out) (show w.heap.size ≠ w2.heap.size from HNR.out)) (show w.heap.size ≠ w2.heap.size from HNR.out)), (cell_far (cell_far (show z9.cell? ⟨w2.heap.size, 1, none⟩ = some (.slice at_ s.talks.length ct) by simpa using cell_of_row z9 _ 1 _ _ _ KS.out) (show w.heap.size ≠ w2.heap.size from HNR.out)) (show w.heap.size ≠ w2.heap.size from HNR.out))⟩) (fun hHeld => ?_)
  clear hK K
  try simp only [List.getElem_toArray, List.getElem_cons_zero, List.getElem_cons_succ, Act.put, List.setIfInBounds_toArray, List.set_cons_zero, List.set_cons_succ]
  refine wpAnyH_take (i := 4) (v := ?_) rfl (by kernel_rfl) (by kernel_rfl) (by kernel_rfl) (fun _ _ _ h => h) ?_ (by assumption) ?_
  rotate_left
  · first | (refine Or.inl ⟨by rfl, ?_⟩; intro w hSw; go_simp; done) | (refine Or.inl ⟨by rfl, ?_⟩; intro w hSw; go_simp; with_reducible rfl)
  try simp only [List.getElem_toArray, List.getElem_cons_zero, List.getElem_cons_succ, Act.put, List.setIfInBounds_toArray, List.set_cons_zero, List.set_cons_succ]
  refine wpAnyH_done (by kernel_rfl) ?_ _
  clear hHeld r0 r1 rf0 rf1 rx
  go_wp2_with fail
  have rx := HRX.out z9 BW.out
  have y1 := heap_setCell_same _ w.heap.size 0 _ _ (.slice ai s.items.length ci) rx
  have y2 := heap_setCell_same _ w.heap.size 1 _ _ (.slice at_ s.talks.length ct) y1
  obtain ⟨j0, q1, q2, q3, q4⟩ := info_parts infoSt
  refine bodyPost_ret (results_cell_row2 (P := Try.prog) rfl _ _ (w.heap.size) _ _ (0, 0) _ _ rfl rfl y2 Try.underlying27 rfl (by rw [q1]; simp [q3])) rfl ⟨_, s, t, rfl, ?_, hsm, (by show t.size ≤ 64; omega), ?_⟩
  · exact ((OS.out.kept (grown_set _ ⟨w.heap.size, 0, none⟩ _) (by have := LB1.out; have := HWs.out; show w.heap.size < _; omega)).kept (grown_set _ ⟨w.heap.size, 1, none⟩ _) (by have := LB1.out; have := HWs.out; show w.heap.size < _; omega)).st
  · exact ((HbW.out.trans (BW.out.mono HbW.out.size)).setCell (p := ⟨w.heap.size, 0, none⟩) (Nat.le_refl _) _).setCell (p := ⟨w.heap.size, 1, none⟩) (Nat.le_refl _) _
end Go.Proofs.Ytkoohmibdaomkaa
