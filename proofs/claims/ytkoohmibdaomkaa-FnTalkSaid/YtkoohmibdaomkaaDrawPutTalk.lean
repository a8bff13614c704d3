/- Drawn states with an item, a talk, a text: PutTalk. Condition: a code of at most 2^20 bytes. -/
import Derived.Test.YtkoohmibdaomkaaDrawPlain
namespace Go.Proofs.Ytkoohmibdaomkaa
open Go.RowKit
set_option linter.unusedVariables false
set_option linter.unusedSimpArgs false

set_option maxRecDepth 100000 in
set_option maxHeartbeats 8000000 in
theorem drawPutTalk_any (a : Option Addr) (len cap : Nat) (zs : List Int) (w : World) (hr : Row8 w w.heap.size a len cap zs) (hl : len ≤ 1048576) :
    Calls Try.prog 28 #[.slice a len cap] w (DrawnTk w) := by
  obtain ⟨W, hW⟩ : ∃ W, W = (w.alloc (.cells #[.slice none 0 0, .slice none 0 0] 27)).alloc (.cells #[.string ⟨#[]⟩, .int .i64 0, .string ⟨#[]⟩] 41) := ⟨_, rfl⟩
  have hbW : Below w.heap.size w W := by rw [hW]; exact ((Below.refl _ _).alloc (Nat.le_refl _) _).alloc (by simp) _
  have hWs : W.heap.size = w.heap.size + 2 := by rw [hW]; simp
  have kr : W.heap[w.heap.size]? = some (.cells #[.slice none 0 0, .slice none 0 0] 27 (0, 0)) := by rw [hW, Below.heap_alloc _ _ _ (by simp)]; exact heap_new _ _
  have kx : W.heap[w.heap.size + 1]? = some (.cells #[.string ⟨#[]⟩, .int .i64 0, .string ⟨#[]⟩] 41 (0, 0)) := by rw [hW]; simpa using heap_new (w.alloc (.cells #[.slice none 0 0, .slice none 0 0] 27)) (.cells #[.string ⟨#[]⟩, .int .i64 0, .string ⟨#[]⟩] 41)
  have HRX : Hid (∀ z, Below W.heap.size W z → z.heap[w.heap.size]? = some (.cells #[.slice none 0 0, .slice none 0 0] 27 (0, 0)) ∧ z.heap[w.heap.size + 1]? = some (.cells #[.string ⟨#[]⟩, .int .i64 0, .string ⟨#[]⟩] 41 (0, 0))) := Lib.hid (fun z h => ⟨(h.block _ (by omega)).trans kr, (h.block _ (by omega)).trans kx⟩)
  have hc0 := new_any a len cap zs W (hr.later hbW) hl
  rw [hW] at hc0
  have HbW := Lib.hid hbW
  go_enter Try.func28, Try.ntmps28
  go_wp2_with (go_at_call 48; refine hc0.mono ?_; rintro e w1 ⟨rfl, cu, hb⟩; refine Hid.out ?_)
  refine Lib.hid ?_
  rw [← hW] at cu hb
  rw [hWs] at cu
  have LB1 : Hid (W.heap.size < w1.heap.size) := Lib.hid (by have := cu.lt; omega)
  have BW : Hid (Below W.heap.size W w1) := Lib.hid hb
  have HWs := Lib.hid hWs
  have hc1 := odd_any _ _ w1 cu
  clear hc0 hb kr kx hr hbW hWs hW cu
  go_wp2_with (go_at_call 49; refine hc1.mono ?_; rintro e w2 ⟨v, s, rfl, ho, hsm, cu, gr⟩; refine Hid.out ?_)
  refine Lib.hid ?_
  have OS := Lib.hid ho
  obtain ⟨_, _, gi, ci, gt, ct, rfl, _, ⟨ai, rfl, _⟩, ⟨at_, rfl, _⟩, _, _⟩ := ho
  replace BW := Lib.hid (BW.out.trans (below_other gr (by have := HWs.out; omega) BW.out.size))
  have NS : Hid (w1.heap.size ≤ w2.heap.size) := Lib.hid gr.size
  have CU := Lib.hid cu
  clear hc1 gr cu
  have HNR : Hid (w.heap.size ≠ w2.heap.size) := Lib.hid (by have := HWs.out; have := LB1.out; have := NS.out; omega)
  have HNX : Hid (w.heap.size + 1 ≠ w2.heap.size) := Lib.hid (by have := HWs.out; have := LB1.out; have := NS.out; omega)
  obtain ⟨X2, hX2⟩ : ∃ x, x = w2.alloc (.cells #[.slice ai s.items.length ci, .slice at_ s.talks.length ct] 27) := ⟨_, rfl⟩
  have bX : Below w2.heap.size w2 X2 := by rw [hX2]; exact (Below.refl _ _).alloc (Nat.le_refl _) _
  have sX : X2.heap.size = w2.heap.size + 1 := by rw [hX2]; simp
  have KS : Hid (X2.heap[w2.heap.size]? = some (.cells #[.slice ai s.items.length ci, .slice at_ s.talks.length ct] 27 (0, 0))) := Lib.hid (by rw [hX2]; exact heap_new _ _)
  have LS : Hid (w2.heap.size < X2.heap.size) := Lib.hid (by omega)
  replace OS := Lib.hid (OS.out.later bX)
  replace BW := Lib.hid (BW.out.trans (bX.mono BW.out.size))
  replace CU := Lib.hid (CU.out.kept (bX.mono (by have := CU.out.le; have := CU.out.lt; omega)) (bX.block _ CU.out.lt))
  clear bX sX
  have hc := client_any _ _ X2 CU.out
  rw [hX2] at hc
  go_wp2_with (go_at_call 64; refine hc.mono ?_; rintro e w3 ⟨q, hq, rfl, cu, gr⟩; refine Hid.out ?_)
  refine Lib.hid ?_
  rw [← hX2] at gr
  replace KS := Lib.hid ((gr.block _ LS.out (by simp; have := HWs.out; have := LB1.out; have := NS.out; omega)).trans KS.out)
  replace LS := Lib.hid (Nat.lt_of_lt_of_le LS.out gr.size)
  replace OS := Lib.hid (OS.out.kept gr (by have := HWs.out; have := LB1.out; omega))
  replace BW := Lib.hid (BW.out.trans (below_other gr (by have := HWs.out; omega) BW.out.size))
  replace CU := Lib.hid cu
  clear gr cu hc hX2
  obtain ⟨X3, hX3⟩ : ∃ x, x = w3.alloc (.cells #[.int .i64 1, .int .i64 2, .int .i64 5, .int .i64 0, .int .i64 1000000001] 3) := ⟨_, rfl⟩
  have bX : Below w3.heap.size w3 X3 := by rw [hX3]; exact (Below.refl _ _).alloc (Nat.le_refl _) _
  have sX : X3.heap.size = w3.heap.size + 1 := by rw [hX3]; simp
  have kI : X3.heap[w3.heap.size]? = some (.cells #[.int .i64 1, .int .i64 2, .int .i64 5, .int .i64 0, .int .i64 1000000001] 3 (0, 0)) := by rw [hX3]; exact heap_new _ _
  have NE : w3.heap.size ≠ (w.heap.size + 2) := by have := CU.out.lt; omega
  replace KS := Lib.hid ((bX.block _ LS.out).trans KS.out)
  replace LS := Lib.hid (Nat.lt_of_lt_of_le LS.out bX.size)
  replace OS := Lib.hid (OS.out.later bX)
  replace BW := Lib.hid (BW.out.trans (bX.mono BW.out.size))
  replace CU := Lib.hid (CU.out.kept (bX.mono (by have := CU.out.le; have := CU.out.lt; omega)) (bX.block _ CU.out.lt))
  have hc := pickInt_any I64 w3.heap.size 5 5 (by omega) (by omega) _ _ X3 NE (ints_of_row kI (by decide) _ rfl) CU.out
  rw [hX3] at hc
  clear bX sX kI NE
  go_wp2_with (go_at_call 65; refine hc.mono ?_; rintro e w4 ⟨y, hy, rfl, cu, gr⟩; refine Hid.out ?_)
  refine Lib.hid ?_
  rw [← hX3] at gr
  replace KS := Lib.hid ((gr.block _ LS.out (by simp; have := HWs.out; have := LB1.out; have := NS.out; omega)).trans KS.out)
  replace LS := Lib.hid (Nat.lt_of_lt_of_le LS.out gr.size)
  replace OS := Lib.hid (OS.out.kept gr (by have := HWs.out; have := LB1.out; omega))
  replace BW := Lib.hid (BW.out.trans (below_other gr (by have := HWs.out; omega) BW.out.size))
  replace CU := Lib.hid cu
  clear gr cu hc hX3
  obtain ⟨y', hy', hyb⟩ := hy
  obtain rfl : y = y' := by simpa using hy'
  clear hy'
  go_wp2_with fail
  refine wp_region_held_drew (S := (fun w' => w'.cell? ⟨w2.heap.size, 0, none⟩ = some (.slice ai s.items.length ci) ∧ w'.cell? ⟨w2.heap.size, 1, none⟩ = some (.slice at_ s.talks.length ct))) (by kernel_rfl) ⟨by simpa using cell_of_row w4 _ 0 _ _ _ KS.out, by simpa using cell_of_row w4 _ 1 _ _ _ KS.out⟩ (fun hHeld => ?_)
  refine wpAnyH_take (i := 0) (v := ?_) rfl (by kernel_rfl) (by kernel_rfl) (by kernel_rfl) (fun _ _ _ h => h) ?_ (by assumption) ?_
  rotate_left
  · first | (refine Or.inl ⟨by rfl, ?_⟩; intro w hSw; obtain ⟨hS0, hS1⟩ := hSw; go_simp; done) | (refine Or.inl ⟨by rfl, ?_⟩; intro w hSw; obtain ⟨hS0, hS1⟩ := hSw; go_simp; with_reducible rfl)
  try simp only [List.getElem_toArray, List.getElem_cons_zero, Act.put, List.setIfInBounds_toArray, List.set_cons_zero, List.set_cons_succ]
  refine wpAnyH_take (i := 1) (v := ?_) rfl (by kernel_rfl) (by kernel_rfl) (by kernel_rfl) (fun _ _ _ h => h) ?_ (by assumption) ?_
  rotate_left
  · first | (refine Or.inl ⟨by rfl, ?_⟩; intro w hSw; go_simp; done) | (refine Or.inl ⟨by rfl, ?_⟩; intro w hSw; go_simp; with_reducible rfl)
  try simp only [List.getElem_toArray, List.getElem_cons_zero, List.getElem_cons_succ, Act.put, List.setIfInBounds_toArray, List.set_cons_zero, List.set_cons_succ]
  refine wpAnyH_take (i := 2) (v := ?_) rfl (by kernel_rfl) (by kernel_rfl) (by kernel_rfl) (fun _ _ _ h => h) ?_ (by assumption) ?_
  rotate_left
  · first | (refine Or.inl ⟨by rfl, ?_⟩; intro w hSw; go_simp; done) | (refine Or.inl ⟨by rfl, ?_⟩; intro w hSw; go_simp; with_reducible rfl)
  try simp only [List.getElem_toArray, List.getElem_cons_zero, List.getElem_cons_succ, Act.put, List.setIfInBounds_toArray, List.set_cons_zero, List.set_cons_succ]
  refine wpAnyH_take (i := 3) (v := ?_) rfl (by kernel_rfl) (by kernel_rfl) (by kernel_rfl) (fun _ _ _ h => h) ?_ (by assumption) ?_
  rotate_left
  · first | (refine Or.inl ⟨by rfl, ?_⟩; intro w hSw; go_simp; done) | (refine Or.inl ⟨by rfl, ?_⟩; intro w hSw; go_simp; with_reducible rfl)
  try simp only [List.getElem_toArray, List.getElem_cons_zero, List.getElem_cons_succ, Act.put, List.setIfInBounds_toArray, List.set_cons_zero, List.set_cons_succ]
  refine wpAnyH_ready (rs := [4]) (by kernel_rfl) (by simp) ?_
  refine AllReadyH.cons rfl (fun K hK => ?_) AllReadyH.nil
  go_simp
  go_at_call 52
  refine (value_any _ _ _ (CU.out.drew)).mono ?_
  rintro e z9 ⟨t, ht, rfl, cu, gr0⟩
  have gr := (grown_drew w4 (some (w.heap.size + 2))).trans gr0
  replace KS := Lib.hid ((gr.block _ LS.out (by simp; have := HWs.out; have := LB1.out; have := NS.out; omega)).trans KS.out)
  replace LS := Lib.hid (Nat.lt_of_lt_of_le LS.out gr.size)
  replace OS := Lib.hid (OS.out.kept gr (by have := HWs.out; have := LB1.out; omega))
  replace BW := Lib.hid (BW.out.trans (below_other gr (by have := HWs.out; omega) BW.out.size))
  replace CU := Lib.hid cu
  clear gr gr0 cu
  go_wp2_with fail
  refine hK.out _ _ ⟨by simpa using cell_of_row z9 _ 0 _ _ _ KS.out, by simpa using cell_of_row z9 _ 1 _ _ _ KS.out⟩ (fun hHeld => ?_)
  clear hK K
  try simp only [List.getElem_toArray, List.getElem_cons_zero, List.getElem_cons_succ, Act.put, List.setIfInBounds_toArray, List.set_cons_zero, List.set_cons_succ]
  refine wpAnyH_take (i := 5) (v := ?_) rfl (by kernel_rfl) (by kernel_rfl) (by kernel_rfl) (fun _ _ _ h => h) ?_ (by assumption) ?_
  rotate_left
  · first | (refine Or.inl ⟨by rfl, ?_⟩; intro w hSw; go_simp; done) | (refine Or.inl ⟨by rfl, ?_⟩; intro w hSw; go_simp; with_reducible rfl)
  try simp only [List.getElem_toArray, List.getElem_cons_zero, List.getElem_cons_succ, Act.put, List.setIfInBounds_toArray, List.set_cons_zero, List.set_cons_succ]
  have rx := HRX.out z9 BW.out
  have r0 := cell_of_row z9 _ 0 _ _ _ rx.1
  have r1 := cell_of_row z9 _ 1 _ _ _ rx.1
  have rf0 := frozen_of_row z9 _ 0 _ _ rx.1
  have rf1 := frozen_of_row z9 _ 1 _ _ rx.1
  have x0 := cell_of_row z9 _ 0 _ _ _ rx.2
  have x1 := cell_of_row z9 _ 1 _ _ _ rx.2
  have x2 := cell_of_row z9 _ 2 _ _ _ rx.2
  have xf0 := frozen_of_row z9 _ 0 _ _ rx.2
  have xf1 := frozen_of_row z9 _ 1 _ _ rx.2
  have xf2 := frozen_of_row z9 _ 2 _ _ rx.2
  simp only [List.getElem?_toArray, List.getElem?_cons_zero, List.getElem?_cons_succ] at r0 r1 x0 x1 x2
  refine wpAnyH_ready (rs := [6]) (by kernel_rfl) (by simp) ?_
  refine AllReadyH.cons rfl (fun K hK => ?_) AllReadyH.nil
  go_simp
  refine hK.out _ _ (show _ from ⟨(cell_far (cell_far (show z9.cell? ⟨w2.heap.size, 0, none⟩ = some (.slice ai s.items.length ci) by simpa using cell_of_row z9 _ 0 _ _ _ KS.out) (show w.heap.size ≠ w2.heap.size from HNR.out)) (show w.heap.size ≠ w2.heap.size from HNR.out)), (cell_far (cell_far (show z9.cell? ⟨w2.heap.size, 1, none⟩ = some (.slice at_ s.talks.length ct) by simpa using cell_of_row z9 _ 1 _ _ _ KS.out) (show w.heap.size ≠ w2.heap.size from HNR.out)) (show w.heap.size ≠ w2.heap.size from HNR.out))⟩) (fun hHeld => ?_)
  clear hK K
  try simp only [List.getElem_toArray, List.getElem_cons_zero, List.getElem_cons_succ, Act.put, List.setIfInBounds_toArray, List.set_cons_zero, List.set_cons_succ]
  refine wpAnyH_ready (rs := [7]) (by kernel_rfl) (by simp) ?_
  refine AllReadyH.cons rfl (fun K hK => ?_) AllReadyH.nil
  go_simp
  refine hK.out _ _ (show _ from ⟨(cell_far (cell_far (cell_far (cell_far (cell_far (show z9.cell? ⟨w2.heap.size, 0, none⟩ = some (.slice ai s.items.length ci) by simpa using cell_of_row z9 _ 0 _ _ _ KS.out) (show w.heap.size ≠ w2.heap.size from HNR.out)) (show w.heap.size ≠ w2.heap.size from HNR.out)) (show w.heap.size + 1 ≠ w2.heap.size from HNX.out)) (show w.heap.size + 1 ≠ w2.heap.size from HNX.out)) (show w.heap.size + 1 ≠ w2.heap.size from HNX.out)), (cell_far (cell_far (cell_far (cell_far (cell_far (show z9.cell? ⟨w2.heap.size, 1, none⟩ = some (.slice at_ s.talks.length ct) by simpa using cell_of_row z9 _ 1 _ _ _ KS.out) (show w.heap.size ≠ w2.heap.size from HNR.out)) (show w.heap.size ≠ w2.heap.size from HNR.out)) (show w.heap.size + 1 ≠ w2.heap.size from HNX.out)) (show w.heap.size + 1 ≠ w2.heap.size from HNX.out)) (show w.heap.size + 1 ≠ w2.heap.size from HNX.out))⟩) (fun hHeld => ?_)
  clear hK K
  try simp only [List.getElem_toArray, List.getElem_cons_zero, List.getElem_cons_succ, Act.put, List.setIfInBounds_toArray, List.set_cons_zero, List.set_cons_succ]
  refine wpAnyH_done (by kernel_rfl) ?_ _
  clear hHeld r0 r1 rf0 rf1 x0 xf0 x1 xf1 x2 xf2 rx
  go_wp2_with fail
  have rx := HRX.out z9 BW.out
  obtain ⟨Y, hY, y1, y2, y3⟩ := two_boxes3 z9 w.heap.size (w.heap.size + 1) _ _ _ _ _ _ _ rx.1 rx.2 (by omega) (.slice ai s.items.length ci) (.slice at_ s.talks.length ct) (.string q) (.int .i64 y) (.string t)
  rw [← hY]
  obtain ⟨j0, q1, q2, q3, q4⟩ := info_parts infoSt
  obtain ⟨k0, m1, m2, m3, m4⟩ := info_parts infoTk
  refine bodyPost_ret (results_cells2 (P := Try.prog) rfl _ _ (w.heap.size) (w.heap.size + 1) _ _ _ _ (0, 0) (0, 0) _ _ rfl rfl y1 y2 Try.underlying27 rfl (by rw [q1]; simp [q3]) Try.underlying41 rfl (by rw [m1]; simp [m3])) rfl ⟨_, s, ⟨q, y, t⟩, rfl, ?_, hsm, ⟨by show q.size ≤ 64; omega, ht, hyb⟩, ?_⟩
  · exact (y3 _ (by have := LB1.out; have := HWs.out; omega) OS.out).st
  · rw [hY]
    exact (((((HbW.out.trans (BW.out.mono HbW.out.size)).setCell (p := ⟨w.heap.size, 0, none⟩) (Nat.le_refl _) _).setCell (p := ⟨w.heap.size, 1, none⟩) (Nat.le_refl _) _).setCell (p := ⟨w.heap.size + 1, 0, none⟩) (Nat.le_succ _) _).setCell (p := ⟨w.heap.size + 1, 1, none⟩) (Nat.le_succ _) _).setCell (p := ⟨w.heap.size + 1, 2, none⟩) (Nat.le_succ _) _
end Go.Proofs.Ytkoohmibdaomkaa
