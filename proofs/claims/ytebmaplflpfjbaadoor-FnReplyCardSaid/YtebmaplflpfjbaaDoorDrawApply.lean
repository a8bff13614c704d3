/- Drawn states with an operation. Condition: a code of at most 2^20 bytes. -/
import Derived.Test.YtebmaplflpfjbaaDoorBaseA
import Derived.Test.YtebmaplflpfjbaaDoorDrawPlain
import Derived.Test.YtebmaplflpfjbaaDoorDrawOp
namespace Go.Proofs.YtebmaplflpfjbaaDoor
open Go.RowKit List
set_option linter.unusedVariables false
set_option linter.unusedSimpArgs false

theorem two_boxes5 (z : World) (R X : Nat) (t1 t2 : TypeId) (a b c d e f g : Value) (hR : z.heap[R]? = some (.cells #[a, b] t1 (0, 0))) (hX : z.heap[X]? = some (.cells #[c, d, e, f, g] t2 (0, 0))) (hne : R ≠ X) (v0 v1 x0 x1 x2 x3 x4 : Value) :
    ∃ Y, Y = ((((((z.setCell ⟨R, 0, none⟩ v0).setCell ⟨R, 1, none⟩ v1).setCell ⟨X, 0, none⟩ x0).setCell ⟨X, 1, none⟩ x1).setCell ⟨X, 2, none⟩ x2).setCell ⟨X, 3, none⟩ x3).setCell ⟨X, 4, none⟩ x4 ∧ Y.heap[R]? = some (.cells #[v0, v1] t1 (0, 0)) ∧ Y.heap[X]? = some (.cells #[x0, x1, x2, x3, x4] t2 (0, 0)) ∧
      ∀ base, R < base ∧ X < base → ∀ {v : Value} {s : St}, OwnN z base v s → OwnN Y base v s := by
  refine ⟨_, rfl, ?_, ?_, fun base hb v s h => ?_⟩
  · have k1 := heap_setCell_same z R 0 _ _ v0 hR
    have k2 := heap_setCell_same _ R 1 _ _ v1 k1
    rw [Below.heap_setCell _ _ _ _ (by simpa using hne), Below.heap_setCell _ _ _ _ (by simpa using hne), Below.heap_setCell _ _ _ _ (by simpa using hne), Below.heap_setCell _ _ _ _ (by simpa using hne), Below.heap_setCell _ _ _ _ (by simpa using hne)]
    simpa using k2
  · have k0 : ((z.setCell ⟨R, 0, none⟩ v0).setCell ⟨R, 1, none⟩ v1).heap[X]? = some (.cells #[c, d, e, f, g] t2 (0, 0)) := by
      rw [Below.heap_setCell _ _ _ _ (by simpa using hne.symm), Below.heap_setCell _ _ _ _ (by simpa using hne.symm)]; exact hX
    have k1 := heap_setCell_same _ X 0 _ _ x0 k0
    have k2 := heap_setCell_same _ X 1 _ _ x1 k1
    have k3 := heap_setCell_same _ X 2 _ _ x2 k2
    have k4 := heap_setCell_same _ X 3 _ _ x3 k3
    have k5 := heap_setCell_same _ X 4 _ _ x4 k4
    simpa using k5
  · exact ((((((h.kept (grown_set _ ⟨R, 0, none⟩ _) hb.1).kept (grown_set _ ⟨R, 1, none⟩ _) hb.1).kept (grown_set _ ⟨X, 0, none⟩ _) hb.2).kept (grown_set _ ⟨X, 1, none⟩ _) hb.2).kept (grown_set _ ⟨X, 2, none⟩ _) hb.2).kept (grown_set _ ⟨X, 3, none⟩ _) hb.2).kept (grown_set _ ⟨X, 4, none⟩ _) hb.2
/-- What DrawApply leaves. -/
def DrawnRq (w : World) (e : Ending) (w' : World) : Prop := ∃ v s x, e = .returned (.tuple #[v, rqA x]) ∧ StV w' w'.heap.size v s ∧ Sm s 64 4 ∧ SmRq x ∧ Below w.heap.size w w'

set_option maxRecDepth 100000 in
set_option maxHeartbeats 8000000 in
theorem drawApply_any (a : Option Addr) (len cap : Nat) (zs : List Int) (w : World) (hr : Row8 w w.heap.size a len cap zs) (hl : len ≤ 1048576) :
    Calls Tryd.prog 8 #[.slice a len cap] w (DrawnRq w) := by
  obtain ⟨W, hW⟩ : ∃ W, W = (w.alloc (.cells #[.slice none 0 0, .slice none 0 0] 27)).alloc (.cells #[.string ⟨#[]⟩, .int .i64 0, .int .i64 0, .string ⟨#[]⟩, .string ⟨#[]⟩] 29) := ⟨_, rfl⟩
  have hbW : Below w.heap.size w W := by rw [hW]; exact ((Below.refl _ _).alloc (Nat.le_refl _) _).alloc (by simp) _
  have hWs : W.heap.size = w.heap.size + 2 := by rw [hW]; simp
  have kr : W.heap[w.heap.size]? = some (.cells #[.slice none 0 0, .slice none 0 0] 27 (0, 0)) := by rw [hW, Below.heap_alloc _ _ _ (by simp)]; exact heap_new _ _
  have kx : W.heap[w.heap.size + 1]? = some (.cells #[.string ⟨#[]⟩, .int .i64 0, .int .i64 0, .string ⟨#[]⟩, .string ⟨#[]⟩] 29 (0, 0)) := by rw [hW]; simpa using heap_new (w.alloc (.cells #[.slice none 0 0, .slice none 0 0] 27)) (.cells #[.string ⟨#[]⟩, .int .i64 0, .int .i64 0, .string ⟨#[]⟩, .string ⟨#[]⟩] 29)
  have HRX : Hid (∀ z, Below W.heap.size W z → z.heap[w.heap.size]? = some (.cells #[.slice none 0 0, .slice none 0 0] 27 (0, 0)) ∧ z.heap[w.heap.size + 1]? = some (.cells #[.string ⟨#[]⟩, .int .i64 0, .int .i64 0, .string ⟨#[]⟩, .string ⟨#[]⟩] 29 (0, 0))) := Lib.hid (fun z h => ⟨(h.block _ (by omega)).trans kr, (h.block _ (by omega)).trans kx⟩)
  have hc0 := new_any a len cap zs W (hr.later hbW) hl
  rw [hW] at hc0
  have HbW := Lib.hid hbW
  go_enter Tryd.func8, Tryd.ntmps8
  go_wp2_with (go_at_call 30; refine hc0.mono ?_; rintro e w1 ⟨rfl, cu, hb⟩; refine Hid.out ?_)
  refine Lib.hid ?_
  rw [← hW] at cu hb
  rw [hWs] at cu
  have LB1 : Hid (W.heap.size < w1.heap.size) := Lib.hid (by have := cu.lt; omega)
  have BW : Hid (Below W.heap.size W w1) := Lib.hid hb
  have HWs := Lib.hid hWs
  have hc1 := odd_any _ _ w1 cu
  clear hc0 hb kr kx hr hbW hWs hW cu
  go_wp2_with (go_at_call 31; refine hc1.mono ?_; rintro e w2 ⟨v, s, rfl, ho, hsm, cu, gr⟩; refine Hid.out ?_)
  refine Lib.hid ?_
  have OS := Lib.hid ho
  obtain ⟨_, _, gi, ci, gt, ct, rfl, _, ⟨ai, rfl, _⟩, ⟨at_, rfl, _⟩, _, _⟩ := ho
  replace BW := Lib.hid (BW.out.trans (below_other gr (by have := HWs.out; omega) BW.out.size))
  have NS : Hid (w1.heap.size ≤ w2.heap.size) := Lib.hid gr.size
  have CU := Lib.hid cu
  clear hc1 gr cu
  have HNR : Hid (w.heap.size ≠ w2.heap.size) := Lib.hid (by have := HWs.out; have := LB1.out; have := NS.out; omega)
  have HNX : Hid (w.heap.size + 1 ≠ w2.heap.size) := Lib.hid (by have := HWs.out; have := LB1.out; have := NS.out; omega)
  obtain ⟨X2, hX2⟩ : ∃ x, x = w2.alloc (.cells #[.slice ai s.items.length ci, .slice at_ s.talks.length ct] 27) := ⟨_, rfl⟩
  have bX : Below w2.heap.size w2 X2 := by rw [hX2]; exact (Below.refl _ _).alloc (Nat.le_refl _) _
  have sX : X2.heap.size = w2.heap.size + 1 := by rw [hX2]; simp
  have KS : Hid (X2.heap[w2.heap.size]? = some (.cells #[.slice ai s.items.length ci, .slice at_ s.talks.length ct] 27 (0, 0))) := Lib.hid (by rw [hX2]; exact heap_new _ _)
  have LS : Hid (w2.heap.size < X2.heap.size) := Lib.hid (by omega)
  replace OS := Lib.hid (OS.out.later bX)
  replace BW := tbt BW bX
  replace CU := Lib.hid (CU.out.kept (bX.mono (by have := CU.out.le; have := CU.out.lt; omega)) (bX.block _ CU.out.lt))
  clear bX sX
  go_wp2_with fail
  rw [← hX2]
  clear hX2
  refine wp_region_held_drew (S := (fun w' => w'.cell? ⟨w2.heap.size, 0, none⟩ = some (.slice ai s.items.length ci) ∧ w'.cell? ⟨w2.heap.size, 1, none⟩ = some (.slice at_ s.talks.length ct))) (by kernel_rfl) ⟨by simpa using cell_of_row X2 _ 0 _ _ _ KS.out, by simpa using cell_of_row X2 _ 1 _ _ _ KS.out⟩ (fun hHeld => ?_)
  refine tk 0 (v := ?_) ?_ ?_; rotate_left
  · refine Or.inl ⟨by rfl, ?_⟩; intro w hSw; obtain ⟨hS0, hS1⟩ := hSw; go_simp; first | done | with_reducible rfl
  refine tk0 1 ?_
  refine rd1 2 (fun K hK => ?_)
  go_simp
  go_at_call 32
  refine (oddOp_any _ _ _ (CU.out.drew)).mono ?_
  rintro e z9 ⟨t, ht, rfl, cu, gr0⟩
  have gr := (grown_drew X2 (some (w.heap.size + 2))).trans gr0
  replace KS := tkg gr LS KS (by simp; have := HWs.out; have := LB1.out; have := NS.out; omega)
  replace LS := tlz LS gr.size
  replace OS := Lib.hid (OS.out.kept gr (by have := HWs.out; have := LB1.out; omega))
  replace BW := Lib.hid (BW.out.trans (below_other gr (by have := HWs.out; omega) BW.out.size))
  replace CU := Lib.hid cu
  clear gr gr0 cu
  unfold rqA
  go_wp2_with fail
  refine hK.out _ _ ⟨by simpa using cell_of_row z9 _ 0 _ _ _ KS.out, by simpa using cell_of_row z9 _ 1 _ _ _ KS.out⟩ (fun hHeld => ?_)
  clear hK K
  try simp only [getElem_toArray, getElem_cons_zero, getElem_cons_succ, Act.put, setIfInBounds_toArray, set_cons_zero, set_cons_succ]
  have rx := HRX.out z9 BW.out
  have r0 := cell_of_row z9 _ 0 _ _ _ rx.1
  have r1 := cell_of_row z9 _ 1 _ _ _ rx.1
  have rf0 := frozen_of_row z9 _ 0 _ _ rx.1
  have rf1 := frozen_of_row z9 _ 1 _ _ rx.1
  have x0 := cell_of_row z9 _ 0 _ _ _ rx.2
  have x1 := cell_of_row z9 _ 1 _ _ _ rx.2
  have x2 := cell_of_row z9 _ 2 _ _ _ rx.2
  have x3 := cell_of_row z9 _ 3 _ _ _ rx.2
  have x4 := cell_of_row z9 _ 4 _ _ _ rx.2
  have xf0 := frozen_of_row z9 _ 0 _ _ rx.2
  have xf1 := frozen_of_row z9 _ 1 _ _ rx.2
  have xf2 := frozen_of_row z9 _ 2 _ _ rx.2
  have xf3 := frozen_of_row z9 _ 3 _ _ rx.2
  have xf4 := frozen_of_row z9 _ 4 _ _ rx.2
  simp only [List.getElem?_toArray, List.getElem?_cons_zero, List.getElem?_cons_succ] at r0 r1 x0 x1 x2 x3 x4
  refine rd1 3 (fun K hK => ?_)
  go_simp
  refine hK.out _ _ (show _ from ⟨(cell_far (cell_far (show z9.cell? ⟨w2.heap.size, 0, none⟩ = some (.slice ai s.items.length ci) by simpa using cell_of_row z9 _ 0 _ _ _ KS.out) (show w.heap.size ≠ w2.heap.size from HNR.out)) (show w.heap.size ≠ w2.heap.size from HNR.out)), (cell_far (cell_far (show z9.cell? ⟨w2.heap.size, 1, none⟩ = some (.slice at_ s.talks.length ct) by simpa using cell_of_row z9 _ 1 _ _ _ KS.out) (show w.heap.size ≠ w2.heap.size from HNR.out)) (show w.heap.size ≠ w2.heap.size from HNR.out))⟩) (fun hHeld => ?_)
  clear hK K
  refine rd1 4 (fun K hK => ?_)
  go_simp
  refine hK.out _ _ (show _ from ⟨(cell_far (cell_far (cell_far (cell_far (cell_far (cell_far (cell_far (show z9.cell? ⟨w2.heap.size, 0, none⟩ = some (.slice ai s.items.length ci) by simpa using cell_of_row z9 _ 0 _ _ _ KS.out) (show w.heap.size ≠ w2.heap.size from HNR.out)) (show w.heap.size ≠ w2.heap.size from HNR.out)) (show w.heap.size + 1 ≠ w2.heap.size from HNX.out)) (show w.heap.size + 1 ≠ w2.heap.size from HNX.out)) (show w.heap.size + 1 ≠ w2.heap.size from HNX.out)) (show w.heap.size + 1 ≠ w2.heap.size from HNX.out)) (show w.heap.size + 1 ≠ w2.heap.size from HNX.out)), (cell_far (cell_far (cell_far (cell_far (cell_far (cell_far (cell_far (show z9.cell? ⟨w2.heap.size, 1, none⟩ = some (.slice at_ s.talks.length ct) by simpa using cell_of_row z9 _ 1 _ _ _ KS.out) (show w.heap.size ≠ w2.heap.size from HNR.out)) (show w.heap.size ≠ w2.heap.size from HNR.out)) (show w.heap.size + 1 ≠ w2.heap.size from HNX.out)) (show w.heap.size + 1 ≠ w2.heap.size from HNX.out)) (show w.heap.size + 1 ≠ w2.heap.size from HNX.out)) (show w.heap.size + 1 ≠ w2.heap.size from HNX.out)) (show w.heap.size + 1 ≠ w2.heap.size from HNX.out))⟩) (fun hHeld => ?_)
  clear hK K
  try simp only [getElem_toArray, getElem_cons_zero, getElem_cons_succ, Act.put, setIfInBounds_toArray, set_cons_zero, set_cons_succ]
  refine wpAnyH_done (by kernel_rfl) ?_ _
  clear hHeld r0 r1 rf0 rf1 x0 xf0 x1 xf1 x2 xf2 x3 xf3 x4 xf4 rx
  go_wp2_with fail
  have rx := HRX.out z9 BW.out
  obtain ⟨Y, hY, y1, y2, y3⟩ := two_boxes5 z9 w.heap.size (w.heap.size + 1) _ _ _ _ _ _ _ _ _ rx.1 rx.2 (by omega) (.slice ai s.items.length ci) (.slice at_ s.talks.length ct) (.string t.c) (.int .i64 t.q) (.int .i64 t.n) (.string t.k) (.string t.v)
  rw [← hY]
  obtain ⟨j0, q1, q2, q3, q4⟩ := info_parts infoSt
  obtain ⟨k0, m1, m2, m3, m4⟩ := info_parts infoOpD
  refine bodyPost_ret (results_cells2 (P := Tryd.prog) rfl _ _ (w.heap.size) (w.heap.size + 1) _ _ _ _ (0, 0) (0, 0) _ _ rfl rfl y1 y2 Tryd.underlying27 rfl (by rw [q1]; simp [q3]) Tryd.underlying29 rfl (by rw [m1]; simp [m3])) rfl ⟨_, s, t, rfl, ?_, hsm, ht, ?_⟩
  · exact (y3 _ (by have := LB1.out; have := HWs.out; omega) OS.out).st
  · rw [hY]
    exact (((((((HbW.out.trans (BW.out.mono HbW.out.size)).setCell (p := ⟨w.heap.size, 0, none⟩) (Nat.le_refl _) _).setCell (p := ⟨w.heap.size, 1, none⟩) (Nat.le_refl _) _).setCell (p := ⟨w.heap.size + 1, 0, none⟩) (Nat.le_succ _) _).setCell (p := ⟨w.heap.size + 1, 1, none⟩) (Nat.le_succ _) _).setCell (p := ⟨w.heap.size + 1, 2, none⟩) (Nat.le_succ _) _).setCell (p := ⟨w.heap.size + 1, 3, none⟩) (Nat.le_succ _) _).setCell (p := ⟨w.heap.size + 1, 4, none⟩) (Nat.le_succ _) _
end Go.Proofs.YtebmaplflpfjbaaDoor
