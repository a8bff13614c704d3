/- What the proofs of this seat have in common: plain facts, rows in memory, the laws' own helpers, the small functions' contracts. Condition: none. -/
import Derived.Test.YtdpjdjkfedcojaaGreatDrawOdd
import Derived.Test.YtdpjdjkfedcojaaGreatBaseA
namespace Go.Proofs.YtdpjdjkfedcojaaGreat
open Go.RowKit
set_option linter.unusedVariables false
set_option linter.unusedSimpArgs false

theorem cell_far {z : World} {p : Addr} {v u : Value} {R i : Nat} (h : z.cell? p = some v) (hn : R ≠ p.block) : (z.setCell ⟨R, i, none⟩ u).cell? p = some v := by
  rw [World.cell?_setCell_far _ _ _ _ hn]; exact h
theorem results_cells2 {P : Program} {fn : Func} {p q : Tmp} {ty ty2 : TypeId} (h : fn.results = #[.cell p ty, .cell q ty2]) (tmps : Array Value) (w : World) (g g2 : Nat) (t t2 : TypeId) (cs cs2 : Array Value) (fr fr2 : Nat × Nat) (d d2 : TypeDesc)
    (hp : tmps.getD p undef = .pointer (some ⟨g, 0, none⟩)) (hq : tmps.getD q undef = .pointer (some ⟨g2, 0, none⟩)) (hg : w.heap[g]? = some (.cells cs t fr)) (hg2 : w.heap[g2]? = some (.cells cs2 t2 fr2))
    (hu : P.underlying ty = some d) (hd : (match d with | .struct _ | .array _ _ => true | _ => false) = true) (hi : (P.info? ty).map (·.size) = some cs.size)
    (hu2 : P.underlying ty2 = some d2) (hd2 : (match d2 with | .struct _ | .array _ _ => true | _ => false) = true) (hi2 : (P.info? ty2).map (·.size) = some cs2.size) :
    (results fn tmps).run P w = .ok (.tuple #[.agg cs, .agg cs2]) w := by
  have hp' : tmps[p]?.getD undef = .pointer (some ⟨g, 0, none⟩) := by simpa using hp
  have hq' : tmps[q]?.getD undef = .pointer (some ⟨g2, 0, none⟩) := by simpa using hq
  simp [results, h, hp', hq', asAddr, run_loadVar_row w g t ty cs fr d hg hu hd hi, run_loadVar_row w g2 t2 ty2 cs2 fr2 d2 hg2 hu2 hd2 hi2]
theorem two_boxes2 (z : World) (R X : Nat) (t1 t2 : TypeId) (a b c d : Value) (hR : z.heap[R]? = some (.cells #[a, b] t1 (0, 0))) (hX : z.heap[X]? = some (.cells #[c, d] t2 (0, 0))) (hne : R ≠ X) (v0 v1 x0 x1 : Value) :
    ∃ Y, Y = (((z.setCell ⟨R, 0, none⟩ v0).setCell ⟨R, 1, none⟩ v1).setCell ⟨X, 0, none⟩ x0).setCell ⟨X, 1, none⟩ x1 ∧ Y.heap[R]? = some (.cells #[v0, v1] t1 (0, 0)) ∧ Y.heap[X]? = some (.cells #[x0, x1] t2 (0, 0)) ∧
      ∀ base, R < base ∧ X < base → ∀ {v : Value} {s : St}, OwnN z base v s → OwnN Y base v s := by
  refine ⟨_, rfl, ?_, ?_, fun base hb v s h => ?_⟩
  · have k1 := heap_setCell_same z R 0 _ _ v0 hR
    have k2 := heap_setCell_same _ R 1 _ _ v1 k1
    rw [Below.heap_setCell _ _ _ _ (by simpa using hne), Below.heap_setCell _ _ _ _ (by simpa using hne)]
    simpa using k2
  · have k0 : ((z.setCell ⟨R, 0, none⟩ v0).setCell ⟨R, 1, none⟩ v1).heap[X]? = some (.cells #[c, d] t2 (0, 0)) := by
      rw [Below.heap_setCell _ _ _ _ (by simpa using hne.symm), Below.heap_setCell _ _ _ _ (by simpa using hne.symm)]; exact hX
    have k1 := heap_setCell_same _ X 0 _ _ x0 k0
    have k2 := heap_setCell_same _ X 1 _ _ x1 k1
    simpa using k2
  · exact (((h.kept (grown_set _ ⟨R, 0, none⟩ _) hb.1).kept (grown_set _ ⟨R, 1, none⟩ _) hb.1).kept (grown_set _ ⟨X, 0, none⟩ _) hb.2).kept (grown_set _ ⟨X, 1, none⟩ _) hb.2
theorem two_boxes3 (z : World) (R X : Nat) (t1 t2 : TypeId) (a b c d e : Value) (hR : z.heap[R]? = some (.cells #[a, b] t1 (0, 0))) (hX : z.heap[X]? = some (.cells #[c, d, e] t2 (0, 0))) (hne : R ≠ X) (v0 v1 x0 x1 x2 : Value) :
    ∃ Y, Y = ((((z.setCell ⟨R, 0, none⟩ v0).setCell ⟨R, 1, none⟩ v1).setCell ⟨X, 0, none⟩ x0).setCell ⟨X, 1, none⟩ x1).setCell ⟨X, 2, none⟩ x2 ∧ Y.heap[R]? = some (.cells #[v0, v1] t1 (0, 0)) ∧ Y.heap[X]? = some (.cells #[x0, x1, x2] t2 (0, 0)) ∧
      ∀ base, R < base ∧ X < base → ∀ {v : Value} {s : St}, OwnN z base v s → OwnN Y base v s := by
  refine ⟨_, rfl, ?_, ?_, fun base hb v s h => ?_⟩
  · have k1 := heap_setCell_same z R 0 _ _ v0 hR
    have k2 := heap_setCell_same _ R 1 _ _ v1 k1
    rw [Below.heap_setCell _ _ _ _ (by simpa using hne), Below.heap_setCell _ _ _ _ (by simpa using hne), Below.heap_setCell _ _ _ _ (by simpa using hne)]
    simpa using k2
  · have k0 : ((z.setCell ⟨R, 0, none⟩ v0).setCell ⟨R, 1, none⟩ v1).heap[X]? = some (.cells #[c, d, e] t2 (0, 0)) := by
      rw [Below.heap_setCell _ _ _ _ (by simpa using hne.symm), Below.heap_setCell _ _ _ _ (by simpa using hne.symm)]; exact hX
    have k1 := heap_setCell_same _ X 0 _ _ x0 k0
    have k2 := heap_setCell_same _ X 1 _ _ x1 k1
    have k3 := heap_setCell_same _ X 2 _ _ x2 k2
    simpa using k3
  · exact ((((h.kept (grown_set _ ⟨R, 0, none⟩ _) hb.1).kept (grown_set _ ⟨R, 1, none⟩ _) hb.1).kept (grown_set _ ⟨X, 0, none⟩ _) hb.2).kept (grown_set _ ⟨X, 1, none⟩ _) hb.2).kept (grown_set _ ⟨X, 2, none⟩ _) hb.2
/-- What the draws of this chapter leave: a state, and an item, a talk, a text. -/
def DrawnIt (w : World) (e : Ending) (w' : World) : Prop := ∃ v s x, e = .returned (.tuple #[v, itA x]) ∧ StV w' w'.heap.size v s ∧ Sm s 64 4 ∧ (x.k.size ≤ 64 ∧ x.v.size ≤ 64) ∧ Below w.heap.size w w'
def DrawnTk (w : World) (e : Ending) (w' : World) : Prop := ∃ v s x, e = .returned (.tuple #[v, tkA x]) ∧ StV w' w'.heap.size v s ∧ Sm s 64 4 ∧ (x.c.size ≤ 64 ∧ x.r.size ≤ 64 ∧ -9223372036854775808 ≤ x.q ∧ x.q ≤ 9223372036854775807) ∧ Below w.heap.size w w'
def DrawnTx (w : World) (e : Ending) (w' : World) : Prop := ∃ v s t, e = .returned (.tuple #[v, .string t]) ∧ StV w' w'.heap.size v s ∧ Sm s 64 4 ∧ t.size ≤ 64 ∧ Below w.heap.size w w'

end Go.Proofs.YtdpjdjkfedcojaaGreat

namespace Go.Proofs.YtdpjdjkfedcojaaGreat
open Go.RowKit List
set_option linter.unusedVariables false
set_option linter.unusedSimpArgs false

set_option maxRecDepth 100000 in
set_option maxHeartbeats 8000000 in
theorem drawPutItem_any (a : Option Addr) (len cap : Nat) (zs : List Int) (w : World) (hr : Row8 w w.heap.size a len cap zs) (hl : len ≤ 1048576) :
    Calls Tryz.prog 19 #[.slice a len cap] w (DrawnIt w) := by
  obtain ⟨W, hW⟩ : ∃ W, W = (w.alloc (.cells #[.slice none 0 0, .slice none 0 0] 27)).alloc (.cells #[.string ⟨#[]⟩, .string ⟨#[]⟩] 45) := ⟨_, rfl⟩
  have hbW : Below w.heap.size w W := by rw [hW]; exact ((Below.refl _ _).alloc (Nat.le_refl _) _).alloc (by simp) _
  have hWs : W.heap.size = w.heap.size + 2 := by rw [hW]; simp
  have kr : W.heap[w.heap.size]? = some (.cells #[.slice none 0 0, .slice none 0 0] 27 (0, 0)) := by rw [hW, Below.heap_alloc _ _ _ (by simp)]; exact heap_new _ _
  have kx : W.heap[w.heap.size + 1]? = some (.cells #[.string ⟨#[]⟩, .string ⟨#[]⟩] 45 (0, 0)) := by rw [hW]; simpa using heap_new (w.alloc (.cells #[.slice none 0 0, .slice none 0 0] 27)) (.cells #[.string ⟨#[]⟩, .string ⟨#[]⟩] 45)
  have HRX : Hid (∀ z, Below W.heap.size W z → z.heap[w.heap.size]? = some (.cells #[.slice none 0 0, .slice none 0 0] 27 (0, 0)) ∧ z.heap[w.heap.size + 1]? = some (.cells #[.string ⟨#[]⟩, .string ⟨#[]⟩] 45 (0, 0))) := Lib.hid (fun z h => ⟨(h.block _ (by omega)).trans kr, (h.block _ (by omega)).trans kx⟩)
  have hc0 := new_any a len cap zs W (hr.later hbW) hl
  rw [hW] at hc0
  have HbW := Lib.hid hbW
  go_enter Tryz.func19, Tryz.ntmps19
  go_wp2_with (go_at_call 24; refine hc0.mono ?_; rintro e w1 ⟨rfl, cu, hb⟩; refine Hid.out ?_)
  refine Lib.hid ?_
  rw [← hW] at cu hb
  rw [hWs] at cu
  have LB1 : Hid (W.heap.size < w1.heap.size) := Lib.hid (by have := cu.lt; omega)
  have BW : Hid (Below W.heap.size W w1) := Lib.hid hb
  have HWs := Lib.hid hWs
  have hc1 := odd_any _ _ w1 cu
  clear hc0 hb kr kx hr hbW hWs hW cu
  go_wp2_with (go_at_call 25; refine hc1.mono ?_; rintro e w2 ⟨v, s, rfl, ho, hsm, cu, gr⟩; refine Hid.out ?_)
  refine Lib.hid ?_
  have OS := Lib.hid ho
  obtain ⟨_, _, gi, ci, gt, ct, rfl, _, ⟨ai, rfl, _⟩, ⟨at_, rfl, _⟩, _, _⟩ := ho
  replace BW := Lib.hid (BW.out.trans (below_other gr (by have := HWs.out; omega) BW.out.size))
  have NS : Hid (w1.heap.size ≤ w2.heap.size) := Lib.hid gr.size
  have CU := Lib.hid cu
  clear hc1 gr cu
  have HNR : Hid (w.heap.size ≠ w2.heap.size) := Lib.hid (by have := HWs.out; have := LB1.out; have := NS.out; omega)
  have HNX : Hid (w.heap.size + 1 ≠ w2.heap.size) := Lib.hid (by have := HWs.out; have := LB1.out; have := NS.out; omega)
  obtain ⟨X2, hX2⟩ : ∃ x, x = w2.alloc (.cells #[.slice ai s.items.length ci, .slice at_ s.talks.length ct] 27) := ⟨_, rfl⟩
  have bX : Below w2.heap.size w2 X2 := by rw [hX2]; exact (Below.refl _ _).alloc (Nat.le_refl _) _
  have sX : X2.heap.size = w2.heap.size + 1 := by rw [hX2]; simp
  have KS : Hid (X2.heap[w2.heap.size]? = some (.cells #[.slice ai s.items.length ci, .slice at_ s.talks.length ct] 27 (0, 0))) := Lib.hid (by rw [hX2]; exact heap_new _ _)
  have LS : Hid (w2.heap.size < X2.heap.size) := Lib.hid (by omega)
  replace OS := Lib.hid (OS.out.later bX)
  replace BW := tbt BW bX
  replace CU := Lib.hid (CU.out.kept (bX.mono (by have := CU.out.le; have := CU.out.lt; omega)) (bX.block _ CU.out.lt))
  clear bX sX
  have hc := name_any _ _ X2 CU.out
  rw [hX2] at hc
  go_wp2_with (go_at_call 46; refine hc.mono ?_; rintro e w3 ⟨q, hq, rfl, cu, gr⟩; refine Hid.out ?_)
  refine Lib.hid ?_
  rw [← hX2] at gr
  replace KS := tkg gr LS KS (by simp; have := HWs.out; have := LB1.out; have := NS.out; omega)
  replace LS := tlz LS gr.size
  replace OS := Lib.hid (OS.out.kept gr (by have := HWs.out; have := LB1.out; omega))
  replace BW := Lib.hid (BW.out.trans (below_other gr (by have := HWs.out; omega) BW.out.size))
  replace CU := Lib.hid cu
  clear gr cu hc hX2
  have hc := once_any 10 (by omega) _ _ w3 CU.out
  go_wp2_with (go_at_call 47; refine hc.mono ?_; rintro e w4 ⟨b, rfl, cu, gr⟩; refine Hid.out ?_)
  refine Lib.hid ?_
  replace KS := tkg gr LS KS (by simp; have := HWs.out; have := LB1.out; have := NS.out; omega)
  replace LS := tlz LS gr.size
  replace OS := Lib.hid (OS.out.kept gr (by have := HWs.out; have := LB1.out; omega))
  replace BW := Lib.hid (BW.out.trans (below_other gr (by have := HWs.out; omega) BW.out.size))
  replace CU := Lib.hid cu
  clear gr cu hc
  cases b
  case true =>
    have f0 := tcr KS 0
    have f1 := tcr KS 1
    have rx := HRX.out w4 BW.out
    have r0 := cell_of_row w4 _ 0 _ _ _ rx.1
    have r1 := cell_of_row w4 _ 1 _ _ _ rx.1
    have rf0 := frozen_of_row w4 _ 0 _ _ rx.1
    have rf1 := frozen_of_row w4 _ 1 _ _ rx.1
    have x0 := cell_of_row w4 _ 0 _ _ _ rx.2
    have x1 := cell_of_row w4 _ 1 _ _ _ rx.2
    have xf0 := frozen_of_row w4 _ 0 _ _ rx.2
    have xf1 := frozen_of_row w4 _ 1 _ _ rx.2
    simp only [List.getElem?_toArray, List.getElem?_cons_zero, List.getElem?_cons_succ] at r0 r1 x0 x1
    go_wp2_with fail
    clear r0 r1 rf0 rf1 x0 xf0 x1 xf1 rx f0 f1
    have rx := HRX.out w4 BW.out
    obtain ⟨Y, hY, y1, y2, y3⟩ := two_boxes2 w4 w.heap.size (w.heap.size + 1) _ _ _ _ _ _ rx.1 rx.2 (by omega) (.slice ai s.items.length ci) (.slice at_ s.talks.length ct) (.string ⟨#[66, 97, 100]⟩) (.string ⟨#[120]⟩)
    rw [← hY]
    obtain ⟨j0, q1, q2, q3, q4⟩ := info_parts infoSt
    obtain ⟨k0, m1, m2, m3, m4⟩ := info_parts infoIt
    refine bodyPost_ret (results_cells2 (P := Tryz.prog) rfl _ _ (w.heap.size) (w.heap.size + 1) _ _ _ _ (0, 0) (0, 0) _ _ rfl rfl y1 y2 Tryz.underlying27 rfl (by rw [q1]; simp [q3]) Tryz.underlying45 rfl (by rw [m1]; simp [m3])) rfl ⟨_, s, ⟨⟨#[66, 97, 100]⟩, ⟨#[120]⟩⟩, rfl, ?_, hsm, ⟨by show (⟨#[66, 97, 100]⟩ : ByteArray).size ≤ 64; decide, by show (⟨#[120]⟩ : ByteArray).size ≤ 64; decide⟩, ?_⟩
    · exact (y3 _ (by have := LB1.out; have := HWs.out; omega) OS.out).st
    · rw [hY]
      exact ((((HbW.out.trans (BW.out.mono HbW.out.size)).setCell (p := ⟨w.heap.size, 0, none⟩) (Nat.le_refl _) _).setCell (p := ⟨w.heap.size, 1, none⟩) (Nat.le_refl _) _).setCell (p := ⟨w.heap.size + 1, 0, none⟩) (Nat.le_succ _) _).setCell (p := ⟨w.heap.size + 1, 1, none⟩) (Nat.le_succ _) _
  case false =>
    go_wp2_with fail
    refine wp_region_held_drew (S := (fun w' => w'.cell? ⟨w2.heap.size, 0, none⟩ = some (.slice ai s.items.length ci) ∧ w'.cell? ⟨w2.heap.size, 1, none⟩ = some (.slice at_ s.talks.length ct))) (by kernel_rfl) ⟨by simpa using cell_of_row w4 _ 0 _ _ _ KS.out, by simpa using cell_of_row w4 _ 1 _ _ _ KS.out⟩ (fun hHeld => ?_)
    refine tk 0 (v := ?_) ?_ ?_; rotate_left
    · refine Or.inl ⟨by rfl, ?_⟩; intro w hSw; obtain ⟨hS0, hS1⟩ := hSw; go_simp; first | done | with_reducible rfl
    refine tk0 1 ?_
    refine tk0 2 ?_
    refine rd1 3 (fun K hK => ?_)
    go_simp
    go_at_call 48
    refine (value_any _ _ _ (CU.out.drew)).mono ?_
    rintro e z9 ⟨t, ht, rfl, cu, gr0⟩
    have gr := (grown_drew w4 (some (w.heap.size + 2))).trans gr0
    replace KS := tkg gr LS KS (by simp; have := HWs.out; have := LB1.out; have := NS.out; omega)
    replace LS := tlz LS gr.size
    replace OS := Lib.hid (OS.out.kept gr (by have := HWs.out; have := LB1.out; omega))
    replace BW := Lib.hid (BW.out.trans (below_other gr (by have := HWs.out; omega) BW.out.size))
    replace CU := Lib.hid cu
    clear gr gr0 cu
    go_wp2_with fail
    refine hK.out _ _ ⟨by simpa using cell_of_row z9 _ 0 _ _ _ KS.out, by simpa using cell_of_row z9 _ 1 _ _ _ KS.out⟩ (fun hHeld => ?_)
    clear hK K
    refine tk0 4 ?_
    have rx := HRX.out z9 BW.out
    have r0 := cell_of_row z9 _ 0 _ _ _ rx.1
    have r1 := cell_of_row z9 _ 1 _ _ _ rx.1
    have rf0 := frozen_of_row z9 _ 0 _ _ rx.1
    have rf1 := frozen_of_row z9 _ 1 _ _ rx.1
    have x0 := cell_of_row z9 _ 0 _ _ _ rx.2
    have x1 := cell_of_row z9 _ 1 _ _ _ rx.2
    have xf0 := frozen_of_row z9 _ 0 _ _ rx.2
    have xf1 := frozen_of_row z9 _ 1 _ _ rx.2
    simp only [List.getElem?_toArray, List.getElem?_cons_zero, List.getElem?_cons_succ] at r0 r1 x0 x1
    refine rd1 5 (fun K hK => ?_)
    go_simp
    refine hK.out _ _ (show _ from ⟨(cell_far (cell_far (show z9.cell? ⟨w2.heap.size, 0, none⟩ = some (.slice ai s.items.length ci) by simpa using cell_of_row z9 _ 0 _ _ _ KS.out) (show w.heap.size ≠ w2.heap.size from HNR.out)) (show w.heap.size ≠ w2.heap.size from HNR.out)), (cell_far (cell_far (show z9.cell? ⟨w2.heap.size, 1, none⟩ = some (.slice at_ s.talks.length ct) by simpa using cell_of_row z9 _ 1 _ _ _ KS.out) (show w.heap.size ≠ w2.heap.size from HNR.out)) (show w.heap.size ≠ w2.heap.size from HNR.out))⟩) (fun hHeld => ?_)
    clear hK K
    refine rd1 6 (fun K hK => ?_)
    go_simp
    refine hK.out _ _ (show _ from ⟨(cell_far (cell_far (cell_far (cell_far (show z9.cell? ⟨w2.heap.size, 0, none⟩ = some (.slice ai s.items.length ci) by simpa using cell_of_row z9 _ 0 _ _ _ KS.out) (show w.heap.size ≠ w2.heap.size from HNR.out)) (show w.heap.size ≠ w2.heap.size from HNR.out)) (show w.heap.size + 1 ≠ w2.heap.size from HNX.out)) (show w.heap.size + 1 ≠ w2.heap.size from HNX.out)), (cell_far (cell_far (cell_far (cell_far (show z9.cell? ⟨w2.heap.size, 1, none⟩ = some (.slice at_ s.talks.length ct) by simpa using cell_of_row z9 _ 1 _ _ _ KS.out) (show w.heap.size ≠ w2.heap.size from HNR.out)) (show w.heap.size ≠ w2.heap.size from HNR.out)) (show w.heap.size + 1 ≠ w2.heap.size from HNX.out)) (show w.heap.size + 1 ≠ w2.heap.size from HNX.out))⟩) (fun hHeld => ?_)
    clear hK K
    try simp only [getElem_toArray, getElem_cons_zero, getElem_cons_succ, Act.put, setIfInBounds_toArray, set_cons_zero, set_cons_succ]
    refine wpAnyH_done (by kernel_rfl) ?_ _
    clear hHeld r0 r1 rf0 rf1 x0 xf0 x1 xf1 rx
    go_wp2_with fail
    have rx := HRX.out z9 BW.out
    obtain ⟨Y, hY, y1, y2, y3⟩ := two_boxes2 z9 w.heap.size (w.heap.size + 1) _ _ _ _ _ _ rx.1 rx.2 (by omega) (.slice ai s.items.length ci) (.slice at_ s.talks.length ct) (.string q) (.string t)
    rw [← hY]
    obtain ⟨j0, q1, q2, q3, q4⟩ := info_parts infoSt
    obtain ⟨k0, m1, m2, m3, m4⟩ := info_parts infoIt
    refine bodyPost_ret (results_cells2 (P := Tryz.prog) rfl _ _ (w.heap.size) (w.heap.size + 1) _ _ _ _ (0, 0) (0, 0) _ _ rfl rfl y1 y2 Tryz.underlying27 rfl (by rw [q1]; simp [q3]) Tryz.underlying45 rfl (by rw [m1]; simp [m3])) rfl ⟨_, s, ⟨q, t⟩, rfl, ?_, hsm, ⟨by show q.size ≤ 64; omega, ht⟩, ?_⟩
    · exact (y3 _ (by have := LB1.out; have := HWs.out; omega) OS.out).st
    · rw [hY]
      exact ((((HbW.out.trans (BW.out.mono HbW.out.size)).setCell (p := ⟨w.heap.size, 0, none⟩) (Nat.le_refl _) _).setCell (p := ⟨w.heap.size, 1, none⟩) (Nat.le_refl _) _).setCell (p := ⟨w.heap.size + 1, 0, none⟩) (Nat.le_succ _) _).setCell (p := ⟨w.heap.size + 1, 1, none⟩) (Nat.le_succ _) _
end Go.Proofs.YtdpjdjkfedcojaaGreat
