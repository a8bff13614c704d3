/- What slices.Clone and the program's copyState make: rows of their own that hold the same. Condition: rows that can be read, of a bulk that a row may have. -/
import Derived.Test.YtebmaplflpfjbaaDoorBaseA
import Derived.Lib.SliceRun
namespace Go.Proofs.YtebmaplflpfjbaaDoor
open Go.RowKit List
set_option linter.unusedVariables false
/-- A clone's row: nil, or of its own. -/
theorem clone_items (xs : List It) (v : Value) (B d : Nat) (w : World) (hr : Raw w B v xs.length (xs.flatMap itC)) (hB : B ≤ w.heap.size) (hf : xs.length ≤ 4398046511104) (hd : d < w.heap.size) :
    Calls Tryd.prog 78 #[v] w fun e w' => ∃ v' g cap, e = .returned v' ∧ SlN v' g xs.length cap ∧ ((g = d ∧ xs.length = 0 ∧ cap = 0) ∨ w.heap.size ≤ g) ∧ Got w' d 41 2 g xs.length cap (xs.flatMap itC) ∧ Below w.heap.size w w' := by
  have qT : ∀ (w : World) (a : Option Addr) (n c n' c' : Nat), (binOp .eql 24 (.slice a n c) (.slice none n' c')).run Tryd.prog w = .ok (.bool a.isNone) w := fun w a n c n' c' => Lib.run_eql_slice_nil w _ _ a n c n' c' Tryd.underlying24
  obtain ⟨a, cap, rfl, hn, hcap, h0, hat⟩ := id hr
  have HR := Lib.hid hr
  have Hf := Lib.hid hf
  cases a with
  | none =>
    obtain rfl : cap = 0 := h0 rfl
    have hx : Hid (xs = []) := Lib.hid (List.eq_nil_of_length_eq_zero (by omega))
    clear hr h0 hat
    go_enter Tryd.func78, Tryd.ntmps78
    go_wp2
    go_ret
    exact ⟨_, d, 0, rfl, ⟨none, by rw [hx.out]; rfl, .inr ⟨rfl, by rw [hx.out]; rfl, rfl⟩⟩, .inl ⟨rfl, by rw [hx.out]; rfl, rfl⟩, by rw [hx.out]; exact ⟨rfl, Nat.le_refl _, Nat.zero_le _, Nat.le_refl _, hd, .inl ⟨rfl, rfl⟩⟩, Below.refl _ _⟩
  | some ad =>
    obtain ⟨W, hW⟩ : ∃ W, W = w.alloc (.cells #[] 41) := ⟨_, rfl⟩
    have hbW : Below w.heap.size w W := by rw [hW]; exact (Below.refl _ _).alloc (Nat.le_refl _) _
    have hWs : W.heap.size = w.heap.size + 1 := by rw [hW]; simp
    obtain ⟨i0, p1, p2, p3, p4⟩ := info_parts infoIt
    have hrun := run_app0 (P := Tryd.prog) W 24 24 41 i0 _ 2 32 Tryd.underlying24 p1 p2 p3 p4 rfl (by decide) w.heap.size d (by omega) (by omega) _ B xs.length (xs.flatMap itC) (hr.later (hbW.mono hB) (Nat.le_refl _)) (flat_len_it xs) (one_it xs) (by unfold maxLen; omega) (by omega)
    obtain ⟨v', w', hrun, hb1, g, c', rfl, hg, hgot⟩ := hrun
    have HG := Lib.hid hgot
    have Hg := Lib.hid hg
    have Hb1 := Lib.hid hb1
    have HWs := Lib.hid hWs
    have HbW := Lib.hid hbW
    rw [hW] at hrun
    have Hrun := Lib.hid hrun
    clear hrun hr h0 hat hgot hg hb1 hWs hbW hW p1 p2 p3 p4 hf hn hcap
    go_enter Tryd.func78, Tryd.ntmps78
    go_wp2_with (at_builtin; refine wpList_app rfl _ _ _ rfl _ _ _ rfl rfl Hrun.out ?_)
    go_ret
    exact ⟨_, g, c', rfl, ⟨_, rfl, .inl rfl⟩, .inr (by have := Hg.out; have := HWs.out; omega), HG.out, HbW.out.trans (Hb1.out.mono HbW.out.size)⟩

/-- A clone's row: nil, or of its own. -/
theorem clone_talks (xs : List Tk) (v : Value) (B d : Nat) (w : World) (hr : Raw w B v xs.length (xs.flatMap tkC)) (hB : B ≤ w.heap.size) (hf : xs.length ≤ 3518437208883) (hd : d < w.heap.size) :
    Calls Tryd.prog 79 #[v] w fun e w' => ∃ v' g cap, e = .returned v' ∧ SlN v' g xs.length cap ∧ ((g = d ∧ xs.length = 0 ∧ cap = 0) ∨ w.heap.size ≤ g) ∧ Got w' d 38 3 g xs.length cap (xs.flatMap tkC) ∧ Below w.heap.size w w' := by
  have qT : ∀ (w : World) (a : Option Addr) (n c n' c' : Nat), (binOp .eql 25 (.slice a n c) (.slice none n' c')).run Tryd.prog w = .ok (.bool a.isNone) w := fun w a n c n' c' => Lib.run_eql_slice_nil w _ _ a n c n' c' Tryd.underlying25
  obtain ⟨a, cap, rfl, hn, hcap, h0, hat⟩ := id hr
  have HR := Lib.hid hr
  have Hf := Lib.hid hf
  cases a with
  | none =>
    obtain rfl : cap = 0 := h0 rfl
    have hx : Hid (xs = []) := Lib.hid (List.eq_nil_of_length_eq_zero (by omega))
    clear hr h0 hat
    go_enter Tryd.func79, Tryd.ntmps79
    go_wp2
    go_ret
    exact ⟨_, d, 0, rfl, ⟨none, by rw [hx.out]; rfl, .inr ⟨rfl, by rw [hx.out]; rfl, rfl⟩⟩, .inl ⟨rfl, by rw [hx.out]; rfl, rfl⟩, by rw [hx.out]; exact ⟨rfl, Nat.le_refl _, Nat.zero_le _, Nat.le_refl _, hd, .inl ⟨rfl, rfl⟩⟩, Below.refl _ _⟩
  | some ad =>
    obtain ⟨W, hW⟩ : ∃ W, W = w.alloc (.cells #[] 38) := ⟨_, rfl⟩
    have hbW : Below w.heap.size w W := by rw [hW]; exact (Below.refl _ _).alloc (Nat.le_refl _) _
    have hWs : W.heap.size = w.heap.size + 1 := by rw [hW]; simp
    obtain ⟨i0, p1, p2, p3, p4⟩ := info_parts infoTk
    have hrun := run_app0 (P := Tryd.prog) W 25 25 38 i0 _ 3 40 Tryd.underlying25 p1 p2 p3 p4 rfl (by decide) w.heap.size d (by omega) (by omega) _ B xs.length (xs.flatMap tkC) (hr.later (hbW.mono hB) (Nat.le_refl _)) (flat_len_tk xs) (one_tk xs) (by unfold maxLen; omega) (by omega)
    obtain ⟨v', w', hrun, hb1, g, c', rfl, hg, hgot⟩ := hrun
    have HG := Lib.hid hgot
    have Hg := Lib.hid hg
    have Hb1 := Lib.hid hb1
    have HWs := Lib.hid hWs
    have HbW := Lib.hid hbW
    rw [hW] at hrun
    have Hrun := Lib.hid hrun
    clear hrun hr h0 hat hgot hg hb1 hWs hbW hW p1 p2 p3 p4 hf hn hcap
    go_enter Tryd.func79, Tryd.ntmps79
    go_wp2_with (at_builtin; refine wpList_app rfl _ _ _ rfl _ _ _ rfl rfl Hrun.out ?_)
    go_ret
    exact ⟨_, g, c', rfl, ⟨_, rfl, .inl rfl⟩, .inr (by have := Hg.out; have := HWs.out; omega), HG.out, HbW.out.trans (Hb1.out.mono HbW.out.size)⟩



set_option linter.unusedSimpArgs false
set_option maxRecDepth 100000 in
set_option maxHeartbeats 4000000 in
theorem impl_copy (s : St) (v : Value) (B : Nat) (w : World) (hs : Rd w B v s) (hB : B ≤ w.heap.size) (hf : Few s) :
    Calls Tryd.prog 35 #[v] w fun e w' => ∃ v', e = .returned v' ∧ OwnN w' w.heap.size v' s ∧ Below w.heap.size w w' := by
  obtain ⟨vi, vt, rfl, hri, hrt⟩ := hs
  obtain ⟨W, hW⟩ : ∃ W, W = (w.alloc (.cells #[vi, vt] 27)).alloc (.cells #[.slice none 0 0, .slice none 0 0] 27) := ⟨_, rfl⟩
  have hbW : Below w.heap.size w W := by rw [hW]; exact ((Below.refl _ _).alloc (Nat.le_refl _) _).alloc (by simp) _
  have hWs : W.heap.size = w.heap.size + 2 := by rw [hW]; simp
  have k0 : W.heap[w.heap.size]? = some (.cells #[vi, vt] 27 (0, 0)) := by
    rw [hW, Below.heap_alloc _ _ _ (by simp)]; exact heap_new _ _
  have k1 : W.heap[w.heap.size + 1]? = some (.cells #[.slice none 0 0, .slice none 0 0] 27 (0, 0)) := by
    rw [hW]; simpa using heap_new (w.alloc (.cells #[vi, vt] 27)) (.cells #[.slice none 0 0, .slice none 0 0] 27)
  have HV : Hid (∀ w', Below W.heap.size W w' → w'.cell? ⟨w.heap.size, 0, none⟩ = some vi ∧ w'.cell? ⟨w.heap.size, 1, none⟩ = some vt) := Lib.hid (fun w' h => by
    have j0 := (h.block _ (show w.heap.size < W.heap.size by omega)).trans k0
    exact ⟨by simpa using cell_of_row w' _ 0 _ _ _ j0, by simpa using cell_of_row w' _ 1 _ _ _ j0⟩)
  have HB0 : Hid (∀ w', Below W.heap.size W w' → w'.heap[w.heap.size]? = some (.cells #[vi, vt] 27 (0, 0))) := Lib.hid (fun w' h => (h.block _ (by omega)).trans k0)
  have HR : Hid (∀ w', Below W.heap.size W w' → w'.heap[w.heap.size + 1]? = some (.cells #[.slice none 0 0, .slice none 0 0] 27 (0, 0))) := Lib.hid (fun w' h => (h.block _ (by omega)).trans k1)
  have Hri := Lib.hid (fun w' (h : Below W.heap.size W w') => hri.later (B' := B) ((hbW.trans (h.mono hbW.size)).mono hB) (Nat.le_refl _))
  have Hrt := Lib.hid (fun w' (h : Below W.heap.size W w') => hrt.later (B' := B) ((hbW.trans (h.mono hbW.size)).mono hB) (Nat.le_refl _))
  have HbW := Lib.hid hbW
  have Hf := Lib.hid (show Few s from hf)
  have HWs := Lib.hid hWs
  have BW := (Below.refl W.heap.size W).drew
  clear hri hrt k0 k1 hbW hf hWs
  go_enter Tryd.func35, Tryd.ntmps35
  go_wp2_with fail
  rw [← hW]
  clear hW
  refine wp_region_held_drew (S := (fun w' => w'.cell? ⟨w.heap.size, 0, none⟩ = some vi ∧ w'.cell? ⟨w.heap.size, 1, none⟩ = some vt)) (by kernel_rfl) (HV.out _ (Below.refl W.heap.size W).drew) (fun hHeld => ?_)
  refine tk0 0 ?_
  refine tk 1 (v := ?_) ?_ ?_; rotate_left
  · refine Or.inl ⟨by rfl, ?_⟩; intro w hSw; obtain ⟨hS0, hS1⟩ := hSw; go_simp; first | done | with_reducible rfl
  refine tk0 3 ?_
  refine tk 4 (v := ?_) ?_ ?_; rotate_left
  · refine Or.inl ⟨by rfl, ?_⟩; intro w hSw; obtain ⟨hS0, hS1⟩ := hSw; go_simp; first | done | with_reducible rfl
  refine rd1 2 (fun K hK => ?_)
  go_simp
  go_at_call 78
  refine (clone_items s.items vi B w.heap.size _ (Hri.out _ BW) (Nat.le_trans hB HbW.out.size) Hf.out.1 (by have := HWs.out; simp; omega)).mono ?_
  rintro e w1 ⟨v1, gi, ci, rfl, ⟨a1, rfl, sn1⟩, gi1, got1, b1⟩
  have B1 := (Below.refl W.heap.size W).drew.trans b1
  have S1 := Lib.hid sn1
  have G1 := Lib.hid got1
  have E1 := Lib.hid gi1
  have HB1 := Lib.hid B1
  clear sn1 got1 gi1 b1
  go_wp2_with fail
  refine hK.out _ _ (HV.out _ HB1.out) (fun hHeld => ?_)
  clear hK K
  refine rd1 5 (fun K hK => ?_)
  go_simp
  go_at_call 79
  refine (clone_talks s.talks vt B (w.heap.size + 1) _ (Hrt.out _ HB1.out) (Nat.le_trans hB (Nat.le_trans HbW.out.size HB1.out.size)) Hf.out.2 (by have := HWs.out; have := HB1.out.size; omega)).mono ?_
  rintro e w2 ⟨v2, gt, ct, rfl, ⟨a2, rfl, sn2⟩, gt2, got2, b2⟩
  have HB2 := Lib.hid (HB1.out.trans (b2.mono HB1.out.size))
  have S2 := Lib.hid sn2
  have G2 := Lib.hid got2
  have E2 := Lib.hid gt2
  have G1' := Lib.hid (G1.out.later b2)
  have HB1s := Lib.hid HB1.out.size
  clear sn2 got2 gt2 b2
  go_wp2_with fail
  refine hK.out _ _ (HV.out _ HB2.out) (fun hHeld => ?_)
  clear hK K
  refine tk0 6 ?_
  have r2 := HR.out w2 HB2.out
  have R2 := Lib.hid r2
  have d0 := cell_of_row w2 _ 0 _ _ _ r2
  have d1 := cell_of_row w2 _ 1 _ _ _ r2
  have d2 := frozen_of_row w2 _ 0 _ _ r2
  have d3 := frozen_of_row w2 _ 1 _ _ r2
  simp only [List.getElem?_toArray, List.getElem?_cons_zero, List.getElem?_cons_succ] at d0 d1
  clear r2
  refine rd1 7 (fun K hK => ?_)
  go_simp
  obtain ⟨Y, hY⟩ : ∃ Y, Y = (w2.setCell ⟨w.heap.size + 1, 0, none⟩ (.slice a1 s.items.length ci)).setCell ⟨w.heap.size + 1, 1, none⟩ (.slice a2 s.talks.length ct) := ⟨_, rfl⟩
  rw [← hY]
  have f1 := heap_setCell_same _ (w.heap.size + 1) 0 _ _ (.slice a1 s.items.length ci) R2.out
  have f2 := heap_setCell_same _ (w.heap.size + 1) 1 _ _ (.slice a2 s.talks.length ct) f1
  rw [← hY] at f2
  have hBY : Hid (w.heap.size ≤ w2.heap.size ∧ Y.heap[w.heap.size]? = w2.heap[w.heap.size]?) := Lib.hid ⟨by have := HWs.out; have := HB2.out.size; omega, by rw [hY, Below.heap_setCell _ _ _ _ (by simp), Below.heap_setCell _ _ _ _ (by simp)]⟩
  have KY : Hid (Y.cell? ⟨w.heap.size, 0, none⟩ = some vi ∧ Y.cell? ⟨w.heap.size, 1, none⟩ = some vt) := Lib.hid (by
    have j0 := hBY.out.2.trans (HB0.out w2 HB2.out)
    exact ⟨by simpa using cell_of_row Y _ 0 _ _ _ j0, by simpa using cell_of_row Y _ 1 _ _ _ j0⟩)
  have F2 := Lib.hid f2
  have HY := Lib.hid hY
  clear f1 f2 hY
  go_wp2_with fail
  refine hK.out _ _ (KY.out) (fun hHeld => ?_)
  clear hK K
  try simp only [getElem_toArray, getElem_cons_zero, getElem_cons_succ, Act.put, setIfInBounds_toArray, set_cons_zero, set_cons_succ]
  refine wpAnyH_done (by kernel_rfl) ?_ _
  clear hHeld d0 d1 d2 d3
  go_wp2_with fail
  obtain ⟨j0, q1, q2, q3, q4⟩ := info_parts infoSt
  have hWs := HWs.out
  have s1 := HB1s.out
  have e1 := E1.out
  have e2 := E2.out
  refine bodyPost_ret (results_cell_row (P := Tryd.prog) rfl _ _ (w.heap.size + 1) _ _ (0, 0) _ rfl F2.out Tryd.underlying27 rfl (by rw [q1]; simp [q3])) rfl ⟨_, rfl, ⟨_, _, gi, ci, gt, ct, rfl, ?_, ⟨a1, rfl, S1.out⟩, ⟨a2, rfl, S2.out⟩, ?_, ?_⟩, ?_⟩
  · have l1 := G1.out.2.2.2.2.1
    simp at e1
    omega
  · rw [HY.out]
    have g1 := G1'.out
    exact ((g1.base (by omega : w.heap.size ≤ w.heap.size)).set (by simp at e1; omega) _).set (by simp at e1; omega) _
  · rw [HY.out]
    have g2 := G2.out
    by_cases hgt : gt = w.heap.size + 1
    · have hz : s.talks.length = 0 ∧ ct = 0 := by
        rcases e2 with h | h
        · exact h.2
        · omega
      obtain ⟨q1, q2, q3, q4, q5, _⟩ := g2
      exact ⟨q1, q2, q3, by omega, by simpa using q5, .inl hz⟩
    · exact ((g2.base (by omega : w.heap.size ≤ w.heap.size + 1)).set (by omega) _).set (by omega) _
  · rw [HY.out]
    exact ((HbW.out.trans (HB2.out.mono HbW.out.size)).setCell (p := ⟨w.heap.size + 1, 0, none⟩) (by simp) _).setCell (p := ⟨w.heap.size + 1, 1, none⟩) (by simp) _

end Go.Proofs.YtebmaplflpfjbaaDoor
