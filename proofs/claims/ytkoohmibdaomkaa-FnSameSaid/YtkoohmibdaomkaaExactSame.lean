/- The exact law of SameState: the program answers as its model, given what the program's own function answers. Condition: what the program's own function answers. -/
import Derived.Test.YtkoohmibdaomkaaExactState
import Derived.Test.YtkoohmibdaomkaaSpecSame
namespace Go.Proofs.Ytkoohmibdaomkaa
open Go.RowKit
set_option linter.unusedVariables false

/-- What the program's own SameState answers. -/
def ImplSameState : Prop := ∀ (a b : St) (va vb : Value) (B : Nat) (w : World), StV w B va a → StV w B vb b → B ≤ w.heap.size → Fits a → Fits b →
  Calls Try.prog 35 #[va, vb] w fun e w' => ∃ r, e = .returned (.bool r) ∧ (r = true ↔ a = b) ∧ Below w.heap.size w w'

set_option maxHeartbeats 4000000 in
theorem law_sameState (hI : ImplSameState) (a b : St) (va vb : Value) (w : World) (hra : RawS w w.heap.size va a) (hrb : RawS w w.heap.size vb b) :
    Calls Try.prog 14 #[va, vb] w fun e w' => e = .returned (.bool true) ∧ Below w.heap.size w w' := by
  have Hfa := Lib.hid hra.fits
  have Hfb := Lib.hid hrb.fits
  obtain ⟨ai, at_, rfl, h1, h2, h3, h4⟩ := hra
  obtain ⟨bi, bt, rfl, h5, h6, h7, h8⟩ := hrb
  have Ra : RawS w w.heap.size (.agg #[ai, at_]) a := ⟨ai, at_, rfl, h1, h2, h3, h4⟩
  have Rb : RawS w w.heap.size (.agg #[bi, bt]) b := ⟨bi, bt, rfl, h5, h6, h7, h8⟩
  clear h1 h2 h3 h4 h5 h6 h7 h8
  obtain ⟨W, hW⟩ : ∃ W, W = (w.alloc (.cells #[ai, at_] 53)).alloc (.cells #[bi, bt] 53) := ⟨_, rfl⟩
  have hbW : Below w.heap.size w W := by rw [hW]; exact ((Below.refl _ _).alloc (Nat.le_refl _) _).alloc (by simp) _
  have hWs : W.heap.size = w.heap.size + 2 := by rw [hW]; simp
  have k0 : W.heap[w.heap.size]? = some (.cells #[ai, at_] 53 (0, 0)) := by
    rw [hW, Below.heap_alloc _ _ _ (by simp)]; exact heap_new _ _
  have k1 : W.heap[w.heap.size + 1]? = some (.cells #[bi, bt] 53 (0, 0)) := by
    rw [hW]; simpa using heap_new (w.alloc (.cells #[ai, at_] 53)) (.cells #[bi, bt] 53)
  have HV : Hid (∀ w', Below W.heap.size W w' → w'.cell? ⟨w.heap.size, 0, none⟩ = some ai ∧ w'.cell? ⟨w.heap.size, 1, none⟩ = some at_ ∧ w'.cell? ⟨w.heap.size + 1, 0, none⟩ = some bi ∧ w'.cell? ⟨w.heap.size + 1, 1, none⟩ = some bt) := Lib.hid (fun w' h => by
    have j0 := (h.block _ (show w.heap.size < W.heap.size by omega)).trans k0
    have j1 := (h.block _ (show w.heap.size + 1 < W.heap.size by omega)).trans k1
    exact ⟨by simpa using cell_of_row w' _ 0 _ _ _ j0, by simpa using cell_of_row w' _ 1 _ _ _ j0, by simpa using cell_of_row w' _ 0 _ _ _ j1, by simpa using cell_of_row w' _ 1 _ _ _ j1⟩)
  have HRa := Lib.hid (fun w' (h : Below W.heap.size W w') => Ra.later (hbW.trans (h.mono hbW.size)) (Nat.le_refl _))
  have HRb := Lib.hid (fun w' (h : Below W.heap.size W w') => Rb.later (hbW.trans (h.mono hbW.size)) (Nat.le_refl _))
  have HbW := Lib.hid hbW
  have v0 := HV.out W (Below.refl _ _)
  have hc0 := sz_state a _ w.heap.size 1048576 W (HRa.out W (Below.refl _ _)) hbW.size (by omega)
  rw [hW] at hc0 v0
  clear k0 k1 hbW Ra Rb
  obtain ⟨v00, v01, v02, v03⟩ := v0
  go_enter Try.func14, Try.ntmps14
  go_wp2_with (go_at_call 39; refine hc0.mono ?_; rintro e w1 ⟨r, rfl, hr0, hr1, hr2, hb1⟩; refine Hid.out ?_)
  refine Lib.hid ?_
  rw [← hW] at hb1
  have v1 := HV.out w1 hb1
  have B1 := Lib.hid hb1
  clear hc0 hW hb1 v00 v01 v02 v03
  by_cases hneg : r < 0
  · clear hr2
    go_wp2_with fail
    go_ret
    exact ⟨rfl, HbW.out.trans (B1.out.mono HbW.out.size)⟩
  · have HSa := Lib.hid (hr2 (by omega))
    clear hr2
    have hc1 := sz_state b _ w.heap.size r w1 (HRb.out w1 B1.out) (Nat.le_trans HbW.out.size B1.out.size) ⟨by omega, by omega⟩
    obtain ⟨v10, v11, v12, v13⟩ := v1
    go_wp2_with (go_at_call 39; refine hc1.mono ?_; rintro e w2 ⟨r2, rfl, hr20, hr21, hr22, hb2⟩; refine Hid.out ?_)
    refine Lib.hid ?_
    have B2 := B1.out.trans (hb2.mono B1.out.size)
    clear v10 v11 v12 v13 hc1 hb2
    by_cases hneg2 : r2 < 0
    · clear hr22
      go_wp2_with fail
      go_ret
      exact ⟨rfl, HbW.out.trans (B2.mono HbW.out.size)⟩
    · have HSb := Lib.hid ((hr22 (by omega)).mono (show r ≤ 1048576 by omega))
      clear hr22
      go_wp2_with fail
      refine wp_region_held_drew (S := (fun w' => Below W.heap.size W w')) (by kernel_rfl) (B2.drew) (fun hHeld => ?_)
      refine wpAnyH_take (i := 0) (v := ?_) rfl (by kernel_rfl) (by kernel_rfl) (by kernel_rfl) (fun _ _ _ h => h) ?_ (by assumption) ?_
      rotate_left
      · first | (refine Or.inl ⟨by rfl, ?_⟩; intro w hSw; have f0 := HV.out w hSw; go_simp; done) | (refine Or.inl ⟨by rfl, ?_⟩; intro w hSw; have f0 := HV.out w hSw; go_simp; with_reducible rfl)
      try simp only [List.getElem_toArray, List.getElem_cons_zero, Act.put, List.setIfInBounds_toArray, List.set_cons_zero, List.set_cons_succ]
      refine wpAnyH_take (i := 2) (v := ?_) rfl (by kernel_rfl) (by kernel_rfl) (by kernel_rfl) (fun _ _ _ h => h) ?_ (by assumption) ?_
      rotate_left
      · first | (refine Or.inl ⟨by rfl, ?_⟩; intro w hSw; have f0 := HV.out w hSw; go_simp; done) | (refine Or.inl ⟨by rfl, ?_⟩; intro w hSw; have f0 := HV.out w hSw; go_simp; with_reducible rfl)
      try simp only [List.getElem_toArray, List.getElem_cons_zero, List.getElem_cons_succ, Act.put, List.setIfInBounds_toArray, List.set_cons_zero, List.set_cons_succ]
      refine wpAnyH_ready (rs := [1]) (by kernel_rfl) (by simp) ?_
      refine AllReadyH.cons rfl (fun K hK => ?_) AllReadyH.nil
      go_simp
      (go_at_call 40; refine (to_state a _ w.heap.size _ (HRa.out _ hHeld) (Nat.le_trans HbW.out.size hHeld.size) HSa.out).mono ?_; rintro e w3 ⟨v3, rfl, ho3, hb3⟩)
      go_wp2_with fail
      refine hK.out _ _ (hHeld.trans (hb3.mono hHeld.size)) (fun hHeld => ?_)
      clear hK K
      try simp only [List.getElem_toArray, List.getElem_cons_zero, List.getElem_cons_succ, Act.put, List.setIfInBounds_toArray, List.set_cons_zero, List.set_cons_succ]
      refine wpAnyH_ready (rs := [3]) (by kernel_rfl) (by simp) ?_
      refine AllReadyH.cons rfl (fun K hK => ?_) AllReadyH.nil
      go_simp
      (go_at_call 40; refine (to_state b _ w.heap.size _ (HRb.out _ hHeld) (Nat.le_trans HbW.out.size hHeld.size) HSb.out).mono ?_; rintro e w4 ⟨v4, rfl, ho4, hb4⟩)
      go_wp2_with fail
      refine hK.out _ _ (hHeld.trans (hb4.mono hHeld.size)) (fun hHeld => ?_)
      clear hK K
      try simp only [List.getElem_toArray, List.getElem_cons_zero, List.getElem_cons_succ, Act.put, List.setIfInBounds_toArray, List.set_cons_zero, List.set_cons_succ]
      refine wpAnyH_ready (rs := [4]) (by kernel_rfl) (by simp) ?_
      refine AllReadyH.cons rfl (fun K hK => ?_) AllReadyH.nil
      go_simp
      (go_at_call 19; refine (spec_same a b _ _ w4.heap.size w4 ((ho3.st HSa.out.lens.1 HSa.out.lens.2).later (hb4) hb4.size).rd (ho4.st HSb.out.lens.1 HSb.out.lens.2).rd (Nat.le_refl _)).mono ?_; rintro e w5 ⟨r, rfl, hr, hb5⟩)
      go_wp2_with fail
      refine hK.out _ _ (hHeld.trans (hb5.mono hHeld.size)) (fun hHeld => ?_)
      clear hK K
      try simp only [List.getElem_toArray, List.getElem_cons_zero, List.getElem_cons_succ, Act.put, List.setIfInBounds_toArray, List.set_cons_zero, List.set_cons_succ]
      refine wpAnyH_take (i := 5) (v := ?_) rfl (by kernel_rfl) (by kernel_rfl) (by kernel_rfl) (fun _ _ _ h => h) ?_ (by assumption) ?_
      rotate_left
      · first | (refine Or.inl ⟨by rfl, ?_⟩; intro w hSw; go_simp; done) | (refine Or.inl ⟨by rfl, ?_⟩; intro w hSw; go_simp; with_reducible rfl)
      try simp only [List.getElem_toArray, List.getElem_cons_zero, List.getElem_cons_succ, Act.put, List.setIfInBounds_toArray, List.set_cons_zero, List.set_cons_succ]
      refine wpAnyH_done (by kernel_rfl) ?_ _
      have B5 := Lib.hid hHeld
      obtain ⟨v50, v51, v52, v53⟩ := HV.out w5 hHeld
      have hc2 := to_state a _ w.heap.size w5 (HRa.out w5 B5.out) (Nat.le_trans HbW.out.size B5.out.size) HSa.out
      have Hr := Lib.hid hr
      clear hHeld hb5 hb4 ho4 hb3 ho3 hr
      go_wp2_with (go_at_call 40; refine hc2.mono ?_; rintro e w6 ⟨v6, rfl, ho6, hb6⟩; refine Hid.out ?_)
      refine Lib.hid ?_
      have B6 := Lib.hid (B5.out.trans (hb6.mono B5.out.size))
      have R6 : Hid (StV w6 w6.heap.size v6 a) := Lib.hid (ho6.st HSa.out.lens.1 HSa.out.lens.2)
      obtain ⟨g, k, rfl, _, _, _⟩ := ho6
      clear hb6 hc2 v50 v51 v52 v53
      obtain ⟨X, hX⟩ : ∃ X, X = w6.alloc (.cells #[.slice (some ⟨g, 0, none⟩) a.items.length a.items.length, .slice (some ⟨k, 0, none⟩) a.talks.length a.talks.length] 27) := ⟨_, rfl⟩
      have bX : Below w6.heap.size w6 X := by rw [hX]; exact (Below.refl _ _).alloc (Nat.le_refl _) _
      have sX : X.heap.size = w6.heap.size + 1 := by rw [hX]; simp
      have HX : Hid (∀ w', Below X.heap.size X w' → w'.cell? ⟨w6.heap.size, 0, none⟩ = some (.slice (some ⟨g, 0, none⟩) a.items.length a.items.length) ∧ w'.cell? ⟨w6.heap.size, 1, none⟩ = some (.slice (some ⟨k, 0, none⟩) a.talks.length a.talks.length)) := Lib.hid (fun w' h => by
        rw [h.cell (show w6.heap.size < X.heap.size by omega), h.cell (show w6.heap.size < X.heap.size by omega), hX, World.cell?_alloc_new, World.cell?_alloc_new]; exact ⟨rfl, rfl⟩)
      have BX := Lib.hid (B6.out.trans (bX.mono B6.out.size))
      have RX := Lib.hid (R6.out.later bX bX.size)
      have SX := Lib.hid sX
      obtain ⟨v60, v61, v62, v63⟩ := HV.out X BX.out
      have hc3 := to_state b _ w.heap.size X (HRb.out X BX.out) (Nat.le_trans HbW.out.size BX.out.size) HSb.out
      rw [hX] at hc3 v60 v61 v62 v63
      clear bX sX
      go_wp2_with (go_at_call 40; refine hc3.mono ?_; rintro e w7 ⟨v7, rfl, ho7, hb7⟩; refine Hid.out ?_)
      refine Lib.hid ?_
      rw [← hX] at ho7 hb7
      have B7 := Lib.hid (BX.out.trans (hb7.mono BX.out.size))
      have R7 : Hid (StV w7 w7.heap.size v7 b) := Lib.hid (ho7.st HSb.out.lens.1 HSb.out.lens.2)
      have RA7 := Lib.hid (RX.out.later hb7 hb7.size)
      obtain ⟨g', k', rfl, _, _, _⟩ := ho7
      obtain ⟨Y, hY⟩ : ∃ Y, Y = w7.alloc (.cells #[.slice (some ⟨g', 0, none⟩) b.items.length b.items.length, .slice (some ⟨k', 0, none⟩) b.talks.length b.talks.length] 27) := ⟨_, rfl⟩
      have bY : Below w7.heap.size w7 Y := by rw [hY]; exact (Below.refl _ _).alloc (Nat.le_refl _) _
      have sY : Y.heap.size = w7.heap.size + 1 := by rw [hY]; simp
      have HY : Hid (∀ w', Below Y.heap.size Y w' → w'.cell? ⟨w7.heap.size, 0, none⟩ = some (.slice (some ⟨g', 0, none⟩) b.items.length b.items.length) ∧ w'.cell? ⟨w7.heap.size, 1, none⟩ = some (.slice (some ⟨k', 0, none⟩) b.talks.length b.talks.length)) := Lib.hid (fun w' h => by
        rw [h.cell (show w7.heap.size < Y.heap.size by omega), h.cell (show w7.heap.size < Y.heap.size by omega), hY, World.cell?_alloc_new, World.cell?_alloc_new]; exact ⟨rfl, rfl⟩)
      have BY := Lib.hid (B7.out.trans (bY.mono B7.out.size))
      have XY := Lib.hid (hb7.trans (bY.mono hb7.size))
      have RBY := Lib.hid (R7.out.later bY bY.size)
      have RAY := Lib.hid (RA7.out.later bY bY.size)
      obtain ⟨x0, x1⟩ := HX.out Y XY.out
      obtain ⟨y0, y1⟩ := HY.out Y (Below.refl _ _)
      have hc4 := hI a b _ _ Y.heap.size Y RAY.out RBY.out (Nat.le_refl _) Hfa.out Hfb.out
      rw [hY] at hc4 x0 x1 y0 y1
      clear bY sY hb7 hX v60 v61 v62 v63 hc3
      go_wp2_with (go_at_call 35; refine hc4.mono ?_; rintro e w8 ⟨r8, rfl, hr8, hb8⟩; refine Hid.out ?_)
      refine Lib.hid ?_
      rw [← hY] at hb8
      have hrr : r8 = r := Bool.eq_iff_iff.2 (hr8.trans Hr.out.symm)
      subst hrr
      have B8 := Lib.hid (BY.out.trans (hb8.mono BY.out.size))
      have HX8 := Lib.hid (fun w' (h : Below w8.heap.size w8 w') => HX.out w' (XY.out.trans ((hb8.trans (h.mono hb8.size)).mono XY.out.size)))
      have HY8 := Lib.hid (fun w' (h : Below w8.heap.size w8 w') => HY.out w' (hb8.trans (h.mono hb8.size)))
      have HV8 := Lib.hid (fun w' (h : Below w8.heap.size w8 w') => HV.out w' (B8.out.trans (h.mono B8.out.size)))
      have RA8 := Lib.hid (RAY.out.later hb8 hb8.size)
      have RB8 := Lib.hid (RBY.out.later hb8 hb8.size)
      have bq : (r8 == r8) = true := by simp
      clear hb8 hY hc4 x0 x1 y0 y1 hr8
      go_wp2_with fail
      refine wp_region_held_drew (S := (fun w' => Below w8.heap.size w8 w')) (by kernel_rfl) ((Below.refl w8.heap.size w8).drew) (fun hHeld => ?_)
      refine wpAnyH_take (i := 0) (v := ?_) rfl (by kernel_rfl) (by kernel_rfl) (by kernel_rfl) (fun _ _ _ h => h) ?_ (by assumption) ?_
      rotate_left
      · first | (refine Or.inl ⟨by rfl, ?_⟩; intro w hSw; have f0 := HX8.out w hSw; have f1 := HV8.out w hSw; go_simp; done) | (refine Or.inl ⟨by rfl, ?_⟩; intro w hSw; have f0 := HX8.out w hSw; have f1 := HV8.out w hSw; go_simp; with_reducible rfl)
      try simp only [List.getElem_toArray, List.getElem_cons_zero, Act.put, List.setIfInBounds_toArray, List.set_cons_zero, List.set_cons_succ]
      refine wpAnyH_take (i := 1) (v := ?_) rfl (by kernel_rfl) (by kernel_rfl) (by kernel_rfl) (fun _ _ _ h => h) ?_ (by assumption) ?_
      rotate_left
      · first | (refine Or.inl ⟨by rfl, ?_⟩; intro w hSw; have f0 := HX8.out w hSw; have f1 := HV8.out w hSw; go_simp; done) | (refine Or.inl ⟨by rfl, ?_⟩; intro w hSw; have f0 := HX8.out w hSw; have f1 := HV8.out w hSw; go_simp; with_reducible rfl)
      try simp only [List.getElem_toArray, List.getElem_cons_zero, List.getElem_cons_succ, Act.put, List.setIfInBounds_toArray, List.set_cons_zero, List.set_cons_succ]
      refine wpAnyH_ready (rs := [2]) (by kernel_rfl) (by simp) ?_
      refine AllReadyH.cons rfl (fun K hK => ?_) AllReadyH.nil
      go_simp
      (go_at_call 40; refine (to_state a _ w.heap.size _ (HRa.out _ (B8.out.trans (hHeld.mono B8.out.size))) (Nat.le_trans HbW.out.size (Nat.le_trans B8.out.size hHeld.size)) HSa.out).mono ?_; rintro e w9 ⟨v9, rfl, ho9, hb9⟩)
      go_wp2_with fail
      refine hK.out _ _ (hHeld.trans (hb9.mono hHeld.size)) (fun hHeld => ?_)
      clear hK K
      try simp only [List.getElem_toArray, List.getElem_cons_zero, List.getElem_cons_succ, Act.put, List.setIfInBounds_toArray, List.set_cons_zero, List.set_cons_succ]
      refine wpAnyH_ready (rs := [3]) (by kernel_rfl) (by simp) ?_
      refine AllReadyH.cons rfl (fun K hK => ?_) AllReadyH.nil
      go_simp
      (go_at_call 41; refine (eq_state a _ _ w9.heap.size w9 (RA8.out.later hHeld hHeld.size).rd (ho9.st HSa.out.lens.1 HSa.out.lens.2).rd (Nat.le_refl _)).mono ?_; rintro e w10 ⟨rfl, hb10⟩)
      go_wp2_with fail
      refine hK.out _ _ (hHeld.trans (hb10.mono hHeld.size)) (fun hHeld => ?_)
      clear hK K
      try simp only [List.getElem_toArray, List.getElem_cons_zero, List.getElem_cons_succ, Act.put, List.setIfInBounds_toArray, List.set_cons_zero, List.set_cons_succ]
      refine wpAnyH_take (i := 4) (v := ?_) rfl (by kernel_rfl) (by kernel_rfl) (by kernel_rfl) (fun _ _ _ h => h) ?_ (by assumption) ?_
      rotate_left
      · first | (refine Or.inl ⟨by rfl, ?_⟩; intro w hSw; go_simp; done) | (refine Or.inl ⟨by rfl, ?_⟩; intro w hSw; go_simp; with_reducible rfl)
      try simp only [List.getElem_toArray, List.getElem_cons_zero, List.getElem_cons_succ, Act.put, List.setIfInBounds_toArray, List.set_cons_zero, List.set_cons_succ]
      refine wpAnyH_done (by kernel_rfl) ?_ _
      go_wp2_with fail
      refine wp_region_held_drew (S := (fun w' => Below w8.heap.size w8 w')) (by kernel_rfl) (hHeld.drew) (fun hHeld => ?_)
      refine wpAnyH_take (i := 0) (v := ?_) rfl (by kernel_rfl) (by kernel_rfl) (by kernel_rfl) (fun _ _ _ h => h) ?_ (by assumption) ?_
      rotate_left
      · first | (refine Or.inl ⟨by rfl, ?_⟩; intro w hSw; have f0 := HY8.out w hSw; have f1 := HV8.out w hSw; go_simp; done) | (refine Or.inl ⟨by rfl, ?_⟩; intro w hSw; have f0 := HY8.out w hSw; have f1 := HV8.out w hSw; go_simp; with_reducible rfl)
      try simp only [List.getElem_toArray, List.getElem_cons_zero, Act.put, List.setIfInBounds_toArray, List.set_cons_zero, List.set_cons_succ]
      refine wpAnyH_take (i := 1) (v := ?_) rfl (by kernel_rfl) (by kernel_rfl) (by kernel_rfl) (fun _ _ _ h => h) ?_ (by assumption) ?_
      rotate_left
      · first | (refine Or.inl ⟨by rfl, ?_⟩; intro w hSw; have f0 := HY8.out w hSw; have f1 := HV8.out w hSw; go_simp; done) | (refine Or.inl ⟨by rfl, ?_⟩; intro w hSw; have f0 := HY8.out w hSw; have f1 := HV8.out w hSw; go_simp; with_reducible rfl)
      try simp only [List.getElem_toArray, List.getElem_cons_zero, List.getElem_cons_succ, Act.put, List.setIfInBounds_toArray, List.set_cons_zero, List.set_cons_succ]
      refine wpAnyH_ready (rs := [2]) (by kernel_rfl) (by simp) ?_
      refine AllReadyH.cons rfl (fun K hK => ?_) AllReadyH.nil
      go_simp
      (go_at_call 40; refine (to_state b _ w.heap.size _ (HRb.out _ (B8.out.trans (hHeld.mono B8.out.size))) (Nat.le_trans HbW.out.size (Nat.le_trans B8.out.size hHeld.size)) HSb.out).mono ?_; rintro e w11 ⟨v11, rfl, ho11, hb11⟩)
      go_wp2_with fail
      refine hK.out _ _ (hHeld.trans (hb11.mono hHeld.size)) (fun hHeld => ?_)
      clear hK K
      try simp only [List.getElem_toArray, List.getElem_cons_zero, List.getElem_cons_succ, Act.put, List.setIfInBounds_toArray, List.set_cons_zero, List.set_cons_succ]
      refine wpAnyH_ready (rs := [3]) (by kernel_rfl) (by simp) ?_
      refine AllReadyH.cons rfl (fun K hK => ?_) AllReadyH.nil
      go_simp
      (go_at_call 41; refine (eq_state b _ _ w11.heap.size w11 (RB8.out.later hHeld hHeld.size).rd (ho11.st HSb.out.lens.1 HSb.out.lens.2).rd (Nat.le_refl _)).mono ?_; rintro e w12 ⟨rfl, hb12⟩)
      go_wp2_with fail
      refine hK.out _ _ (hHeld.trans (hb12.mono hHeld.size)) (fun hHeld => ?_)
      clear hK K
      try simp only [List.getElem_toArray, List.getElem_cons_zero, List.getElem_cons_succ, Act.put, List.setIfInBounds_toArray, List.set_cons_zero, List.set_cons_succ]
      refine wpAnyH_take (i := 4) (v := ?_) rfl (by kernel_rfl) (by kernel_rfl) (by kernel_rfl) (fun _ _ _ h => h) ?_ (by assumption) ?_
      rotate_left
      · first | (refine Or.inl ⟨by rfl, ?_⟩; intro w hSw; go_simp; done) | (refine Or.inl ⟨by rfl, ?_⟩; intro w hSw; go_simp; with_reducible rfl)
      try simp only [List.getElem_toArray, List.getElem_cons_zero, List.getElem_cons_succ, Act.put, List.setIfInBounds_toArray, List.set_cons_zero, List.set_cons_succ]
      refine wpAnyH_done (by kernel_rfl) ?_ _
      go_wp2_with fail
      go_ret
      exact ⟨rfl, HbW.out.trans ((B8.out.trans (hHeld.mono B8.out.size)).mono HbW.out.size)⟩
end Go.Proofs.Ytkoohmibdaomkaa
