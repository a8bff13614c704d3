/- The exact laws of StateOk, ItemAt, TalkAt: the program answers as its model, given what the program's own function answers. Condition: what the program's own function answers. -/
import Derived.Test.YtkoohmibdaomkaaEqState
import Derived.Test.YtkoohmibdaomkaaSz
import Derived.Test.YtkoohmibdaomkaaToState
import Derived.Test.YtkoohmibdaomkaaStateOk
import Derived.Test.YtkoohmibdaomkaaImplSays
namespace Go.Proofs.Ytkoohmibdaomkaa
open Go.RowKit
set_option linter.unusedVariables false

theorem RawS.fits {w : World} {B : Nat} {v : Value} {s : St} (h : RawS w B v s) : Fits s := by
  obtain ⟨vi, vt, _, _, _, h3, h4⟩ := h
  exact ⟨fun x hx => h3 x hx, fun x hx => h4 x hx⟩
theorem Small.lens {s : St} (h : Small s 1048576) : s.items.length ≤ maxLen ∧ s.talks.length ≤ maxLen := by
  unfold maxLen
  obtain ⟨h1, _, h2, _⟩ := h
  omega
set_option maxHeartbeats 2000000 in
theorem law_stateOk (hI : ImplStateOk) (s : St) (v : Value) (w : World) (hr : RawS w w.heap.size v s) :
    Calls Try.prog 8 #[v] w fun e w' => e = .returned (.bool true) ∧ Below w.heap.size w w' := by
  have hfit := hr.fits
  obtain ⟨vi, vt, rfl, h1, h2, h3, h4⟩ := hr
  have HR : Hid (RawS w w.heap.size (.agg #[vi, vt]) s) := Lib.hid ⟨vi, vt, rfl, h1, h2, h3, h4⟩
  have Hfit := Lib.hid hfit
  clear hfit h1 h2 h3 h4
  obtain ⟨W, hW⟩ : ∃ W, W = w.alloc (.cells #[vi, vt] 53) := ⟨_, rfl⟩
  have hbW : Below w.heap.size w W := by rw [hW]; exact (Below.refl _ _).alloc (Nat.le_refl _) _
  have hWs : W.heap.size = w.heap.size + 1 := by rw [hW]; simp
  have HV : Hid (∀ w', Below W.heap.size W w' → w'.cell? ⟨w.heap.size, 0, none⟩ = some vi ∧ w'.cell? ⟨w.heap.size, 1, none⟩ = some vt) := Lib.hid (fun w' h => by
    rw [h.cell (show w.heap.size < W.heap.size by omega), h.cell (show w.heap.size < W.heap.size by omega), hW, World.cell?_alloc_new, World.cell?_alloc_new]; exact ⟨rfl, rfl⟩)
  have hc0 := sz_state s _ w.heap.size 1048576 W (HR.out.later hbW (Nat.le_refl _)) hbW.size (by omega)
  rw [hW] at hc0
  go_enter Try.func8, Try.ntmps8
  go_wp2_with (go_at_call 39; refine hc0.mono ?_; rintro e w1 ⟨r, rfl, hr0, hr1, hr2, hb1⟩; refine Hid.out ?_)
  refine Lib.hid ?_
  rw [← hW] at hb1
  have hv1 := HV.out w1 hb1
  have hB1 := hbW.trans (hb1.mono hbW.size)
  have Hb1 := Lib.hid hb1
  clear hc0 hW hb1
  by_cases hneg : r < 0
  · clear hr2
    go_wp2_with fail
    go_ret
    exact ⟨rfl, hB1⟩
  · have Hs := Lib.hid (hr2 (by omega))
    clear hr2
    have hc1 := to_state s _ w.heap.size w1 (HR.out.later hB1 (Nat.le_refl _)) hB1.size Hs.out
    obtain ⟨hv10, hv11⟩ := hv1
    have HB1 := Lib.hid hB1
    clear hB1
    go_wp2_with (go_at_call 40; refine hc1.mono ?_; rintro e w2 ⟨v2, rfl, ho2, hb2⟩; refine Hid.out ?_)
    refine Lib.hid ?_
    have hB2 := HB1.out.trans (hb2.mono HB1.out.size)
    have hc2 := spec_stateOk s v2 w2.heap.size w2 (ho2.st Hs.out.lens.1 Hs.out.lens.2) (Nat.le_refl _) Hfit.out
    have HB2 := Lib.hid hB2
    have Hb2 := Lib.hid (Hb1.out.trans (hb2.mono Hb1.out.size))
    clear hB2 hb2 hc1 ho2
    go_wp2_with (go_at_call 21; refine hc2.mono ?_; rintro e w3 ⟨rfl, hb3⟩; refine Hid.out ?_)
    refine Lib.hid ?_
    have hB3 := HB2.out.trans (hb3.mono HB2.out.size)
    have hb3' := Hb2.out.trans (hb3.mono Hb2.out.size)
    obtain ⟨hv30, hv31⟩ := HV.out w3 hb3'
    have hc3 := to_state s _ w.heap.size w3 (HR.out.later hB3 (Nat.le_refl _)) hB3.size Hs.out
    have HB3 := Lib.hid hB3
    have Hb3 := Lib.hid hb3'
    clear hb3 hb3' hB3 hc2 hv10 hv11
    go_wp2_with (go_at_call 40; refine hc3.mono ?_; rintro e w4 ⟨v4, rfl, ho4, hb4⟩; refine Hid.out ?_)
    refine Lib.hid ?_
    have hst := ho4.st Hs.out.lens.1 Hs.out.lens.2
    have HB4 := Lib.hid (HB3.out.trans (hb4.mono HB3.out.size))
    have Hb4 := Lib.hid (Hb3.out.trans (hb4.mono Hb3.out.size))
    have HR4 : Hid (StV w4 w4.heap.size v4 s) := Lib.hid hst
    obtain ⟨g, k, rfl, _, _, _⟩ := ho4
    clear hst hb4 hc3 hv30 hv31
    obtain ⟨X, hX⟩ : ∃ X, X = w4.alloc (.cells #[.slice (some ⟨g, 0, none⟩) s.items.length s.items.length, .slice (some ⟨k, 0, none⟩) s.talks.length s.talks.length] 27) := ⟨_, rfl⟩
    have hbX : Below w4.heap.size w4 X := by rw [hX]; exact (Below.refl _ _).alloc (Nat.le_refl _) _
    have hXs : X.heap.size = w4.heap.size + 1 := by rw [hX]; simp
    have HX : Hid (∀ w', Below X.heap.size X w' → w'.cell? ⟨w4.heap.size, 0, none⟩ = some (.slice (some ⟨g, 0, none⟩) s.items.length s.items.length) ∧ w'.cell? ⟨w4.heap.size, 1, none⟩ = some (.slice (some ⟨k, 0, none⟩) s.talks.length s.talks.length)) := Lib.hid (fun w' h => by
      rw [h.cell (show w4.heap.size < X.heap.size by omega), h.cell (show w4.heap.size < X.heap.size by omega), hX, World.cell?_alloc_new, World.cell?_alloc_new]; exact ⟨rfl, rfl⟩)
    have hc4 := hI s _ w4.heap.size X (HR4.out.later hbX (Nat.le_refl _)) (by omega) Hfit.out
    have HBX := Lib.hid (HB4.out.trans (hbX.mono HB4.out.size))
    have HbX := Lib.hid (Hb4.out.trans (hbX.mono Hb4.out.size))
    have HRX := Lib.hid (HR4.out.later hbX (Nat.le_refl _))
    rw [hX] at hc4
    clear hbX
    go_wp2_with (go_at_call 20; refine hc4.mono ?_; rintro e w5 ⟨rfl, hb5⟩; refine Hid.out ?_)
    refine Lib.hid ?_
    rw [← hX] at hb5
    have HB5 := Lib.hid (HBX.out.trans (hb5.mono HBX.out.size))
    have Hb5 := Lib.hid (HbX.out.trans (hb5.mono HbX.out.size))
    have HX5 := Lib.hid (fun w' (h : Below w5.heap.size w5 w') => HX.out w' (hb5.trans (h.mono hb5.size)))
    have HV5 := Lib.hid (fun w' (h : Below w5.heap.size w5 w') => HV.out w' (Hb5.out.trans (h.mono Hb5.out.size)))
    have HR5 := Lib.hid (HRX.out.later (hb5.mono (by omega)) (show w4.heap.size ≤ w5.heap.size by have := hb5.size; omega))
    have beqb : (stOk s == stOk s) = true := by simp
    clear hb5 hX hc4
    go_wp2_with fail
    refine wp_region_held_drew (S := (fun w' => Below w5.heap.size w5 w')) (by kernel_rfl) ((Below.refl w5.heap.size w5).drew) (fun hHeld => ?_)
    refine wpAnyH_take (i := 0) (v := ?_) rfl (by kernel_rfl) (by kernel_rfl) (by kernel_rfl) (fun _ _ _ h => h) ?_ (by assumption) ?_
    rotate_left
    · first | (refine Or.inl ⟨by rfl, ?_⟩; intro w hSw; have f0 := HX5.out w hSw; have f1 := HV5.out w hSw; go_simp; done) | (refine Or.inl ⟨by rfl, ?_⟩; intro w hSw; have f0 := HX5.out w hSw; have f1 := HV5.out w hSw; go_simp; with_reducible rfl)
    try simp only [List.getElem_toArray, List.getElem_cons_zero, Act.put, List.setIfInBounds_toArray, List.set_cons_zero, List.set_cons_succ]
    refine wpAnyH_take (i := 1) (v := ?_) rfl (by kernel_rfl) (by kernel_rfl) (by kernel_rfl) (fun _ _ _ h => h) ?_ (by assumption) ?_
    rotate_left
    · first | (refine Or.inl ⟨by rfl, ?_⟩; intro w hSw; have f0 := HX5.out w hSw; have f1 := HV5.out w hSw; go_simp; done) | (refine Or.inl ⟨by rfl, ?_⟩; intro w hSw; have f0 := HX5.out w hSw; have f1 := HV5.out w hSw; go_simp; with_reducible rfl)
    try simp only [List.getElem_toArray, List.getElem_cons_zero, List.getElem_cons_succ, Act.put, List.setIfInBounds_toArray, List.set_cons_zero, List.set_cons_succ]
    refine wpAnyH_ready (rs := [2]) (by kernel_rfl) (by simp) ?_
    refine AllReadyH.cons rfl (fun K hK => ?_) AllReadyH.nil
    go_simp
    (go_at_call 40; refine (to_state s _ w.heap.size _ (HR.out.later (HB5.out.trans (hHeld.mono HB5.out.size)) (Nat.le_refl _)) (Nat.le_trans HB5.out.size hHeld.size) Hs.out).mono ?_; rintro e w6 ⟨v6, rfl, ho6, hb6⟩)
    go_wp2_with fail
    refine hK.out _ _ (hHeld.trans (hb6.mono hHeld.size)) (fun hHeld => ?_)
    clear hK K
    try simp only [List.getElem_toArray, List.getElem_cons_zero, List.getElem_cons_succ, Act.put, List.setIfInBounds_toArray, List.set_cons_zero, List.set_cons_succ]
    refine wpAnyH_ready (rs := [3]) (by kernel_rfl) (by simp) ?_
    refine AllReadyH.cons rfl (fun K hK => ?_) AllReadyH.nil
    go_simp
    (go_at_call 41; refine (eq_state s _ _ w6.heap.size w6 (HR5.out.later hHeld hHeld.size).rd (ho6.st Hs.out.lens.1 Hs.out.lens.2).rd (Nat.le_refl _)).mono ?_; rintro e w7 ⟨rfl, hb7⟩)
    go_wp2_with fail
    refine hK.out _ _ (hHeld.trans (hb7.mono hHeld.size)) (fun hHeld => ?_)
    clear hK K
    try simp only [List.getElem_toArray, List.getElem_cons_zero, List.getElem_cons_succ, Act.put, List.setIfInBounds_toArray, List.set_cons_zero, List.set_cons_succ]
    refine wpAnyH_take (i := 4) (v := ?_) rfl (by kernel_rfl) (by kernel_rfl) (by kernel_rfl) (fun _ _ _ h => h) ?_ (by assumption) ?_
    rotate_left
    · first | (refine Or.inl ⟨by rfl, ?_⟩; intro w hSw; go_simp; done) | (refine Or.inl ⟨by rfl, ?_⟩; intro w hSw; go_simp; with_reducible rfl)
    try simp only [List.getElem_toArray, List.getElem_cons_zero, List.getElem_cons_succ, Act.put, List.setIfInBounds_toArray, List.set_cons_zero, List.set_cons_succ]
    refine wpAnyH_done (by kernel_rfl) ?_ _
    go_wp2_with fail
    go_ret
    exact ⟨rfl, HB5.out.trans (hHeld.mono HB5.out.size)⟩
set_option maxHeartbeats 2000000 in
theorem law_itemAt (hI : ImplItemAt) (s : St) (v : Value) (key : ByteArray) (w : World) (hk : key.size ≤ maxLen) (hr : RawS w w.heap.size v s) :
    Calls Try.prog 9 #[v, .string key] w fun e w' => e = .returned (.bool true) ∧ Below w.heap.size w w' := by
  have hk' := hk
  unfold maxLen at hk'
  by_cases hbig : 1048576 < (key.size : Int)
  · obtain ⟨vi, vt, rfl, _⟩ := hr
    go_enter Try.func9, Try.ntmps9
    go_wp2_with fail
    go_ret
    exact ⟨rfl, (Below.refl _ _).alloc (Nat.le_refl _) _⟩
  have hfit := hr.fits
  obtain ⟨vi, vt, rfl, h1, h2, h3, h4⟩ := hr
  have HR : Hid (RawS w w.heap.size (.agg #[vi, vt]) s) := Lib.hid ⟨vi, vt, rfl, h1, h2, h3, h4⟩
  have Hfit := Lib.hid hfit
  clear hfit h1 h2 h3 h4
  obtain ⟨W, hW⟩ : ∃ W, W = w.alloc (.cells #[vi, vt] 53) := ⟨_, rfl⟩
  have hbW : Below w.heap.size w W := by rw [hW]; exact (Below.refl _ _).alloc (Nat.le_refl _) _
  have hWs : W.heap.size = w.heap.size + 1 := by rw [hW]; simp
  have HV : Hid (∀ w', Below W.heap.size W w' → w'.cell? ⟨w.heap.size, 0, none⟩ = some vi ∧ w'.cell? ⟨w.heap.size, 1, none⟩ = some vt) := Lib.hid (fun w' h => by
    rw [h.cell (show w.heap.size < W.heap.size by omega), h.cell (show w.heap.size < W.heap.size by omega), hW, World.cell?_alloc_new, World.cell?_alloc_new]; exact ⟨rfl, rfl⟩)
  have hc0 := sz_state s _ w.heap.size 1048576 W (HR.out.later hbW (Nat.le_refl _)) hbW.size (by omega)
  rw [hW] at hc0
  go_enter Try.func9, Try.ntmps9
  go_wp2_with (go_at_call 39; refine hc0.mono ?_; rintro e w1 ⟨r, rfl, hr0, hr1, hr2, hb1⟩; refine Hid.out ?_)
  refine Lib.hid ?_
  rw [← hW] at hb1
  have hv1 := HV.out w1 hb1
  have hB1 := hbW.trans (hb1.mono hbW.size)
  have Hb1 := Lib.hid hb1
  clear hc0 hW hb1
  by_cases hneg : r < 0
  · clear hr2
    go_wp2_with fail
    go_ret
    exact ⟨rfl, hB1⟩
  · have Hs := Lib.hid (hr2 (by omega))
    clear hr2
    have hc1 := to_state s _ w.heap.size w1 (HR.out.later hB1 (Nat.le_refl _)) hB1.size Hs.out
    obtain ⟨hv10, hv11⟩ := hv1
    have HB1 := Lib.hid hB1
    clear hB1
    go_wp2_with (go_at_call 40; refine hc1.mono ?_; rintro e w2 ⟨v2, rfl, ho2, hb2⟩; refine Hid.out ?_)
    refine Lib.hid ?_
    have hB2 := HB1.out.trans (hb2.mono HB1.out.size)
    have hc2 := spec_itemAt s v2 w2.heap.size key w2 (ho2.st Hs.out.lens.1 Hs.out.lens.2) (Nat.le_refl _)
    have HB2 := Lib.hid hB2
    have Hb2 := Lib.hid (Hb1.out.trans (hb2.mono Hb1.out.size))
    clear hB2 hb2 hc1 ho2
    go_wp2_with (go_at_call 22; refine hc2.mono ?_; rintro e w3 ⟨rfl, hb3⟩; refine Hid.out ?_)
    refine Lib.hid ?_
    have hB3 := HB2.out.trans (hb3.mono HB2.out.size)
    have hb3' := Hb2.out.trans (hb3.mono Hb2.out.size)
    obtain ⟨hv30, hv31⟩ := HV.out w3 hb3'
    have hc3 := to_state s _ w.heap.size w3 (HR.out.later hB3 (Nat.le_refl _)) hB3.size Hs.out
    have HB3 := Lib.hid hB3
    have Hb3 := Lib.hid hb3'
    clear hb3 hb3' hB3 hc2 hv10 hv11
    go_wp2_with (go_at_call 40; refine hc3.mono ?_; rintro e w4 ⟨v4, rfl, ho4, hb4⟩; refine Hid.out ?_)
    refine Lib.hid ?_
    have hst := ho4.st Hs.out.lens.1 Hs.out.lens.2
    have HB4 := Lib.hid (HB3.out.trans (hb4.mono HB3.out.size))
    have Hb4 := Lib.hid (Hb3.out.trans (hb4.mono Hb3.out.size))
    have HR4 : Hid (StV w4 w4.heap.size v4 s) := Lib.hid hst
    obtain ⟨g, k, rfl, _, _, _⟩ := ho4
    clear hst hb4 hc3 hv30 hv31
    obtain ⟨X, hX⟩ : ∃ X, X = w4.alloc (.cells #[.slice (some ⟨g, 0, none⟩) s.items.length s.items.length, .slice (some ⟨k, 0, none⟩) s.talks.length s.talks.length] 27) := ⟨_, rfl⟩
    have hbX : Below w4.heap.size w4 X := by rw [hX]; exact (Below.refl _ _).alloc (Nat.le_refl _) _
    have hXs : X.heap.size = w4.heap.size + 1 := by rw [hX]; simp
    have HX : Hid (∀ w', Below X.heap.size X w' → w'.cell? ⟨w4.heap.size, 0, none⟩ = some (.slice (some ⟨g, 0, none⟩) s.items.length s.items.length) ∧ w'.cell? ⟨w4.heap.size, 1, none⟩ = some (.slice (some ⟨k, 0, none⟩) s.talks.length s.talks.length)) := Lib.hid (fun w' h => by
      rw [h.cell (show w4.heap.size < X.heap.size by omega), h.cell (show w4.heap.size < X.heap.size by omega), hX, World.cell?_alloc_new, World.cell?_alloc_new]; exact ⟨rfl, rfl⟩)
    have hc4 := hI s _ w4.heap.size key X (HR4.out.later hbX (Nat.le_refl _)) (by omega) Hfit.out hk
    have HBX := Lib.hid (HB4.out.trans (hbX.mono HB4.out.size))
    have HbX := Lib.hid (Hb4.out.trans (hbX.mono Hb4.out.size))
    have HRX := Lib.hid (HR4.out.later hbX (Nat.le_refl _))
    rw [hX] at hc4
    clear hbX
    go_wp2_with (go_at_call 24; refine hc4.mono ?_; rintro e w5 ⟨rfl, hb5⟩; refine Hid.out ?_)
    refine Lib.hid ?_
    rw [← hX] at hb5
    have HB5 := Lib.hid (HBX.out.trans (hb5.mono HBX.out.size))
    have Hb5 := Lib.hid (HbX.out.trans (hb5.mono HbX.out.size))
    have HX5 := Lib.hid (fun w' (h : Below w5.heap.size w5 w') => HX.out w' (hb5.trans (h.mono hb5.size)))
    have HV5 := Lib.hid (fun w' (h : Below w5.heap.size w5 w') => HV.out w' (Hb5.out.trans (h.mono Hb5.out.size)))
    have HR5 := Lib.hid (HRX.out.later (hb5.mono (by omega)) (show w4.heap.size ≤ w5.heap.size by have := hb5.size; omega))
    have hlo := itemAt_lo s.items key
    clear hb5 hX hc4
    go_wp2_with fail
    refine wp_region_held_drew (S := (fun w' => Below w5.heap.size w5 w')) (by kernel_rfl) ((Below.refl w5.heap.size w5).drew) (fun hHeld => ?_)
    refine wpAnyH_take (i := 0) (v := ?_) rfl (by kernel_rfl) (by kernel_rfl) (by kernel_rfl) (fun _ _ _ h => h) ?_ (by assumption) ?_
    rotate_left
    · first | (refine Or.inl ⟨by rfl, ?_⟩; intro w hSw; have f0 := HX5.out w hSw; have f1 := HV5.out w hSw; go_simp; done) | (refine Or.inl ⟨by rfl, ?_⟩; intro w hSw; have f0 := HX5.out w hSw; have f1 := HV5.out w hSw; go_simp; with_reducible rfl)
    try simp only [List.getElem_toArray, List.getElem_cons_zero, Act.put, List.setIfInBounds_toArray, List.set_cons_zero, List.set_cons_succ]
    refine wpAnyH_take (i := 1) (v := ?_) rfl (by kernel_rfl) (by kernel_rfl) (by kernel_rfl) (fun _ _ _ h => h) ?_ (by assumption) ?_
    rotate_left
    · first | (refine Or.inl ⟨by rfl, ?_⟩; intro w hSw; have f0 := HX5.out w hSw; have f1 := HV5.out w hSw; go_simp; done) | (refine Or.inl ⟨by rfl, ?_⟩; intro w hSw; have f0 := HX5.out w hSw; have f1 := HV5.out w hSw; go_simp; with_reducible rfl)
    try simp only [List.getElem_toArray, List.getElem_cons_zero, List.getElem_cons_succ, Act.put, List.setIfInBounds_toArray, List.set_cons_zero, List.set_cons_succ]
    refine wpAnyH_ready (rs := [2]) (by kernel_rfl) (by simp) ?_
    refine AllReadyH.cons rfl (fun K hK => ?_) AllReadyH.nil
    go_simp
    (go_at_call 40; refine (to_state s _ w.heap.size _ (HR.out.later (HB5.out.trans (hHeld.mono HB5.out.size)) (Nat.le_refl _)) (Nat.le_trans HB5.out.size hHeld.size) Hs.out).mono ?_; rintro e w6 ⟨v6, rfl, ho6, hb6⟩)
    go_wp2_with fail
    refine hK.out _ _ (hHeld.trans (hb6.mono hHeld.size)) (fun hHeld => ?_)
    clear hK K
    try simp only [List.getElem_toArray, List.getElem_cons_zero, List.getElem_cons_succ, Act.put, List.setIfInBounds_toArray, List.set_cons_zero, List.set_cons_succ]
    refine wpAnyH_ready (rs := [3]) (by kernel_rfl) (by simp) ?_
    refine AllReadyH.cons rfl (fun K hK => ?_) AllReadyH.nil
    go_simp
    (go_at_call 41; refine (eq_state s _ _ w6.heap.size w6 (HR5.out.later hHeld hHeld.size).rd (ho6.st Hs.out.lens.1 Hs.out.lens.2).rd (Nat.le_refl _)).mono ?_; rintro e w7 ⟨rfl, hb7⟩)
    go_wp2_with fail
    refine hK.out _ _ (hHeld.trans (hb7.mono hHeld.size)) (fun hHeld => ?_)
    clear hK K
    try simp only [List.getElem_toArray, List.getElem_cons_zero, List.getElem_cons_succ, Act.put, List.setIfInBounds_toArray, List.set_cons_zero, List.set_cons_succ]
    refine wpAnyH_take (i := 4) (v := ?_) rfl (by kernel_rfl) (by kernel_rfl) (by kernel_rfl) (fun _ _ _ h => h) ?_ (by assumption) ?_
    rotate_left
    · first | (refine Or.inl ⟨by rfl, ?_⟩; intro w hSw; go_simp; done) | (refine Or.inl ⟨by rfl, ?_⟩; intro w hSw; go_simp; with_reducible rfl)
    try simp only [List.getElem_toArray, List.getElem_cons_zero, List.getElem_cons_succ, Act.put, List.setIfInBounds_toArray, List.set_cons_zero, List.set_cons_succ]
    refine wpAnyH_done (by kernel_rfl) ?_ _
    go_wp2_with fail
    go_ret
    exact ⟨rfl, HB5.out.trans (hHeld.mono HB5.out.size)⟩
set_option maxHeartbeats 2000000 in
theorem law_talkAt (hI : ImplTalkAt) (s : St) (v : Value) (key : ByteArray) (w : World) (hk : key.size ≤ maxLen) (hr : RawS w w.heap.size v s) :
    Calls Try.prog 10 #[v, .string key] w fun e w' => e = .returned (.bool true) ∧ Below w.heap.size w w' := by
  have hk' := hk
  unfold maxLen at hk'
  by_cases hbig : 1048576 < (key.size : Int)
  · obtain ⟨vi, vt, rfl, _⟩ := hr
    go_enter Try.func10, Try.ntmps10
    go_wp2_with fail
    go_ret
    exact ⟨rfl, (Below.refl _ _).alloc (Nat.le_refl _) _⟩
  have hfit := hr.fits
  obtain ⟨vi, vt, rfl, h1, h2, h3, h4⟩ := hr
  have HR : Hid (RawS w w.heap.size (.agg #[vi, vt]) s) := Lib.hid ⟨vi, vt, rfl, h1, h2, h3, h4⟩
  have Hfit := Lib.hid hfit
  clear hfit h1 h2 h3 h4
  obtain ⟨W, hW⟩ : ∃ W, W = w.alloc (.cells #[vi, vt] 53) := ⟨_, rfl⟩
  have hbW : Below w.heap.size w W := by rw [hW]; exact (Below.refl _ _).alloc (Nat.le_refl _) _
  have hWs : W.heap.size = w.heap.size + 1 := by rw [hW]; simp
  have HV : Hid (∀ w', Below W.heap.size W w' → w'.cell? ⟨w.heap.size, 0, none⟩ = some vi ∧ w'.cell? ⟨w.heap.size, 1, none⟩ = some vt) := Lib.hid (fun w' h => by
    rw [h.cell (show w.heap.size < W.heap.size by omega), h.cell (show w.heap.size < W.heap.size by omega), hW, World.cell?_alloc_new, World.cell?_alloc_new]; exact ⟨rfl, rfl⟩)
  have hc0 := sz_state s _ w.heap.size 1048576 W (HR.out.later hbW (Nat.le_refl _)) hbW.size (by omega)
  rw [hW] at hc0
  go_enter Try.func10, Try.ntmps10
  go_wp2_with (go_at_call 39; refine hc0.mono ?_; rintro e w1 ⟨r, rfl, hr0, hr1, hr2, hb1⟩; refine Hid.out ?_)
  refine Lib.hid ?_
  rw [← hW] at hb1
  have hv1 := HV.out w1 hb1
  have hB1 := hbW.trans (hb1.mono hbW.size)
  have Hb1 := Lib.hid hb1
  clear hc0 hW hb1
  by_cases hneg : r < 0
  · clear hr2
    go_wp2_with fail
    go_ret
    exact ⟨rfl, hB1⟩
  · have Hs := Lib.hid (hr2 (by omega))
    clear hr2
    have hc1 := to_state s _ w.heap.size w1 (HR.out.later hB1 (Nat.le_refl _)) hB1.size Hs.out
    obtain ⟨hv10, hv11⟩ := hv1
    have HB1 := Lib.hid hB1
    clear hB1
    go_wp2_with (go_at_call 40; refine hc1.mono ?_; rintro e w2 ⟨v2, rfl, ho2, hb2⟩; refine Hid.out ?_)
    refine Lib.hid ?_
    have hB2 := HB1.out.trans (hb2.mono HB1.out.size)
    have hc2 := spec_talkAt s v2 w2.heap.size key w2 (ho2.st Hs.out.lens.1 Hs.out.lens.2) (Nat.le_refl _)
    have HB2 := Lib.hid hB2
    have Hb2 := Lib.hid (Hb1.out.trans (hb2.mono Hb1.out.size))
    clear hB2 hb2 hc1 ho2
    go_wp2_with (go_at_call 33; refine hc2.mono ?_; rintro e w3 ⟨rfl, hb3⟩; refine Hid.out ?_)
    refine Lib.hid ?_
    have hB3 := HB2.out.trans (hb3.mono HB2.out.size)
    have hb3' := Hb2.out.trans (hb3.mono Hb2.out.size)
    obtain ⟨hv30, hv31⟩ := HV.out w3 hb3'
    have hc3 := to_state s _ w.heap.size w3 (HR.out.later hB3 (Nat.le_refl _)) hB3.size Hs.out
    have HB3 := Lib.hid hB3
    have Hb3 := Lib.hid hb3'
    clear hb3 hb3' hB3 hc2 hv10 hv11
    go_wp2_with (go_at_call 40; refine hc3.mono ?_; rintro e w4 ⟨v4, rfl, ho4, hb4⟩; refine Hid.out ?_)
    refine Lib.hid ?_
    have hst := ho4.st Hs.out.lens.1 Hs.out.lens.2
    have HB4 := Lib.hid (HB3.out.trans (hb4.mono HB3.out.size))
    have Hb4 := Lib.hid (Hb3.out.trans (hb4.mono Hb3.out.size))
    have HR4 : Hid (StV w4 w4.heap.size v4 s) := Lib.hid hst
    obtain ⟨g, k, rfl, _, _, _⟩ := ho4
    clear hst hb4 hc3 hv30 hv31
    obtain ⟨X, hX⟩ : ∃ X, X = w4.alloc (.cells #[.slice (some ⟨g, 0, none⟩) s.items.length s.items.length, .slice (some ⟨k, 0, none⟩) s.talks.length s.talks.length] 27) := ⟨_, rfl⟩
    have hbX : Below w4.heap.size w4 X := by rw [hX]; exact (Below.refl _ _).alloc (Nat.le_refl _) _
    have hXs : X.heap.size = w4.heap.size + 1 := by rw [hX]; simp
    have HX : Hid (∀ w', Below X.heap.size X w' → w'.cell? ⟨w4.heap.size, 0, none⟩ = some (.slice (some ⟨g, 0, none⟩) s.items.length s.items.length) ∧ w'.cell? ⟨w4.heap.size, 1, none⟩ = some (.slice (some ⟨k, 0, none⟩) s.talks.length s.talks.length)) := Lib.hid (fun w' h => by
      rw [h.cell (show w4.heap.size < X.heap.size by omega), h.cell (show w4.heap.size < X.heap.size by omega), hX, World.cell?_alloc_new, World.cell?_alloc_new]; exact ⟨rfl, rfl⟩)
    have hc4 := hI s _ w4.heap.size key X (HR4.out.later hbX (Nat.le_refl _)) (by omega) Hfit.out hk
    have HBX := Lib.hid (HB4.out.trans (hbX.mono HB4.out.size))
    have HbX := Lib.hid (Hb4.out.trans (hbX.mono Hb4.out.size))
    have HRX := Lib.hid (HR4.out.later hbX (Nat.le_refl _))
    rw [hX] at hc4
    clear hbX
    go_wp2_with (go_at_call 32; refine hc4.mono ?_; rintro e w5 ⟨rfl, hb5⟩; refine Hid.out ?_)
    refine Lib.hid ?_
    rw [← hX] at hb5
    have HB5 := Lib.hid (HBX.out.trans (hb5.mono HBX.out.size))
    have Hb5 := Lib.hid (HbX.out.trans (hb5.mono HbX.out.size))
    have HX5 := Lib.hid (fun w' (h : Below w5.heap.size w5 w') => HX.out w' (hb5.trans (h.mono hb5.size)))
    have HV5 := Lib.hid (fun w' (h : Below w5.heap.size w5 w') => HV.out w' (Hb5.out.trans (h.mono Hb5.out.size)))
    have HR5 := Lib.hid (HRX.out.later (hb5.mono (by omega)) (show w4.heap.size ≤ w5.heap.size by have := hb5.size; omega))
    have hlo := talkAt_lo s.talks key
    clear hb5 hX hc4
    go_wp2_with fail
    refine wp_region_held_drew (S := (fun w' => Below w5.heap.size w5 w')) (by kernel_rfl) ((Below.refl w5.heap.size w5).drew) (fun hHeld => ?_)
    refine wpAnyH_take (i := 0) (v := ?_) rfl (by kernel_rfl) (by kernel_rfl) (by kernel_rfl) (fun _ _ _ h => h) ?_ (by assumption) ?_
    rotate_left
    · first | (refine Or.inl ⟨by rfl, ?_⟩; intro w hSw; have f0 := HX5.out w hSw; have f1 := HV5.out w hSw; go_simp; done) | (refine Or.inl ⟨by rfl, ?_⟩; intro w hSw; have f0 := HX5.out w hSw; have f1 := HV5.out w hSw; go_simp; with_reducible rfl)
    try simp only [List.getElem_toArray, List.getElem_cons_zero, Act.put, List.setIfInBounds_toArray, List.set_cons_zero, List.set_cons_succ]
    refine wpAnyH_take (i := 1) (v := ?_) rfl (by kernel_rfl) (by kernel_rfl) (by kernel_rfl) (fun _ _ _ h => h) ?_ (by assumption) ?_
    rotate_left
    · first | (refine Or.inl ⟨by rfl, ?_⟩; intro w hSw; have f0 := HX5.out w hSw; have f1 := HV5.out w hSw; go_simp; done) | (refine Or.inl ⟨by rfl, ?_⟩; intro w hSw; have f0 := HX5.out w hSw; have f1 := HV5.out w hSw; go_simp; with_reducible rfl)
    try simp only [List.getElem_toArray, List.getElem_cons_zero, List.getElem_cons_succ, Act.put, List.setIfInBounds_toArray, List.set_cons_zero, List.set_cons_succ]
    refine wpAnyH_ready (rs := [2]) (by kernel_rfl) (by simp) ?_
    refine AllReadyH.cons rfl (fun K hK => ?_) AllReadyH.nil
    go_simp
    (go_at_call 40; refine (to_state s _ w.heap.size _ (HR.out.later (HB5.out.trans (hHeld.mono HB5.out.size)) (Nat.le_refl _)) (Nat.le_trans HB5.out.size hHeld.size) Hs.out).mono ?_; rintro e w6 ⟨v6, rfl, ho6, hb6⟩)
    go_wp2_with fail
    refine hK.out _ _ (hHeld.trans (hb6.mono hHeld.size)) (fun hHeld => ?_)
    clear hK K
    try simp only [List.getElem_toArray, List.getElem_cons_zero, List.getElem_cons_succ, Act.put, List.setIfInBounds_toArray, List.set_cons_zero, List.set_cons_succ]
    refine wpAnyH_ready (rs := [3]) (by kernel_rfl) (by simp) ?_
    refine AllReadyH.cons rfl (fun K hK => ?_) AllReadyH.nil
    go_simp
    (go_at_call 41; refine (eq_state s _ _ w6.heap.size w6 (HR5.out.later hHeld hHeld.size).rd (ho6.st Hs.out.lens.1 Hs.out.lens.2).rd (Nat.le_refl _)).mono ?_; rintro e w7 ⟨rfl, hb7⟩)
    go_wp2_with fail
    refine hK.out _ _ (hHeld.trans (hb7.mono hHeld.size)) (fun hHeld => ?_)
    clear hK K
    try simp only [List.getElem_toArray, List.getElem_cons_zero, List.getElem_cons_succ, Act.put, List.setIfInBounds_toArray, List.set_cons_zero, List.set_cons_succ]
    refine wpAnyH_take (i := 4) (v := ?_) rfl (by kernel_rfl) (by kernel_rfl) (by kernel_rfl) (fun _ _ _ h => h) ?_ (by assumption) ?_
    rotate_left
    · first | (refine Or.inl ⟨by rfl, ?_⟩; intro w hSw; go_simp; done) | (refine Or.inl ⟨by rfl, ?_⟩; intro w hSw; go_simp; with_reducible rfl)
    try simp only [List.getElem_toArray, List.getElem_cons_zero, List.getElem_cons_succ, Act.put, List.setIfInBounds_toArray, List.set_cons_zero, List.set_cons_succ]
    refine wpAnyH_done (by kernel_rfl) ?_ _
    go_wp2_with fail
    go_ret
    exact ⟨rfl, HB5.out.trans (hHeld.mono HB5.out.size)⟩
end Go.Proofs.Ytkoohmibdaomkaa
