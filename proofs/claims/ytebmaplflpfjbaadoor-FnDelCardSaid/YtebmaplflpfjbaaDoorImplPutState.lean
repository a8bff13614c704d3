/- What the program's PutItem and PutTalk answer. Condition: rows that can be read, of a bulk that a state may have. -/
import Derived.Test.YtebmaplflpfjbaaDoorBaseA
import Derived.Test.YtebmaplflpfjbaaDoorImplPut
import Derived.Test.YtebmaplflpfjbaaDoorImplChanged
namespace Go.Proofs.YtebmaplflpfjbaaDoor
open Go.RowKit List
set_option linter.unusedVariables false
set_option linter.unusedSimpArgs false

/-- What the program's own PutItem answers. -/
def ImplPutItem : Prop := ∀ (s : St) (v : Value) (x : It) (B : Nat) (w : World), StV w B v s → B ≤ w.heap.size → Small s 2097152 → Fits s → FitIt x →
  Calls Tryd.prog 126 #[v, itA x] w fun e w' => ∃ v', e = .returned (.tuple #[v', .bool (chgB s (putSI s x))]) ∧ OwnN w' w.heap.size v' (chg s (putSI s x)) ∧ Below w.heap.size w w'

set_option maxRecDepth 100000 in
set_option maxHeartbeats 4000000 in
theorem impl_putItem : ImplPutItem := by
  intro s v x B w hs hB hsm hts hx
  have HS := Lib.hid hs
  obtain ⟨vi, vt, rfl, hri, hrt⟩ := hs
  obtain ⟨a0, n0, c0, rfl⟩ := slice_of_row hrt
  obtain ⟨r, hr⟩ : ∃ r, r = putSI s x := ⟨_, rfl⟩
  rw [← hr]
  unfold itA
  obtain ⟨W, hW⟩ : ∃ W, W = ((w.alloc (.cells #[vi, (Value.slice a0 n0 c0)] 27)).alloc (.cells #[.string x.k, .string x.v] 41)).alloc (.cells #[.slice none 0 0, .slice none 0 0] 27) := ⟨_, rfl⟩
  have hbW : Below w.heap.size w W := by rw [hW]; exact (((Below.refl _ _).alloc (Nat.le_refl _) _).alloc (by simp) _).alloc (by simp; omega) _
  have hWs : W.heap.size = w.heap.size + 3 := by rw [hW]; simp
  have k0 : W.heap[w.heap.size]? = some (.cells #[vi, (Value.slice a0 n0 c0)] 27 (0, 0)) := by
    rw [hW, Below.heap_alloc _ _ _ (by simp; omega), Below.heap_alloc _ _ _ (by simp)]; exact heap_new _ _
  have k1 : W.heap[w.heap.size + 1]? = some (.cells #[.string x.k, .string x.v] 41 (0, 0)) := by
    rw [hW, Below.heap_alloc _ _ _ (by simp)]; simpa using heap_new (w.alloc (.cells #[vi, (Value.slice a0 n0 c0)] 27)) (.cells #[.string x.k, .string x.v] 41)
  have k2 : W.heap[w.heap.size + 1 + 1]? = some (.cells #[.slice none 0 0, .slice none 0 0] 27 (0, 0)) := by
    rw [hW]; simpa using heap_new ((w.alloc (.cells #[vi, (Value.slice a0 n0 c0)] 27)).alloc (.cells #[.string x.k, .string x.v] 41)) (.cells #[.slice none 0 0, .slice none 0 0] 27)
  have HV : Hid (∀ w', Below W.heap.size W w' → w'.cell? ⟨w.heap.size, 0, none⟩ = some vi ∧ w'.cell? ⟨w.heap.size, 1, none⟩ = some (Value.slice a0 n0 c0) ∧ w'.cell? ⟨w.heap.size + 1, 0, none⟩ = some (.string x.k) ∧ w'.cell? ⟨w.heap.size + 1, 1, none⟩ = some (.string x.v)) := Lib.hid (fun w' h => by
    have j0 := (h.block _ (by omega)).trans k0
    have j1 := (h.block _ (by omega)).trans k1
    exact ⟨by simpa using cell_of_row w' _ 0 _ _ _ j0, by simpa using cell_of_row w' _ 1 _ _ _ j0, by simpa using cell_of_row w' _ 0 _ _ _ j1, by simpa using cell_of_row w' _ 1 _ _ _ j1⟩)
  have HK : Hid (∀ w', Below W.heap.size W w' → w'.heap[w.heap.size + 1 + 1]? = some (.cells #[.slice none 0 0, .slice none 0 0] 27 (0, 0))) := Lib.hid (fun w' h => (h.block _ (by omega)).trans k2)
  have HbW := Lib.hid hbW
  have HWs := Lib.hid hWs
  have Hfs : Hid (Few s) := Lib.hid (by unfold Small at hsm; unfold Few; omega)
  have Hr := Lib.hid hr
  have Hfr : Hid (Few r) := Lib.hid (by
    have h1 := putI_len s.items x
    unfold Small at hsm; unfold Few; rw [hr]; unfold putSI; simp only; omega)
  have Hts := Lib.hid hts
  have Htr : Hid (Fits r) := Lib.hid (by
    rw [hr]
    exact fits_putSI hts hx)
  have Hput : Hid (∀ w', Below W.heap.size W w' → Calls Tryd.prog 134 #[vi, .agg #[.string x.k, .string x.v]] w' fun e w'' => ∃ g' cap', e = .returned (.slice (some ⟨g', 0, none⟩) (putI s.items x).length cap') ∧ Got w'' w'.heap.size 41 2 g' (putI s.items x).length cap' ((putI s.items x).flatMap itC) ∧ Below w'.heap.size w' w'') := Lib.hid (fun w' h => by
    have hrow := hri.later (w' := w') (B' := B) (by decide) ((hbW.trans (h.mono hbW.size)).mono hB) (Nat.le_refl _)
    have hB' : B ≤ w'.heap.size := Nat.le_trans hB (Nat.le_trans hbW.size h.size)
    have hraw := raw_of_row hrow
    rcases hrow with ⟨_, ⟨rfl, h0⟩ | ⟨g, o, cap, rfl, _⟩⟩
    · have hx0 : s.items = [] := List.eq_nil_of_length_eq_zero h0
      have hp := put_itemsNil x w'
      rw [hx0]
      unfold itA at hp
      refine hp.mono ?_
      rintro e w'' ⟨g', cap', rfl, g1, g2⟩
      exact ⟨g', cap', rfl, by simpa [putI, posI] using g1, g2⟩
    · have hp := put_items s.items x g o cap B w' hraw hB' (by unfold Small at hsm; omega)
      unfold itA at hp
      exact hp)
  clear hri hrt k0 k1 k2 hbW hWs hsm hts hx hr
  go_enter Tryd.func126, Tryd.ntmps126
  go_wp2_with fail
  rw [← hW]
  clear hW
  refine wp_region_held_drew (S := (fun w' => w'.cell? ⟨w.heap.size, 0, none⟩ = some vi ∧ w'.cell? ⟨w.heap.size, 1, none⟩ = some (Value.slice a0 n0 c0) ∧ w'.cell? ⟨w.heap.size + 1, 0, none⟩ = some (.string x.k) ∧ w'.cell? ⟨w.heap.size + 1, 1, none⟩ = some (.string x.v))) (by kernel_rfl) (HV.out _ (Below.refl W.heap.size W).drew) (fun hHeld => ?_)
  refine tk 0 (v := ?_) ?_ ?_; rotate_left
  · refine Or.inl ⟨by rfl, ?_⟩; intro w hSw; obtain ⟨hS0, hS1, hS2, hS3⟩ := hSw; go_simp; first | done | with_reducible rfl
  refine tk0 1 ?_
  refine tk 2 (v := ?_) ?_ ?_; rotate_left
  · refine Or.inl ⟨by rfl, ?_⟩; intro w hSw; obtain ⟨hS0, hS1, hS2, hS3⟩ := hSw; go_simp; first | done | with_reducible rfl
  refine tk 3 (v := ?_) ?_ ?_; rotate_left
  · refine Or.inl ⟨by rfl, ?_⟩; intro w hSw; obtain ⟨hS0, hS1, hS2, hS3⟩ := hSw; go_simp; first | done | with_reducible rfl
  refine tk0 5 ?_
  refine tk 6 (v := ?_) ?_ ?_; rotate_left
  · refine Or.inl ⟨by rfl, ?_⟩; intro w hSw; obtain ⟨hS0, hS1, hS2, hS3⟩ := hSw; go_simp; first | done | with_reducible rfl
  refine rd1 4 (fun K hK => ?_)
  go_simp
  go_at_call 134
  refine (Hput.out _ (Below.refl W.heap.size W).drew).mono ?_
  rintro e w1 ⟨g, cap, rfl, got1, b1⟩
  have B1 := Lib.hid ((Below.refl W.heap.size W).drew.trans b1)
  have G1 := Lib.hid got1
  clear got1 b1
  go_wp2_with fail
  refine hK.out _ _ (HV.out _ B1.out) (fun hHeld => ?_)
  clear hK K
  refine tk0 7 ?_
  refine rd1 8 (fun K hK => ?_)
  go_simp
  go_at_call 118
  have hr1 : Row w1 w1.heap.size 2 (.slice (some ⟨g, 0, none⟩) (putI s.items x).length cap) (putI s.items x).length ((putI s.items x).flatMap itC) := row_of_got G1.out
  have hB1 : B ≤ w1.heap.size := Nat.le_trans hB (Nat.le_trans HbW.out.size B1.out.size)
  have hst := HS.out.later ((HbW.out.trans (B1.out.mono HbW.out.size)).mono hB) hB1
  have hst2 : StV w1 w1.heap.size (.agg #[.slice (some ⟨g, 0, none⟩) (putI s.items x).length cap, (Value.slice a0 n0 c0)]) r := by
    obtain ⟨_, _, hv, h1, h2⟩ := hst
    cases hv
    rw [Hr.out]
    exact ⟨_, _, rfl, hr1, h2⟩
  refine (impl_changed s r _ _ w1.heap.size w1 hst hst2 (Nat.le_refl _) Hfs.out Hfr.out Hts.out Htr.out).mono ?_
  rintro e w2 ⟨v2, rfl, ho2, b2⟩
  have B2 := Lib.hid (B1.out.trans (b2.mono B1.out.size))
  have SZ := Lib.hid (Nat.le_trans HbW.out.size B1.out.size)
  obtain ⟨_, _, gi, ci, gt, ct, rfl, hne, ⟨ai, rfl, sI⟩, ⟨at_, rfl, sT⟩, gotI, gotT⟩ := ho2
  have GI := Lib.hid gotI
  have GT := Lib.hid gotT
  have SI := Lib.hid sI
  have ST := Lib.hid sT
  have LW := Lib.hid B1.out.size
  clear hst hst2 hr1 hB1 gotI gotT sI sT b2
  go_wp2_with fail
  refine hK.out _ _ (HV.out _ B2.out) (fun hHeld => ?_)
  clear hK K
  refine tk0 9 ?_
  refine tk0 10 ?_
  have r2 := HK.out w2 B2.out
  have R2 := Lib.hid r2
  have d0 := cell_of_row w2 _ 0 _ _ _ r2
  have d1 := cell_of_row w2 _ 1 _ _ _ r2
  have d2 := frozen_of_row w2 _ 0 _ _ r2
  have d3 := frozen_of_row w2 _ 1 _ _ r2
  simp only [List.getElem?_toArray, List.getElem?_cons_zero, List.getElem?_cons_succ] at d0 d1
  clear r2
  refine rd1 11 (fun K hK => ?_)
  go_simp
  obtain ⟨Y, hY⟩ : ∃ Y, Y = (w2.setCell ⟨w.heap.size + 1 + 1, 0, none⟩ (.slice ai (chg s r).items.length ci)).setCell ⟨w.heap.size + 1 + 1, 1, none⟩ (.slice at_ (chg s r).talks.length ct) := ⟨_, rfl⟩
  rw [← hY]
  have f1 := heap_setCell_same _ (w.heap.size + 1 + 1) 0 _ _ (.slice ai (chg s r).items.length ci) R2.out
  have f2 := heap_setCell_same _ (w.heap.size + 1 + 1) 1 _ _ (.slice at_ (chg s r).talks.length ct) f1
  rw [← hY] at f2
  have KY : Hid (Y.cell? ⟨w.heap.size, 0, none⟩ = some vi ∧ Y.cell? ⟨w.heap.size, 1, none⟩ = some (Value.slice a0 n0 c0) ∧ Y.cell? ⟨w.heap.size + 1, 0, none⟩ = some (.string x.k) ∧ Y.cell? ⟨w.heap.size + 1, 1, none⟩ = some (.string x.v)) := Lib.hid (by
    have j0 : Y.heap[w.heap.size]? = w2.heap[w.heap.size]? := by rw [hY, Below.heap_setCell _ _ _ _ (by simp; omega), Below.heap_setCell _ _ _ _ (by simp; omega)]
    have j1 : Y.heap[w.heap.size + 1]? = w2.heap[w.heap.size + 1]? := by rw [hY, Below.heap_setCell _ _ _ _ (by simp), Below.heap_setCell _ _ _ _ (by simp)]
    have h2 := HV.out w2 B2.out
    simp only [World.cell?, j0, j1] at h2 ⊢
    exact h2)
  have F2 := Lib.hid f2
  have HY := Lib.hid hY
  clear f1 f2 hY
  go_wp2_with fail
  refine hK.out _ _ (KY.out) (fun hHeld => ?_)
  clear hK K
  refine tk0 12 ?_
  refine wpAnyH_done (by kernel_rfl) ?_ _
  clear hHeld d0 d1 d2 d3
  go_wp2_with fail
  obtain ⟨j0, q1, q2, q3, q4⟩ := info_parts infoSt
  have hWs := HWs.out
  have hsz := SZ.out
  have hlw := LW.out
  have bI := GI.out.2.2.2.1
  have bT := GT.out.2.2.2.1
  refine bodyPost_ret (results_cell_row2 (P := Tryd.prog) rfl _ _ (w.heap.size + 1 + 1) _ _ (0, 0) _ _ rfl rfl F2.out Tryd.underlying27 rfl (by rw [q1]; simp [q3])) rfl ⟨.agg #[.slice ai (chg s r).items.length ci, .slice at_ (chg s r).talks.length ct], rfl, ?_, ?_⟩
  · rw [HY.out]
    exact ⟨_, _, gi, ci, gt, ct, rfl, hne, ⟨ai, rfl, SI.out⟩, ⟨at_, rfl, ST.out⟩, ((GI.out.base (by omega)).set (by omega) _).set (by omega) _, ((GT.out.base (by omega)).set (by omega) _).set (by omega) _⟩
  · rw [HY.out]
    exact ((HbW.out.trans (B2.out.mono HbW.out.size)).setCell (p := ⟨w.heap.size + 1 + 1, 0, none⟩) (show w.heap.size ≤ w.heap.size + 1 + 1 by omega) _).setCell (p := ⟨w.heap.size + 1 + 1, 1, none⟩) (show w.heap.size ≤ w.heap.size + 1 + 1 by omega) _

end Go.Proofs.YtebmaplflpfjbaaDoor
