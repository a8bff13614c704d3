/- What the program's changed answers: the state that was changed, if both are right, else the state that it was; a state of its own. Condition: rows that can be read, of a bulk that a row may have. -/
import Derived.Test.YtebmaplflpfjbaaDoorImplCopy
import Derived.Test.YtebmaplflpfjbaaDoorImplState
import Derived.Test.YtebmaplflpfjbaaDoorPutPlain
namespace Go.Proofs.YtebmaplflpfjbaaDoor
open Go.RowKit
set_option linter.unusedVariables false

set_option linter.unusedSimpArgs false
set_option maxRecDepth 100000 in
set_option maxHeartbeats 4000000 in
theorem impl_changed (s r : St) (vs vr : Value) (B : Nat) (w : World) (hs : StV w B vs s) (hr : StV w B vr r) (hB : B ≤ w.heap.size) (hfs : Few s) (hfr : Few r) (hts : Fits s) (htr : Fits r) :
    Calls Tryd.prog 118 #[vs, vr] w fun e w' => ∃ v', e = .returned (.tuple #[v', .bool (chgB s r)]) ∧ OwnN w' w.heap.size v' (chg s r) ∧ Below w.heap.size w w' := by
  have HS := Lib.hid hs
  have HR := Lib.hid hr
  obtain ⟨si, st, rfl, _, _⟩ := hs
  obtain ⟨ri, rt, rfl, _, _⟩ := hr
  obtain ⟨W, hW⟩ : ∃ W, W = ((w.alloc (.cells #[si, st] 27)).alloc (.cells #[ri, rt] 27)).alloc (.cells #[.slice none 0 0, .slice none 0 0] 27) := ⟨_, rfl⟩
  have hbW : Below w.heap.size w W := by rw [hW]; exact (((Below.refl _ _).alloc (Nat.le_refl _) _).alloc (by simp) _).alloc (by simp; omega) _
  have hWs : W.heap.size = w.heap.size + 3 := by rw [hW]; simp
  have k0 : W.heap[w.heap.size]? = some (.cells #[si, st] 27 (0, 0)) := by
    rw [hW, Below.heap_alloc _ _ _ (by simp; omega), Below.heap_alloc _ _ _ (by simp)]; exact heap_new _ _
  have k1 : W.heap[w.heap.size + 1]? = some (.cells #[ri, rt] 27 (0, 0)) := by
    rw [hW, Below.heap_alloc _ _ _ (by simp)]; simpa using heap_new (w.alloc (.cells #[si, st] 27)) (.cells #[ri, rt] 27)
  have k2 : W.heap[w.heap.size + 1 + 1]? = some (.cells #[.slice none 0 0, .slice none 0 0] 27 (0, 0)) := by
    rw [hW]; simpa using heap_new ((w.alloc (.cells #[si, st] 27)).alloc (.cells #[ri, rt] 27)) (.cells #[.slice none 0 0, .slice none 0 0] 27)
  have HA : Hid (∀ w', Below W.heap.size W w' → w'.cell? ⟨w.heap.size, 0, none⟩ = some si ∧ w'.cell? ⟨w.heap.size, 1, none⟩ = some st) := Lib.hid (fun w' h => by
    have j0 := (h.block _ (by omega)).trans k0
    exact ⟨by simpa using cell_of_row w' _ 0 _ _ _ j0, by simpa using cell_of_row w' _ 1 _ _ _ j0⟩)
  have HC : Hid (∀ w', Below W.heap.size W w' → w'.cell? ⟨w.heap.size + 1, 0, none⟩ = some ri ∧ w'.cell? ⟨w.heap.size + 1, 1, none⟩ = some rt) := Lib.hid (fun w' h => by
    have j0 := (h.block _ (by omega)).trans k1
    exact ⟨by simpa using cell_of_row w' _ 0 _ _ _ j0, by simpa using cell_of_row w' _ 1 _ _ _ j0⟩)
  have HK : Hid (∀ w', Below W.heap.size W w' → w'.heap[w.heap.size + 1 + 1]? = some (.cells #[.slice none 0 0, .slice none 0 0] 27 (0, 0))) := Lib.hid (fun w' h => (h.block _ (by omega)).trans k2)
  have HbW := Lib.hid hbW
  have HWs := Lib.hid hWs
  have Hfs := Lib.hid hfs
  have Hfr := Lib.hid hfr
  have Hts := Lib.hid hts
  have Htr := Lib.hid htr
  obtain ⟨a0, a1⟩ := HA.out W (Below.refl _ _)
  have hc0 := impl_stateOk s _ B W (HS.out.later (HbW.out.mono hB) (Nat.le_refl _)) (Nat.le_trans hB HbW.out.size) Hts.out
  rw [hW] at hc0 a0 a1
  clear k0 k1 k2 hbW hWs hfs hfr hts htr
  go_enter Tryd.func118, Tryd.ntmps118
  go_wp2_with (go_at_call 12; refine hc0.mono ?_; rintro e w1 ⟨rfl, hb1⟩; refine Hid.out ?_)
  refine Lib.hid ?_
  rw [← hW] at hb1
  have B1 := Lib.hid hb1
  clear hc0 a0 a1 hb1 hW
  by_cases hok : stOk s = true
  case neg =>
    have hok' : stOk s = false := by simpa using hok
    have hd : Hid (chg s r = s ∧ chgB s r = false) := Lib.hid ⟨if_neg (fun h => hok h.1), by unfold chgB; rw [hok']; rfl⟩
    obtain ⟨a0, a1⟩ := HA.out w1 B1.out
    have hc2 := impl_copy s _ B w1 (HS.out.rd.later ((HbW.out.trans (B1.out.mono HbW.out.size)).mono hB) (Nat.le_refl _)) (Nat.le_trans hB (Nat.le_trans HbW.out.size B1.out.size)) Hfs.out
    clear hok
    go_wp2_with (go_at_call 35; refine hc2.mono ?_; rintro e w3 ⟨v3, rfl, ho3, hb3⟩; refine Hid.out ?_)
    refine Lib.hid ?_
    have B3 := Lib.hid (B1.out.trans (hb3.mono B1.out.size))
    have SZ := Lib.hid (show W.heap.size ≤ w1.heap.size from B1.out.size)
    clear hc2 a0 a1 hb3
    obtain ⟨_, _, gi, ci, gt, ct, rfl, hne, ⟨ai, rfl, sI⟩, ⟨at_, rfl, sT⟩, gotI, gotT⟩ := ho3
    have GI := Lib.hid gotI
    have GT := Lib.hid gotT
    have SI := Lib.hid sI
    have ST := Lib.hid sT
    have jR := HK.out w3 B3.out
    have JR := Lib.hid jR
    have d0 := cell_of_row w3 _ 0 _ _ _ jR
    have d1 := cell_of_row w3 _ 1 _ _ _ jR
    have d2 := frozen_of_row w3 _ 0 _ _ jR
    have d3 := frozen_of_row w3 _ 1 _ _ jR
    simp only [List.getElem?_toArray, List.getElem?_cons_zero, List.getElem?_cons_succ] at d0 d1
    clear gotI gotT sI sT jR
    go_wp2_with fail
    have f1 := heap_setCell_same _ (w.heap.size + 1 + 1) 0 _ _ (Value.slice ai s.items.length ci) JR.out
    have f2 := heap_setCell_same _ (w.heap.size + 1 + 1) 1 _ _ (Value.slice at_ s.talks.length ct) f1
    clear d0 d1 d2 d3
    obtain ⟨j0, q1, q2, q3, q4⟩ := info_parts infoSt
    have hWs := HWs.out
    have hsz := SZ.out
    have bI := GI.out.2.2.2.1
    have bT := GT.out.2.2.2.1
    refine bodyPost_ret (results_cell_row2 (P := Tryd.prog) rfl _ _ (w.heap.size + 1 + 1) _ _ (0, 0) _ _ rfl rfl f2 Tryd.underlying27 rfl (by rw [q1]; simp [q3])) rfl ⟨.agg #[.slice ai s.items.length ci, .slice at_ s.talks.length ct], (by rw [hd.out.2]; rfl), ?_, ?_⟩
    · rw [hd.out.1]
      exact ⟨_, _, gi, ci, gt, ct, rfl, hne, ⟨ai, rfl, SI.out⟩, ⟨at_, rfl, ST.out⟩, ((GI.out.base (by omega)).set (by omega) _).set (by omega) _, ((GT.out.base (by omega)).set (by omega) _).set (by omega) _⟩
    · exact ((HbW.out.trans (B3.out.mono HbW.out.size)).setCell (p := ⟨w.heap.size + 1 + 1, 0, none⟩) (show w.heap.size ≤ w.heap.size + 1 + 1 by omega) _).setCell (p := ⟨w.heap.size + 1 + 1, 1, none⟩) (show w.heap.size ≤ w.heap.size + 1 + 1 by omega) _
  case pos =>
  obtain ⟨c0, c1⟩ := HC.out w1 B1.out
  have hc1 := impl_stateOk r _ B w1 (HR.out.later ((HbW.out.trans (B1.out.mono HbW.out.size)).mono hB) (Nat.le_refl _)) (Nat.le_trans hB (Nat.le_trans HbW.out.size B1.out.size)) Htr.out
  go_wp2_with (go_at_call 12; refine hc1.mono ?_; rintro e w2 ⟨rfl, hb2⟩; refine Hid.out ?_)
  refine Lib.hid ?_
  have B2 := Lib.hid (B1.out.trans (hb2.mono B1.out.size))
  clear hc1 c0 c1 hb2
  by_cases hok2 : stOk r = true
  case neg =>
    have hok' : stOk r = false := by simpa using hok2
    have hd : Hid (chg s r = s ∧ chgB s r = false) := Lib.hid ⟨if_neg (fun h => hok2 h.2), by unfold chgB; rw [hok', Bool.and_false]⟩
    obtain ⟨a0, a1⟩ := HA.out w2 B2.out
    have hc2 := impl_copy s _ B w2 (HS.out.rd.later ((HbW.out.trans (B2.out.mono HbW.out.size)).mono hB) (Nat.le_refl _)) (Nat.le_trans hB (Nat.le_trans HbW.out.size B2.out.size)) Hfs.out
    clear hok2
    go_wp2_with (go_at_call 35; refine hc2.mono ?_; rintro e w3 ⟨v3, rfl, ho3, hb3⟩; refine Hid.out ?_)
    refine Lib.hid ?_
    have B3 := Lib.hid (B2.out.trans (hb3.mono B2.out.size))
    have SZ := Lib.hid (show W.heap.size ≤ w2.heap.size from B2.out.size)
    clear hc2 a0 a1 hb3
    obtain ⟨_, _, gi, ci, gt, ct, rfl, hne, ⟨ai, rfl, sI⟩, ⟨at_, rfl, sT⟩, gotI, gotT⟩ := ho3
    have GI := Lib.hid gotI
    have GT := Lib.hid gotT
    have SI := Lib.hid sI
    have ST := Lib.hid sT
    have jR := HK.out w3 B3.out
    have JR := Lib.hid jR
    have d0 := cell_of_row w3 _ 0 _ _ _ jR
    have d1 := cell_of_row w3 _ 1 _ _ _ jR
    have d2 := frozen_of_row w3 _ 0 _ _ jR
    have d3 := frozen_of_row w3 _ 1 _ _ jR
    simp only [List.getElem?_toArray, List.getElem?_cons_zero, List.getElem?_cons_succ] at d0 d1
    clear gotI gotT sI sT jR
    go_wp2_with fail
    have f1 := heap_setCell_same _ (w.heap.size + 1 + 1) 0 _ _ (Value.slice ai s.items.length ci) JR.out
    have f2 := heap_setCell_same _ (w.heap.size + 1 + 1) 1 _ _ (Value.slice at_ s.talks.length ct) f1
    clear d0 d1 d2 d3
    obtain ⟨j0, q1, q2, q3, q4⟩ := info_parts infoSt
    have hWs := HWs.out
    have hsz := SZ.out
    have bI := GI.out.2.2.2.1
    have bT := GT.out.2.2.2.1
    refine bodyPost_ret (results_cell_row2 (P := Tryd.prog) rfl _ _ (w.heap.size + 1 + 1) _ _ (0, 0) _ _ rfl rfl f2 Tryd.underlying27 rfl (by rw [q1]; simp [q3])) rfl ⟨.agg #[.slice ai s.items.length ci, .slice at_ s.talks.length ct], (by rw [hd.out.2]; rfl), ?_, ?_⟩
    · rw [hd.out.1]
      exact ⟨_, _, gi, ci, gt, ct, rfl, hne, ⟨ai, rfl, SI.out⟩, ⟨at_, rfl, ST.out⟩, ((GI.out.base (by omega)).set (by omega) _).set (by omega) _, ((GT.out.base (by omega)).set (by omega) _).set (by omega) _⟩
    · exact ((HbW.out.trans (B3.out.mono HbW.out.size)).setCell (p := ⟨w.heap.size + 1 + 1, 0, none⟩) (show w.heap.size ≤ w.heap.size + 1 + 1 by omega) _).setCell (p := ⟨w.heap.size + 1 + 1, 1, none⟩) (show w.heap.size ≤ w.heap.size + 1 + 1 by omega) _
  case pos =>
    have hd : Hid (chg s r = r ∧ chgB s r = true) := Lib.hid ⟨if_pos ⟨hok, hok2⟩, by unfold chgB; rw [hok, hok2]; rfl⟩
    obtain ⟨c0, c1⟩ := HC.out w2 B2.out
    have hc2 := impl_copy r _ B w2 (HR.out.rd.later ((HbW.out.trans (B2.out.mono HbW.out.size)).mono hB) (Nat.le_refl _)) (Nat.le_trans hB (Nat.le_trans HbW.out.size B2.out.size)) Hfr.out
    go_wp2_with (go_at_call 35; refine hc2.mono ?_; rintro e w3 ⟨v3, rfl, ho3, hb3⟩; refine Hid.out ?_)
    refine Lib.hid ?_
    have B3 := Lib.hid (B2.out.trans (hb3.mono B2.out.size))
    have SZ := Lib.hid (show W.heap.size ≤ w2.heap.size from B2.out.size)
    clear hc2 c0 c1 hb3
    obtain ⟨_, _, gi, ci, gt, ct, rfl, hne, ⟨ai, rfl, sI⟩, ⟨at_, rfl, sT⟩, gotI, gotT⟩ := ho3
    have GI := Lib.hid gotI
    have GT := Lib.hid gotT
    have SI := Lib.hid sI
    have ST := Lib.hid sT
    have jR := HK.out w3 B3.out
    have JR := Lib.hid jR
    have d0 := cell_of_row w3 _ 0 _ _ _ jR
    have d1 := cell_of_row w3 _ 1 _ _ _ jR
    have d2 := frozen_of_row w3 _ 0 _ _ jR
    have d3 := frozen_of_row w3 _ 1 _ _ jR
    simp only [List.getElem?_toArray, List.getElem?_cons_zero, List.getElem?_cons_succ] at d0 d1
    clear gotI gotT sI sT jR
    go_wp2_with fail
    have f1 := heap_setCell_same _ (w.heap.size + 1 + 1) 0 _ _ (Value.slice ai r.items.length ci) JR.out
    have f2 := heap_setCell_same _ (w.heap.size + 1 + 1) 1 _ _ (Value.slice at_ r.talks.length ct) f1
    clear d0 d1 d2 d3
    obtain ⟨j0, q1, q2, q3, q4⟩ := info_parts infoSt
    have hWs := HWs.out
    have hsz := SZ.out
    have bI := GI.out.2.2.2.1
    have bT := GT.out.2.2.2.1
    refine bodyPost_ret (results_cell_row2 (P := Tryd.prog) rfl _ _ (w.heap.size + 1 + 1) _ _ (0, 0) _ _ rfl rfl f2 Tryd.underlying27 rfl (by rw [q1]; simp [q3])) rfl ⟨.agg #[.slice ai r.items.length ci, .slice at_ r.talks.length ct], (by rw [hd.out.2]; rfl), ?_, ?_⟩
    · rw [hd.out.1]
      exact ⟨_, _, gi, ci, gt, ct, rfl, hne, ⟨ai, rfl, SI.out⟩, ⟨at_, rfl, ST.out⟩, ((GI.out.base (by omega)).set (by omega) _).set (by omega) _, ((GT.out.base (by omega)).set (by omega) _).set (by omega) _⟩
    · exact ((HbW.out.trans (B3.out.mono HbW.out.size)).setCell (p := ⟨w.heap.size + 1 + 1, 0, none⟩) (show w.heap.size ≤ w.heap.size + 1 + 1 by omega) _).setCell (p := ⟨w.heap.size + 1 + 1, 1, none⟩) (show w.heap.size ≤ w.heap.size + 1 + 1 by omega) _
end Go.Proofs.YtebmaplflpfjbaaDoor
