/- What the program's DropItem answers: a state of its own. Condition: rows that can be read, of a bulk that a row may have. -/
import Derived.Test.YtebmaplflpfjbaaDoorImplCopy
import Derived.Test.YtebmaplflpfjbaaDoorImplDelete
import Derived.Test.YtebmaplflpfjbaaDoorImplAt
import Derived.Test.YtebmaplflpfjbaaDoorImplState
import Derived.Test.YtebmaplflpfjbaaDoorSpecDrop
namespace Go.Proofs.YtebmaplflpfjbaaDoor
open Go.RowKit
set_option linter.unusedVariables false

/-- What the program's own DropItem answers. -/
def ImplDropItem : Prop := ∀ (s : St) (v : Value) (B : Nat) (key : ByteArray) (w : World), StV w B v s → B ≤ w.heap.size → Few s → Fits s → key.size ≤ maxLen →
  Calls Tryd.prog 26 #[v, .string key] w fun e w' => ∃ v', e = .returned v' ∧ OwnN w' w.heap.size v' (dropS s key) ∧ Below w.heap.size w w'

set_option linter.unusedSimpArgs false
set_option maxRecDepth 100000 in
set_option maxHeartbeats 4000000 in
theorem impl_dropItem : ImplDropItem := by
  intro s v B key w hs hB hf hfit hkey
  have HS := Lib.hid hs
  have hrd := hs.rd
  obtain ⟨vi, vt, rfl, _, _⟩ := hs
  obtain ⟨W, hW⟩ : ∃ W, W = (w.alloc (.cells #[vi, vt] 27)).alloc (.cells #[.slice none 0 0, .slice none 0 0] 27) := ⟨_, rfl⟩
  have hbW : Below w.heap.size w W := by rw [hW]; exact ((Below.refl _ _).alloc (Nat.le_refl _) _).alloc (by simp) _
  have hWs : W.heap.size = w.heap.size + 2 := by rw [hW]; simp
  have k0 : W.heap[w.heap.size]? = some (.cells #[vi, vt] 27 (0, 0)) := by
    rw [hW, Below.heap_alloc _ _ _ (by simp)]; exact heap_new _ _
  have k1 : W.heap[w.heap.size + 1]? = some (.cells #[.slice none 0 0, .slice none 0 0] 27 (0, 0)) := by
    rw [hW]; simpa using heap_new (w.alloc (.cells #[vi, vt] 27)) (.cells #[.slice none 0 0, .slice none 0 0] 27)
  have HB0 : Hid (∀ w', Below W.heap.size W w' → w'.heap[w.heap.size]? = some (.cells #[vi, vt] 27 (0, 0))) := Lib.hid (fun w' h => (h.block _ (by omega)).trans k0)
  have HR : Hid (∀ w', Below W.heap.size W w' → w'.heap[w.heap.size + 1]? = some (.cells #[.slice none 0 0, .slice none 0 0] 27 (0, 0))) := Lib.hid (fun w' h => (h.block _ (by omega)).trans k1)
  have HV : Hid (∀ w', Below W.heap.size W w' → w'.cell? ⟨w.heap.size, 0, none⟩ = some vi ∧ w'.cell? ⟨w.heap.size, 1, none⟩ = some vt) := Lib.hid (fun w' h => by
    have j0 := HB0.out w' h
    exact ⟨by simpa using cell_of_row w' _ 0 _ _ _ j0, by simpa using cell_of_row w' _ 1 _ _ _ j0⟩)
  have HbW := Lib.hid hbW
  have Hf := Lib.hid hf
  have Hfit := Lib.hid hfit
  have v0 := HV.out W (Below.refl _ _)
  have hc0 := impl_copy s _ B W (hrd.later (hbW.mono hB) (Nat.le_refl _)) (Nat.le_trans hB hbW.size) hf
  rw [hW] at hc0 v0
  obtain ⟨v00, v01⟩ := v0
  have HWs := Lib.hid hWs
  clear hrd k0 k1 hbW hf hfit hWs
  go_enter Tryd.func26, Tryd.ntmps26
  go_wp2_with (go_at_call 35; refine hc0.mono ?_; rintro e w1 ⟨v1, rfl, ho1, hb1⟩; refine Hid.out ?_)
  refine Lib.hid ?_
  rw [← hW] at ho1 hb1
  have B1 := Lib.hid hb1
  obtain ⟨_, _, gi, ci, gt, ct, rfl, hne, ⟨ai, rfl, sI⟩, ⟨at_, rfl, sT⟩, gotI, gotT⟩ := ho1
  clear hc0 hW v00 v01 hb1
  obtain ⟨X, hX⟩ : ∃ X, X = w1.alloc (.cells #[.slice ai s.items.length ci, .slice at_ s.talks.length ct] 27) := ⟨_, rfl⟩
  have bX : Below w1.heap.size w1 X := by rw [hX]; exact (Below.refl _ _).alloc (Nat.le_refl _) _
  have sX : X.heap.size = w1.heap.size + 1 := by rw [hX]; simp
  have kX : X.heap[w1.heap.size]? = some (.cells #[.slice ai s.items.length ci, .slice at_ s.talks.length ct] 27 (0, 0)) := by rw [hX]; exact heap_new _ _
  have BX := Lib.hid (B1.out.trans (bX.mono B1.out.size))
  have GI := Lib.hid (gotI.later bX)
  have GT := Lib.hid (gotT.later bX)
  have SI := Lib.hid sI
  have ST := Lib.hid sT
  obtain ⟨x0, x1⟩ := HV.out X BX.out
  have hc1 := impl_itemAt s _ B key X (HS.out.later ((HbW.out.trans (BX.out.mono HbW.out.size)).mono hB) (Nat.le_refl _)) (Nat.le_trans hB (Nat.le_trans HbW.out.size BX.out.size)) Hfit.out hkey
  rw [hX] at hc1 x0 x1
  have SX := Lib.hid sX
  have LI1 := Lib.hid gotI.2.2.2.2.1
  have LT1 := Lib.hid gotT.2.2.2.2.1
  have KX := Lib.hid kX
  clear gotI gotT bX sX kX sI sT
  go_wp2_with (go_at_call 29; refine hc1.mono ?_; rintro e w2 ⟨rfl, hb2⟩; refine Hid.out ?_)
  refine Lib.hid ?_
  rw [← hX] at hb2
  have B2 := Lib.hid (BX.out.trans (hb2.mono BX.out.size))
  have X2 := Lib.hid hb2
  obtain ⟨y0, y1⟩ := HV.out w2 B2.out
  have jX := X2.out.block w1.heap.size (by have := SX.out; omega) |>.trans KX.out
  have jR := HR.out w2 B2.out
  have hc2 := impl_stateOk s _ B w2 (HS.out.later ((HbW.out.trans (B2.out.mono HbW.out.size)).mono hB) (Nat.le_refl _)) (Nat.le_trans hB (Nat.le_trans HbW.out.size B2.out.size)) Hfit.out
  clear hc1 hX hb2 x0 x1
  by_cases hi : 0 ≤ itemAt s.items key
  case neg =>
    have hd : Hid (dropS s key = s) := Lib.hid (if_neg (fun h => hi h.2))
    have hi' : itemAt s.items key < 0 := by omega
    have JR := Lib.hid jR
    have c0 := cell_of_row w2 _ 0 _ _ _ jX
    have c1 := cell_of_row w2 _ 1 _ _ _ jX
    have d0 := cell_of_row w2 _ 0 _ _ _ jR
    have d1 := cell_of_row w2 _ 1 _ _ _ jR
    have d2 := frozen_of_row w2 _ 0 _ _ jR
    have d3 := frozen_of_row w2 _ 1 _ _ jR
    simp only [List.getElem?_toArray, List.getElem?_cons_zero, List.getElem?_cons_succ] at c0 c1 d0 d1
    have GI3 := Lib.hid (GI.out.later X2.out)
    have GT3 := Lib.hid (GT.out.later X2.out)
    have BW3 := Lib.hid (HbW.out.trans (B2.out.mono HbW.out.size))
    clear hi jX jR hc2
    go_wp2_with fail
    have f1 := heap_setCell_same _ (w.heap.size + 1) 0 _ _ (Value.slice ai s.items.length ci) JR.out
    have f2 := heap_setCell_same _ (w.heap.size + 1) 1 _ _ (Value.slice at_ s.talks.length ct) f1
    clear c0 c1 d0 d1 d2 d3
    obtain ⟨j0, q1, q2, q3, q4⟩ := info_parts infoSt
    have bI := GI3.out.2.2.2.1
    have bT := GT3.out.2.2.2.1
    have hWs := HWs.out
    refine bodyPost_ret (results_cell_row (P := Tryd.prog) rfl _ _ (w.heap.size + 1) _ _ (0, 0) _ rfl f2 Tryd.underlying27 rfl (by rw [q1]; simp [q3])) rfl ⟨_, rfl, ?_, ?_⟩
    · rw [hd.out]
      refine ⟨_, _, gi, ci, gt, ct, rfl, hne, ⟨ai, rfl, SI.out⟩, ⟨at_, rfl, ST.out⟩, ?_, ?_⟩
      · exact ((GI3.out.base (by omega : w.heap.size ≤ W.heap.size)).set (by omega) _).set (by omega) _
      · exact ((GT3.out.base (by omega : w.heap.size ≤ W.heap.size)).set (by omega) _).set (by omega) _
    · exact (BW3.out.setCell (p := ⟨w.heap.size + 1, 0, none⟩) (by simp) _).setCell (p := ⟨w.heap.size + 1, 1, none⟩) (by simp) _
  have hi' : (itemAt s.items key < 0) = False := by simp; exact hi
  have hi'' : decide (itemAt s.items key < 0) = false := by simp; exact hi
  have HJX := Lib.hid jX
  clear jX jR
  go_wp2_with (go_at_call 12; refine hc2.mono ?_; rintro e w3 ⟨rfl, hb3⟩; refine Hid.out ?_)
  refine Lib.hid ?_
  have B3 := Lib.hid (B2.out.trans (hb3.mono B2.out.size))
  have X3 := Lib.hid (X2.out.trans (hb3.mono X2.out.size))
  clear hc2 y0 y1 hb3
  have jX := (X3.out.block w1.heap.size (by have := SX.out; omega)).trans KX.out
  have jR := HR.out w3 B3.out
  have JX := Lib.hid jX
  have JR := Lib.hid jR
  have c0 := cell_of_row w3 _ 0 _ _ _ jX
  have c1 := cell_of_row w3 _ 1 _ _ _ jX
  have d0 := cell_of_row w3 _ 0 _ _ _ jR
  have d1 := cell_of_row w3 _ 1 _ _ _ jR
  have d2 := frozen_of_row w3 _ 0 _ _ jR
  have d3 := frozen_of_row w3 _ 1 _ _ jR
  simp only [List.getElem?_toArray, List.getElem?_cons_zero, List.getElem?_cons_succ] at c0 c1 d0 d1
  have GI3 := Lib.hid (GI.out.later X3.out)
  have GT3 := Lib.hid (GT.out.later X3.out)
  have BW3 := Lib.hid (HbW.out.trans (B3.out.mono HbW.out.size))
  clear jX jR
  by_cases hok : stOk s = true
  case neg =>
    have hd : Hid (dropS s key = s) := Lib.hid (if_neg (fun h => hok h.1))
    have hok' : stOk s = false := by simpa using hok
    clear hok
    go_wp2_with fail
    have f1 := heap_setCell_same _ (w.heap.size + 1) 0 _ _ (Value.slice ai s.items.length ci) JR.out
    have f2 := heap_setCell_same _ (w.heap.size + 1) 1 _ _ (Value.slice at_ s.talks.length ct) f1
    clear c0 c1 d0 d1 d2 d3
    obtain ⟨j0, q1, q2, q3, q4⟩ := info_parts infoSt
    have bI := GI3.out.2.2.2.1
    have bT := GT3.out.2.2.2.1
    have hWs := HWs.out
    refine bodyPost_ret (results_cell_row (P := Tryd.prog) rfl _ _ (w.heap.size + 1) _ _ (0, 0) _ rfl f2 Tryd.underlying27 rfl (by rw [q1]; simp [q3])) rfl ⟨_, rfl, ?_, ?_⟩
    · rw [hd.out]
      refine ⟨_, _, gi, ci, gt, ct, rfl, hne, ⟨ai, rfl, SI.out⟩, ⟨at_, rfl, ST.out⟩, ?_, ?_⟩
      · exact ((GI3.out.base (by omega : w.heap.size ≤ W.heap.size)).set (by omega) _).set (by omega) _
      · exact ((GT3.out.base (by omega : w.heap.size ≤ W.heap.size)).set (by omega) _).set (by omega) _
    · exact (BW3.out.setCell (p := ⟨w.heap.size + 1, 0, none⟩) (by simp) _).setCell (p := ⟨w.heap.size + 1, 1, none⟩) (by simp) _
  obtain ⟨i, hid, hin⟩ : ∃ i : Nat, itemAt s.items key = i ∧ i < s.items.length := by
    rcases itemAt_hi s.items key with h | h
    · exact ⟨(itemAt s.items key).toNat, by omega, by omega⟩
    · omega
  obtain ⟨p, hp⟩ : ∃ p, s.items.length = i + 1 + p := ⟨s.items.length - (i + 1), by omega⟩
  have hd : Hid (dropS s key = ⟨s.items.take i ++ s.items.drop (i + 1), s.talks⟩) := Lib.hid (by unfold dropS; rw [if_pos ⟨hok, hi⟩, hid]; simp)
  have hai : ai = some ⟨gi, 0, none⟩ := by
    rcases SI.out with h | ⟨_, h, _⟩
    · exact h
    · omega
  subst hai
  have g3 := GI3.out
  rw [hp] at c0 g3
  have JX' := JX.out
  rw [hp] at JX'
  have hcm := g3.2.2.1
  have hnc := g3.2.1
  have hc3 := delete_item i p gi ci W.heap.size _ w3 g3 (one_it _)
  have HP := Lib.hid hp
  have JX2 := Lib.hid JX'
  unfold maxLen at hcm
  have i1 : (i : Int) + 1 ≤ 9223372036854775807 := by omega
  rw [hid]
  clear hi hi' hi'' hid hp hin g3 JX' JX GI3 KX SI HJX
  refine (show _ from ?_)
  go_wp2_with (go_at_call 62; refine hc3.mono ?_; rintro e w4 ⟨rfl, got4, gr4⟩; refine Hid.out ?_)
  refine Lib.hid ?_
  have hl1 := LI1.out
  have hz1 : w1.heap.size < w3.heap.size := by have := SX.out; have := X3.out.size; omega
  have hz0 : w.heap.size + 2 ≤ w1.heap.size := by have := HWs.out; have := B1.out.size; omega
  have hgi : W.heap.size ≤ gi := got4.2.2.2.1
  have jX := (gr4.block w1.heap.size hz1 (by simp; omega)).trans JX2.out
  have jR := (gr4.block (w.heap.size + 1) (by omega) (by have := HWs.out; simp; omega)).trans JR.out
  have GT4 := Lib.hid (GT3.out.grown gr4 (Ne.symm hne))
  have GI4 := Lib.hid got4
  have BW4 : Hid (Below w.heap.size w w4) := Lib.hid (BW3.out.grown gr4 BW3.out.size (fun k hk => by cases hk; have := HWs.out; omega))
  have JX4 := Lib.hid jX
  have JR4 := Lib.hid jR
  clear c0 c1 d0 d1 d2 d3 hc3 got4 gr4
  have c0 := cell_of_row w4 _ 0 _ _ _ jX
  have c1 := cell_of_row w4 _ 1 _ _ _ jX
  have d0 := cell_of_row w4 _ 0 _ _ _ jR
  have d1 := cell_of_row w4 _ 1 _ _ _ jR
  have d2 := frozen_of_row w4 _ 0 _ _ jR
  have d3 := frozen_of_row w4 _ 1 _ _ jR
  have z0 := frozen_of_row w4 _ 0 _ _ jX
  simp only [List.getElem?_toArray, List.getElem?_cons_zero, List.getElem?_cons_succ] at c0 c1 d0 d1
  clear jX jR
  go_wp2_with fail
  have f0 : (w4.setCell ⟨w1.heap.size, 0, none⟩ (Value.slice (some ⟨gi, 0, none⟩) (i + p) ci)).heap[w.heap.size + 1]? = some (.cells #[.slice none 0 0, .slice none 0 0] 27 (0, 0)) := by
    rw [Below.heap_setCell _ _ _ _ (by simp; omega)]; exact JR4.out
  have f1 := heap_setCell_same _ (w.heap.size + 1) 0 _ _ (Value.slice (some ⟨gi, 0, none⟩) (i + p) ci) f0
  have f2 := heap_setCell_same _ (w.heap.size + 1) 1 _ _ (Value.slice at_ s.talks.length ct) f1
  clear c0 c1 d0 d1 d2 d3 z0
  obtain ⟨j0, q1, q2, q3, q4⟩ := info_parts infoSt
  have bT := GT4.out.2.2.2.1
  have hWs := HWs.out
  have lT := LT1.out
  have hl : (s.items.take i ++ s.items.drop (i + 1)).length = i + p := by
    have := HP.out
    rw [List.length_append, List.length_take, List.length_drop]; omega
  have hfl : (s.items.take i ++ s.items.drop (i + 1)).flatMap itC = (s.items.flatMap itC).take (i * 2) ++ (s.items.flatMap itC).drop ((i + 1) * 2) := by
    rw [List.flatMap_append, flat_take_it s.items i (by have := HP.out; omega), flat_drop_it s.items (i + 1) (by have := HP.out; omega)]
  refine bodyPost_ret (results_cell_row (P := Tryd.prog) rfl _ _ (w.heap.size + 1) _ _ (0, 0) _ rfl f2 Tryd.underlying27 rfl (by rw [q1]; simp [q3])) rfl ⟨_, rfl, ?_, ?_⟩
  · rw [hd.out]
    refine ⟨_, _, gi, ci, gt, ct, rfl, hne, ⟨some ⟨gi, 0, none⟩, by rw [hl], .inl rfl⟩, ⟨at_, rfl, ST.out⟩, ?_, ?_⟩
    · show Got _ _ _ 2 gi (s.items.take i ++ s.items.drop (i + 1)).length ci ((s.items.take i ++ s.items.drop (i + 1)).flatMap itC)
      rw [hl, hfl]
      exact (((GI4.out.base (by omega : w.heap.size ≤ W.heap.size)).set (by omega) _).set (by omega) _).set (by omega) _
    · exact (((GT4.out.base (by omega : w.heap.size ≤ W.heap.size)).set (by omega) _).set (by omega) _).set (by omega) _
  · exact ((BW4.out.setCell (p := ⟨w1.heap.size, 0, none⟩) (show w.heap.size ≤ w1.heap.size by omega) _).setCell (p := ⟨w.heap.size + 1, 0, none⟩) (by simp) _).setCell (p := ⟨w.heap.size + 1, 1, none⟩) (by simp) _
end Go.Proofs.YtebmaplflpfjbaaDoor
