/- What spec.DropItem answers: a state of its own. Condition: rows that can be read, of a bulk that a row may have. -/
import Derived.Test.YtebmaplflpfjbaaDoorBaseA
import Derived.Test.YtebmaplflpfjbaaDoorStateOk
namespace Go.Proofs.YtebmaplflpfjbaaDoor
open Go.RowKit List
set_option linter.unusedVariables false

/-- A state without the item of a key. -/
def dropS (s : St) (key : ByteArray) : St :=
  if stOk s = true ∧ 0 ≤ itemAt s.items key then ⟨s.items.take (itemAt s.items key).toNat ++ s.items.drop ((itemAt s.items key).toNat + 1), s.talks⟩ else s

set_option linter.unusedSimpArgs false
set_option maxRecDepth 100000 in
set_option maxHeartbeats 4000000 in
theorem spec_drop (s : St) (v : Value) (B : Nat) (key : ByteArray) (w : World) (hs : StV w B v s) (hB : B ≤ w.heap.size) (hf : Few s) (hfit : Fits s) :
    Calls Tryd.prog 38 #[v, .string key] w fun e w' => ∃ v', e = .returned v' ∧ OwnC w' w.heap.size v' (dropS s key) ∧ Below w.heap.size w w' := by
  have HS := Lib.hid hs
  have hrd := hs.rd
  obtain ⟨vi, vt, rfl, _, _⟩ := hs
  obtain ⟨W, hW⟩ : ∃ W, W = (w.alloc (.cells #[vi, vt] 27)).alloc (.cells #[.slice none 0 0, .slice none 0 0] 27) := ⟨_, rfl⟩
  have hbW : Below w.heap.size w W := by rw [hW]; exact ((Below.refl _ _).alloc (Nat.le_refl _) _).alloc (by simp) _
  have hWs : W.heap.size = w.heap.size + 2 := by rw [hW]; simp
  have k0 : W.heap[w.heap.size]? = some (.cells #[vi, vt] 27 (0, 0)) := by
    rw [hW, Below.heap_alloc _ _ _ (by simp)]; exact heap_new _ _
  have k1 : W.heap[w.heap.size + 1]? = some (.cells #[.slice none 0 0, .slice none 0 0] 27 (0, 0)) := by
    rw [hW]; simpa using heap_new (w.alloc (.cells #[vi, vt] 27)) (.cells #[.slice none 0 0, .slice none 0 0] 27)
  have HB0 : Hid (∀ w', Below W.heap.size W w' → w'.heap[w.heap.size]? = some (.cells #[vi, vt] 27 (0, 0))) := Lib.hid (fun w' h => (h.block _ (by omega)).trans k0)
  have HR : Hid (∀ w', Below W.heap.size W w' → w'.heap[w.heap.size + 1]? = some (.cells #[.slice none 0 0, .slice none 0 0] 27 (0, 0))) := Lib.hid (fun w' h => (h.block _ (by omega)).trans k1)
  have HV : Hid (∀ w', Below W.heap.size W w' → w'.cell? ⟨w.heap.size, 0, none⟩ = some vi ∧ w'.cell? ⟨w.heap.size, 1, none⟩ = some vt) := Lib.hid (fun w' h => by
    have j0 := HB0.out w' h
    exact ⟨by simpa using cell_of_row w' _ 0 _ _ _ j0, by simpa using cell_of_row w' _ 1 _ _ _ j0⟩)
  have HbW := Lib.hid hbW
  have Hf := Lib.hid hf
  have Hfit := Lib.hid hfit
  have v0 := HV.out W (Below.refl _ _)
  have hc0 := spec_copy s _ B W (hrd.later (hbW.mono hB) (Nat.le_refl _)) (Nat.le_trans hB hbW.size) hf
  rw [hW] at hc0 v0
  obtain ⟨v00, v01⟩ := v0
  have HWs := Lib.hid hWs
  clear hrd k0 k1 hbW hf hfit hWs
  go_enter Tryd.func38, Tryd.ntmps38
  go_wp2_with (go_at_call 36; refine hc0.mono ?_; rintro e w1 ⟨v1, rfl, ho1, hb1⟩; refine Hid.out ?_)
  refine Lib.hid ?_
  rw [← hW] at ho1 hb1
  have B1 := Lib.hid hb1
  obtain ⟨gi, ci, gt, ct, rfl, hne, gotI, gotT⟩ := ho1
  clear hc0 hW v00 v01 hb1
  obtain ⟨X, hX⟩ : ∃ X, X = w1.alloc (.cells #[.slice (some ⟨gi, 0, none⟩) s.items.length ci, .slice (some ⟨gt, 0, none⟩) s.talks.length ct] 27) := ⟨_, rfl⟩
  have bX : Below w1.heap.size w1 X := by rw [hX]; exact (Below.refl _ _).alloc (Nat.le_refl _) _
  have sX : X.heap.size = w1.heap.size + 1 := by rw [hX]; simp
  have kX : X.heap[w1.heap.size]? = some (.cells #[.slice (some ⟨gi, 0, none⟩) s.items.length ci, .slice (some ⟨gt, 0, none⟩) s.talks.length ct] 27 (0, 0)) := by rw [hX]; exact heap_new _ _
  have BX := Lib.hid (B1.out.trans (bX.mono B1.out.size))
  have GI := Lib.hid (gotI.later bX)
  have GT := Lib.hid (gotT.later bX)
  obtain ⟨x0, x1⟩ := HV.out X BX.out
  have hc1 := spec_itemAt s _ B key X (HS.out.later ((HbW.out.trans (BX.out.mono HbW.out.size)).mono hB) (Nat.le_refl _)) (Nat.le_trans hB (Nat.le_trans HbW.out.size BX.out.size))
  rw [hX] at hc1 x0 x1
  have SX := Lib.hid sX
  have LT1 := Lib.hid gotT.2.2.2.2.1
  have KX := Lib.hid kX
  clear gotI gotT bX sX kX
  go_wp2_with (go_at_call 16; refine hc1.mono ?_; rintro e w2 ⟨rfl, hb2⟩; refine Hid.out ?_)
  refine Lib.hid ?_
  rw [← hX] at hb2
  have B2 := Lib.hid (BX.out.trans (hb2.mono BX.out.size))
  have X2 := Lib.hid hb2
  obtain ⟨y0, y1⟩ := HV.out w2 B2.out
  have hc2 := spec_stateOk s _ B w2 (HS.out.later ((HbW.out.trans (B2.out.mono HbW.out.size)).mono hB) (Nat.le_refl _)) (Nat.le_trans hB (Nat.le_trans HbW.out.size B2.out.size)) Hfit.out
  clear hc1 hX hb2 x0 x1
  go_wp2_with (go_at_call 27; refine hc2.mono ?_; rintro e w3 ⟨rfl, hb3⟩; refine Hid.out ?_)
  refine Lib.hid ?_
  have B3 := Lib.hid (B2.out.trans (hb3.mono B2.out.size))
  have X3 := Lib.hid (X2.out.trans (hb3.mono X2.out.size))
  clear hc2 y0 y1 hb3
  have jX := (X3.out.block w1.heap.size (by have := SX.out; omega)).trans KX.out
  have jR := HR.out w3 B3.out
  have JX := Lib.hid jX
  have JR := Lib.hid jR
  have c0 := cell_of_row w3 _ 0 _ _ _ jX
  have c1 := cell_of_row w3 _ 1 _ _ _ jX
  have d0 := cell_of_row w3 _ 0 _ _ _ jR
  have d1 := cell_of_row w3 _ 1 _ _ _ jR
  have d2 := frozen_of_row w3 _ 0 _ _ jR
  have d3 := frozen_of_row w3 _ 1 _ _ jR
  simp only [List.getElem?_toArray, List.getElem?_cons_zero, List.getElem?_cons_succ] at c0 c1 d0 d1
  have GI3 := Lib.hid (GI.out.later X3.out)
  have GT3 := Lib.hid (GT.out.later X3.out)
  have BW3 := Lib.hid (HbW.out.trans (B3.out.mono HbW.out.size))
  clear jX jR
  by_cases hok : stOk s = true
  case neg =>
    have hd : Hid (dropS s key = s) := Lib.hid (if_neg (fun h => hok h.1))
    have hok' : stOk s = false := by simpa using hok
    clear hok
    go_wp2_with fail
    have f1 := heap_setCell_same _ (w.heap.size + 1) 0 _ _ (Value.slice (some ⟨gi, 0, none⟩) s.items.length ci) JR.out
    have f2 := heap_setCell_same _ (w.heap.size + 1) 1 _ _ (Value.slice (some ⟨gt, 0, none⟩) s.talks.length ct) f1
    clear c0 c1 d0 d1 d2 d3
    obtain ⟨j0, q1, q2, q3, q4⟩ := info_parts infoSt
    have bI := GI3.out.2.2.2.1
    have bT := GT3.out.2.2.2.1
    have hWs := HWs.out
    refine bodyPost_ret (results_cell_row (P := Tryd.prog) rfl _ _ (w.heap.size + 1) _ _ (0, 0) _ rfl f2 Tryd.underlying27 rfl (by rw [q1]; simp [q3])) rfl ⟨_, rfl, ?_, ?_⟩
    · rw [hd.out]
      refine ⟨gi, ci, gt, ct, rfl, hne, ?_, ?_⟩
      · exact ((GI3.out.base (by omega : w.heap.size ≤ W.heap.size)).set (by omega) _).set (by omega) _
      · exact ((GT3.out.base (by omega : w.heap.size ≤ W.heap.size)).set (by omega) _).set (by omega) _
    · exact (BW3.out.setCell (p := ⟨w.heap.size + 1, 0, none⟩) (by simp) _).setCell (p := ⟨w.heap.size + 1, 1, none⟩) (by simp) _
  by_cases hi : 0 ≤ itemAt s.items key
  case neg =>
    have hd : Hid (dropS s key = s) := Lib.hid (if_neg (fun h => hi h.2))
    have hi' : itemAt s.items key < 0 := by omega
    clear hi
    go_wp2_with fail
    have f1 := heap_setCell_same _ (w.heap.size + 1) 0 _ _ (Value.slice (some ⟨gi, 0, none⟩) s.items.length ci) JR.out
    have f2 := heap_setCell_same _ (w.heap.size + 1) 1 _ _ (Value.slice (some ⟨gt, 0, none⟩) s.talks.length ct) f1
    clear c0 c1 d0 d1 d2 d3
    obtain ⟨j0, q1, q2, q3, q4⟩ := info_parts infoSt
    have bI := GI3.out.2.2.2.1
    have bT := GT3.out.2.2.2.1
    have hWs := HWs.out
    refine bodyPost_ret (results_cell_row (P := Tryd.prog) rfl _ _ (w.heap.size + 1) _ _ (0, 0) _ rfl f2 Tryd.underlying27 rfl (by rw [q1]; simp [q3])) rfl ⟨_, rfl, ?_, ?_⟩
    · rw [hd.out]
      refine ⟨gi, ci, gt, ct, rfl, hne, ?_, ?_⟩
      · exact ((GI3.out.base (by omega : w.heap.size ≤ W.heap.size)).set (by omega) _).set (by omega) _
      · exact ((GT3.out.base (by omega : w.heap.size ≤ W.heap.size)).set (by omega) _).set (by omega) _
    · exact (BW3.out.setCell (p := ⟨w.heap.size + 1, 0, none⟩) (by simp) _).setCell (p := ⟨w.heap.size + 1, 1, none⟩) (by simp) _
  obtain ⟨i, hid, hin⟩ : ∃ i : Nat, itemAt s.items key = i ∧ i < s.items.length := by
    rcases itemAt_hi s.items key with h | h
    · exact ⟨(itemAt s.items key).toNat, by omega, by omega⟩
    · omega
  have hd : Hid (dropS s key = ⟨s.items.take i ++ s.items.drop (i + 1), s.talks⟩) := Lib.hid (by unfold dropS; rw [if_pos ⟨hok, hi⟩, hid]; simp)
  rw [hid]
  clear hi hid
  obtain ⟨n, hN⟩ : ∃ n, n = s.items.length := ⟨_, rfl⟩
  obtain ⟨vi', vt', he, ⟨_, hrow⟩, _⟩ := HS.out
  simp only [Value.agg.injEq, Array.mk.injEq, List.cons.injEq, and_true] at he
  obtain ⟨rfl, rfl⟩ := he
  rcases hrow with ⟨_, h0⟩ | ⟨g, o, cap, rfl, hnc, hcm, hgB, hAt⟩
  · omega
  have hgB : g < B := by rcases hgB with h | h <;> omega
  rw [← hN] at hnc hin
  have HS0 : Hid (∀ w', Below W.heap.size W w' → w'.cell? ⟨w.heap.size, 0, none⟩ = some (.slice (some ⟨g, o, none⟩) n cap)) := Lib.hid (fun w' h => by rw [hN]; exact (HV.out w' h).1)
  have HAt : Hid (∀ w', Below w.heap.size w w' → At w' g o (s.items.flatMap itC)) := Lib.hid (fun w' h => hAt.below h (by omega))
  have u0 := HS0.out w3 B3.out
  unfold maxLen at hcm
  have i1 : (i : Int) ≤ (n : Int) := by omega
  have i2 : (n : Int) ≤ (cap : Int) := by omega
  have i3 : (i : Int) ≤ (cap : Int) := by omega
  have i4 : (i : Int) + 1 ≤ (n : Int) := by omega
  have i5 : IntKind.i64.wrap ((i : Int) + 1) = (i : Int) + 1 := by rw [IntKind.wrap_i64]; omega
  have i6 : ((i : Int) + 1).toNat = i + 1 := by omega
  have i7 : (0 : Int) ≤ (i : Int) + 1 := by omega
  have hsplit : s.items = s.items.take i ++ (s.items.drop i) := (List.take_append_drop i s.items).symm
  have hsplit2 : s.items = s.items.take (i + 1) ++ s.items.drop (i + 1) := (List.take_append_drop (i + 1) s.items).symm
  have l1 : (s.items.take i).length = i := by rw [List.length_take]; omega
  have l2 : (s.items.drop (i + 1)).length = n - (i + 1) := by rw [List.length_drop]; omega
  have l3 : (s.items.take (i + 1)).length = i + 1 := by rw [List.length_take]; omega
  have len1 : Hid (((s.items.take i).flatMap itC).length = i * 2) := Lib.hid (by rw [flat_len_it, l1])
  have len2 : Hid (((s.items.drop (i + 1)).flatMap itC).length = (n - (i + 1)) * 2) := Lib.hid (by rw [flat_len_it, l2])
  have raw1 : Hid (∀ w', Below w.heap.size w w' → Raw w' w.heap.size (.slice (some ⟨g, o, none⟩) i cap) i ((s.items.take i).flatMap itC)) := Lib.hid (fun w' h => by
    have hA := HAt.out w' h
    rw [hsplit, List.flatMap_append, At.append] at hA
    exact ⟨_, cap, rfl, by omega, hcm, (fun h => by cases h), fun _ => ⟨g, o, rfl, by omega, hA.1⟩⟩)
  have raw2 : Hid (∀ w', Below w.heap.size w w' → Raw w' w.heap.size (.slice (if cap = i + 1 then some ⟨g, o, none⟩ else some ⟨g, o + (i + 1) * 2, none⟩) (n - (i + 1)) (cap - (i + 1))) (n - (i + 1)) ((s.items.drop (i + 1)).flatMap itC)) := Lib.hid (fun w' h => by
    have hA := HAt.out w' h
    rw [hsplit2, List.flatMap_append, At.append] at hA
    refine ⟨_, cap - (i + 1), rfl, by omega, by unfold maxLen; omega, (fun h => by split at h <;> cases h), fun hm => ⟨g, o + (i + 1) * 2, ?_, by omega, ?_⟩⟩
    · rw [if_neg (by omega)]
    · have h2 := hA.2
      rw [flat_len_it, l3] at h2
      exact h2)
  have hlen : Hid ((s.items.take i ++ s.items.drop (i + 1)).length = i + (n - (i + 1))) := Lib.hid (by rw [List.length_append, l1, l2])
  have few := Hf.out
  unfold Few at few
  have few1 : Hid (n ≤ 4398046511104) := Lib.hid (by omega)
  have HN := Lib.hid hN
  clear hsplit hsplit2 l1 l2 l3 few
  clear hAt hN c0 c1 d0 d1 d2 d3
  go_wp2_with fail
  refine wp_region_held_drew (S := (fun w' => w'.cell? ⟨w.heap.size, 0, none⟩ = some (.slice (some ⟨g, o, none⟩) n cap))) (by kernel_rfl) ?hS (fun hHeld => ?_)
  case hS => exact HS0.out _ B3.out.drew
  refine tk0 1 ?_
  refine tk0 2 ?_
  refine tk0 3 ?_
  refine tk0 4 ?_
  refine tk0 6 ?_
  refine tk0 7 ?_
  refine tk0 8 ?_
  refine tk0 9 ?_
  refine tk0 10 ?_
  refine rd1 0 (fun K hK => ?_)
  go_simp
  obtain ⟨w4, hw4⟩ : ∃ x, x = (w3.alloc (.cells #[] 41)).drew := ⟨_, rfl⟩
  rw [← hw4]
  have b4 : Below w3.heap.size w3 w4 := by rw [hw4]; exact ((Below.refl _ _).alloc (Nat.le_refl _) _).drew
  have z4 : w4.heap.size = w3.heap.size + 1 := by rw [hw4]; simp
  clear hw4
  have B4 := B3.out.trans (b4.mono B3.out.size)
  have W4 := BW3.out.trans (b4.mono BW3.out.size)
  refine hK.out _ _ (HS0.out _ B4) (fun hHeld => ?_)
  clear hK K
  try simp only [getElem_toArray, getElem_cons_zero, getElem_cons_succ, Act.put, setIfInBounds_toArray, set_cons_zero, set_cons_succ]
  refine rd1 5 (fun K hK => ?_)
  obtain ⟨i0, p1, p2, p3, p4⟩ := info_parts infoIt
  refine step_app0 rfl (.tmp 20) (.tmp 24) 24 rfl 41 i0 _ 2 32 Tryd.underlying24 p1 p2 p3 p4 rfl (by decide) w3.heap.size W.heap.size B3.out.size (by omega) (by simp [Act.eval]) _ (by simp [Act.eval]) w.heap.size i _ (raw1.out w4 W4) len1.out (one_it _) (by unfold maxLen; omega) (by have := few1.out; omega) ?_
  intro g1 c1 w5 b5 e1 got1
  have B5 := B4.trans (b5.mono B4.size)
  have W5 := W4.trans (b5.mono W4.size)
  refine hK.out _ _ (HS0.out _ B5) (fun hHeld => ?_)
  clear hK K
  try simp only [getElem_toArray, getElem_cons_zero, getElem_cons_succ, Act.put, setIfInBounds_toArray, set_cons_zero, set_cons_succ]
  refine rd1 11 (fun K hK => ?_)
  refine step_app rfl (.tmp 25) (.tmp 30) 24 rfl 41 i0 _ 2 32 Tryd.underlying24 p1 p2 p3 p4 rfl (by decide) g1 i c1 W.heap.size _ got1 (by simp [Act.eval]) _ (by simp [Act.eval]) w.heap.size (n - (i + 1)) _ (raw2.out w5 W5) len2.out (one_it _) (by unfold maxLen; omega) (by have := few1.out; omega) ?_
  intro g2 c2 w6 r6 e2 got2
  have Z5 : Below w3.heap.size w3 w5 := b4.trans (b5.mono b4.size)
  have Z6 : Below w3.heap.size w3 w6 := Z5.grown r6 Z5.size (fun k hk => by cases hk; omega)
  have B6 := B3.out.trans (Z6.mono B3.out.size)
  refine hK.out _ _ (HS0.out _ B6) (fun hHeld => ?_)
  clear hK K
  refine tk0 12 ?_
  have hlt : w1.heap.size < w3.heap.size := by have := SX.out; have := X3.out.size; omega
  have hw1 : w.heap.size + 2 ≤ w1.heap.size := by have := HWs.out; have := B1.out.size; omega
  have jX := (Z6.block w1.heap.size hlt).trans JX.out
  have jR := HR.out w6 B6
  have jB := HB0.out w6 B6
  have c0 := cell_of_row w6 _ 0 _ _ _ jX
  have z0 := frozen_of_row w6 _ 0 _ _ jX
  simp only [List.getElem?_toArray, List.getElem?_cons_zero, List.getElem?_cons_succ] at c0
  have JX6 := Lib.hid jX
  have JR6 := Lib.hid jR
  have JB6 := Lib.hid jB
  clear jX jR jB
  refine rd1 13 (fun K hK => ?_)
  go_simp
  obtain ⟨Y, hY⟩ : ∃ Y, Y = w6.setCell ⟨w1.heap.size, 0, none⟩ (Value.slice (some ⟨g2, 0, none⟩) (i + (n - (i + 1))) c2) := ⟨_, rfl⟩
  rw [← hY]
  have jX := heap_setCell_same _ w1.heap.size 0 _ _ (Value.slice (some ⟨g2, 0, none⟩) (i + (n - (i + 1))) c2) JX6.out
  have jR : Y.heap[w.heap.size + 1]? = some (.cells #[.slice none 0 0, .slice none 0 0] 27 (0, 0)) := by rw [hY, Below.heap_setCell _ _ _ _ (by simp; omega)]; exact JR6.out
  have jB : Y.heap[w.heap.size]? = some _ := (by rw [hY, Below.heap_setCell _ _ _ _ (by simp; omega)]; exact JB6.out : Y.heap[w.heap.size]? = some (.cells #[.slice (some ⟨g, o, none⟩) s.items.length cap, vt] 27 (0, 0)))
  rw [← hY] at jX
  have GY : Hid (Got Y W.heap.size 41 2 g2 (i + (n - (i + 1))) c2 ((s.items.take i).flatMap itC ++ (s.items.drop (i + 1)).flatMap itC)) := Lib.hid (by rw [hY]; exact got2.set (by have := b4.size; have := b5.size; omega) _)
  have TY : Hid (Got Y W.heap.size 38 3 gt s.talks.length ct (s.talks.flatMap tkC)) := Lib.hid (by rw [hY]; exact (GT3.out.later Z6).set (by have := LT1.out; omega) _)
  have HG : Hid (g2 ≠ gt ∧ w.heap.size + 2 ≤ g2 ∧ w.heap.size + 2 ≤ gt) := Lib.hid ⟨by have := LT1.out; have := b4.size; have := b5.size; omega, by have := b4.size; have := b5.size; omega, by have := GT3.out.2.2.2.1; have := HWs.out; omega⟩
  have WY : Hid (Below w.heap.size w Y) := Lib.hid (by rw [hY]; exact (BW3.out.trans (Z6.mono BW3.out.size)).setCell (p := ⟨w1.heap.size, 0, none⟩) (show w.heap.size ≤ w1.heap.size by omega) _)
  refine hK.out _ _ (by have h := cell_of_row Y _ 0 _ _ _ jB; rw [HN.out]; simpa using h) (fun hHeld => ?_)
  clear hK K
  try simp only [getElem_toArray, getElem_cons_zero, getElem_cons_succ, Act.put, setIfInBounds_toArray, set_cons_zero, set_cons_succ]
  refine wpAnyH_done (by kernel_rfl) ?_ _
  have c0 := cell_of_row Y _ 0 _ _ _ jX
  have c1 := cell_of_row Y _ 1 _ _ _ jX
  have d0 := cell_of_row Y _ 0 _ _ _ jR
  have d1 := cell_of_row Y _ 1 _ _ _ jR
  have d2 := frozen_of_row Y _ 0 _ _ jR
  have d3 := frozen_of_row Y _ 1 _ _ jR
  simp at c0 c1 d0 d1
  have JR := Lib.hid jR
  clear hHeld hY got2 jX jR jB z0 b4 b5 Z5 Z6 e1 e2 got1 r6 hlt
  go_wp2_with fail
  all_goals (
    have f1 := heap_setCell_same _ (w.heap.size + 1) 0 _ _ (Value.slice (some ⟨g2, 0, none⟩) (i + (n - (i + 1))) c2) JR.out
    have f2 := heap_setCell_same _ (w.heap.size + 1) 1 _ _ (Value.slice (some ⟨gt, 0, none⟩) s.talks.length ct) f1
    clear c0 c1 d0 d1 d2 d3
    obtain ⟨j0, q1, q2, q3, q4⟩ := info_parts infoSt
    have hg := HG.out
    have hWs := HWs.out
    refine bodyPost_ret (results_cell_row (P := Tryd.prog) rfl _ _ (w.heap.size + 1) _ _ (0, 0) _ rfl f2 Tryd.underlying27 rfl (by rw [q1]; simp [q3])) rfl ⟨_, rfl, ?_, ?_⟩
    · rw [hd.out]
      refine ⟨g2, c2, gt, ct, by rw [hlen.out]; rfl, hg.1, ?_, ?_⟩
      · show Got _ _ _ 2 g2 (s.items.take i ++ s.items.drop (i + 1)).length c2 ((s.items.take i ++ s.items.drop (i + 1)).flatMap itC)
        rw [hlen.out, List.flatMap_append]
        exact ((GY.out.base (by omega : w.heap.size ≤ W.heap.size)).set (by omega) _).set (by omega) _
      · exact ((TY.out.base (by omega : w.heap.size ≤ W.heap.size)).set (by omega) _).set (by omega) _
    · exact (WY.out.setCell (p := ⟨w.heap.size + 1, 0, none⟩) (by simp) _).setCell (p := ⟨w.heap.size + 1, 1, none⟩) (by simp) _)
end Go.Proofs.YtebmaplflpfjbaaDoor
