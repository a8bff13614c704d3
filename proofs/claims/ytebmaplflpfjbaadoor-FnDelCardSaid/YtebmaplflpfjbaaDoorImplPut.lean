/- What the program's ordered lists make of a row that is put. Condition: a list that can be read. -/
import Derived.Test.YtebmaplflpfjbaaDoorBaseA
import Derived.Test.YtebmaplflpfjbaaDoorImplConcat
import Derived.Test.YtebmaplflpfjbaaDoorPutPlain
namespace Go.Proofs.YtebmaplflpfjbaaDoor
open Go.RowKit List
set_option linter.unusedVariables false
set_option linter.unusedSimpArgs false

theorem raw_takeI {w : World} {B n cap k : Nat} {a : Option Addr} {cs : List Value} (h : Raw w B (.slice a n cap) n cs) (hk : k ≤ n) : Raw w B (.slice a k cap) k (cs.take (k * 2)) := by
  obtain ⟨a', cap', hv, h1, h2, h3, h4⟩ := h
  cases hv
  refine ⟨a, cap, rfl, by omega, h2, h3, fun h0 => ?_⟩
  obtain ⟨g, o, e, hg, hA⟩ := h4 (by omega)
  refine ⟨g, o, e, hg, fun j u hu => hA j u ?_⟩
  rw [List.getElem?_take] at hu
  split at hu
  · exact hu
  · cases hu
theorem raw_dropI {w : World} {B n cap j m c : Nat} {g o : Nat} {cs : List Value} (h : Raw w B (.slice (some ⟨g, o, none⟩) n cap) n cs) (hm : m = n - j) (hc : m ≤ c) (hc' : c ≤ maxLen) : Raw w B (.slice (some ⟨g, o + j * 2, none⟩) m c) m (cs.drop (j * 2)) := by
  obtain ⟨a', cap', hv, h1, h2, h3, h4⟩ := h
  cases hv
  refine ⟨_, c, rfl, hc, hc', (fun h => by cases h), fun h0 => ?_⟩
  obtain ⟨g', o', e, hg, hA⟩ := h4 (by omega)
  cases e
  refine ⟨g, o + j * 2, rfl, hg, fun i u hu => ?_⟩
  rw [List.getElem?_drop] at hu
  have := hA _ u hu
  rwa [show o + (j * 2 + i) = o + j * 2 + i by omega] at this
theorem raw_noneI {w : World} {B m c : Nat} {ad : Addr} {cs : List Value} (hm : m = 0) (hc : c ≤ maxLen) : Raw w B (.slice (some ad) m c) m cs :=
  ⟨_, c, rfl, by omega, hc, (fun h => by cases h), fun h => absurd h (by omega)⟩
theorem concat3_items (v1 v2 v3 : Value) (n1 n2 n3 : Nat) (c1 c2 c3 : List Value) (gq : Nat) (w : World) (B : Nat) (hB : B ≤ w.heap.size) (hq : w.heap[gq]? = some (.cells #[v1, v2, v3] 71 (0, 0))) (hgq : gq < w.heap.size)
    (h1 : Raw w B v1 n1 c1 ∧ c1.length = n1 * 2 ∧ ∀ u ∈ c1, u.oneCell' = true) (h2 : Raw w B v2 n2 c2 ∧ c2.length = n2 * 2 ∧ ∀ u ∈ c2, u.oneCell' = true) (h3 : Raw w B v3 n3 c3 ∧ c3.length = n3 * 2 ∧ ∀ u ∈ c3, u.oneCell' = true)
    (ht : 0 < n1 + n2 + n3) (ht' : n1 + n2 + n3 ≤ 2199023255552) :
    Calls Tryd.prog 141 #[.slice (some ⟨gq, 0, none⟩) 3 3] w fun e w' => ∃ g cap, e = .returned (.slice (some ⟨g, 0, none⟩) (n1 + n2 + n3) cap) ∧ Got w' w.heap.size 41 2 g (n1 + n2 + n3) cap (c1 ++ c2 ++ c3) ∧ Below w.heap.size w w' := by
  have e1 : tot [(v1, n1, c1), (v2, n2, c2), (v3, n3, c3)] 3 = n1 + n2 + n3 := by simp [tot]; omega
  have e2 : cat [(v1, n1, c1), (v2, n2, c2), (v3, n3, c3)] 3 = c1 ++ c2 ++ c3 := by simp [cat]
  have h := concat_items [(v1, n1, c1), (v2, n2, c2), (v3, n3, c3)] gq w B hB (fun j u hu => by
      rw [Nat.zero_add, cell_of_row w gq j _ _ _ hq]
      simpa using hu) hgq (by simp) (fun p hp => by
      simp only [List.mem_cons, List.not_mem_nil, or_false] at hp
      rcases hp with rfl | rfl | rfl
      · exact h1
      · exact h2
      · exact h3) (by show 0 < tot _ 3; omega) (by show tot _ 3 ≤ _; omega)
  simp only [List.length_cons, List.length_nil, Nat.zero_add, Nat.reduceAdd] at h
  rw [e1, e2] at h
  exact h

set_option maxRecDepth 100000 in
set_option maxHeartbeats 4000000 in
theorem put_items (xs : List It) (x : It) (g o cap B : Nat) (w : World) (hr : Raw w B (.slice (some ⟨g, o, none⟩) xs.length cap) xs.length (xs.flatMap itC)) (hB : B ≤ w.heap.size) (hfew : xs.length ≤ 1099511627776) :
    Calls Tryd.prog 134 #[.slice (some ⟨g, o, none⟩) xs.length cap, itA x] w fun e w' => ∃ g' cap', e = .returned (.slice (some ⟨g', 0, none⟩) (putI xs x).length cap') ∧ Got w' w.heap.size 41 2 g' (putI xs x).length cap' ((putI xs x).flatMap itC) ∧ Below w.heap.size w w' := by
  unfold itA
  obtain ⟨_, _, hv, hn, hcap, _, hat⟩ := id hr
  cases hv
  obtain ⟨n, hN⟩ : ∃ n, n = xs.length := ⟨_, rfl⟩
  have HR := Lib.hid hr
  rw [← hN] at hn hat hfew ⊢
  have HN := Lib.hid hN
  have Hat := Lib.hid hat
  unfold maxLen at hcap
  obtain ⟨W, hW⟩ : ∃ W, W = w.alloc (.cells #[.string x.k, .string x.v] 41) := ⟨_, rfl⟩
  have hbW : Below w.heap.size w W := by rw [hW]; exact (Below.refl _ _).alloc (Nat.le_refl _) _
  have hWs : W.heap.size = w.heap.size + 1 := by rw [hW]; simp
  have HX : Hid (∀ w', Below W.heap.size W w' → w'.cell? ⟨w.heap.size, 0, none⟩ = some (.string x.k) ∧ w'.cell? ⟨w.heap.size, 1, none⟩ = some (.string x.v)) := Lib.hid (fun w' h => by
    rw [h.cell (show w.heap.size < W.heap.size by omega), h.cell (show w.heap.size < W.heap.size by omega), hW, World.cell?_alloc_new, World.cell?_alloc_new]; exact ⟨rfl, rfl⟩)
  have HbW := Lib.hid hbW
  have HWs := Lib.hid hWs
  have hcx := fun w => impl_nameI x w
  unfold itA at hcx
  have mN := meth_nameI
  have hW0 : Hid (Below W.heap.size W (w.alloc (.cells #[.string x.k, .string x.v] 41))) := Lib.hid (by rw [← hW]; exact Below.refl _ _)
  clear hN hat hr hbW hWs hW
  go_enter Tryd.func134, Tryd.ntmps134
  go_wp2
  go_loopw [5] (fun i wr => ∃ k : Nat, k ≤ n ∧ i = .int .i64 k ∧ Hid (Below W.heap.size W wr) ∧ Hid (∀ j (hj : j < xs.length), j < k → lessB xs[j].k x.k = true)) (fun i _ => n - (intOf i).toNat)
  case atStart => exact ⟨0, by omega, rfl, hW0, Lib.hid (fun j hj h => by omega)⟩
  case round =>
    obtain ⟨k, hk, rfl, hbw, hless⟩ := hrel
    by_cases hlt : k < n
    · obtain ⟨_, _, ha, hg, hAt⟩ := Hat.out (by omega)
      cases ha
      have hkl : k < xs.length := by have := HN.out; omega
      obtain ⟨y, hy⟩ : ∃ y, y = xs[k] := ⟨_, rfl⟩
      have HY : Hid (∀ w', Below W.heap.size W w' → w'.cell? ⟨g, o + k * 2, none⟩ = some (.string y.k) ∧ w'.cell? ⟨g, o + k * 2 + 1, none⟩ = some (.string y.v)) := Lib.hid (fun w' h => by
        have hb := HbW.out.trans (h.mono HbW.out.size)
        have hgw : g < w.heap.size := Nat.lt_of_lt_of_le hg hB
        have hc := hAt.item k hkl
        rw [← hy] at hc
        rw [hb.cell hgw, hb.cell hgw]; exact hc)
      have hcy := fun w => impl_nameI y w
      unfold itA at hcy
      have hc2 := fun w => less_any y.k x.k w
      have Hy := Lib.hid hy
      have hlt' : (k : Int) < (n : Int) := by omega
      clear hy hAt
      cases hb2 : lessB y.k x.k
      · rw [hb2] at hc2
        have hpos : Hid (posI xs x.k = k) := Lib.hid (posI_of xs _ k (by omega) hless.out (.inr ⟨hkl, by rw [← Hy.out]; exact hb2⟩))
        clear hb2
        go_wp2_with fail
        refine wp_region_held_drew (S := (fun w' => Below W.heap.size W w')) (by kernel_rfl) ((show Below W.heap.size W wr from hbw.out).drew) (fun hHeld => ?_)
        refine tk0 0 ?_
        refine tk0 1 ?_
        refine tk0 2 ?_
        refine tk0 3 ?_
        refine tk0 4 ?_
        refine tk0 5 ?_
        refine tk0 6 ?_
        refine tk0 7 ?_
        refine tk 8 (v := ?_) ?_ ?_; rotate_left
        · refine Or.inl ⟨by rfl, ?_⟩; intro w hSw; have f0 := HX.out w hSw; have f1 := HY.out w hSw; go_simp; first | done | with_reducible rfl
        refine tk0 9 ?_
        refine tk 11 (v := ?_) ?_ ?_; rotate_left
        · refine Or.inl ⟨by rfl, ?_⟩; intro w hSw; have f0 := HX.out w hSw; have f1 := HY.out w hSw; go_simp; first | done | with_reducible rfl
        refine tk0 12 ?_
        refine rd1 10 (fun K hK => ?_)
        go_simp
        go_at_call 164
        refine (hcy _).mono ?_
        rintro e w' ⟨rfl, hbc⟩
        have hB2 := hHeld.trans (hbc.mono hHeld.size)
        go_wp2_with fail
        refine hK.out _ _ (hB2) (fun hHeld => ?_)
        clear hK K
        refine rd1 13 (fun K hK => ?_)
        go_simp
        go_at_call 164
        refine (hcx _).mono ?_
        rintro e w' ⟨rfl, hbc⟩
        have hB3 := hHeld.trans (hbc.mono hHeld.size)
        go_wp2_with fail
        refine hK.out _ _ (hB3) (fun hHeld => ?_)
        clear hK K
        refine rd1 14 (fun K hK => ?_)
        go_simp
        go_at_call 80
        refine (hc2 _).mono ?_
        rintro e w' ⟨rfl, rfl⟩
        go_wp2_with fail
        refine hK.out _ _ (hHeld) (fun hHeld => ?_)
        clear hK K
        refine tk0 15 ?_
        refine wpAnyH_done (by kernel_rfl) ?_ _
        have hne : ¬ cap = k := by omega
        have hkc : k ≤ cap := by omega
        have e1 : 0 < n - k := by omega
        by_cases he : y.k = x.k
        · have hq := teq he
          have hput : Hid (putI xs x = xs.take k ++ x :: xs.drop (k + 1)) := Lib.hid (by unfold putI; rw [hpos.out, List.getElem?_eq_getElem hkl, ← Hy.out, if_pos (by simp [he])])
          clear he
          by_cases hc1 : cap - k = 1
          · have hn0 : n - k - 1 = 0 := by omega
            go_wp2_with fail
            refine wp_region_held_drew (S := (fun w' => Below W.heap.size W w')) (by kernel_rfl) (hHeld.drew) (fun hHeld => ?_)
            refine tk0 0 ?_
            refine tk0 1 ?_
            refine tk0 2 ?_
            refine tk0 3 ?_
            refine tk0 4 ?_
            refine tk0 5 ?_
            refine tk 6 (v := ?_) ?_ ?_; rotate_left
            · refine Or.inl ⟨by rfl, ?_⟩; intro w hSw; have f0 := HX.out w hSw; have f1 := HY.out w hSw; go_simp; first | done | with_reducible rfl
            refine tk0 7 ?_
            refine tk 9 (v := ?_) ?_ ?_; rotate_left
            · refine Or.inl ⟨by rfl, ?_⟩; intro w hSw; have f0 := HX.out w hSw; have f1 := HY.out w hSw; go_simp; first | done | with_reducible rfl
            refine tk0 10 ?_
            refine rd1 8 (fun K hK => ?_)
            go_simp
            go_at_call 164
            refine (hcy _).mono ?_
            rintro e w' ⟨rfl, hbc⟩
            have hB2 := hHeld.trans (hbc.mono hHeld.size)
            go_wp2_with fail
            refine hK.out _ _ (hB2) (fun hHeld => ?_)
            clear hK K
            refine rd1 11 (fun K hK => ?_)
            go_simp
            go_at_call 164
            refine (hcx _).mono ?_
            rintro e w' ⟨rfl, hbc⟩
            have hB3 := hHeld.trans (hbc.mono hHeld.size)
            go_wp2_with fail
            refine hK.out _ _ (hB3) (fun hHeld => ?_)
            clear hK K
            refine tk0 12 ?_
            refine tk0 13 ?_
            refine wpAnyH_done (by kernel_rfl) ?_ _
            go_wp2_with fail
            obtain ⟨wV, hwV⟩ : ∃ x, x = w' := ⟨_, rfl⟩
            rw [← hwV] at hHeld ⊢
            have BV := Lib.hid hHeld
            clear hwV hHeld
            refine wp_region_held_drew (S := (fun w' => Below W.heap.size W w')) (by kernel_rfl) (BV.out.drew) (fun hHeld => ?_)
            refine tk0 0 ?_
            refine tk0 1 ?_
            refine tk0 2 ?_
            refine tk 3 (v := ?_) ?_ ?_; rotate_left
            · refine Or.inl ⟨by rfl, ?_⟩; intro w hSw; have f0 := HX.out w hSw; go_simp; first | done | with_reducible rfl
            refine tk0 5 ?_
            refine rd1 4 (fun K hK => ?_)
            go_simp
            obtain ⟨V1, hV1⟩ : ∃ z, z = (wV.alloc (.cells #[.string x.k, .string x.v] 41)).drew := ⟨_, rfl⟩
            rw [← hV1]
            have b1 : Below wV.heap.size wV V1 := by rw [hV1]; exact ((Below.refl _ _).alloc (Nat.le_refl _) _).drew
            have s1 : V1.heap.size = wV.heap.size + 1 := by rw [hV1]; simp
            have q1 : V1.heap[wV.heap.size]? = some (.cells #[.string x.k, .string x.v] 41 (0, 0)) := by rw [hV1]; exact heap_new _ _
            have BV1 := Lib.hid (BV.out.trans (b1.mono BV.out.size))
            have S1 := Lib.hid s1
            have Q1 := Lib.hid q1
            clear hV1 b1 s1 q1
            go_wp2_with fail
            refine hK.out _ _ (BV1.out) (fun hHeld => ?_)
            clear hK K
            refine rd1 6 (fun K hK => ?_)
            go_simp
            obtain ⟨V2, hV2⟩ : ∃ z, z = V1.alloc (.cells #[.slice (some ⟨g, o, none⟩) k cap, .slice (some ⟨wV.heap.size, 0, none⟩) 1 1, .slice (some ⟨g, o + k * 2, none⟩) 0 0] 71) := ⟨_, rfl⟩
            rw [← hV2]
            have b2 : Below V1.heap.size V1 V2 := by rw [hV2]; exact (Below.refl _ _).alloc (Nat.le_refl _) _
            have s2 : V2.heap.size = V1.heap.size + 1 := by rw [hV2]; simp
            have q2 : V2.heap[V1.heap.size]? = some (.cells #[.slice (some ⟨g, o, none⟩) k cap, .slice (some ⟨wV.heap.size, 0, none⟩) 1 1, .slice (some ⟨g, o + k * 2, none⟩) 0 0] 71 (0, 0)) := by rw [hV2]; exact heap_new _ _
            have q3 := (b2.block wV.heap.size (by have := S1.out; omega)).trans Q1.out
            have BV2 := Lib.hid (BV1.out.trans (b2.mono BV1.out.size))
            have S2 := Lib.hid s2
            have Q2 := Lib.hid q2
            have Q3 := Lib.hid q3
            clear hV2 b2 s2 q2 q3
            go_wp2_with fail
            refine hK.out _ _ (BV2.out) (fun hHeld => ?_)
            clear hK K
            refine rd1 7 (fun K hK => ?_)
            go_simp
            go_at_call 141
            have HR2 := HR.out.later (B' := V2.heap.size) ((HbW.out.trans (BV2.out.mono HbW.out.size)).mono hB) (by have := HbW.out.size; have := BV2.out.size; omega)
            rw [← HN.out] at HR2
            have hn1 := HN.out
            have hrest : Raw V2 V2.heap.size (.slice (some ⟨g, o + k * 2, none⟩) 0 0) (0) ((xs.flatMap itC).drop ((k + 1) * 2)) := raw_noneI rfl (by unfold maxLen; omega)
            refine (concat3_items _ _ _ k 1 (0) ((xs.flatMap itC).take (k * 2)) (itC x) ((xs.flatMap itC).drop ((k + 1) * 2)) V1.heap.size V2 V2.heap.size (Nat.le_refl _) Q2.out (by have := S2.out; omega) ⟨raw_takeI HR2 hk, by rw [List.length_take, flat_len_it]; omega, fun u hu => one_it xs u (List.mem_of_mem_take hu)⟩
              ⟨⟨_, 1, rfl, Nat.le_refl _, by unfold maxLen; omega, (fun h => by cases h), fun _ => ⟨wV.heap.size, 0, rfl, by have := S1.out; have := S2.out; omega, fun j u hu => by rw [Nat.zero_add, cell_of_row V2 _ j _ _ _ Q3.out]; simpa [itC] using hu⟩⟩, by simp [itC], fun u hu => one_it [x] u (by simpa using hu)⟩
              ⟨hrest, by rw [List.length_drop, flat_len_it]; omega, fun u hu => one_it xs u (List.mem_of_mem_drop hu)⟩ (by omega) (by omega)).mono ?_
            rintro e w' ⟨g4, cap4, rfl, got4, hb4⟩
            have G4 := Lib.hid got4
            have B4 := Lib.hid (BV2.out.trans (hb4.mono BV2.out.size))
            clear got4 hb4 HR2 hrest hn1
            go_wp2_with fail
            refine hK.out _ _ (B4.out) (fun hHeld => ?_)
            clear hK K
            refine tk0 8 ?_
            refine wpAnyH_done (by kernel_rfl) ?_ _
            clear hHeld mN hcx
            go_wp2_with fail
            go_ret
            have hn1 := HN.out
            have hlen : (putI xs x).length = k + 1 + (0) := by rw [hput.out]; simp only [List.length_append, List.length_cons, List.length_take, List.length_drop]; omega
            have hfl : (putI xs x).flatMap itC = (xs.flatMap itC).take (k * 2) ++ itC x ++ (xs.flatMap itC).drop ((k + 1) * 2) := by rw [hput.out, List.flatMap_append, List.flatMap_cons, flat_take_it xs k (by omega), flat_drop_it xs (k + 1) (by omega), List.append_assoc]
            rw [hlen, hfl]
            exact ⟨g4, cap4, rfl, G4.out.base (by have := HbW.out.size; have := BV2.out.size; omega), HbW.out.trans (B4.out.mono HbW.out.size)⟩
          · go_wp2_with fail
            refine wp_region_held_drew (S := (fun w' => Below W.heap.size W w')) (by kernel_rfl) (hHeld.drew) (fun hHeld => ?_)
            refine tk0 0 ?_
            refine tk0 1 ?_
            refine tk0 2 ?_
            refine tk0 3 ?_
            refine tk0 4 ?_
            refine tk0 5 ?_
            refine tk 6 (v := ?_) ?_ ?_; rotate_left
            · refine Or.inl ⟨by rfl, ?_⟩; intro w hSw; have f0 := HX.out w hSw; have f1 := HY.out w hSw; go_simp; first | done | with_reducible rfl
            refine tk0 7 ?_
            refine tk 9 (v := ?_) ?_ ?_; rotate_left
            · refine Or.inl ⟨by rfl, ?_⟩; intro w hSw; have f0 := HX.out w hSw; have f1 := HY.out w hSw; go_simp; first | done | with_reducible rfl
            refine tk0 10 ?_
            refine rd1 8 (fun K hK => ?_)
            go_simp
            go_at_call 164
            refine (hcy _).mono ?_
            rintro e w' ⟨rfl, hbc⟩
            have hB2 := hHeld.trans (hbc.mono hHeld.size)
            go_wp2_with fail
            refine hK.out _ _ (hB2) (fun hHeld => ?_)
            clear hK K
            refine rd1 11 (fun K hK => ?_)
            go_simp
            go_at_call 164
            refine (hcx _).mono ?_
            rintro e w' ⟨rfl, hbc⟩
            have hB3 := hHeld.trans (hbc.mono hHeld.size)
            go_wp2_with fail
            refine hK.out _ _ (hB3) (fun hHeld => ?_)
            clear hK K
            refine tk0 12 ?_
            refine tk0 13 ?_
            refine wpAnyH_done (by kernel_rfl) ?_ _
            go_wp2_with fail
            obtain ⟨wV, hwV⟩ : ∃ x, x = w' := ⟨_, rfl⟩
            rw [← hwV] at hHeld ⊢
            have BV := Lib.hid hHeld
            clear hwV hHeld
            refine wp_region_held_drew (S := (fun w' => Below W.heap.size W w')) (by kernel_rfl) (BV.out.drew) (fun hHeld => ?_)
            refine tk0 0 ?_
            refine tk0 1 ?_
            refine tk0 2 ?_
            refine tk 3 (v := ?_) ?_ ?_; rotate_left
            · refine Or.inl ⟨by rfl, ?_⟩; intro w hSw; have f0 := HX.out w hSw; go_simp; first | done | with_reducible rfl
            refine tk0 5 ?_
            refine rd1 4 (fun K hK => ?_)
            go_simp
            obtain ⟨V1, hV1⟩ : ∃ z, z = (wV.alloc (.cells #[.string x.k, .string x.v] 41)).drew := ⟨_, rfl⟩
            rw [← hV1]
            have b1 : Below wV.heap.size wV V1 := by rw [hV1]; exact ((Below.refl _ _).alloc (Nat.le_refl _) _).drew
            have s1 : V1.heap.size = wV.heap.size + 1 := by rw [hV1]; simp
            have q1 : V1.heap[wV.heap.size]? = some (.cells #[.string x.k, .string x.v] 41 (0, 0)) := by rw [hV1]; exact heap_new _ _
            have BV1 := Lib.hid (BV.out.trans (b1.mono BV.out.size))
            have S1 := Lib.hid s1
            have Q1 := Lib.hid q1
            clear hV1 b1 s1 q1
            go_wp2_with fail
            refine hK.out _ _ (BV1.out) (fun hHeld => ?_)
            clear hK K
            refine rd1 6 (fun K hK => ?_)
            go_simp
            obtain ⟨V2, hV2⟩ : ∃ z, z = V1.alloc (.cells #[.slice (some ⟨g, o, none⟩) k cap, .slice (some ⟨wV.heap.size, 0, none⟩) 1 1, .slice (some ⟨g, o + k * 2 + 2, none⟩) (n - k - 1) (cap - k - 1)] 71) := ⟨_, rfl⟩
            rw [← hV2]
            have b2 : Below V1.heap.size V1 V2 := by rw [hV2]; exact (Below.refl _ _).alloc (Nat.le_refl _) _
            have s2 : V2.heap.size = V1.heap.size + 1 := by rw [hV2]; simp
            have q2 : V2.heap[V1.heap.size]? = some (.cells #[.slice (some ⟨g, o, none⟩) k cap, .slice (some ⟨wV.heap.size, 0, none⟩) 1 1, .slice (some ⟨g, o + k * 2 + 2, none⟩) (n - k - 1) (cap - k - 1)] 71 (0, 0)) := by rw [hV2]; exact heap_new _ _
            have q3 := (b2.block wV.heap.size (by have := S1.out; omega)).trans Q1.out
            have BV2 := Lib.hid (BV1.out.trans (b2.mono BV1.out.size))
            have S2 := Lib.hid s2
            have Q2 := Lib.hid q2
            have Q3 := Lib.hid q3
            clear hV2 b2 s2 q2 q3
            go_wp2_with fail
            refine hK.out _ _ (BV2.out) (fun hHeld => ?_)
            clear hK K
            refine rd1 7 (fun K hK => ?_)
            go_simp
            go_at_call 141
            have HR2 := HR.out.later (B' := V2.heap.size) ((HbW.out.trans (BV2.out.mono HbW.out.size)).mono hB) (by have := HbW.out.size; have := BV2.out.size; omega)
            rw [← HN.out] at HR2
            have hn1 := HN.out
            have hrest : Raw V2 V2.heap.size (.slice (some ⟨g, o + k * 2 + 2, none⟩) (n - k - 1) (cap - k - 1)) (n - k - 1) ((xs.flatMap itC).drop ((k + 1) * 2)) := (by have h := raw_dropI (j := k + 1) (m := n - k - 1) (c := cap - k - 1) HR2 (by omega) (by omega) (by unfold maxLen; omega); rwa [show o + (k + 1) * 2 = o + k * 2 + 2 by omega] at h)
            refine (concat3_items _ _ _ k 1 (n - k - 1) ((xs.flatMap itC).take (k * 2)) (itC x) ((xs.flatMap itC).drop ((k + 1) * 2)) V1.heap.size V2 V2.heap.size (Nat.le_refl _) Q2.out (by have := S2.out; omega) ⟨raw_takeI HR2 hk, by rw [List.length_take, flat_len_it]; omega, fun u hu => one_it xs u (List.mem_of_mem_take hu)⟩
              ⟨⟨_, 1, rfl, Nat.le_refl _, by unfold maxLen; omega, (fun h => by cases h), fun _ => ⟨wV.heap.size, 0, rfl, by have := S1.out; have := S2.out; omega, fun j u hu => by rw [Nat.zero_add, cell_of_row V2 _ j _ _ _ Q3.out]; simpa [itC] using hu⟩⟩, by simp [itC], fun u hu => one_it [x] u (by simpa using hu)⟩
              ⟨hrest, by rw [List.length_drop, flat_len_it]; omega, fun u hu => one_it xs u (List.mem_of_mem_drop hu)⟩ (by omega) (by omega)).mono ?_
            rintro e w' ⟨g4, cap4, rfl, got4, hb4⟩
            have G4 := Lib.hid got4
            have B4 := Lib.hid (BV2.out.trans (hb4.mono BV2.out.size))
            clear got4 hb4 HR2 hrest hn1
            go_wp2_with fail
            refine hK.out _ _ (B4.out) (fun hHeld => ?_)
            clear hK K
            refine tk0 8 ?_
            refine wpAnyH_done (by kernel_rfl) ?_ _
            clear hHeld mN hcx
            go_wp2_with fail
            go_ret
            have hn1 := HN.out
            have hlen : (putI xs x).length = k + 1 + (n - k - 1) := by rw [hput.out]; simp only [List.length_append, List.length_cons, List.length_take, List.length_drop]; omega
            have hfl : (putI xs x).flatMap itC = (xs.flatMap itC).take (k * 2) ++ itC x ++ (xs.flatMap itC).drop ((k + 1) * 2) := by rw [hput.out, List.flatMap_append, List.flatMap_cons, flat_take_it xs k (by omega), flat_drop_it xs (k + 1) (by omega), List.append_assoc]
            rw [hlen, hfl]
            exact ⟨g4, cap4, rfl, G4.out.base (by have := HbW.out.size; have := BV2.out.size; omega), HbW.out.trans (B4.out.mono HbW.out.size)⟩
        · have hq := tne he
          have hput : Hid (putI xs x = xs.take k ++ x :: xs.drop k) := Lib.hid (by unfold putI; rw [hpos.out, List.getElem?_eq_getElem hkl, ← Hy.out, if_neg (by simpa using he)])
          clear he
          go_wp2_with fail
          refine wp_region_held_drew (S := (fun w' => Below W.heap.size W w')) (by kernel_rfl) (hHeld.drew) (fun hHeld => ?_)
          refine tk0 0 ?_
          refine tk0 1 ?_
          refine tk0 2 ?_
          refine tk0 3 ?_
          refine tk0 4 ?_
          refine tk0 5 ?_
          refine tk 6 (v := ?_) ?_ ?_; rotate_left
          · refine Or.inl ⟨by rfl, ?_⟩; intro w hSw; have f0 := HX.out w hSw; have f1 := HY.out w hSw; go_simp; first | done | with_reducible rfl
          refine tk0 7 ?_
          refine tk 9 (v := ?_) ?_ ?_; rotate_left
          · refine Or.inl ⟨by rfl, ?_⟩; intro w hSw; have f0 := HX.out w hSw; have f1 := HY.out w hSw; go_simp; first | done | with_reducible rfl
          refine tk0 10 ?_
          refine rd1 8 (fun K hK => ?_)
          go_simp
          go_at_call 164
          refine (hcy _).mono ?_
          rintro e w' ⟨rfl, hbc⟩
          have hB2 := hHeld.trans (hbc.mono hHeld.size)
          go_wp2_with fail
          refine hK.out _ _ (hB2) (fun hHeld => ?_)
          clear hK K
          refine rd1 11 (fun K hK => ?_)
          go_simp
          go_at_call 164
          refine (hcx _).mono ?_
          rintro e w' ⟨rfl, hbc⟩
          have hB3 := hHeld.trans (hbc.mono hHeld.size)
          go_wp2_with fail
          refine hK.out _ _ (hB3) (fun hHeld => ?_)
          clear hK K
          refine tk0 12 ?_
          refine tk0 13 ?_
          refine wpAnyH_done (by kernel_rfl) ?_ _
          go_wp2_with fail
          obtain ⟨wV, hwV⟩ : ∃ x, x = w' := ⟨_, rfl⟩
          rw [← hwV] at hHeld ⊢
          have BV := Lib.hid hHeld
          clear hwV hHeld
          refine wp_region_held_drew (S := (fun w' => Below W.heap.size W w')) (by kernel_rfl) (BV.out.drew) (fun hHeld => ?_)
          refine tk0 0 ?_
          refine tk0 1 ?_
          refine tk0 2 ?_
          refine tk 3 (v := ?_) ?_ ?_; rotate_left
          · refine Or.inl ⟨by rfl, ?_⟩; intro w hSw; have f0 := HX.out w hSw; go_simp; first | done | with_reducible rfl
          refine tk0 5 ?_
          refine rd1 4 (fun K hK => ?_)
          go_simp
          obtain ⟨V1, hV1⟩ : ∃ z, z = (wV.alloc (.cells #[.string x.k, .string x.v] 41)).drew := ⟨_, rfl⟩
          rw [← hV1]
          have b1 : Below wV.heap.size wV V1 := by rw [hV1]; exact ((Below.refl _ _).alloc (Nat.le_refl _) _).drew
          have s1 : V1.heap.size = wV.heap.size + 1 := by rw [hV1]; simp
          have q1 : V1.heap[wV.heap.size]? = some (.cells #[.string x.k, .string x.v] 41 (0, 0)) := by rw [hV1]; exact heap_new _ _
          have BV1 := Lib.hid (BV.out.trans (b1.mono BV.out.size))
          have S1 := Lib.hid s1
          have Q1 := Lib.hid q1
          clear hV1 b1 s1 q1
          go_wp2_with fail
          refine hK.out _ _ (BV1.out) (fun hHeld => ?_)
          clear hK K
          refine rd1 6 (fun K hK => ?_)
          go_simp
          obtain ⟨V2, hV2⟩ : ∃ z, z = V1.alloc (.cells #[.slice (some ⟨g, o, none⟩) k cap, .slice (some ⟨wV.heap.size, 0, none⟩) 1 1, .slice (some ⟨g, o + k * 2, none⟩) (n - k) (cap - k)] 71) := ⟨_, rfl⟩
          rw [← hV2]
          have b2 : Below V1.heap.size V1 V2 := by rw [hV2]; exact (Below.refl _ _).alloc (Nat.le_refl _) _
          have s2 : V2.heap.size = V1.heap.size + 1 := by rw [hV2]; simp
          have q2 : V2.heap[V1.heap.size]? = some (.cells #[.slice (some ⟨g, o, none⟩) k cap, .slice (some ⟨wV.heap.size, 0, none⟩) 1 1, .slice (some ⟨g, o + k * 2, none⟩) (n - k) (cap - k)] 71 (0, 0)) := by rw [hV2]; exact heap_new _ _
          have q3 := (b2.block wV.heap.size (by have := S1.out; omega)).trans Q1.out
          have BV2 := Lib.hid (BV1.out.trans (b2.mono BV1.out.size))
          have S2 := Lib.hid s2
          have Q2 := Lib.hid q2
          have Q3 := Lib.hid q3
          clear hV2 b2 s2 q2 q3
          go_wp2_with fail
          refine hK.out _ _ (BV2.out) (fun hHeld => ?_)
          clear hK K
          refine rd1 7 (fun K hK => ?_)
          go_simp
          go_at_call 141
          have HR2 := HR.out.later (B' := V2.heap.size) ((HbW.out.trans (BV2.out.mono HbW.out.size)).mono hB) (by have := HbW.out.size; have := BV2.out.size; omega)
          rw [← HN.out] at HR2
          have hn1 := HN.out
          have hrest : Raw V2 V2.heap.size (.slice (some ⟨g, o + k * 2, none⟩) (n - k) (cap - k)) (n - k) ((xs.flatMap itC).drop ((k) * 2)) := raw_dropI HR2 (by omega) (by omega) (by unfold maxLen; omega)
          refine (concat3_items _ _ _ k 1 (n - k) ((xs.flatMap itC).take (k * 2)) (itC x) ((xs.flatMap itC).drop ((k) * 2)) V1.heap.size V2 V2.heap.size (Nat.le_refl _) Q2.out (by have := S2.out; omega) ⟨raw_takeI HR2 hk, by rw [List.length_take, flat_len_it]; omega, fun u hu => one_it xs u (List.mem_of_mem_take hu)⟩
            ⟨⟨_, 1, rfl, Nat.le_refl _, by unfold maxLen; omega, (fun h => by cases h), fun _ => ⟨wV.heap.size, 0, rfl, by have := S1.out; have := S2.out; omega, fun j u hu => by rw [Nat.zero_add, cell_of_row V2 _ j _ _ _ Q3.out]; simpa [itC] using hu⟩⟩, by simp [itC], fun u hu => one_it [x] u (by simpa using hu)⟩
            ⟨hrest, by rw [List.length_drop, flat_len_it]; omega, fun u hu => one_it xs u (List.mem_of_mem_drop hu)⟩ (by omega) (by omega)).mono ?_
          rintro e w' ⟨g4, cap4, rfl, got4, hb4⟩
          have G4 := Lib.hid got4
          have B4 := Lib.hid (BV2.out.trans (hb4.mono BV2.out.size))
          clear got4 hb4 HR2 hrest hn1
          go_wp2_with fail
          refine hK.out _ _ (B4.out) (fun hHeld => ?_)
          clear hK K
          refine tk0 8 ?_
          refine wpAnyH_done (by kernel_rfl) ?_ _
          clear hHeld mN hcx
          go_wp2_with fail
          go_ret
          have hn1 := HN.out
          have hlen : (putI xs x).length = k + 1 + (n - k) := by rw [hput.out]; simp only [List.length_append, List.length_cons, List.length_take, List.length_drop]; omega
          have hfl : (putI xs x).flatMap itC = (xs.flatMap itC).take (k * 2) ++ itC x ++ (xs.flatMap itC).drop ((k) * 2) := by rw [hput.out, List.flatMap_append, List.flatMap_cons, flat_take_it xs k (by omega), flat_drop_it xs (k) (by omega), List.append_assoc]
          rw [hlen, hfl]
          exact ⟨g4, cap4, rfl, G4.out.base (by have := HbW.out.size; have := BV2.out.size; omega), HbW.out.trans (B4.out.mono HbW.out.size)⟩
      · rw [hb2] at hc2
        have hless' : Hid (∀ j (hj : j < xs.length), j < k + 1 → lessB xs[j].k x.k = true) := Lib.hid (fun j hj h => by
          by_cases he : j = k
          · subst he; rw [← Hy.out]; exact hb2
          · exact hless.out j hj (by omega))
        clear hb2
        go_wp2_with fail
        refine wp_region_held_drew (S := (fun w' => Below W.heap.size W w')) (by kernel_rfl) ((show Below W.heap.size W wr from hbw.out).drew) (fun hHeld => ?_)
        refine tk0 0 ?_
        refine tk0 1 ?_
        refine tk0 2 ?_
        refine tk0 3 ?_
        refine tk0 4 ?_
        refine tk0 5 ?_
        refine tk0 6 ?_
        refine tk0 7 ?_
        refine tk 8 (v := ?_) ?_ ?_; rotate_left
        · refine Or.inl ⟨by rfl, ?_⟩; intro w hSw; have f0 := HX.out w hSw; have f1 := HY.out w hSw; go_simp; first | done | with_reducible rfl
        refine tk0 9 ?_
        refine tk 11 (v := ?_) ?_ ?_; rotate_left
        · refine Or.inl ⟨by rfl, ?_⟩; intro w hSw; have f0 := HX.out w hSw; have f1 := HY.out w hSw; go_simp; first | done | with_reducible rfl
        refine tk0 12 ?_
        refine rd1 10 (fun K hK => ?_)
        go_simp
        go_at_call 164
        refine (hcy _).mono ?_
        rintro e w' ⟨rfl, hbc⟩
        have hB2 := hHeld.trans (hbc.mono hHeld.size)
        go_wp2_with fail
        refine hK.out _ _ (hB2) (fun hHeld => ?_)
        clear hK K
        refine rd1 13 (fun K hK => ?_)
        go_simp
        go_at_call 164
        refine (hcx _).mono ?_
        rintro e w' ⟨rfl, hbc⟩
        have hB3 := hHeld.trans (hbc.mono hHeld.size)
        go_wp2_with fail
        refine hK.out _ _ (hB3) (fun hHeld => ?_)
        clear hK K
        refine rd1 14 (fun K hK => ?_)
        go_simp
        go_at_call 80
        refine (hc2 _).mono ?_
        rintro e w' ⟨rfl, rfl⟩
        go_wp2_with fail
        refine hK.out _ _ (hHeld) (fun hHeld => ?_)
        clear hK K
        refine tk0 15 ?_
        refine wpAnyH_done (by kernel_rfl) ?_ _
        go_wp2_with fail
        go_roundw
        case rel => exact ⟨k + 1, by omega, by go_num, Lib.hid hHeld, hless'⟩
        case measure => simp [intOf]; omega
    · obtain rfl : k = n := by omega
      have hpos : Hid (posI xs x.k = k) := Lib.hid (posI_of xs _ k (by have := HN.out; omega) hless.out (.inl HN.out))
      go_wp2_with fail
      refine wp_region_held_drew (S := (fun w' => Below W.heap.size W w')) (by kernel_rfl) ((show Below W.heap.size W wr from hbw.out).drew) (fun hHeld => ?_)
      refine tk0 0 ?_
      refine tk0 1 ?_
      refine tk0 2 ?_
      refine tk0 3 ?_
      refine tk0 4 ?_
      refine tku 5 ?_
      refine tku 6 ?_
      refine tku 7 ?_
      refine tku 8 ?_
      refine tku 9 ?_
      refine tku 10 ?_
      refine tku 11 ?_
      refine tku 12 ?_
      refine tku 13 ?_
      refine tku 14 ?_
      refine tk0 15 ?_
      refine wpAnyH_done (by kernel_rfl) ?_ _
      have hput : Hid (putI xs x = xs.take k ++ x :: xs.drop k) := Lib.hid (by unfold putI; rw [hpos.out, List.getElem?_eq_none (by have := HN.out; omega), if_neg (by simp)])
      by_cases hcc : cap = k
      · have hcc' := hcc.symm
        subst hcc'
        go_wp2_with fail
        refine wp_region_held_drew (S := (fun w' => Below W.heap.size W w')) (by kernel_rfl) (hHeld.drew) (fun hHeld => ?_)
        refine tk0 0 ?_
        refine tk0 1 ?_
        refine tk0 2 ?_
        refine tk0 3 ?_
        refine tku 4 ?_
        refine tku 5 ?_
        refine tku 6 ?_
        refine tku 7 ?_
        refine tku 8 ?_
        refine tku 9 ?_
        refine tku 10 ?_
        refine tku 11 ?_
        refine tku 12 ?_
        refine tk0 13 ?_
        refine wpAnyH_done (by kernel_rfl) ?_ _
        go_wp2_with fail
        obtain ⟨wV, hwV⟩ : ∃ x, x = wr.drew.drew := ⟨_, rfl⟩
        rw [← hwV] at hHeld ⊢
        have BV := Lib.hid hHeld
        clear hwV hHeld
        refine wp_region_held_drew (S := (fun w' => Below W.heap.size W w')) (by kernel_rfl) (BV.out.drew) (fun hHeld => ?_)
        refine tk0 0 ?_
        refine tk0 1 ?_
        refine tk0 2 ?_
        refine tk 3 (v := ?_) ?_ ?_; rotate_left
        · refine Or.inl ⟨by rfl, ?_⟩; intro w hSw; have f0 := HX.out w hSw; go_simp; first | done | with_reducible rfl
        refine tk0 5 ?_
        refine rd1 4 (fun K hK => ?_)
        go_simp
        obtain ⟨V1, hV1⟩ : ∃ z, z = (wV.alloc (.cells #[.string x.k, .string x.v] 41)).drew := ⟨_, rfl⟩
        rw [← hV1]
        have b1 : Below wV.heap.size wV V1 := by rw [hV1]; exact ((Below.refl _ _).alloc (Nat.le_refl _) _).drew
        have s1 : V1.heap.size = wV.heap.size + 1 := by rw [hV1]; simp
        have q1 : V1.heap[wV.heap.size]? = some (.cells #[.string x.k, .string x.v] 41 (0, 0)) := by rw [hV1]; exact heap_new _ _
        have BV1 := Lib.hid (BV.out.trans (b1.mono BV.out.size))
        have S1 := Lib.hid s1
        have Q1 := Lib.hid q1
        clear hV1 b1 s1 q1
        go_wp2_with fail
        refine hK.out _ _ (BV1.out) (fun hHeld => ?_)
        clear hK K
        refine rd1 6 (fun K hK => ?_)
        go_simp
        obtain ⟨V2, hV2⟩ : ∃ z, z = V1.alloc (.cells #[.slice (some ⟨g, o, none⟩) k k, .slice (some ⟨wV.heap.size, 0, none⟩) 1 1, .slice (some ⟨g, o, none⟩) 0 0] 71) := ⟨_, rfl⟩
        rw [← hV2]
        have b2 : Below V1.heap.size V1 V2 := by rw [hV2]; exact (Below.refl _ _).alloc (Nat.le_refl _) _
        have s2 : V2.heap.size = V1.heap.size + 1 := by rw [hV2]; simp
        have q2 : V2.heap[V1.heap.size]? = some (.cells #[.slice (some ⟨g, o, none⟩) k k, .slice (some ⟨wV.heap.size, 0, none⟩) 1 1, .slice (some ⟨g, o, none⟩) 0 0] 71 (0, 0)) := by rw [hV2]; exact heap_new _ _
        have q3 := (b2.block wV.heap.size (by have := S1.out; omega)).trans Q1.out
        have BV2 := Lib.hid (BV1.out.trans (b2.mono BV1.out.size))
        have S2 := Lib.hid s2
        have Q2 := Lib.hid q2
        have Q3 := Lib.hid q3
        clear hV2 b2 s2 q2 q3
        go_wp2_with fail
        refine hK.out _ _ (BV2.out) (fun hHeld => ?_)
        clear hK K
        refine rd1 7 (fun K hK => ?_)
        go_simp
        go_at_call 141
        have HR2 := HR.out.later (B' := V2.heap.size) ((HbW.out.trans (BV2.out.mono HbW.out.size)).mono hB) (by have := HbW.out.size; have := BV2.out.size; omega)
        rw [← HN.out] at HR2
        have hn1 := HN.out
        have hrest : Raw V2 V2.heap.size (.slice (some ⟨g, o, none⟩) 0 0) (0) ((xs.flatMap itC).drop ((k) * 2)) := raw_noneI rfl (by unfold maxLen; omega)
        refine (concat3_items _ _ _ k 1 (0) ((xs.flatMap itC).take (k * 2)) (itC x) ((xs.flatMap itC).drop ((k) * 2)) V1.heap.size V2 V2.heap.size (Nat.le_refl _) Q2.out (by have := S2.out; omega) ⟨raw_takeI HR2 hk, by rw [List.length_take, flat_len_it]; omega, fun u hu => one_it xs u (List.mem_of_mem_take hu)⟩
          ⟨⟨_, 1, rfl, Nat.le_refl _, by unfold maxLen; omega, (fun h => by cases h), fun _ => ⟨wV.heap.size, 0, rfl, by have := S1.out; have := S2.out; omega, fun j u hu => by rw [Nat.zero_add, cell_of_row V2 _ j _ _ _ Q3.out]; simpa [itC] using hu⟩⟩, by simp [itC], fun u hu => one_it [x] u (by simpa using hu)⟩
          ⟨hrest, by rw [List.length_drop, flat_len_it]; omega, fun u hu => one_it xs u (List.mem_of_mem_drop hu)⟩ (by omega) (by omega)).mono ?_
        rintro e w' ⟨g4, cap4, rfl, got4, hb4⟩
        have G4 := Lib.hid got4
        have B4 := Lib.hid (BV2.out.trans (hb4.mono BV2.out.size))
        clear got4 hb4 HR2 hrest hn1
        go_wp2_with fail
        refine hK.out _ _ (B4.out) (fun hHeld => ?_)
        clear hK K
        refine tk0 8 ?_
        refine wpAnyH_done (by kernel_rfl) ?_ _
        clear hHeld mN hcx
        go_wp2_with fail
        go_ret
        have hn1 := HN.out
        have hlen : (putI xs x).length = k + 1 + (0) := by rw [hput.out]; simp only [List.length_append, List.length_cons, List.length_take, List.length_drop]; omega
        have hfl : (putI xs x).flatMap itC = (xs.flatMap itC).take (k * 2) ++ itC x ++ (xs.flatMap itC).drop ((k) * 2) := by rw [hput.out, List.flatMap_append, List.flatMap_cons, flat_take_it xs k (by omega), flat_drop_it xs (k) (by omega), List.append_assoc]
        rw [hlen, hfl]
        exact ⟨g4, cap4, rfl, G4.out.base (by have := HbW.out.size; have := BV2.out.size; omega), HbW.out.trans (B4.out.mono HbW.out.size)⟩
      · go_wp2_with fail
        refine wp_region_held_drew (S := (fun w' => Below W.heap.size W w')) (by kernel_rfl) (hHeld.drew) (fun hHeld => ?_)
        refine tk0 0 ?_
        refine tk0 1 ?_
        refine tk0 2 ?_
        refine tk0 3 ?_
        refine tku 4 ?_
        refine tku 5 ?_
        refine tku 6 ?_
        refine tku 7 ?_
        refine tku 8 ?_
        refine tku 9 ?_
        refine tku 10 ?_
        refine tku 11 ?_
        refine tku 12 ?_
        refine tk0 13 ?_
        refine wpAnyH_done (by kernel_rfl) ?_ _
        go_wp2_with fail
        obtain ⟨wV, hwV⟩ : ∃ x, x = wr.drew.drew := ⟨_, rfl⟩
        rw [← hwV] at hHeld ⊢
        have BV := Lib.hid hHeld
        clear hwV hHeld
        refine wp_region_held_drew (S := (fun w' => Below W.heap.size W w')) (by kernel_rfl) (BV.out.drew) (fun hHeld => ?_)
        refine tk0 0 ?_
        refine tk0 1 ?_
        refine tk0 2 ?_
        refine tk 3 (v := ?_) ?_ ?_; rotate_left
        · refine Or.inl ⟨by rfl, ?_⟩; intro w hSw; have f0 := HX.out w hSw; go_simp; first | done | with_reducible rfl
        refine tk0 5 ?_
        refine rd1 4 (fun K hK => ?_)
        go_simp
        obtain ⟨V1, hV1⟩ : ∃ z, z = (wV.alloc (.cells #[.string x.k, .string x.v] 41)).drew := ⟨_, rfl⟩
        rw [← hV1]
        have b1 : Below wV.heap.size wV V1 := by rw [hV1]; exact ((Below.refl _ _).alloc (Nat.le_refl _) _).drew
        have s1 : V1.heap.size = wV.heap.size + 1 := by rw [hV1]; simp
        have q1 : V1.heap[wV.heap.size]? = some (.cells #[.string x.k, .string x.v] 41 (0, 0)) := by rw [hV1]; exact heap_new _ _
        have BV1 := Lib.hid (BV.out.trans (b1.mono BV.out.size))
        have S1 := Lib.hid s1
        have Q1 := Lib.hid q1
        clear hV1 b1 s1 q1
        go_wp2_with fail
        refine hK.out _ _ (BV1.out) (fun hHeld => ?_)
        clear hK K
        refine rd1 6 (fun K hK => ?_)
        go_simp
        obtain ⟨V2, hV2⟩ : ∃ z, z = V1.alloc (.cells #[.slice (some ⟨g, o, none⟩) k cap, .slice (some ⟨wV.heap.size, 0, none⟩) 1 1, .slice (some ⟨g, o + k * 2, none⟩) 0 (cap - k)] 71) := ⟨_, rfl⟩
        rw [← hV2]
        have b2 : Below V1.heap.size V1 V2 := by rw [hV2]; exact (Below.refl _ _).alloc (Nat.le_refl _) _
        have s2 : V2.heap.size = V1.heap.size + 1 := by rw [hV2]; simp
        have q2 : V2.heap[V1.heap.size]? = some (.cells #[.slice (some ⟨g, o, none⟩) k cap, .slice (some ⟨wV.heap.size, 0, none⟩) 1 1, .slice (some ⟨g, o + k * 2, none⟩) 0 (cap - k)] 71 (0, 0)) := by rw [hV2]; exact heap_new _ _
        have q3 := (b2.block wV.heap.size (by have := S1.out; omega)).trans Q1.out
        have BV2 := Lib.hid (BV1.out.trans (b2.mono BV1.out.size))
        have S2 := Lib.hid s2
        have Q2 := Lib.hid q2
        have Q3 := Lib.hid q3
        clear hV2 b2 s2 q2 q3
        go_wp2_with fail
        refine hK.out _ _ (BV2.out) (fun hHeld => ?_)
        clear hK K
        refine rd1 7 (fun K hK => ?_)
        go_simp
        go_at_call 141
        have HR2 := HR.out.later (B' := V2.heap.size) ((HbW.out.trans (BV2.out.mono HbW.out.size)).mono hB) (by have := HbW.out.size; have := BV2.out.size; omega)
        rw [← HN.out] at HR2
        have hn1 := HN.out
        have hrest : Raw V2 V2.heap.size (.slice (some ⟨g, o + k * 2, none⟩) 0 (cap - k)) (0) ((xs.flatMap itC).drop ((k) * 2)) := raw_noneI rfl (by unfold maxLen; omega)
        refine (concat3_items _ _ _ k 1 (0) ((xs.flatMap itC).take (k * 2)) (itC x) ((xs.flatMap itC).drop ((k) * 2)) V1.heap.size V2 V2.heap.size (Nat.le_refl _) Q2.out (by have := S2.out; omega) ⟨raw_takeI HR2 hk, by rw [List.length_take, flat_len_it]; omega, fun u hu => one_it xs u (List.mem_of_mem_take hu)⟩
          ⟨⟨_, 1, rfl, Nat.le_refl _, by unfold maxLen; omega, (fun h => by cases h), fun _ => ⟨wV.heap.size, 0, rfl, by have := S1.out; have := S2.out; omega, fun j u hu => by rw [Nat.zero_add, cell_of_row V2 _ j _ _ _ Q3.out]; simpa [itC] using hu⟩⟩, by simp [itC], fun u hu => one_it [x] u (by simpa using hu)⟩
          ⟨hrest, by rw [List.length_drop, flat_len_it]; omega, fun u hu => one_it xs u (List.mem_of_mem_drop hu)⟩ (by omega) (by omega)).mono ?_
        rintro e w' ⟨g4, cap4, rfl, got4, hb4⟩
        have G4 := Lib.hid got4
        have B4 := Lib.hid (BV2.out.trans (hb4.mono BV2.out.size))
        clear got4 hb4 HR2 hrest hn1
        go_wp2_with fail
        refine hK.out _ _ (B4.out) (fun hHeld => ?_)
        clear hK K
        refine tk0 8 ?_
        refine wpAnyH_done (by kernel_rfl) ?_ _
        clear hHeld mN hcx
        go_wp2_with fail
        go_ret
        have hn1 := HN.out
        have hlen : (putI xs x).length = k + 1 + (0) := by rw [hput.out]; simp only [List.length_append, List.length_cons, List.length_take, List.length_drop]; omega
        have hfl : (putI xs x).flatMap itC = (xs.flatMap itC).take (k * 2) ++ itC x ++ (xs.flatMap itC).drop ((k) * 2) := by rw [hput.out, List.flatMap_append, List.flatMap_cons, flat_take_it xs k (by omega), flat_drop_it xs (k) (by omega), List.append_assoc]
        rw [hlen, hfl]
        exact ⟨g4, cap4, rfl, G4.out.base (by have := HbW.out.size; have := BV2.out.size; omega), HbW.out.trans (B4.out.mono HbW.out.size)⟩

set_option maxRecDepth 100000 in
set_option maxHeartbeats 4000000 in
theorem put_itemsNil (x : It) (w : World) :
    Calls Tryd.prog 134 #[.slice none 0 0, itA x] w fun e w' => ∃ g' cap', e = .returned (.slice (some ⟨g', 0, none⟩) 1 cap') ∧ Got w' w.heap.size 41 2 g' 1 cap' (itC x) ∧ Below w.heap.size w w' := by
  unfold itA
  obtain ⟨W, hW⟩ : ∃ W, W = w.alloc (.cells #[.string x.k, .string x.v] 41) := ⟨_, rfl⟩
  have hbW : Below w.heap.size w W := by rw [hW]; exact (Below.refl _ _).alloc (Nat.le_refl _) _
  have hWs : W.heap.size = w.heap.size + 1 := by rw [hW]; simp
  have HX : Hid (∀ w', Below W.heap.size W w' → w'.cell? ⟨w.heap.size, 0, none⟩ = some (.string x.k) ∧ w'.cell? ⟨w.heap.size, 1, none⟩ = some (.string x.v)) := Lib.hid (fun w' h => by
    rw [h.cell (show w.heap.size < W.heap.size by omega), h.cell (show w.heap.size < W.heap.size by omega), hW, World.cell?_alloc_new, World.cell?_alloc_new]; exact ⟨rfl, rfl⟩)
  have HbW := Lib.hid hbW
  have mN := meth_nameI
  have hW0 : Hid (Below W.heap.size W (w.alloc (.cells #[.string x.k, .string x.v] 41))) := Lib.hid (by rw [← hW]; exact Below.refl _ _)
  clear hbW hWs hW
  go_enter Tryd.func134, Tryd.ntmps134
  go_wp2
  go_loopw [5] (fun i wr => i = .int .i64 0 ∧ Hid (Below W.heap.size W wr)) (fun _ _ => 0)
  case atStart => exact ⟨rfl, hW0⟩
  case round =>
    obtain ⟨rfl, hbw⟩ := hrel
    go_wp2_with fail
    refine wp_region_held_drew (S := (fun w' => Below W.heap.size W w')) (by kernel_rfl) ((show Below W.heap.size W wr from hbw.out).drew) (fun hHeld => ?_)
    refine tk0 0 ?_
    refine tk0 1 ?_
    refine tk0 2 ?_
    refine tk0 3 ?_
    refine tk0 4 ?_
    refine tku 5 ?_
    refine tku 6 ?_
    refine tku 7 ?_
    refine tku 8 ?_
    refine tku 9 ?_
    refine tku 10 ?_
    refine tku 11 ?_
    refine tku 12 ?_
    refine tku 13 ?_
    refine tku 14 ?_
    refine tk0 15 ?_
    refine wpAnyH_done (by kernel_rfl) ?_ _
    go_wp2_with fail
    refine wp_region_held_drew (S := (fun w' => Below W.heap.size W w')) (by kernel_rfl) (hHeld.drew) (fun hHeld => ?_)
    refine tk0 0 ?_
    refine tk0 1 ?_
    refine tk0 2 ?_
    refine tk0 3 ?_
    refine tku 4 ?_
    refine tku 5 ?_
    refine tku 6 ?_
    refine tku 7 ?_
    refine tku 8 ?_
    refine tku 9 ?_
    refine tku 10 ?_
    refine tku 11 ?_
    refine tku 12 ?_
    refine tk0 13 ?_
    refine wpAnyH_done (by kernel_rfl) ?_ _
    go_wp2_with fail
    obtain ⟨wV, hwV⟩ : ∃ x, x = wr.drew.drew := ⟨_, rfl⟩
    rw [← hwV] at hHeld ⊢
    have BV := Lib.hid hHeld
    clear hwV hHeld
    refine wp_region_held_drew (S := (fun w' => Below W.heap.size W w')) (by kernel_rfl) (BV.out.drew) (fun hHeld => ?_)
    refine tk0 0 ?_
    refine tk0 1 ?_
    refine tk0 2 ?_
    refine tk 3 (v := ?_) ?_ ?_; rotate_left
    · refine Or.inl ⟨by rfl, ?_⟩; intro w hSw; have f0 := HX.out w hSw; go_simp; first | done | with_reducible rfl
    refine tk0 5 ?_
    refine rd1 4 (fun K hK => ?_)
    go_simp
    obtain ⟨V1, hV1⟩ : ∃ z, z = (wV.alloc (.cells #[.string x.k, .string x.v] 41)).drew := ⟨_, rfl⟩
    rw [← hV1]
    have b1 : Below wV.heap.size wV V1 := by rw [hV1]; exact ((Below.refl _ _).alloc (Nat.le_refl _) _).drew
    have s1 : V1.heap.size = wV.heap.size + 1 := by rw [hV1]; simp
    have q1 : V1.heap[wV.heap.size]? = some (.cells #[.string x.k, .string x.v] 41 (0, 0)) := by rw [hV1]; exact heap_new _ _
    have BV1 := Lib.hid (BV.out.trans (b1.mono BV.out.size))
    have S1 := Lib.hid s1
    have Q1 := Lib.hid q1
    clear hV1 b1 s1 q1
    go_wp2_with fail
    refine hK.out _ _ (BV1.out) (fun hHeld => ?_)
    clear hK K
    refine rd1 6 (fun K hK => ?_)
    go_simp
    obtain ⟨V2, hV2⟩ : ∃ z, z = V1.alloc (.cells #[.slice none 0 0, .slice (some ⟨wV.heap.size, 0, none⟩) 1 1, .slice none 0 0] 71) := ⟨_, rfl⟩
    rw [← hV2]
    have b2 : Below V1.heap.size V1 V2 := by rw [hV2]; exact (Below.refl _ _).alloc (Nat.le_refl _) _
    have s2 : V2.heap.size = V1.heap.size + 1 := by rw [hV2]; simp
    have q2 : V2.heap[V1.heap.size]? = some (.cells #[.slice none 0 0, .slice (some ⟨wV.heap.size, 0, none⟩) 1 1, .slice none 0 0] 71 (0, 0)) := by rw [hV2]; exact heap_new _ _
    have q3 := (b2.block wV.heap.size (by have := S1.out; omega)).trans Q1.out
    have BV2 := Lib.hid (BV1.out.trans (b2.mono BV1.out.size))
    have S2 := Lib.hid s2
    have Q2 := Lib.hid q2
    have Q3 := Lib.hid q3
    clear hV2 b2 s2 q2 q3
    go_wp2_with fail
    refine hK.out _ _ (BV2.out) (fun hHeld => ?_)
    clear hK K
    refine rd1 7 (fun K hK => ?_)
    go_simp
    go_at_call 141
    have hrest : Raw V2 V2.heap.size (.slice none 0 0) 0 [] := ⟨none, 0, rfl, Nat.le_refl _, Nat.zero_le _, fun _ => rfl, fun h => absurd h (Nat.lt_irrefl _)⟩
    refine (concat3_items _ _ _ 0 1 0 [] (itC x) [] V1.heap.size V2 V2.heap.size (Nat.le_refl _) Q2.out (by have := S2.out; omega) ⟨hrest, rfl, fun u hu => by simp at hu⟩
      ⟨⟨_, 1, rfl, Nat.le_refl _, by unfold maxLen; omega, (fun h => by cases h), fun _ => ⟨wV.heap.size, 0, rfl, by have := S1.out; have := S2.out; omega, fun j u hu => by rw [Nat.zero_add, cell_of_row V2 _ j _ _ _ Q3.out]; simpa [itC] using hu⟩⟩, by simp [itC], fun u hu => one_it [x] u (by simpa using hu)⟩
      ⟨hrest, rfl, fun u hu => by simp at hu⟩ (by omega) (by omega)).mono ?_
    rintro e w' ⟨g4, cap4, rfl, got4, hb4⟩
    have G4 := Lib.hid got4
    have B4 := Lib.hid (BV2.out.trans (hb4.mono BV2.out.size))
    clear got4 hb4 hrest
    go_wp2_with fail
    refine hK.out _ _ (B4.out) (fun hHeld => ?_)
    clear hK K
    refine tk0 8 ?_
    refine wpAnyH_done (by kernel_rfl) ?_ _
    clear hHeld mN
    go_wp2_with fail
    go_ret
    exact ⟨g4, cap4, rfl, by have h := G4.out.base (show w.heap.size ≤ V2.heap.size by have := HbW.out.size; have := BV2.out.size; omega); simpa using h, HbW.out.trans (B4.out.mono HbW.out.size)⟩

end Go.Proofs.YtebmaplflpfjbaaDoor
