/- What spec.SameState answers: whether both states hold the same. Condition: rows that can be read. -/
import Derived.Test.YtdpjdjkfedcojaaGreatBaseA
import Derived.Deep.RegionHeld3
namespace Go.Proofs.YtdpjdjkfedcojaaGreat
open Go.RowKit List
set_option linter.unusedVariables false

theorem teq_iff {a b : ByteArray} : (a.toList == b.toList) = true ↔ a = b := ⟨fun h => Classical.byContradiction fun hn => (by rw [tne hn] at h; cases h), teq⟩
theorem It.eq_iff (x y : It) : x = y ↔ x.k = y.k ∧ x.v = y.v := by cases x; cases y; simp
theorem Tk.eq_iff (x y : Tk) : x = y ↔ x.c = y.c ∧ x.q = y.q ∧ x.r = y.r := by cases x; cases y; simp
theorem St.eq_iff (x y : St) : x = y ↔ x.items = y.items ∧ x.talks = y.talks := by cases x; cases y; simp

set_option maxHeartbeats 4000000 in
theorem spec_same (a b : St) (va vb : Value) (B : Nat) (w : World) (ha : Rd w B va a) (hb : Rd w B vb b) (hB : B ≤ w.heap.size) :
    Calls Tryz.prog 18 #[va, vb] w fun e w' => ∃ r, e = .returned (.bool r) ∧ (r = true ↔ a = b) ∧ Below w.heap.size w w' := by
  obtain ⟨ai, at_, rfl, hai, hat⟩ := ha
  obtain ⟨bi, bt, rfl, hbi, hbt⟩ := hb
  obtain ⟨n, hN⟩ : ∃ n, n = a.items.length := ⟨_, rfl⟩
  obtain ⟨n', hN'⟩ : ∃ n, n = b.items.length := ⟨_, rfl⟩
  obtain ⟨m, hM⟩ : ∃ m, m = a.talks.length := ⟨_, rfl⟩
  obtain ⟨m', hM'⟩ : ∃ m, m = b.talks.length := ⟨_, rfl⟩
  rw [← hN] at hai; rw [← hN'] at hbi; rw [← hM] at hat; rw [← hM'] at hbt
  obtain ⟨pa, ca, rfl, hna, hca, _, hata⟩ := hai
  obtain ⟨qa, da, rfl, hma, hda, _, htta⟩ := hat
  obtain ⟨pb, cb, rfl, hnb, hcb, _, hatb⟩ := hbi
  obtain ⟨qb, db, rfl, hmb, hdb, _, httb⟩ := hbt
  obtain ⟨W, hW⟩ : ∃ W, W = (w.alloc (.cells #[.slice pa n ca, .slice qa m da] 27)).alloc (.cells #[.slice pb n' cb, .slice qb m' db] 27) := ⟨_, rfl⟩
  have hbW : Below w.heap.size w W := by rw [hW]; exact ((Below.refl _ _).alloc (Nat.le_refl _) _).alloc (by simp) _
  have k0 : W.heap[w.heap.size]? = some (.cells #[.slice pa n ca, .slice qa m da] 27 (0, 0)) := by
    rw [hW, Below.heap_alloc _ _ _ (by simp)]; exact heap_new _ _
  have k1 : W.heap[w.heap.size + 1]? = some (.cells #[.slice pb n' cb, .slice qb m' db] 27 (0, 0)) := by
    rw [hW]; simpa using heap_new (w.alloc (.cells #[.slice pa n ca, .slice qa m da] 27)) (.cells #[.slice pb n' cb, .slice qb m' db] 27)
  have a0 := cell_of_row W _ 0 _ _ _ k0
  have a1 := cell_of_row W _ 1 _ _ _ k0
  have b0 := cell_of_row W _ 0 _ _ _ k1
  have b1 := cell_of_row W _ 1 _ _ _ k1
  simp only [List.getElem?_toArray, List.getElem?_cons_zero, List.getElem?_cons_succ] at a0 a1 b0 b1
  have Hata := Lib.hid hata
  have Hatb := Lib.hid hatb
  have Htta := Lib.hid htta
  have Httb := Lib.hid httb
  have HbW := Lib.hid hbW
  have HN := Lib.hid hN
  have HN' := Lib.hid hN'
  have HM := Lib.hid hM
  have HM' := Lib.hid hM'
  unfold maxLen at hca hcb hda hdb
  clear hata hatb htta httb k0 k1 hbW hN hN' hM hM'
  by_cases hl1 : n = n'
  case neg =>
    have Hne : Hid (¬ a = b) := Lib.hid (fun h => hl1 (by rw [HN.out, HN'.out, h]))
    have hl1' : ¬ (n : Int) = (n' : Int) := by omega
    subst hW
    clear hl1
    go_enter Tryz.func18, Tryz.ntmps18
    go_wp2
    go_ret
    exact ⟨false, rfl, by simp [Hne.out], HbW.out⟩
  by_cases hl2 : m = m'
  case neg =>
    have Hne : Hid (¬ a = b) := Lib.hid (fun h => hl2 (by rw [HM.out, HM'.out, h]))
    have hl2' : ¬ (m : Int) = (m' : Int) := by omega
    subst hW hl1
    clear hl2
    go_enter Tryz.func18, Tryz.ntmps18
    go_wp2
    go_ret
    exact ⟨false, rfl, by simp [Hne.out], HbW.out⟩
  subst hl1 hl2
  have hW' := hW
  have HP : Hid (∀ w', Below W.heap.size W w' → w'.cell? ⟨w.heap.size, 0, none⟩ = some (.slice pa n ca) ∧ w'.cell? ⟨w.heap.size, 1, none⟩ = some (.slice qa m da) ∧ w'.cell? ⟨w.heap.size + 1, 0, none⟩ = some (.slice pb n cb) ∧ w'.cell? ⟨w.heap.size + 1, 1, none⟩ = some (.slice qb m db)) := Lib.hid (fun w' h => by
    have hs : W.heap.size = w.heap.size + 2 := by rw [hW']; simp
    rw [h.cell (show w.heap.size < W.heap.size by omega), h.cell (show w.heap.size < W.heap.size by omega), h.cell (show w.heap.size + 1 < W.heap.size by omega), h.cell (show w.heap.size + 1 < W.heap.size by omega)]
    exact ⟨a0, a1, b0, b1⟩)
  rw [hW] at a0 a1 b0 b1
  clear hW
  go_enter Tryz.func18, Tryz.ntmps18
  go_wp2
  clear a0 a1 b0 b1
  go_loopw [5] (fun i wr => ∃ k : Nat, k ≤ n ∧ i = .int .i64 k ∧ Hid (∀ i, i < k → a.items[i]? = b.items[i]?) ∧ Hid (Below W.heap.size W wr)) (fun i _ => n - (intOf i).toNat)
  case atStart => exact ⟨0, Nat.zero_le _, rfl, Lib.hid (fun i h => by omega), Lib.hid (hW' ▸ Below.refl _ _)⟩
  case round =>
    obtain ⟨k, hk, rfl, hno, hbw⟩ := hrel
    obtain ⟨a0, a1, b0, b1⟩ := HP.out wr hbw.out
    by_cases hlt : k < n
    · obtain ⟨g, o, hpa, hg, hAt⟩ := Hata.out (by omega)
      obtain ⟨g', o', hpb, hg', hAt'⟩ := Hatb.out (by omega)
      subst hpa hpb
      have hka : k < a.items.length := by have := HN.out; omega
      have hkb : k < b.items.length := by have := HN'.out; omega
      obtain ⟨x, hx⟩ : ∃ x, x = a.items[k] := ⟨_, rfl⟩
      obtain ⟨y, hy⟩ : ∃ y, y = b.items[k] := ⟨_, rfl⟩
      have HA : Hid (∀ w', Below W.heap.size W w' → w'.cell? ⟨g, o + k * 2, none⟩ = some (.string x.k) ∧ w'.cell? ⟨g, o + k * 2 + 1, none⟩ = some (.string x.v)) := Lib.hid (fun w' h => by
        have hgw : g < w.heap.size := by omega
        have hc := hAt.item k hka
        rw [← hx] at hc
        have h' := HbW.out.trans (h.mono HbW.out.size)
        rw [h'.cell hgw, h'.cell hgw]; exact hc)
      have HB : Hid (∀ w', Below W.heap.size W w' → w'.cell? ⟨g', o' + k * 2, none⟩ = some (.string y.k) ∧ w'.cell? ⟨g', o' + k * 2 + 1, none⟩ = some (.string y.v)) := Lib.hid (fun w' h => by
        have hgw : g' < w.heap.size := by omega
        have hc := hAt'.item k hkb
        rw [← hy] at hc
        have h' := HbW.out.trans (h.mono HbW.out.size)
        rw [h'.cell hgw, h'.cell hgw]; exact hc)
      have hlt' : (k : Int) < (n : Int) := by omega
      have Hx := Lib.hid hx
      have Hy := Lib.hid hy
      clear hx hy hAt hAt'
      obtain ⟨e1, he1⟩ : ∃ e, (x.k.toList == y.k.toList) = e := ⟨_, rfl⟩
      obtain ⟨e2, he2⟩ : ∃ e, (x.v.toList == y.v.toList) = e := ⟨_, rfl⟩
      go_wp2_with fail
      clear a0 a1 b0 b1
      refine wp_region_held_drew (S := (fun w' => Below W.heap.size W w')) (by kernel_rfl) ((show Below W.heap.size W wr from hbw.out).drew) (fun hHeld => ?_)
      refine tk0 0 ?_
      refine tk 1 (v := ?_) ?_ ?_; rotate_left
      · refine Or.inl ⟨by rfl, ?_⟩; intro w hSw; have f0 := HP.out w hSw; have f1 := HA.out w hSw; have f2 := HB.out w hSw; go_simp; first | done | with_reducible rfl
      refine tk0 2 ?_
      refine tk0 3 ?_
      refine tk 4 (v := ?_) ?_ ?_; rotate_left
      · refine Or.inl ⟨by rfl, ?_⟩; intro w hSw; have f0 := HP.out w hSw; have f1 := HA.out w hSw; have f2 := HB.out w hSw; go_simp; first | done | with_reducible rfl
      refine tk0 5 ?_
      refine tk 6 (v := ?_) ?_ ?_; rotate_left
      · refine Or.inl ⟨by rfl, ?_⟩; intro w hSw; have f0 := HP.out w hSw; have f1 := HA.out w hSw; have f2 := HB.out w hSw; go_simp; first | done | with_reducible rfl
      refine tk0 7 ?_
      refine tk0 8 ?_
      refine tk 9 (v := ?_) ?_ ?_; rotate_left
      · refine Or.inl ⟨by rfl, ?_⟩; intro w hSw; have f0 := HP.out w hSw; have f1 := HA.out w hSw; have f2 := HB.out w hSw; go_simp; first | done | with_reducible rfl
      refine wpAnyH_take (i := 10) (v := .bool (!(e1 && e2))) rfl (by kernel_rfl) (by kernel_rfl) (by kernel_rfl) (fun _ _ _ h => h) (Or.inl ⟨by rfl, ?_⟩) (by assumption) ?_
      · intro w hSw; go_simp; cases e1 <;> cases e2 <;> rfl
      try simp only [getElem_toArray, getElem_cons_zero, getElem_cons_succ, Act.put, setIfInBounds_toArray, set_cons_zero, set_cons_succ]
      refine wpAnyH_done (by kernel_rfl) ?_ _
      obtain ⟨e, he⟩ : ∃ e, (e1 && e2) = e := ⟨_, rfl⟩
      rw [he]
      have hxy : e = true ↔ x = y := by
        rw [It.eq_iff, ← he, Bool.and_eq_true, ← he1, ← he2, teq_iff, teq_iff]
      have hsz := HbW.out.size
      have hout : Hid (Below w.heap.size w wr.drew) := Lib.hid (HbW.out.trans (hHeld.mono hsz))
      cases e with
      | false =>
        have hne : Hid (¬ a = b) := Lib.hid (fun h => by
          have : x = y := by rw [Hx.out, Hy.out]; simp only [h]
          simpa using hxy.2 this)
        clear hxy he he1 he2
        go_wp2_with fail
        go_ret
        exact ⟨false, rfl, by simp [hne.out], hout.out⟩
      | true =>
        have hno' : Hid (∀ i, i < k + 1 → a.items[i]? = b.items[i]?) := Lib.hid (fun i hi => by
          by_cases h' : i = k
          · subst h'
            rw [List.getElem?_eq_getElem hka, List.getElem?_eq_getElem hkb, ← Hx.out, ← Hy.out, hxy.1 rfl]
          · exact hno.out i (by omega))
        clear hxy he he1 he2
        go_wp2_with fail
        go_roundw
        case rel => exact ⟨k + 1, by omega, by go_num, hno', Lib.hid hHeld⟩
        case measure => simp [intOf]; omega
    · have hItems : Hid (a.items = b.items) := Lib.hid (List.ext_getElem? (fun i => by
        by_cases hi : i < n
        · exact hno.out i (by omega)
        · rw [List.getElem?_eq_none (by have := HN.out; omega), List.getElem?_eq_none (by have := HN'.out; omega)]))
      clear hno
      go_wp2_with fail
      clear a0 a1 b0 b1
      go_loopw [6] (fun i wr => ∃ k : Nat, k ≤ m ∧ i = .int .i64 k ∧ Hid (∀ i, i < k → a.talks[i]? = b.talks[i]?) ∧ Hid (Below W.heap.size W wr)) (fun i _ => m - (intOf i).toNat)
      case atStart => exact ⟨0, Nat.zero_le _, rfl, Lib.hid (fun i h => by omega), hbw⟩
      case round =>
        obtain ⟨k, hk, rfl, hno, hbw⟩ := hrel
        obtain ⟨a0, a1, b0, b1⟩ := HP.out wr hbw.out
        by_cases hlt : k < m
        · obtain ⟨g, o, hpa, hg, hAt⟩ := Htta.out (by omega)
          obtain ⟨g', o', hpb, hg', hAt'⟩ := Httb.out (by omega)
          subst hpa hpb
          have hka : k < a.talks.length := by have := HM.out; omega
          have hkb : k < b.talks.length := by have := HM'.out; omega
          obtain ⟨x, hx⟩ : ∃ x, x = a.talks[k] := ⟨_, rfl⟩
          obtain ⟨y, hy⟩ : ∃ y, y = b.talks[k] := ⟨_, rfl⟩
          have HA : Hid (∀ w', Below W.heap.size W w' → w'.cell? ⟨g, o + k * 3, none⟩ = some (.string x.c) ∧ w'.cell? ⟨g, o + k * 3 + 1, none⟩ = some (.int .i64 x.q) ∧ w'.cell? ⟨g, o + k * 3 + 2, none⟩ = some (.string x.r)) := Lib.hid (fun w' h => by
            have hgw : g < w.heap.size := by omega
            have hc := hAt.talk k hka
            rw [← hx] at hc
            have h' := HbW.out.trans (h.mono HbW.out.size)
            rw [h'.cell hgw, h'.cell hgw, h'.cell hgw]; exact hc)
          have HB : Hid (∀ w', Below W.heap.size W w' → w'.cell? ⟨g', o' + k * 3, none⟩ = some (.string y.c) ∧ w'.cell? ⟨g', o' + k * 3 + 1, none⟩ = some (.int .i64 y.q) ∧ w'.cell? ⟨g', o' + k * 3 + 2, none⟩ = some (.string y.r)) := Lib.hid (fun w' h => by
            have hgw : g' < w.heap.size := by omega
            have hc := hAt'.talk k hkb
            rw [← hy] at hc
            have h' := HbW.out.trans (h.mono HbW.out.size)
            rw [h'.cell hgw, h'.cell hgw, h'.cell hgw]; exact hc)
          have hlt' : (k : Int) < (m : Int) := by omega
          have Hx := Lib.hid hx
          have Hy := Lib.hid hy
          clear hx hy hAt hAt'
          obtain ⟨e1, he1⟩ : ∃ e, (x.c.toList == y.c.toList) = e := ⟨_, rfl⟩
          obtain ⟨e2, he2⟩ : ∃ e, (x.r.toList == y.r.toList) = e := ⟨_, rfl⟩
          obtain ⟨e3, he3⟩ : ∃ e, (x.q == y.q) = e := ⟨_, rfl⟩
          go_wp2_with fail
          clear a0 a1 b0 b1
          refine wp_region_held_drew (S := (fun w' => Below W.heap.size W w')) (by kernel_rfl) ((show Below W.heap.size W wr from hbw.out).drew) (fun hHeld => ?_)
          refine tk0 0 ?_
          refine tk 1 (v := ?_) ?_ ?_; rotate_left
          · refine Or.inl ⟨by rfl, ?_⟩; intro w hSw; have f0 := HP.out w hSw; have f1 := HA.out w hSw; have f2 := HB.out w hSw; go_simp; first | done | with_reducible rfl
          refine tk0 2 ?_
          refine tk0 3 ?_
          refine tk 4 (v := ?_) ?_ ?_; rotate_left
          · refine Or.inl ⟨by rfl, ?_⟩; intro w hSw; have f0 := HP.out w hSw; have f1 := HA.out w hSw; have f2 := HB.out w hSw; go_simp; first | done | with_reducible rfl
          refine tk0 5 ?_
          refine tk 6 (v := ?_) ?_ ?_; rotate_left
          · refine Or.inl ⟨by rfl, ?_⟩; intro w hSw; have f0 := HP.out w hSw; have f1 := HA.out w hSw; have f2 := HB.out w hSw; go_simp; first | done | with_reducible rfl
          refine tk0 7 ?_
          refine tk0 8 ?_
          refine tk 9 (v := ?_) ?_ ?_; rotate_left
          · refine Or.inl ⟨by rfl, ?_⟩; intro w hSw; have f0 := HP.out w hSw; have f1 := HA.out w hSw; have f2 := HB.out w hSw; go_simp; first | done | with_reducible rfl
          refine wpAnyH_take (i := 10) (v := .bool (!(e1 && e3 && e2))) rfl (by kernel_rfl) (by kernel_rfl) (by kernel_rfl) (fun _ _ _ h => h) (Or.inl ⟨by rfl, ?_⟩) (by assumption) ?_
          · intro w hSw; go_simp; cases e1 <;> cases e3 <;> cases e2 <;> rfl
          try simp only [getElem_toArray, getElem_cons_zero, getElem_cons_succ, Act.put, setIfInBounds_toArray, set_cons_zero, set_cons_succ]
          refine wpAnyH_done (by kernel_rfl) ?_ _
          obtain ⟨e, he⟩ : ∃ e, (e1 && e3 && e2) = e := ⟨_, rfl⟩
          rw [he]
          have hxy : e = true ↔ x = y := by
            rw [Tk.eq_iff, ← he, Bool.and_eq_true, Bool.and_eq_true, ← he1, ← he2, ← he3, teq_iff, teq_iff, beq_iff_eq, and_assoc]
          have hsz := HbW.out.size
          have hout : Hid (Below w.heap.size w wr.drew) := Lib.hid (HbW.out.trans (hHeld.mono hsz))
          cases e with
          | false =>
            have hne : Hid (¬ a = b) := Lib.hid (fun h => by
              have : x = y := by rw [Hx.out, Hy.out]; simp only [h]
              simpa using hxy.2 this)
            clear hxy he he1 he2 he3
            go_wp2_with fail
            go_ret
            exact ⟨false, rfl, by simp [hne.out], hout.out⟩
          | true =>
            have hno' : Hid (∀ i, i < k + 1 → a.talks[i]? = b.talks[i]?) := Lib.hid (fun i hi => by
              by_cases h' : i = k
              · subst h'
                rw [List.getElem?_eq_getElem hka, List.getElem?_eq_getElem hkb, ← Hx.out, ← Hy.out, hxy.1 rfl]
              · exact hno.out i (by omega))
            clear hxy he he1 he2 he3
            go_wp2_with fail
            go_roundw
            case rel => exact ⟨k + 1, by omega, by go_num, hno', Lib.hid hHeld⟩
            case measure => simp [intOf]; omega
        · go_wp2_with fail
          go_ret
          have hI : Hid (a.talks = b.talks) := Lib.hid (List.ext_getElem? (fun i => by
            by_cases hi : i < m
            · exact hno.out i (by omega)
            · rw [List.getElem?_eq_none (by have := HM.out; omega), List.getElem?_eq_none (by have := HM'.out; omega)]))
          exact ⟨true, rfl, ⟨fun _ => (St.eq_iff a b).2 ⟨hItems.out, hI.out⟩, fun _ => rfl⟩, HbW.out.trans (hbw.out.mono HbW.out.size)⟩

end Go.Proofs.YtdpjdjkfedcojaaGreat
