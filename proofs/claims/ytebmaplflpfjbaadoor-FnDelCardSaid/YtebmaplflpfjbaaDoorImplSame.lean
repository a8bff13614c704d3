/- What the program's SameState answers: whether both states hold the same. Condition: rows that can be read. -/
import Derived.Test.YtebmaplflpfjbaaDoorBaseA
import Derived.Test.YtebmaplflpfjbaaDoorExactSame
namespace Go.Proofs.YtebmaplflpfjbaaDoor
open Go.RowKit List
set_option linter.unusedVariables false

set_option maxHeartbeats 2000000 in
theorem equal_items (xs ys : List It) (va vb : Value) (B : Nat) (w : World) (ha : Raw w B va xs.length (xs.flatMap itC)) (hb : Raw w B vb ys.length (ys.flatMap itC)) (hB : B ≤ w.heap.size) :
    Calls Tryd.prog 66 #[va, vb] w fun e w' => ∃ r, e = .returned (.bool r) ∧ (r = true ↔ xs = ys) ∧ Below w.heap.size w w' := by
  obtain ⟨n, hN⟩ : ∃ n, n = xs.length := ⟨_, rfl⟩
  obtain ⟨n', hN'⟩ : ∃ n, n = ys.length := ⟨_, rfl⟩
  rw [← hN] at ha; rw [← hN'] at hb
  obtain ⟨pa, ca, rfl, hna, hca, _, hat⟩ := ha
  obtain ⟨pb, cb, rfl, hnb, hcb, _, hbt⟩ := hb
  have HA0 := Lib.hid hat
  have HB0 := Lib.hid hbt
  have HN := Lib.hid hN
  have HN' := Lib.hid hN'
  unfold maxLen at hca hcb
  clear hat hbt hN hN'
  by_cases hl1 : n = n'
  case neg =>
    have Hne : Hid (¬ xs = ys) := Lib.hid (fun h => hl1 (by rw [HN.out, HN'.out, h]))
    have hl1' : ¬ (n : Int) = (n' : Int) := by omega
    clear hl1
    go_enter Tryd.func66, Tryd.ntmps66
    go_wp2
    go_ret
    exact ⟨false, rfl, by simp [Hne.out], Below.refl _ _⟩
  subst hl1
  go_enter Tryd.func66, Tryd.ntmps66
  go_wp2
  go_loopw [13] (fun i wr => ∃ k : Nat, k ≤ n ∧ i = .int .i64 k ∧ Hid (∀ i, i < k → xs[i]? = ys[i]?) ∧ Hid (Below w.heap.size w wr)) (fun i _ => n - (intOf i).toNat)
  case atStart => exact ⟨0, Nat.zero_le _, rfl, Lib.hid (fun i h => by omega), Lib.hid (Below.refl _ _)⟩
  case round =>
    obtain ⟨k, hk, rfl, hno, hbw⟩ := hrel
    by_cases hlt : k < n
    · obtain ⟨g, o, hpa, hg, hAt⟩ := HA0.out (by omega)
      obtain ⟨g', o', hpb, hg', hAt'⟩ := HB0.out (by omega)
      subst hpa hpb
      have hka : k < xs.length := by have := HN.out; omega
      have hkb : k < ys.length := by have := HN'.out; omega
      obtain ⟨x, hx⟩ : ∃ x, x = xs[k] := ⟨_, rfl⟩
      obtain ⟨y, hy⟩ : ∃ y, y = ys[k] := ⟨_, rfl⟩
      have HA : Hid (∀ w', Below w.heap.size w w' → w'.cell? ⟨g, o + k * 2, none⟩ = some (.string x.k) ∧ w'.cell? ⟨g, o + k * 2 + 1, none⟩ = some (.string x.v)) := Lib.hid (fun w' h => by
        have hgw : g < w.heap.size := by omega
        have hc := hAt.item k hka
        rw [← hx] at hc
        rw [h.cell hgw, h.cell hgw]; exact hc)
      have HB : Hid (∀ w', Below w.heap.size w w' → w'.cell? ⟨g', o' + k * 2, none⟩ = some (.string y.k) ∧ w'.cell? ⟨g', o' + k * 2 + 1, none⟩ = some (.string y.v)) := Lib.hid (fun w' h => by
        have hgw : g' < w.heap.size := by omega
        have hc := hAt'.item k hkb
        rw [← hy] at hc
        rw [h.cell hgw, h.cell hgw]; exact hc)
      have hlt' : (k : Int) < (n : Int) := by omega
      have Hx := Lib.hid hx
      have Hy := Lib.hid hy
      clear hx hy hAt hAt'
      obtain ⟨e1, he1⟩ : ∃ e, (x.k.toList == y.k.toList) = e := ⟨_, rfl⟩
      obtain ⟨e2, he2⟩ : ∃ e, (x.v.toList == y.v.toList) = e := ⟨_, rfl⟩

      go_wp2_with fail
      refine wp_region_held_drew (S := (fun w' => Below w.heap.size w w')) (by kernel_rfl) (hbw.out.drew) (fun hHeld => ?_)
      refine tk0 0 ?_
      refine tk0 1 ?_
      refine tk0 2 ?_
      refine tk 3 (v := ?_) ?_ ?_; rotate_left
      · refine Or.inl ⟨by rfl, ?_⟩; intro w hSw; have f0 := HA.out w hSw; have f1 := HB.out w hSw; go_simp; first | done | with_reducible rfl
      refine tk0 4 ?_
      refine tk0 5 ?_
      refine tk0 6 ?_
      refine tk 7 (v := ?_) ?_ ?_; rotate_left
      · refine Or.inl ⟨by rfl, ?_⟩; intro w hSw; have f0 := HA.out w hSw; have f1 := HB.out w hSw; go_simp; first | done | with_reducible rfl
      refine wpAnyH_take (i := 8) (v := .bool (!(e1 && e2))) rfl (by kernel_rfl) (by kernel_rfl) (by kernel_rfl) (fun _ _ _ h => h) (Or.inl ⟨by rfl, ?_⟩) (by assumption) ?_
      · intro w hSw; go_simp; cases e1 <;> cases e2 <;> rfl
      try simp only [getElem_toArray, getElem_cons_zero, getElem_cons_succ, Act.put, setIfInBounds_toArray, set_cons_zero, set_cons_succ]
      refine wpAnyH_done (by kernel_rfl) ?_ _
      obtain ⟨e, he⟩ : ∃ e, (e1 && e2) = e := ⟨_, rfl⟩
      rw [he]
      have hxy : e = true ↔ x = y := by
        rw [It.eq_iff, ← he, Bool.and_eq_true, ← he1, ← he2, teq_iff, teq_iff]
      cases e with
      | false =>
        have hne : Hid (¬ xs = ys) := Lib.hid (fun h => by
          have : x = y := by rw [Hx.out, Hy.out]; simp only [h]
          simpa using hxy.2 this)
        clear hxy he he1 he2
        go_wp2_with fail
        go_ret
        exact ⟨false, rfl, by simp [hne.out], hHeld⟩
      | true =>
        have hno' : Hid (∀ i, i < k + 1 → xs[i]? = ys[i]?) := Lib.hid (fun i hi => by
          by_cases h' : i = k
          · subst h'
            rw [List.getElem?_eq_getElem hka, List.getElem?_eq_getElem hkb, ← Hx.out, ← Hy.out, hxy.1 rfl]
          · exact hno.out i (by omega))
        clear hxy he he1 he2
        go_wp2_with fail
        go_roundw
        case rel => exact ⟨k + 1, by omega, by go_num, hno', Lib.hid hHeld⟩
        case measure => simp [intOf]; omega
    · have hI : Hid (xs = ys) := Lib.hid (List.ext_getElem? (fun i => by
        by_cases hi : i < n
        · exact hno.out i (by omega)
        · rw [List.getElem?_eq_none (by have := HN.out; omega), List.getElem?_eq_none (by have := HN'.out; omega)]))
      clear hno
      go_wp2_with fail
      go_ret
      exact ⟨true, rfl, ⟨fun _ => hI.out, fun _ => rfl⟩, hbw.out⟩

set_option maxHeartbeats 2000000 in
theorem equal_talks (xs ys : List Tk) (va vb : Value) (B : Nat) (w : World) (ha : Raw w B va xs.length (xs.flatMap tkC)) (hb : Raw w B vb ys.length (ys.flatMap tkC)) (hB : B ≤ w.heap.size) :
    Calls Tryd.prog 67 #[va, vb] w fun e w' => ∃ r, e = .returned (.bool r) ∧ (r = true ↔ xs = ys) ∧ Below w.heap.size w w' := by
  obtain ⟨n, hN⟩ : ∃ n, n = xs.length := ⟨_, rfl⟩
  obtain ⟨n', hN'⟩ : ∃ n, n = ys.length := ⟨_, rfl⟩
  rw [← hN] at ha; rw [← hN'] at hb
  obtain ⟨pa, ca, rfl, hna, hca, _, hat⟩ := ha
  obtain ⟨pb, cb, rfl, hnb, hcb, _, hbt⟩ := hb
  have HA0 := Lib.hid hat
  have HB0 := Lib.hid hbt
  have HN := Lib.hid hN
  have HN' := Lib.hid hN'
  unfold maxLen at hca hcb
  clear hat hbt hN hN'
  by_cases hl1 : n = n'
  case neg =>
    have Hne : Hid (¬ xs = ys) := Lib.hid (fun h => hl1 (by rw [HN.out, HN'.out, h]))
    have hl1' : ¬ (n : Int) = (n' : Int) := by omega
    clear hl1
    go_enter Tryd.func67, Tryd.ntmps67
    go_wp2
    go_ret
    exact ⟨false, rfl, by simp [Hne.out], Below.refl _ _⟩
  subst hl1
  go_enter Tryd.func67, Tryd.ntmps67
  go_wp2
  go_loopw [13] (fun i wr => ∃ k : Nat, k ≤ n ∧ i = .int .i64 k ∧ Hid (∀ i, i < k → xs[i]? = ys[i]?) ∧ Hid (Below w.heap.size w wr)) (fun i _ => n - (intOf i).toNat)
  case atStart => exact ⟨0, Nat.zero_le _, rfl, Lib.hid (fun i h => by omega), Lib.hid (Below.refl _ _)⟩
  case round =>
    obtain ⟨k, hk, rfl, hno, hbw⟩ := hrel
    by_cases hlt : k < n
    · obtain ⟨g, o, hpa, hg, hAt⟩ := HA0.out (by omega)
      obtain ⟨g', o', hpb, hg', hAt'⟩ := HB0.out (by omega)
      subst hpa hpb
      have hka : k < xs.length := by have := HN.out; omega
      have hkb : k < ys.length := by have := HN'.out; omega
      obtain ⟨x, hx⟩ : ∃ x, x = xs[k] := ⟨_, rfl⟩
      obtain ⟨y, hy⟩ : ∃ y, y = ys[k] := ⟨_, rfl⟩
      have HA : Hid (∀ w', Below w.heap.size w w' → w'.cell? ⟨g, o + k * 3, none⟩ = some (.string x.c) ∧ w'.cell? ⟨g, o + k * 3 + 1, none⟩ = some (.int .i64 x.q) ∧ w'.cell? ⟨g, o + k * 3 + 2, none⟩ = some (.string x.r)) := Lib.hid (fun w' h => by
        have hgw : g < w.heap.size := by omega
        have hc := hAt.talk k hka
        rw [← hx] at hc
        rw [h.cell hgw, h.cell hgw, h.cell hgw]; exact hc)
      have HB : Hid (∀ w', Below w.heap.size w w' → w'.cell? ⟨g', o' + k * 3, none⟩ = some (.string y.c) ∧ w'.cell? ⟨g', o' + k * 3 + 1, none⟩ = some (.int .i64 y.q) ∧ w'.cell? ⟨g', o' + k * 3 + 2, none⟩ = some (.string y.r)) := Lib.hid (fun w' h => by
        have hgw : g' < w.heap.size := by omega
        have hc := hAt'.talk k hkb
        rw [← hy] at hc
        rw [h.cell hgw, h.cell hgw, h.cell hgw]; exact hc)
      have hlt' : (k : Int) < (n : Int) := by omega
      have Hx := Lib.hid hx
      have Hy := Lib.hid hy
      clear hx hy hAt hAt'
      obtain ⟨e1, he1⟩ : ∃ e, (x.c.toList == y.c.toList) = e := ⟨_, rfl⟩
      obtain ⟨e2, he2⟩ : ∃ e, (x.r.toList == y.r.toList) = e := ⟨_, rfl⟩
      obtain ⟨e3, he3⟩ : ∃ e, (x.q == y.q) = e := ⟨_, rfl⟩
      go_wp2_with fail
      refine wp_region_held_drew (S := (fun w' => Below w.heap.size w w')) (by kernel_rfl) (hbw.out.drew) (fun hHeld => ?_)
      refine tk0 0 ?_
      refine tk0 1 ?_
      refine tk0 2 ?_
      refine tk 3 (v := ?_) ?_ ?_; rotate_left
      · refine Or.inl ⟨by rfl, ?_⟩; intro w hSw; have f0 := HA.out w hSw; have f1 := HB.out w hSw; go_simp; first | done | with_reducible rfl
      refine tk0 4 ?_
      refine tk0 5 ?_
      refine tk0 6 ?_
      refine tk 7 (v := ?_) ?_ ?_; rotate_left
      · refine Or.inl ⟨by rfl, ?_⟩; intro w hSw; have f0 := HA.out w hSw; have f1 := HB.out w hSw; go_simp; first | done | with_reducible rfl
      refine wpAnyH_take (i := 8) (v := .bool (!(e1 && e3 && e2))) rfl (by kernel_rfl) (by kernel_rfl) (by kernel_rfl) (fun _ _ _ h => h) (Or.inl ⟨by rfl, ?_⟩) (by assumption) ?_
      · intro w hSw; go_simp; cases e1 <;> cases e3 <;> cases e2 <;> rfl
      try simp only [getElem_toArray, getElem_cons_zero, getElem_cons_succ, Act.put, setIfInBounds_toArray, set_cons_zero, set_cons_succ]
      refine wpAnyH_done (by kernel_rfl) ?_ _
      obtain ⟨e, he⟩ : ∃ e, (e1 && e3 && e2) = e := ⟨_, rfl⟩
      rw [he]
      have hxy : e = true ↔ x = y := by
        rw [Tk.eq_iff, ← he, Bool.and_eq_true, Bool.and_eq_true, ← he1, ← he2, ← he3, teq_iff, teq_iff, beq_iff_eq, and_assoc]
      cases e with
      | false =>
        have hne : Hid (¬ xs = ys) := Lib.hid (fun h => by
          have : x = y := by rw [Hx.out, Hy.out]; simp only [h]
          simpa using hxy.2 this)
        clear hxy he he1 he2 he3
        go_wp2_with fail
        go_ret
        exact ⟨false, rfl, by simp [hne.out], hHeld⟩
      | true =>
        have hno' : Hid (∀ i, i < k + 1 → xs[i]? = ys[i]?) := Lib.hid (fun i hi => by
          by_cases h' : i = k
          · subst h'
            rw [List.getElem?_eq_getElem hka, List.getElem?_eq_getElem hkb, ← Hx.out, ← Hy.out, hxy.1 rfl]
          · exact hno.out i (by omega))
        clear hxy he he1 he2 he3
        go_wp2_with fail
        go_roundw
        case rel => exact ⟨k + 1, by omega, by go_num, hno', Lib.hid hHeld⟩
        case measure => simp [intOf]; omega
    · have hI : Hid (xs = ys) := Lib.hid (List.ext_getElem? (fun i => by
        by_cases hi : i < n
        · exact hno.out i (by omega)
        · rw [List.getElem?_eq_none (by have := HN.out; omega), List.getElem?_eq_none (by have := HN'.out; omega)]))
      clear hno
      go_wp2_with fail
      go_ret
      exact ⟨true, rfl, ⟨fun _ => hI.out, fun _ => rfl⟩, hbw.out⟩

theorem impl_sameState : ImplSameState := by
  intro a b va vb B w ha hb hB _ _
  obtain ⟨ai, at_, rfl, hai, hat⟩ := ha.rd
  obtain ⟨bi, bt, rfl, hbi, hbt⟩ := hb.rd
  obtain ⟨W, hW⟩ : ∃ W, W = (w.alloc (.cells #[ai, at_] 27)).alloc (.cells #[bi, bt] 27) := ⟨_, rfl⟩
  have hbW : Below w.heap.size w W := by rw [hW]; exact ((Below.refl _ _).alloc (Nat.le_refl _) _).alloc (by simp) _
  have hWs : W.heap.size = w.heap.size + 2 := by rw [hW]; simp
  have k0 : W.heap[w.heap.size]? = some (.cells #[ai, at_] 27 (0, 0)) := by
    rw [hW, Below.heap_alloc _ _ _ (by simp)]; exact heap_new _ _
  have k1 : W.heap[w.heap.size + 1]? = some (.cells #[bi, bt] 27 (0, 0)) := by
    rw [hW]; simpa using heap_new (w.alloc (.cells #[ai, at_] 27)) (.cells #[bi, bt] 27)
  have HV : Hid (∀ w', Below W.heap.size W w' → w'.cell? ⟨w.heap.size, 1, none⟩ = some at_ ∧ w'.cell? ⟨w.heap.size + 1, 1, none⟩ = some bt) := Lib.hid (fun w' h => by
    have j0 := (h.block _ (show w.heap.size < W.heap.size by omega)).trans k0
    have j1 := (h.block _ (show w.heap.size + 1 < W.heap.size by omega)).trans k1
    exact ⟨by simpa using cell_of_row w' _ 1 _ _ _ j0, by simpa using cell_of_row w' _ 1 _ _ _ j1⟩)
  have hc0 := equal_items a.items b.items ai bi B W (hai.later (hbW.mono hB) (Nat.le_refl _)) (hbi.later (hbW.mono hB) (Nat.le_refl _)) (Nat.le_trans hB hbW.size)
  have HT := Lib.hid (fun w' (h : Below W.heap.size W w') => And.intro (hat.later (B' := B) ((hbW.trans (h.mono hbW.size)).mono hB) (Nat.le_refl _)) (hbt.later (B' := B) ((hbW.trans (h.mono hbW.size)).mono hB) (Nat.le_refl _)))
  have HbW := Lib.hid hbW
  rw [hW] at hc0
  clear ha hb hai hat hbi hbt hWs hbW k0 k1
  go_enter Tryd.func28, Tryd.ntmps28
  go_wp2_with (go_at_call 66; refine hc0.mono ?_; rintro e w1 ⟨r, rfl, hr, hb1⟩; refine Hid.out ?_)
  refine Lib.hid ?_
  rw [← hW] at hb1
  have hb2 := Lib.hid (HbW.out.trans (hb1.mono HbW.out.size))
  obtain ⟨v0, v1⟩ := HV.out w1 hb1
  have hc1 := equal_talks a.talks b.talks at_ bt B w1 (HT.out w1 hb1).1 (HT.out w1 hb1).2 (Nat.le_trans hB hb2.out.size)
  clear hc0 hW hb1
  cases r with
  | false =>
    have hne : Hid (¬ a = b) := Lib.hid (fun h => by rw [h] at hr; simp at hr)
    clear hr
    go_wp2_with fail
    go_ret
    exact ⟨false, rfl, by simp [hne.out], hb2.out⟩
  | true =>
    have hi : Hid (a.items = b.items) := Lib.hid (hr.1 rfl)
    clear hr
    go_wp2_with (go_at_call 67; refine hc1.mono ?_; rintro e w2 ⟨r, rfl, hr, hb3⟩; refine Hid.out ?_)
    refine Lib.hid ?_
    have hb4 := hb2.out.trans (hb3.mono hb2.out.size)
    have hv : Hid (r = true ↔ a = b) := Lib.hid (hr.trans ⟨fun h => (St.eq_iff a b).2 ⟨hi.out, h⟩, fun h => by rw [h]⟩)
    clear hc1 v0 v1 hr
    go_wp2_with fail
    go_ret
    exact ⟨r, rfl, hv.out, hb4⟩
end Go.Proofs.YtebmaplflpfjbaaDoor
