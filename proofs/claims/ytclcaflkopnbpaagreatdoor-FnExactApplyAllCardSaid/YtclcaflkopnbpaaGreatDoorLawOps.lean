/- What the laws' own helpers on rows of operations answer: szOpS, toOpS, eqOpS, markOpS. Condition: none. -/
import Derived.Test.YtclcaflkopnbpaaGreatDoorBaseA
import Derived.Test.YtclcaflkopnbpaaGreatDoorApplyAllPlain
import Derived.Deep.RegionHeld3
namespace Go.Proofs.YtclcaflkopnbpaaGreatDoor
open Go.RowKit List
set_option linter.unusedVariables false
set_option linter.unusedSimpArgs false

theorem infoOpL : (Tryz.prog.info? 47).map (fun i => (i.zero, i.size, i.bytes)) = some (some (.agg #[.string ⟨#[]⟩, .int .i64 0, .int .i64 0, .string ⟨#[]⟩, .string ⟨#[]⟩]), 5, 64) := by kernel_rfl
theorem set_five {α : Type} (A R : List α) (r0 r1 r2 r3 r4 : α) {k : Nat} (h : A.length = k) {u0 u1 u2 u3 u4 : α} : (((((A ++ r0 :: r1 :: r2 :: r3 :: r4 :: R).set k u0).set (k + 1) u1).set (k + 2) u2).set (k + 3) u3).set (k + 4) u4 = A ++ u0 :: u1 :: u2 :: u3 :: u4 :: R := by
  subst h
  rw [List.set_append_right _ _ (Nat.le_refl _), Nat.sub_self, List.set_cons_zero, List.set_append_right _ _ (by omega), show A.length + 1 - A.length = 1 by omega, List.set_append_right _ _ (by omega), show A.length + 2 - A.length = 2 by omega, List.set_append_right _ _ (by omega), show A.length + 3 - A.length = 3 by omega, List.set_append_right _ _ (by omega), show A.length + 4 - A.length = 4 by omega]
  rfl
theorem eq_opv (x : Rq) (w : World) : Calls Tryz.prog 53 #[rqA x, rqA x] w fun e w' => e = .returned (.bool true) ∧ Below w.heap.size w w' := by
  unfold rqA
  go_enter Tryz.func53, Tryz.ntmps53
  go_wp2
  go_ret
  exact ⟨rfl, ((Below.refl _ _).alloc (Nat.le_refl _) _).alloc (by simp) _⟩
set_option maxHeartbeats 2000000 in
theorem sz_ops (xs : List Rq) (v : Value) (B : Nat) (l : Int) (w : World) (hr : Raw w B v xs.length (xs.flatMap rqC)) (hf : ∀ x ∈ xs, FitRq x) (hB : B ≤ w.heap.size) (hl : 0 ≤ l ∧ l ≤ 1048576) :
    Calls Tryz.prog 21 #[v, .int .i64 l] w fun e w' => ∃ r : Int, e = .returned (.int .i64 r) ∧ -1 ≤ r ∧ r ≤ l ∧ (0 ≤ r → (xs.length : Int) ≤ l ∧ ∀ x ∈ xs, SmallRq x l) ∧ Below w.heap.size w w' := by
  obtain ⟨a, cap, rfl, hn, hcap, _, hat⟩ := hr
  obtain ⟨n, hN⟩ : ∃ n, n = xs.length := ⟨_, rfl⟩
  rw [← hN] at hn hat ⊢
  have HN := Lib.hid hN
  have Hat := Lib.hid hat
  unfold maxLen at hcap
  clear hN hat
  by_cases h1 : l - (n : Int) < 0
  · go_enter Tryz.func21, Tryz.ntmps21
    go_wp2
    go_ret
    exact ⟨-1, ret_int rfl, by omega, by omega, fun h => by omega, Below.refl _ _⟩
  · go_enter Tryz.func21, Tryz.ntmps21
    go_wp2
    go_loopw [1, 5] (fun lv i wr => ∃ (k : Nat) (q : Int), k ≤ n ∧ i = .int .i64 k ∧ lv = .int .i64 q ∧ 0 ≤ q ∧ q ≤ l ∧ Hid (∀ j (hj : j < xs.length), j < k → SmallRq xs[j] l) ∧ Hid (Below w.heap.size w wr)) (fun _ i _ => n - (intOf i).toNat)
    case atStart => exact ⟨0, l - n, by omega, rfl, rfl, by omega, by omega, Lib.hid (fun j hj h => by omega), Lib.hid (Below.refl _ _)⟩
    case round =>
      obtain ⟨k, q, hk, rfl, rfl, hq0, hq1, hsm, hbw⟩ := hrel
      by_cases hlt : k < n
      · obtain ⟨g, o, ha, hg, hAt⟩ := Hat.out (by omega)
        subst ha
        have hkl : k < xs.length := by have := HN.out; omega
        obtain ⟨x, hx⟩ : ∃ x, x = xs[k] := ⟨_, rfl⟩
        have hfx := hf x (by rw [hx]; exact List.getElem_mem _)
        have hgw : g < w.heap.size := by omega
        have hc := hAt.op k hkl
        rw [← hx] at hc
        simp only [← hbw.out.cell (p := ⟨g, o + k * 5, none⟩) hgw, ← hbw.out.cell (p := ⟨g, o + k * 5 + 1, none⟩) hgw, ← hbw.out.cell (p := ⟨g, o + k * 5 + 2, none⟩) hgw, ← hbw.out.cell (p := ⟨g, o + k * 5 + 3, none⟩) hgw, ← hbw.out.cell (p := ⟨g, o + k * 5 + 4, none⟩) hgw] at hc
        have hcall := fun w => sz_op x q w hfx ⟨hq0, by omega⟩
        unfold rqA at hcall
        have HX := Lib.hid hx
        have Hat' := Lib.hid hAt
        clear hx hAt hfx Hat
        obtain ⟨hc0, hc1, hc2, hc3, hc4⟩ := hc
        have hb0 := hbw.out
        have hsz := hb0.size
        have Hf := Lib.hid hf
        clear hf
        go_wp2_with (go_at_call 13; refine (hcall _).mono ?_; rintro e w1 ⟨r, rfl, hr0, hr1, hr2, hb1⟩; refine Hid.out ?_)
        refine Lib.hid ?_
        have hb2 := hb0.trans (hb1.mono hsz)
        by_cases hneg : r < 0
        · clear hr2
          go_wp2_with fail
          go_ret
          exact ⟨-1, ret_int rfl, by omega, by omega, fun h => by omega, hb2⟩
        · have hr2 := hr2 (by omega)
          have hsm' : Hid (∀ j (hj : j < xs.length), j < k + 1 → SmallRq xs[j] l) := Lib.hid (fun j hj h => by
            by_cases he : j = k
            · subst he
              have h2 := HX.out
              rw [← h2]; unfold SmallRq at hr2 ⊢; omega
            · exact hsm.out j hj (by omega))
          clear hr2
          go_wp2_with fail
          go_roundw
          case rel => exact ⟨k + 1, r, by omega, by go_num, rfl, by omega, by omega, hsm', Lib.hid hb2⟩
          case measure => simp [intOf]; omega
      · go_wp2
        go_ret
        exact ⟨q, ret_int rfl, by omega, by omega, fun h => ⟨by omega, fun x hx => by
          obtain ⟨j, hj, rfl⟩ := List.getElem_of_mem hx
          exact hsm.out j hj (by have := HN.out; omega)⟩, hbw.out⟩


set_option maxHeartbeats 2000000 in
theorem to_ops (xs : List Rq) (v : Value) (B : Nat) (w : World) (hr : Raw w B v xs.length (xs.flatMap rqC)) (hB : B ≤ w.heap.size) (hl : xs.length ≤ 1048576) :
    Calls Tryz.prog 22 #[v] w fun e w' => ∃ v', e = .returned v' ∧ w'.ownsRow w.heap.size 47 5 v' xs.length (xs.flatMap rqC) ∧ (∃ g, v' = .slice (some ⟨g, 0, none⟩) xs.length xs.length) ∧ Below w.heap.size w w' := by
  obtain ⟨i0, hi, hz0, hz1, hz2⟩ := info_parts infoOpL
  obtain ⟨a, cap, rfl, hn, hcap, _, hat⟩ := hr
  obtain ⟨n, hN⟩ : ∃ n, n = xs.length := ⟨_, rfl⟩
  rw [← hN] at hn hat hl ⊢
  have HN := Lib.hid hN
  have Hat := Lib.hid hat
  unfold maxLen at hcap
  clear hN hat
  obtain ⟨w1, hmk, hown, hgr⟩ := run_make_full (P := Tryz.prog) w w.heap.size 28 47 i0 _ 5 Tryz.underlying28 hi hz0 hz1 .i64 .i64 n (by rw [hz2]; omega) (by unfold maxLen; omega) (Nat.le_refl _)
  have hb1 : Below w.heap.size w w1 := (Below.refl _ _).grown hgr (Nat.le_refl _) (fun k hk => by cases hk)
  obtain ⟨G, hG⟩ : ∃ G, G = w.heap.size := ⟨_, rfl⟩
  have Hown := Lib.hid hown
  have Hb1 := Lib.hid hb1
  rw [← hG] at hmk
  clear hown hgr hb1 hi hz0 hz1 hz2
  go_enter Tryz.func22, Tryz.ntmps22
  go_wp2
  go_loopw [4] (fun i wr => ∃ (k : Nat) (R : List Value), k ≤ n ∧ i = .int .i64 k ∧ Hid (wr.ownsRow w.heap.size 47 5 (.slice (some ⟨w.heap.size, 0, none⟩) n n) n ((xs.take k).flatMap rqC ++ R)) ∧ Hid (Below w.heap.size w wr)) (fun i _ => n - (intOf i).toNat)
  case atStart => exact ⟨0, _, Nat.zero_le _, rfl, Lib.hid (by simpa using Hown.out), Hb1⟩
  case round =>
    obtain ⟨k, R, hk, rfl, hrow, hbw⟩ := hrel
    by_cases hlt : k < n
    · obtain ⟨g, o, ha, hg, hAt⟩ := Hat.out (by omega)
      subst ha
      have hkl : k < xs.length := by have := HN.out; omega
      obtain ⟨x, hx⟩ : ∃ x, x = xs[k] := ⟨_, rfl⟩
      have hgw : g < w.heap.size := by omega
      have hc := hAt.op k hkl
      rw [← hx] at hc
      simp only [← hbw.out.cell (p := ⟨g, o + k * 5, none⟩) hgw, ← hbw.out.cell (p := ⟨g, o + k * 5 + 1, none⟩) hgw, ← hbw.out.cell (p := ⟨g, o + k * 5 + 2, none⟩) hgw, ← hbw.out.cell (p := ⟨g, o + k * 5 + 3, none⟩) hgw, ← hbw.out.cell (p := ⟨g, o + k * 5 + 4, none⟩) hgw] at hc
      have hlenL : ((xs.take k).flatMap rqC ++ R).length = n * 5 := hrow.out.1
      have hlenk : ((xs.take k).flatMap rqC).length = k * 5 := by rw [rqC_len, List.length_take, Nat.min_eq_left (by omega)]
      obtain ⟨r0, r1, r2, r3, r4, R', rfl⟩ : ∃ r0 r1 r2 r3 r4 R', R = r0 :: r1 :: r2 :: r3 :: r4 :: R' := by
        rw [List.length_append, hlenk] at hlenL
        match R, hlenL with
        | r0 :: r1 :: r2 :: r3 :: r4 :: R', _ => exact ⟨r0, r1, r2, r3, r4, R', rfl⟩
        | [], h => simp at h; omega
        | [_], h => simp at h; omega
        | [_, _], h => simp at h; omega
        | [_, _, _], h => simp at h; omega
        | [_, _, _, _], h => simp at h; omega
      have htake : (xs.take (k + 1)).flatMap rqC = (xs.take k).flatMap rqC ++ rqC x := by
        rw [List.take_succ_eq_append_getElem hkl, List.flatMap_append, ← hx]; simp
      have Htake := Lib.hid htake
      have Hlenk := Lib.hid hlenk
      have HlenL := Lib.hid hlenL
      have Hat' := Lib.hid hAt
      clear hx hAt Hat htake hlenk hlenL
      obtain ⟨hc0, hc1, hc2, hc3, hc4⟩ := hc
      have hsz := hbw.out.size
      go_wp2_with (go_at_call 16; refine (to_op x _).mono ?_; rintro e w2 ⟨rfl, hb2⟩; refine Hid.out ?_)
      refine Lib.hid ?_
      have hrow2 := hrow.out.kept (w' := w2) (row := none) ⟨hb2.os, hb2.tape, hb2.output, hb2.size, fun j hj _ => hb2.block j hj⟩ (Or.inr (by simp [Value.ownBlock]))
      have hb3 := hbw.out.trans (hb2.mono hsz)
      have hL := HlenL.out
      have hK := Hlenk.out
      have c0 : w2.cell? ⟨w.heap.size, k * 5, none⟩ = some r0 := by
        rw [World.ownsRow.cellAt hrow2 (k * 5) (by omega), List.getElem?_append_right (by omega), hK]; simp
      have c1 : w2.cell? ⟨w.heap.size, k * 5 + 1, none⟩ = some r1 := by
        rw [World.ownsRow.cellAt hrow2 (k * 5 + 1) (by omega), List.getElem?_append_right (by omega), hK, show k * 5 + 1 - k * 5 = 1 by omega]; rfl
      have c2 : w2.cell? ⟨w.heap.size, k * 5 + 2, none⟩ = some r2 := by
        rw [World.ownsRow.cellAt hrow2 (k * 5 + 2) (by omega), List.getElem?_append_right (by omega), hK, show k * 5 + 2 - k * 5 = 2 by omega]; rfl
      have c3 : w2.cell? ⟨w.heap.size, k * 5 + 3, none⟩ = some r3 := by
        rw [World.ownsRow.cellAt hrow2 (k * 5 + 3) (by omega), List.getElem?_append_right (by omega), hK, show k * 5 + 3 - k * 5 = 3 by omega]; rfl
      have c4 : w2.cell? ⟨w.heap.size, k * 5 + 4, none⟩ = some r4 := by
        rw [World.ownsRow.cellAt hrow2 (k * 5 + 4) (by omega), List.getElem?_append_right (by omega), hK, show k * 5 + 4 - k * 5 = 4 by omega]; rfl
      have z0 := World.ownsRow.frozenAt hrow2 (k * 5)
      have z1 := World.ownsRow.frozenAt hrow2 (k * 5 + 1)
      have z2 := World.ownsRow.frozenAt hrow2 (k * 5 + 2)
      have z3 := World.ownsRow.frozenAt hrow2 (k * 5 + 3)
      have z4 := World.ownsRow.frozenAt hrow2 (k * 5 + 4)
      have Hrow2 := Lib.hid hrow2
      have Hb3 := Lib.hid hb3
      clear hrow2 hb3 hL hK
      unfold rqA
      go_wp2_with fail
      go_roundw
      case rel =>
        refine ⟨k + 1, R', by omega, by go_num, Lib.hid ?_, Lib.hid ?_⟩
        · rw [Htake.out, List.append_assoc]
          have h := (((((Hrow2.out.stored (k * 5) (.string x.c)).1.stored (k * 5 + 1) (.int .i64 x.q)).1.stored (k * 5 + 2) (.int .i64 x.n)).1.stored (k * 5 + 3) (.string x.k)).1.stored (k * 5 + 4) (.string x.v)).1
          rw [set_five _ _ _ _ _ _ _ Hlenk.out] at h
          exact h
        · exact (((((Hb3.out.setCell (p := ⟨w.heap.size, k * 5, none⟩) (Nat.le_refl _) _).setCell (p := ⟨w.heap.size, k * 5 + 1, none⟩) (Nat.le_refl _) _).setCell (p := ⟨w.heap.size, k * 5 + 2, none⟩) (Nat.le_refl _) _).setCell (p := ⟨w.heap.size, k * 5 + 3, none⟩) (Nat.le_refl _) _).setCell (p := ⟨w.heap.size, k * 5 + 4, none⟩) (Nat.le_refl _) _)
      case measure => simp [intOf]; omega
    · have hR : R = [] := by
        have h1 := hrow.out.1
        rw [List.length_append, rqC_len, List.length_take] at h1
        have h2 := HN.out
        exact List.eq_nil_of_length_eq_zero (by omega)
      have hT : xs.take k = xs := List.take_of_length_le (by have := HN.out; omega)
      have hrow := hrow.out
      rw [hR, hT, List.append_nil] at hrow
      have Hrow := Lib.hid hrow
      clear hrow hR hT
      go_wp2
      go_ret
      exact ⟨_, rfl, Hrow.out, ⟨_, rfl⟩, hbw.out⟩

set_option maxHeartbeats 2000000 in
theorem eq_ops (xs : List Rq) (va vb : Value) (B : Nat) (w : World) (ha : Raw w B va xs.length (xs.flatMap rqC)) (hb : Raw w B vb xs.length (xs.flatMap rqC)) (hB : B ≤ w.heap.size) :
    Calls Tryz.prog 24 #[va, vb] w fun e w' => e = .returned (.bool true) ∧ Below w.heap.size w w' := by
  obtain ⟨a, ca, rfl, hna, hca, _, hata⟩ := ha
  obtain ⟨b, cb, rfl, hnb, hcb, _, hatb⟩ := hb
  obtain ⟨n, hN⟩ : ∃ n, n = xs.length := ⟨_, rfl⟩
  rw [← hN] at hna hnb hata hatb ⊢
  have HN := Lib.hid hN
  have Hata := Lib.hid hata
  have Hatb := Lib.hid hatb
  unfold maxLen at hca hcb
  clear hN hata hatb
  go_enter Tryz.func24, Tryz.ntmps24
  go_wp2
  go_loopw [5] (fun i wr => ∃ k : Nat, k ≤ n ∧ i = .int .i64 k ∧ Hid (Below w.heap.size w wr)) (fun i _ => n - (intOf i).toNat)
  case atStart => exact ⟨0, Nat.zero_le _, rfl, Lib.hid (Below.refl _ _)⟩
  case round =>
    obtain ⟨k, hk, rfl, hbw⟩ := hrel
    by_cases hlt : k < n
    · obtain ⟨g, o, ha, hg, hAt⟩ := Hata.out (by omega)
      obtain ⟨g', o', ha', hg', hAt'⟩ := Hatb.out (by omega)
      subst ha; subst ha'
      have hkl : k < xs.length := by have := HN.out; omega
      obtain ⟨x, hx⟩ : ∃ x, x = xs[k] := ⟨_, rfl⟩
      have HA : Hid (∀ w', Below w.heap.size w w' → w'.cell? ⟨g, o + k * 5, none⟩ = some (.string x.c) ∧ w'.cell? ⟨g, o + k * 5 + 1, none⟩ = some (.int .i64 x.q) ∧ w'.cell? ⟨g, o + k * 5 + 2, none⟩ = some (.int .i64 x.n) ∧ w'.cell? ⟨g, o + k * 5 + 3, none⟩ = some (.string x.k) ∧ w'.cell? ⟨g, o + k * 5 + 4, none⟩ = some (.string x.v)) := Lib.hid (fun w' h => by
        have hgw : g < w.heap.size := by omega
        have hc := hAt.op k hkl
        rw [← hx] at hc
        rw [h.cell hgw, h.cell hgw, h.cell hgw, h.cell hgw, h.cell hgw]; exact hc)
      have HB : Hid (∀ w', Below w.heap.size w w' → w'.cell? ⟨g', o' + k * 5, none⟩ = some (.string x.c) ∧ w'.cell? ⟨g', o' + k * 5 + 1, none⟩ = some (.int .i64 x.q) ∧ w'.cell? ⟨g', o' + k * 5 + 2, none⟩ = some (.int .i64 x.n) ∧ w'.cell? ⟨g', o' + k * 5 + 3, none⟩ = some (.string x.k) ∧ w'.cell? ⟨g', o' + k * 5 + 4, none⟩ = some (.string x.v)) := Lib.hid (fun w' h => by
        have hgw : g' < w.heap.size := by omega
        have hc := hAt'.op k hkl
        rw [← hx] at hc
        rw [h.cell hgw, h.cell hgw, h.cell hgw, h.cell hgw, h.cell hgw]; exact hc)
      have hlt' : (k : Int) < (n : Int) := by omega
      clear hx hAt hAt' Hata Hatb
      go_wp2_with fail
      refine wp_region_held_drew (S := (fun w' => Below w.heap.size w w')) (by kernel_rfl) ((show Below w.heap.size w wr from hbw.out).drew) (fun hHeld => ?_)
      refine tk0 0 ?_
      refine tk0 1 ?_
      refine tk0 2 ?_
      refine tk 3 (v := ?_) ?_ ?_; rotate_left
      · refine Or.inl ⟨by rfl, ?_⟩; intro w hSw; have f0 := HA.out w hSw; have f1 := HB.out w hSw; go_simp; first | done | with_reducible rfl
      refine tk0 4 ?_
      refine tk0 5 ?_
      refine tk0 6 ?_
      refine tk 7 (v := ?_) ?_ ?_; rotate_left
      · refine Or.inl ⟨by rfl, ?_⟩; intro w hSw; have f0 := HA.out w hSw; have f1 := HB.out w hSw; go_simp; first | done | with_reducible rfl
      refine wpAnyH_ready (rs := [8]) (by kernel_rfl) (by simp) ?_
      refine AllReadyH.cons rfl (fun K hK => ?_) AllReadyH.nil
      go_simp
      (go_at_call 53; refine (eq_opv x _).mono ?_; rintro e w' ⟨rfl, hbc⟩)
      go_wp2_with fail
      refine hK.out _ _ (hHeld.trans (hbc.mono hHeld.size)) (fun hHeld => ?_)
      clear hK K
      try simp only [getElem_toArray, getElem_cons_zero, getElem_cons_succ, Act.put, setIfInBounds_toArray, set_cons_zero, set_cons_succ]
      refine tk0 9 ?_
      refine wpAnyH_done (by kernel_rfl) ?_ _
      go_wp2_with fail
      go_roundw
      case rel => exact ⟨k + 1, by omega, by go_num, Lib.hid hHeld⟩
      case measure => simp [intOf]; omega
    · go_wp2
      go_ret
      exact ⟨rfl, hbw.out⟩
theorem cell_in {w : World} {base e n g cap size : Nat} {L : List Value} (h : w.ownsRow base e size (.slice (some ⟨g, 0, none⟩) n cap) n L) (i : Nat) (hi : i < n * size) : ∃ z, w.cell? ⟨g, i, none⟩ = some z := by
  have hl := h.1
  exact ⟨L[i]'(by omega), by rw [World.ownsRow.cellAt h i (by omega), List.getElem?_eq_getElem (by omega)]⟩
set_option maxHeartbeats 2000000 in
theorem mark_ops (n k g cap base : Nat) (cs : List Value) (w : World) (hk : 0 < k) (hk' : k + 5 * n ≤ 9223372036854775807) (hcap : cap ≤ maxLen) (hnc : n ≤ cap) (h : w.ownsRow base 47 5 (.slice (some ⟨g, 0, none⟩) n cap) n cs) :
    Calls Tryz.prog 25 #[.slice (some ⟨g, 0, none⟩) n cap, .int .i64 k] w fun e w' => e = .returned (.int .i64 ((k + 5 * n : Nat) : Int)) ∧ w.grownBy w' (some g) := by
  have H := Lib.hid h
  unfold maxLen at hcap
  clear h
  go_enter Tryz.func25, Tryz.ntmps25
  go_wp2
  go_loopw [1, 5] (fun q i wr => ∃ (j : Nat) (L : List Value), j ≤ n ∧ i = .int .i64 j ∧ q = .int .i64 ((k + 5 * j : Nat) : Int) ∧ Hid (wr.ownsRow base 47 5 (.slice (some ⟨g, 0, none⟩) n cap) n L) ∧ Hid (w.grownBy wr (some g))) (fun _ i _ => n - (intOf i).toNat)
  case atStart => exact ⟨0, cs, Nat.zero_le _, rfl, by go_num, H, Lib.hid (World.grownBy.refl _ _)⟩
  case round =>
    obtain ⟨j, L, hj, rfl, rfl, hr, hg⟩ := hrel
    by_cases hlt : j < n
    · go_wp2_with (go_at_call 54; refine (mark_text (k + 5 * j) (by omega) (by omega) _).mono ?_; rintro e w1 ⟨rfl, hb1⟩; refine Hid.out ?_)
      refine Lib.hid ?_
      have hrow1 := owns_later hr.out hb1
      obtain ⟨v0, c0⟩ := cell_in hrow1 (j * 5) (by omega)
      obtain ⟨v1, c1⟩ := cell_in hrow1 (j * 5 + 1) (by omega)
      obtain ⟨v2, c2⟩ := cell_in hrow1 (j * 5 + 2) (by omega)
      have z0 := World.ownsRow.frozenAt hrow1 (j * 5)
      have z1 := World.ownsRow.frozenAt hrow1 (j * 5 + 1)
      have z2 := World.ownsRow.frozenAt hrow1 (j * 5 + 2)
      have s0 := hrow1.stored (j * 5) (.string (markOf (k + 5 * j)))
      have s1 := s0.1.stored (j * 5 + 1) (.int .i64 ((k + 5 * j + 1 : Nat) : Int))
      have s2 := s1.1.stored (j * 5 + 2) (.int .i64 ((k + 5 * j + 2 : Nat) : Int))
      have S0 := Lib.hid s0
      have S1 := Lib.hid s1
      have S2 := Lib.hid s2
      have Hb1 := Lib.hid hb1
      clear hrow1 s0 s1 s2 hb1
      go_wp2_with (go_at_call 54; refine (mark_text (k + 5 * j + 3) (by omega) (by omega) _).mono ?_; rintro e w2 ⟨rfl, hb2⟩; refine Hid.out ?_)
      refine Lib.hid ?_
      have hrow2 := owns_later S2.out.1 hb2
      obtain ⟨v3, c3⟩ := cell_in hrow2 (j * 5 + 3) (by omega)
      have z3 := World.ownsRow.frozenAt hrow2 (j * 5 + 3)
      have s3 := hrow2.stored (j * 5 + 3) (.string (markOf (k + 5 * j + 3)))
      have S3 := Lib.hid s3
      have Hb2 := Lib.hid hb2
      clear hrow2 s3 hb2 c0 c1 c2 z0 z1 z2
      go_wp2_with (go_at_call 54; refine (mark_text (k + 5 * j + 4) (by omega) (by omega) _).mono ?_; rintro e w3 ⟨rfl, hb3⟩; refine Hid.out ?_)
      refine Lib.hid ?_
      have hrow3 := owns_later S3.out.1 hb3
      obtain ⟨v4, c4⟩ := cell_in hrow3 (j * 5 + 4) (by omega)
      have z4 := World.ownsRow.frozenAt hrow3 (j * 5 + 4)
      have s4 := hrow3.stored (j * 5 + 4) (.string (markOf (k + 5 * j + 4)))
      have S4 := Lib.hid s4
      have Hb3 := Lib.hid hb3
      clear hrow3 s4 hb3 c3 z3
      go_wp2_with fail
      go_roundw
      case rel =>
        refine ⟨j + 1, _, by omega, by go_num, by go_num, Lib.hid S4.out.1, Lib.hid ?_⟩
        exact ((((((hg.out.trans (grown_of_below Hb1.out _)).trans S0.out.2).trans S1.out.2).trans S2.out.2).trans (grown_of_below Hb2.out _)).trans S3.out.2).trans ((grown_of_below Hb3.out _).trans S4.out.2)
      case measure => simp [intOf]; omega
    · obtain rfl : j = n := by omega
      go_wp2
      go_ret
      exact ⟨ret_int (by simp), hg.out⟩
end Go.Proofs.YtclcaflkopnbpaaGreatDoor
