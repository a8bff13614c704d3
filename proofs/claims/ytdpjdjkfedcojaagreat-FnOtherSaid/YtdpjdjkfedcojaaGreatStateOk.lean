/- What spec.StateOk answers at every state. Condition: none beyond what the argument may be. -/
import Derived.Test.YtdpjdjkfedcojaaGreatBaseA
import Derived.Deep.RegionHeld3
namespace Go.Proofs.YtdpjdjkfedcojaaGreat
open Go.RowKit List
set_option linter.unusedVariables false

def goodI (xs : List It) (i : Nat) : Bool := itOk (xs.getD i default) && (decide (i = 0) || lessB (xs.getD (i - 1) default).k (xs.getD i default).k)
def goodT (xs : List Tk) (i : Nat) : Bool := tkOk (xs.getD i default) && (decide (i = 0) || lessB (xs.getD (i - 1) default).c (xs.getD i default).c)
def stOk (s : St) : Bool := decide ((∀ i, i < s.items.length → goodI s.items i = true) ∧ (∀ i, i < s.talks.length → goodT s.talks i = true) ∧ s.items.length ≤ 40 ∧ s.talks.length ≤ 20)
/-- What a state's texts and numbers may be. -/
def Fits (s : St) : Prop := (∀ x ∈ s.items, x.k.size ≤ maxLen ∧ x.v.size ≤ maxLen) ∧ ∀ x ∈ s.talks, x.c.size ≤ maxLen ∧ x.r.size ≤ maxLen ∧ -9223372036854775808 ≤ x.q ∧ x.q ≤ 9223372036854775807
theorem getD_eq {α : Type} [Inhabited α] (xs : List α) (i : Nat) (h : i < xs.length) : xs.getD i default = xs[i] := by simp [List.getD, h]
theorem stOk_badI {s : St} {k : Nat} (hk : k < s.items.length) (h : goodI s.items k = false) : stOk s = false := by
  unfold stOk
  simp only [decide_eq_false_iff_not]
  rintro ⟨h1, _⟩
  rw [h1 k hk] at h; cases h
theorem stOk_badT {s : St} {k : Nat} (hk : k < s.talks.length) (h : goodT s.talks k = false) : stOk s = false := by
  unfold stOk
  simp only [decide_eq_false_iff_not]
  rintro ⟨_, h1, _⟩
  rw [h1 k hk] at h; cases h

theorem stOk_end {s : St} (hI : ∃ kI, (∀ i, i < kI → goodI s.items i = true) ∧ (kI = s.items.length ∨ 40 < s.items.length)) (hT : ∃ kT, (∀ i, i < kT → goodT s.talks i = true) ∧ (kT = s.talks.length ∨ 20 < s.talks.length)) :
    stOk s = (decide ((s.items.length : Int) ≤ 40) && decide ((s.talks.length : Int) ≤ 20)) := by
  obtain ⟨kI, h1, h2⟩ := hI
  obtain ⟨kT, h3, h4⟩ := hT
  unfold stOk
  by_cases hn : s.items.length ≤ 40
  · by_cases hm : s.talks.length ≤ 20
    · have e1 : kI = s.items.length := by omega
      have e2 : kT = s.talks.length := by omega
      subst e1; subst e2
      have g1 : decide ((s.items.length : Int) ≤ 40) = true := decide_eq_true (by omega)
      have g2 : decide ((s.talks.length : Int) ≤ 20) = true := decide_eq_true (by omega)
      rw [g1, g2]
      simpa using ⟨h1, h3, hn, hm⟩
    · have g2 : decide ((s.talks.length : Int) ≤ 20) = false := decide_eq_false (by omega)
      rw [g2, Bool.and_false]
      simp only [decide_eq_false_iff_not]
      rintro ⟨_, _, _, h⟩; exact hm h
  · have g1 : decide ((s.items.length : Int) ≤ 40) = false := decide_eq_false (by omega)
    rw [g1, Bool.false_and]
    simp only [decide_eq_false_iff_not]
    rintro ⟨_, _, h, _⟩; exact hn h
theorem row_open {w : World} {B n : Nat} {v : Value} {cs : List Value} (h : (v = .slice none 0 0 ∧ n = 0) ∨ ∃ g o cap, v = .slice (some ⟨g, o, none⟩) n cap ∧ n ≤ cap ∧ cap ≤ maxLen ∧ (n = 0 ∨ g < B) ∧ At w g o cs) :
    ∃ a cap, v = .slice a n cap ∧ n ≤ cap ∧ cap ≤ maxLen ∧ (0 < n → ∃ g o, a = some ⟨g, o, none⟩ ∧ g < B ∧ At w g o cs) := by
  rcases h with ⟨rfl, rfl⟩ | ⟨g, o, cap, rfl, h1, h2, h3, h4⟩
  · exact ⟨none, 0, rfl, Nat.le_refl _, Nat.zero_le _, fun h => absurd h (Nat.lt_irrefl _)⟩
  · exact ⟨_, cap, rfl, h1, h2, fun hn => ⟨g, o, rfl, by omega, h4⟩⟩
set_option maxHeartbeats 8000000 in
theorem spec_stateOk (s : St) (v : Value) (B : Nat) (w : World) (hs : StV w B v s) (hB : B ≤ w.heap.size) (hf : Fits s) :
    Calls Tryz.prog 14 #[v] w fun e w' => e = .returned (.bool (stOk s)) ∧ Below w.heap.size w w' := by
  obtain ⟨vi, vt, rfl, ⟨hli, hi⟩, ⟨hlt, ht⟩⟩ := hs
  obtain ⟨W, hW⟩ : ∃ W, W = w.alloc (.cells #[vi, vt] 27) := ⟨_, rfl⟩
  have hbW : Below w.heap.size w W := by rw [hW]; exact (Below.refl _ _).alloc (Nat.le_refl _) _
  have hWs : W.heap.size = w.heap.size + 1 := by rw [hW]; simp
  have HVI : Hid (∀ w', Below W.heap.size W w' → w'.cell? ⟨w.heap.size, 0, none⟩ = some vi) := Lib.hid (fun w' h => by
    rw [h.cell (show w.heap.size < W.heap.size by omega), hW, World.cell?_alloc_new]; rfl)
  have HVT : Hid (∀ w', Below W.heap.size W w' → w'.cell? ⟨w.heap.size, 1, none⟩ = some vt) := Lib.hid (fun w' h => by
    rw [h.cell (show w.heap.size < W.heap.size by omega), hW, World.cell?_alloc_new]; rfl)
  obtain ⟨n, hn⟩ : ∃ n, n = s.items.length := ⟨_, rfl⟩
  have hf0 := hf
  obtain ⟨m, hm⟩ : ∃ m, m = s.talks.length := ⟨_, rfl⟩
  have HN := Lib.hid hn
  have HM := Lib.hid hm
  obtain ⟨ai, ci, rfl, hci, hci', hAI⟩ := row_open hi
  obtain ⟨at_, ct, rfl, hct, hct', hAT⟩ := row_open ht
  have HAI := Lib.hid hAI
  have HAT := Lib.hid hAT
  rw [← hn] at hci HAI HVI
  rw [← hm] at hct HAT HVT
  rw [← hn, ← hm] at hW ⊢
  unfold maxLen at hci' hct'
  clear hAI hAT hi ht hli hlt hn hm
  go_enter Tryz.func14, Tryz.ntmps14
  go_wp2
  go_loopw [3] (fun i wr => ∃ k : Nat, k ≤ n ∧ k ≤ 41 ∧ i = .int .i64 k ∧ Hid (Below W.heap.size W wr) ∧ Hid (∀ i, i < k → goodI s.items i = true)) (fun i _ => n - (intOf i).toNat)
  case atStart => exact ⟨0, by omega, by omega, rfl, Lib.hid (by rw [hW]; exact Below.refl _ _), Lib.hid (fun i h => by omega)⟩
  case round =>
    obtain ⟨k, hk, hk', rfl, hbw, hgood⟩ := hrel
    clear hW hWs
    have hvi := HVI.out wr hbw.out
    by_cases hgo : k < n ∧ k ≤ 40
    · obtain ⟨hg1, hg2⟩ := hgo
      obtain ⟨g, o, ha, hgB, hAt⟩ := HAI.out (by omega)
      subst ha
      have hkl : k < s.items.length := by have := HN.out; omega
      obtain ⟨x, hx⟩ : ∃ x, x = s.items[k] := ⟨_, rfl⟩
      have hfx := hf.1 x (by rw [hx]; exact List.getElem_mem _)
      have HC : Hid (∀ w', Below W.heap.size W w' → w'.cell? ⟨g, o + k * 2, none⟩ = some (.string x.k) ∧ w'.cell? ⟨g, o + k * 2 + 1, none⟩ = some (.string x.v)) := Lib.hid (fun w' h => by
        have hb := (hbW.trans (h.mono hbW.size))
        have hgw : g < w.heap.size := Nat.lt_of_lt_of_le hgB hB
        have hc := hAt.item k hkl
        rw [← hx] at hc
        rw [hb.cell hgw, hb.cell hgw]; exact hc)
      have hc1 := fun w => spec_item x w hfx.1
      cases hb1 : itOk x
      · rw [hb1] at hc1
        have hv : Hid (stOk s = false) := Lib.hid (stOk_badI hkl (by unfold goodI; rw [getD_eq _ _ hkl, ← hx, hb1]; rfl))
        clear hx hb1 hfx hAt hf0
        go_wp2_with fail
        refine wp_region_held_drew (S := (fun w' => Below W.heap.size W w')) (by kernel_rfl) ((show Below W.heap.size W wr from hbw.out).drew) (fun hHeld => ?_)
        refine tk0 0 ?_
        refine tk 1 (v := ?_) ?_ ?_; rotate_left
        · refine Or.inl ⟨by rfl, ?_⟩; intro w hSw; have f0 := HVI.out w hSw; have f1 := HC.out w hSw; go_simp; first | done | with_reducible rfl
        refine tk0 2 ?_
        refine tk0 3 ?_
        refine tk 4 (v := ?_) ?_ ?_; rotate_left
        · refine Or.inl ⟨by rfl, ?_⟩; intro w hSw; have f0 := HVI.out w hSw; have f1 := HC.out w hSw; go_simp; first | done | with_reducible rfl
        refine rd1 5 (fun K hK => ?_)
        go_simp
        (go_at_call 34; refine (hc1 _).mono ?_; rintro e w' ⟨rfl, hbc⟩)
        go_wp2_with fail
        refine hK.out _ _ (hHeld.trans (hbc.mono hHeld.size)) (fun hHeld => ?_)
        clear hK K
        refine tk0 6 ?_
        refine tk0 7 ?_
        refine tku 8 ?_
        refine tku 9 ?_
        refine tku 10 ?_
        refine tku 11 ?_
        refine tku 12 ?_
        refine tku 13 ?_
        refine tku 14 ?_
        refine tku 15 ?_
        refine tku 16 ?_
        refine tku 17 ?_
        refine tku 18 ?_
        refine tku 19 ?_
        refine tku 20 ?_
        refine tku 21 ?_
        refine tku 22 ?_
        refine tku 23 ?_
        refine tku 24 ?_
        refine tku 25 ?_
        refine tku 26 ?_
        refine tk0 27 ?_
        refine wpAnyH_done (by kernel_rfl) ?_ _
        go_wp2_with fail
        go_ret
        exact ⟨ret_bool (by rw [hv.out]), hbW.trans (hHeld.mono hbW.size)⟩
      · rw [hb1] at hc1
        rcases Nat.eq_zero_or_pos k with hk0 | hk0
        · have hnk : ¬ 0 < k := by omega
          have hdec : decide ((0 : Int) < (k : Int)) = false := by simp; omega
          have hg' : Hid (∀ i, i < k + 1 → goodI s.items i = true) := Lib.hid (fun i hi => by
            obtain rfl : i = k := by omega
            unfold goodI; rw [getD_eq _ _ hkl, ← hx, hb1, hk0]; rfl)
          clear hx hb1 hfx hAt hf0 hk0
          go_wp2_with fail
          refine wp_region_held_drew (S := (fun w' => Below W.heap.size W w')) (by kernel_rfl) ((show Below W.heap.size W wr from hbw.out).drew) (fun hHeld => ?_)
          refine tk0 0 ?_
          refine tk 1 (v := ?_) ?_ ?_; rotate_left
          · refine Or.inl ⟨by rfl, ?_⟩; intro w hSw; have f0 := HVI.out w hSw; have f1 := HC.out w hSw; go_simp; first | done | with_reducible rfl
          refine tk0 2 ?_
          refine tk0 3 ?_
          refine tk 4 (v := ?_) ?_ ?_; rotate_left
          · refine Or.inl ⟨by rfl, ?_⟩; intro w hSw; have f0 := HVI.out w hSw; have f1 := HC.out w hSw; go_simp; first | done | with_reducible rfl
          refine rd1 5 (fun K hK => ?_)
          go_simp
          (go_at_call 34; refine (hc1 _).mono ?_; rintro e w' ⟨rfl, hbc⟩)
          go_wp2_with fail
          refine hK.out _ _ (hHeld.trans (hbc.mono hHeld.size)) (fun hHeld => ?_)
          clear hK K
          refine tk0 6 ?_
          refine tk0 7 ?_
          refine tk0 8 ?_
          refine tk0 9 ?_
          refine tk0 10 ?_
          refine tku 11 ?_
          refine tku 12 ?_
          refine tku 13 ?_
          refine tku 14 ?_
          refine tku 15 ?_
          refine tku 16 ?_
          refine tku 17 ?_
          refine tku 18 ?_
          refine tku 19 ?_
          refine tku 20 ?_
          refine tku 21 ?_
          refine tku 22 ?_
          refine tku 23 ?_
          refine tku 24 ?_
          refine tku 25 ?_
          refine tk0 26 ?_
          refine tk0 27 ?_
          refine wpAnyH_done (by kernel_rfl) ?_ _
          go_wp2_with fail
          go_roundw
          case rel => exact ⟨k + 1, by omega, by omega, by go_num, Lib.hid hHeld, hg'⟩
          case measure => simp [intOf]; omega
        · obtain ⟨j, rfl⟩ : ∃ j, k = j + 1 := ⟨k - 1, by omega⟩
          have hjl : j < s.items.length := by omega
          have e0 : (0 : Int) ≤ (j : Int) + 1 := by omega
          have e1 : (j : Int) + 1 < (n : Int) := by omega
          have e2 : (j : Int) < (n : Int) := by omega
          have e3 : ((j : Int) + 1).toNat = j + 1 := by omega
          have e4 : IntKind.i64.wrap (j : Int) = (j : Int) := by rw [IntKind.wrap_i64]; omega
          obtain ⟨y, hy⟩ : ∃ y, y = s.items[j] := ⟨_, rfl⟩
          have hfy := hf.1 y (by rw [hy]; exact List.getElem_mem _)
          have HP : Hid (∀ w', Below W.heap.size W w' → w'.cell? ⟨g, o + j * 2, none⟩ = some (.string y.k)) := Lib.hid (fun w' h => by
            have hb := (hbW.trans (h.mono hbW.size))
            have hgw : g < w.heap.size := Nat.lt_of_lt_of_le hgB hB
            have hc := hAt.item j hjl
            rw [← hy] at hc
            rw [hb.cell hgw]; exact hc.1)
          have hc2 := fun w => spec_before y.k x.k w hfy.1 hfx.1
          cases hb2 : lessB y.k x.k
          · rw [hb2] at hc2
            have hv : Hid (stOk s = false) := Lib.hid (stOk_badI hkl (by unfold goodI; rw [getD_eq _ _ hkl, Nat.add_sub_cancel, getD_eq _ _ hjl, ← hx, ← hy, hb1, hb2]; simp))
            clear hx hy hb1 hb2 hfx hfy hAt hf0
            go_wp2_with fail
            refine wp_region_held_drew (S := (fun w' => Below W.heap.size W w')) (by kernel_rfl) ((show Below W.heap.size W wr from hbw.out).drew) (fun hHeld => ?_)
            refine tk0 0 ?_
            refine tk 1 (v := ?_) ?_ ?_; rotate_left
            · refine Or.inl ⟨by rfl, ?_⟩; intro w hSw; have f0 := HVI.out w hSw; have f1 := HC.out w hSw; have f2 := HP.out w hSw; go_simp; first | done | with_reducible rfl
            refine tk0 2 ?_
            refine tk0 3 ?_
            refine tk 4 (v := ?_) ?_ ?_; rotate_left
            · refine Or.inl ⟨by rfl, ?_⟩; intro w hSw; have f0 := HVI.out w hSw; have f1 := HC.out w hSw; have f2 := HP.out w hSw; go_simp; first | done | with_reducible rfl
            refine rd1 5 (fun K hK => ?_)
            go_simp
            (go_at_call 34; refine (hc1 _).mono ?_; rintro e w' ⟨rfl, hbc⟩)
            go_wp2_with fail
            refine hK.out _ _ (hHeld.trans (hbc.mono hHeld.size)) (fun hHeld => ?_)
            clear hK K
            refine tk0 6 ?_
            refine tk0 7 ?_
            refine tk0 8 ?_
            refine tk0 9 ?_
            refine tk0 10 ?_
            refine tk0 11 ?_
            refine tk 12 (v := ?_) ?_ ?_; rotate_left
            · refine Or.inl ⟨by rfl, ?_⟩; intro w hSw; have f0 := HVI.out w hSw; have f1 := HC.out w hSw; have f2 := HP.out w hSw; go_simp; first | done | with_reducible rfl
            refine tk0 13 ?_
            refine tk0 14 ?_
            refine tk0 15 ?_
            refine tk0 16 ?_
            refine tk 17 (v := ?_) ?_ ?_; rotate_left
            · refine Or.inl ⟨by rfl, ?_⟩; intro w hSw; have f0 := HVI.out w hSw; have f1 := HC.out w hSw; have f2 := HP.out w hSw; go_simp; first | done | with_reducible rfl
            refine tk0 18 ?_
            refine tk 19 (v := ?_) ?_ ?_; rotate_left
            · refine Or.inl ⟨by rfl, ?_⟩; intro w hSw; have f0 := HVI.out w hSw; have f1 := HC.out w hSw; have f2 := HP.out w hSw; go_simp; first | done | with_reducible rfl
            refine tk0 20 ?_
            refine tk0 21 ?_
            refine tk0 22 ?_
            refine tk 23 (v := ?_) ?_ ?_; rotate_left
            · refine Or.inl ⟨by rfl, ?_⟩; intro w hSw; have f0 := HVI.out w hSw; have f1 := HC.out w hSw; have f2 := HP.out w hSw; go_simp; first | done | with_reducible rfl
            refine rd1 24 (fun K hK => ?_)
            go_simp
            (go_at_call 35; refine (hc2 _).mono ?_; rintro e w' ⟨rfl, nn, rfl⟩)
            go_wp2_with fail
            refine hK.out _ _ (hHeld.trans (below_draws _ _ _)) (fun hHeld => ?_)
            clear hK K
            refine tk0 25 ?_
            refine tk0 26 ?_
            refine tk0 27 ?_
            refine wpAnyH_done (by kernel_rfl) ?_ _
            go_wp2_with fail
            go_ret
            exact ⟨ret_bool (by rw [hv.out]), hbW.trans (hHeld.mono hbW.size)⟩
          · rw [hb2] at hc2
            have hg' : Hid (∀ i, i < j + 1 + 1 → goodI s.items i = true) := Lib.hid (fun i hi => by
              by_cases hij : i = j + 1
              · subst hij
                unfold goodI; rw [getD_eq _ _ hkl, Nat.add_sub_cancel, getD_eq _ _ hjl, ← hx, ← hy, hb1, hb2]; simp
              · exact hgood.out i (by omega))
            clear hx hy hb1 hb2 hfx hfy hAt hf0
            go_wp2_with fail
            refine wp_region_held_drew (S := (fun w' => Below W.heap.size W w')) (by kernel_rfl) ((show Below W.heap.size W wr from hbw.out).drew) (fun hHeld => ?_)
            refine tk0 0 ?_
            refine tk 1 (v := ?_) ?_ ?_; rotate_left
            · refine Or.inl ⟨by rfl, ?_⟩; intro w hSw; have f0 := HVI.out w hSw; have f1 := HC.out w hSw; have f2 := HP.out w hSw; go_simp; first | done | with_reducible rfl
            refine tk0 2 ?_
            refine tk0 3 ?_
            refine tk 4 (v := ?_) ?_ ?_; rotate_left
            · refine Or.inl ⟨by rfl, ?_⟩; intro w hSw; have f0 := HVI.out w hSw; have f1 := HC.out w hSw; have f2 := HP.out w hSw; go_simp; first | done | with_reducible rfl
            refine rd1 5 (fun K hK => ?_)
            go_simp
            (go_at_call 34; refine (hc1 _).mono ?_; rintro e w' ⟨rfl, hbc⟩)
            go_wp2_with fail
            refine hK.out _ _ (hHeld.trans (hbc.mono hHeld.size)) (fun hHeld => ?_)
            clear hK K
            refine tk0 6 ?_
            refine tk0 7 ?_
            refine tk0 8 ?_
            refine tk0 9 ?_
            refine tk0 10 ?_
            refine tk0 11 ?_
            refine tk 12 (v := ?_) ?_ ?_; rotate_left
            · refine Or.inl ⟨by rfl, ?_⟩; intro w hSw; have f0 := HVI.out w hSw; have f1 := HC.out w hSw; have f2 := HP.out w hSw; go_simp; first | done | with_reducible rfl
            refine tk0 13 ?_
            refine tk0 14 ?_
            refine tk0 15 ?_
            refine tk0 16 ?_
            refine tk 17 (v := ?_) ?_ ?_; rotate_left
            · refine Or.inl ⟨by rfl, ?_⟩; intro w hSw; have f0 := HVI.out w hSw; have f1 := HC.out w hSw; have f2 := HP.out w hSw; go_simp; first | done | with_reducible rfl
            refine tk0 18 ?_
            refine tk 19 (v := ?_) ?_ ?_; rotate_left
            · refine Or.inl ⟨by rfl, ?_⟩; intro w hSw; have f0 := HVI.out w hSw; have f1 := HC.out w hSw; have f2 := HP.out w hSw; go_simp; first | done | with_reducible rfl
            refine tk0 20 ?_
            refine tk0 21 ?_
            refine tk0 22 ?_
            refine tk 23 (v := ?_) ?_ ?_; rotate_left
            · refine Or.inl ⟨by rfl, ?_⟩; intro w hSw; have f0 := HVI.out w hSw; have f1 := HC.out w hSw; have f2 := HP.out w hSw; go_simp; first | done | with_reducible rfl
            refine rd1 24 (fun K hK => ?_)
            go_simp
            (go_at_call 35; refine (hc2 _).mono ?_; rintro e w' ⟨rfl, nn, rfl⟩)
            go_wp2_with fail
            refine hK.out _ _ (hHeld.trans (below_draws _ _ _)) (fun hHeld => ?_)
            clear hK K
            refine tk0 25 ?_
            refine tk0 26 ?_
            refine tk0 27 ?_
            refine wpAnyH_done (by kernel_rfl) ?_ _
            go_wp2_with fail
            go_roundw
            case rel => exact ⟨j + 1 + 1, by omega, by omega, by go_num, Lib.hid hHeld, hg'⟩
            case measure => simp [intOf]; omega
    · have hend : Hid (n ≤ 40 ∨ True) := Lib.hid (Or.inr trivial)
      have HI : Hid (∃ kI, (∀ i, i < kI → goodI s.items i = true) ∧ (kI = n ∨ 40 < n)) := Lib.hid ⟨k, hgood.out, by omega⟩
      have hbw0 := hbw
      rcases (show (k < n ∧ 40 < k) ∨ ¬ k < n by omega) with ⟨p1, p2⟩ | p1
      all_goals
        clear hgo hgood hend
        go_wp2_with fail
        clear hk hk' hbw hvi
        first | clear p1 p2 | clear p1
        go_loopw [4] (fun i wr => ∃ k : Nat, k ≤ m ∧ k ≤ 21 ∧ i = .int .i64 k ∧ Hid (Below W.heap.size W wr) ∧ Hid (∀ i, i < k → goodT s.talks i = true)) (fun i _ => m - (intOf i).toNat)
        case atStart => exact ⟨0, by omega, by omega, rfl, Lib.hid (hbw0.out), Lib.hid (fun i h => by omega)⟩
        case round =>
          obtain ⟨k, hk, hk', rfl, hbw, hgood⟩ := hrel
          skip
          have hvi := HVT.out wr hbw.out
          by_cases hgo : k < m ∧ k ≤ 20
          · obtain ⟨hg1, hg2⟩ := hgo
            obtain ⟨g, o, ha, hgB, hAt⟩ := HAT.out (by omega)
            subst ha
            have hkl : k < s.talks.length := by have := HM.out; omega
            obtain ⟨x, hx⟩ : ∃ x, x = s.talks[k] := ⟨_, rfl⟩
            have hfx := hf.2 x (by rw [hx]; exact List.getElem_mem _)
            have HC : Hid (∀ w', Below W.heap.size W w' → w'.cell? ⟨g, o + k * 3, none⟩ = some (.string x.c) ∧ w'.cell? ⟨g, o + k * 3 + 1, none⟩ = some (.int .i64 x.q) ∧ w'.cell? ⟨g, o + k * 3 + 2, none⟩ = some (.string x.r)) := Lib.hid (fun w' h => by
              have hb := (hbW.trans (h.mono hbW.size))
              have hgw : g < w.heap.size := Nat.lt_of_lt_of_le hgB hB
              have hc := hAt.talk k hkl
              rw [← hx] at hc
              rw [hb.cell hgw, hb.cell hgw, hb.cell hgw]; exact hc)
            have hc1 := fun w => spec_talk x w hfx.1 hfx.2.2
            cases hb1 : tkOk x
            · rw [hb1] at hc1
              have hv : Hid (stOk s = false) := Lib.hid (stOk_badT hkl (by unfold goodT; rw [getD_eq _ _ hkl, ← hx, hb1]; rfl))
              clear hx hb1 hfx hAt hf0
              go_wp2_with fail
              refine wp_region_held_drew (S := (fun w' => Below W.heap.size W w')) (by kernel_rfl) ((show Below W.heap.size W wr from hbw.out).drew) (fun hHeld => ?_)
              refine tk0 0 ?_
              refine tk 1 (v := ?_) ?_ ?_; rotate_left
              · refine Or.inl ⟨by rfl, ?_⟩; intro w hSw; have f0 := HVT.out w hSw; have f1 := HC.out w hSw; go_simp; first | done | with_reducible rfl
              refine tk0 2 ?_
              refine tk0 3 ?_
              refine tk 4 (v := ?_) ?_ ?_; rotate_left
              · refine Or.inl ⟨by rfl, ?_⟩; intro w hSw; have f0 := HVT.out w hSw; have f1 := HC.out w hSw; go_simp; first | done | with_reducible rfl
              refine rd1 5 (fun K hK => ?_)
              go_simp
              (go_at_call 36; refine (hc1 _).mono ?_; rintro e w' ⟨rfl, hbc⟩)
              go_wp2_with fail
              refine hK.out _ _ (hHeld.trans (hbc.mono hHeld.size)) (fun hHeld => ?_)
              clear hK K
              refine tk0 6 ?_
              refine tk0 7 ?_
              refine tku 8 ?_
              refine tku 9 ?_
              refine tku 10 ?_
              refine tku 11 ?_
              refine tku 12 ?_
              refine tku 13 ?_
              refine tku 14 ?_
              refine tku 15 ?_
              refine tku 16 ?_
              refine tku 17 ?_
              refine tku 18 ?_
              refine tku 19 ?_
              refine tku 20 ?_
              refine tku 21 ?_
              refine tku 22 ?_
              refine tku 23 ?_
              refine tku 24 ?_
              refine tku 25 ?_
              refine tku 26 ?_
              refine tk0 27 ?_
              refine wpAnyH_done (by kernel_rfl) ?_ _
              go_wp2_with fail
              go_ret
              exact ⟨ret_bool (by rw [hv.out]), hbW.trans (hHeld.mono hbW.size)⟩
            · rw [hb1] at hc1
              rcases Nat.eq_zero_or_pos k with hk0 | hk0
              · have hnk : ¬ 0 < k := by omega
                have hdec : decide ((0 : Int) < (k : Int)) = false := by simp; omega
                have hg' : Hid (∀ i, i < k + 1 → goodT s.talks i = true) := Lib.hid (fun i hi => by
                  obtain rfl : i = k := by omega
                  unfold goodT; rw [getD_eq _ _ hkl, ← hx, hb1, hk0]; rfl)
                clear hx hb1 hfx hAt hf0 hk0
                go_wp2_with fail
                refine wp_region_held_drew (S := (fun w' => Below W.heap.size W w')) (by kernel_rfl) ((show Below W.heap.size W wr from hbw.out).drew) (fun hHeld => ?_)
                refine tk0 0 ?_
                refine tk 1 (v := ?_) ?_ ?_; rotate_left
                · refine Or.inl ⟨by rfl, ?_⟩; intro w hSw; have f0 := HVT.out w hSw; have f1 := HC.out w hSw; go_simp; first | done | with_reducible rfl
                refine tk0 2 ?_
                refine tk0 3 ?_
                refine tk 4 (v := ?_) ?_ ?_; rotate_left
                · refine Or.inl ⟨by rfl, ?_⟩; intro w hSw; have f0 := HVT.out w hSw; have f1 := HC.out w hSw; go_simp; first | done | with_reducible rfl
                refine rd1 5 (fun K hK => ?_)
                go_simp
                (go_at_call 36; refine (hc1 _).mono ?_; rintro e w' ⟨rfl, hbc⟩)
                go_wp2_with fail
                refine hK.out _ _ (hHeld.trans (hbc.mono hHeld.size)) (fun hHeld => ?_)
                clear hK K
                refine tk0 6 ?_
                refine tk0 7 ?_
                refine tk0 8 ?_
                refine tk0 9 ?_
                refine tk0 10 ?_
                refine tku 11 ?_
                refine tku 12 ?_
                refine tku 13 ?_
                refine tku 14 ?_
                refine tku 15 ?_
                refine tku 16 ?_
                refine tku 17 ?_
                refine tku 18 ?_
                refine tku 19 ?_
                refine tku 20 ?_
                refine tku 21 ?_
                refine tku 22 ?_
                refine tku 23 ?_
                refine tku 24 ?_
                refine tku 25 ?_
                refine tk0 26 ?_
                refine tk0 27 ?_
                refine wpAnyH_done (by kernel_rfl) ?_ _
                go_wp2_with fail
                go_roundw
                case rel => exact ⟨k + 1, by omega, by omega, by go_num, Lib.hid hHeld, hg'⟩
                case measure => simp [intOf]; omega
              · obtain ⟨j, rfl⟩ : ∃ j, k = j + 1 := ⟨k - 1, by omega⟩
                have hjl : j < s.talks.length := by omega
                have e0 : (0 : Int) ≤ (j : Int) + 1 := by omega
                have e1 : (j : Int) + 1 < (m : Int) := by omega
                have e2 : (j : Int) < (m : Int) := by omega
                have e3 : ((j : Int) + 1).toNat = j + 1 := by omega
                have e4 : IntKind.i64.wrap (j : Int) = (j : Int) := by rw [IntKind.wrap_i64]; omega
                obtain ⟨y, hy⟩ : ∃ y, y = s.talks[j] := ⟨_, rfl⟩
                have hfy := hf.2 y (by rw [hy]; exact List.getElem_mem _)
                have HP : Hid (∀ w', Below W.heap.size W w' → w'.cell? ⟨g, o + j * 3, none⟩ = some (.string y.c)) := Lib.hid (fun w' h => by
                  have hb := (hbW.trans (h.mono hbW.size))
                  have hgw : g < w.heap.size := Nat.lt_of_lt_of_le hgB hB
                  have hc := hAt.talk j hjl
                  rw [← hy] at hc
                  rw [hb.cell hgw]; exact hc.1)
                have hc2 := fun w => spec_before y.c x.c w hfy.1 hfx.1
                cases hb2 : lessB y.c x.c
                · rw [hb2] at hc2
                  have hv : Hid (stOk s = false) := Lib.hid (stOk_badT hkl (by unfold goodT; rw [getD_eq _ _ hkl, Nat.add_sub_cancel, getD_eq _ _ hjl, ← hx, ← hy, hb1, hb2]; simp))
                  clear hx hy hb1 hb2 hfx hfy hAt hf0
                  go_wp2_with fail
                  refine wp_region_held_drew (S := (fun w' => Below W.heap.size W w')) (by kernel_rfl) ((show Below W.heap.size W wr from hbw.out).drew) (fun hHeld => ?_)
                  refine tk0 0 ?_
                  refine tk 1 (v := ?_) ?_ ?_; rotate_left
                  · refine Or.inl ⟨by rfl, ?_⟩; intro w hSw; have f0 := HVT.out w hSw; have f1 := HC.out w hSw; have f2 := HP.out w hSw; go_simp; first | done | with_reducible rfl
                  refine tk0 2 ?_
                  refine tk0 3 ?_
                  refine tk 4 (v := ?_) ?_ ?_; rotate_left
                  · refine Or.inl ⟨by rfl, ?_⟩; intro w hSw; have f0 := HVT.out w hSw; have f1 := HC.out w hSw; have f2 := HP.out w hSw; go_simp; first | done | with_reducible rfl
                  refine rd1 5 (fun K hK => ?_)
                  go_simp
                  (go_at_call 36; refine (hc1 _).mono ?_; rintro e w' ⟨rfl, hbc⟩)
                  go_wp2_with fail
                  refine hK.out _ _ (hHeld.trans (hbc.mono hHeld.size)) (fun hHeld => ?_)
                  clear hK K
                  refine tk0 6 ?_
                  refine tk0 7 ?_
                  refine tk0 8 ?_
                  refine tk0 9 ?_
                  refine tk0 10 ?_
                  refine tk0 11 ?_
                  refine tk 12 (v := ?_) ?_ ?_; rotate_left
                  · refine Or.inl ⟨by rfl, ?_⟩; intro w hSw; have f0 := HVT.out w hSw; have f1 := HC.out w hSw; have f2 := HP.out w hSw; go_simp; first | done | with_reducible rfl
                  refine tk0 13 ?_
                  refine tk0 14 ?_
                  refine tk0 15 ?_
                  refine tk0 16 ?_
                  refine tk 17 (v := ?_) ?_ ?_; rotate_left
                  · refine Or.inl ⟨by rfl, ?_⟩; intro w hSw; have f0 := HVT.out w hSw; have f1 := HC.out w hSw; have f2 := HP.out w hSw; go_simp; first | done | with_reducible rfl
                  refine tk0 18 ?_
                  refine tk 19 (v := ?_) ?_ ?_; rotate_left
                  · refine Or.inl ⟨by rfl, ?_⟩; intro w hSw; have f0 := HVT.out w hSw; have f1 := HC.out w hSw; have f2 := HP.out w hSw; go_simp; first | done | with_reducible rfl
                  refine tk0 20 ?_
                  refine tk0 21 ?_
                  refine tk0 22 ?_
                  refine tk 23 (v := ?_) ?_ ?_; rotate_left
                  · refine Or.inl ⟨by rfl, ?_⟩; intro w hSw; have f0 := HVT.out w hSw; have f1 := HC.out w hSw; have f2 := HP.out w hSw; go_simp; first | done | with_reducible rfl
                  refine rd1 24 (fun K hK => ?_)
                  go_simp
                  (go_at_call 35; refine (hc2 _).mono ?_; rintro e w' ⟨rfl, nn, rfl⟩)
                  go_wp2_with fail
                  refine hK.out _ _ (hHeld.trans (below_draws _ _ _)) (fun hHeld => ?_)
                  clear hK K
                  refine tk0 25 ?_
                  refine tk0 26 ?_
                  refine tk0 27 ?_
                  refine wpAnyH_done (by kernel_rfl) ?_ _
                  go_wp2_with fail
                  go_ret
                  exact ⟨ret_bool (by rw [hv.out]), hbW.trans (hHeld.mono hbW.size)⟩
                · rw [hb2] at hc2
                  have hg' : Hid (∀ i, i < j + 1 + 1 → goodT s.talks i = true) := Lib.hid (fun i hi => by
                    by_cases hij : i = j + 1
                    · subst hij
                      unfold goodT; rw [getD_eq _ _ hkl, Nat.add_sub_cancel, getD_eq _ _ hjl, ← hx, ← hy, hb1, hb2]; simp
                    · exact hgood.out i (by omega))
                  clear hx hy hb1 hb2 hfx hfy hAt hf0
                  go_wp2_with fail
                  refine wp_region_held_drew (S := (fun w' => Below W.heap.size W w')) (by kernel_rfl) ((show Below W.heap.size W wr from hbw.out).drew) (fun hHeld => ?_)
                  refine tk0 0 ?_
                  refine tk 1 (v := ?_) ?_ ?_; rotate_left
                  · refine Or.inl ⟨by rfl, ?_⟩; intro w hSw; have f0 := HVT.out w hSw; have f1 := HC.out w hSw; have f2 := HP.out w hSw; go_simp; first | done | with_reducible rfl
                  refine tk0 2 ?_
                  refine tk0 3 ?_
                  refine tk 4 (v := ?_) ?_ ?_; rotate_left
                  · refine Or.inl ⟨by rfl, ?_⟩; intro w hSw; have f0 := HVT.out w hSw; have f1 := HC.out w hSw; have f2 := HP.out w hSw; go_simp; first | done | with_reducible rfl
                  refine rd1 5 (fun K hK => ?_)
                  go_simp
                  (go_at_call 36; refine (hc1 _).mono ?_; rintro e w' ⟨rfl, hbc⟩)
                  go_wp2_with fail
                  refine hK.out _ _ (hHeld.trans (hbc.mono hHeld.size)) (fun hHeld => ?_)
                  clear hK K
                  refine tk0 6 ?_
                  refine tk0 7 ?_
                  refine tk0 8 ?_
                  refine tk0 9 ?_
                  refine tk0 10 ?_
                  refine tk0 11 ?_
                  refine tk 12 (v := ?_) ?_ ?_; rotate_left
                  · refine Or.inl ⟨by rfl, ?_⟩; intro w hSw; have f0 := HVT.out w hSw; have f1 := HC.out w hSw; have f2 := HP.out w hSw; go_simp; first | done | with_reducible rfl
                  refine tk0 13 ?_
                  refine tk0 14 ?_
                  refine tk0 15 ?_
                  refine tk0 16 ?_
                  refine tk 17 (v := ?_) ?_ ?_; rotate_left
                  · refine Or.inl ⟨by rfl, ?_⟩; intro w hSw; have f0 := HVT.out w hSw; have f1 := HC.out w hSw; have f2 := HP.out w hSw; go_simp; first | done | with_reducible rfl
                  refine tk0 18 ?_
                  refine tk 19 (v := ?_) ?_ ?_; rotate_left
                  · refine Or.inl ⟨by rfl, ?_⟩; intro w hSw; have f0 := HVT.out w hSw; have f1 := HC.out w hSw; have f2 := HP.out w hSw; go_simp; first | done | with_reducible rfl
                  refine tk0 20 ?_
                  refine tk0 21 ?_
                  refine tk0 22 ?_
                  refine tk 23 (v := ?_) ?_ ?_; rotate_left
                  · refine Or.inl ⟨by rfl, ?_⟩; intro w hSw; have f0 := HVT.out w hSw; have f1 := HC.out w hSw; have f2 := HP.out w hSw; go_simp; first | done | with_reducible rfl
                  refine rd1 24 (fun K hK => ?_)
                  go_simp
                  (go_at_call 35; refine (hc2 _).mono ?_; rintro e w' ⟨rfl, nn, rfl⟩)
                  go_wp2_with fail
                  refine hK.out _ _ (hHeld.trans (below_draws _ _ _)) (fun hHeld => ?_)
                  clear hK K
                  refine tk0 25 ?_
                  refine tk0 26 ?_
                  refine tk0 27 ?_
                  refine wpAnyH_done (by kernel_rfl) ?_ _
                  go_wp2_with fail
                  go_roundw
                  case rel => exact ⟨j + 1 + 1, by omega, by omega, by go_num, Lib.hid hHeld, hg'⟩
                  case measure => simp [intOf]; omega
          · have hend : Hid (m ≤ 40 ∨ True) := Lib.hid (Or.inr trivial)
            have HT : Hid (∃ kT, (∀ i, i < kT → goodT s.talks i = true) ∧ (kT = m ∨ 20 < m)) := Lib.hid ⟨k, hgood.out, by omega⟩
            have hval : Hid (stOk s = (decide ((n : Int) ≤ 40) && decide ((m : Int) ≤ 20))) := Lib.hid (by
              have h1 := HN.out; have h2 := HM.out
              rw [h1, h2]
              have h3 := HI.out; have h4 := HT.out
              rw [h1] at h3; rw [h2] at h4
              exact stOk_end h3 h4)
            have hvi1 := HVI.out wr hbw.out
            have hbw1 := hbw.out
            rcases (show (k < m ∧ 20 < k) ∨ ¬ k < m by omega) with ⟨q1, q2⟩ | q1
            all_goals
              clear hgo
              by_cases hn40 : (n : Int) ≤ 40
              · have hd40 : decide ((n : Int) ≤ 40) = true := by simpa using hn40
                rw [hd40, Bool.true_and] at hval
                go_wp2_with fail
                go_ret
                exact ⟨ret_bool (by rw [hval.out]), hbW.trans (hbw1.mono hbW.size)⟩
              · have hd40 : decide ((n : Int) ≤ 40) = false := by simpa using hn40
                rw [hd40, Bool.false_and] at hval
                go_wp2_with fail
                go_ret
                exact ⟨ret_bool (by rw [hval.out]), hbW.trans (hbw1.mono hbW.size)⟩

end Go.Proofs.YtdpjdjkfedcojaaGreat
