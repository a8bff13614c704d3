/- What the program's StateOk answers. Condition: rows that can be read. -/
import Derived.Test.YtdpjdjkfedcojaaGreatBaseA
import Derived.Test.YtdpjdjkfedcojaaGreatImplRow
import Derived.Test.YtdpjdjkfedcojaaGreatImplSays
namespace Go.Proofs.YtdpjdjkfedcojaaGreat
open Go.RowKit List
set_option linter.unusedVariables false

/-- What an ordered list of rows is. -/
def okI (xs : List It) (m : Int) : Bool := decide ((xs.length : Int) ≤ m ∧ ∀ i, i < xs.length → goodI xs i = true)
theorem okI_bad {xs : List It} {m : Int} {k : Nat} (hk : k < xs.length) (h : goodI xs k = false) : okI xs m = false := by
  unfold okI
  simp only [decide_eq_false_iff_not]
  rintro ⟨_, h1⟩
  rw [h1 k hk] at h; cases h

set_option maxHeartbeats 4000000 in
theorem ok_items (xs : List It) (v : Value) (B : Nat) (m : Int) (w : World) (hr : Raw w B v xs.length (xs.flatMap itC)) (hB : B ≤ w.heap.size) (hf : ∀ x ∈ xs, x.k.size ≤ maxLen ∧ x.v.size ≤ maxLen) :
    Calls Tryz.prog 52 #[v, .int .i64 m] w fun e w' => e = .returned (.bool (okI xs m)) ∧ Below w.heap.size w w' := by
  obtain ⟨a, cap, rfl, hn, hcap, _, hat⟩ := hr
  obtain ⟨n, hN⟩ : ∃ n, n = xs.length := ⟨_, rfl⟩
  rw [← hN] at hn hat ⊢
  have HN := Lib.hid hN
  have Hat := Lib.hid hat
  have Hf := Lib.hid hf
  unfold maxLen at hcap
  by_cases hm : m < (n : Int)
  · have hv : Hid (okI xs m = false) := Lib.hid (by unfold okI; simp only [decide_eq_false_iff_not]; rintro ⟨h, _⟩; omega)
    clear hN hat hf
    go_enter Tryz.func52, Tryz.ntmps52
    go_wp2
    go_ret
    exact ⟨ret_bool (by rw [hv.out]), Below.refl _ _⟩
  have Hm := Lib.hid (show (n : Int) ≤ m by omega)
  have hm' : (n : Int) ≤ m := by omega
  clear hN hat hf hm
  go_enter Tryz.func52, Tryz.ntmps52
  go_wp2
  go_loopw [13] (fun i wr => ∃ k : Nat, k ≤ n ∧ i = .int .i64 k ∧ Hid (Below w.heap.size w wr) ∧ Hid (∀ i, i < k → goodI xs i = true)) (fun i _ => n - (intOf i).toNat)
  case atStart => exact ⟨0, by omega, rfl, Lib.hid (Below.refl _ _), Lib.hid (fun i h => by omega)⟩
  case round =>
    obtain ⟨k, hk, rfl, hbw, hgood⟩ := hrel
    by_cases hlt : k < n
    · obtain ⟨g, o, ha, hg, hAt⟩ := Hat.out (by omega)
      subst ha
      have hkl : k < xs.length := by have := HN.out; omega
      obtain ⟨x, hx⟩ : ∃ x, x = xs[k] := ⟨_, rfl⟩
      have hfx := Hf.out x (by rw [hx]; exact List.getElem_mem _)
      have hgw : g < w.heap.size := by omega
      have hc := hAt.item k hkl
      rw [← hx] at hc
      simp only [← hbw.out.cell (p := ⟨g, o + k * 2, none⟩) hgw, ← hbw.out.cell (p := ⟨g, o + k * 2 + 1, none⟩) hgw] at hc
      have HX0 := Lib.hid hx
      have HAt := Lib.hid hAt
      obtain ⟨W, hW⟩ : ∃ W, W = wr.alloc (.cells #[.string x.k, .string x.v] 45) := ⟨_, rfl⟩
      have hbW : Below wr.heap.size wr W := by rw [hW]; exact (Below.refl _ _).alloc (Nat.le_refl _) _
      have hWs : W.heap.size = wr.heap.size + 1 := by rw [hW]; simp
      have HX : Hid (∀ w', Below W.heap.size W w' → w'.cell? ⟨wr.heap.size, 0, none⟩ = some (.string x.k) ∧ w'.cell? ⟨wr.heap.size, 1, none⟩ = some (.string x.v)) := Lib.hid (fun w' h => by
        rw [h.cell (show wr.heap.size < W.heap.size by omega), h.cell (show wr.heap.size < W.heap.size by omega), hW, World.cell?_alloc_new, World.cell?_alloc_new]; exact ⟨rfl, rfl⟩)
      have BW : Hid (Below W.heap.size W W) := Lib.hid (Below.refl _ _)
      have HbW : Hid (Below w.heap.size w W) := Lib.hid (hbw.out.trans (hbW.mono hbw.out.size))
      have hc1 := fun w => impl_validI x w hfx
      have hcx := fun w => impl_nameI x w
      unfold itA at hc1 hcx
      have mN := meth_nameI
      have mV := meth_validI
      obtain ⟨hc0, hc0'⟩ := hc
      clear hx hAt Hat hfx hgw hWs
      cases hb1 : itOk x
      · rw [hb1] at hc1
        have hv : Hid (okI xs m = false) := Lib.hid (okI_bad hkl (by unfold goodI; rw [getD_eq _ _ hkl, ← HX0.out, hb1]; rfl))
        clear hb1
        go_wp2_with fail
        rw [← hW]
        clear hW hbW hc0 hc0'
        refine wp_region_held_drew (S := (fun w' => Below W.heap.size W w')) (by kernel_rfl) (BW.out.drew) (fun hHeld => ?_)
        refine tk 0 (v := ?_) ?_ ?_; rotate_left
        · refine Or.inl ⟨by rfl, ?_⟩; intro w hSw; have f0 := HX.out w hSw; go_simp; first | done | with_reducible rfl
        refine tk0 1 ?_
        refine rd1 2 (fun K hK => ?_)
        go_simp
        go_at_call 136
        refine (hc1 _).mono ?_
        rintro e w' ⟨rfl, hbc⟩
        have hB' := hHeld.trans (hbc.mono hHeld.size)
        go_wp2_with fail
        refine hK.out _ _ (hB') (fun hHeld => ?_)
        clear hK K
        refine tk0 3 ?_
        refine tk0 4 ?_
        refine tku 5 ?_
        refine tku 6 ?_
        refine tku 7 ?_
        refine tku 8 ?_
        refine tku 9 ?_
        refine tku 10 ?_
        refine tku 11 ?_
        refine tku 12 ?_
        refine tku 13 ?_
        refine tku 14 ?_
        refine tku 15 ?_
        refine tku 16 ?_
        refine tku 17 ?_
        refine tku 18 ?_
        refine tku 19 ?_
        refine tku 20 ?_
        refine tk0 21 ?_
        refine wpAnyH_done (by kernel_rfl) ?_ _
        clear mN mV
        go_wp2_with fail
        go_ret
        exact ⟨ret_bool (by rw [hv.out]), HbW.out.trans (hHeld.mono HbW.out.size)⟩
      · rw [hb1] at hc1
        rcases Nat.eq_zero_or_pos k with hk0 | hk0
        · have hnk : ¬ 0 < k := by omega
          have hdec : decide ((0 : Int) < (k : Int)) = false := by simp; omega
          have hg' : Hid (∀ i, i < k + 1 → goodI xs i = true) := Lib.hid (fun i hi => by
            obtain rfl : i = k := by omega
            unfold goodI; rw [getD_eq _ _ hkl, ← HX0.out, hb1, hk0]; rfl)
          clear hb1 hk0
          go_wp2_with fail
          rw [← hW]
          clear hW hbW hc0 hc0'
          refine wp_region_held_drew (S := (fun w' => Below W.heap.size W w')) (by kernel_rfl) (BW.out.drew) (fun hHeld => ?_)
          refine tk 0 (v := ?_) ?_ ?_; rotate_left
          · refine Or.inl ⟨by rfl, ?_⟩; intro w hSw; have f0 := HX.out w hSw; go_simp; first | done | with_reducible rfl
          refine tk0 1 ?_
          refine rd1 2 (fun K hK => ?_)
          go_simp
          go_at_call 136
          refine (hc1 _).mono ?_
          rintro e w' ⟨rfl, hbc⟩
          have hB' := hHeld.trans (hbc.mono hHeld.size)
          go_wp2_with fail
          refine hK.out _ _ (hB') (fun hHeld => ?_)
          clear hK K
          refine tk0 3 ?_
          refine tk0 4 ?_
          refine tk0 5 ?_
          refine tk0 6 ?_
          refine tk0 7 ?_
          refine tku 8 ?_
          refine tku 9 ?_
          refine tku 10 ?_
          refine tku 11 ?_
          refine tku 12 ?_
          refine tku 13 ?_
          refine tku 14 ?_
          refine tku 15 ?_
          refine tku 16 ?_
          refine tku 17 ?_
          refine tku 18 ?_
          refine tku 19 ?_
          refine tk0 20 ?_
          refine tk0 21 ?_
          refine wpAnyH_done (by kernel_rfl) ?_ _
          clear mN mV
          go_wp2_with fail
          go_roundw
          case rel => exact ⟨k + 1, by omega, by go_num, Lib.hid (HbW.out.trans (hHeld.mono HbW.out.size)), hg'⟩
          case measure => simp [intOf]; omega
        · obtain ⟨j, rfl⟩ : ∃ j, k = j + 1 := ⟨k - 1, by omega⟩
          have hjl : j < xs.length := by omega
          have e0 : (0 : Int) ≤ (j : Int) + 1 := by omega
          have e1 : (j : Int) + 1 < (n : Int) := by omega
          have e2 : (j : Int) < (n : Int) := by omega
          have e3 : ((j : Int) + 1).toNat = j + 1 := by omega
          have e4 : IntKind.i64.wrap (j : Int) = (j : Int) := by rw [IntKind.wrap_i64]; omega
          obtain ⟨y, hy⟩ : ∃ y, y = xs[j] := ⟨_, rfl⟩
          have hfy := Hf.out y (by rw [hy]; exact List.getElem_mem _)
          have HY : Hid (∀ w', Below W.heap.size W w' → w'.cell? ⟨g, o + j * 2, none⟩ = some (.string y.k) ∧ w'.cell? ⟨g, o + j * 2 + 1, none⟩ = some (.string y.v)) := Lib.hid (fun w' h => by
            have hb := HbW.out.trans (h.mono HbW.out.size)
            have hgw : g < w.heap.size := Nat.lt_of_lt_of_le hg hB
            have hc := HAt.out.item j hjl
            rw [← hy] at hc
            rw [hb.cell hgw, hb.cell hgw]; exact hc)
          have hcy := fun w => impl_nameI y w
          unfold itA at hcy
          have hc2 := fun w => less_any y.k x.k w
          cases hb2 : lessB y.k x.k
          · rw [hb2] at hc2
            have hv : Hid (okI xs m = false) := Lib.hid (okI_bad hkl (by unfold goodI; rw [getD_eq _ _ hkl, Nat.add_sub_cancel, getD_eq _ _ hjl, ← HX0.out, ← hy, hb1, hb2]; simp))
            clear hy hb1 hb2 hfy
            go_wp2_with fail
            rw [← hW]
            clear hW hbW hc0 hc0'
            refine wp_region_held_drew (S := (fun w' => Below W.heap.size W w')) (by kernel_rfl) (BW.out.drew) (fun hHeld => ?_)
            refine tk 0 (v := ?_) ?_ ?_; rotate_left
            · refine Or.inl ⟨by rfl, ?_⟩; intro w hSw; have f0 := HX.out w hSw; have f1 := HY.out w hSw; go_simp; first | done | with_reducible rfl
            refine tk0 1 ?_
            refine rd1 2 (fun K hK => ?_)
            go_simp
            go_at_call 136
            refine (hc1 _).mono ?_
            rintro e w' ⟨rfl, hbc⟩
            have hB' := hHeld.trans (hbc.mono hHeld.size)
            go_wp2_with fail
            refine hK.out _ _ (hB') (fun hHeld => ?_)
            clear hK K
            refine tk0 3 ?_
            refine tk0 4 ?_
            refine tk0 5 ?_
            refine tk0 6 ?_
            refine tk0 7 ?_
            refine tk0 8 ?_
            refine tk0 9 ?_
            refine tk0 10 ?_
            refine tk0 11 ?_
            refine tk 12 (v := ?_) ?_ ?_; rotate_left
            · refine Or.inl ⟨by rfl, ?_⟩; intro w hSw; have f0 := HX.out w hSw; have f1 := HY.out w hSw; go_simp; first | done | with_reducible rfl
            refine tk0 13 ?_
            refine tk 15 (v := ?_) ?_ ?_; rotate_left
            · refine Or.inl ⟨by rfl, ?_⟩; intro w hSw; have f0 := HX.out w hSw; have f1 := HY.out w hSw; go_simp; first | done | with_reducible rfl
            refine tk0 16 ?_
            refine rd1 14 (fun K hK => ?_)
            go_simp
            go_at_call 135
            refine (hcy _).mono ?_
            rintro e w' ⟨rfl, hbc⟩
            have hB2 := hHeld.trans (hbc.mono hHeld.size)
            go_wp2_with fail
            refine hK.out _ _ (hB2) (fun hHeld => ?_)
            clear hK K
            refine rd1 17 (fun K hK => ?_)
            go_simp
            go_at_call 135
            refine (hcx _).mono ?_
            rintro e w' ⟨rfl, hbc⟩
            have hB3 := hHeld.trans (hbc.mono hHeld.size)
            go_wp2_with fail
            refine hK.out _ _ (hB3) (fun hHeld => ?_)
            clear hK K
            refine rd1 18 (fun K hK => ?_)
            go_simp
            go_at_call 87
            refine (hc2 _).mono ?_
            rintro e w' ⟨rfl, rfl⟩
            go_wp2_with fail
            refine hK.out _ _ (hHeld) (fun hHeld => ?_)
            clear hK K
            refine tk0 19 ?_
            refine tk0 20 ?_
            refine tk0 21 ?_
            refine wpAnyH_done (by kernel_rfl) ?_ _
            clear mN mV
            go_wp2_with fail
            go_ret
            exact ⟨ret_bool (by rw [hv.out]), HbW.out.trans (hHeld.mono HbW.out.size)⟩
          · rw [hb2] at hc2
            have hg' : Hid (∀ i, i < j + 1 + 1 → goodI xs i = true) := Lib.hid (fun i hi => by
              by_cases hij : i = j + 1
              · subst hij
                unfold goodI; rw [getD_eq _ _ hkl, Nat.add_sub_cancel, getD_eq _ _ hjl, ← HX0.out, ← hy, hb1, hb2]; simp
              · exact hgood.out i (by omega))
            clear hy hb1 hb2 hfy
            go_wp2_with fail
            rw [← hW]
            clear hW hbW hc0 hc0'
            refine wp_region_held_drew (S := (fun w' => Below W.heap.size W w')) (by kernel_rfl) (BW.out.drew) (fun hHeld => ?_)
            refine tk 0 (v := ?_) ?_ ?_; rotate_left
            · refine Or.inl ⟨by rfl, ?_⟩; intro w hSw; have f0 := HX.out w hSw; have f1 := HY.out w hSw; go_simp; first | done | with_reducible rfl
            refine tk0 1 ?_
            refine rd1 2 (fun K hK => ?_)
            go_simp
            go_at_call 136
            refine (hc1 _).mono ?_
            rintro e w' ⟨rfl, hbc⟩
            have hB' := hHeld.trans (hbc.mono hHeld.size)
            go_wp2_with fail
            refine hK.out _ _ (hB') (fun hHeld => ?_)
            clear hK K
            refine tk0 3 ?_
            refine tk0 4 ?_
            refine tk0 5 ?_
            refine tk0 6 ?_
            refine tk0 7 ?_
            refine tk0 8 ?_
            refine tk0 9 ?_
            refine tk0 10 ?_
            refine tk0 11 ?_
            refine tk 12 (v := ?_) ?_ ?_; rotate_left
            · refine Or.inl ⟨by rfl, ?_⟩; intro w hSw; have f0 := HX.out w hSw; have f1 := HY.out w hSw; go_simp; first | done | with_reducible rfl
            refine tk0 13 ?_
            refine tk 15 (v := ?_) ?_ ?_; rotate_left
            · refine Or.inl ⟨by rfl, ?_⟩; intro w hSw; have f0 := HX.out w hSw; have f1 := HY.out w hSw; go_simp; first | done | with_reducible rfl
            refine tk0 16 ?_
            refine rd1 14 (fun K hK => ?_)
            go_simp
            go_at_call 135
            refine (hcy _).mono ?_
            rintro e w' ⟨rfl, hbc⟩
            have hB2 := hHeld.trans (hbc.mono hHeld.size)
            go_wp2_with fail
            refine hK.out _ _ (hB2) (fun hHeld => ?_)
            clear hK K
            refine rd1 17 (fun K hK => ?_)
            go_simp
            go_at_call 135
            refine (hcx _).mono ?_
            rintro e w' ⟨rfl, hbc⟩
            have hB3 := hHeld.trans (hbc.mono hHeld.size)
            go_wp2_with fail
            refine hK.out _ _ (hB3) (fun hHeld => ?_)
            clear hK K
            refine rd1 18 (fun K hK => ?_)
            go_simp
            go_at_call 87
            refine (hc2 _).mono ?_
            rintro e w' ⟨rfl, rfl⟩
            go_wp2_with fail
            refine hK.out _ _ (hHeld) (fun hHeld => ?_)
            clear hK K
            refine tk0 19 ?_
            refine tk0 20 ?_
            refine tk0 21 ?_
            refine wpAnyH_done (by kernel_rfl) ?_ _
            clear mN mV
            go_wp2_with fail
            go_roundw
            case rel => exact ⟨j + 1 + 1, by omega, by go_num, Lib.hid (HbW.out.trans (hHeld.mono HbW.out.size)), hg'⟩
            case measure => simp [intOf]; omega
    · have hv : Hid (okI xs m = true) := Lib.hid (by
        unfold okI
        exact decide_eq_true ⟨by have := HN.out; omega, fun i hi => hgood.out i (by have := HN.out; omega)⟩)
      go_wp2
      go_ret
      exact ⟨ret_bool (by rw [hv.out]), hbw.out⟩

/-- What an ordered list of rows is. -/
def okT (xs : List Tk) (m : Int) : Bool := decide ((xs.length : Int) ≤ m ∧ ∀ i, i < xs.length → goodT xs i = true)
theorem okT_bad {xs : List Tk} {m : Int} {k : Nat} (hk : k < xs.length) (h : goodT xs k = false) : okT xs m = false := by
  unfold okT
  simp only [decide_eq_false_iff_not]
  rintro ⟨_, h1⟩
  rw [h1 k hk] at h; cases h

set_option maxHeartbeats 4000000 in
theorem ok_talks (xs : List Tk) (v : Value) (B : Nat) (m : Int) (w : World) (hr : Raw w B v xs.length (xs.flatMap tkC)) (hB : B ≤ w.heap.size) (hf : ∀ x ∈ xs, x.c.size ≤ maxLen ∧ x.r.size ≤ maxLen) :
    Calls Tryz.prog 53 #[v, .int .i64 m] w fun e w' => e = .returned (.bool (okT xs m)) ∧ Below w.heap.size w w' := by
  obtain ⟨a, cap, rfl, hn, hcap, _, hat⟩ := hr
  obtain ⟨n, hN⟩ : ∃ n, n = xs.length := ⟨_, rfl⟩
  rw [← hN] at hn hat ⊢
  have HN := Lib.hid hN
  have Hat := Lib.hid hat
  have Hf := Lib.hid hf
  unfold maxLen at hcap
  by_cases hm : m < (n : Int)
  · have hv : Hid (okT xs m = false) := Lib.hid (by unfold okT; simp only [decide_eq_false_iff_not]; rintro ⟨h, _⟩; omega)
    clear hN hat hf
    go_enter Tryz.func53, Tryz.ntmps53
    go_wp2
    go_ret
    exact ⟨ret_bool (by rw [hv.out]), Below.refl _ _⟩
  have Hm := Lib.hid (show (n : Int) ≤ m by omega)
  have hm' : (n : Int) ≤ m := by omega
  clear hN hat hf hm
  go_enter Tryz.func53, Tryz.ntmps53
  go_wp2
  go_loopw [13] (fun i wr => ∃ k : Nat, k ≤ n ∧ i = .int .i64 k ∧ Hid (Below w.heap.size w wr) ∧ Hid (∀ i, i < k → goodT xs i = true)) (fun i _ => n - (intOf i).toNat)
  case atStart => exact ⟨0, by omega, rfl, Lib.hid (Below.refl _ _), Lib.hid (fun i h => by omega)⟩
  case round =>
    obtain ⟨k, hk, rfl, hbw, hgood⟩ := hrel
    by_cases hlt : k < n
    · obtain ⟨g, o, ha, hg, hAt⟩ := Hat.out (by omega)
      subst ha
      have hkl : k < xs.length := by have := HN.out; omega
      obtain ⟨x, hx⟩ : ∃ x, x = xs[k] := ⟨_, rfl⟩
      have hfx := Hf.out x (by rw [hx]; exact List.getElem_mem _)
      have hgw : g < w.heap.size := by omega
      have hc := hAt.talk k hkl
      rw [← hx] at hc
      simp only [← hbw.out.cell (p := ⟨g, o + k * 3, none⟩) hgw, ← hbw.out.cell (p := ⟨g, o + k * 3 + 1, none⟩) hgw, ← hbw.out.cell (p := ⟨g, o + k * 3 + 2, none⟩) hgw] at hc
      have HX0 := Lib.hid hx
      have HAt := Lib.hid hAt
      obtain ⟨W, hW⟩ : ∃ W, W = wr.alloc (.cells #[.string x.c, .int .i64 x.q, .string x.r] 65) := ⟨_, rfl⟩
      have hbW : Below wr.heap.size wr W := by rw [hW]; exact (Below.refl _ _).alloc (Nat.le_refl _) _
      have hWs : W.heap.size = wr.heap.size + 1 := by rw [hW]; simp
      have HX : Hid (∀ w', Below W.heap.size W w' → w'.cell? ⟨wr.heap.size, 0, none⟩ = some (.string x.c) ∧ w'.cell? ⟨wr.heap.size, 1, none⟩ = some (.int .i64 x.q) ∧ w'.cell? ⟨wr.heap.size, 2, none⟩ = some (.string x.r)) := Lib.hid (fun w' h => by
        rw [h.cell (show wr.heap.size < W.heap.size by omega), h.cell (show wr.heap.size < W.heap.size by omega), h.cell (show wr.heap.size < W.heap.size by omega), hW, World.cell?_alloc_new, World.cell?_alloc_new, World.cell?_alloc_new]; exact ⟨rfl, rfl, rfl⟩)
      have BW : Hid (Below W.heap.size W W) := Lib.hid (Below.refl _ _)
      have HbW : Hid (Below w.heap.size w W) := Lib.hid (hbw.out.trans (hbW.mono hbw.out.size))
      have hc1 := fun w => impl_validT x w hfx
      have hcx := fun w => impl_nameT x w
      unfold tkA at hc1 hcx
      have mN := meth_nameT
      have mV := meth_validT
      obtain ⟨hc0, hc0', hc0''⟩ := hc
      clear hx hAt Hat hfx hgw hWs
      cases hb1 : tkOk x
      · rw [hb1] at hc1
        have hv : Hid (okT xs m = false) := Lib.hid (okT_bad hkl (by unfold goodT; rw [getD_eq _ _ hkl, ← HX0.out, hb1]; rfl))
        clear hb1
        go_wp2_with fail
        rw [← hW]
        clear hW hbW hc0 hc0' hc0''
        refine wp_region_held_drew (S := (fun w' => Below W.heap.size W w')) (by kernel_rfl) (BW.out.drew) (fun hHeld => ?_)
        refine tk 0 (v := ?_) ?_ ?_; rotate_left
        · refine Or.inl ⟨by rfl, ?_⟩; intro w hSw; have f0 := HX.out w hSw; go_simp; first | done | with_reducible rfl
        refine tk0 1 ?_
        refine rd1 2 (fun K hK => ?_)
        go_simp
        go_at_call 141
        refine (hc1 _).mono ?_
        rintro e w' ⟨rfl, hbc⟩
        have hB' := hHeld.trans (hbc.mono hHeld.size)
        go_wp2_with fail
        refine hK.out _ _ (hB') (fun hHeld => ?_)
        clear hK K
        refine tk0 3 ?_
        refine tk0 4 ?_
        refine tku 5 ?_
        refine tku 6 ?_
        refine tku 7 ?_
        refine tku 8 ?_
        refine tku 9 ?_
        refine tku 10 ?_
        refine tku 11 ?_
        refine tku 12 ?_
        refine tku 13 ?_
        refine tku 14 ?_
        refine tku 15 ?_
        refine tku 16 ?_
        refine tku 17 ?_
        refine tku 18 ?_
        refine tku 19 ?_
        refine tku 20 ?_
        refine tk0 21 ?_
        refine wpAnyH_done (by kernel_rfl) ?_ _
        clear mN mV
        go_wp2_with fail
        go_ret
        exact ⟨ret_bool (by rw [hv.out]), HbW.out.trans (hHeld.mono HbW.out.size)⟩
      · rw [hb1] at hc1
        rcases Nat.eq_zero_or_pos k with hk0 | hk0
        · have hnk : ¬ 0 < k := by omega
          have hdec : decide ((0 : Int) < (k : Int)) = false := by simp; omega
          have hg' : Hid (∀ i, i < k + 1 → goodT xs i = true) := Lib.hid (fun i hi => by
            obtain rfl : i = k := by omega
            unfold goodT; rw [getD_eq _ _ hkl, ← HX0.out, hb1, hk0]; rfl)
          clear hb1 hk0
          go_wp2_with fail
          rw [← hW]
          clear hW hbW hc0 hc0' hc0''
          refine wp_region_held_drew (S := (fun w' => Below W.heap.size W w')) (by kernel_rfl) (BW.out.drew) (fun hHeld => ?_)
          refine tk 0 (v := ?_) ?_ ?_; rotate_left
          · refine Or.inl ⟨by rfl, ?_⟩; intro w hSw; have f0 := HX.out w hSw; go_simp; first | done | with_reducible rfl
          refine tk0 1 ?_
          refine rd1 2 (fun K hK => ?_)
          go_simp
          go_at_call 141
          refine (hc1 _).mono ?_
          rintro e w' ⟨rfl, hbc⟩
          have hB' := hHeld.trans (hbc.mono hHeld.size)
          go_wp2_with fail
          refine hK.out _ _ (hB') (fun hHeld => ?_)
          clear hK K
          refine tk0 3 ?_
          refine tk0 4 ?_
          refine tk0 5 ?_
          refine tk0 6 ?_
          refine tk0 7 ?_
          refine tku 8 ?_
          refine tku 9 ?_
          refine tku 10 ?_
          refine tku 11 ?_
          refine tku 12 ?_
          refine tku 13 ?_
          refine tku 14 ?_
          refine tku 15 ?_
          refine tku 16 ?_
          refine tku 17 ?_
          refine tku 18 ?_
          refine tku 19 ?_
          refine tk0 20 ?_
          refine tk0 21 ?_
          refine wpAnyH_done (by kernel_rfl) ?_ _
          clear mN mV
          go_wp2_with fail
          go_roundw
          case rel => exact ⟨k + 1, by omega, by go_num, Lib.hid (HbW.out.trans (hHeld.mono HbW.out.size)), hg'⟩
          case measure => simp [intOf]; omega
        · obtain ⟨j, rfl⟩ : ∃ j, k = j + 1 := ⟨k - 1, by omega⟩
          have hjl : j < xs.length := by omega
          have e0 : (0 : Int) ≤ (j : Int) + 1 := by omega
          have e1 : (j : Int) + 1 < (n : Int) := by omega
          have e2 : (j : Int) < (n : Int) := by omega
          have e3 : ((j : Int) + 1).toNat = j + 1 := by omega
          have e4 : IntKind.i64.wrap (j : Int) = (j : Int) := by rw [IntKind.wrap_i64]; omega
          obtain ⟨y, hy⟩ : ∃ y, y = xs[j] := ⟨_, rfl⟩
          have hfy := Hf.out y (by rw [hy]; exact List.getElem_mem _)
          have HY : Hid (∀ w', Below W.heap.size W w' → w'.cell? ⟨g, o + j * 3, none⟩ = some (.string y.c) ∧ w'.cell? ⟨g, o + j * 3 + 1, none⟩ = some (.int .i64 y.q) ∧ w'.cell? ⟨g, o + j * 3 + 2, none⟩ = some (.string y.r)) := Lib.hid (fun w' h => by
            have hb := HbW.out.trans (h.mono HbW.out.size)
            have hgw : g < w.heap.size := Nat.lt_of_lt_of_le hg hB
            have hc := HAt.out.talk j hjl
            rw [← hy] at hc
            rw [hb.cell hgw, hb.cell hgw, hb.cell hgw]; exact hc)
          have hcy := fun w => impl_nameT y w
          unfold tkA at hcy
          have hc2 := fun w => less_any y.c x.c w
          cases hb2 : lessB y.c x.c
          · rw [hb2] at hc2
            have hv : Hid (okT xs m = false) := Lib.hid (okT_bad hkl (by unfold goodT; rw [getD_eq _ _ hkl, Nat.add_sub_cancel, getD_eq _ _ hjl, ← HX0.out, ← hy, hb1, hb2]; simp))
            clear hy hb1 hb2 hfy
            go_wp2_with fail
            rw [← hW]
            clear hW hbW hc0 hc0' hc0''
            refine wp_region_held_drew (S := (fun w' => Below W.heap.size W w')) (by kernel_rfl) (BW.out.drew) (fun hHeld => ?_)
            refine tk 0 (v := ?_) ?_ ?_; rotate_left
            · refine Or.inl ⟨by rfl, ?_⟩; intro w hSw; have f0 := HX.out w hSw; have f1 := HY.out w hSw; go_simp; first | done | with_reducible rfl
            refine tk0 1 ?_
            refine rd1 2 (fun K hK => ?_)
            go_simp
            go_at_call 141
            refine (hc1 _).mono ?_
            rintro e w' ⟨rfl, hbc⟩
            have hB' := hHeld.trans (hbc.mono hHeld.size)
            go_wp2_with fail
            refine hK.out _ _ (hB') (fun hHeld => ?_)
            clear hK K
            refine tk0 3 ?_
            refine tk0 4 ?_
            refine tk0 5 ?_
            refine tk0 6 ?_
            refine tk0 7 ?_
            refine tk0 8 ?_
            refine tk0 9 ?_
            refine tk0 10 ?_
            refine tk0 11 ?_
            refine tk 12 (v := ?_) ?_ ?_; rotate_left
            · refine Or.inl ⟨by rfl, ?_⟩; intro w hSw; have f0 := HX.out w hSw; have f1 := HY.out w hSw; go_simp; first | done | with_reducible rfl
            refine tk0 13 ?_
            refine tk 15 (v := ?_) ?_ ?_; rotate_left
            · refine Or.inl ⟨by rfl, ?_⟩; intro w hSw; have f0 := HX.out w hSw; have f1 := HY.out w hSw; go_simp; first | done | with_reducible rfl
            refine tk0 16 ?_
            refine rd1 14 (fun K hK => ?_)
            go_simp
            go_at_call 140
            refine (hcy _).mono ?_
            rintro e w' ⟨rfl, hbc⟩
            have hB2 := hHeld.trans (hbc.mono hHeld.size)
            go_wp2_with fail
            refine hK.out _ _ (hB2) (fun hHeld => ?_)
            clear hK K
            refine rd1 17 (fun K hK => ?_)
            go_simp
            go_at_call 140
            refine (hcx _).mono ?_
            rintro e w' ⟨rfl, hbc⟩
            have hB3 := hHeld.trans (hbc.mono hHeld.size)
            go_wp2_with fail
            refine hK.out _ _ (hB3) (fun hHeld => ?_)
            clear hK K
            refine rd1 18 (fun K hK => ?_)
            go_simp
            go_at_call 87
            refine (hc2 _).mono ?_
            rintro e w' ⟨rfl, rfl⟩
            go_wp2_with fail
            refine hK.out _ _ (hHeld) (fun hHeld => ?_)
            clear hK K
            refine tk0 19 ?_
            refine tk0 20 ?_
            refine tk0 21 ?_
            refine wpAnyH_done (by kernel_rfl) ?_ _
            clear mN mV
            go_wp2_with fail
            go_ret
            exact ⟨ret_bool (by rw [hv.out]), HbW.out.trans (hHeld.mono HbW.out.size)⟩
          · rw [hb2] at hc2
            have hg' : Hid (∀ i, i < j + 1 + 1 → goodT xs i = true) := Lib.hid (fun i hi => by
              by_cases hij : i = j + 1
              · subst hij
                unfold goodT; rw [getD_eq _ _ hkl, Nat.add_sub_cancel, getD_eq _ _ hjl, ← HX0.out, ← hy, hb1, hb2]; simp
              · exact hgood.out i (by omega))
            clear hy hb1 hb2 hfy
            go_wp2_with fail
            rw [← hW]
            clear hW hbW hc0 hc0' hc0''
            refine wp_region_held_drew (S := (fun w' => Below W.heap.size W w')) (by kernel_rfl) (BW.out.drew) (fun hHeld => ?_)
            refine tk 0 (v := ?_) ?_ ?_; rotate_left
            · refine Or.inl ⟨by rfl, ?_⟩; intro w hSw; have f0 := HX.out w hSw; have f1 := HY.out w hSw; go_simp; first | done | with_reducible rfl
            refine tk0 1 ?_
            refine rd1 2 (fun K hK => ?_)
            go_simp
            go_at_call 141
            refine (hc1 _).mono ?_
            rintro e w' ⟨rfl, hbc⟩
            have hB' := hHeld.trans (hbc.mono hHeld.size)
            go_wp2_with fail
            refine hK.out _ _ (hB') (fun hHeld => ?_)
            clear hK K
            refine tk0 3 ?_
            refine tk0 4 ?_
            refine tk0 5 ?_
            refine tk0 6 ?_
            refine tk0 7 ?_
            refine tk0 8 ?_
            refine tk0 9 ?_
            refine tk0 10 ?_
            refine tk0 11 ?_
            refine tk 12 (v := ?_) ?_ ?_; rotate_left
            · refine Or.inl ⟨by rfl, ?_⟩; intro w hSw; have f0 := HX.out w hSw; have f1 := HY.out w hSw; go_simp; first | done | with_reducible rfl
            refine tk0 13 ?_
            refine tk 15 (v := ?_) ?_ ?_; rotate_left
            · refine Or.inl ⟨by rfl, ?_⟩; intro w hSw; have f0 := HX.out w hSw; have f1 := HY.out w hSw; go_simp; first | done | with_reducible rfl
            refine tk0 16 ?_
            refine rd1 14 (fun K hK => ?_)
            go_simp
            go_at_call 140
            refine (hcy _).mono ?_
            rintro e w' ⟨rfl, hbc⟩
            have hB2 := hHeld.trans (hbc.mono hHeld.size)
            go_wp2_with fail
            refine hK.out _ _ (hB2) (fun hHeld => ?_)
            clear hK K
            refine rd1 17 (fun K hK => ?_)
            go_simp
            go_at_call 140
            refine (hcx _).mono ?_
            rintro e w' ⟨rfl, hbc⟩
            have hB3 := hHeld.trans (hbc.mono hHeld.size)
            go_wp2_with fail
            refine hK.out _ _ (hB3) (fun hHeld => ?_)
            clear hK K
            refine rd1 18 (fun K hK => ?_)
            go_simp
            go_at_call 87
            refine (hc2 _).mono ?_
            rintro e w' ⟨rfl, rfl⟩
            go_wp2_with fail
            refine hK.out _ _ (hHeld) (fun hHeld => ?_)
            clear hK K
            refine tk0 19 ?_
            refine tk0 20 ?_
            refine tk0 21 ?_
            refine wpAnyH_done (by kernel_rfl) ?_ _
            clear mN mV
            go_wp2_with fail
            go_roundw
            case rel => exact ⟨j + 1 + 1, by omega, by go_num, Lib.hid (HbW.out.trans (hHeld.mono HbW.out.size)), hg'⟩
            case measure => simp [intOf]; omega
    · have hv : Hid (okT xs m = true) := Lib.hid (by
        unfold okT
        exact decide_eq_true ⟨by have := HN.out; omega, fun i hi => hgood.out i (by have := HN.out; omega)⟩)
      go_wp2
      go_ret
      exact ⟨ret_bool (by rw [hv.out]), hbw.out⟩

theorem stOk_ok (s : St) : stOk s = (okI s.items 40 && okT s.talks 20) := by
  unfold stOk okI okT
  rw [Bool.eq_iff_iff]
  simp only [decide_eq_true_eq, Bool.and_eq_true]
  constructor
  · rintro ⟨h1, h2, h3, h4⟩; exact ⟨⟨by omega, h1⟩, by omega, h2⟩
  · rintro ⟨⟨h1, h2⟩, h3, h4⟩; exact ⟨h2, h4, by omega, by omega⟩
theorem impl_stateOk : ImplStateOk := by
  intro s v B w hs hB hf
  obtain ⟨vi, vt, rfl, hri, hrt⟩ := hs.rd
  obtain ⟨W, hW⟩ : ∃ W, W = w.alloc (.cells #[vi, vt] 27) := ⟨_, rfl⟩
  have hbW : Below w.heap.size w W := by rw [hW]; exact (Below.refl _ _).alloc (Nat.le_refl _) _
  have hWs : W.heap.size = w.heap.size + 1 := by rw [hW]; simp
  have HV : Hid (∀ w', Below W.heap.size W w' → w'.cell? ⟨w.heap.size, 0, none⟩ = some vi ∧ w'.cell? ⟨w.heap.size, 1, none⟩ = some vt) := Lib.hid (fun w' h => by
    rw [h.cell (show w.heap.size < W.heap.size by omega), h.cell (show w.heap.size < W.heap.size by omega), hW, World.cell?_alloc_new, World.cell?_alloc_new]; exact ⟨rfl, rfl⟩)
  have hc0 := ok_items s.items vi B 40 W (hri.later (hbW.mono hB) (Nat.le_refl _)) (Nat.le_trans hB hbW.size) hf.1
  have HT := Lib.hid (fun w' (h : Below W.heap.size W w') => hrt.later (B' := B) ((hbW.trans (h.mono hbW.size)).mono hB) (Nat.le_refl _))
  have hft : ∀ x ∈ s.talks, x.c.size ≤ maxLen ∧ x.r.size ≤ maxLen := fun x hx => ⟨(hf.2 x hx).1, (hf.2 x hx).2.1⟩
  have Hft := Lib.hid hft
  have hval := Lib.hid (stOk_ok s)
  have HbW := Lib.hid hbW
  rw [hW] at hc0
  clear hri hrt hft hf hs hWs hbW
  cases hI : okI s.items 40
  · rw [hI] at hc0
    have hv : Hid (stOk s = false) := Lib.hid (by rw [hval.out, hI, Bool.false_and])
    clear hI
    go_enter Tryz.func23, Tryz.ntmps23
    go_wp2_with (go_at_call 52; refine hc0.mono ?_; rintro e w1 ⟨rfl, hb1⟩; refine Hid.out ?_)
    refine Lib.hid ?_
    rw [← hW] at hb1
    have hb2 := HbW.out.trans (hb1.mono HbW.out.size)
    clear hc0 hW
    go_wp2_with fail
    go_ret
    exact ⟨ret_bool (by rw [hv.out]), hb2⟩
  · rw [hI] at hc0
    have hv : Hid (stOk s = okT s.talks 20) := Lib.hid (by rw [hval.out, hI, Bool.true_and])
    clear hI
    go_enter Tryz.func23, Tryz.ntmps23
    go_wp2_with (go_at_call 52; refine hc0.mono ?_; rintro e w1 ⟨rfl, hb1⟩; refine Hid.out ?_)
    refine Lib.hid ?_
    rw [← hW] at hb1
    have hb2 := Lib.hid (HbW.out.trans (hb1.mono HbW.out.size))
    have hc1 := ok_talks s.talks vt B 20 w1 (HT.out w1 hb1) (Nat.le_trans hB hb2.out.size) Hft.out
    obtain ⟨v0, v1⟩ := HV.out w1 hb1
    clear hc0 hW hb1
    go_wp2_with (go_at_call 53; refine hc1.mono ?_; rintro e w2 ⟨rfl, hb3⟩; refine Hid.out ?_)
    refine Lib.hid ?_
    have hb4 := hb2.out.trans (hb3.mono hb2.out.size)
    clear hc1 v0 v1
    go_wp2_with fail
    go_ret
    exact ⟨ret_bool (by rw [hv.out]), hb4⟩
end Go.Proofs.YtdpjdjkfedcojaaGreat
