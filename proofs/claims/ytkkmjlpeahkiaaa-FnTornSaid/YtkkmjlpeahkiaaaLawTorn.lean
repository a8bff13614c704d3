/- The law FnTorn: whatever a crash leaves of entries, the first ones come back whole, and no others. Condition: none. -/
import Derived.Test.YtkkmjlpeahkiaaaTorn
import Derived.Test.YtkkmjlpeahkiaaaImplDsk
import Derived.Test.YtkkmjlpeahkiaaaImplRec
import Derived.Test.YtkkmjlpeahkiaaaSpecRec
import Derived.Test.YtkkmjlpeahkiaaaAtD
import Derived.Test.YtkkmjlpeahkiaaaDec
import Derived.Test.YtkkmjlpeahkiaaaBig
import Derived.Test.YtkkmjlpeahkiaaaTk
import Derived.Deep.CutBlock
import Derived.Deep.DeepCutAuto
import Derived.Lib.ItoaLen
namespace Go.Proofs.Ytkkmjlpeahkiaaa
open Go.RowKit
set_option linter.unusedVariables false
set_option linter.unusedSimpArgs false

theorem textsD_off1 {w : World} {base g i : Nat} {v x : Value} {E : List ByteArray} (h : Texts w base v E) (hk : ∀ k, v.ownBlock = some k → k ≠ g) : Texts (w.setCell ⟨g, i, none⟩ x) base v E := by
  obtain ⟨hl, ⟨hv, h0⟩ | ⟨b, cap, cur, hv, hgb, r⟩⟩ := id h
  · exact ⟨hl, .inl ⟨hv, h0⟩⟩
  · have h' : w.ownsRow base 9 1 v E.length (E.map Value.string) := h
    have hne := hk b (by rw [hv]; rfl)
    show (w.setCell ⟨g, i, none⟩ x).ownsRow base 9 1 v E.length (E.map Value.string)
    rw [hv] at h' ⊢
    exact h'.kept (grown_set w ⟨g, i, none⟩ x) (Or.inr (by simp [Value.ownBlock]; exact hne))
theorem textsD_offs {w : World} {base g : Nat} {v x y z u : Value} {E : List ByteArray} (h : Texts w base v E) (hk : ∀ k, v.ownBlock = some k → k ≠ g) :
    Texts ((((w.setCell ⟨g, 0, none⟩ x).setCell ⟨g, 1, none⟩ y).setCell ⟨g, 2, none⟩ z).setCell ⟨g, 3, none⟩ u) base v E :=
  textsD_off1 (textsD_off1 (textsD_off1 (textsD_off1 h hk) hk) hk) hk
set_option maxRecDepth 100000 in
set_option maxHeartbeats 8000000 in
theorem law_torn (a : Option Addr) (len cap : Nat) (zs : List Int) (w : World) (hr : IsRow .u8 w a len cap zs) :
    Calls Try.prog 15 #[.slice a len cap] w fun e w' => e = .returned (.bool true) ∧ Below w.heap.size w w' := by
  have hr := row8_of hr
  by_cases hbig : 1048576 < len
  · have hd : decide (1048576 < len) = true := by simpa using hbig
    go_enter Try.func15, Try.ntmps15
    go_wp2_with (go_at_call 41; refine (big_any _ _ _ _).mono ?_; rintro e w' ⟨rfl, rfl⟩)
    go_ret
    exact ⟨rfl, Below.refl _ _⟩
  have hd : decide (1048576 < len) = false := by simpa using hbig
  have hlen : len ≤ 1048576 := by omega
  have Hr8 := Lib.hid hr
  have BB : Hid (Below w.heap.size w w) := Lib.hid (Below.refl _ _)
  go_enter Try.func15, Try.ntmps15
  go_wp2_with (go_at_call 41; refine (big_any _ _ _ _).mono ?_; rintro e w' ⟨rfl, rfl⟩; refine Hid.out ?_)
  refine Lib.hid ?_
  clear hd hbig hr
  obtain ⟨x0, hx0, Jx0⟩ := atD_the a len cap zs 0 (by omega) w Hr8.out hlen
  have Kx0 := Lib.hid Jx0
  clear Jx0
  obtain ⟨x1, hx1, Jx1⟩ := atD_the a len cap zs 1 (by omega) w Hr8.out hlen
  have Kx1 := Lib.hid Jx1
  clear Jx1
  obtain ⟨y9, hy9, Jy9⟩ := atD_the a len cap zs 9 (by omega) w Hr8.out hlen
  have Ky9 := Lib.hid Jy9
  clear Jy9
  obtain ⟨n0, hn0⟩ : ∃ n, n = x0 % 6 := ⟨_, rfl⟩
  have htn0 : (x0 : Int).tmod 6 = (n0 : Int) := by rw [Int.tmod_eq_emod_of_nonneg (by omega), hn0]; rfl
  have h5n0 : n0 ≤ 5 := by omega
  clear hn0
  obtain ⟨m0, hm0⟩ : ∃ n, n = x1 % 6 := ⟨_, rfl⟩
  have htm0 : (x1 : Int).tmod 6 = (m0 : Int) := by rw [Int.tmod_eq_emod_of_nonneg (by omega), hm0]; rfl
  have h5m0 : m0 ≤ 5 := by omega
  clear hm0
  obtain ⟨X, hX⟩ : ∃ z, z = (w.alloc (.cells #[.int .i64 4000, .string ⟨#[]⟩, .string ⟨#[]⟩, .string ⟨#[]⟩] 26)).alloc (.cells #[] 9) := ⟨_, rfl⟩
  replace BB : Hid (Below w.heap.size w X) := Lib.hid (by rw [hX]; exact ((Below.refl _ _).alloc (Nat.le_refl _) _).alloc (by simp) _)
  have KD : Hid (X.heap[w.heap.size]? = some (.cells #[.int .i64 4000, .string ⟨#[]⟩, .string (catB (([] : List ByteArray).take 0)), .string (catB (([] : List ByteArray).drop 0))] 26 (0, 0))) := Lib.hid (by rw [hX, Below.heap_alloc _ _ _ (by simp)]; exact heap_new _ _)
  have T0 : Hid (Texts X (w.heap.size + 1) (.slice (some ⟨w.heap.size + 1, 0, none⟩) 0 0) []) := Lib.hid (by rw [hX]; simpa using Texts.empty (w.alloc (.cells #[.int .i64 4000, .string ⟨#[]⟩, .string ⟨#[]⟩, .string ⟨#[]⟩] 26)) (w.heap.size + 1) (by simp))
  have hc := Kx0.out X (Hr8.out.later BB.out)
  have hc2 := Kx1.out X (Hr8.out.later BB.out)
  rw [hX] at hc hc2
  go_wp2_with (go_at_call 44; refine hc.mono ?_; rintro e w1 ⟨rfl, rfl⟩; refine Hid.out ?_)
  refine Lib.hid ?_
  go_wp2_with (go_at_call 44; refine hc2.mono ?_; rintro e w1 ⟨rfl, rfl⟩; refine Hid.out ?_)
  refine Lib.hid ?_
  go_wp2_with fail
  rw [← hX]
  clear hc hc2 hX htn0 htm0 hx0 hx1
  go_loopw [4, 7] (fun out i wr => ∃ (k c : Nat) (ts : List ByteArray), k ≤ n0 + m0 ∧ i = .int .i64 k ∧ Hid (Texts wr (w.heap.size + 1) out ts) ∧ ts.length = k ∧ Hid (∀ x ∈ ts, x.size ≤ 21) ∧ c ≤ k ∧ Hid (0 < n0 → n0 ≤ k → c = n0) ∧ Hid (wr.heap[w.heap.size]? = some (.cells #[.int .i64 4000, .string ⟨#[]⟩, .string (catB (ts.take c)), .string (catB (ts.drop c))] 26 (0, 0))) ∧ Hid (Below w.heap.size w wr)) (fun _ i _ => n0 + m0 - (intOf i).toNat)
  case atStart => exact ⟨0, 0, [], by omega, rfl, T0, rfl, Lib.hid (fun x hx => by cases hx), Nat.le_refl _, Lib.hid (fun h1 h2 => by omega), KD, BB⟩
  case round =>
    clear T0 KD BB
    obtain ⟨k, c, ts, hk, rfl, TS, hl, HSZ, hc, HCN, KD, BB⟩ := hrel
    have LD : Hid (w.heap.size < wr.heap.size) := Lib.hid (lt_of_block KD.out)
    have HL := Lib.hid hl
    clear hl
    by_cases hlt : k < n0 + m0
    · have hlt' : (k : Int) < (n0 : Int) + (m0 : Int) := by omega
      have hk10 : k ≤ 9 := by omega
      obtain ⟨x2, hx2, Kx2⟩ := atD_the a len cap zs (k + 2) (by omega) w Hr8.out hlen
      have kcx2 := Kx2 wr (Hr8.out.later BB.out)
      rw [show ((k + 2 : Nat) : Int) = (k : Int) + 2 by omega] at kcx2
      clear Kx2
      obtain ⟨x3, hx3, Kx3⟩ := atD_the a len cap zs (k + 3) (by omega) w Hr8.out hlen
      have kcx3 := Kx3 wr (Hr8.out.later BB.out)
      rw [show ((k + 3 : Nat) : Int) = (k : Int) + 3 by omega] at kcx3
      clear Kx3
      obtain ⟨P, hP⟩ : ∃ P : Nat, P = x2 * x3 := ⟨_, rfl⟩
      have hPb : P ≤ 65025 := by rw [hP]; exact Nat.mul_le_mul (show x2 ≤ 255 by omega) (show x3 ≤ 255 by omega)
      have hwP : IntKind.i64.wrap ((x2 : Int) * (x3 : Int)) = (P : Int) := by
        rw [show (x2 : Int) * (x3 : Int) = (P : Int) by rw [hP]; push_cast; rfl, IntKind.wrap_i64]
        omega
      clear hP
      have kd := spec_decText (P : Int) (by omega) (by omega) wr
      obtain ⟨s, hs⟩ : ∃ s : ByteArray, s = ⟨(Lib.itoa (P : Int)).toArray⟩ := ⟨_, rfl⟩
      have hsz : s.size ≤ 21 := by have h := Lib.itoa_length_le (P : Int) (by omega) (by omega); rw [hs]; show (Lib.itoa (P : Int)).toArray.size ≤ 21; simp; omega
      rw [← hs] at kd
      clear hs
      go_wp2_with (go_at_call 44; refine kcx2.mono ?_; rintro e w1 ⟨rfl, rfl⟩; refine Hid.out ?_)
      refine Lib.hid ?_
      go_wp2_with (go_at_call 44; refine kcx3.mono ?_; rintro e w1 ⟨rfl, rfl⟩; refine Hid.out ?_)
      refine Lib.hid ?_
      go_wp2_with (go_at_call 49; refine kd.mono ?_; rintro e w1 ⟨rfl, rfl⟩; refine Hid.out ?_)
      refine Lib.hid ?_
      clear kcx2 kcx3 kd hwP hPb
      have kA := fun w => impl_append (torD ts c) s w (dsk_sm (tor_ok c HSZ.out (by have := HL.out; omega))) (by omega)
      rw [tor_app HSZ.out (by have := HL.out; omega) hsz (by have := HL.out; omega)] at kA
      have HSZ2 : Hid (∀ x ∈ ts ++ [s], x.size ≤ 21) := Lib.hid (fun x hx => by rcases List.mem_append.1 hx with h | h; exact HSZ.out x h; rw [List.mem_singleton.1 h]; exact hsz)
      have HL2 : Hid ((ts ++ [s]).length = k + 1) := Lib.hid (by rw [List.length_append, HL.out]; rfl)
      have kY := fun w => impl_sync (torD (ts ++ [s]) c) w (dsk_sm (tor_ok c HSZ2.out (by have := HL2.out; omega)))
      rw [tor_sync HSZ2.out (by have := HL2.out; omega)] at kY
      unfold torD dskV at kA kY
      dsimp only at kA kY
      obtain ⟨q1, hq1⟩ : ∃ q, q = catB (ts.take c) := ⟨_, rfl⟩
      obtain ⟨q2, hq2⟩ : ∃ q, q = catB (ts.drop c) := ⟨_, rfl⟩
      rw [← hq1, ← hq2] at kA KD
      clear hq1 hq2
      obtain ⟨q3, hq3⟩ : ∃ q, q = catB ((ts ++ [s]).take c) := ⟨_, rfl⟩
      obtain ⟨q4, hq4⟩ : ∃ q, q = catB ((ts ++ [s]).drop c) := ⟨_, rfl⟩
      rw [← hq3, ← hq4] at kA kY
      have HQ3 := Lib.hid hq3
      have HQ4 := Lib.hid hq4
      clear hq3 hq4
      obtain ⟨q5, hq5⟩ : ∃ q, q = catB ((ts ++ [s]).take (ts ++ [s]).length) := ⟨_, rfl⟩
      obtain ⟨q6, hq6⟩ : ∃ q, q = catB ((ts ++ [s]).drop (ts ++ [s]).length) := ⟨_, rfl⟩
      rw [← hq5, ← hq6] at kY
      have HQ5 := Lib.hid hq5
      have HQ6 := Lib.hid hq6
      clear hq5 hq6
      have hc := kA wr
      have fD0 := tcr KD 0
      have fD1 := tcr KD 1
      have fD2 := tcr KD 2
      have fD3 := tcr KD 3
      go_wp2_with (go_at_call 26; refine hc.mono ?_; rintro e w2 ⟨rfl, hb⟩; refine Hid.out ?_)
      refine Lib.hid ?_
      replace KD := tkb hb LD KD
      replace LD := tlz LD hb.size
      replace TS := Lib.hid (TS.out.later hb)
      replace BB := tbt BB hb
      clear hc hb fD0 fD1 fD2 fD3
      obtain ⟨X1, hX1⟩ : ∃ z, z = w2.alloc (.cells #[.int .i64 4000, .string ⟨#[]⟩, .string q3, .string q4] 26) := ⟨_, rfl⟩
      have hb : Below w2.heap.size w2 X1 := by rw [hX1]; exact (Below.refl _ _).alloc (Nat.le_refl _) _
      replace KD := tkb hb LD KD
      replace LD := tlz LD hb.size
      replace TS := Lib.hid (TS.out.later hb)
      replace BB := tbt BB hb
      have KE : Hid (X1.heap[w2.heap.size]? = some (.cells #[.int .i64 4000, .string ⟨#[]⟩, .string q3, .string q4] 26 (0, 0))) := Lib.hid (by rw [hX1]; exact heap_new _ _)
      have LE : Hid (w2.heap.size < X1.heap.size) := Lib.hid (by rw [hX1]; simp)
      clear hb
      obtain ⟨Y, hY⟩ : ∃ Y, Y = (((X1.setCell ⟨w.heap.size, 0, none⟩ (.int .i64 4000)).setCell ⟨w.heap.size, 1, none⟩ (.string ⟨#[]⟩)).setCell ⟨w.heap.size, 2, none⟩ (.string q3)).setCell ⟨w.heap.size, 3, none⟩ (.string q4) := ⟨_, rfl⟩
      have KY : Hid (Y.heap[w.heap.size]? = some (.cells #[.int .i64 4000, .string ⟨#[]⟩, .string q3, .string q4] 26 (0, 0))) := Lib.hid (by rw [hY]; exact storeD KD.out)
      have TY_ := textsD_store (x := .int .i64 4000) (y := .string ⟨#[]⟩) (z := .string q3) (u := .string q4) TS.out (Nat.lt_succ_self _)
      rw [← hY] at TY_
      have BY : Hid (Below w.heap.size w Y) := Lib.hid (by rw [hY]; exact belowD BB.out (Nat.le_refl _))
      have LY : Hid (w.heap.size < Y.heap.size) := Lib.hid (lt_of_block KY.out)
      have TYK := Lib.hid TY_
      obtain ⟨i0, hi, hz0, hz1, hz2⟩ := info_parts infoTxt
      have hlen9 : ts.length + 1 ≤ 20 := by have := HL.out; omega
      have fD0 := tcr KD 0
      have fD1 := tcr KD 1
      have fD2 := tcr KD 2
      have fD3 := tcr KD 3
      have fE0 := tcr KE 0
      have fE1 := tcr KE 1
      have fE2 := tcr KE 2
      have fE3 := tcr KE 3
      have zD0 := tfr KD 0
      have zD1 := tfr KD 1
      have zD2 := tfr KD 2
      have zD3 := tfr KD 3
      clear TY_
      rw [hX1] at fD0 fD1 fD2 fD3 fE0 fE1 fE2 fE3 zD0 zD1 zD2 zD3
      have HYY := Lib.hid hY
      have HX1 := Lib.hid hX1
      clear hY hX1
      go_upto_region 15 with fail
      rw [← HX1.out, ← HYY.out]
      clear fD0 fD1 fD2 fD3 fE0 fE1 fE2 fE3 zD0 zD1 zD2 zD3
      have TY_ := TYK.out
      have hlY := LY.out
      go_wp2_with (at_builtin; refine wpList_append_own _ rfl _ _ 38 rfl (w.heap.size + 1) 9 i0 (.string ⟨#[]⟩) 1 16 Try.underlying38 hi hz0 hz1 hz2 rfl (by decide) _ _ _ rfl (World.ownsRow.alloc TY_ _) ⟨_, 0, none⟩ 1 1 [.string s] rfl rfl (cell_one_new _ _ _) (by simp [Value.oneCell']) (by unfold maxLen; omega) (by omega) (by simp; omega) ?_; intro v' w3 hown' hgrow _; refine Hid.out ?_)
      refine Lib.hid ?_
      clear HYY HX1 TY_
      have hown := TYK.out.own
      have K3 : Hid (w3.heap[w.heap.size]? = some (.cells #[.int .i64 4000, .string ⟨#[]⟩, .string q3, .string q4] 26 (0, 0))) := Lib.hid ((hgrow.block w.heap.size (by simp; omega) (fun h => by have := hown _ h.symm; omega)).trans ((Below.heap_alloc _ _ _ hlY).trans KY.out))
      have B3 := Lib.hid (Texts.grown (textsD_lower TYK.out (Nat.le_succ _)) BY.out BY.out.size hgrow)
      have T3 := Lib.hid (Texts.snoc hown')
      have L3 : Hid (w.heap.size < w3.heap.size) := Lib.hid (lt_of_block K3.out)
      clear hgrow hown' hown hlY TYK KY BY LY KD BB TS LD KE LE
      by_cases heq : k + 1 = n0
      · have hb1 : (((k : Int) + 1) == (n0 : Int)) = true := by rw [beq_iff_eq]; omega
        have HEQ := Lib.hid heq
        clear heq
        have KD := K3
        have LD := L3
        have BB := B3
        clear K3 L3 B3
        have hc := kY w3
        have fD0 := tcr KD 0
        have fD1 := tcr KD 1
        have fD2 := tcr KD 2
        have fD3 := tcr KD 3
        go_wp2_with (go_at_call 29; refine hc.mono ?_; rintro e w4 ⟨rfl, hb⟩; refine Hid.out ?_)
        refine Lib.hid ?_
        replace KD := tkb hb LD KD
        replace LD := tlz LD hb.size
        replace T3 := Lib.hid (T3.out.later hb)
        replace BB := tbt BB hb
        clear hc hb fD0 fD1 fD2 fD3
        have fD0 := tcr KD 0
        have fD1 := tcr KD 1
        have fD2 := tcr KD 2
        have fD3 := tcr KD 3
        have zD0 := tfr KD 0
        have zD1 := tfr KD 1
        have zD2 := tfr KD 2
        have zD3 := tfr KD 3
        go_wp2_with fail
        go_roundw
        case rel => exact ⟨k + 1, (ts ++ [s]).length, ts ++ [s], by omega, by go_num, Lib.hid (textsD_store T3.out (Nat.lt_succ_self _)), HL2.out, HSZ2, by rw [HL2.out]; exact Nat.le_refl _, Lib.hid (fun h1 h2 => by rw [HL2.out]; exact HEQ.out), Lib.hid (by rw [← HQ5.out, ← HQ6.out]; exact storeD KD.out), Lib.hid (belowD BB.out (Nat.le_refl _))⟩
        case measure => simp [intOf]; omega
      · have hb1 : (((k : Int) + 1) == (n0 : Int)) = false := by rw [beq_eq_false_iff_ne]; omega
        have HEQ := Lib.hid heq
        clear heq
        go_wp2_with fail
        go_roundw
        case rel => exact ⟨k + 1, c, ts ++ [s], by omega, by go_num, T3, HL2.out, HSZ2, by omega, Lib.hid (fun h1 h2 => HCN.out h1 (by have := HEQ.out; omega)), Lib.hid (by rw [← HQ3.out, ← HQ4.out]; exact K3.out), B3⟩
        case measure => simp [intOf]; omega
    · have hlt' : ¬ (k : Int) < (n0 : Int) + (m0 : Int) := by omega
      obtain ⟨j, F, hcj, hj, hr1, hr2, hsF, hsK⟩ := tor_end (y9 : Int) HSZ.out (by have := HL.out; omega) (show c ≤ ts.length by have := HL.out; omega)
      have hsT := dsk_sm (tor_ok c HSZ.out (by have := HL.out; omega))
      have k1 := fun w => impl_crash (torD ts c) (y9 : Int) w hsT (by omega)
      have k2 := fun w => spec_crash (torD ts c) (y9 : Int) w hsT (by omega)
      obtain ⟨K, hK⟩ : ∃ K, K = crashS (torD ts c) (y9 : Int) := ⟨_, rfl⟩
      rw [← hK] at k1 k2 hr1 hsK
      clear hK hsT
      have kR1 := fun w => impl_recover K w hsK
      have kR2 := fun w => spec_recover K w hsK
      have kR3 := fun w => impl_recover F w hsF
      rw [hr1] at kR1 kR2
      rw [hr2] at kR3
      obtain ⟨l, hl9⟩ : ∃ l, l = ts.take j := ⟨_, rfl⟩
      have hll : l.length = j := by rw [hl9, List.length_take]; omega
      rw [← hl9] at kR1 kR2 kR3
      have HL9 := Lib.hid hl9
      have hnl : ¬ l.length < n0 := by
        intro h
        have h1 := HCN.out (by omega) (by omega)
        omega
      clear hl9 hr1 hr2 hsF hsK HSZ HCN hcj
      have hd1 : decide ((l.length : Int) < (n0 : Int)) = false := by simp; omega
      have hd2 : decide (l.length < n0) = false := by simp; omega
      have HLL := Lib.hid hll
      have HJ := Lib.hid hj
      clear hll hj
      have hne := fun w => neq_dsk F F w
      rw [dskEq_refl] at hne
      unfold dskV at hne
      try dsimp only at hne
      have heq := fun w => eql_dsk F F w
      rw [dskEq_refl] at heq
      unfold dskV at heq
      try dsimp only at heq
      obtain ⟨fo, fs, ft, fu⟩ := F
      obtain ⟨ko, ks, kt, ku⟩ := K
      unfold torD dskV at *
      try dsimp only at *
      obtain ⟨q1, hq1⟩ : ∃ q, q = catB (ts.take c) := ⟨_, rfl⟩
      obtain ⟨q2, hq2⟩ : ∃ q, q = catB (ts.drop c) := ⟨_, rfl⟩
      rw [← hq1, ← hq2] at k1 k2 KD
      clear hq1 hq2
      go_wp2_with fail
      go_cut [11, 12] (fun mm bv wx => ∃ (mb : Nat) (vv : Value), mm = .pointer (some ⟨mb, 0, none⟩) ∧ bv = vv ∧ Hid (Texts wx wr.heap.size vv l) ∧ Hid (wx.heap[mb]? = some (.cells #[.int .i64 fo, .string fs, .string ft, .string fu] 26 (0, 0))) ∧ Hid (Below wr.heap.size wr wx) ∧ Hid (wr.heap.size ≤ mb ∧ mb < wx.heap.size))
      case first =>
        have FD : Hid (∀ w', Below wr.heap.size wr w' → w'.cell? ⟨w.heap.size, 0, none⟩ = some (.int .i64 4000) ∧ w'.cell? ⟨w.heap.size, 1, none⟩ = some (.string ⟨#[]⟩) ∧ w'.cell? ⟨w.heap.size, 2, none⟩ = some (.string q1) ∧ w'.cell? ⟨w.heap.size, 3, none⟩ = some (.string q2)) := Lib.hid (fun w' h => by have K := tkb h LD KD; exact ⟨tcr K 0, tcr K 1, tcr K 2, tcr K 3⟩)
        refine wp_region_held_drew (S := (fun w' => Below wr.heap.size wr w')) (by kernel_rfl) (Below.refl _ _).drew (fun hHeld => ?_)
        obtain ⟨zD, hzD⟩ : ∃ zz, zz = wr.drew := ⟨_, rfl⟩
        rw [← hzD] at hHeld ⊢
        clear hzD
        have BD := Lib.hid hHeld
        refine tk 0 (v := ?_) ?_ ?_; rotate_left
        · refine Or.inl ⟨by rfl, ?_⟩; intro w hSw; obtain ⟨hD0, hD1, hD2, hD3⟩ := FD.out w hSw; go_simp; first | done | with_reducible rfl
        refine tk0 1 ?_
        refine rd2 2 8 (fun K hK => ?_) (fun K hK => ?_)
        · go_simp
          have hc := (Ky9.out zD (Hr8.out.later (BB.out.trans (BD.out.mono BB.out.size)))).mono (fun e w' (h : _ ∧ zD = w') => (⟨h.1, by rw [← h.2]; exact Below.refl _ _⟩ : e = .returned (.int .i64 y9) ∧ Below zD.heap.size zD w'))
          go_at_call 44
          refine hc.mono ?_
          rintro e z21 ⟨rfl, hb⟩
          replace BD := tbt BD hb
          clear hc hb
          go_wp2_with fail
          refine hK.out _ _ BD.out (fun hHeld => ?_)
          clear hK K
          refine rd2 3 8 (fun K hK => ?_) (fun K hK => ?_)
          · go_simp
            have hc := k1 z21
            go_at_call 31
            refine hc.mono ?_
            rintro e z22 ⟨rfl, hb⟩
            replace BD := tbt BD hb
            clear hc hb
            go_wp2_with fail
            refine hK.out _ _ BD.out (fun hHeld => ?_)
            clear hK K
            refine rd2 4 8 (fun K hK => ?_) (fun K hK => ?_)
            · go_simp
              have hc := kR1 z22
              go_at_call 38
              refine hc.mono ?_
              rintro e z23 ⟨vv, rfl, hrow, hb⟩
              have ROW := Lib.hid hrow
              clear hrow
              have ALO := Lib.hid (show wr.heap.size ≤ z22.heap.size from BD.out.size)
              replace BD := tbt BD hb
              clear hc hb
              go_wp2_with fail
              refine hK.out _ _ BD.out (fun hHeld => ?_)
              clear hK K
              refine tk0 5 ?_
              refine tk0 6 ?_
              refine tk0 7 ?_
              refine rd1 8 (fun K hK => ?_)
              go_simp
              obtain ⟨zV, hzV⟩ : ∃ z, z = z23.alloc (.cells #[.int .i64 0, .string ⟨#[]⟩, .string ⟨#[]⟩, .string ⟨#[]⟩] 26) := ⟨_, rfl⟩
              rw [← hzV]
              have bV : Below z23.heap.size z23 zV := by rw [hzV]; exact (Below.refl _ _).alloc (Nat.le_refl _) _
              have KM : Hid (zV.heap[z23.heap.size]? = some (.cells #[.int .i64 0, .string ⟨#[]⟩, .string ⟨#[]⟩, .string ⟨#[]⟩] 26 (0, 0))) := Lib.hid (by rw [hzV]; exact heap_new _ _)
              have LM : Hid (z23.heap.size < zV.heap.size) := Lib.hid (by rw [hzV]; simp)
              have AM : Hid (wr.heap.size ≤ z23.heap.size) := Lib.hid BD.out.size
              have NE : Hid (∀ k, vv.ownBlock = some k → k ≠ z23.heap.size) := Lib.hid (fun k hk => by have h1 := (World.ownsRow.lt ROW.out k hk).2; omega)
              replace ROW := Lib.hid (ROW.out.later bV)
              replace BD := tbt BD bV
              clear hzV bV
              go_wp2_with fail
              refine hK.out _ _ BD.out (fun hHeld => ?_)
              clear hK K
              refine rd1 9 (fun K hK => ?_)
              have f0 := tcr KM 0
              have f1 := tcr KM 1
              have f2 := tcr KM 2
              have f3 := tcr KM 3
              have z0 := tfr KM 0
              have z1 := tfr KM 1
              have z2 := tfr KM 2
              have z3 := tfr KM 3
              go_simp
              obtain ⟨Y, hY⟩ : ∃ Y, Y = (((zV.setCell ⟨z23.heap.size, 0, none⟩ (.int .i64 fo)).setCell ⟨z23.heap.size, 1, none⟩ (.string fs)).setCell ⟨z23.heap.size, 2, none⟩ (.string ft)).setCell ⟨z23.heap.size, 3, none⟩ (.string fu) := ⟨_, rfl⟩
              rw [← hY]
              have QR1 : Hid (Y.heap[z23.heap.size]? = some (.cells #[.int .i64 fo, .string fs, .string ft, .string fu] 26 (0, 0))) := Lib.hid (by rw [hY]; exact storeD KM.out)
              have ROW2 : Hid (Texts Y wr.heap.size vv l) := Lib.hid (by rw [hY]; exact textsD_lower (textsD_offs ROW.out NE.out) ALO.out)
              have BY : Below wr.heap.size wr Y := by rw [hY]; exact belowD BD.out AM.out
              have LY : Hid (wr.heap.size ≤ z23.heap.size ∧ z23.heap.size < Y.heap.size) := Lib.hid ⟨AM.out, (Array.getElem?_eq_some_iff.1 QR1.out).1⟩
              refine hK.out _ _ BY (fun hHeld => ?_)
              clear hK K f0 f1 f2 f3 z0 z1 z2 z3 hY
              refine tk0 10 ?_
              refine wpAnyH_done (by kernel_rfl) ?_ _
              clear hHeld
              go_wp2_with fail
              go_meet
              exact ⟨z23.heap.size, vv, rfl, rfl, ROW2, QR1, Lib.hid BY, LY⟩
            · go_simp
              obtain ⟨zV, hzV⟩ : ∃ z, z = z22.alloc (.cells #[.int .i64 0, .string ⟨#[]⟩, .string ⟨#[]⟩, .string ⟨#[]⟩] 26) := ⟨_, rfl⟩
              rw [← hzV]
              have bV : Below z22.heap.size z22 zV := by rw [hzV]; exact (Below.refl _ _).alloc (Nat.le_refl _) _
              have KM : Hid (zV.heap[z22.heap.size]? = some (.cells #[.int .i64 0, .string ⟨#[]⟩, .string ⟨#[]⟩, .string ⟨#[]⟩] 26 (0, 0))) := Lib.hid (by rw [hzV]; exact heap_new _ _)
              have LM : Hid (z22.heap.size < zV.heap.size) := Lib.hid (by rw [hzV]; simp)
              have AM : Hid (wr.heap.size ≤ z22.heap.size) := Lib.hid BD.out.size
              replace BD := tbt BD bV
              clear hzV bV
              go_wp2_with fail
              refine hK.out _ _ BD.out (fun hHeld => ?_)
              clear hK K
              refine rd1 4 (fun K hK => ?_)
              go_simp
              have hc := kR1 zV
              go_at_call 38
              refine hc.mono ?_
              rintro e z23 ⟨vv, rfl, hrow, hb⟩
              have ROW := Lib.hid hrow
              clear hrow
              have ALO := Lib.hid (show wr.heap.size ≤ zV.heap.size from BD.out.size)
              have NE : Hid (∀ k, vv.ownBlock = some k → k ≠ z22.heap.size) := Lib.hid (fun k hk => by have h1 := ROW.out.own k hk; have h2 := LM.out; omega)
              replace KM := tkb hb LM KM
              replace LM := tlz LM hb.size
              replace BD := tbt BD hb
              clear hc hb
              go_wp2_with fail
              refine hK.out _ _ BD.out (fun hHeld => ?_)
              clear hK K
              refine tk0 5 ?_
              refine tk0 6 ?_
              refine tk0 7 ?_
              refine rd1 9 (fun K hK => ?_)
              have f0 := tcr KM 0
              have f1 := tcr KM 1
              have f2 := tcr KM 2
              have f3 := tcr KM 3
              have z0 := tfr KM 0
              have z1 := tfr KM 1
              have z2 := tfr KM 2
              have z3 := tfr KM 3
              go_simp
              obtain ⟨Y, hY⟩ : ∃ Y, Y = (((z23.setCell ⟨z22.heap.size, 0, none⟩ (.int .i64 fo)).setCell ⟨z22.heap.size, 1, none⟩ (.string fs)).setCell ⟨z22.heap.size, 2, none⟩ (.string ft)).setCell ⟨z22.heap.size, 3, none⟩ (.string fu) := ⟨_, rfl⟩
              rw [← hY]
              have QR1 : Hid (Y.heap[z22.heap.size]? = some (.cells #[.int .i64 fo, .string fs, .string ft, .string fu] 26 (0, 0))) := Lib.hid (by rw [hY]; exact storeD KM.out)
              have ROW2 : Hid (Texts Y wr.heap.size vv l) := Lib.hid (by rw [hY]; exact textsD_lower (textsD_offs ROW.out NE.out) ALO.out)
              have BY : Below wr.heap.size wr Y := by rw [hY]; exact belowD BD.out AM.out
              have LY : Hid (wr.heap.size ≤ z22.heap.size ∧ z22.heap.size < Y.heap.size) := Lib.hid ⟨AM.out, (Array.getElem?_eq_some_iff.1 QR1.out).1⟩
              refine hK.out _ _ BY (fun hHeld => ?_)
              clear hK K f0 f1 f2 f3 z0 z1 z2 z3 hY
              refine tk0 10 ?_
              refine wpAnyH_done (by kernel_rfl) ?_ _
              clear hHeld
              go_wp2_with fail
              go_meet
              exact ⟨z22.heap.size, vv, rfl, rfl, ROW2, QR1, Lib.hid BY, LY⟩
          · go_simp
            obtain ⟨zV, hzV⟩ : ∃ z, z = z21.alloc (.cells #[.int .i64 0, .string ⟨#[]⟩, .string ⟨#[]⟩, .string ⟨#[]⟩] 26) := ⟨_, rfl⟩
            rw [← hzV]
            have bV : Below z21.heap.size z21 zV := by rw [hzV]; exact (Below.refl _ _).alloc (Nat.le_refl _) _
            have KM : Hid (zV.heap[z21.heap.size]? = some (.cells #[.int .i64 0, .string ⟨#[]⟩, .string ⟨#[]⟩, .string ⟨#[]⟩] 26 (0, 0))) := Lib.hid (by rw [hzV]; exact heap_new _ _)
            have LM : Hid (z21.heap.size < zV.heap.size) := Lib.hid (by rw [hzV]; simp)
            have AM : Hid (wr.heap.size ≤ z21.heap.size) := Lib.hid BD.out.size
            replace BD := tbt BD bV
            clear hzV bV
            go_wp2_with fail
            refine hK.out _ _ BD.out (fun hHeld => ?_)
            clear hK K
            refine rd1 3 (fun K hK => ?_)
            go_simp
            have hc := k1 zV
            go_at_call 31
            refine hc.mono ?_
            rintro e z22 ⟨rfl, hb⟩
            replace KM := tkb hb LM KM
            replace LM := tlz LM hb.size
            replace BD := tbt BD hb
            clear hc hb
            go_wp2_with fail
            refine hK.out _ _ BD.out (fun hHeld => ?_)
            clear hK K
            refine rd1 4 (fun K hK => ?_)
            go_simp
            have hc := kR1 z22
            go_at_call 38
            refine hc.mono ?_
            rintro e z23 ⟨vv, rfl, hrow, hb⟩
            have ROW := Lib.hid hrow
            clear hrow
            have ALO := Lib.hid (show wr.heap.size ≤ z22.heap.size from BD.out.size)
            have NE : Hid (∀ k, vv.ownBlock = some k → k ≠ z21.heap.size) := Lib.hid (fun k hk => by have h1 := ROW.out.own k hk; have h2 := LM.out; omega)
            replace KM := tkb hb LM KM
            replace LM := tlz LM hb.size
            replace BD := tbt BD hb
            clear hc hb
            go_wp2_with fail
            refine hK.out _ _ BD.out (fun hHeld => ?_)
            clear hK K
            refine tk0 5 ?_
            refine tk0 6 ?_
            refine tk0 7 ?_
            refine rd1 9 (fun K hK => ?_)
            have f0 := tcr KM 0
            have f1 := tcr KM 1
            have f2 := tcr KM 2
            have f3 := tcr KM 3
            have z0 := tfr KM 0
            have z1 := tfr KM 1
            have z2 := tfr KM 2
            have z3 := tfr KM 3
            go_simp
            obtain ⟨Y, hY⟩ : ∃ Y, Y = (((z23.setCell ⟨z21.heap.size, 0, none⟩ (.int .i64 fo)).setCell ⟨z21.heap.size, 1, none⟩ (.string fs)).setCell ⟨z21.heap.size, 2, none⟩ (.string ft)).setCell ⟨z21.heap.size, 3, none⟩ (.string fu) := ⟨_, rfl⟩
            rw [← hY]
            have QR1 : Hid (Y.heap[z21.heap.size]? = some (.cells #[.int .i64 fo, .string fs, .string ft, .string fu] 26 (0, 0))) := Lib.hid (by rw [hY]; exact storeD KM.out)
            have ROW2 : Hid (Texts Y wr.heap.size vv l) := Lib.hid (by rw [hY]; exact textsD_lower (textsD_offs ROW.out NE.out) ALO.out)
            have BY : Below wr.heap.size wr Y := by rw [hY]; exact belowD BD.out AM.out
            have LY : Hid (wr.heap.size ≤ z21.heap.size ∧ z21.heap.size < Y.heap.size) := Lib.hid ⟨AM.out, (Array.getElem?_eq_some_iff.1 QR1.out).1⟩
            refine hK.out _ _ BY (fun hHeld => ?_)
            clear hK K f0 f1 f2 f3 z0 z1 z2 z3 hY
            refine tk0 10 ?_
            refine wpAnyH_done (by kernel_rfl) ?_ _
            clear hHeld
            go_wp2_with fail
            go_meet
            exact ⟨z21.heap.size, vv, rfl, rfl, ROW2, QR1, Lib.hid BY, LY⟩
        · go_simp
          obtain ⟨zV, hzV⟩ : ∃ z, z = zD.alloc (.cells #[.int .i64 0, .string ⟨#[]⟩, .string ⟨#[]⟩, .string ⟨#[]⟩] 26) := ⟨_, rfl⟩
          rw [← hzV]
          have bV : Below zD.heap.size zD zV := by rw [hzV]; exact (Below.refl _ _).alloc (Nat.le_refl _) _
          have KM : Hid (zV.heap[zD.heap.size]? = some (.cells #[.int .i64 0, .string ⟨#[]⟩, .string ⟨#[]⟩, .string ⟨#[]⟩] 26 (0, 0))) := Lib.hid (by rw [hzV]; exact heap_new _ _)
          have LM : Hid (zD.heap.size < zV.heap.size) := Lib.hid (by rw [hzV]; simp)
          have AM : Hid (wr.heap.size ≤ zD.heap.size) := Lib.hid BD.out.size
          replace BD := tbt BD bV
          clear hzV bV
          go_wp2_with fail
          refine hK.out _ _ BD.out (fun hHeld => ?_)
          clear hK K
          refine rd1 2 (fun K hK => ?_)
          go_simp
          have hc := (Ky9.out zV (Hr8.out.later (BB.out.trans (BD.out.mono BB.out.size)))).mono (fun e w' (h : _ ∧ zV = w') => (⟨h.1, by rw [← h.2]; exact Below.refl _ _⟩ : e = .returned (.int .i64 y9) ∧ Below zV.heap.size zV w'))
          go_at_call 44
          refine hc.mono ?_
          rintro e z21 ⟨rfl, hb⟩
          replace KM := tkb hb LM KM
          replace LM := tlz LM hb.size
          replace BD := tbt BD hb
          clear hc hb
          go_wp2_with fail
          refine hK.out _ _ BD.out (fun hHeld => ?_)
          clear hK K
          refine rd1 3 (fun K hK => ?_)
          go_simp
          have hc := k1 z21
          go_at_call 31
          refine hc.mono ?_
          rintro e z22 ⟨rfl, hb⟩
          replace KM := tkb hb LM KM
          replace LM := tlz LM hb.size
          replace BD := tbt BD hb
          clear hc hb
          go_wp2_with fail
          refine hK.out _ _ BD.out (fun hHeld => ?_)
          clear hK K
          refine rd1 4 (fun K hK => ?_)
          go_simp
          have hc := kR1 z22
          go_at_call 38
          refine hc.mono ?_
          rintro e z23 ⟨vv, rfl, hrow, hb⟩
          have ROW := Lib.hid hrow
          clear hrow
          have ALO := Lib.hid (show wr.heap.size ≤ z22.heap.size from BD.out.size)
          have NE : Hid (∀ k, vv.ownBlock = some k → k ≠ zD.heap.size) := Lib.hid (fun k hk => by have h1 := ROW.out.own k hk; have h2 := LM.out; omega)
          replace KM := tkb hb LM KM
          replace LM := tlz LM hb.size
          replace BD := tbt BD hb
          clear hc hb
          go_wp2_with fail
          refine hK.out _ _ BD.out (fun hHeld => ?_)
          clear hK K
          refine tk0 5 ?_
          refine tk0 6 ?_
          refine tk0 7 ?_
          refine rd1 9 (fun K hK => ?_)
          have f0 := tcr KM 0
          have f1 := tcr KM 1
          have f2 := tcr KM 2
          have f3 := tcr KM 3
          have z0 := tfr KM 0
          have z1 := tfr KM 1
          have z2 := tfr KM 2
          have z3 := tfr KM 3
          go_simp
          obtain ⟨Y, hY⟩ : ∃ Y, Y = (((z23.setCell ⟨zD.heap.size, 0, none⟩ (.int .i64 fo)).setCell ⟨zD.heap.size, 1, none⟩ (.string fs)).setCell ⟨zD.heap.size, 2, none⟩ (.string ft)).setCell ⟨zD.heap.size, 3, none⟩ (.string fu) := ⟨_, rfl⟩
          rw [← hY]
          have QR1 : Hid (Y.heap[zD.heap.size]? = some (.cells #[.int .i64 fo, .string fs, .string ft, .string fu] 26 (0, 0))) := Lib.hid (by rw [hY]; exact storeD KM.out)
          have ROW2 : Hid (Texts Y wr.heap.size vv l) := Lib.hid (by rw [hY]; exact textsD_lower (textsD_offs ROW.out NE.out) ALO.out)
          have BY : Below wr.heap.size wr Y := by rw [hY]; exact belowD BD.out AM.out
          have LY : Hid (wr.heap.size ≤ zD.heap.size ∧ zD.heap.size < Y.heap.size) := Lib.hid ⟨AM.out, (Array.getElem?_eq_some_iff.1 QR1.out).1⟩
          refine hK.out _ _ BY (fun hHeld => ?_)
          clear hK K f0 f1 f2 f3 z0 z1 z2 z3 hY
          refine tk0 10 ?_
          refine wpAnyH_done (by kernel_rfl) ?_ _
          clear hHeld
          go_wp2_with fail
          go_meet
          exact ⟨zD.heap.size, vv, rfl, rfl, ROW2, QR1, Lib.hid BY, LY⟩
      case rest =>
        obtain ⟨mF, vF, rfl, rfl, RF, KF, bA, L0⟩ := hcut
        obtain ⟨wA, rfl⟩ : ∃ z, z = wc := ⟨_, rfl⟩
        have LF := Lib.hid L0.out.2
        have hb := bA.out
        clear L0 bA
        replace KD := tkb hb LD KD
        replace LD := tlz LD hb.size
        replace TS := Lib.hid (TS.out.later hb)
        replace BB := tbt BB hb
        clear hb
        obtain ⟨aF, cF, rfl⟩ := texts_shape RF.out
        go_wp2_with fail
        go_cut [13, 14] (fun mm bv wx => ∃ (mb : Nat) (vv : Value), mm = .pointer (some ⟨mb, 0, none⟩) ∧ bv = vv ∧ Hid (Texts wx wA.heap.size vv l) ∧ Hid (wx.heap[mb]? = some (.cells #[.int .i64 fo, .string fs, .string ft, .string fu] 26 (0, 0))) ∧ Hid (Below wA.heap.size wA wx) ∧ Hid (wA.heap.size ≤ mb ∧ mb < wx.heap.size))
        case first =>
          have FD : Hid (∀ w', Below wA.heap.size wA w' → w'.cell? ⟨w.heap.size, 0, none⟩ = some (.int .i64 4000) ∧ w'.cell? ⟨w.heap.size, 1, none⟩ = some (.string ⟨#[]⟩) ∧ w'.cell? ⟨w.heap.size, 2, none⟩ = some (.string q1) ∧ w'.cell? ⟨w.heap.size, 3, none⟩ = some (.string q2)) := Lib.hid (fun w' h => by have K := tkb h LD KD; exact ⟨tcr K 0, tcr K 1, tcr K 2, tcr K 3⟩)
          refine wp_region_held_drew (S := (fun w' => Below wA.heap.size wA w')) (by kernel_rfl) (Below.refl _ _).drew (fun hHeld => ?_)
          obtain ⟨zD, hzD⟩ : ∃ zz, zz = wA.drew := ⟨_, rfl⟩
          rw [← hzD] at hHeld ⊢
          clear hzD
          have BD := Lib.hid hHeld
          refine tk 0 (v := ?_) ?_ ?_; rotate_left
          · refine Or.inl ⟨by rfl, ?_⟩; intro w hSw; obtain ⟨hD0, hD1, hD2, hD3⟩ := FD.out w hSw; go_simp; first | done | with_reducible rfl
          refine tk0 1 ?_
          refine rd2 2 8 (fun K hK => ?_) (fun K hK => ?_)
          · go_simp
            have hc := (Ky9.out zD (Hr8.out.later (BB.out.trans (BD.out.mono BB.out.size)))).mono (fun e w' (h : _ ∧ zD = w') => (⟨h.1, by rw [← h.2]; exact Below.refl _ _⟩ : e = .returned (.int .i64 y9) ∧ Below zD.heap.size zD w'))
            go_at_call 44
            refine hc.mono ?_
            rintro e z21 ⟨rfl, hb⟩
            replace BD := tbt BD hb
            clear hc hb
            go_wp2_with fail
            refine hK.out _ _ BD.out (fun hHeld => ?_)
            clear hK K
            refine rd2 3 8 (fun K hK => ?_) (fun K hK => ?_)
            · go_simp
              have hc := k2 z21
              go_at_call 30
              refine hc.mono ?_
              rintro e z22 ⟨rfl, hb⟩
              replace BD := tbt BD hb
              clear hc hb
              go_wp2_with fail
              refine hK.out _ _ BD.out (fun hHeld => ?_)
              clear hK K
              refine rd2 4 8 (fun K hK => ?_) (fun K hK => ?_)
              · go_simp
                have hc := kR2 z22
                go_at_call 37
                refine hc.mono ?_
                rintro e z23 ⟨vv, rfl, hrow, hb⟩
                have ROW := Lib.hid hrow
                clear hrow
                have ALO := Lib.hid (show wA.heap.size ≤ z22.heap.size from BD.out.size)
                replace BD := tbt BD hb
                clear hc hb
                go_wp2_with fail
                refine hK.out _ _ BD.out (fun hHeld => ?_)
                clear hK K
                refine tk0 5 ?_
                refine tk0 6 ?_
                refine tk0 7 ?_
                refine rd1 8 (fun K hK => ?_)
                go_simp
                obtain ⟨zV, hzV⟩ : ∃ z, z = z23.alloc (.cells #[.int .i64 0, .string ⟨#[]⟩, .string ⟨#[]⟩, .string ⟨#[]⟩] 26) := ⟨_, rfl⟩
                rw [← hzV]
                have bV : Below z23.heap.size z23 zV := by rw [hzV]; exact (Below.refl _ _).alloc (Nat.le_refl _) _
                have KM : Hid (zV.heap[z23.heap.size]? = some (.cells #[.int .i64 0, .string ⟨#[]⟩, .string ⟨#[]⟩, .string ⟨#[]⟩] 26 (0, 0))) := Lib.hid (by rw [hzV]; exact heap_new _ _)
                have LM : Hid (z23.heap.size < zV.heap.size) := Lib.hid (by rw [hzV]; simp)
                have AM : Hid (wA.heap.size ≤ z23.heap.size) := Lib.hid BD.out.size
                have NE : Hid (∀ k, vv.ownBlock = some k → k ≠ z23.heap.size) := Lib.hid (fun k hk => by have h1 := (World.ownsRow.lt ROW.out k hk).2; omega)
                replace ROW := Lib.hid (ROW.out.later bV)
                replace BD := tbt BD bV
                clear hzV bV
                go_wp2_with fail
                refine hK.out _ _ BD.out (fun hHeld => ?_)
                clear hK K
                refine rd1 9 (fun K hK => ?_)
                have f0 := tcr KM 0
                have f1 := tcr KM 1
                have f2 := tcr KM 2
                have f3 := tcr KM 3
                have z0 := tfr KM 0
                have z1 := tfr KM 1
                have z2 := tfr KM 2
                have z3 := tfr KM 3
                go_simp
                obtain ⟨Y, hY⟩ : ∃ Y, Y = (((zV.setCell ⟨z23.heap.size, 0, none⟩ (.int .i64 fo)).setCell ⟨z23.heap.size, 1, none⟩ (.string fs)).setCell ⟨z23.heap.size, 2, none⟩ (.string ft)).setCell ⟨z23.heap.size, 3, none⟩ (.string fu) := ⟨_, rfl⟩
                rw [← hY]
                have QR1 : Hid (Y.heap[z23.heap.size]? = some (.cells #[.int .i64 fo, .string fs, .string ft, .string fu] 26 (0, 0))) := Lib.hid (by rw [hY]; exact storeD KM.out)
                have ROW2 : Hid (Texts Y wA.heap.size vv l) := Lib.hid (by rw [hY]; exact textsD_lower (textsD_offs ROW.out NE.out) ALO.out)
                have BY : Below wA.heap.size wA Y := by rw [hY]; exact belowD BD.out AM.out
                have LY : Hid (wA.heap.size ≤ z23.heap.size ∧ z23.heap.size < Y.heap.size) := Lib.hid ⟨AM.out, (Array.getElem?_eq_some_iff.1 QR1.out).1⟩
                refine hK.out _ _ BY (fun hHeld => ?_)
                clear hK K f0 f1 f2 f3 z0 z1 z2 z3 hY
                refine tk0 10 ?_
                refine wpAnyH_done (by kernel_rfl) ?_ _
                clear hHeld
                go_wp2_with fail
                go_meet
                exact ⟨z23.heap.size, vv, rfl, rfl, ROW2, QR1, Lib.hid BY, LY⟩
              · go_simp
                obtain ⟨zV, hzV⟩ : ∃ z, z = z22.alloc (.cells #[.int .i64 0, .string ⟨#[]⟩, .string ⟨#[]⟩, .string ⟨#[]⟩] 26) := ⟨_, rfl⟩
                rw [← hzV]
                have bV : Below z22.heap.size z22 zV := by rw [hzV]; exact (Below.refl _ _).alloc (Nat.le_refl _) _
                have KM : Hid (zV.heap[z22.heap.size]? = some (.cells #[.int .i64 0, .string ⟨#[]⟩, .string ⟨#[]⟩, .string ⟨#[]⟩] 26 (0, 0))) := Lib.hid (by rw [hzV]; exact heap_new _ _)
                have LM : Hid (z22.heap.size < zV.heap.size) := Lib.hid (by rw [hzV]; simp)
                have AM : Hid (wA.heap.size ≤ z22.heap.size) := Lib.hid BD.out.size
                replace BD := tbt BD bV
                clear hzV bV
                go_wp2_with fail
                refine hK.out _ _ BD.out (fun hHeld => ?_)
                clear hK K
                refine rd1 4 (fun K hK => ?_)
                go_simp
                have hc := kR2 zV
                go_at_call 37
                refine hc.mono ?_
                rintro e z23 ⟨vv, rfl, hrow, hb⟩
                have ROW := Lib.hid hrow
                clear hrow
                have ALO := Lib.hid (show wA.heap.size ≤ zV.heap.size from BD.out.size)
                have NE : Hid (∀ k, vv.ownBlock = some k → k ≠ z22.heap.size) := Lib.hid (fun k hk => by have h1 := ROW.out.own k hk; have h2 := LM.out; omega)
                replace KM := tkb hb LM KM
                replace LM := tlz LM hb.size
                replace BD := tbt BD hb
                clear hc hb
                go_wp2_with fail
                refine hK.out _ _ BD.out (fun hHeld => ?_)
                clear hK K
                refine tk0 5 ?_
                refine tk0 6 ?_
                refine tk0 7 ?_
                refine rd1 9 (fun K hK => ?_)
                have f0 := tcr KM 0
                have f1 := tcr KM 1
                have f2 := tcr KM 2
                have f3 := tcr KM 3
                have z0 := tfr KM 0
                have z1 := tfr KM 1
                have z2 := tfr KM 2
                have z3 := tfr KM 3
                go_simp
                obtain ⟨Y, hY⟩ : ∃ Y, Y = (((z23.setCell ⟨z22.heap.size, 0, none⟩ (.int .i64 fo)).setCell ⟨z22.heap.size, 1, none⟩ (.string fs)).setCell ⟨z22.heap.size, 2, none⟩ (.string ft)).setCell ⟨z22.heap.size, 3, none⟩ (.string fu) := ⟨_, rfl⟩
                rw [← hY]
                have QR1 : Hid (Y.heap[z22.heap.size]? = some (.cells #[.int .i64 fo, .string fs, .string ft, .string fu] 26 (0, 0))) := Lib.hid (by rw [hY]; exact storeD KM.out)
                have ROW2 : Hid (Texts Y wA.heap.size vv l) := Lib.hid (by rw [hY]; exact textsD_lower (textsD_offs ROW.out NE.out) ALO.out)
                have BY : Below wA.heap.size wA Y := by rw [hY]; exact belowD BD.out AM.out
                have LY : Hid (wA.heap.size ≤ z22.heap.size ∧ z22.heap.size < Y.heap.size) := Lib.hid ⟨AM.out, (Array.getElem?_eq_some_iff.1 QR1.out).1⟩
                refine hK.out _ _ BY (fun hHeld => ?_)
                clear hK K f0 f1 f2 f3 z0 z1 z2 z3 hY
                refine tk0 10 ?_
                refine wpAnyH_done (by kernel_rfl) ?_ _
                clear hHeld
                go_wp2_with fail
                go_meet
                exact ⟨z22.heap.size, vv, rfl, rfl, ROW2, QR1, Lib.hid BY, LY⟩
            · go_simp
              obtain ⟨zV, hzV⟩ : ∃ z, z = z21.alloc (.cells #[.int .i64 0, .string ⟨#[]⟩, .string ⟨#[]⟩, .string ⟨#[]⟩] 26) := ⟨_, rfl⟩
              rw [← hzV]
              have bV : Below z21.heap.size z21 zV := by rw [hzV]; exact (Below.refl _ _).alloc (Nat.le_refl _) _
              have KM : Hid (zV.heap[z21.heap.size]? = some (.cells #[.int .i64 0, .string ⟨#[]⟩, .string ⟨#[]⟩, .string ⟨#[]⟩] 26 (0, 0))) := Lib.hid (by rw [hzV]; exact heap_new _ _)
              have LM : Hid (z21.heap.size < zV.heap.size) := Lib.hid (by rw [hzV]; simp)
              have AM : Hid (wA.heap.size ≤ z21.heap.size) := Lib.hid BD.out.size
              replace BD := tbt BD bV
              clear hzV bV
              go_wp2_with fail
              refine hK.out _ _ BD.out (fun hHeld => ?_)
              clear hK K
              refine rd1 3 (fun K hK => ?_)
              go_simp
              have hc := k2 zV
              go_at_call 30
              refine hc.mono ?_
              rintro e z22 ⟨rfl, hb⟩
              replace KM := tkb hb LM KM
              replace LM := tlz LM hb.size
              replace BD := tbt BD hb
              clear hc hb
              go_wp2_with fail
              refine hK.out _ _ BD.out (fun hHeld => ?_)
              clear hK K
              refine rd1 4 (fun K hK => ?_)
              go_simp
              have hc := kR2 z22
              go_at_call 37
              refine hc.mono ?_
              rintro e z23 ⟨vv, rfl, hrow, hb⟩
              have ROW := Lib.hid hrow
              clear hrow
              have ALO := Lib.hid (show wA.heap.size ≤ z22.heap.size from BD.out.size)
              have NE : Hid (∀ k, vv.ownBlock = some k → k ≠ z21.heap.size) := Lib.hid (fun k hk => by have h1 := ROW.out.own k hk; have h2 := LM.out; omega)
              replace KM := tkb hb LM KM
              replace LM := tlz LM hb.size
              replace BD := tbt BD hb
              clear hc hb
              go_wp2_with fail
              refine hK.out _ _ BD.out (fun hHeld => ?_)
              clear hK K
              refine tk0 5 ?_
              refine tk0 6 ?_
              refine tk0 7 ?_
              refine rd1 9 (fun K hK => ?_)
              have f0 := tcr KM 0
              have f1 := tcr KM 1
              have f2 := tcr KM 2
              have f3 := tcr KM 3
              have z0 := tfr KM 0
              have z1 := tfr KM 1
              have z2 := tfr KM 2
              have z3 := tfr KM 3
              go_simp
              obtain ⟨Y, hY⟩ : ∃ Y, Y = (((z23.setCell ⟨z21.heap.size, 0, none⟩ (.int .i64 fo)).setCell ⟨z21.heap.size, 1, none⟩ (.string fs)).setCell ⟨z21.heap.size, 2, none⟩ (.string ft)).setCell ⟨z21.heap.size, 3, none⟩ (.string fu) := ⟨_, rfl⟩
              rw [← hY]
              have QR1 : Hid (Y.heap[z21.heap.size]? = some (.cells #[.int .i64 fo, .string fs, .string ft, .string fu] 26 (0, 0))) := Lib.hid (by rw [hY]; exact storeD KM.out)
              have ROW2 : Hid (Texts Y wA.heap.size vv l) := Lib.hid (by rw [hY]; exact textsD_lower (textsD_offs ROW.out NE.out) ALO.out)
              have BY : Below wA.heap.size wA Y := by rw [hY]; exact belowD BD.out AM.out
              have LY : Hid (wA.heap.size ≤ z21.heap.size ∧ z21.heap.size < Y.heap.size) := Lib.hid ⟨AM.out, (Array.getElem?_eq_some_iff.1 QR1.out).1⟩
              refine hK.out _ _ BY (fun hHeld => ?_)
              clear hK K f0 f1 f2 f3 z0 z1 z2 z3 hY
              refine tk0 10 ?_
              refine wpAnyH_done (by kernel_rfl) ?_ _
              clear hHeld
              go_wp2_with fail
              go_meet
              exact ⟨z21.heap.size, vv, rfl, rfl, ROW2, QR1, Lib.hid BY, LY⟩
          · go_simp
            obtain ⟨zV, hzV⟩ : ∃ z, z = zD.alloc (.cells #[.int .i64 0, .string ⟨#[]⟩, .string ⟨#[]⟩, .string ⟨#[]⟩] 26) := ⟨_, rfl⟩
            rw [← hzV]
            have bV : Below zD.heap.size zD zV := by rw [hzV]; exact (Below.refl _ _).alloc (Nat.le_refl _) _
            have KM : Hid (zV.heap[zD.heap.size]? = some (.cells #[.int .i64 0, .string ⟨#[]⟩, .string ⟨#[]⟩, .string ⟨#[]⟩] 26 (0, 0))) := Lib.hid (by rw [hzV]; exact heap_new _ _)
            have LM : Hid (zD.heap.size < zV.heap.size) := Lib.hid (by rw [hzV]; simp)
            have AM : Hid (wA.heap.size ≤ zD.heap.size) := Lib.hid BD.out.size
            replace BD := tbt BD bV
            clear hzV bV
            go_wp2_with fail
            refine hK.out _ _ BD.out (fun hHeld => ?_)
            clear hK K
            refine rd1 2 (fun K hK => ?_)
            go_simp
            have hc := (Ky9.out zV (Hr8.out.later (BB.out.trans (BD.out.mono BB.out.size)))).mono (fun e w' (h : _ ∧ zV = w') => (⟨h.1, by rw [← h.2]; exact Below.refl _ _⟩ : e = .returned (.int .i64 y9) ∧ Below zV.heap.size zV w'))
            go_at_call 44
            refine hc.mono ?_
            rintro e z21 ⟨rfl, hb⟩
            replace KM := tkb hb LM KM
            replace LM := tlz LM hb.size
            replace BD := tbt BD hb
            clear hc hb
            go_wp2_with fail
            refine hK.out _ _ BD.out (fun hHeld => ?_)
            clear hK K
            refine rd1 3 (fun K hK => ?_)
            go_simp
            have hc := k2 z21
            go_at_call 30
            refine hc.mono ?_
            rintro e z22 ⟨rfl, hb⟩
            replace KM := tkb hb LM KM
            replace LM := tlz LM hb.size
            replace BD := tbt BD hb
            clear hc hb
            go_wp2_with fail
            refine hK.out _ _ BD.out (fun hHeld => ?_)
            clear hK K
            refine rd1 4 (fun K hK => ?_)
            go_simp
            have hc := kR2 z22
            go_at_call 37
            refine hc.mono ?_
            rintro e z23 ⟨vv, rfl, hrow, hb⟩
            have ROW := Lib.hid hrow
            clear hrow
            have ALO := Lib.hid (show wA.heap.size ≤ z22.heap.size from BD.out.size)
            have NE : Hid (∀ k, vv.ownBlock = some k → k ≠ zD.heap.size) := Lib.hid (fun k hk => by have h1 := ROW.out.own k hk; have h2 := LM.out; omega)
            replace KM := tkb hb LM KM
            replace LM := tlz LM hb.size
            replace BD := tbt BD hb
            clear hc hb
            go_wp2_with fail
            refine hK.out _ _ BD.out (fun hHeld => ?_)
            clear hK K
            refine tk0 5 ?_
            refine tk0 6 ?_
            refine tk0 7 ?_
            refine rd1 9 (fun K hK => ?_)
            have f0 := tcr KM 0
            have f1 := tcr KM 1
            have f2 := tcr KM 2
            have f3 := tcr KM 3
            have z0 := tfr KM 0
            have z1 := tfr KM 1
            have z2 := tfr KM 2
            have z3 := tfr KM 3
            go_simp
            obtain ⟨Y, hY⟩ : ∃ Y, Y = (((z23.setCell ⟨zD.heap.size, 0, none⟩ (.int .i64 fo)).setCell ⟨zD.heap.size, 1, none⟩ (.string fs)).setCell ⟨zD.heap.size, 2, none⟩ (.string ft)).setCell ⟨zD.heap.size, 3, none⟩ (.string fu) := ⟨_, rfl⟩
            rw [← hY]
            have QR1 : Hid (Y.heap[zD.heap.size]? = some (.cells #[.int .i64 fo, .string fs, .string ft, .string fu] 26 (0, 0))) := Lib.hid (by rw [hY]; exact storeD KM.out)
            have ROW2 : Hid (Texts Y wA.heap.size vv l) := Lib.hid (by rw [hY]; exact textsD_lower (textsD_offs ROW.out NE.out) ALO.out)
            have BY : Below wA.heap.size wA Y := by rw [hY]; exact belowD BD.out AM.out
            have LY : Hid (wA.heap.size ≤ zD.heap.size ∧ zD.heap.size < Y.heap.size) := Lib.hid ⟨AM.out, (Array.getElem?_eq_some_iff.1 QR1.out).1⟩
            refine hK.out _ _ BY (fun hHeld => ?_)
            clear hK K f0 f1 f2 f3 z0 z1 z2 z3 hY
            refine tk0 10 ?_
            refine wpAnyH_done (by kernel_rfl) ?_ _
            clear hHeld
            go_wp2_with fail
            go_meet
            exact ⟨zD.heap.size, vv, rfl, rfl, ROW2, QR1, Lib.hid BY, LY⟩
        case rest =>
          obtain ⟨mW, vW, rfl, rfl, RW, KW, bA, L0⟩ := hcut
          obtain ⟨wB, rfl⟩ : ∃ z, z = wc := ⟨_, rfl⟩
          have LW := Lib.hid L0.out.2
          have hb := bA.out
          clear L0 bA
          replace KD := tkb hb LD KD
          replace LD := tlz LD hb.size
          replace KF := tkb hb LF KF
          replace LF := tlz LF hb.size
          replace TS := Lib.hid (TS.out.later hb)
          replace RF := Lib.hid (RF.out.later hb)
          replace BB := tbt BB hb
          clear hb
          obtain ⟨aW, cW, rfl⟩ := texts_shape RW.out
          clear k1 k2 kR1 kR2
          have hc := same_tx l _ _ _ _ wB RF.out RW.out
          have fF0 := tcr KF 0
          have fF1 := tcr KF 1
          have fF2 := tcr KF 2
          have fF3 := tcr KF 3
          have fW0 := tcr KW 0
          have fW1 := tcr KW 1
          have fW2 := tcr KW 2
          have fW3 := tcr KW 3
          go_wp2_with (go_at_call 47; refine hc.mono ?_; rintro e wC ⟨rfl, hb⟩; refine Hid.out ?_)
          refine Lib.hid ?_
          replace KD := tkb hb LD KD
          replace LD := tlz LD hb.size
          replace KF := tkb hb LF KF
          replace LF := tlz LF hb.size
          replace KW := tkb hb LW KW
          replace LW := tlz LW hb.size
          replace TS := Lib.hid (TS.out.later hb)
          replace RF := Lib.hid (RF.out.later hb)
          replace RW := Lib.hid (RW.out.later hb)
          replace BB := tbt BB hb
          clear hc hb fF0 fF1 fF2 fF3 fW0 fW1 fW2 fW3
          have hTB : TxAt wC wC.heap.size (.slice aF l.length cF) (ts.take j) := by rw [← HL9.out]; exact texts_at RF.out
          have hc := begins_at ts j HJ.out _ _ wC.heap.size wC (texts_at TS.out) hTB (Nat.le_refl _)
          clear hTB
          go_wp2_with (go_at_call 50; refine hc.mono ?_; rintro e wE ⟨rfl, hb⟩; refine Hid.out ?_)
          refine Lib.hid ?_
          replace KD := tkb hb LD KD
          replace LD := tlz LD hb.size
          replace KF := tkb hb LF KF
          replace LF := tlz LF hb.size
          replace KW := tkb hb LW KW
          replace LW := tlz LW hb.size
          replace TS := Lib.hid (TS.out.later hb)
          replace RF := Lib.hid (RF.out.later hb)
          replace RW := Lib.hid (RW.out.later hb)
          replace BB := tbt BB hb
          clear hc hb 
          have hc := kR3 wE
          have fF0 := tcr KF 0
          have fF1 := tcr KF 1
          have fF2 := tcr KF 2
          have fF3 := tcr KF 3
          go_wp2_with (go_at_call 38; refine hc.mono ?_; rintro e wG ⟨v3, rfl, ht3, hb⟩; refine Hid.out ?_)
          refine Lib.hid ?_
          replace KD := tkb hb LD KD
          replace LD := tlz LD hb.size
          replace KF := tkb hb LF KF
          replace LF := tlz LF hb.size
          replace KW := tkb hb LW KW
          replace LW := tlz LW hb.size
          replace TS := Lib.hid (TS.out.later hb)
          replace RF := Lib.hid (RF.out.later hb)
          replace RW := Lib.hid (RW.out.later hb)
          replace BB := tbt BB hb
          clear hc hb fF0 fF1 fF2 fF3
          have R3 := Lib.hid ht3
          obtain ⟨a3, c3, rfl⟩ := texts_shape ht3
          clear ht3
          obtain ⟨X3, hX3⟩ : ∃ z, z = wG.alloc (.cells #[.int .i64 fo, .string fs, .string ft, .string fu] 26) := ⟨_, rfl⟩
          have hb : Below wG.heap.size wG X3 := by rw [hX3]; exact (Below.refl _ _).alloc (Nat.le_refl _) _
          replace KD := tkb hb LD KD
          replace LD := tlz LD hb.size
          replace KF := tkb hb LF KF
          replace LF := tlz LF hb.size
          replace KW := tkb hb LW KW
          replace LW := tlz LW hb.size
          replace TS := Lib.hid (TS.out.later hb)
          replace RF := Lib.hid (RF.out.later hb)
          replace RW := Lib.hid (RW.out.later hb)
          replace R3 := Lib.hid (R3.out.later hb)
          replace BB := tbt BB hb
          have KA : Hid (X3.heap[wG.heap.size]? = some (.cells #[.int .i64 fo, .string fs, .string ft, .string fu] 26 (0, 0))) := Lib.hid (by rw [hX3]; exact heap_new _ _)
          have LA : Hid (wG.heap.size < X3.heap.size) := Lib.hid (by rw [hX3]; simp)
          clear hb
          have hc := same_tx l _ _ _ _ X3 R3.out RF.out
          have fA0 := tcr KA 0
          have fA1 := tcr KA 1
          have fA2 := tcr KA 2
          have fA3 := tcr KA 3
          have fF0 := tcr KF 0
          have fF1 := tcr KF 1
          have fF2 := tcr KF 2
          have fF3 := tcr KF 3
          rw [hX3] at hc fA0 fA1 fA2 fA3 fF0 fF1 fF2 fF3
          go_wp2_with (go_at_call 47; refine hc.mono ?_; rintro e wH ⟨rfl, hb⟩; refine Hid.out ?_)
          refine Lib.hid ?_
          rw [← hX3] at hb 
          clear hX3
          replace KD := tkb hb LD KD
          replace LD := tlz LD hb.size
          replace KF := tkb hb LF KF
          replace LF := tlz LF hb.size
          replace KW := tkb hb LW KW
          replace LW := tlz LW hb.size
          replace KA := tkb hb LA KA
          replace LA := tlz LA hb.size
          replace TS := Lib.hid (TS.out.later hb)
          replace RF := Lib.hid (RF.out.later hb)
          replace RW := Lib.hid (RW.out.later hb)
          replace R3 := Lib.hid (R3.out.later hb)
          replace BB := tbt BB hb
          clear hc hb fA0 fA1 fA2 fA3 fF0 fF1 fF2 fF3
          go_wp2_with fail
          go_ret
          exact ⟨rfl, BB.out⟩
end Go.Proofs.Ytkkmjlpeahkiaaa
