/- The laws FnEncode and FnFormats: a state comes back from each format; the formats side by side. Condition: none. -/
import Derived.Test.YtmmkiodnlmpbiaaBaseA
import Derived.Test.YtmmkiodnlmpbiaaCurA
import Derived.Test.YtmmkiodnlmpbiaaDrawEnc
import Derived.Test.YtmmkiodnlmpbiaaDrawFmt
import Derived.Test.YtmmkiodnlmpbiaaVerUp
import Derived.Test.YtmmkiodnlmpbiaaSpecSame
import Derived.Test.YtmmkiodnlmpbiaaFmtThree
import Derived.BigQuiet
import Derived.Deep.QuietTactic
namespace Go.Proofs.Ytmmkiodnlmpbiaa
open Go.RowKit
set_option linter.unusedVariables false
set_option linter.unusedSimpArgs false

theorem slice_rowF {w : World} {B sz n : Nat} {v : Value} {cs : List Value} (h : Row w B sz v n cs) : ∃ a c, v = .slice a n c := by
  rcases h with ⟨_, ⟨rfl, rfl⟩ | ⟨g, o, cap, rfl, _⟩⟩ <;> exact ⟨_, _, rfl⟩
theorem DecV.kept {w w' : World} {base b : Nat} {v : Value} {s : St} (h : DecV w base v s) (hg : w.grownBy w' (some b)) (hb : b < base) : DecV w' base v s := h.imp id (fun h => h.kept hg hb)
theorem rd_cut {w : World} {B : Nat} {vi vt : Value} {s : St} (h : Rd w B (.agg #[vi, vt]) s) : Rd w B (.agg #[vi, .slice none 0 0]) ⟨s.items, []⟩ := by
  obtain ⟨ai, at_, h0, h1, _⟩ := h
  obtain ⟨rfl, rfl⟩ : vi = ai ∧ vt = at_ := by simpa using h0
  exact ⟨_, _, rfl, h1, ⟨none, 0, rfl, Nat.le_refl _, Nat.zero_le _, fun _ => rfl, fun h => absurd h (Nat.lt_irrefl _)⟩⟩
theorem seal_open (x : ByteArray) : openB (sealB x) = (x, true) := by
  have hs : (sealB x).size = x.size + 4 := by unfold sealB; rw [ByteArray.size_append, leB_size]
  have he : (sealB x).extract 0 ((sealB x).size - 4) = x := by
    rw [hs, Nat.add_sub_cancel]
    apply ext_list
    rw [extract_list]
    unfold sealB
    rw [ByteArray.data_append, Array.toList_append, List.drop_zero]
    exact List.take_left' (by simp)
  unfold openB
  rw [if_neg (by omega), he, if_pos rfl]
set_option maxRecDepth 100000 in
set_option maxHeartbeats 8000000 in
theorem law_enc (a : Option Addr) (len cap : Nat) (zs : List Int) (w : World) (hr : IsRow .u8 w a len cap zs) :
    Calls Try.prog 3 #[.slice a len cap] w fun e w' => e = .returned (.bool true) ∧ Below w.heap.size w w' := by
  have hr := row8_of hr
  by_cases hbig : 1048576 < len
  · have hd : decide (1048576 < len) = true := by simpa using hbig
    go_enter Try.func3, Try.ntmps3
    go_wp2_with (go_at_call 11; refine (big_any _ _ _ _).mono ?_; rintro e w' ⟨rfl, rfl⟩)
    go_ret
    exact ⟨rfl, Below.refl _ _⟩
  have hd : decide (1048576 < len) = false := by simpa using hbig
  have hlen : len ≤ 1048576 := by omega
  have Hr8 := Lib.hid hr
  have BB : Hid (Below w.heap.size w w) := Lib.hid (Below.refl _ _)
  go_enter Try.func3, Try.ntmps3
  go_wp2_with (go_at_call 11; refine (big_any _ _ _ _).mono ?_; rintro e w' ⟨rfl, rfl⟩; refine Hid.out ?_)
  refine Lib.hid ?_
  clear hd hbig hr
  have hc := drawEncode_any a len cap zs w Hr8.out hlen
  go_wp2_with (go_at_call 12; refine hc.mono ?_; rintro e w1 ⟨v, s, n, rfl, hst, hsm, hn64, hb⟩; refine Hid.out ?_)
  refine Lib.hid ?_
  obtain ⟨vi, vt, rfl, r1, r2⟩ := id hst
  obtain ⟨sa, sc, rfl⟩ := slice_rowF r1
  obtain ⟨ta, tc, rfl⟩ := slice_rowF r2
  have SV := Lib.hid hst
  replace BB := Lib.hid hb
  have W1 : Hid (w.heap.size ≤ w1.heap.size) := Lib.hid hb.size
  have Hfit : Hid (Fits s) := Lib.hid hsm.fits
  have B1 : Hid (Below w1.heap.size w1 w1) := Lib.hid (Below.refl _ _)
  clear r1 r2 hst hsm hb hc
  obtain ⟨X1, hX1⟩ : ∃ z, z = w1.alloc (.cells #[.slice sa s.items.length sc, .slice ta s.talks.length tc] 27) := ⟨_, rfl⟩
  have hb : Below w1.heap.size w1 X1 := by rw [hX1]; exact (Below.refl _ _).alloc (Nat.le_refl _) _
  replace B1 := tbt B1 hb
  replace BB := tbt BB hb
  have KA : Hid (X1.heap[w1.heap.size]? = some (.cells #[.slice sa s.items.length sc, .slice ta s.talks.length tc] 27 (0, 0))) := Lib.hid (by rw [hX1]; exact heap_new _ _)
  have LA : Hid (w1.heap.size < X1.heap.size) := Lib.hid (by rw [hX1]; simp)
  clear hb
  obtain ⟨E, hE⟩ : ∃ E, E = fmtS s n := ⟨_, rfl⟩
  have HE := Lib.hid hE
  have hEz := fmt_le s n
  rw [← hE] at hEz
  clear hE
  have hc := impl_encode s _ n X1.heap.size X1 (SV.out.later B1.out B1.out.size) (Nat.le_refl _) Hfit.out
  rw [← HE.out] at hc
  have fA0 := tcr KA 0
  have fA1 := tcr KA 1
  rw [hX1] at hc fA0 fA1
  go_wp2_with (go_at_call 13; refine hc.mono ?_; rintro e w2 ⟨rfl, hb⟩; refine Hid.out ?_)
  refine Lib.hid ?_
  rw [← hX1] at hb 
  clear hX1
  replace KA := tkb hb LA KA
  replace LA := tlz LA hb.size
  replace B1 := tbt B1 hb
  replace BB := tbt BB hb
  clear hc hb fA0 fA1
  have hc := spec_encode s _ n w2.heap.size w2 (SV.out.later B1.out B1.out.size) (Nat.le_refl _) Hfit.out
  rw [← HE.out] at hc
  have fA0 := tcr KA 0
  have fA1 := tcr KA 1
  go_wp2_with (go_at_call 14; refine hc.mono ?_; rintro e w3 ⟨rfl, hb⟩; refine Hid.out ?_)
  refine Lib.hid ?_
  replace KA := tkb hb LA KA
  replace LA := tlz LA hb.size
  replace B1 := tbt B1 hb
  replace BB := tbt BB hb
  clear hc hb fA0 fA1
  have hc := spec_stateOk s _ w3.heap.size w3 (SV.out.later B1.out B1.out.size) (Nat.le_refl _) Hfit.out
  have fA0 := tcr KA 0
  have fA1 := tcr KA 1
  go_wp2_with (go_at_call 15; refine hc.mono ?_; rintro e w4 ⟨rfl, hb⟩; refine Hid.out ?_)
  refine Lib.hid ?_
  replace KA := tkb hb LA KA
  replace LA := tlz LA hb.size
  replace B1 := tbt B1 hb
  replace BB := tbt BB hb
  clear hc hb fA0 fA1
  cases hok : stOk s
  · have hEe : E = ⟨#[]⟩ := by rw [HE.out]; exact fmtS_bad (.inl hok)
    clear hok
    have hee : E.toList.isEmpty = true := by rw [hEe]; simp
    clear hEe
    go_wp2_with fail
    go_ret
    exact ⟨rfl, BB.out⟩
  · have Hok := Lib.hid hok
    clear hok
    by_cases h1 : n < 1
    · have hEe : E = ⟨#[]⟩ := by rw [HE.out]; exact fmtS_bad (.inr (by unfold inB; simp; omega))
      have hd : decide (n < 1) = true := by simpa using h1
      have hee : E.toList.isEmpty = true := by rw [hEe]; simp
      clear hEe
      go_wp2_with fail
      go_ret
      exact ⟨rfl, BB.out⟩
    · have hd1 : decide (n < 1) = false := by simpa using h1
      by_cases h3 : 3 < n
      · have hEe : E = ⟨#[]⟩ := by rw [HE.out]; exact fmtS_bad (.inr (by unfold inB; simp; omega))
        have hd : decide (3 < n) = true := by simpa using h3
        have hee : E.toList.isEmpty = true := by rw [hEe]; simp
        clear hEe
        go_wp2_with fail
        go_ret
        exact ⟨rfl, BB.out⟩
      · have hd3 : decide (3 < n) = false := by simpa using h3
        have hin : inB n 1 3 = true := by unfold inB; simp; omega
        obtain ⟨r, hr0⟩ : ∃ r, r = keptS s n := ⟨_, rfl⟩
        have HD : Hid (decS E = (r, n)) := Lib.hid (by rw [HE.out, hr0]; exact dec_back Hok.out hin)
        have HK := Lib.hid hr0
        have N4 : Hid (w1.heap.size < w4.heap.size) := LA
        have hnn : (n == n) = true := by simp
        clear hr0 hin
        have hc := impl_decode E w4 (by omega)
        rw [HD.out] at hc
        go_wp2_with (go_at_call 16; refine hc.mono ?_; rintro e w5 ⟨v2, rfl, hd2, hb, _⟩; refine Hid.out ?_)
        refine Lib.hid ?_
        replace KA := tkb hb LA KA
        replace LA := tlz LA hb.size
        replace B1 := tbt B1 hb
        replace BB := tbt BB hb
        clear hc hb 
        obtain ⟨a0, k0, a1, k1, rfl⟩ := hd2.two
        have SD := Lib.hid hd2
        have N5 : Hid (w1.heap.size < w5.heap.size) := LA
        clear hd2
        obtain ⟨X2, hX2⟩ : ∃ z, z = w5.alloc (.cells #[.slice a0 r.items.length k0, .slice a1 r.talks.length k1] 27) := ⟨_, rfl⟩
        have hb : Below w5.heap.size w5 X2 := by rw [hX2]; exact (Below.refl _ _).alloc (Nat.le_refl _) _
        replace KA := tkb hb LA KA
        replace LA := tlz LA hb.size
        replace B1 := tbt B1 hb
        replace SD := Lib.hid (SD.out.later hb)
        replace BB := tbt BB hb
        have KT : Hid (X2.heap[w5.heap.size]? = some (.cells #[.slice a0 r.items.length k0, .slice a1 r.talks.length k1] 27 (0, 0))) := Lib.hid (by rw [hX2]; exact heap_new _ _)
        have LT : Hid (w5.heap.size < X2.heap.size) := Lib.hid (by rw [hX2]; simp)
        clear hb
        by_cases hv : n = 1
        · have hq : (n == 1) = true := by simp [hv]
          have HR : Hid (r = ⟨s.items, []⟩) := Lib.hid (by rw [HK.out]; unfold keptS; rw [if_pos hv])
          clear hv
          have zA1 := tfr KA 1
          have gA1 := tcr KA 1
          rw [hX2] at zA1 gA1
          obtain ⟨Z, hZ⟩ : ∃ Z, Z = X2.setCell ⟨w1.heap.size, 1, none⟩ (.slice none 0 0) := ⟨_, rfl⟩
          have gZ : X2.grownBy Z (some w1.heap.size) := by rw [hZ]; exact grown_set _ _ _
          have KZ : Hid (Z.heap[w1.heap.size]? = some (.cells #[.slice sa s.items.length sc, .slice none 0 0] 27 (0, 0))) := Lib.hid (by rw [hZ]; exact heap_setCell_same _ _ 1 _ _ _ KA.out)
          have bZ : Below w1.heap.size w1 Z := B1.out.grown gZ B1.out.size (fun j e => by cases e; exact Nat.le_refl _)
          have SZ : Hid (Rd Z Z.heap.size (.agg #[.slice sa s.items.length sc, .slice none 0 0]) r) := Lib.hid (by rw [HR.out]; exact rd_cut (SV.out.later bZ bZ.size).rd)
          have n4 := N4.out
          have n5 := N5.out
          replace KT := tkg gZ LT KT (by simp; omega)
          replace LT := tlz LT gZ.size
          replace LA := tlz LA gZ.size
          replace SD := Lib.hid (SD.out.kept gZ n4)
          replace BB := Lib.hid (BB.out.grown gZ BB.out.size (fun j e => by cases e; exact W1.out))
          clear KA gZ bZ
          have KA := KZ
          clear KZ n4 n5
          have hc := spec_same r r _ _ Z.heap.size Z SD.out.st.rd SZ.out (Nat.le_refl _)
          have fT0 := tcr KT 0
          have fT1 := tcr KT 1
          have fA0 := tcr KA 0
          have fA1 := tcr KA 1
          rw [hZ, hX2] at hc fT0 fT1 fA0 fA1
          go_wp2_with (go_at_call 17; refine hc.mono ?_; rintro e w6 ⟨bb, rfl, hbe, hb⟩; refine Hid.out ?_)
          refine Lib.hid ?_
          rw [← hX2, ← hZ] at hb 
          clear hZ hX2
          replace KA := tkb hb LA KA
          replace LA := tlz LA hb.size
          replace KT := tkb hb LT KT
          replace LT := tlz LT hb.size
          replace SD := Lib.hid (SD.out.later hb)
          replace SZ := Lib.hid (SZ.out.later hb hb.size)
          replace BB := tbt BB hb
          clear hc hb fT0 fT1 fA0 fA1
          obtain rfl : bb = true := hbe.2 (by first | trivial | rfl)
          clear hbe
          have hc := impl_versionOf E w6 (by omega)
          rw [HD.out] at hc
          go_wp2_with (go_at_call 18; refine hc.mono ?_; rintro e w7 ⟨rfl, hb⟩; refine Hid.out ?_)
          refine Lib.hid ?_
          replace KA := tkb hb LA KA
          replace LA := tlz LA hb.size
          replace KT := tkb hb LT KT
          replace LT := tlz LT hb.size
          replace SD := Lib.hid (SD.out.later hb)
          replace SZ := Lib.hid (SZ.out.later hb hb.size)
          replace BB := tbt BB hb
          clear hc hb 
          go_wp2_with fail
          go_ret
          exact ⟨rfl, BB.out⟩
        · have hq : (n == 1) = false := by rw [beq_eq_false_iff_ne]; exact hv
          have hR : s = r := by rw [HK.out]; unfold keptS; rw [if_neg hv]
          have HR := Lib.hid hR
          clear hR hv
          have hc := spec_same r s _ _ X2.heap.size X2 SD.out.st.rd (SV.out.later B1.out B1.out.size).rd (Nat.le_refl _)
          have fT0 := tcr KT 0
          have fT1 := tcr KT 1
          have fA0 := tcr KA 0
          have fA1 := tcr KA 1
          rw [hX2] at hc fT0 fT1 fA0 fA1
          go_wp2_with (go_at_call 17; refine hc.mono ?_; rintro e w6 ⟨bb, rfl, hbe, hb⟩; refine Hid.out ?_)
          refine Lib.hid ?_
          rw [← hX2] at hb 
          clear hX2
          replace KA := tkb hb LA KA
          replace LA := tlz LA hb.size
          replace KT := tkb hb LT KT
          replace LT := tlz LT hb.size
          replace B1 := tbt B1 hb
          replace SD := Lib.hid (SD.out.later hb)
          replace BB := tbt BB hb
          clear hc hb fT0 fT1 fA0 fA1
          obtain rfl : bb = true := hbe.2 HR.out.symm
          clear hbe
          have hc := impl_versionOf E w6 (by omega)
          rw [HD.out] at hc
          go_wp2_with (go_at_call 18; refine hc.mono ?_; rintro e w7 ⟨rfl, hb⟩; refine Hid.out ?_)
          refine Lib.hid ?_
          replace KA := tkb hb LA KA
          replace LA := tlz LA hb.size
          replace KT := tkb hb LT KT
          replace LT := tlz LT hb.size
          replace B1 := tbt B1 hb
          replace SD := Lib.hid (SD.out.later hb)
          replace BB := tbt BB hb
          clear hc hb 
          go_wp2_with fail
          go_ret
          exact ⟨rfl, BB.out⟩
set_option maxRecDepth 100000 in
set_option maxHeartbeats 8000000 in
theorem law_formats (a : Option Addr) (len cap : Nat) (zs : List Int) (w : World) (hr : IsRow .u8 w a len cap zs) :
    Calls Try.prog 6 #[.slice a len cap] w fun e w' => e = .returned (.bool true) ∧ Below w.heap.size w w' := by
  have hr := row8_of hr
  by_cases hbig : 1048576 < len
  · have hd : decide (1048576 < len) = true := by simpa using hbig
    go_enter Try.func6, Try.ntmps6
    go_wp2_with (go_at_call 11; refine (big_any _ _ _ _).mono ?_; rintro e w' ⟨rfl, rfl⟩)
    go_ret
    exact ⟨rfl, Below.refl _ _⟩
  have hd : decide (1048576 < len) = false := by simpa using hbig
  have hlen : len ≤ 1048576 := by omega
  have Hr8 := Lib.hid hr
  have BB : Hid (Below w.heap.size w w) := Lib.hid (Below.refl _ _)
  go_enter Try.func6, Try.ntmps6
  go_wp2_with (go_at_call 11; refine (big_any _ _ _ _).mono ?_; rintro e w' ⟨rfl, rfl⟩; refine Hid.out ?_)
  refine Lib.hid ?_
  clear hd hbig hr
  have hc := drawEncode_any a len cap zs w Hr8.out hlen
  go_wp2_with (go_at_call 12; refine hc.mono ?_; rintro e w1 ⟨v, s, n, rfl, hst, hsm, hn64, hb⟩; refine Hid.out ?_)
  refine Lib.hid ?_
  obtain ⟨vi, vt, rfl, r1, r2⟩ := id hst
  obtain ⟨sa, sc, rfl⟩ := slice_rowF r1
  obtain ⟨ta, tc, rfl⟩ := slice_rowF r2
  have SV := Lib.hid hst
  replace BB := Lib.hid hb
  have W1 : Hid (w.heap.size ≤ w1.heap.size) := Lib.hid hb.size
  have Hfit : Hid (Fits s) := Lib.hid hsm.fits
  have B1 : Hid (Below w1.heap.size w1 w1) := Lib.hid (Below.refl _ _)
  clear r1 r2 hst hsm hb hc
  obtain ⟨X1, hX1⟩ : ∃ z, z = w1.alloc (.cells #[.slice sa s.items.length sc, .slice ta s.talks.length tc] 27) := ⟨_, rfl⟩
  have hb : Below w1.heap.size w1 X1 := by rw [hX1]; exact (Below.refl _ _).alloc (Nat.le_refl _) _
  replace B1 := tbt B1 hb
  replace BB := tbt BB hb
  have KA : Hid (X1.heap[w1.heap.size]? = some (.cells #[.slice sa s.items.length sc, .slice ta s.talks.length tc] 27 (0, 0))) := Lib.hid (by rw [hX1]; exact heap_new _ _)
  have LA : Hid (w1.heap.size < X1.heap.size) := Lib.hid (by rw [hX1]; simp)
  clear hb
  obtain ⟨A, hA⟩ : ∃ E, E = fmtS s 1 := ⟨_, rfl⟩
  have HA := Lib.hid hA
  have zA := fmt_le s 1
  rw [← hA] at zA
  clear hA
  obtain ⟨B, hB⟩ : ∃ E, E = fmtS s 2 := ⟨_, rfl⟩
  have HB := Lib.hid hB
  have zB := fmt_le s 2
  rw [← hB] at zB
  clear hB
  obtain ⟨C, hC⟩ : ∃ E, E = fmtS s 3 := ⟨_, rfl⟩
  have HC := Lib.hid hC
  have zC := fmt_le s 3
  rw [← hC] at zC
  clear hC
  go_wp2_with fail
  rw [← hX1]
  clear hX1
  have FA : Hid (∀ w', Below X1.heap.size X1 w' → w'.cell? ⟨w1.heap.size, 0, none⟩ = some (.slice sa s.items.length sc) ∧ w'.cell? ⟨w1.heap.size, 1, none⟩ = some (.slice ta s.talks.length tc)) := Lib.hid (fun w' h => by have K := tkb h LA KA; exact ⟨tcr K 0, tcr K 1⟩)
  refine wp_region_held_drew (S := (fun w' => Below X1.heap.size X1 w')) (by kernel_rfl) (Below.refl _ _).drew (fun hHeld => ?_)
  obtain ⟨zD, hzD⟩ : ∃ zz, zz = X1.drew := ⟨_, rfl⟩
  rw [← hzD] at hHeld ⊢
  clear hzD
  have BD := Lib.hid hHeld
  refine tk 0 (v := ?_) ?_ ?_; rotate_left
  · refine Or.inl ⟨by rfl, ?_⟩; intro w hSw; obtain ⟨hA0, hA1⟩ := FA.out w hSw; go_simp; first | done | with_reducible rfl
  refine tk 2 (v := ?_) ?_ ?_; rotate_left
  · refine Or.inl ⟨by rfl, ?_⟩; intro w hSw; obtain ⟨hA0, hA1⟩ := FA.out w hSw; go_simp; first | done | with_reducible rfl
  refine tk 4 (v := ?_) ?_ ?_; rotate_left
  · refine Or.inl ⟨by rfl, ?_⟩; intro w hSw; obtain ⟨hA0, hA1⟩ := FA.out w hSw; go_simp; first | done | with_reducible rfl
  refine rd1 1 (fun K hK => ?_)
  go_simp
  have hc := impl_encode s _ 1 zD.heap.size zD ((SV.out.later B1.out B1.out.size).later BD.out BD.out.size) (Nat.le_refl _) Hfit.out
  rw [← HA.out] at hc
  go_at_call 13
  refine hc.mono ?_
  rintro e w2 ⟨rfl, hb⟩
  replace BD := tbt BD hb
  clear hc hb
  go_wp2_with fail
  refine hK.out _ _ BD.out (fun hHeld => ?_)
  clear hK K
  refine rd1 3 (fun K hK => ?_)
  go_simp
  have hc := impl_encode s _ 2 w2.heap.size w2 ((SV.out.later B1.out B1.out.size).later BD.out BD.out.size) (Nat.le_refl _) Hfit.out
  rw [← HB.out] at hc
  go_at_call 13
  refine hc.mono ?_
  rintro e w3 ⟨rfl, hb⟩
  replace BD := tbt BD hb
  clear hc hb
  go_wp2_with fail
  refine hK.out _ _ BD.out (fun hHeld => ?_)
  clear hK K
  refine rd1 5 (fun K hK => ?_)
  go_simp
  have hc := impl_encode s _ 3 w3.heap.size w3 ((SV.out.later B1.out B1.out.size).later BD.out BD.out.size) (Nat.le_refl _) Hfit.out
  rw [← HC.out] at hc
  go_at_call 13
  refine hc.mono ?_
  rintro e w4 ⟨rfl, hb⟩
  replace BD := tbt BD hb
  clear hc hb
  go_wp2_with fail
  refine hK.out _ _ BD.out (fun hHeld => ?_)
  clear hK K
  refine tk0 6 ?_
  refine tk0 7 ?_
  refine tk0 8 ?_
  refine wpAnyH_done (by kernel_rfl) ?_ _
  clear hHeld
  have hb := BD.out
  replace KA := tkb hb LA KA
  replace LA := tlz LA hb.size
  replace B1 := tbt B1 hb
  replace BB := tbt BB hb
  clear hb BD
  clear FA
  have hc := spec_encode s _ 1 w4.heap.size w4 (SV.out.later B1.out B1.out.size) (Nat.le_refl _) Hfit.out
  rw [← HA.out] at hc
  have fA0 := tcr KA 0
  have fA1 := tcr KA 1
  go_wp2_with (go_at_call 14; refine hc.mono ?_; rintro e w5 ⟨rfl, hb⟩; refine Hid.out ?_)
  refine Lib.hid ?_
  replace KA := tkb hb LA KA
  replace LA := tlz LA hb.size
  replace B1 := tbt B1 hb
  replace BB := tbt BB hb
  clear hc hb fA0 fA1
  have hc := spec_encode s _ 2 w5.heap.size w5 (SV.out.later B1.out B1.out.size) (Nat.le_refl _) Hfit.out
  rw [← HB.out] at hc
  have fA0 := tcr KA 0
  have fA1 := tcr KA 1
  go_wp2_with (go_at_call 14; refine hc.mono ?_; rintro e w6 ⟨rfl, hb⟩; refine Hid.out ?_)
  refine Lib.hid ?_
  replace KA := tkb hb LA KA
  replace LA := tlz LA hb.size
  replace B1 := tbt B1 hb
  replace BB := tbt BB hb
  clear hc hb fA0 fA1
  have hc := spec_encode s _ 3 w6.heap.size w6 (SV.out.later B1.out B1.out.size) (Nat.le_refl _) Hfit.out
  rw [← HC.out] at hc
  have fA0 := tcr KA 0
  have fA1 := tcr KA 1
  go_wp2_with (go_at_call 14; refine hc.mono ?_; rintro e w7 ⟨rfl, hb⟩; refine Hid.out ?_)
  refine Lib.hid ?_
  replace KA := tkb hb LA KA
  replace LA := tlz LA hb.size
  replace B1 := tbt B1 hb
  replace BB := tbt BB hb
  clear hc hb fA0 fA1
  have hc := spec_stateOk s _ w7.heap.size w7 (SV.out.later B1.out B1.out.size) (Nat.le_refl _) Hfit.out
  have fA0 := tcr KA 0
  have fA1 := tcr KA 1
  go_wp2_with (go_at_call 15; refine hc.mono ?_; rintro e w8 ⟨rfl, hb⟩; refine Hid.out ?_)
  refine Lib.hid ?_
  replace KA := tkb hb LA KA
  replace LA := tlz LA hb.size
  replace B1 := tbt B1 hb
  replace BB := tbt BB hb
  clear hc hb fA0 fA1
  cases hok : stOk s
  · have eA : A.toList.isEmpty = true := by rw [HA.out, fmtS_bad (.inl hok)]; simp
    have eB : B.toList.isEmpty = true := by rw [HB.out, fmtS_bad (.inl hok)]; simp
    have eC : C.toList.isEmpty = true := by rw [HC.out, fmtS_bad (.inl hok)]; simp
    clear hok
    go_wp2_with fail
    go_ret
    exact ⟨rfl, BB.out⟩
  · obtain ⟨O, hO⟩ : ∃ O, O = bodyB 3 s := ⟨_, rfl⟩
    have eA : A = bodyB 1 s := by rw [HA.out, fmtS_low hok (by rfl) (by decide)]; rfl
    have eB : B = bodyB 2 s := by rw [HB.out, fmtS_low hok (by rfl) (by decide)]; rfl
    have eC : C = sealB O := by rw [HC.out, hO]; exact fmtS_seal hok
    have hs3 := three_sizes s
    have hp3 := three_parts s
    have hz3 := seal_size s
    rw [← hO, ← eA, ← eB] at hs3
    rw [← hO, ← eA, ← eB] at hp3
    rw [← hO, ← eB, ← eC] at hz3
    have HOP : Hid (openB C = (O, true)) := Lib.hid (by rw [eC]; exact seal_open O)
    obtain ⟨q1, q2, q3, q4⟩ := hs3
    have zA2 : (2 : Int) ≤ (A.size : Int) := by omega
    have zB2 : (2 : Int) ≤ (B.size : Int) := by omega
    have zO2 : (2 : Int) ≤ (O.size : Int) := by omega
    have zAB : (A.size : Int) ≤ (B.size : Int) := by omega
    have dAB : decide ((A.size : Int) < (B.size : Int)) = true := by simp; omega
    have wB : IntKind.i64.wrap ((B.size : Int) + 4) = (C.size : Int) := by rw [IntKind.wrap_i64] <;> omega
    have mA2 : 2 ≤ A.size := by omega
    have mB2 : 2 ≤ B.size := by omega
    have mO2 : 2 ≤ O.size := by omega
    have mAB : A.size ≤ B.size := by omega
    have cAB : decide (A.size < B.size) = true := by simp; omega
    have cOB : (O.size == B.size) = true := by rw [beq_iff_eq]; omega
    have cCB : (C.size == B.size + 4) = true := by rw [beq_iff_eq]; omega
    have dOB : ((O.size : Int) == (B.size : Int)) = true := by rw [beq_iff_eq]; omega
    have dCB : ((C.size : Int) == (B.size : Int) + 4) = true := by rw [beq_iff_eq]; omega
    have tAB := str_eq hp3.1
    have tOB := str_eq hp3.2
    have hoz : C.size ≤ 1099511627776 := by omega
    clear eA eB eC hO hok hp3 hz3 q1 q2 q3 q4
    have hc := impl_opened C w8 hoz
    rw [HOP.out] at hc
    go_wp2_with (go_at_call 27; refine hc.mono ?_; rintro e w9 ⟨rfl, hb⟩; refine Hid.out ?_)
    refine Lib.hid ?_
    replace KA := tkb hb LA KA
    replace LA := tlz LA hb.size
    replace B1 := tbt B1 hb
    replace BB := tbt BB hb
    clear hc hb 
    go_wp2_with fail
    refine wp_region_held_drew (S := (fun _ => True)) (by kernel_rfl) trivial (fun hHeld => ?_)
    refine tk0 0 ?_
    refine tk0 1 ?_
    refine tk0 2 ?_
    refine tk0 3 ?_
    refine tk0 4 ?_
    refine tk0 5 ?_
    refine tk0 6 ?_
    refine tk0 7 ?_
    refine tk0 8 ?_
    refine tk0 9 ?_
    refine tk0 10 ?_
    refine tk0 11 ?_
    refine tk0 12 ?_
    refine tk0 13 ?_
    refine tk0 14 ?_
    refine tk0 15 ?_
    refine tk0 16 ?_
    refine tk0 17 ?_
    refine tk0 18 ?_
    refine tk0 19 ?_
    refine tk0 20 ?_
    refine tk0 21 ?_
    refine tk0 22 ?_
    refine tk0 23 ?_
    refine tk0 24 ?_
    refine tk0 25 ?_
    refine tk0 26 ?_
    refine tk0 27 ?_
    refine tk0 28 ?_
    refine tk0 29 ?_
    refine tk0 30 ?_
    refine tk0 31 ?_
    refine tk0 32 ?_
    refine tk0 33 ?_
    refine tk0 34 ?_
    refine tk0 35 ?_
    refine tk0 36 ?_
    refine tk0 37 ?_
    refine tk0 38 ?_
    refine tk0 39 ?_
    refine wpAnyH_done (by kernel_rfl) ?_ _
    clear hHeld
    go_wp2_with fail
    go_ret
    exact ⟨rfl, BB.out.trans ((Below.refl _ _).drew.mono BB.out.size)⟩
end Go.Proofs.Ytmmkiodnlmpbiaa
