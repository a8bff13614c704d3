/- The law FnExport: a state comes back from its stream. Condition: none. -/
import Derived.Test.YtlklhmdpkicpnaaCurA
import Derived.Test.YtlklhmdpkicpnaaDrawExport
import Derived.Test.YtlklhmdpkicpnaaImplExport
import Derived.Test.YtlklhmdpkicpnaaImplImport
import Derived.Test.YtlklhmdpkicpnaaSameRaw
import Derived.Test.YtlklhmdpkicpnaaSpecSame
import Derived.Test.YtlklhmdpkicpnaaExpBack
import Derived.Test.YtlklhmdpkicpnaaVerUp
import Derived.Test.YtlklhmdpkicpnaaBaseA
import Derived.BigQuiet
import Derived.Deep.QuietTactic
namespace Go.Proofs.Ytlklhmdpkicpnaa
open Go.RowKit
set_option linter.unusedVariables false
set_option linter.unusedSimpArgs false

set_option maxRecDepth 100000 in
set_option maxHeartbeats 8000000 in
theorem law_exportU (a : Option Addr) (len cap : Nat) (zs : List Int) (w : World) (hr : IsRow .u8 w a len cap zs) :
    Calls Try.prog 6 #[.slice a len cap] w fun e w' => e = .returned (.bool true) ∧ Below w.heap.size w w' := by
  have hr := row8_of hr
  by_cases hbig : 1048576 < len
  · have hd : decide (1048576 < len) = true := by simpa using hbig
    go_enter Try.func6, Try.ntmps6
    go_wp2_with (go_at_call 17; refine (big_any _ _ _ _).mono ?_; rintro e w' ⟨rfl, rfl⟩)
    go_ret
    exact ⟨rfl, Below.refl _ _⟩
  have hd : decide (1048576 < len) = false := by simpa using hbig
  have hlen : len ≤ 1048576 := by omega
  have Hr8 := Lib.hid hr
  have BB : Hid (Below w.heap.size w w) := Lib.hid (Below.refl _ _)
  go_enter Try.func6, Try.ntmps6
  go_wp2_with (go_at_call 17; refine (big_any _ _ _ _).mono ?_; rintro e w' ⟨rfl, rfl⟩; refine Hid.out ?_)
  refine Lib.hid ?_
  clear hd hbig hr
  have hc := drawExport_any a len cap zs w Hr8.out hlen
  go_wp2_with (go_at_call 34; refine hc.mono ?_; rintro e w1 ⟨v, s, n, k, rfl, hst, hsm, hn64, hk64, hb⟩; refine Hid.out ?_)
  refine Lib.hid ?_
  obtain ⟨vi, vt, rfl, r1, r2⟩ := id hst
  obtain ⟨sa, sc, rfl⟩ := slice_rowX r1
  obtain ⟨ta, tc, rfl⟩ := slice_rowX r2
  have SV := Lib.hid hst
  replace BB := Lib.hid hb
  have W1 : Hid (w.heap.size ≤ w1.heap.size) := Lib.hid hb.size
  have Hfit : Hid (Fits s) := Lib.hid hsm.fits
  have B1 : Hid (Below w1.heap.size w1 w1) := Lib.hid (Below.refl _ _)
  clear r1 r2 hst hsm hb hc
  obtain ⟨X1, hX1⟩ : ∃ z, z = w1.alloc (.cells #[.slice sa s.items.length sc, .slice ta s.talks.length tc] 44) := ⟨_, rfl⟩
  have hb : Below w1.heap.size w1 X1 := by rw [hX1]; exact (Below.refl _ _).alloc (Nat.le_refl _) _
  replace B1 := tbt B1 hb
  replace BB := tbt BB hb
  have KA : Hid (X1.heap[w1.heap.size]? = some (.cells #[.slice sa s.items.length sc, .slice ta s.talks.length tc] 44 (0, 0))) := Lib.hid (by rw [hX1]; exact heap_new _ _)
  have LA : Hid (w1.heap.size < X1.heap.size) := Lib.hid (by rw [hX1]; simp)
  clear hb
  obtain ⟨E, hE⟩ : ∃ E, E = cutS (fmtS s n) k := ⟨_, rfl⟩
  have HE := Lib.hid hE
  have Hmem : Hid (∀ x ∈ E, x.size ≤ 1099511627776) := Lib.hid (fun x hx => by rw [hE] at hx; have := exp_mem x hx; omega)
  have hlnE := exp_len (fmtS s n) k
  rw [← hE] at hlnE
  clear hE
  obtain ⟨R, hR⟩ : ∃ x, x = (importS E).1 := ⟨_, rfl⟩
  obtain ⟨q, hq⟩ : ∃ y, y = (importS E).2 := ⟨_, rfl⟩
  have HR := Lib.hid hR
  have Hq := Lib.hid hq
  clear hR hq
  have hc := impl_export s _ n k X1.heap.size X1 (SV.out.later B1.out B1.out.size) (Nat.le_refl _) Hfit.out
  rw [← HE.out] at hc
  have fA0 := tcr KA 0
  have fA1 := tcr KA 1
  rw [hX1] at hc fA0 fA1
  go_wp2_with (go_at_call 35; refine hc.mono ?_; rintro e w2 ⟨vE, rfl, hE, hb⟩; refine Hid.out ?_)
  refine Lib.hid ?_
  rw [← hX1] at hb hE
  clear hX1
  replace KA := tkb hb LA KA
  replace LA := tlz LA hb.size
  replace B1 := tbt B1 hb
  replace BB := tbt BB hb
  clear hc hb fA0 fA1
  obtain ⟨ea, ec, rfl, hraw⟩ := texts_raw hE
  have RE := Lib.hid hraw
  clear hraw hE
  have hc := spec_export s _ n k w2.heap.size w2 (SV.out.later B1.out B1.out.size) (Nat.le_refl _) Hfit.out
  rw [← HE.out] at hc
  have fA0 := tcr KA 0
  have fA1 := tcr KA 1
  go_wp2_with (go_at_call 36; refine hc.mono ?_; rintro e w3 ⟨vW, rfl, hW, hb⟩; refine Hid.out ?_)
  refine Lib.hid ?_
  replace KA := tkb hb LA KA
  replace LA := tlz LA hb.size
  replace B1 := tbt B1 hb
  replace RE := Lib.hid (RE.out.later hb hb.size)
  replace BB := tbt BB hb
  clear hc hb fA0 fA1
  obtain ⟨wa, wc, rfl, hraw⟩ := texts_raw hW
  have RW := Lib.hid hraw
  clear hraw hW
  have hc := same_raw E _ _ w3.heap.size w3 RE.out RW.out (Nat.le_refl _)
  go_wp2_with (go_at_call 28; refine hc.mono ?_; rintro e w4 ⟨rfl, hb⟩; refine Hid.out ?_)
  refine Lib.hid ?_
  replace KA := tkb hb LA KA
  replace LA := tlz LA hb.size
  replace B1 := tbt B1 hb
  replace RE := Lib.hid (RE.out.later hb hb.size)
  replace RW := Lib.hid (RW.out.later hb hb.size)
  replace BB := tbt BB hb
  clear hc hb 
  clear RW
  have N4 : Hid (w1.heap.size < w4.heap.size) := LA
  have hc := impl_import E _ w4 (by omega) Hmem.out RE.out
  rw [← HR.out, ← Hq.out] at hc
  go_wp2_with (go_at_call 37; refine hc.mono ?_; rintro e w5 ⟨v2, rfl, hd2, hb⟩; refine Hid.out ?_)
  refine Lib.hid ?_
  replace KA := tkb hb LA KA
  replace LA := tlz LA hb.size
  replace B1 := tbt B1 hb
  replace RE := Lib.hid (RE.out.later hb hb.size)
  replace BB := tbt BB hb
  clear hc hb 
  obtain ⟨a0, k0, a1, k1, rfl⟩ := hd2.two
  have SD := Lib.hid hd2
  have N5 : Hid (w1.heap.size < w5.heap.size) := LA
  clear hd2 RE
  obtain ⟨X2, hX2⟩ : ∃ z, z = w5.alloc (.cells #[.slice a0 R.items.length k0, .slice a1 R.talks.length k1] 44) := ⟨_, rfl⟩
  have hb : Below w5.heap.size w5 X2 := by rw [hX2]; exact (Below.refl _ _).alloc (Nat.le_refl _) _
  replace KA := tkb hb LA KA
  replace LA := tlz LA hb.size
  replace B1 := tbt B1 hb
  replace SD := Lib.hid (SD.out.later hb)
  replace BB := tbt BB hb
  have KT : Hid (X2.heap[w5.heap.size]? = some (.cells #[.slice a0 R.items.length k0, .slice a1 R.talks.length k1] 44 (0, 0))) := Lib.hid (by rw [hX2]; exact heap_new _ _)
  have LT : Hid (w5.heap.size < X2.heap.size) := Lib.hid (by rw [hX2]; simp)
  clear hb
  by_cases hE0 : E = []
  · have hl0 : ((E.length : Int) == 0) = true := by rw [hE0]; rfl
    have hq1 : (q == 1) = true := by rw [Hq.out, hE0, imp_none]; rfl
    go_wp2_with fail
    go_ret
    exact ⟨rfl, by rw [← hX2]; exact BB.out⟩
  · have hl0 : ((E.length : Int) == 0) = false := by rw [beq_eq_false_iff_ne]; intro h; exact hE0 (List.eq_nil_of_length_eq_zero (by omega))
    have hback := exp_back (s := s) (n := n) (size := k) (by rw [← HE.out]; exact hE0)
    rw [← HE.out] at hback
    have hRk : R = keptS s n := by rw [HR.out, hback.1]
    have HK := Lib.hid hRk
    have hq0 : (q == 0) = true := by rw [Hq.out, hback.1]; rfl
    clear hback hRk hE0
    by_cases hv : n = 1
    · have hq : (n == 1) = true := by simp [hv]
      have HRR : Hid (R = ⟨s.items, []⟩) := Lib.hid (by rw [HK.out]; unfold keptS; rw [if_pos hv])
      clear hv
      have zA1 := tfr KA 1
      have gA1 := tcr KA 1
      rw [hX2] at zA1 gA1
      obtain ⟨Z, hZ⟩ : ∃ Z, Z = X2.setCell ⟨w1.heap.size, 1, none⟩ (.slice none 0 0) := ⟨_, rfl⟩
      have gZ : X2.grownBy Z (some w1.heap.size) := by rw [hZ]; exact grown_set _ _ _
      have KZ : Hid (Z.heap[w1.heap.size]? = some (.cells #[.slice sa s.items.length sc, .slice none 0 0] 44 (0, 0))) := Lib.hid (by rw [hZ]; exact heap_setCell_same _ _ 1 _ _ _ KA.out)
      have bZ : Below w1.heap.size w1 Z := B1.out.grown gZ B1.out.size (fun j e => by cases e; exact Nat.le_refl _)
      have SZ : Hid (Rd Z Z.heap.size (.agg #[.slice sa s.items.length sc, .slice none 0 0]) R) := Lib.hid (by rw [HRR.out]; exact rd_cutX (SV.out.later bZ bZ.size).rd)
      have n4 := N4.out
      have n5 := N5.out
      replace KT := tkg gZ LT KT (by simp; omega)
      replace LT := tlz LT gZ.size
      replace LA := tlz LA gZ.size
      replace SD := Lib.hid (dv_kept SD.out gZ n4)
      replace BB := Lib.hid (BB.out.grown gZ BB.out.size (fun j e => by cases e; exact W1.out))
      clear KA gZ bZ
      have KA := KZ
      clear KZ n4 n5
      have hc := spec_same R R _ _ Z.heap.size Z SD.out.st.rd SZ.out (Nat.le_refl _)
      have fT0 := tcr KT 0
      have fT1 := tcr KT 1
      have fA0 := tcr KA 0
      have fA1 := tcr KA 1
      rw [hZ, hX2] at hc fT0 fT1 fA0 fA1
      go_wp2_with (go_at_call 38; refine hc.mono ?_; rintro e w6 ⟨bb, rfl, hbe, hb⟩; refine Hid.out ?_)
      refine Lib.hid ?_
      rw [← hX2, ← hZ] at hb 
      clear hZ hX2
      replace KA := tkb hb LA KA
      replace LA := tlz LA hb.size
      replace KT := tkb hb LT KT
      replace LT := tlz LT hb.size
      replace SD := Lib.hid (SD.out.later hb)
      replace SZ := Lib.hid (SZ.out.later hb hb.size)
      replace BB := tbt BB hb
      clear hc hb fT0 fT1 fA0 fA1
      obtain rfl : bb = true := hbe.2 (by first | trivial | rfl)
      clear hbe
      go_wp2_with fail
      go_ret
      exact ⟨rfl, BB.out⟩
    · have hq : (n == 1) = false := by rw [beq_eq_false_iff_ne]; exact hv
      have hR : s = R := by rw [HK.out]; unfold keptS; rw [if_neg hv]
      have HRR := Lib.hid hR
      clear hR hv
      have hc := spec_same R s _ _ X2.heap.size X2 SD.out.st.rd (SV.out.later B1.out B1.out.size).rd (Nat.le_refl _)
      have fT0 := tcr KT 0
      have fT1 := tcr KT 1
      have fA0 := tcr KA 0
      have fA1 := tcr KA 1
      rw [hX2] at hc fT0 fT1 fA0 fA1
      go_wp2_with (go_at_call 38; refine hc.mono ?_; rintro e w6 ⟨bb, rfl, hbe, hb⟩; refine Hid.out ?_)
      refine Lib.hid ?_
      rw [← hX2] at hb 
      clear hX2
      replace KA := tkb hb LA KA
      replace LA := tlz LA hb.size
      replace KT := tkb hb LT KT
      replace LT := tlz LT hb.size
      replace B1 := tbt B1 hb
      replace SD := Lib.hid (SD.out.later hb)
      replace BB := tbt BB hb
      clear hc hb fT0 fT1 fA0 fA1
      obtain rfl : bb = true := hbe.2 HRR.out.symm
      clear hbe
      go_wp2_with fail
      go_ret
      exact ⟨rfl, BB.out⟩
end Go.Proofs.Ytlklhmdpkicpnaa
