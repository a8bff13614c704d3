/- The law FnSizes: it makes no difference in what pieces a state is told. Condition: none. -/
import Derived.Test.YtlklhmdpkicpnaaCurA
import Derived.Test.YtlklhmdpkicpnaaDrawExport
import Derived.Test.YtlklhmdpkicpnaaImplExport
import Derived.Test.YtlklhmdpkicpnaaImplImport
import Derived.Test.YtlklhmdpkicpnaaSameRaw
import Derived.Test.YtlklhmdpkicpnaaSpecSame
import Derived.Test.YtlklhmdpkicpnaaStrA
import Derived.Test.YtlklhmdpkicpnaaVerUp
import Derived.Test.YtlklhmdpkicpnaaBaseA
import Derived.Test.YtlklhmdpkicpnaaLawSeal
import Derived.BigQuiet
import Derived.Deep.QuietTactic
namespace Go.Proofs.Ytlklhmdpkicpnaa
open Go.RowKit
set_option linter.unusedVariables false
set_option linter.unusedSimpArgs false

set_option maxRecDepth 100000 in
set_option maxHeartbeats 8000000 in
theorem law_sizes (a : Option Addr) (len cap : Nat) (zs : List Int) (w : World) (hr : IsRow .u8 w a len cap zs) :
    Calls Try.prog 9 #[.slice a len cap] w fun e w' => e = .returned (.bool true) ∧ Below w.heap.size w w' := by
  have hr := row8_of hr
  by_cases hbig : 1048576 < len
  · have hd : decide (1048576 < len) = true := by simpa using hbig
    go_enter Try.func9, Try.ntmps9
    go_wp2_with (go_at_call 17; refine (big_any _ _ _ _).mono ?_; rintro e w' ⟨rfl, rfl⟩)
    go_ret
    exact ⟨rfl, Below.refl _ _⟩
  have hd : decide (1048576 < len) = false := by simpa using hbig
  have hlen : len ≤ 1048576 := by omega
  have Hr8 := Lib.hid hr
  have BB : Hid (Below w.heap.size w w) := Lib.hid (Below.refl _ _)
  go_enter Try.func9, Try.ntmps9
  go_wp2_with (go_at_call 17; refine (big_any _ _ _ _).mono ?_; rintro e w' ⟨rfl, rfl⟩; refine Hid.out ?_)
  refine Lib.hid ?_
  clear hd hbig hr
  have hc := drawExport_any a len cap zs w Hr8.out hlen
  go_wp2_with (go_at_call 34; refine hc.mono ?_; rintro e w1 ⟨v, s, n, k, rfl, hst, hsm, hn64, hk64, hb⟩; refine Hid.out ?_)
  refine Lib.hid ?_
  obtain ⟨vi, vt, rfl, r1, r2⟩ := id hst
  obtain ⟨sa, sc, rfl⟩ := slice_rowX r1
  obtain ⟨ta, tc, rfl⟩ := slice_rowX r2
  have SV := Lib.hid hst
  replace BB := Lib.hid hb
  have W1 : Hid (w.heap.size ≤ w1.heap.size) := Lib.hid hb.size
  have Hfit : Hid (Fits s) := Lib.hid hsm.fits
  have B1 : Hid (Below w1.heap.size w1 w1) := Lib.hid (Below.refl _ _)
  clear r1 r2 hst hsm hb hc
  obtain ⟨X1, hX1⟩ : ∃ z, z = w1.alloc (.cells #[.slice sa s.items.length sc, .slice ta s.talks.length tc] 44) := ⟨_, rfl⟩
  have hb : Below w1.heap.size w1 X1 := by rw [hX1]; exact (Below.refl _ _).alloc (Nat.le_refl _) _
  replace B1 := tbt B1 hb
  replace BB := tbt BB hb
  have KA : Hid (X1.heap[w1.heap.size]? = some (.cells #[.slice sa s.items.length sc, .slice ta s.talks.length tc] 44 (0, 0))) := Lib.hid (by rw [hX1]; exact heap_new _ _)
  have LA : Hid (w1.heap.size < X1.heap.size) := Lib.hid (by rw [hX1]; simp)
  clear hb
  go_wp2_with fail
  rw [← hX1]
  clear hX1
  have FA : Hid (∀ w', Below X1.heap.size X1 w' → w'.cell? ⟨w1.heap.size, 0, none⟩ = some (.slice sa s.items.length sc) ∧ w'.cell? ⟨w1.heap.size, 1, none⟩ = some (.slice ta s.talks.length tc)) := Lib.hid (fun w' h => by have K := tkb h LA KA; exact ⟨tcr K 0, tcr K 1⟩)
  refine wp_region_held_drew (S := (fun w' => Below X1.heap.size X1 w')) (by kernel_rfl) (Below.refl _ _).drew (fun hHeld => ?_)
  obtain ⟨zD, hzD⟩ : ∃ zz, zz = X1.drew := ⟨_, rfl⟩
  rw [← hzD] at hHeld ⊢
  clear hzD
  have BD := Lib.hid hHeld
  refine tk 0 (v := ?_) ?_ ?_; rotate_left
  · refine Or.inl ⟨by rfl, ?_⟩; intro w hSw; obtain ⟨hA0, hA1⟩ := FA.out w hSw; go_simp; first | done | with_reducible rfl
  refine tk0 1 ?_
  refine tk0 2 ?_
  refine rd2 3 11 (fun K hK => ?_) (fun K hK => ?_)
  · go_simp
    have hc := at_any a len cap zs 0 (by omega) zD (Hr8.out.later (BB.out.trans (BD.out.mono BB.out.size))) hlen
    go_at_call 42
    refine hc.mono ?_
    rintro e w2 ⟨x, hx, rfl, hww⟩
    have hb : Below zD.heap.size zD w2 := by rw [← hww]; exact Below.refl _ _
    clear hww
    replace BD := tbt BD hb
    clear hc hb
    go_wp2_with fail
    refine hK.out _ _ BD.out (fun hHeld => ?_)
    clear hK K
    obtain ⟨m, hm⟩ : ∃ m : Nat, m = 8 + x % 190 := ⟨_, rfl⟩
    have hm1 : 8 ≤ m := by omega
    have hm2 : m ≤ 200 := by omega
    have hwr : IntKind.i64.wrap (8 + (x : Int).tmod 190) = (m : Int) := by rw [Int.tmod_eq_emod_of_nonneg (by omega), IntKind.wrap_i64] <;> omega
    clear hm
    refine tk0 4 ?_
    refine tk0 5 ?_
    obtain ⟨E, hE⟩ : ∃ E, E = cutS (fmtS s n) (m : Int) := ⟨_, rfl⟩
    have HE := Lib.hid hE
    have Hmem : Hid (∀ x ∈ E, x.size ≤ 1099511627776) := Lib.hid (fun x hx => by rw [hE] at hx; have := exp_mem x hx; omega)
    have hlnE := exp_len (fmtS s n) (m : Int)
    rw [← hE] at hlnE
    clear hE
    obtain ⟨R, hR⟩ : ∃ x, x = (importS E).1 := ⟨_, rfl⟩
    obtain ⟨q, hq⟩ : ∃ y, y = (importS E).2 := ⟨_, rfl⟩
    have HR := Lib.hid hR
    have Hq := Lib.hid hq
    clear hR hq
    refine rd2 6 11 (fun K hK => ?_) (fun K hK => ?_)
    · go_simp
      have hc := impl_export s _ n (m : Int) w2.heap.size w2 ((SV.out.later B1.out B1.out.size).later BD.out BD.out.size) (Nat.le_refl _) Hfit.out
      rw [← HE.out] at hc
      go_at_call 35
      refine hc.mono ?_
      rintro e w3 ⟨vE, rfl, hE, hb⟩
      obtain ⟨ea, ec, rfl, hraw⟩ := texts_raw hE
      have RE := Lib.hid hraw
      clear hraw hE
      replace BD := tbt BD hb
      clear hc hb
      go_wp2_with fail
      refine hK.out _ _ BD.out (fun hHeld => ?_)
      clear hK K
      refine rd2 7 11 (fun K hK => ?_) (fun K hK => ?_)
      · go_simp
        have hc := impl_import E _ w3 (by omega) Hmem.out RE.out
        rw [← HR.out, ← Hq.out] at hc
        go_at_call 37
        refine hc.mono ?_
        rintro e w4 ⟨v2, rfl, hd2, hb⟩
        obtain ⟨a0, k0, a1, k1, rfl⟩ := hd2.two
        have SD := Lib.hid hd2
        clear hd2 RE
        replace BD := tbt BD hb
        clear hc hb
        go_wp2_with fail
        refine hK.out _ _ BD.out (fun hHeld => ?_)
        clear hK K
        refine tk0 8 ?_
        refine tk0 9 ?_
        refine tk0 10 ?_
        refine rd1 11 (fun K hK => ?_)
        have SD4 := SD
        obtain ⟨Y0, hY0⟩ : ∃ z, z = w4.alloc (.cells #[.slice none 0 0, .slice none 0 0] 44) := ⟨_, rfl⟩
        have hb : Below w4.heap.size w4 Y0 := by rw [hY0]; exact (Below.refl _ _).alloc (Nat.le_refl _) _
        have KZ : Hid (Y0.heap[w4.heap.size]? = some (.cells #[.slice none 0 0, .slice none 0 0] 44 (0, 0))) := Lib.hid (by rw [hY0]; exact heap_new _ _)
        have LZ : Hid (w4.heap.size < Y0.heap.size) := Lib.hid (by rw [hY0]; simp)
        have NZ : Hid (X1.heap.size ≤ w4.heap.size) := Lib.hid BD.out.size
        go_simp
        rw [← hY0]
        replace BD := tbt BD hb
        refine hK.out _ _ BD.out (fun hHeld => ?_)
        have BZ := Lib.hid hb
        clear hK K hY0 hb
        obtain ⟨Ya, hYa⟩ : ∃ z, z = Y0.setCell ⟨w4.heap.size, 0, none⟩ (.slice a0 R.items.length k0) := ⟨_, rfl⟩
        obtain ⟨Y1, hY1⟩ : ∃ z, z = Ya.setCell ⟨w4.heap.size, 1, none⟩ (.slice a1 R.talks.length k1) := ⟨_, rfl⟩
        have ga : Y0.grownBy Ya (some w4.heap.size) := by rw [hYa]; exact grown_set _ _ _
        have gb : Ya.grownBy Y1 (some w4.heap.size) := by rw [hY1]; exact grown_set _ _ _
        have KT : Hid (Y1.heap[w4.heap.size]? = some (.cells #[.slice a0 R.items.length k0, .slice a1 R.talks.length k1] 44 (0, 0))) := Lib.hid (by rw [hY1, hYa]; exact heap_setCell_same _ _ 1 _ _ _ (heap_setCell_same _ _ 0 _ _ _ KZ.out))
        have LT : Hid (w4.heap.size < Y1.heap.size) := Lib.hid (by have := LZ.out; have := ga.size; have := gb.size; omega)
        have z0 := tfr KZ 0
        have z1 := tfr KZ 1
        have g0 := tcr KZ 0
        have g1 := tcr KZ 1
        refine rd1 12 (fun K hK => ?_)
        go_simp
        rw [← hYa, ← hY1]
        have BDa : Below X1.heap.size X1 Ya := BD.out.grown ga BD.out.size (fun j e => by cases e; exact NZ.out)
        replace BD := Lib.hid (BDa.grown gb BDa.size (fun j e => by cases e; exact NZ.out))
        have hlt : Below w4.heap.size w4 Y1 := by rw [hY1, hYa]; exact ((BZ.out).setCell (p := ⟨w4.heap.size, 0, none⟩) (Nat.le_refl _) _).setCell (p := ⟨w4.heap.size, 1, none⟩) (Nat.le_refl _) _
        replace SD := Lib.hid (SD4.out.later hlt)
        clear hlt SD4 BZ
        refine hK.out _ _ BD.out (fun hHeld => ?_)
        clear hK K z0 z1 g0 g1 KZ hY1 hYa ga gb BDa
        refine tk0 13 ?_
        refine wpAnyH_done (by kernel_rfl) ?_ _
        clear hHeld
        have hb := BD.out
        replace KA := tkb hb LA KA
        replace LA := tlz LA hb.size
        replace B1 := tbt B1 hb
        replace BB := tbt BB hb
        clear hb BD
        clear FA
        obtain ⟨F, hE⟩ : ∃ E, E = cutS (fmtS s n) (200 : Int) := ⟨_, rfl⟩
        have HF := Lib.hid hE
        have Hmem2 : Hid (∀ x ∈ F, x.size ≤ 1099511627776) := Lib.hid (fun x hx => by rw [hE] at hx; have := exp_mem x hx; omega)
        have hlnF := exp_len (fmtS s n) (200 : Int)
        rw [← hE] at hlnF
        clear hE
        obtain ⟨R2, hR⟩ : ∃ x, x = (importS F).1 := ⟨_, rfl⟩
        obtain ⟨q2, hq⟩ : ∃ y, y = (importS F).2 := ⟨_, rfl⟩
        have HR2 := Lib.hid hR
        have Hq2 := Lib.hid hq
        clear hR hq
        have hc := impl_export s _ n 200 Y1.heap.size Y1 (SV.out.later B1.out B1.out.size) (Nat.le_refl _) Hfit.out
        rw [← HF.out] at hc
        have fA0 := tcr KA 0
        have fA1 := tcr KA 1
        go_wp2_with (go_at_call 35; refine hc.mono ?_; rintro e w5 ⟨vF, rfl, hF5, hb⟩; refine Hid.out ?_)
        refine Lib.hid ?_
        replace KA := tkb hb LA KA
        replace LA := tlz LA hb.size
        replace KT := tkb hb LT KT
        replace LT := tlz LT hb.size
        replace B1 := tbt B1 hb
        replace SD := Lib.hid (SD.out.later hb)
        replace BB := tbt BB hb
        clear hc hb fA0 fA1
        obtain ⟨fa, fc, rfl, hraw⟩ := texts_raw hF5
        have RF := Lib.hid hraw
        clear hraw hF5
        have hc := impl_import F _ w5 (by omega) Hmem2.out RF.out
        rw [← HR2.out, ← Hq2.out] at hc
        go_wp2_with (go_at_call 37; refine hc.mono ?_; rintro e w6 ⟨v6, rfl, hd6, hb⟩; refine Hid.out ?_)
        refine Lib.hid ?_
        replace KA := tkb hb LA KA
        replace LA := tlz LA hb.size
        replace KT := tkb hb LT KT
        replace LT := tlz LT hb.size
        replace B1 := tbt B1 hb
        replace SD := Lib.hid (SD.out.later hb)
        replace RF := Lib.hid (RF.out.later hb hb.size)
        replace BB := tbt BB hb
        clear hc hb 
        obtain ⟨d0, l0, d1, l1, rfl⟩ := hd6.two
        have SF := Lib.hid hd6
        clear hd6 RF
        obtain ⟨X3, hX3⟩ : ∃ z, z = w6.alloc (.cells #[.slice d0 R2.items.length l0, .slice d1 R2.talks.length l1] 44) := ⟨_, rfl⟩
        have hb : Below w6.heap.size w6 X3 := by rw [hX3]; exact (Below.refl _ _).alloc (Nat.le_refl _) _
        replace KA := tkb hb LA KA
        replace LA := tlz LA hb.size
        replace KT := tkb hb LT KT
        replace LT := tlz LT hb.size
        replace B1 := tbt B1 hb
        replace SD := Lib.hid (SD.out.later hb)
        replace SF := Lib.hid (SF.out.later hb)
        replace BB := tbt BB hb
        have KU : Hid (X3.heap[w6.heap.size]? = some (.cells #[.slice d0 R2.items.length l0, .slice d1 R2.talks.length l1] 44 (0, 0))) := Lib.hid (by rw [hX3]; exact heap_new _ _)
        have LU : Hid (w6.heap.size < X3.heap.size) := Lib.hid (by rw [hX3]; simp)
        clear hb
        have hc := spec_stateOk s _ X3.heap.size X3 (SV.out.later B1.out B1.out.size) (Nat.le_refl _) Hfit.out
        have fA0 := tcr KA 0
        have fA1 := tcr KA 1
        rw [hX3] at hc fA0 fA1
        go_wp2_with (go_at_call 43; refine hc.mono ?_; rintro e w7 ⟨rfl, hb⟩; refine Hid.out ?_)
        refine Lib.hid ?_
        rw [← hX3] at hb 
        clear hX3
        replace KA := tkb hb LA KA
        replace LA := tlz LA hb.size
        replace KT := tkb hb LT KT
        replace LT := tlz LT hb.size
        replace KU := tkb hb LU KU
        replace LU := tlz LU hb.size
        replace B1 := tbt B1 hb
        replace SD := Lib.hid (SD.out.later hb)
        replace SF := Lib.hid (SF.out.later hb)
        replace BB := tbt BB hb
        clear hc hb fA0 fA1
        by_cases hok : stOk s = true ∧ inB n 1 3 = true
        · have hin := inB_true hok.2
          have h1 : ¬ n < 1 := by omega
          have h3 : ¬ 3 < n := by omega
          have hrE : importS E = (keptS s n, 0) := by rw [HE.out]; exact exp_read hok.1 hok.2 hm1 hm2
          have hrF : importS F = (keptS s n, 0) := by rw [HF.out]; exact exp_read (m := 200) hok.1 hok.2 (by omega) (by omega)
          have hq0 : (q == 0) = true := by rw [Hq.out, hrE]; rfl
          have hq20 : (q2 == 0) = true := by rw [Hq2.out, hrF]; rfl
          have hRR : R2 = R := by rw [HR2.out, HR.out, hrE, hrF]
          have hst := hok.1
          clear hrE hrF hin hok
          subst hRR
          have hc := spec_same R2 R2 _ _ w7.heap.size w7 SD.out.st.rd SF.out.st.rd (Nat.le_refl _)
          have fT0 := tcr KT 0
          have fT1 := tcr KT 1
          have fU0 := tcr KU 0
          have fU1 := tcr KU 1
          go_wp2_with (go_at_call 38; refine hc.mono ?_; rintro e w8 ⟨bb, rfl, hbe, hb⟩; refine Hid.out ?_)
          refine Lib.hid ?_
          replace KA := tkb hb LA KA
          replace LA := tlz LA hb.size
          replace KT := tkb hb LT KT
          replace LT := tlz LT hb.size
          replace KU := tkb hb LU KU
          replace LU := tlz LU hb.size
          replace B1 := tbt B1 hb
          replace SD := Lib.hid (SD.out.later hb)
          replace SF := Lib.hid (SF.out.later hb)
          replace BB := tbt BB hb
          clear hc hb fT0 fT1 fU0 fU1
          obtain rfl : bb = true := hbe.2 (by first | trivial | rfl)
          clear hbe
          go_wp2_with fail
          go_ret
          exact ⟨rfl, BB.out⟩
        · have hq1 : (q == 1) = true := by rw [Hq.out, HE.out, exp_none hok, imp_none]; rfl
          have hq21 : (q2 == 1) = true := by rw [Hq2.out, HF.out, exp_none hok, imp_none]; rfl
          by_cases hs0 : stOk s = true
          · by_cases h1 : n < 1
            · go_wp2_with fail
              go_ret
              exact ⟨rfl, BB.out⟩
            by_cases h3 : 3 < n
            · go_wp2_with fail
              go_ret
              exact ⟨rfl, BB.out⟩
            exact absurd ⟨hs0, by unfold inB; simp; omega⟩ hok
          have hs1 : stOk s = false := by simpa using hs0
          rw [hs1]
          go_wp2_with fail
          go_ret
          exact ⟨rfl, BB.out⟩
      · obtain ⟨Y0, hY0⟩ : ∃ z, z = w3.alloc (.cells #[.slice none 0 0, .slice none 0 0] 44) := ⟨_, rfl⟩
        have hb : Below w3.heap.size w3 Y0 := by rw [hY0]; exact (Below.refl _ _).alloc (Nat.le_refl _) _
        have KZ : Hid (Y0.heap[w3.heap.size]? = some (.cells #[.slice none 0 0, .slice none 0 0] 44 (0, 0))) := Lib.hid (by rw [hY0]; exact heap_new _ _)
        have LZ : Hid (w3.heap.size < Y0.heap.size) := Lib.hid (by rw [hY0]; simp)
        have NZ : Hid (X1.heap.size ≤ w3.heap.size) := Lib.hid BD.out.size
        go_simp
        rw [← hY0]
        replace BD := tbt BD hb
        replace RE := Lib.hid (RE.out.later hb hb.size)
        refine hK.out _ _ BD.out (fun hHeld => ?_)
        clear hK K hY0 hb
        refine rd1 7 (fun K hK => ?_)
        go_simp
        have hc := impl_import E _ Y0 (by omega) Hmem.out RE.out
        rw [← HR.out, ← Hq.out] at hc
        go_at_call 37
        refine hc.mono ?_
        rintro e w4 ⟨v2, rfl, hd2, hb⟩
        obtain ⟨a0, k0, a1, k1, rfl⟩ := hd2.two
        have SD := Lib.hid hd2
        have HBS : Hid (w3.heap.size < Y0.heap.size) := LZ
        clear hd2 RE
        replace KZ := tkb hb LZ KZ
        replace LZ := tlz LZ hb.size
        replace BD := tbt BD hb
        clear hc hb
        go_wp2_with fail
        refine hK.out _ _ BD.out (fun hHeld => ?_)
        clear hK K
        refine tk0 8 ?_
        refine tk0 9 ?_
        refine tk0 10 ?_
        obtain ⟨Ya, hYa⟩ : ∃ z, z = w4.setCell ⟨w3.heap.size, 0, none⟩ (.slice a0 R.items.length k0) := ⟨_, rfl⟩
        obtain ⟨Y1, hY1⟩ : ∃ z, z = Ya.setCell ⟨w3.heap.size, 1, none⟩ (.slice a1 R.talks.length k1) := ⟨_, rfl⟩
        have ga : w4.grownBy Ya (some w3.heap.size) := by rw [hYa]; exact grown_set _ _ _
        have gb : Ya.grownBy Y1 (some w3.heap.size) := by rw [hY1]; exact grown_set _ _ _
        have KT : Hid (Y1.heap[w3.heap.size]? = some (.cells #[.slice a0 R.items.length k0, .slice a1 R.talks.length k1] 44 (0, 0))) := Lib.hid (by rw [hY1, hYa]; exact heap_setCell_same _ _ 1 _ _ _ (heap_setCell_same _ _ 0 _ _ _ KZ.out))
        have LT : Hid (w3.heap.size < Y1.heap.size) := Lib.hid (by have := LZ.out; have := ga.size; have := gb.size; omega)
        have z0 := tfr KZ 0
        have z1 := tfr KZ 1
        have g0 := tcr KZ 0
        have g1 := tcr KZ 1
        refine rd1 12 (fun K hK => ?_)
        go_simp
        rw [← hYa, ← hY1]
        have BDa : Below X1.heap.size X1 Ya := BD.out.grown ga BD.out.size (fun j e => by cases e; exact NZ.out)
        replace BD := Lib.hid (BDa.grown gb BDa.size (fun j e => by cases e; exact NZ.out))
        have hbs := HBS.out
        replace SD := Lib.hid (dv_kept (dv_kept SD.out ga hbs) gb hbs)
        refine hK.out _ _ BD.out (fun hHeld => ?_)
        clear hK K z0 z1 g0 g1 KZ hY1 hYa ga gb BDa
        refine tk0 13 ?_
        refine wpAnyH_done (by kernel_rfl) ?_ _
        clear hHeld
        have hb := BD.out
        replace KA := tkb hb LA KA
        replace LA := tlz LA hb.size
        replace B1 := tbt B1 hb
        replace BB := tbt BB hb
        clear hb BD
        clear FA
        obtain ⟨F, hE⟩ : ∃ E, E = cutS (fmtS s n) (200 : Int) := ⟨_, rfl⟩
        have HF := Lib.hid hE
        have Hmem2 : Hid (∀ x ∈ F, x.size ≤ 1099511627776) := Lib.hid (fun x hx => by rw [hE] at hx; have := exp_mem x hx; omega)
        have hlnF := exp_len (fmtS s n) (200 : Int)
        rw [← hE] at hlnF
        clear hE
        obtain ⟨R2, hR⟩ : ∃ x, x = (importS F).1 := ⟨_, rfl⟩
        obtain ⟨q2, hq⟩ : ∃ y, y = (importS F).2 := ⟨_, rfl⟩
        have HR2 := Lib.hid hR
        have Hq2 := Lib.hid hq
        clear hR hq
        have hc := impl_export s _ n 200 Y1.heap.size Y1 (SV.out.later B1.out B1.out.size) (Nat.le_refl _) Hfit.out
        rw [← HF.out] at hc
        have fA0 := tcr KA 0
        have fA1 := tcr KA 1
        go_wp2_with (go_at_call 35; refine hc.mono ?_; rintro e w5 ⟨vF, rfl, hF5, hb⟩; refine Hid.out ?_)
        refine Lib.hid ?_
        replace KA := tkb hb LA KA
        replace LA := tlz LA hb.size
        replace KT := tkb hb LT KT
        replace LT := tlz LT hb.size
        replace B1 := tbt B1 hb
        replace SD := Lib.hid (SD.out.later hb)
        replace BB := tbt BB hb
        clear hc hb fA0 fA1
        obtain ⟨fa, fc, rfl, hraw⟩ := texts_raw hF5
        have RF := Lib.hid hraw
        clear hraw hF5
        have hc := impl_import F _ w5 (by omega) Hmem2.out RF.out
        rw [← HR2.out, ← Hq2.out] at hc
        go_wp2_with (go_at_call 37; refine hc.mono ?_; rintro e w6 ⟨v6, rfl, hd6, hb⟩; refine Hid.out ?_)
        refine Lib.hid ?_
        replace KA := tkb hb LA KA
        replace LA := tlz LA hb.size
        replace KT := tkb hb LT KT
        replace LT := tlz LT hb.size
        replace B1 := tbt B1 hb
        replace SD := Lib.hid (SD.out.later hb)
        replace RF := Lib.hid (RF.out.later hb hb.size)
        replace BB := tbt BB hb
        clear hc hb 
        obtain ⟨d0, l0, d1, l1, rfl⟩ := hd6.two
        have SF := Lib.hid hd6
        clear hd6 RF
        obtain ⟨X3, hX3⟩ : ∃ z, z = w6.alloc (.cells #[.slice d0 R2.items.length l0, .slice d1 R2.talks.length l1] 44) := ⟨_, rfl⟩
        have hb : Below w6.heap.size w6 X3 := by rw [hX3]; exact (Below.refl _ _).alloc (Nat.le_refl _) _
        replace KA := tkb hb LA KA
        replace LA := tlz LA hb.size
        replace KT := tkb hb LT KT
        replace LT := tlz LT hb.size
        replace B1 := tbt B1 hb
        replace SD := Lib.hid (SD.out.later hb)
        replace SF := Lib.hid (SF.out.later hb)
        replace BB := tbt BB hb
        have KU : Hid (X3.heap[w6.heap.size]? = some (.cells #[.slice d0 R2.items.length l0, .slice d1 R2.talks.length l1] 44 (0, 0))) := Lib.hid (by rw [hX3]; exact heap_new _ _)
        have LU : Hid (w6.heap.size < X3.heap.size) := Lib.hid (by rw [hX3]; simp)
        clear hb
        have hc := spec_stateOk s _ X3.heap.size X3 (SV.out.later B1.out B1.out.size) (Nat.le_refl _) Hfit.out
        have fA0 := tcr KA 0
        have fA1 := tcr KA 1
        rw [hX3] at hc fA0 fA1
        go_wp2_with (go_at_call 43; refine hc.mono ?_; rintro e w7 ⟨rfl, hb⟩; refine Hid.out ?_)
        refine Lib.hid ?_
        rw [← hX3] at hb 
        clear hX3
        replace KA := tkb hb LA KA
        replace LA := tlz LA hb.size
        replace KT := tkb hb LT KT
        replace LT := tlz LT hb.size
        replace KU := tkb hb LU KU
        replace LU := tlz LU hb.size
        replace B1 := tbt B1 hb
        replace SD := Lib.hid (SD.out.later hb)
        replace SF := Lib.hid (SF.out.later hb)
        replace BB := tbt BB hb
        clear hc hb fA0 fA1
        by_cases hok : stOk s = true ∧ inB n 1 3 = true
        · have hin := inB_true hok.2
          have h1 : ¬ n < 1 := by omega
          have h3 : ¬ 3 < n := by omega
          have hrE : importS E = (keptS s n, 0) := by rw [HE.out]; exact exp_read hok.1 hok.2 hm1 hm2
          have hrF : importS F = (keptS s n, 0) := by rw [HF.out]; exact exp_read (m := 200) hok.1 hok.2 (by omega) (by omega)
          have hq0 : (q == 0) = true := by rw [Hq.out, hrE]; rfl
          have hq20 : (q2 == 0) = true := by rw [Hq2.out, hrF]; rfl
          have hRR : R2 = R := by rw [HR2.out, HR.out, hrE, hrF]
          have hst := hok.1
          clear hrE hrF hin hok
          subst hRR
          have hc := spec_same R2 R2 _ _ w7.heap.size w7 SD.out.st.rd SF.out.st.rd (Nat.le_refl _)
          have fT0 := tcr KT 0
          have fT1 := tcr KT 1
          have fU0 := tcr KU 0
          have fU1 := tcr KU 1
          go_wp2_with (go_at_call 38; refine hc.mono ?_; rintro e w8 ⟨bb, rfl, hbe, hb⟩; refine Hid.out ?_)
          refine Lib.hid ?_
          replace KA := tkb hb LA KA
          replace LA := tlz LA hb.size
          replace KT := tkb hb LT KT
          replace LT := tlz LT hb.size
          replace KU := tkb hb LU KU
          replace LU := tlz LU hb.size
          replace B1 := tbt B1 hb
          replace SD := Lib.hid (SD.out.later hb)
          replace SF := Lib.hid (SF.out.later hb)
          replace BB := tbt BB hb
          clear hc hb fT0 fT1 fU0 fU1
          obtain rfl : bb = true := hbe.2 (by first | trivial | rfl)
          clear hbe
          go_wp2_with fail
          go_ret
          exact ⟨rfl, BB.out⟩
        · have hq1 : (q == 1) = true := by rw [Hq.out, HE.out, exp_none hok, imp_none]; rfl
          have hq21 : (q2 == 1) = true := by rw [Hq2.out, HF.out, exp_none hok, imp_none]; rfl
          by_cases hs0 : stOk s = true
          · by_cases h1 : n < 1
            · go_wp2_with fail
              go_ret
              exact ⟨rfl, BB.out⟩
            by_cases h3 : 3 < n
            · go_wp2_with fail
              go_ret
              exact ⟨rfl, BB.out⟩
            exact absurd ⟨hs0, by unfold inB; simp; omega⟩ hok
          have hs1 : stOk s = false := by simpa using hs0
          rw [hs1]
          go_wp2_with fail
          go_ret
          exact ⟨rfl, BB.out⟩
    · obtain ⟨Y0, hY0⟩ : ∃ z, z = w2.alloc (.cells #[.slice none 0 0, .slice none 0 0] 44) := ⟨_, rfl⟩
      have hb : Below w2.heap.size w2 Y0 := by rw [hY0]; exact (Below.refl _ _).alloc (Nat.le_refl _) _
      have KZ : Hid (Y0.heap[w2.heap.size]? = some (.cells #[.slice none 0 0, .slice none 0 0] 44 (0, 0))) := Lib.hid (by rw [hY0]; exact heap_new _ _)
      have LZ : Hid (w2.heap.size < Y0.heap.size) := Lib.hid (by rw [hY0]; simp)
      have NZ : Hid (X1.heap.size ≤ w2.heap.size) := Lib.hid BD.out.size
      go_simp
      rw [← hY0]
      replace BD := tbt BD hb
      refine hK.out _ _ BD.out (fun hHeld => ?_)
      clear hK K hY0 hb
      refine rd1 6 (fun K hK => ?_)
      go_simp
      have hc := impl_export s _ n (m : Int) Y0.heap.size Y0 ((SV.out.later B1.out B1.out.size).later BD.out BD.out.size) (Nat.le_refl _) Hfit.out
      rw [← HE.out] at hc
      go_at_call 35
      refine hc.mono ?_
      rintro e w3 ⟨vE, rfl, hE, hb⟩
      obtain ⟨ea, ec, rfl, hraw⟩ := texts_raw hE
      have RE := Lib.hid hraw
      clear hraw hE
      replace KZ := tkb hb LZ KZ
      replace LZ := tlz LZ hb.size
      replace BD := tbt BD hb
      clear hc hb
      go_wp2_with fail
      refine hK.out _ _ BD.out (fun hHeld => ?_)
      clear hK K
      refine rd1 7 (fun K hK => ?_)
      go_simp
      have hc := impl_import E _ w3 (by omega) Hmem.out RE.out
      rw [← HR.out, ← Hq.out] at hc
      go_at_call 37
      refine hc.mono ?_
      rintro e w4 ⟨v2, rfl, hd2, hb⟩
      obtain ⟨a0, k0, a1, k1, rfl⟩ := hd2.two
      have SD := Lib.hid hd2
      have HBS : Hid (w2.heap.size < w3.heap.size) := LZ
      clear hd2 RE
      replace KZ := tkb hb LZ KZ
      replace LZ := tlz LZ hb.size
      replace BD := tbt BD hb
      clear hc hb
      go_wp2_with fail
      refine hK.out _ _ BD.out (fun hHeld => ?_)
      clear hK K
      refine tk0 8 ?_
      refine tk0 9 ?_
      refine tk0 10 ?_
      obtain ⟨Ya, hYa⟩ : ∃ z, z = w4.setCell ⟨w2.heap.size, 0, none⟩ (.slice a0 R.items.length k0) := ⟨_, rfl⟩
      obtain ⟨Y1, hY1⟩ : ∃ z, z = Ya.setCell ⟨w2.heap.size, 1, none⟩ (.slice a1 R.talks.length k1) := ⟨_, rfl⟩
      have ga : w4.grownBy Ya (some w2.heap.size) := by rw [hYa]; exact grown_set _ _ _
      have gb : Ya.grownBy Y1 (some w2.heap.size) := by rw [hY1]; exact grown_set _ _ _
      have KT : Hid (Y1.heap[w2.heap.size]? = some (.cells #[.slice a0 R.items.length k0, .slice a1 R.talks.length k1] 44 (0, 0))) := Lib.hid (by rw [hY1, hYa]; exact heap_setCell_same _ _ 1 _ _ _ (heap_setCell_same _ _ 0 _ _ _ KZ.out))
      have LT : Hid (w2.heap.size < Y1.heap.size) := Lib.hid (by have := LZ.out; have := ga.size; have := gb.size; omega)
      have z0 := tfr KZ 0
      have z1 := tfr KZ 1
      have g0 := tcr KZ 0
      have g1 := tcr KZ 1
      refine rd1 12 (fun K hK => ?_)
      go_simp
      rw [← hYa, ← hY1]
      have BDa : Below X1.heap.size X1 Ya := BD.out.grown ga BD.out.size (fun j e => by cases e; exact NZ.out)
      replace BD := Lib.hid (BDa.grown gb BDa.size (fun j e => by cases e; exact NZ.out))
      have hbs := HBS.out
      replace SD := Lib.hid (dv_kept (dv_kept SD.out ga hbs) gb hbs)
      refine hK.out _ _ BD.out (fun hHeld => ?_)
      clear hK K z0 z1 g0 g1 KZ hY1 hYa ga gb BDa
      refine tk0 13 ?_
      refine wpAnyH_done (by kernel_rfl) ?_ _
      clear hHeld
      have hb := BD.out
      replace KA := tkb hb LA KA
      replace LA := tlz LA hb.size
      replace B1 := tbt B1 hb
      replace BB := tbt BB hb
      clear hb BD
      clear FA
      obtain ⟨F, hE⟩ : ∃ E, E = cutS (fmtS s n) (200 : Int) := ⟨_, rfl⟩
      have HF := Lib.hid hE
      have Hmem2 : Hid (∀ x ∈ F, x.size ≤ 1099511627776) := Lib.hid (fun x hx => by rw [hE] at hx; have := exp_mem x hx; omega)
      have hlnF := exp_len (fmtS s n) (200 : Int)
      rw [← hE] at hlnF
      clear hE
      obtain ⟨R2, hR⟩ : ∃ x, x = (importS F).1 := ⟨_, rfl⟩
      obtain ⟨q2, hq⟩ : ∃ y, y = (importS F).2 := ⟨_, rfl⟩
      have HR2 := Lib.hid hR
      have Hq2 := Lib.hid hq
      clear hR hq
      have hc := impl_export s _ n 200 Y1.heap.size Y1 (SV.out.later B1.out B1.out.size) (Nat.le_refl _) Hfit.out
      rw [← HF.out] at hc
      have fA0 := tcr KA 0
      have fA1 := tcr KA 1
      go_wp2_with (go_at_call 35; refine hc.mono ?_; rintro e w5 ⟨vF, rfl, hF5, hb⟩; refine Hid.out ?_)
      refine Lib.hid ?_
      replace KA := tkb hb LA KA
      replace LA := tlz LA hb.size
      replace KT := tkb hb LT KT
      replace LT := tlz LT hb.size
      replace B1 := tbt B1 hb
      replace SD := Lib.hid (SD.out.later hb)
      replace BB := tbt BB hb
      clear hc hb fA0 fA1
      obtain ⟨fa, fc, rfl, hraw⟩ := texts_raw hF5
      have RF := Lib.hid hraw
      clear hraw hF5
      have hc := impl_import F _ w5 (by omega) Hmem2.out RF.out
      rw [← HR2.out, ← Hq2.out] at hc
      go_wp2_with (go_at_call 37; refine hc.mono ?_; rintro e w6 ⟨v6, rfl, hd6, hb⟩; refine Hid.out ?_)
      refine Lib.hid ?_
      replace KA := tkb hb LA KA
      replace LA := tlz LA hb.size
      replace KT := tkb hb LT KT
      replace LT := tlz LT hb.size
      replace B1 := tbt B1 hb
      replace SD := Lib.hid (SD.out.later hb)
      replace RF := Lib.hid (RF.out.later hb hb.size)
      replace BB := tbt BB hb
      clear hc hb 
      obtain ⟨d0, l0, d1, l1, rfl⟩ := hd6.two
      have SF := Lib.hid hd6
      clear hd6 RF
      obtain ⟨X3, hX3⟩ : ∃ z, z = w6.alloc (.cells #[.slice d0 R2.items.length l0, .slice d1 R2.talks.length l1] 44) := ⟨_, rfl⟩
      have hb : Below w6.heap.size w6 X3 := by rw [hX3]; exact (Below.refl _ _).alloc (Nat.le_refl _) _
      replace KA := tkb hb LA KA
      replace LA := tlz LA hb.size
      replace KT := tkb hb LT KT
      replace LT := tlz LT hb.size
      replace B1 := tbt B1 hb
      replace SD := Lib.hid (SD.out.later hb)
      replace SF := Lib.hid (SF.out.later hb)
      replace BB := tbt BB hb
      have KU : Hid (X3.heap[w6.heap.size]? = some (.cells #[.slice d0 R2.items.length l0, .slice d1 R2.talks.length l1] 44 (0, 0))) := Lib.hid (by rw [hX3]; exact heap_new _ _)
      have LU : Hid (w6.heap.size < X3.heap.size) := Lib.hid (by rw [hX3]; simp)
      clear hb
      have hc := spec_stateOk s _ X3.heap.size X3 (SV.out.later B1.out B1.out.size) (Nat.le_refl _) Hfit.out
      have fA0 := tcr KA 0
      have fA1 := tcr KA 1
      rw [hX3] at hc fA0 fA1
      go_wp2_with (go_at_call 43; refine hc.mono ?_; rintro e w7 ⟨rfl, hb⟩; refine Hid.out ?_)
      refine Lib.hid ?_
      rw [← hX3] at hb 
      clear hX3
      replace KA := tkb hb LA KA
      replace LA := tlz LA hb.size
      replace KT := tkb hb LT KT
      replace LT := tlz LT hb.size
      replace KU := tkb hb LU KU
      replace LU := tlz LU hb.size
      replace B1 := tbt B1 hb
      replace SD := Lib.hid (SD.out.later hb)
      replace SF := Lib.hid (SF.out.later hb)
      replace BB := tbt BB hb
      clear hc hb fA0 fA1
      by_cases hok : stOk s = true ∧ inB n 1 3 = true
      · have hin := inB_true hok.2
        have h1 : ¬ n < 1 := by omega
        have h3 : ¬ 3 < n := by omega
        have hrE : importS E = (keptS s n, 0) := by rw [HE.out]; exact exp_read hok.1 hok.2 hm1 hm2
        have hrF : importS F = (keptS s n, 0) := by rw [HF.out]; exact exp_read (m := 200) hok.1 hok.2 (by omega) (by omega)
        have hq0 : (q == 0) = true := by rw [Hq.out, hrE]; rfl
        have hq20 : (q2 == 0) = true := by rw [Hq2.out, hrF]; rfl
        have hRR : R2 = R := by rw [HR2.out, HR.out, hrE, hrF]
        have hst := hok.1
        clear hrE hrF hin hok
        subst hRR
        have hc := spec_same R2 R2 _ _ w7.heap.size w7 SD.out.st.rd SF.out.st.rd (Nat.le_refl _)
        have fT0 := tcr KT 0
        have fT1 := tcr KT 1
        have fU0 := tcr KU 0
        have fU1 := tcr KU 1
        go_wp2_with (go_at_call 38; refine hc.mono ?_; rintro e w8 ⟨bb, rfl, hbe, hb⟩; refine Hid.out ?_)
        refine Lib.hid ?_
        replace KA := tkb hb LA KA
        replace LA := tlz LA hb.size
        replace KT := tkb hb LT KT
        replace LT := tlz LT hb.size
        replace KU := tkb hb LU KU
        replace LU := tlz LU hb.size
        replace B1 := tbt B1 hb
        replace SD := Lib.hid (SD.out.later hb)
        replace SF := Lib.hid (SF.out.later hb)
        replace BB := tbt BB hb
        clear hc hb fT0 fT1 fU0 fU1
        obtain rfl : bb = true := hbe.2 (by first | trivial | rfl)
        clear hbe
        go_wp2_with fail
        go_ret
        exact ⟨rfl, BB.out⟩
      · have hq1 : (q == 1) = true := by rw [Hq.out, HE.out, exp_none hok, imp_none]; rfl
        have hq21 : (q2 == 1) = true := by rw [Hq2.out, HF.out, exp_none hok, imp_none]; rfl
        by_cases hs0 : stOk s = true
        · by_cases h1 : n < 1
          · go_wp2_with fail
            go_ret
            exact ⟨rfl, BB.out⟩
          by_cases h3 : 3 < n
          · go_wp2_with fail
            go_ret
            exact ⟨rfl, BB.out⟩
          exact absurd ⟨hs0, by unfold inB; simp; omega⟩ hok
        have hs1 : stOk s = false := by simpa using hs0
        rw [hs1]
        go_wp2_with fail
        go_ret
        exact ⟨rfl, BB.out⟩
  · obtain ⟨Y0, hY0⟩ : ∃ z, z = zD.alloc (.cells #[.slice none 0 0, .slice none 0 0] 44) := ⟨_, rfl⟩
    have hb : Below zD.heap.size zD Y0 := by rw [hY0]; exact (Below.refl _ _).alloc (Nat.le_refl _) _
    have KZ : Hid (Y0.heap[zD.heap.size]? = some (.cells #[.slice none 0 0, .slice none 0 0] 44 (0, 0))) := Lib.hid (by rw [hY0]; exact heap_new _ _)
    have LZ : Hid (zD.heap.size < Y0.heap.size) := Lib.hid (by rw [hY0]; simp)
    have NZ : Hid (X1.heap.size ≤ zD.heap.size) := Lib.hid BD.out.size
    go_simp
    rw [← hY0]
    replace BD := tbt BD hb
    refine hK.out _ _ BD.out (fun hHeld => ?_)
    clear hK K hY0 hb
    refine rd1 3 (fun K hK => ?_)
    go_simp
    have hc := at_any a len cap zs 0 (by omega) Y0 (Hr8.out.later (BB.out.trans (BD.out.mono BB.out.size))) hlen
    go_at_call 42
    refine hc.mono ?_
    rintro e w2 ⟨x, hx, rfl, hww⟩
    have hb : Below Y0.heap.size Y0 w2 := by rw [← hww]; exact Below.refl _ _
    clear hww
    replace KZ := tkb hb LZ KZ
    replace LZ := tlz LZ hb.size
    replace BD := tbt BD hb
    clear hc hb
    go_wp2_with fail
    refine hK.out _ _ BD.out (fun hHeld => ?_)
    clear hK K
    obtain ⟨m, hm⟩ : ∃ m : Nat, m = 8 + x % 190 := ⟨_, rfl⟩
    have hm1 : 8 ≤ m := by omega
    have hm2 : m ≤ 200 := by omega
    have hwr : IntKind.i64.wrap (8 + (x : Int).tmod 190) = (m : Int) := by rw [Int.tmod_eq_emod_of_nonneg (by omega), IntKind.wrap_i64] <;> omega
    clear hm
    refine tk0 4 ?_
    refine tk0 5 ?_
    obtain ⟨E, hE⟩ : ∃ E, E = cutS (fmtS s n) (m : Int) := ⟨_, rfl⟩
    have HE := Lib.hid hE
    have Hmem : Hid (∀ x ∈ E, x.size ≤ 1099511627776) := Lib.hid (fun x hx => by rw [hE] at hx; have := exp_mem x hx; omega)
    have hlnE := exp_len (fmtS s n) (m : Int)
    rw [← hE] at hlnE
    clear hE
    obtain ⟨R, hR⟩ : ∃ x, x = (importS E).1 := ⟨_, rfl⟩
    obtain ⟨q, hq⟩ : ∃ y, y = (importS E).2 := ⟨_, rfl⟩
    have HR := Lib.hid hR
    have Hq := Lib.hid hq
    clear hR hq
    refine rd1 6 (fun K hK => ?_)
    go_simp
    have hc := impl_export s _ n (m : Int) w2.heap.size w2 ((SV.out.later B1.out B1.out.size).later BD.out BD.out.size) (Nat.le_refl _) Hfit.out
    rw [← HE.out] at hc
    go_at_call 35
    refine hc.mono ?_
    rintro e w3 ⟨vE, rfl, hE, hb⟩
    obtain ⟨ea, ec, rfl, hraw⟩ := texts_raw hE
    have RE := Lib.hid hraw
    clear hraw hE
    replace KZ := tkb hb LZ KZ
    replace LZ := tlz LZ hb.size
    replace BD := tbt BD hb
    clear hc hb
    go_wp2_with fail
    refine hK.out _ _ BD.out (fun hHeld => ?_)
    clear hK K
    refine rd1 7 (fun K hK => ?_)
    go_simp
    have hc := impl_import E _ w3 (by omega) Hmem.out RE.out
    rw [← HR.out, ← Hq.out] at hc
    go_at_call 37
    refine hc.mono ?_
    rintro e w4 ⟨v2, rfl, hd2, hb⟩
    obtain ⟨a0, k0, a1, k1, rfl⟩ := hd2.two
    have SD := Lib.hid hd2
    have HBS : Hid (zD.heap.size < w3.heap.size) := LZ
    clear hd2 RE
    replace KZ := tkb hb LZ KZ
    replace LZ := tlz LZ hb.size
    replace BD := tbt BD hb
    clear hc hb
    go_wp2_with fail
    refine hK.out _ _ BD.out (fun hHeld => ?_)
    clear hK K
    refine tk0 8 ?_
    refine tk0 9 ?_
    refine tk0 10 ?_
    obtain ⟨Ya, hYa⟩ : ∃ z, z = w4.setCell ⟨zD.heap.size, 0, none⟩ (.slice a0 R.items.length k0) := ⟨_, rfl⟩
    obtain ⟨Y1, hY1⟩ : ∃ z, z = Ya.setCell ⟨zD.heap.size, 1, none⟩ (.slice a1 R.talks.length k1) := ⟨_, rfl⟩
    have ga : w4.grownBy Ya (some zD.heap.size) := by rw [hYa]; exact grown_set _ _ _
    have gb : Ya.grownBy Y1 (some zD.heap.size) := by rw [hY1]; exact grown_set _ _ _
    have KT : Hid (Y1.heap[zD.heap.size]? = some (.cells #[.slice a0 R.items.length k0, .slice a1 R.talks.length k1] 44 (0, 0))) := Lib.hid (by rw [hY1, hYa]; exact heap_setCell_same _ _ 1 _ _ _ (heap_setCell_same _ _ 0 _ _ _ KZ.out))
    have LT : Hid (zD.heap.size < Y1.heap.size) := Lib.hid (by have := LZ.out; have := ga.size; have := gb.size; omega)
    have z0 := tfr KZ 0
    have z1 := tfr KZ 1
    have g0 := tcr KZ 0
    have g1 := tcr KZ 1
    refine rd1 12 (fun K hK => ?_)
    go_simp
    rw [← hYa, ← hY1]
    have BDa : Below X1.heap.size X1 Ya := BD.out.grown ga BD.out.size (fun j e => by cases e; exact NZ.out)
    replace BD := Lib.hid (BDa.grown gb BDa.size (fun j e => by cases e; exact NZ.out))
    have hbs := HBS.out
    replace SD := Lib.hid (dv_kept (dv_kept SD.out ga hbs) gb hbs)
    refine hK.out _ _ BD.out (fun hHeld => ?_)
    clear hK K z0 z1 g0 g1 KZ hY1 hYa ga gb BDa
    refine tk0 13 ?_
    refine wpAnyH_done (by kernel_rfl) ?_ _
    clear hHeld
    have hb := BD.out
    replace KA := tkb hb LA KA
    replace LA := tlz LA hb.size
    replace B1 := tbt B1 hb
    replace BB := tbt BB hb
    clear hb BD
    clear FA
    obtain ⟨F, hE⟩ : ∃ E, E = cutS (fmtS s n) (200 : Int) := ⟨_, rfl⟩
    have HF := Lib.hid hE
    have Hmem2 : Hid (∀ x ∈ F, x.size ≤ 1099511627776) := Lib.hid (fun x hx => by rw [hE] at hx; have := exp_mem x hx; omega)
    have hlnF := exp_len (fmtS s n) (200 : Int)
    rw [← hE] at hlnF
    clear hE
    obtain ⟨R2, hR⟩ : ∃ x, x = (importS F).1 := ⟨_, rfl⟩
    obtain ⟨q2, hq⟩ : ∃ y, y = (importS F).2 := ⟨_, rfl⟩
    have HR2 := Lib.hid hR
    have Hq2 := Lib.hid hq
    clear hR hq
    have hc := impl_export s _ n 200 Y1.heap.size Y1 (SV.out.later B1.out B1.out.size) (Nat.le_refl _) Hfit.out
    rw [← HF.out] at hc
    have fA0 := tcr KA 0
    have fA1 := tcr KA 1
    go_wp2_with (go_at_call 35; refine hc.mono ?_; rintro e w5 ⟨vF, rfl, hF5, hb⟩; refine Hid.out ?_)
    refine Lib.hid ?_
    replace KA := tkb hb LA KA
    replace LA := tlz LA hb.size
    replace KT := tkb hb LT KT
    replace LT := tlz LT hb.size
    replace B1 := tbt B1 hb
    replace SD := Lib.hid (SD.out.later hb)
    replace BB := tbt BB hb
    clear hc hb fA0 fA1
    obtain ⟨fa, fc, rfl, hraw⟩ := texts_raw hF5
    have RF := Lib.hid hraw
    clear hraw hF5
    have hc := impl_import F _ w5 (by omega) Hmem2.out RF.out
    rw [← HR2.out, ← Hq2.out] at hc
    go_wp2_with (go_at_call 37; refine hc.mono ?_; rintro e w6 ⟨v6, rfl, hd6, hb⟩; refine Hid.out ?_)
    refine Lib.hid ?_
    replace KA := tkb hb LA KA
    replace LA := tlz LA hb.size
    replace KT := tkb hb LT KT
    replace LT := tlz LT hb.size
    replace B1 := tbt B1 hb
    replace SD := Lib.hid (SD.out.later hb)
    replace RF := Lib.hid (RF.out.later hb hb.size)
    replace BB := tbt BB hb
    clear hc hb 
    obtain ⟨d0, l0, d1, l1, rfl⟩ := hd6.two
    have SF := Lib.hid hd6
    clear hd6 RF
    obtain ⟨X3, hX3⟩ : ∃ z, z = w6.alloc (.cells #[.slice d0 R2.items.length l0, .slice d1 R2.talks.length l1] 44) := ⟨_, rfl⟩
    have hb : Below w6.heap.size w6 X3 := by rw [hX3]; exact (Below.refl _ _).alloc (Nat.le_refl _) _
    replace KA := tkb hb LA KA
    replace LA := tlz LA hb.size
    replace KT := tkb hb LT KT
    replace LT := tlz LT hb.size
    replace B1 := tbt B1 hb
    replace SD := Lib.hid (SD.out.later hb)
    replace SF := Lib.hid (SF.out.later hb)
    replace BB := tbt BB hb
    have KU : Hid (X3.heap[w6.heap.size]? = some (.cells #[.slice d0 R2.items.length l0, .slice d1 R2.talks.length l1] 44 (0, 0))) := Lib.hid (by rw [hX3]; exact heap_new _ _)
    have LU : Hid (w6.heap.size < X3.heap.size) := Lib.hid (by rw [hX3]; simp)
    clear hb
    have hc := spec_stateOk s _ X3.heap.size X3 (SV.out.later B1.out B1.out.size) (Nat.le_refl _) Hfit.out
    have fA0 := tcr KA 0
    have fA1 := tcr KA 1
    rw [hX3] at hc fA0 fA1
    go_wp2_with (go_at_call 43; refine hc.mono ?_; rintro e w7 ⟨rfl, hb⟩; refine Hid.out ?_)
    refine Lib.hid ?_
    rw [← hX3] at hb 
    clear hX3
    replace KA := tkb hb LA KA
    replace LA := tlz LA hb.size
    replace KT := tkb hb LT KT
    replace LT := tlz LT hb.size
    replace KU := tkb hb LU KU
    replace LU := tlz LU hb.size
    replace B1 := tbt B1 hb
    replace SD := Lib.hid (SD.out.later hb)
    replace SF := Lib.hid (SF.out.later hb)
    replace BB := tbt BB hb
    clear hc hb fA0 fA1
    by_cases hok : stOk s = true ∧ inB n 1 3 = true
    · have hin := inB_true hok.2
      have h1 : ¬ n < 1 := by omega
      have h3 : ¬ 3 < n := by omega
      have hrE : importS E = (keptS s n, 0) := by rw [HE.out]; exact exp_read hok.1 hok.2 hm1 hm2
      have hrF : importS F = (keptS s n, 0) := by rw [HF.out]; exact exp_read (m := 200) hok.1 hok.2 (by omega) (by omega)
      have hq0 : (q == 0) = true := by rw [Hq.out, hrE]; rfl
      have hq20 : (q2 == 0) = true := by rw [Hq2.out, hrF]; rfl
      have hRR : R2 = R := by rw [HR2.out, HR.out, hrE, hrF]
      have hst := hok.1
      clear hrE hrF hin hok
      subst hRR
      have hc := spec_same R2 R2 _ _ w7.heap.size w7 SD.out.st.rd SF.out.st.rd (Nat.le_refl _)
      have fT0 := tcr KT 0
      have fT1 := tcr KT 1
      have fU0 := tcr KU 0
      have fU1 := tcr KU 1
      go_wp2_with (go_at_call 38; refine hc.mono ?_; rintro e w8 ⟨bb, rfl, hbe, hb⟩; refine Hid.out ?_)
      refine Lib.hid ?_
      replace KA := tkb hb LA KA
      replace LA := tlz LA hb.size
      replace KT := tkb hb LT KT
      replace LT := tlz LT hb.size
      replace KU := tkb hb LU KU
      replace LU := tlz LU hb.size
      replace B1 := tbt B1 hb
      replace SD := Lib.hid (SD.out.later hb)
      replace SF := Lib.hid (SF.out.later hb)
      replace BB := tbt BB hb
      clear hc hb fT0 fT1 fU0 fU1
      obtain rfl : bb = true := hbe.2 (by first | trivial | rfl)
      clear hbe
      go_wp2_with fail
      go_ret
      exact ⟨rfl, BB.out⟩
    · have hq1 : (q == 1) = true := by rw [Hq.out, HE.out, exp_none hok, imp_none]; rfl
      have hq21 : (q2 == 1) = true := by rw [Hq2.out, HF.out, exp_none hok, imp_none]; rfl
      by_cases hs0 : stOk s = true
      · by_cases h1 : n < 1
        · go_wp2_with fail
          go_ret
          exact ⟨rfl, BB.out⟩
        by_cases h3 : 3 < n
        · go_wp2_with fail
          go_ret
          exact ⟨rfl, BB.out⟩
        exact absurd ⟨hs0, by unfold inB; simp; omega⟩ hok
      have hs1 : stOk s = false := by simpa using hs0
      rw [hs1]
      go_wp2_with fail
      go_ret
      exact ⟨rfl, BB.out⟩
end Go.Proofs.Ytlklhmdpkicpnaa
