/- The laws FnSplit, FnAgain: parts put together again are the whole, and each has its own; parts that are parted anew are the parts of the whole. Condition: none. -/
import Derived.Test.YtebmaplflpfjbaaBaseA
import Derived.Test.YtebmaplflpfjbaaBig
import Derived.Test.YtebmaplflpfjbaaDrawSplit
import Derived.Test.YtebmaplflpfjbaaSameStates
import Derived.Test.YtebmaplflpfjbaaImplMerge
import Derived.Test.YtebmaplflpfjbaaSpecAdd
namespace Go.Proofs.Ytebmaplflpfjbaa
open Go.RowKit
set_option linter.unusedVariables false
set_option linter.unusedSimpArgs false

theorem slice_row_len {w : World} {B sz n : Nat} {v : Value} {cs : List Value} (h : Row w B sz v n cs) : ∃ a c, v = .slice a n c := by
  rcases h with ⟨_, ⟨rfl, rfl⟩ | ⟨g, o, cap, rfl, _⟩⟩ <;> exact ⟨_, _, rfl⟩
theorem at_low (a : Option Addr) (len cap : Nat) (zs : List Int) (i : Nat) (hi : i ≤ 5) (w : World) (hr : Row8 w w.heap.size a len cap zs) (hl : len ≤ 1048576) :
    Calls Try.prog 30 #[.slice a len cap, .int .i64 i] w fun e w' => ∃ x : Nat, x < 256 ∧ e = .returned (.int .i64 x) ∧ w = w' := by
  by_cases h : i < len
  · obtain ⟨b, off, z, rfl, hb, hcell, hz0, hz1, hzz⟩ := hr.byte i h
    clear hzz
    obtain ⟨x, rfl⟩ := Int.eq_ofNat_of_zero_le hz0
    go_enter Try.func30, Try.ntmps30
    go_wp2_with fail
    go_ret
    exact ⟨x, by omega, rfl, rfl⟩
  · have hv : Hid (((i : Int) * 7 + (len : Int)).tmod 256 = (((i * 7 + len) % 256 : Nat) : Int)) := Lib.hid (by rw [Int.tmod_eq_emod_of_nonneg (by omega)]; omega)
    go_enter Try.func30, Try.ntmps30
    go_wp2_with fail
    go_ret
    exact ⟨(i * 7 + len) % 256, by omega, ret_int (by rw [← hv.out]; rfl), rfl⟩

set_option maxRecDepth 100000 in
set_option maxHeartbeats 8000000 in
theorem law_splits (a : Option Addr) (len cap : Nat) (zs : List Int) (w : World) (hr : IsRow .u8 w a len cap zs) :
    Calls Try.prog 4 #[.slice a len cap] w fun e w' => e = .returned (.bool true) ∧ Below w.heap.size w w' := by
  have hr := row8_of hr
  by_cases hbig : 1048576 < len
  · have hd : decide (1048576 < len) = true := by simpa using hbig
    go_enter Try.func4, Try.ntmps4
    go_wp2_with (go_at_call 11; refine (big_any _ _ _ _).mono ?_; rintro e w' ⟨rfl, rfl⟩)
    go_ret
    exact ⟨rfl, Below.refl _ _⟩
  · have hd : decide (1048576 < len) = false := by simpa using hbig
    have hlen : len ≤ 1048576 := by omega
    have Hr8 := Lib.hid hr
    go_enter Try.func4, Try.ntmps4
    go_wp2_with (first | (go_at_call 11; refine (big_any _ _ _ _).mono ?_; rintro e w' ⟨rfl, rfl⟩) | (go_at_call 16; refine (drawSplit_any a len cap zs _ hr hlen).mono ?_; rintro e w1 ⟨v, s, n, rfl, hst, hsm, hn64, hb⟩; refine Hid.out ?_))
    refine Lib.hid ?_
    obtain ⟨vi, vt, rfl, r1, r2⟩ := id hst
    obtain ⟨sa, sc, rfl⟩ := slice_row_len r1
    obtain ⟨ta, tc, rfl⟩ := slice_row_len r2
    have SV := Lib.hid hst
    have BB : Hid (Below w.heap.size w w1) := Lib.hid hb
    have Hfit : Hid (Fits s) := Lib.hid hsm.fits
    have B1 : Hid (Below w1.heap.size w1 w1) := Lib.hid (Below.refl _ _)
    clear r1 r2 hst hsm hb hr hd
    obtain ⟨X1, hX1⟩ : ∃ z, z = w1.alloc (.cells #[.slice sa s.items.length sc, .slice ta s.talks.length tc] 31) := ⟨_, rfl⟩
    have hb : Below w1.heap.size w1 X1 := by rw [hX1]; exact (Below.refl _ _).alloc (Nat.le_refl _) _
    replace B1 := tbt B1 hb
    replace BB := tbt BB hb
    have KA : Hid (X1.heap[w1.heap.size]? = some (.cells #[.slice sa s.items.length sc, .slice ta s.talks.length tc] 31 (0, 0))) := Lib.hid (by rw [hX1]; exact heap_new _ _)
    have LA : Hid (w1.heap.size < X1.heap.size) := Lib.hid (by rw [hX1]; simp)
    clear hb
    have hc := impl_split s _ n X1.heap.size X1 (SV.out.later B1.out B1.out.size) (Nat.le_refl _) Hfit.out hn64
    have fA0 := tcr KA 0
    have fA1 := tcr KA 1
    rw [hX1] at hc fA0 fA1
    go_wp2_with (go_at_call 17; refine hc.mono ?_; rintro e w2 ⟨vL, qL, rfl, hoL, hmL, hb⟩; refine Hid.out ?_)
    refine Lib.hid ?_
    rw [← hX1] at hb hoL
    clear hX1
    replace KA := tkb hb LA KA
    replace LA := tlz LA hb.size
    replace B1 := tbt B1 hb
    replace BB := tbt BB hb
    clear hc hb fA0 fA1
    have ML := Lib.hid hmL
    have OL := Lib.hid hoL
    obtain ⟨aL, cL, rfl⟩ := hoL.slice
    clear hmL hoL
    have hc := spec_split s _ n w2.heap.size w2 (SV.out.later B1.out B1.out.size) (Nat.le_refl _) Hfit.out hn64
    have fA0 := tcr KA 0
    have fA1 := tcr KA 1
    go_wp2_with (go_at_call 19; refine hc.mono ?_; rintro e w3 ⟨gW, cW, qW, rfl, hgW, hmW, hb⟩; refine Hid.out ?_)
    refine Lib.hid ?_
    replace KA := tkb hb LA KA
    replace LA := tlz LA hb.size
    replace B1 := tbt B1 hb
    replace OL := Lib.hid (OL.out.later hb)
    replace BB := tbt BB hb
    clear hc hb fA0 fA1
    have hc := same_states qL qW _ _ w3.heap.size w3 OL.out.rd hgW.rd (Nat.le_refl _) (by rw [ML.out, hmW])
    go_wp2_with (go_at_call 18; refine hc.mono ?_; rintro e w4 ⟨rfl, hb⟩; refine Hid.out ?_)
    refine Lib.hid ?_
    replace KA := tkb hb LA KA
    replace LA := tlz LA hb.size
    replace B1 := tbt B1 hb
    replace OL := Lib.hid (OL.out.later hb)
    replace BB := tbt BB hb
    clear hc hb 
    clear hgW hmW
    have hc := spec_stateOk s _ w4.heap.size w4 (SV.out.later B1.out B1.out.size) (Nat.le_refl _) Hfit.out
    have fA0 := tcr KA 0
    have fA1 := tcr KA 1
    go_wp2_with (go_at_call 20; refine hc.mono ?_; rintro e w5 ⟨rfl, hb⟩; refine Hid.out ?_)
    refine Lib.hid ?_
    replace KA := tkb hb LA KA
    replace LA := tlz LA hb.size
    replace B1 := tbt B1 hb
    replace OL := Lib.hid (OL.out.later hb)
    replace BB := tbt BB hb
    clear hc hb fA0 fA1
    cases hok : stOk s
    · have hl0 : qL.length = 0 := by rw [split_none ML.out (.inl hok)]; rfl
      rw [hl0]
      clear hok
      go_wp2_with fail
      go_ret
      exact ⟨rfl, BB.out⟩
    · have Hok := Lib.hid hok
      clear hok
      by_cases h1 : n < 1
      · have hl0 : qL.length = 0 := by rw [split_none ML.out (.inr (by simp [inB]; omega))]; rfl
        rw [hl0]
        have hd : decide (n < 1) = true := by simpa using h1
        go_wp2_with fail
        go_ret
        exact ⟨rfl, BB.out⟩
      · have hd1 : decide (n < 1) = false := by simpa using h1
        by_cases h8 : 8 < n
        · have hl0 : qL.length = 0 := by rw [split_none ML.out (.inr (by simp [inB]; omega))]; rfl
          rw [hl0]
          have hd : decide (8 < n) = true := by simpa using h8
          go_wp2_with fail
          go_ret
          exact ⟨rfl, BB.out⟩
        · have hd8 : decide (8 < n) = false := by simpa using h8
          have Hin : Hid (inB n 1 8 = true) := Lib.hid (by simp [inB]; omega)
          have hc := impl_merge qL _ w5.heap.size w5 OL.out.stl (Nat.le_refl _) (by have := split_few ML.out; omega) (split_fits ML.out).1
          rw [ML.out, merge_split Hok.out Hin.out, show (some s).isSome = true from rfl] at hc
          go_wp2_with (go_at_call 21; refine hc.mono ?_; rintro e w6 ⟨vM, rfl, hM, hb⟩; refine Hid.out ?_)
          refine Lib.hid ?_
          replace KA := tkb hb LA KA
          replace LA := tlz LA hb.size
          replace B1 := tbt B1 hb
          replace OL := Lib.hid (OL.out.later hb)
          replace BB := tbt BB hb
          clear hc hb 
          have hM : OwnC w6 w5.heap.size vM s := hM
          have SM := Lib.hid hM.stv.rd
          obtain ⟨gi, ci, gt, ct, rfl, _, _, _⟩ := hM
          have B6 : Hid (Below w6.heap.size w6 w6) := Lib.hid (Below.refl _ _)
          obtain ⟨X2, hX2⟩ : ∃ z, z = w6.alloc (.cells #[.slice (some ⟨gi, 0, none⟩) s.items.length ci, .slice (some ⟨gt, 0, none⟩) s.talks.length ct] 31) := ⟨_, rfl⟩
          have hb : Below w6.heap.size w6 X2 := by rw [hX2]; exact (Below.refl _ _).alloc (Nat.le_refl _) _
          replace KA := tkb hb LA KA
          replace LA := tlz LA hb.size
          replace B1 := tbt B1 hb
          replace OL := Lib.hid (OL.out.later hb)
          replace B6 := tbt B6 hb
          replace BB := tbt BB hb
          have KM : Hid (X2.heap[w6.heap.size]? = some (.cells #[.slice (some ⟨gi, 0, none⟩) s.items.length ci, .slice (some ⟨gt, 0, none⟩) s.talks.length ct] 31 (0, 0))) := Lib.hid (by rw [hX2]; exact heap_new _ _)
          have LM : Hid (w6.heap.size < X2.heap.size) := Lib.hid (by rw [hX2]; simp)
          clear hb
          have hnn : (qL.length : Int) = n := split_len ML.out Hok.out Hin.out
          have hdn : decide ((qL.length : Int) = n) = true := by simpa using hnn
          have Hnn := Lib.hid hnn
          clear hnn hd1 hd8 h1 h8
          have hc := impl_apart qL _ X2.heap.size X2 OL.out.rd (Nat.le_refl _) (split_fits ML.out).2
          rw [ML.out, apart_split Hok.out Hin.out] at hc
          rw [hX2] at hc 
          go_wp2_with (go_at_call 22; refine hc.mono ?_; rintro e w7 ⟨rfl, hb⟩; refine Hid.out ?_)
          refine Lib.hid ?_
          rw [← hX2] at hb 
          clear hX2
          replace KA := tkb hb LA KA
          replace LA := tlz LA hb.size
          replace KM := tkb hb LM KM
          replace LM := tlz LM hb.size
          replace B1 := tbt B1 hb
          replace OL := Lib.hid (OL.out.later hb)
          replace B6 := tbt B6 hb
          replace BB := tbt BB hb
          clear hc hb 
          have hc := spec_same s s _ _ w7.heap.size w7 (SM.out.later B6.out B6.out.size) (SV.out.later B1.out B1.out.size).rd (Nat.le_refl _)
          have fM0 := tcr KM 0
          have fM1 := tcr KM 1
          have fA0 := tcr KA 0
          have fA1 := tcr KA 1
          go_wp2_with (go_at_call 23; refine hc.mono ?_; rintro e w8 ⟨bb, rfl, hbe, hb⟩; refine Hid.out ?_)
          refine Lib.hid ?_
          replace KA := tkb hb LA KA
          replace LA := tlz LA hb.size
          replace KM := tkb hb LM KM
          replace LM := tlz LM hb.size
          replace B1 := tbt B1 hb
          replace OL := Lib.hid (OL.out.later hb)
          replace B6 := tbt B6 hb
          replace BB := tbt BB hb
          clear hc hb fM0 fM1 fA0 fA1
          obtain rfl : bb = true := hbe.2 (by first | trivial | rfl)
          clear hbe
          go_wp2_with fail
          go_ret
          exact ⟨rfl, BB.out⟩
set_option maxRecDepth 100000 in
set_option maxHeartbeats 8000000 in
theorem law_again (a : Option Addr) (len cap : Nat) (zs : List Int) (w : World) (hr : IsRow .u8 w a len cap zs) :
    Calls Try.prog 6 #[.slice a len cap] w fun e w' => e = .returned (.bool true) ∧ Below w.heap.size w w' := by
  have hr := row8_of hr
  by_cases hbig : 1048576 < len
  · have hd : decide (1048576 < len) = true := by simpa using hbig
    go_enter Try.func6, Try.ntmps6
    go_wp2_with (go_at_call 11; refine (big_any _ _ _ _).mono ?_; rintro e w' ⟨rfl, rfl⟩)
    go_ret
    exact ⟨rfl, Below.refl _ _⟩
  · have hd : decide (1048576 < len) = false := by simpa using hbig
    have hlen : len ≤ 1048576 := by omega
    have Hr8 := Lib.hid hr
    go_enter Try.func6, Try.ntmps6
    go_wp2_with (first | (go_at_call 11; refine (big_any _ _ _ _).mono ?_; rintro e w' ⟨rfl, rfl⟩) | (go_at_call 16; refine (drawSplit_any a len cap zs _ hr hlen).mono ?_; rintro e w1 ⟨v, s, n, rfl, hst, hsm, hn64, hb⟩; refine Hid.out ?_))
    refine Lib.hid ?_
    obtain ⟨vi, vt, rfl, r1, r2⟩ := id hst
    obtain ⟨sa, sc, rfl⟩ := slice_row_len r1
    obtain ⟨ta, tc, rfl⟩ := slice_row_len r2
    have SV := Lib.hid hst
    have BB : Hid (Below w.heap.size w w1) := Lib.hid hb
    have Hfit : Hid (Fits s) := Lib.hid hsm.fits
    have B1 : Hid (Below w1.heap.size w1 w1) := Lib.hid (Below.refl _ _)
    clear r1 r2 hst hsm hb hr hd
    obtain ⟨X1, hX1⟩ : ∃ z, z = w1.alloc (.cells #[.slice sa s.items.length sc, .slice ta s.talks.length tc] 31) := ⟨_, rfl⟩
    have hb : Below w1.heap.size w1 X1 := by rw [hX1]; exact (Below.refl _ _).alloc (Nat.le_refl _) _
    replace B1 := tbt B1 hb
    replace BB := tbt BB hb
    have KA : Hid (X1.heap[w1.heap.size]? = some (.cells #[.slice sa s.items.length sc, .slice ta s.talks.length tc] 31 (0, 0))) := Lib.hid (by rw [hX1]; exact heap_new _ _)
    have LA : Hid (w1.heap.size < X1.heap.size) := Lib.hid (by rw [hX1]; simp)
    clear hb
    have R8 : Row8 X1 X1.heap.size a len cap zs := Hr8.out.later BB.out
    have hc := at_low a len cap zs 0 (by omega) X1 R8 hlen
    rw [hX1] at hc
    go_wp2_with (go_at_call 30; refine hc.mono ?_; rintro e w2 ⟨x, hx, rfl, rfl⟩; refine Hid.out ?_)
    refine Lib.hid ?_
    rw [← hX1]
    clear hX1 hc R8
    obtain ⟨m, hm⟩ : ∃ m : Nat, m = 1 + x % 8 := ⟨_, rfl⟩
    have hm8 : 1 ≤ m ∧ m ≤ 8 := by omega
    have hme : IntKind.i64.wrap (1 + (x : Int) % 8) = (m : Int) := by rw [IntKind.wrap_i64] <;> omega
    have hmt : (x : Int).tmod 8 = (x : Int) % 8 := by rw [Int.tmod_eq_emod_of_nonneg (by omega)]
    clear hm
    have hc := spec_stateOk s _ X1.heap.size X1 (SV.out.later B1.out B1.out.size) (Nat.le_refl _) Hfit.out
    have fA0 := tcr KA 0
    have fA1 := tcr KA 1
    go_wp2_with (go_at_call 20; refine hc.mono ?_; rintro e w5 ⟨rfl, hb⟩; refine Hid.out ?_)
    refine Lib.hid ?_
    replace KA := tkb hb LA KA
    replace LA := tlz LA hb.size
    replace B1 := tbt B1 hb
    replace BB := tbt BB hb
    clear hc hb fA0 fA1
    cases hok : stOk s
    · have Hok := Lib.hid hok
      clear hok
      have hc := impl_split s _ n w5.heap.size w5 (SV.out.later B1.out B1.out.size) (Nat.le_refl _) Hfit.out hn64
      have fA0 := tcr KA 0
      have fA1 := tcr KA 1
      go_wp2_with (go_at_call 17; refine hc.mono ?_; rintro e w6 ⟨vL, qL, rfl, hoL, hmL, hb⟩; refine Hid.out ?_)
      refine Lib.hid ?_
      replace KA := tkb hb LA KA
      replace LA := tlz LA hb.size
      replace B1 := tbt B1 hb
      replace BB := tbt BB hb
      clear hc hb fA0 fA1
      obtain ⟨aL, cL, rfl⟩ := hoL.slice
      have hl0 : qL.length = 0 := by rw [split_none hmL (.inl Hok.out)]; rfl
      rw [hl0]
      clear hoL hmL
      go_wp2_with fail
      go_ret
      exact ⟨rfl, BB.out⟩
    · have Hok := Lib.hid hok
      clear hok
      by_cases h1 : n < 1
      · have hd : decide (n < 1) = true := by simpa using h1
        have hc := impl_split s _ n w5.heap.size w5 (SV.out.later B1.out B1.out.size) (Nat.le_refl _) Hfit.out hn64
        have fA0 := tcr KA 0
        have fA1 := tcr KA 1
        go_wp2_with (go_at_call 17; refine hc.mono ?_; rintro e w6 ⟨vL, qL, rfl, hoL, hmL, hb⟩; refine Hid.out ?_)
        refine Lib.hid ?_
        replace KA := tkb hb LA KA
        replace LA := tlz LA hb.size
        replace B1 := tbt B1 hb
        replace BB := tbt BB hb
        clear hc hb fA0 fA1
        obtain ⟨aL, cL, rfl⟩ := hoL.slice
        have hl0 : qL.length = 0 := by rw [split_none hmL (.inr (by simp [inB]; omega))]; rfl
        rw [hl0]
        clear hoL hmL
        go_wp2_with fail
        go_ret
        exact ⟨rfl, BB.out⟩
      · have hd1 : decide (n < 1) = false := by simpa using h1
        by_cases h8 : 8 < n
        · have hd : decide (8 < n) = true := by simpa using h8
          have hc := impl_split s _ n w5.heap.size w5 (SV.out.later B1.out B1.out.size) (Nat.le_refl _) Hfit.out hn64
          have fA0 := tcr KA 0
          have fA1 := tcr KA 1
          go_wp2_with (go_at_call 17; refine hc.mono ?_; rintro e w6 ⟨vL, qL, rfl, hoL, hmL, hb⟩; refine Hid.out ?_)
          refine Lib.hid ?_
          replace KA := tkb hb LA KA
          replace LA := tlz LA hb.size
          replace B1 := tbt B1 hb
          replace BB := tbt BB hb
          clear hc hb fA0 fA1
          obtain ⟨aL, cL, rfl⟩ := hoL.slice
          have hl0 : qL.length = 0 := by rw [split_none hmL (.inr (by simp [inB]; omega))]; rfl
          rw [hl0]
          clear hoL hmL
          go_wp2_with fail
          go_ret
          exact ⟨rfl, BB.out⟩
        · have hd8 : decide (8 < n) = false := by simpa using h8
          have Hin : Hid (inB n 1 8 = true) := Lib.hid (by simp [inB]; omega)
          have hc := impl_split s _ n w5.heap.size w5 (SV.out.later B1.out B1.out.size) (Nat.le_refl _) Hfit.out hn64
          have fA0 := tcr KA 0
          have fA1 := tcr KA 1
          go_wp2_with (go_at_call 17; refine hc.mono ?_; rintro e w6 ⟨vL, qL, rfl, hoL, hmL, hb⟩; refine Hid.out ?_)
          refine Lib.hid ?_
          replace KA := tkb hb LA KA
          replace LA := tlz LA hb.size
          replace B1 := tbt B1 hb
          replace BB := tbt BB hb
          clear hc hb fA0 fA1
          have ML := Lib.hid hmL
          have OL := Lib.hid hoL
          clear hmL hoL
          have hc := impl_merge qL _ w6.heap.size w6 OL.out.stl (Nat.le_refl _) (by have := split_few ML.out; omega) (split_fits ML.out).1
          rw [ML.out, merge_split Hok.out Hin.out, show (some s).isSome = true from rfl] at hc
          go_wp2_with (go_at_call 21; refine hc.mono ?_; rintro e w7 ⟨vM, rfl, hM, hb⟩; refine Hid.out ?_)
          refine Lib.hid ?_
          replace KA := tkb hb LA KA
          replace LA := tlz LA hb.size
          replace B1 := tbt B1 hb
          replace BB := tbt BB hb
          clear hc hb 
          have hM : OwnC w7 w6.heap.size vM s := hM
          have SM := Lib.hid hM.stv
          obtain ⟨gi, ci, gt, ct, rfl, _, _, _⟩ := hM
          have B6 : Hid (Below w7.heap.size w7 w7) := Lib.hid (Below.refl _ _)
          clear OL ML
          obtain ⟨X2, hX2⟩ : ∃ z, z = w7.alloc (.cells #[.slice (some ⟨gi, 0, none⟩) s.items.length ci, .slice (some ⟨gt, 0, none⟩) s.talks.length ct] 31) := ⟨_, rfl⟩
          have hb : Below w7.heap.size w7 X2 := by rw [hX2]; exact (Below.refl _ _).alloc (Nat.le_refl _) _
          replace KA := tkb hb LA KA
          replace LA := tlz LA hb.size
          replace B1 := tbt B1 hb
          replace B6 := tbt B6 hb
          replace BB := tbt BB hb
          have KM : Hid (X2.heap[w7.heap.size]? = some (.cells #[.slice (some ⟨gi, 0, none⟩) s.items.length ci, .slice (some ⟨gt, 0, none⟩) s.talks.length ct] 31 (0, 0))) := Lib.hid (by rw [hX2]; exact heap_new _ _)
          have LM : Hid (w7.heap.size < X2.heap.size) := Lib.hid (by rw [hX2]; simp)
          clear hb
          clear hd1 hd8 h1 h8
          go_wp2_with fail
          rw [← hX2]
          clear hX2
          have FA : Hid (∀ w', Below X2.heap.size X2 w' → w'.cell? ⟨w1.heap.size, 0, none⟩ = some (.slice sa s.items.length sc) ∧ w'.cell? ⟨w1.heap.size, 1, none⟩ = some (.slice ta s.talks.length tc)) := Lib.hid (fun w' h => by have K := tkb h LA KA; exact ⟨tcr K 0, tcr K 1⟩)
          have FM : Hid (∀ w', Below X2.heap.size X2 w' → w'.cell? ⟨w7.heap.size, 0, none⟩ = some (.slice (some ⟨gi, 0, none⟩) s.items.length ci) ∧ w'.cell? ⟨w7.heap.size, 1, none⟩ = some (.slice (some ⟨gt, 0, none⟩) s.talks.length ct)) := Lib.hid (fun w' h => by have K := tkb h LM KM; exact ⟨tcr K 0, tcr K 1⟩)
          refine wp_region_held_drew (S := (fun w' => Below X2.heap.size X2 w')) (by kernel_rfl) (Below.refl _ _).drew (fun hHeld => ?_)
          obtain ⟨zD, hzD⟩ : ∃ z, z = X2.drew := ⟨_, rfl⟩
          rw [← hzD] at hHeld ⊢
          clear hzD KA LA KM LM
          have BD := Lib.hid hHeld
          have HS : Hid (∀ w', Below X2.heap.size X2 w' → StV w' w'.heap.size (.agg #[.slice sa s.items.length sc, .slice ta s.talks.length tc]) s) := Lib.hid (fun w' h => SV.out.later (B1.out.trans (h.mono B1.out.size)) (Nat.le_trans B1.out.size h.size))
          have HW : Hid (∀ w', Below X2.heap.size X2 w' → StV w' w'.heap.size (.agg #[.slice (some ⟨gi, 0, none⟩) s.items.length ci, .slice (some ⟨gt, 0, none⟩) s.talks.length ct]) s) := Lib.hid (fun w' h => SM.out.later (B6.out.trans (h.mono B6.out.size)) (Nat.le_trans B6.out.size h.size))
          refine tk0 0 ?_
          refine tk0 1 ?_
          refine tk 2 (v := ?_) ?_ ?_; rotate_left
          · refine Or.inl ⟨by rfl, ?_⟩; intro w hSw; obtain ⟨hS0, hS1⟩ := FM.out w hSw; go_simp; first | done | with_reducible rfl
          refine tk0 3 ?_
          refine tk 5 (v := ?_) ?_ ?_; rotate_left
          · refine Or.inl ⟨by rfl, ?_⟩; intro w hSw; obtain ⟨hS0, hS1⟩ := FA.out w hSw; go_simp; first | done | with_reducible rfl
          refine tk0 6 ?_
          refine rd1 4 (fun K hK => ?_)
          go_simp
          have hc := impl_split s _ m zD.heap.size zD (HW.out zD BD.out) (Nat.le_refl _) Hfit.out (by omega)
          go_at_call 17
          refine hc.mono ?_
          rintro e w9 ⟨vL, qL2, rfl, hoL, hmL, hb⟩
          replace BD := tbt BD hb
          have OL := Lib.hid hoL
          have ML := Lib.hid hmL
          clear hc hb hoL hmL
          go_wp2_with fail
          refine hK.out _ _ BD.out (fun hHeld => ?_)
          clear hK K
          refine rd1 7 (fun K hK => ?_)
          go_simp
          have hc := spec_split s _ m w9.heap.size w9 (HS.out w9 BD.out) (Nat.le_refl _) Hfit.out (by omega)
          go_at_call 19
          refine hc.mono ?_
          rintro e w10 ⟨gW, cW, qW, rfl, hgW, hmW, hb⟩
          replace BD := tbt BD hb
          replace OL := Lib.hid (OL.out.later hb)
          have GW := Lib.hid hgW
          have MW := Lib.hid hmW
          clear hc hb hgW hmW
          go_wp2_with fail
          refine hK.out _ _ BD.out (fun hHeld => ?_)
          clear hK K
          refine rd1 8 (fun K hK => ?_)
          go_simp
          have hc := same_states qL2 qW _ _ w10.heap.size w10 OL.out.rd GW.out.rd (Nat.le_refl _) (by rw [ML.out, MW.out])
          go_at_call 18
          refine hc.mono ?_
          rintro e w11 ⟨rfl, hb⟩
          replace BD := tbt BD hb
          clear hc hb
          go_wp2_with fail
          refine hK.out _ _ BD.out (fun hHeld => ?_)
          clear hK K
          refine tk0 9 ?_
          refine tk0 10 ?_
          refine wpAnyH_done (by kernel_rfl) ?_ _
          go_wp2_with fail
          go_ret
          exact ⟨rfl, BB.out.trans (BD.out.mono BB.out.size)⟩
end Go.Proofs.Ytebmaplflpfjbaa
