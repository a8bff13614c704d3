/- The law FnOther: a piece of another stream is refused, where one is on its way. Condition: none. -/
import Derived.Test.YtdpjdjkfedcojaaGreatCurA
import Derived.Test.YtdpjdjkfedcojaaGreatDrX
import Derived.Test.YtdpjdjkfedcojaaGreatPutB
import Derived.Test.YtdpjdjkfedcojaaGreatDecB
import Derived.Test.YtdpjdjkfedcojaaGreatImplState
import Derived.Test.YtdpjdjkfedcojaaGreatVerB
import Derived.Test.YtdpjdjkfedcojaaGreatStrA
import Derived.Test.YtdpjdjkfedcojaaGreatSameRaw
import Derived.Test.YtdpjdjkfedcojaaGreatBaseA
import Derived.Test.YtdpjdjkfedcojaaGreatDrwC
import Derived.Test.YtdpjdjkfedcojaaGreatImTA
import Derived.Test.YtdpjdjkfedcojaaGreatTkO
import Derived.Lib.ItoaLen
import Derived.BigQuiet
import Derived.Deep.QuietTactic
namespace Go.Proofs.YtdpjdjkfedcojaaGreat
open Go.RowKit
set_option linter.unusedVariables false
set_option linter.unusedSimpArgs false

set_option maxRecDepth 100000 in
set_option maxHeartbeats 8000000 in
theorem law_other (a : Option Addr) (len cap : Nat) (zs : List Int) (w : World) (hr : IsRow .u8 w a len cap zs) :
    Calls Tryz.prog 4 #[.slice a len cap] w fun e w' => e = .returned (.bool true) ∧ Below w.heap.size w w' := by
  have hr := row8_of hr
  by_cases hbig : 1048576 < len
  · have hd : decide (1048576 < len) = true := by simpa using hbig
    go_enter Tryz.func4, Tryz.ntmps4
    go_wp2_with (go_at_call 5; refine (big_any _ _ _ _).mono ?_; rintro e w' ⟨rfl, rfl⟩)
    go_ret
    exact ⟨rfl, Below.refl _ _⟩
  have hd : decide (1048576 < len) = false := by simpa using hbig
  have hlen : len ≤ 1048576 := by omega
  have Hr8 := Lib.hid hr
  have BB : Hid (Below w.heap.size w w) := Lib.hid (Below.refl _ _)
  go_enter Tryz.func4, Tryz.ntmps4
  go_wp2_with (go_at_call 5; refine (big_any _ _ _ _).mono ?_; rintro e w' ⟨rfl, rfl⟩; refine Hid.out ?_)
  refine Lib.hid ?_
  clear hd hbig hr
  obtain ⟨x0, hx0, kat⟩ := at_the a len cap zs 0 (by omega) w Hr8.out hlen
  have KAT0 := Lib.hid kat
  clear kat
  have hc := drawPutItem_any a len cap zs w Hr8.out hlen
  go_wp2_with (go_at_call 19; refine hc.mono ?_; rintro e w1 ⟨v, s, x, rfl, hst, hsm, hx, hb⟩; refine Hid.out ?_)
  refine Lib.hid ?_
  obtain ⟨xk, xv⟩ := x
  unfold itA
  dsimp only at hx ⊢
  obtain ⟨vi, vt, rfl, r1, r2⟩ := id hst
  obtain ⟨sa, sc, rfl⟩ := slice_rowX r1
  obtain ⟨ta, tc, rfl⟩ := slice_rowX r2
  have SV := Lib.hid hst
  replace BB := Lib.hid hb
  have W1 : Hid (w.heap.size ≤ w1.heap.size) := Lib.hid hb.size
  have Hfit : Hid (Fits s) := Lib.hid hsm.fits
  have Hsm := Lib.hid hsm
  have Hsmall : Hid (Small s 2097152) := Lib.hid (hsm.small (by omega) (by omega))
  have B1 : Hid (Below w1.heap.size w1 w1) := Lib.hid (Below.refl _ _)
  clear r1 r2 hst hsm hb hc hx
  obtain ⟨X1, hX1⟩ : ∃ z, z = w1.alloc (.cells #[.slice sa s.items.length sc, .slice ta s.talks.length tc] 27) := ⟨_, rfl⟩
  have hb : Below w1.heap.size w1 X1 := by rw [hX1]; exact (Below.refl _ _).alloc (Nat.le_refl _) _
  replace B1 := tbt B1 hb
  replace BB := tbt BB hb
  have KA : Hid (X1.heap[w1.heap.size]? = some (.cells #[.slice sa s.items.length sc, .slice ta s.talks.length tc] 27 (0, 0))) := Lib.hid (by rw [hX1]; exact heap_new _ _)
  have LA : Hid (w1.heap.size < X1.heap.size) := Lib.hid (by rw [hX1]; simp)
  clear hb
  obtain ⟨X2, hX2⟩ : ∃ z, z = X1.alloc (.cells #[.string xk, .string xv] 45) := ⟨_, rfl⟩
  have hb : Below X1.heap.size X1 X2 := by rw [hX2]; exact (Below.refl _ _).alloc (Nat.le_refl _) _
  replace KA := tkb hb LA KA
  replace LA := tlz LA hb.size
  replace B1 := tbt B1 hb
  replace BB := tbt BB hb
  have KI : Hid (X2.heap[X1.heap.size]? = some (.cells #[.string xk, .string xv] 45 (0, 0))) := Lib.hid (by rw [hX2]; exact heap_new _ _)
  have LI : Hid (X1.heap.size < X2.heap.size) := Lib.hid (by rw [hX2]; simp)
  clear hb
  rw [show X1.heap.size = w1.heap.size + 1 by rw [hX1]; simp] at KI LI
  obtain ⟨dt, hdt⟩ : ∃ d : ByteArray, d = ⟨(Lib.itoa (x0 : Int)).toArray⟩ := ⟨_, rfl⟩
  have hds : dt.size ≤ 21 := by rw [hdt]; have h := Lib.itoa_length_le (x0 : Int) (by omega) (by omega); show (Lib.itoa (x0 : Int)).toArray.size ≤ 21; rw [List.size_toArray]; exact h
  have kdt : ∀ w, Calls Tryz.prog 21 #[.int .i64 (x0 : Int)] w fun e w' => e = .returned (.string dt) ∧ w = w' := fun w => by rw [hdt]; exact spec_decText _ (by omega) (by omega) w
  obtain ⟨vz, hvz⟩ : ∃ d : ByteArray, d = dt ++ ⟨#[48, 49, 50, 51, 52, 53, 54, 55, 56, 57, 48, 49, 50, 51, 52, 53, 54, 55, 56, 57, 48, 49, 50, 51, 52, 53, 54, 55, 56, 57, 48, 49, 50, 51, 52, 53, 54, 55, 56, 57]⟩ := ⟨_, rfl⟩
  have hvs : vz.size = dt.size + 40 := by rw [hvz, ByteArray.size_append]; rfl
  have HVZ : Hid (dt ++ ⟨#[48, 49, 50, 51, 52, 53, 54, 55, 56, 57, 48, 49, 50, 51, 52, 53, 54, 55, 56, 57, 48, 49, 50, 51, 52, 53, 54, 55, 56, 57, 48, 49, 50, 51, 52, 53, 54, 55, 56, 57]⟩ = vz) := Lib.hid hvz.symm
  have HVS : Hid (vz.size ≤ 61) := Lib.hid (by omega)
  have ns : ¬ 9223372036854775807 < dt.size + 40 := by omega
  obtain ⟨u, hu⟩ : ∃ u, u = chg s (putSI s ⟨⟨#[122, 122, 122, 122]⟩, vz⟩) := ⟨_, rfl⟩
  obtain ⟨ob, hob⟩ : ∃ b, b = chgB s (putSI s ⟨⟨#[122, 122, 122, 122]⟩, vz⟩) := ⟨_, rfl⟩
  have kpi : ∀ (w' : World), StV w' w'.heap.size (.agg #[.slice sa s.items.length sc, .slice ta s.talks.length tc]) s → Calls Tryz.prog 20 #[.agg #[.slice sa s.items.length sc, .slice ta s.talks.length tc], .agg #[.string ⟨#[122, 122, 122, 122]⟩, .string vz]] w' fun e w'' => ∃ v', e = .returned (.tuple #[v', .bool ob]) ∧ OwnN w'' w'.heap.size v' u ∧ Below w'.heap.size w' w'' := fun w' h => by rw [hu, hob]; exact impl_putItem s _ ⟨⟨#[122, 122, 122, 122]⟩, vz⟩ _ w' h (Nat.le_refl _) Hsmall.out Hfit.out ⟨(by show (4 : Nat) ≤ maxLen; unfold maxLen; omega), (by show vz.size ≤ maxLen; have := HVS.out; unfold maxLen; omega)⟩
  have HU := Lib.hid hu
  have HOB := Lib.hid hob
  clear hdt hvz hvs hds hu hob
  go_wp2_with fail
  rw [← hX1, ← hX2]
  clear hX2 hX1
  go_cut [5, 6] (fun mm bv wx => ∃ (mb : Nat) (ai at_ : Option Addr) (ci ct : Nat), mm = .pointer (some ⟨mb, 0, none⟩) ∧ bv = .bool ob ∧ Hid (wx.heap[mb]? = some (.cells #[.slice ai u.items.length ci, .slice at_ u.talks.length ct] 27 (0, 0))) ∧ Hid (StV wx wx.heap.size (.agg #[.slice ai u.items.length ci, .slice at_ u.talks.length ct]) u) ∧ Hid (Below X2.heap.size X2 wx) ∧ Hid (X2.heap.size ≤ mb ∧ mb < wx.heap.size))
  case first =>
    have FA : Hid (∀ w', Below X2.heap.size X2 w' → w'.cell? ⟨w1.heap.size, 0, none⟩ = some (.slice sa s.items.length sc) ∧ w'.cell? ⟨w1.heap.size, 1, none⟩ = some (.slice ta s.talks.length tc)) := Lib.hid (fun w' h => by have K := tkb h LA KA; exact ⟨tcr K 0, tcr K 1⟩)
    refine wp_region_held_drew (S := (fun w' => Below X2.heap.size X2 w')) (by kernel_rfl) (Below.refl _ _).drew (fun hHeld => ?_)
    obtain ⟨zD, hzD⟩ : ∃ zz, zz = X2.drew := ⟨_, rfl⟩
    rw [← hzD] at hHeld ⊢
    clear hzD
    have BD := Lib.hid hHeld
    refine tk 0 (v := ?_) ?_ ?_; rotate_left
    · refine Or.inl ⟨by rfl, ?_⟩; intro w hSw; obtain ⟨hA0, hA1⟩ := FA.out w hSw; go_simp; first | done | with_reducible rfl
    refine tk0 1 ?_
    refine rd2 2 10 (fun K hK => ?_) (fun K hK => ?_)
    · go_simp
      have hc := KAT0.out zD (Hr8.out.later (BB.out.trans (BD.out.mono BB.out.size)))
      go_at_call 8
      refine hc.mono ?_
      rintro e z11 ⟨rfl, hww⟩
      have hb : Below zD.heap.size zD z11 := by rw [← hww]; exact Below.refl _ _
      clear hww
      replace BD := tbt BD hb
      clear hc hb
      go_wp2_with fail
      refine hK.out _ _ BD.out (fun hHeld => ?_)
      clear hK K
      refine rd2 3 10 (fun K hK => ?_) (fun K hK => ?_)
      · go_simp
        have hc := kdt z11
        go_at_call 21
        refine hc.mono ?_
        rintro e z12 ⟨rfl, hww⟩
        have hb : Below z11.heap.size z11 z12 := by rw [← hww]; exact Below.refl _ _
        clear hww
        replace BD := tbt BD hb
        clear hc hb
        go_wp2_with fail
        refine hK.out _ _ BD.out (fun hHeld => ?_)
        clear hK K
        refine tk0 4 ?_
        refine tk0 5 ?_
        refine rd2 6 10 (fun K hK => ?_) (fun K hK => ?_)
        · go_simp
          rw [HVZ.out]
          have hc := kpi z12 ((SV.out.later B1.out B1.out.size).later BD.out BD.out.size)
          go_at_call 20
          refine hc.mono ?_
          rintro e z13 ⟨_, rfl, ho, hb⟩
          have HO := Lib.hid ho
          have STu := Lib.hid ho.st
          obtain ⟨_, _, gi, ci, gt, ct, rfl, _, ⟨ai, rfl, _⟩, ⟨at_, rfl, _⟩, _, _⟩ := ho
          have HPB : Hid (z12.heap.size = z12.heap.size) := Lib.hid rfl
          replace BD := tbt BD hb
          clear hc hb
          go_wp2_with fail
          refine hK.out _ _ BD.out (fun hHeld => ?_)
          clear hK K
          refine tk0 7 ?_
          refine tk0 8 ?_
          refine tk0 9 ?_
          refine rd1 10 (fun K hK => ?_)
          go_simp
          obtain ⟨zV, hzV⟩ : ∃ z, z = z13.alloc (.cells #[.slice none 0 0, .slice none 0 0] 27) := ⟨_, rfl⟩
          rw [← hzV]
          have bV : Below z13.heap.size z13 zV := by rw [hzV]; exact (Below.refl _ _).alloc (Nat.le_refl _) _
          have KM : Hid (zV.heap[z13.heap.size]? = some (.cells #[.slice none 0 0, .slice none 0 0] 27 (0, 0))) := Lib.hid (by rw [hzV]; exact heap_new _ _)
          have LM : Hid (z13.heap.size < zV.heap.size) := Lib.hid (by rw [hzV]; simp)
          have AM : Hid (X2.heap.size ≤ z13.heap.size) := Lib.hid BD.out.size
          have BQ : Hid (Below z13.heap.size z13 zV) := Lib.hid bV
          replace BD := tbt BD bV
          clear hzV bV
          go_wp2_with fail
          refine hK.out _ _ BD.out (fun hHeld => ?_)
          clear hK K
          refine rd1 11 (fun K hK => ?_)
          have f0 := tcr KM 0
          have f1 := tcr KM 1
          have z0 := tfr KM 0
          have z1 := tfr KM 1
          go_simp
          obtain ⟨Y, hY⟩ : ∃ Y, Y = (zV.setCell ⟨z13.heap.size, 0, none⟩ (.slice ai u.items.length ci)).setCell ⟨z13.heap.size, 1, none⟩ (.slice at_ u.talks.length ct) := ⟨_, rfl⟩
          rw [← hY]
          have gY : zV.grownBy Y (some z13.heap.size) := by rw [hY]; exact (grown_set zV ⟨z13.heap.size, 0, none⟩ _).trans (grown_set _ ⟨z13.heap.size, 1, none⟩ _)
          have R1 : Hid (Y.heap[z13.heap.size]? = some (.cells #[.slice ai u.items.length ci, .slice at_ u.talks.length ct] 27 (0, 0))) := Lib.hid (by rw [hY]; exact heap_setCell_same _ _ 1 _ _ _ (heap_setCell_same _ _ 0 _ _ _ KM.out))
          have BY : Below X2.heap.size X2 Y := BD.out.grown gY BD.out.size (fun q e => by cases e; exact AM.out)
          have LY : Hid (X2.heap.size ≤ z13.heap.size ∧ z13.heap.size < Y.heap.size) := Lib.hid ⟨AM.out, (Array.getElem?_eq_some_iff.1 R1.out).1⟩
          have SY : Hid (StV Y Y.heap.size (.agg #[.slice ai u.items.length ci, .slice at_ u.talks.length ct]) u) := Lib.hid (STu.out.later (by have h := BQ.out.grown gY BQ.out.size (fun q e => by cases e; exact Nat.le_refl _); exact h) (BQ.out.grown gY BQ.out.size (fun q e => by cases e; exact Nat.le_refl _)).size)
          refine hK.out _ _ BY (fun hHeld => ?_)
          clear hK K f0 f1 z0 z1 hY
          refine tk0 12 ?_
          refine wpAnyH_done (by kernel_rfl) ?_ _
          clear hHeld
          go_wp2_with fail
          go_meet
          exact ⟨z13.heap.size, ai, at_, ci, ct, rfl, rfl, R1, SY, Lib.hid BY, LY⟩
        · go_simp
          obtain ⟨zV, hzV⟩ : ∃ z, z = z12.alloc (.cells #[.slice none 0 0, .slice none 0 0] 27) := ⟨_, rfl⟩
          rw [← hzV]
          have bV : Below z12.heap.size z12 zV := by rw [hzV]; exact (Below.refl _ _).alloc (Nat.le_refl _) _
          have KM : Hid (zV.heap[z12.heap.size]? = some (.cells #[.slice none 0 0, .slice none 0 0] 27 (0, 0))) := Lib.hid (by rw [hzV]; exact heap_new _ _)
          have LM : Hid (z12.heap.size < zV.heap.size) := Lib.hid (by rw [hzV]; simp)
          have AM : Hid (X2.heap.size ≤ z12.heap.size) := Lib.hid BD.out.size
          replace BD := tbt BD bV
          clear hzV bV
          go_wp2_with fail
          refine hK.out _ _ BD.out (fun hHeld => ?_)
          clear hK K
          refine rd1 6 (fun K hK => ?_)
          have LMP := LM
          go_simp
          rw [HVZ.out]
          have hc := kpi zV ((SV.out.later B1.out B1.out.size).later BD.out BD.out.size)
          go_at_call 20
          refine hc.mono ?_
          rintro e z13 ⟨_, rfl, ho, hb⟩
          have HO := Lib.hid ho
          have STu := Lib.hid ho.st
          obtain ⟨_, _, gi, ci, gt, ct, rfl, _, ⟨ai, rfl, _⟩, ⟨at_, rfl, _⟩, _, _⟩ := ho
          have HPB : Hid (zV.heap.size = zV.heap.size) := Lib.hid rfl
          replace KM := tkb hb LM KM
          replace LM := tlz LM hb.size
          replace BD := tbt BD hb
          clear hc hb
          go_wp2_with fail
          refine hK.out _ _ BD.out (fun hHeld => ?_)
          clear hK K
          refine tk0 7 ?_
          refine tk0 8 ?_
          refine tk0 9 ?_
          refine rd1 11 (fun K hK => ?_)
          have f0 := tcr KM 0
          have f1 := tcr KM 1
          have z0 := tfr KM 0
          have z1 := tfr KM 1
          go_simp
          obtain ⟨Y, hY⟩ : ∃ Y, Y = (z13.setCell ⟨z12.heap.size, 0, none⟩ (.slice ai u.items.length ci)).setCell ⟨z12.heap.size, 1, none⟩ (.slice at_ u.talks.length ct) := ⟨_, rfl⟩
          rw [← hY]
          have gY : z13.grownBy Y (some z12.heap.size) := by rw [hY]; exact (grown_set z13 ⟨z12.heap.size, 0, none⟩ _).trans (grown_set _ ⟨z12.heap.size, 1, none⟩ _)
          have R1 : Hid (Y.heap[z12.heap.size]? = some (.cells #[.slice ai u.items.length ci, .slice at_ u.talks.length ct] 27 (0, 0))) := Lib.hid (by rw [hY]; exact heap_setCell_same _ _ 1 _ _ _ (heap_setCell_same _ _ 0 _ _ _ KM.out))
          have BY : Below X2.heap.size X2 Y := BD.out.grown gY BD.out.size (fun q e => by cases e; exact AM.out)
          have LY : Hid (X2.heap.size ≤ z12.heap.size ∧ z12.heap.size < Y.heap.size) := Lib.hid ⟨AM.out, (Array.getElem?_eq_some_iff.1 R1.out).1⟩
          have SY : Hid (StV Y Y.heap.size (.agg #[.slice ai u.items.length ci, .slice at_ u.talks.length ct]) u) := Lib.hid (HO.out.kept gY LMP.out).st
          refine hK.out _ _ BY (fun hHeld => ?_)
          clear hK K f0 f1 z0 z1 hY
          refine tk0 12 ?_
          refine wpAnyH_done (by kernel_rfl) ?_ _
          clear hHeld
          go_wp2_with fail
          go_meet
          exact ⟨z12.heap.size, ai, at_, ci, ct, rfl, rfl, R1, SY, Lib.hid BY, LY⟩
      · go_simp
        obtain ⟨zV, hzV⟩ : ∃ z, z = z11.alloc (.cells #[.slice none 0 0, .slice none 0 0] 27) := ⟨_, rfl⟩
        rw [← hzV]
        have bV : Below z11.heap.size z11 zV := by rw [hzV]; exact (Below.refl _ _).alloc (Nat.le_refl _) _
        have KM : Hid (zV.heap[z11.heap.size]? = some (.cells #[.slice none 0 0, .slice none 0 0] 27 (0, 0))) := Lib.hid (by rw [hzV]; exact heap_new _ _)
        have LM : Hid (z11.heap.size < zV.heap.size) := Lib.hid (by rw [hzV]; simp)
        have AM : Hid (X2.heap.size ≤ z11.heap.size) := Lib.hid BD.out.size
        replace BD := tbt BD bV
        clear hzV bV
        go_wp2_with fail
        refine hK.out _ _ BD.out (fun hHeld => ?_)
        clear hK K
        refine rd1 3 (fun K hK => ?_)
        go_simp
        have hc := kdt zV
        go_at_call 21
        refine hc.mono ?_
        rintro e z12 ⟨rfl, hww⟩
        have hb : Below zV.heap.size zV z12 := by rw [← hww]; exact Below.refl _ _
        clear hww
        replace KM := tkb hb LM KM
        replace LM := tlz LM hb.size
        replace BD := tbt BD hb
        clear hc hb
        go_wp2_with fail
        refine hK.out _ _ BD.out (fun hHeld => ?_)
        clear hK K
        refine tk0 4 ?_
        refine tk0 5 ?_
        refine rd1 6 (fun K hK => ?_)
        have LMP := LM
        go_simp
        rw [HVZ.out]
        have hc := kpi z12 ((SV.out.later B1.out B1.out.size).later BD.out BD.out.size)
        go_at_call 20
        refine hc.mono ?_
        rintro e z13 ⟨_, rfl, ho, hb⟩
        have HO := Lib.hid ho
        have STu := Lib.hid ho.st
        obtain ⟨_, _, gi, ci, gt, ct, rfl, _, ⟨ai, rfl, _⟩, ⟨at_, rfl, _⟩, _, _⟩ := ho
        have HPB : Hid (z12.heap.size = z12.heap.size) := Lib.hid rfl
        replace KM := tkb hb LM KM
        replace LM := tlz LM hb.size
        replace BD := tbt BD hb
        clear hc hb
        go_wp2_with fail
        refine hK.out _ _ BD.out (fun hHeld => ?_)
        clear hK K
        refine tk0 7 ?_
        refine tk0 8 ?_
        refine tk0 9 ?_
        refine rd1 11 (fun K hK => ?_)
        have f0 := tcr KM 0
        have f1 := tcr KM 1
        have z0 := tfr KM 0
        have z1 := tfr KM 1
        go_simp
        obtain ⟨Y, hY⟩ : ∃ Y, Y = (z13.setCell ⟨z11.heap.size, 0, none⟩ (.slice ai u.items.length ci)).setCell ⟨z11.heap.size, 1, none⟩ (.slice at_ u.talks.length ct) := ⟨_, rfl⟩
        rw [← hY]
        have gY : z13.grownBy Y (some z11.heap.size) := by rw [hY]; exact (grown_set z13 ⟨z11.heap.size, 0, none⟩ _).trans (grown_set _ ⟨z11.heap.size, 1, none⟩ _)
        have R1 : Hid (Y.heap[z11.heap.size]? = some (.cells #[.slice ai u.items.length ci, .slice at_ u.talks.length ct] 27 (0, 0))) := Lib.hid (by rw [hY]; exact heap_setCell_same _ _ 1 _ _ _ (heap_setCell_same _ _ 0 _ _ _ KM.out))
        have BY : Below X2.heap.size X2 Y := BD.out.grown gY BD.out.size (fun q e => by cases e; exact AM.out)
        have LY : Hid (X2.heap.size ≤ z11.heap.size ∧ z11.heap.size < Y.heap.size) := Lib.hid ⟨AM.out, (Array.getElem?_eq_some_iff.1 R1.out).1⟩
        have SY : Hid (StV Y Y.heap.size (.agg #[.slice ai u.items.length ci, .slice at_ u.talks.length ct]) u) := Lib.hid (HO.out.kept gY LMP.out).st
        refine hK.out _ _ BY (fun hHeld => ?_)
        clear hK K f0 f1 z0 z1 hY
        refine tk0 12 ?_
        refine wpAnyH_done (by kernel_rfl) ?_ _
        clear hHeld
        go_wp2_with fail
        go_meet
        exact ⟨z11.heap.size, ai, at_, ci, ct, rfl, rfl, R1, SY, Lib.hid BY, LY⟩
    · go_simp
      obtain ⟨zV, hzV⟩ : ∃ z, z = zD.alloc (.cells #[.slice none 0 0, .slice none 0 0] 27) := ⟨_, rfl⟩
      rw [← hzV]
      have bV : Below zD.heap.size zD zV := by rw [hzV]; exact (Below.refl _ _).alloc (Nat.le_refl _) _
      have KM : Hid (zV.heap[zD.heap.size]? = some (.cells #[.slice none 0 0, .slice none 0 0] 27 (0, 0))) := Lib.hid (by rw [hzV]; exact heap_new _ _)
      have LM : Hid (zD.heap.size < zV.heap.size) := Lib.hid (by rw [hzV]; simp)
      have AM : Hid (X2.heap.size ≤ zD.heap.size) := Lib.hid BD.out.size
      replace BD := tbt BD bV
      clear hzV bV
      go_wp2_with fail
      refine hK.out _ _ BD.out (fun hHeld => ?_)
      clear hK K
      refine rd1 2 (fun K hK => ?_)
      go_simp
      have hc := KAT0.out zV (Hr8.out.later (BB.out.trans (BD.out.mono BB.out.size)))
      go_at_call 8
      refine hc.mono ?_
      rintro e z11 ⟨rfl, hww⟩
      have hb : Below zV.heap.size zV z11 := by rw [← hww]; exact Below.refl _ _
      clear hww
      replace KM := tkb hb LM KM
      replace LM := tlz LM hb.size
      replace BD := tbt BD hb
      clear hc hb
      go_wp2_with fail
      refine hK.out _ _ BD.out (fun hHeld => ?_)
      clear hK K
      refine rd1 3 (fun K hK => ?_)
      go_simp
      have hc := kdt z11
      go_at_call 21
      refine hc.mono ?_
      rintro e z12 ⟨rfl, hww⟩
      have hb : Below z11.heap.size z11 z12 := by rw [← hww]; exact Below.refl _ _
      clear hww
      replace KM := tkb hb LM KM
      replace LM := tlz LM hb.size
      replace BD := tbt BD hb
      clear hc hb
      go_wp2_with fail
      refine hK.out _ _ BD.out (fun hHeld => ?_)
      clear hK K
      refine tk0 4 ?_
      refine tk0 5 ?_
      refine rd1 6 (fun K hK => ?_)
      have LMP := LM
      go_simp
      rw [HVZ.out]
      have hc := kpi z12 ((SV.out.later B1.out B1.out.size).later BD.out BD.out.size)
      go_at_call 20
      refine hc.mono ?_
      rintro e z13 ⟨_, rfl, ho, hb⟩
      have HO := Lib.hid ho
      have STu := Lib.hid ho.st
      obtain ⟨_, _, gi, ci, gt, ct, rfl, _, ⟨ai, rfl, _⟩, ⟨at_, rfl, _⟩, _, _⟩ := ho
      have HPB : Hid (z12.heap.size = z12.heap.size) := Lib.hid rfl
      replace KM := tkb hb LM KM
      replace LM := tlz LM hb.size
      replace BD := tbt BD hb
      clear hc hb
      go_wp2_with fail
      refine hK.out _ _ BD.out (fun hHeld => ?_)
      clear hK K
      refine tk0 7 ?_
      refine tk0 8 ?_
      refine tk0 9 ?_
      refine rd1 11 (fun K hK => ?_)
      have f0 := tcr KM 0
      have f1 := tcr KM 1
      have z0 := tfr KM 0
      have z1 := tfr KM 1
      go_simp
      obtain ⟨Y, hY⟩ : ∃ Y, Y = (z13.setCell ⟨zD.heap.size, 0, none⟩ (.slice ai u.items.length ci)).setCell ⟨zD.heap.size, 1, none⟩ (.slice at_ u.talks.length ct) := ⟨_, rfl⟩
      rw [← hY]
      have gY : z13.grownBy Y (some zD.heap.size) := by rw [hY]; exact (grown_set z13 ⟨zD.heap.size, 0, none⟩ _).trans (grown_set _ ⟨zD.heap.size, 1, none⟩ _)
      have R1 : Hid (Y.heap[zD.heap.size]? = some (.cells #[.slice ai u.items.length ci, .slice at_ u.talks.length ct] 27 (0, 0))) := Lib.hid (by rw [hY]; exact heap_setCell_same _ _ 1 _ _ _ (heap_setCell_same _ _ 0 _ _ _ KM.out))
      have BY : Below X2.heap.size X2 Y := BD.out.grown gY BD.out.size (fun q e => by cases e; exact AM.out)
      have LY : Hid (X2.heap.size ≤ zD.heap.size ∧ zD.heap.size < Y.heap.size) := Lib.hid ⟨AM.out, (Array.getElem?_eq_some_iff.1 R1.out).1⟩
      have SY : Hid (StV Y Y.heap.size (.agg #[.slice ai u.items.length ci, .slice at_ u.talks.length ct]) u) := Lib.hid (HO.out.kept gY LMP.out).st
      refine hK.out _ _ BY (fun hHeld => ?_)
      clear hK K f0 f1 z0 z1 hY
      refine tk0 12 ?_
      refine wpAnyH_done (by kernel_rfl) ?_ _
      clear hHeld
      go_wp2_with fail
      go_meet
      exact ⟨zD.heap.size, ai, at_, ci, ct, rfl, rfl, R1, SY, Lib.hid BY, LY⟩
  case rest =>
    obtain ⟨mU, ai, at_, ci, ct, rfl, rfl, KU, SU, bA, L0⟩ := hcut
    obtain ⟨v1, rfl⟩ : ∃ z, z = wc := ⟨_, rfl⟩
    have LU := Lib.hid L0.out.2
    have hb := bA.out
    clear L0 bA kpi kdt KAT0
    replace KA := tkb hb LA KA
    replace LA := tlz LA hb.size
    replace KI := tkb hb LI KI
    replace LI := tlz LI hb.size
    replace B1 := tbt B1 hb
    replace BB := tbt BB hb
    clear hb
    have hc := spec_stateOk s _ v1.heap.size v1 (SV.out.later B1.out B1.out.size) (Nat.le_refl _) Hfit.out
    have fA0 := tcr KA 0
    have fA1 := tcr KA 1
    go_wp2_with (go_at_call 14; refine hc.mono ?_; rintro e v2 ⟨rfl, hb⟩; refine Hid.out ?_)
    refine Lib.hid ?_
    replace KA := tkb hb LA KA
    replace LA := tlz LA hb.size
    replace KI := tkb hb LI KI
    replace LI := tlz LI hb.size
    replace KU := tkb hb LU KU
    replace LU := tlz LU hb.size
    replace B1 := tbt B1 hb
    replace SU := Lib.hid (SU.out.later hb hb.size)
    replace BB := tbt BB hb
    clear hc hb fA0 fA1
    cases hok : stOk s
    · have HOKF := Lib.hid hok
      clear hok
      have ke : ∀ q : Bool, (q == q) = true := fun q => by simp
      go_wp2_with fail
      have FA : Hid (∀ w', Below v2.heap.size v2 w' → w'.cell? ⟨w1.heap.size, 0, none⟩ = some (.slice sa s.items.length sc) ∧ w'.cell? ⟨w1.heap.size, 1, none⟩ = some (.slice ta s.talks.length tc)) := Lib.hid (fun w' h => by have K := tkb h LA KA; exact ⟨tcr K 0, tcr K 1⟩)
      refine wp_region_held_drew (S := (fun w' => Below v2.heap.size v2 w')) (by kernel_rfl) (Below.refl _ _).drew (fun hHeld => ?_)
      obtain ⟨yD, hyD⟩ : ∃ zz, zz = v2.drew := ⟨_, rfl⟩
      rw [← hyD] at hHeld ⊢
      clear hyD
      have BD := Lib.hid hHeld
      refine tk 0 (v := ?_) ?_ ?_; rotate_left
      · refine Or.inl ⟨by rfl, ?_⟩; intro w hSw; obtain ⟨hA0, hA1⟩ := FA.out w hSw; go_simp; first | done | with_reducible rfl
      refine tk 2 (v := ?_) ?_ ?_; rotate_left
      · refine Or.inl ⟨by rfl, ?_⟩; intro w hSw; obtain ⟨h0, h1⟩ := FA.out w hSw; go_simp; first | done | with_reducible rfl
      refine rd1 1 (fun K hK => ?_)
      go_simp
      have hc := impl_stateOk s _ yD.heap.size yD ((SV.out.later B1.out B1.out.size).later BD.out BD.out.size) (Nat.le_refl _) Hfit.out
      go_at_call 23
      refine hc.mono ?_
      rintro e yE ⟨rfl, hb⟩
      replace BD := tbt BD hb
      clear hc hb
      go_wp2_with fail
      refine hK.out _ _ BD.out (fun hHeld => ?_)
      clear hK K
      refine rd1 3 (fun K hK => ?_)
      go_simp
      have hc := spec_stateOk s _ yE.heap.size yE ((SV.out.later B1.out B1.out.size).later BD.out BD.out.size) (Nat.le_refl _) Hfit.out
      go_at_call 14
      refine hc.mono ?_
      rintro e yF ⟨rfl, hb⟩
      replace BD := tbt BD hb
      clear hc hb
      go_wp2_with fail
      refine hK.out _ _ BD.out (fun hHeld => ?_)
      clear hK K
      refine tk0 4 ?_
      refine tk0 5 ?_
      refine wpAnyH_done (by kernel_rfl) ?_ _
      clear hHeld
      replace BB := Lib.hid (BB.out.trans (BD.out.mono BB.out.size))
      go_wp2_with fail
      go_ret
      exact ⟨by simp, BB.out⟩
    cases ob
    · have ke : ∀ q : Bool, (q == q) = true := fun q => by simp
      go_wp2_with fail
      have FA : Hid (∀ w', Below v2.heap.size v2 w' → w'.cell? ⟨w1.heap.size, 0, none⟩ = some (.slice sa s.items.length sc) ∧ w'.cell? ⟨w1.heap.size, 1, none⟩ = some (.slice ta s.talks.length tc)) := Lib.hid (fun w' h => by have K := tkb h LA KA; exact ⟨tcr K 0, tcr K 1⟩)
      refine wp_region_held_drew (S := (fun w' => Below v2.heap.size v2 w')) (by kernel_rfl) (Below.refl _ _).drew (fun hHeld => ?_)
      obtain ⟨yD, hyD⟩ : ∃ zz, zz = v2.drew := ⟨_, rfl⟩
      rw [← hyD] at hHeld ⊢
      clear hyD
      have BD := Lib.hid hHeld
      refine tk 0 (v := ?_) ?_ ?_; rotate_left
      · refine Or.inl ⟨by rfl, ?_⟩; intro w hSw; obtain ⟨hA0, hA1⟩ := FA.out w hSw; go_simp; first | done | with_reducible rfl
      refine tk 2 (v := ?_) ?_ ?_; rotate_left
      · refine Or.inl ⟨by rfl, ?_⟩; intro w hSw; obtain ⟨h0, h1⟩ := FA.out w hSw; go_simp; first | done | with_reducible rfl
      refine rd1 1 (fun K hK => ?_)
      go_simp
      have hc := impl_stateOk s _ yD.heap.size yD ((SV.out.later B1.out B1.out.size).later BD.out BD.out.size) (Nat.le_refl _) Hfit.out
      go_at_call 23
      refine hc.mono ?_
      rintro e yE ⟨rfl, hb⟩
      replace BD := tbt BD hb
      clear hc hb
      go_wp2_with fail
      refine hK.out _ _ BD.out (fun hHeld => ?_)
      clear hK K
      refine rd1 3 (fun K hK => ?_)
      go_simp
      have hc := spec_stateOk s _ yE.heap.size yE ((SV.out.later B1.out B1.out.size).later BD.out BD.out.size) (Nat.le_refl _) Hfit.out
      go_at_call 14
      refine hc.mono ?_
      rintro e yF ⟨rfl, hb⟩
      replace BD := tbt BD hb
      clear hc hb
      go_wp2_with fail
      refine hK.out _ _ BD.out (fun hHeld => ?_)
      clear hK K
      refine tk0 4 ?_
      refine tk0 5 ?_
      refine wpAnyH_done (by kernel_rfl) ?_ _
      clear hHeld
      replace BB := Lib.hid (BB.out.trans (BD.out.mono BB.out.size))
      go_wp2_with fail
      go_ret
      exact ⟨by simp, BB.out⟩
    have HZS : Hid ((⟨#[122, 122, 122, 122]⟩ : ByteArray).size ≤ maxLen) := Lib.hid (by show (4 : Nat) ≤ maxLen; unfold maxLen; omega)
    have HOK := Lib.hid hok
    clear hok
    obtain ⟨it, hit⟩ : ∃ i, i = itemAt s.items ⟨#[122, 122, 122, 122]⟩ := ⟨_, rfl⟩
    have HIT := Lib.hid hit
    clear hit
    have hc := impl_itemAt s _ v2.heap.size ⟨#[122, 122, 122, 122]⟩ v2 (SV.out.later B1.out B1.out.size) (Nat.le_refl _) Hfit.out HZS.out
    rw [← HIT.out] at hc
    have fA0 := tcr KA 0
    have fA1 := tcr KA 1
    go_wp2_with (go_at_call 22; refine hc.mono ?_; rintro e v3 ⟨rfl, hb⟩; refine Hid.out ?_)
    refine Lib.hid ?_
    replace KA := tkb hb LA KA
    replace LA := tlz LA hb.size
    replace KI := tkb hb LI KI
    replace LI := tlz LI hb.size
    replace KU := tkb hb LU KU
    replace LU := tlz LU hb.size
    replace B1 := tbt B1 hb
    replace SU := Lib.hid (SU.out.later hb hb.size)
    replace BB := tbt BB hb
    clear hc hb fA0 fA1
    by_cases hi : 0 ≤ it
    · have dI : decide (0 ≤ it) = true := decide_eq_true hi
      have ke : ∀ q : Bool, (q == q) = true := fun q => by simp
      go_wp2_with fail
      have FA : Hid (∀ w', Below v3.heap.size v3 w' → w'.cell? ⟨w1.heap.size, 0, none⟩ = some (.slice sa s.items.length sc) ∧ w'.cell? ⟨w1.heap.size, 1, none⟩ = some (.slice ta s.talks.length tc)) := Lib.hid (fun w' h => by have K := tkb h LA KA; exact ⟨tcr K 0, tcr K 1⟩)
      refine wp_region_held_drew (S := (fun w' => Below v3.heap.size v3 w')) (by kernel_rfl) (Below.refl _ _).drew (fun hHeld => ?_)
      obtain ⟨yD, hyD⟩ : ∃ zz, zz = v3.drew := ⟨_, rfl⟩
      rw [← hyD] at hHeld ⊢
      clear hyD
      have BD := Lib.hid hHeld
      refine tk 0 (v := ?_) ?_ ?_; rotate_left
      · refine Or.inl ⟨by rfl, ?_⟩; intro w hSw; obtain ⟨hA0, hA1⟩ := FA.out w hSw; go_simp; first | done | with_reducible rfl
      refine tk 2 (v := ?_) ?_ ?_; rotate_left
      · refine Or.inl ⟨by rfl, ?_⟩; intro w hSw; obtain ⟨h0, h1⟩ := FA.out w hSw; go_simp; first | done | with_reducible rfl
      refine rd1 1 (fun K hK => ?_)
      go_simp
      have hc := impl_stateOk s _ yD.heap.size yD ((SV.out.later B1.out B1.out.size).later BD.out BD.out.size) (Nat.le_refl _) Hfit.out
      go_at_call 23
      refine hc.mono ?_
      rintro e yE ⟨rfl, hb⟩
      replace BD := tbt BD hb
      clear hc hb
      go_wp2_with fail
      refine hK.out _ _ BD.out (fun hHeld => ?_)
      clear hK K
      refine rd1 3 (fun K hK => ?_)
      go_simp
      have hc := spec_stateOk s _ yE.heap.size yE ((SV.out.later B1.out B1.out.size).later BD.out BD.out.size) (Nat.le_refl _) Hfit.out
      go_at_call 14
      refine hc.mono ?_
      rintro e yF ⟨rfl, hb⟩
      replace BD := tbt BD hb
      clear hc hb
      go_wp2_with fail
      refine hK.out _ _ BD.out (fun hHeld => ?_)
      clear hK K
      refine tk0 4 ?_
      refine tk0 5 ?_
      refine wpAnyH_done (by kernel_rfl) ?_ _
      clear hHeld
      replace BB := Lib.hid (BB.out.trans (BD.out.mono BB.out.size))
      go_wp2_with fail
      go_ret
      exact ⟨by simp, BB.out⟩
    have dI : decide (0 ≤ it) = false := decide_eq_false hi
    by_cases hkz : xk = ⟨#[122, 122, 122, 122]⟩
    · have hq := teq hkz
      have hzl : (⟨#[122, 122, 122, 122]⟩ : ByteArray).toList = [122, 122, 122, 122] := by rw [ByteArray.toList_eq]
      rw [hzl] at hq
      clear hkz hzl
      have fI0 := tcr KI 0
      have fI1 := tcr KI 1
      have ke : ∀ q : Bool, (q == q) = true := fun q => by simp
      go_wp2_with fail
      have FA : Hid (∀ w', Below v3.heap.size v3 w' → w'.cell? ⟨w1.heap.size, 0, none⟩ = some (.slice sa s.items.length sc) ∧ w'.cell? ⟨w1.heap.size, 1, none⟩ = some (.slice ta s.talks.length tc)) := Lib.hid (fun w' h => by have K := tkb h LA KA; exact ⟨tcr K 0, tcr K 1⟩)
      refine wp_region_held_drew (S := (fun w' => Below v3.heap.size v3 w')) (by kernel_rfl) (Below.refl _ _).drew (fun hHeld => ?_)
      obtain ⟨yD, hyD⟩ : ∃ zz, zz = v3.drew := ⟨_, rfl⟩
      rw [← hyD] at hHeld ⊢
      clear hyD
      have BD := Lib.hid hHeld
      refine tk 0 (v := ?_) ?_ ?_; rotate_left
      · refine Or.inl ⟨by rfl, ?_⟩; intro w hSw; obtain ⟨hA0, hA1⟩ := FA.out w hSw; go_simp; first | done | with_reducible rfl
      refine tk 2 (v := ?_) ?_ ?_; rotate_left
      · refine Or.inl ⟨by rfl, ?_⟩; intro w hSw; obtain ⟨h0, h1⟩ := FA.out w hSw; go_simp; first | done | with_reducible rfl
      refine rd1 1 (fun K hK => ?_)
      go_simp
      have hc := impl_stateOk s _ yD.heap.size yD ((SV.out.later B1.out B1.out.size).later BD.out BD.out.size) (Nat.le_refl _) Hfit.out
      go_at_call 23
      refine hc.mono ?_
      rintro e yE ⟨rfl, hb⟩
      replace BD := tbt BD hb
      clear hc hb
      go_wp2_with fail
      refine hK.out _ _ BD.out (fun hHeld => ?_)
      clear hK K
      refine rd1 3 (fun K hK => ?_)
      go_simp
      have hc := spec_stateOk s _ yE.heap.size yE ((SV.out.later B1.out B1.out.size).later BD.out BD.out.size) (Nat.le_refl _) Hfit.out
      go_at_call 14
      refine hc.mono ?_
      rintro e yF ⟨rfl, hb⟩
      replace BD := tbt BD hb
      clear hc hb
      go_wp2_with fail
      refine hK.out _ _ BD.out (fun hHeld => ?_)
      clear hK K
      refine tk0 4 ?_
      refine tk0 5 ?_
      refine wpAnyH_done (by kernel_rfl) ?_ _
      clear hHeld
      replace BB := Lib.hid (BB.out.trans (BD.out.mono BB.out.size))
      go_wp2_with fail
      go_ret
      exact ⟨by simp, BB.out⟩
    have hq := tne hkz
    have hzl : (⟨#[122, 122, 122, 122]⟩ : ByteArray).toList = [122, 122, 122, 122] := by rw [ByteArray.toList_eq]
    rw [hzl] at hq
    clear hkz hzl
    have hu2 : u = putSI s ⟨⟨#[122, 122, 122, 122]⟩, vz⟩ ∧ stOk u = true := by
      have h := HOB.out
      unfold chgB at h
      have h2 : stOk (putSI s ⟨⟨#[122, 122, 122, 122]⟩, vz⟩) = true := by rw [HOK.out] at h; simpa using h.symm
      have h3 : u = putSI s ⟨⟨#[122, 122, 122, 122]⟩, vz⟩ := by rw [HU.out]; unfold chg; rw [if_pos ⟨HOK.out, h2⟩]
      exact ⟨h3, by rw [h3]; exact h2⟩
    have HNE : ∀ y ∈ s.items, y.k ≠ ⟨#[122, 122, 122, 122]⟩ := fun y hy => by
      obtain ⟨q, hq2, rfl⟩ := List.getElem_of_mem hy
      exact (itemAt_miss (by rw [← HIT.out]; exact hi)).2 q hq2
    have hz8 : (fmtS s 2).size + 8 ≤ (fmtS u 2).size := by
      have h1 := fmt_put (x := ⟨⟨#[122, 122, 122, 122]⟩, vz⟩) HOK.out (by rw [← hu2.1]; exact hu2.2) HNE
      rw [← hu2.1] at h1
      have h2 : 8 ≤ (encIt ⟨⟨#[122, 122, 122, 122]⟩, vz⟩).length := by
        have e1 : (pt ⟨#[122, 122, 122, 122]⟩).length = 6 := by rw [pt_len (by show (4 : Nat) ≤ 65535; omega)]; rfl
        have e2 : 2 ≤ (pt vz).length := by rw [pt_len (by have := HVS.out; omega)]; omega
        show 8 ≤ (pt ⟨#[122, 122, 122, 122]⟩ ++ pt vz).length
        rw [List.length_append, e1]; omega
      omega
    have HUfit : Hid (Fits u) := Lib.hid (by rw [HU.out]; exact (Hsm.out.putI ⟨by show (4 : Nat) ≤ 64; omega, by show vz.size ≤ 64; have := HVS.out; omega⟩).fits)
    obtain ⟨E1, hE1⟩ : ∃ E, E = cutS (fmtS s 2) 8 := ⟨_, rfl⟩
    obtain ⟨E2, hE2⟩ : ∃ E, E = cutS (fmtS u 2) 8 := ⟨_, rfl⟩
    obtain ⟨l1, l12, l2, t, tok, to1, to2⟩ := tk_other (E1 := E1) (E2 := E2) HOK.out hu2.2 hz8 hE1 hE2
    have HE1 := Lib.hid hE1
    have HE2 := Lib.hid hE2
    have Hm1 : Hid (∀ x ∈ E1, x.size ≤ 1000) := Lib.hid (fun x hx => by rw [hE1] at hx; have := exp_mem x hx; omega)
    have Hm2 : Hid (∀ x ∈ E2, x.size ≤ 1000) := Lib.hid (fun x hx => by rw [hE2] at hx; have := exp_mem x hx; omega)
    have TO1 := Lib.hid (to1 l1)
    have TO2 := Lib.hid (to2 (by omega))
    have TOK := Lib.hid tok
    clear hu2 HNE hz8 hE1 hE2 to1 to2 tok
    have fI0 := tcr KI 0
    have fI1 := tcr KI 1
    go_wp2_with fail
    clear fI0 fI1 hq dI
    have FA : Hid (∀ w', Below v3.heap.size v3 w' → w'.cell? ⟨w1.heap.size, 0, none⟩ = some (.slice sa s.items.length sc) ∧ w'.cell? ⟨w1.heap.size, 1, none⟩ = some (.slice ta s.talks.length tc)) := Lib.hid (fun w' h => by have K := tkb h LA KA; exact ⟨tcr K 0, tcr K 1⟩)
    have FU : Hid (∀ w', Below v3.heap.size v3 w' → w'.cell? ⟨mU, 0, none⟩ = some (.slice ai u.items.length ci) ∧ w'.cell? ⟨mU, 1, none⟩ = some (.slice at_ u.talks.length ct)) := Lib.hid (fun w' h => by have K := tkb h LU KU; exact ⟨tcr K 0, tcr K 1⟩)
    refine wp_region_held_drew (S := (fun w' => Below v3.heap.size v3 w')) (by kernel_rfl) (Below.refl _ _).drew (fun hHeld => ?_)
    obtain ⟨yD, hyD⟩ : ∃ zz, zz = v3.drew := ⟨_, rfl⟩
    rw [← hyD] at hHeld ⊢
    clear hyD
    have BD := Lib.hid hHeld
    refine tk 0 (v := ?_) ?_ ?_; rotate_left
    · refine Or.inl ⟨by rfl, ?_⟩; intro w hSw; obtain ⟨hA0, hA1⟩ := FA.out w hSw; go_simp; first | done | with_reducible rfl
    refine tk 2 (v := ?_) ?_ ?_; rotate_left
    · refine Or.inl ⟨by rfl, ?_⟩; intro w hSw; obtain ⟨hU0, hU1⟩ := FU.out w hSw; go_simp; first | done | with_reducible rfl
    refine rd1 1 (fun K hK => ?_)
    go_simp
    have hc := impl_export s _ 2 8 yD.heap.size yD ((SV.out.later B1.out B1.out.size).later BD.out BD.out.size) (Nat.le_refl _) Hfit.out
    rw [← HE1.out] at hc
    go_at_call 7
    refine hc.mono ?_
    rintro e yE ⟨vE, rfl, hE, hb⟩
    obtain ⟨a1, k1, rfl, hraw⟩ := texts_raw hE
    have G1 := Lib.hid hE
    have R1 := Lib.hid hraw
    clear hE hraw
    replace BD := tbt BD hb
    clear hc hb
    go_wp2_with fail
    refine hK.out _ _ BD.out (fun hHeld => ?_)
    clear hK K
    have BE1 : Hid (Below yE.heap.size yE yE) := Lib.hid (Below.refl _ _)
    refine rd1 3 (fun K hK => ?_)
    go_simp
    have hc := impl_export u _ 2 8 yE.heap.size yE (SU.out.later BD.out BD.out.size) (Nat.le_refl _) HUfit.out
    rw [← HE2.out] at hc
    go_at_call 7
    refine hc.mono ?_
    rintro e yF ⟨vE, rfl, hE, hb⟩
    obtain ⟨a2, k2, rfl, hraw⟩ := texts_raw hE
    have G2 := Lib.hid hE
    have R2 := Lib.hid hraw
    replace G1 := Lib.hid (sp_later G1.out hb)
    replace R1 := Lib.hid (R1.out.later hb hb.size)
    clear hE hraw BE1
    replace BD := tbt BD hb
    clear hc hb
    go_wp2_with fail
    refine hK.out _ _ BD.out (fun hHeld => ?_)
    clear hK K
    refine tk0 4 ?_
    refine tk0 5 ?_
    refine wpAnyH_done (by kernel_rfl) ?_ _
    clear hHeld
    have hb := BD.out
    replace KA := tkb hb LA KA
    replace LA := tlz LA hb.size
    replace KI := tkb hb LI KI
    replace LI := tlz LI hb.size
    replace KU := tkb hb LU KU
    replace LU := tlz LU hb.size
    replace B1 := tbt B1 hb
    replace SU := Lib.hid (SU.out.later hb hb.size)
    replace BB := tbt BB hb
    clear hb BD
    clear FA FU
    have hp1 : 0 < E1.length := l1
    have hp2 : 0 < E2.length := by omega
    obtain ⟨g1, cl, hv, hgot⟩ := sp_got G1.out (by omega)
    obtain ⟨rfl, rfl⟩ : a1 = some ⟨g1, 0, none⟩ ∧ k1 = cl := by injection hv with e1 _ e2; exact ⟨e1, e2⟩
    have GT1 := Lib.hid hgot
    have hcap1 : E1.length ≤ k1 := hgot.2.1
    clear G1 hv hgot
    obtain ⟨g2, cl, hv, hgot⟩ := sp_got G2.out (by omega)
    obtain ⟨rfl, rfl⟩ : a2 = some ⟨g2, 0, none⟩ ∧ k2 = cl := by injection hv with e1 _ e2; exact ⟨e1, e2⟩
    have GT2 := Lib.hid hgot
    have hcap2 : E2.length ≤ k2 := hgot.2.1
    clear G2 hv hgot
    have hc := spec_export s _ 2 8 yF.heap.size yF (SV.out.later B1.out B1.out.size) (Nat.le_refl _) Hfit.out
    rw [← HE1.out] at hc
    have fA0 := tcr KA 0
    have fA1 := tcr KA 1
    go_wp2_with (go_at_call 13; refine hc.mono ?_; rintro e yG ⟨vW, rfl, hW, hb⟩; refine Hid.out ?_)
    refine Lib.hid ?_
    replace KA := tkb hb LA KA
    replace LA := tlz LA hb.size
    replace KI := tkb hb LI KI
    replace LI := tlz LI hb.size
    replace KU := tkb hb LU KU
    replace LU := tlz LU hb.size
    replace B1 := tbt B1 hb
    replace SU := Lib.hid (SU.out.later hb hb.size)
    replace R1 := Lib.hid (R1.out.later hb hb.size)
    replace R2 := Lib.hid (R2.out.later hb hb.size)
    replace GT1 := Lib.hid (GT1.out.later hb)
    replace GT2 := Lib.hid (GT2.out.later hb)
    replace BB := tbt BB hb
    clear hc hb fA0 fA1
    obtain ⟨wa, wc, rfl, hraw⟩ := texts_raw hW
    have RW := Lib.hid hraw
    clear hraw hW
    have hc := same_raw E1 _ _ yG.heap.size yG R1.out RW.out (Nat.le_refl _)
    clear RW
    go_wp2_with (go_at_call 12; refine hc.mono ?_; rintro e yH ⟨rfl, hb⟩; refine Hid.out ?_)
    refine Lib.hid ?_
    replace KA := tkb hb LA KA
    replace LA := tlz LA hb.size
    replace KI := tkb hb LI KI
    replace LI := tlz LI hb.size
    replace KU := tkb hb LU KU
    replace LU := tlz LU hb.size
    replace B1 := tbt B1 hb
    replace SU := Lib.hid (SU.out.later hb hb.size)
    replace R1 := Lib.hid (R1.out.later hb hb.size)
    replace R2 := Lib.hid (R2.out.later hb hb.size)
    replace GT1 := Lib.hid (GT1.out.later hb)
    replace GT2 := Lib.hid (GT2.out.later hb)
    replace BB := tbt BB hb
    clear hc hb 
    have hc := spec_export u _ 2 8 yH.heap.size yH SU.out (Nat.le_refl _) HUfit.out
    rw [← HE2.out] at hc
    have fU0 := tcr KU 0
    have fU1 := tcr KU 1
    go_wp2_with (go_at_call 13; refine hc.mono ?_; rintro e yI ⟨vW, rfl, hW, hb⟩; refine Hid.out ?_)
    refine Lib.hid ?_
    replace KA := tkb hb LA KA
    replace LA := tlz LA hb.size
    replace KI := tkb hb LI KI
    replace LI := tlz LI hb.size
    replace KU := tkb hb LU KU
    replace LU := tlz LU hb.size
    replace B1 := tbt B1 hb
    replace SU := Lib.hid (SU.out.later hb hb.size)
    replace R1 := Lib.hid (R1.out.later hb hb.size)
    replace R2 := Lib.hid (R2.out.later hb hb.size)
    replace GT1 := Lib.hid (GT1.out.later hb)
    replace GT2 := Lib.hid (GT2.out.later hb)
    replace BB := tbt BB hb
    clear hc hb fU0 fU1
    obtain ⟨wa, wc, rfl, hraw⟩ := texts_raw hW
    have RW := Lib.hid hraw
    clear hraw hW
    have hc := same_raw E2 _ _ yI.heap.size yI R2.out RW.out (Nat.le_refl _)
    clear RW
    go_wp2_with (go_at_call 12; refine hc.mono ?_; rintro e yJ ⟨rfl, hb⟩; refine Hid.out ?_)
    refine Lib.hid ?_
    replace KA := tkb hb LA KA
    replace LA := tlz LA hb.size
    replace KI := tkb hb LI KI
    replace LI := tlz LI hb.size
    replace KU := tkb hb LU KU
    replace LU := tlz LU hb.size
    replace B1 := tbt B1 hb
    replace SU := Lib.hid (SU.out.later hb hb.size)
    replace R1 := Lib.hid (R1.out.later hb hb.size)
    replace R2 := Lib.hid (R2.out.later hb hb.size)
    replace GT1 := Lib.hid (GT1.out.later hb)
    replace GT2 := Lib.hid (GT2.out.later hb)
    replace BB := tbt BB hb
    clear hc hb 
    clear R1 R2 SU KU LU KA LA KI LI SV
    obtain ⟨⟨zo, zn, zc, zb⟩, hz⟩ : ∃ z, z = t := ⟨_, rfl⟩
    rw [← hz] at TO1 TO2 TOK
    clear hz
    have hl2 : ((E2.length : Int) == 0) = false := by rw [beq_eq_false_iff_ne]; omega
    have hl2i : ¬ (E2.length : Int) = 0 := by omega
    obtain ⟨hfT, hbT, _⟩ := tk_fit TOK.out
    obtain ⟨hfN, hbN, _⟩ := tk_fit tkr_new_ok
    obtain ⟨x1, hx1⟩ : ∃ z, z = E1[0]'hp1 := ⟨_, rfl⟩
    have hxz1 : x1.size ≤ 1000 := by rw [hx1]; exact Hm1.out _ (List.getElem_mem _)
    obtain ⟨q, hq⟩ : ∃ q, q = E2.length - 1 := ⟨_, rfl⟩
    have hql : q < E2.length := by omega
    obtain ⟨x2, hx2⟩ : ∃ z, z = E2[q]'hql := ⟨_, rfl⟩
    have hxz2 : x2.size ≤ 1000 := by rw [hx2]; exact Hm2.out _ (List.getElem_mem _)
    have kb := fun w => impl_begin 0 w
    have ko1 : ∀ w, Calls Tryz.prog 15 #[tkrV tkN, .string x1] w fun e w' => (∃ c : Int, e = .returned (.tuple #[tkrV ⟨zo, zn, zc, zb⟩, .int .i64 c])) ∧ Below w.heap.size w w' := fun w => (impl_offer tkN x1 w hfN (by omega) (by omega)).mono (by rintro e w' ⟨rfl, h⟩; exact ⟨⟨_, by rw [hx1, TO1.out]⟩, h⟩)
    have ho2 : offerS ⟨zo, zn, zc, zb⟩ x2 = (⟨zo, zn, zc, zb⟩, 4) := by have h := TO2.out; simp only [← hq] at h; rw [hx2]; exact h
    have ko2 := fun w => impl_offer ⟨zo, zn, zc, zb⟩ x2 w hfT (by omega) (by omega)
    simp only [ho2] at ko2
    have kt := fun w => impl_takerOk ⟨zo, zn, zc, zb⟩ w hfT
    simp only [TOK.out] at kt
    have ke : ∀ w, (binOp .eql 34 (tkrV ⟨zo, zn, zc, zb⟩) (tkrV ⟨zo, zn, zc, zb⟩)).run Tryz.prog w = .ok (.bool true) w := fun w => by have h := eql_tk ⟨zo, zn, zc, zb⟩ ⟨zo, zn, zc, zb⟩ w; rw [tkrEq_refl] at h; exact h
    have HX1 := Lib.hid hx1
    have HX2 := Lib.hid hx2
    have HQ := Lib.hid hq
    have hwq : IntKind.i64.wrap ((E2.length : Int) - 1) = (q : Int) := by rw [IntKind.wrap_i64]; omega
    clear hx1 hx2 hq ho2 hxz1 hxz2 hfN hbN hfT hbT
    obtain ⟨⟨no, nn, nc, nb⟩, hN⟩ : ∃ z, z = tkN := ⟨_, rfl⟩
    rw [← hN] at kb ko1
    clear hN
    unfold tkrV at kb ko1 ko2 kt ke
    dsimp only at kb ko1 ko2 kt ke
    have n10 : (0 : Int) < (E1.length : Int) := by omega
    have n2q : (q : Int) < (E2.length : Int) := by omega
    have n2z : (0 : Int) ≤ (q : Int) := by omega
    go_wp2_with fail
    go_cut [9, 10] (fun mm bv wx => ∃ (mb : Nat), mm = .pointer (some ⟨mb, 0, none⟩) ∧ (∃ c : Int, bv = .int .i64 c) ∧ Hid (wx.heap[mb]? = some (.cells #[.int .i64 zo, .int .i64 zn, .int .i64 zc, .string zb] 34 (0, 0))) ∧ Hid (Below yJ.heap.size yJ wx) ∧ Hid (yJ.heap.size ≤ mb ∧ mb < wx.heap.size))
    case first =>
      have FL : Hid (∀ w', Below yJ.heap.size yJ w' → w'.cell? ⟨g1, 0, none⟩ = some (.string x1)) := Lib.hid (fun w' h => by rw [HX1.out]; exact (sp_cell (GT1.out.later h) 0 hp1).1)
      refine wp_region_held_drew (S := (fun w' => Below yJ.heap.size yJ w')) (by kernel_rfl) (Below.refl _ _).drew (fun hHeld => ?_)
      obtain ⟨zD, hzD⟩ : ∃ zz, zz = yJ.drew := ⟨_, rfl⟩
      rw [← hzD] at hHeld ⊢
      clear hzD
      have BD := Lib.hid hHeld
      refine tk0 1 ?_
      refine tk0 2 ?_
      refine tk 3 (v := ?_) ?_ ?_; rotate_left
      · refine Or.inl ⟨by rfl, ?_⟩; intro w hSw; have h0 := FL.out w hSw; go_simp; first | done | with_reducible rfl
      refine rd2 0 8 (fun K hK => ?_) (fun K hK => ?_)
      · go_simp
        have hc := kb zD
        go_at_call 9
        refine hc.mono ?_
        rintro e z21 ⟨rfl, hb⟩
        replace BD := tbt BD hb
        clear hc hb
        go_wp2_with fail
        refine hK.out _ _ BD.out (fun hHeld => ?_)
        clear hK K
        refine rd2 4 8 (fun K hK => ?_) (fun K hK => ?_)
        · go_simp
          have hc := ko1 z21
          go_at_call 15
          refine hc.mono ?_
          rintro e z22 ⟨⟨cx, rfl⟩, hb⟩
          replace BD := tbt BD hb
          clear hc hb
          go_wp2_with fail
          refine hK.out _ _ BD.out (fun hHeld => ?_)
          clear hK K
          refine tk0 5 ?_
          refine tk0 6 ?_
          refine tk0 7 ?_
          refine rd1 8 (fun K hK => ?_)
          go_simp
          obtain ⟨zV, hzV⟩ : ∃ z, z = z22.alloc (.cells #[.int .i64 0, .int .i64 0, .int .i64 0, .string ⟨#[]⟩] 34) := ⟨_, rfl⟩
          rw [← hzV]
          have bV : Below z22.heap.size z22 zV := by rw [hzV]; exact (Below.refl _ _).alloc (Nat.le_refl _) _
          have KM : Hid (zV.heap[z22.heap.size]? = some (.cells #[.int .i64 0, .int .i64 0, .int .i64 0, .string ⟨#[]⟩] 34 (0, 0))) := Lib.hid (by rw [hzV]; exact heap_new _ _)
          have LM : Hid (z22.heap.size < zV.heap.size) := Lib.hid (by rw [hzV]; simp)
          have AM : Hid (yJ.heap.size ≤ z22.heap.size) := Lib.hid BD.out.size
          replace BD := tbt BD bV
          clear hzV bV
          go_wp2_with fail
          refine hK.out _ _ BD.out (fun hHeld => ?_)
          clear hK K
          refine rd1 9 (fun K hK => ?_)
          have f0 := tcr KM 0
          have f1 := tcr KM 1
          have f2 := tcr KM 2
          have f3 := tcr KM 3
          have z0 := tfr KM 0
          have z1 := tfr KM 1
          have z2 := tfr KM 2
          have z3 := tfr KM 3
          go_simp
          obtain ⟨Y, hY⟩ : ∃ Y, Y = (((zV.setCell ⟨z22.heap.size, 0, none⟩ (.int .i64 zo)).setCell ⟨z22.heap.size, 1, none⟩ (.int .i64 zn)).setCell ⟨z22.heap.size, 2, none⟩ (.int .i64 zc)).setCell ⟨z22.heap.size, 3, none⟩ (.string zb) := ⟨_, rfl⟩
          rw [← hY]
          have QR1 : Hid (Y.heap[z22.heap.size]? = some (.cells #[.int .i64 zo, .int .i64 zn, .int .i64 zc, .string zb] 34 (0, 0))) := Lib.hid (by rw [hY]; exact storeT KM.out)
          have BY : Below yJ.heap.size yJ Y := by rw [hY]; exact below4 BD.out AM.out
          have LY : Hid (yJ.heap.size ≤ z22.heap.size ∧ z22.heap.size < Y.heap.size) := Lib.hid ⟨AM.out, (Array.getElem?_eq_some_iff.1 QR1.out).1⟩
          refine hK.out _ _ BY (fun hHeld => ?_)
          clear hK K f0 f1 f2 f3 z0 z1 z2 z3 hY
          refine tk0 10 ?_
          refine wpAnyH_done (by kernel_rfl) ?_ _
          clear hHeld
          go_wp2_with fail
          go_meet
          exact ⟨z22.heap.size, rfl, ⟨_, rfl⟩, QR1, Lib.hid BY, LY⟩
        · go_simp
          obtain ⟨zV, hzV⟩ : ∃ z, z = z21.alloc (.cells #[.int .i64 0, .int .i64 0, .int .i64 0, .string ⟨#[]⟩] 34) := ⟨_, rfl⟩
          rw [← hzV]
          have bV : Below z21.heap.size z21 zV := by rw [hzV]; exact (Below.refl _ _).alloc (Nat.le_refl _) _
          have KM : Hid (zV.heap[z21.heap.size]? = some (.cells #[.int .i64 0, .int .i64 0, .int .i64 0, .string ⟨#[]⟩] 34 (0, 0))) := Lib.hid (by rw [hzV]; exact heap_new _ _)
          have LM : Hid (z21.heap.size < zV.heap.size) := Lib.hid (by rw [hzV]; simp)
          have AM : Hid (yJ.heap.size ≤ z21.heap.size) := Lib.hid BD.out.size
          replace BD := tbt BD bV
          clear hzV bV
          go_wp2_with fail
          refine hK.out _ _ BD.out (fun hHeld => ?_)
          clear hK K
          refine rd1 4 (fun K hK => ?_)
          go_simp
          have hc := ko1 zV
          go_at_call 15
          refine hc.mono ?_
          rintro e z22 ⟨⟨cx, rfl⟩, hb⟩
          replace KM := tkb hb LM KM
          replace LM := tlz LM hb.size
          replace BD := tbt BD hb
          clear hc hb
          go_wp2_with fail
          refine hK.out _ _ BD.out (fun hHeld => ?_)
          clear hK K
          refine tk0 5 ?_
          refine tk0 6 ?_
          refine tk0 7 ?_
          refine rd1 9 (fun K hK => ?_)
          have f0 := tcr KM 0
          have f1 := tcr KM 1
          have f2 := tcr KM 2
          have f3 := tcr KM 3
          have z0 := tfr KM 0
          have z1 := tfr KM 1
          have z2 := tfr KM 2
          have z3 := tfr KM 3
          go_simp
          obtain ⟨Y, hY⟩ : ∃ Y, Y = (((z22.setCell ⟨z21.heap.size, 0, none⟩ (.int .i64 zo)).setCell ⟨z21.heap.size, 1, none⟩ (.int .i64 zn)).setCell ⟨z21.heap.size, 2, none⟩ (.int .i64 zc)).setCell ⟨z21.heap.size, 3, none⟩ (.string zb) := ⟨_, rfl⟩
          rw [← hY]
          have QR1 : Hid (Y.heap[z21.heap.size]? = some (.cells #[.int .i64 zo, .int .i64 zn, .int .i64 zc, .string zb] 34 (0, 0))) := Lib.hid (by rw [hY]; exact storeT KM.out)
          have BY : Below yJ.heap.size yJ Y := by rw [hY]; exact below4 BD.out AM.out
          have LY : Hid (yJ.heap.size ≤ z21.heap.size ∧ z21.heap.size < Y.heap.size) := Lib.hid ⟨AM.out, (Array.getElem?_eq_some_iff.1 QR1.out).1⟩
          refine hK.out _ _ BY (fun hHeld => ?_)
          clear hK K f0 f1 f2 f3 z0 z1 z2 z3 hY
          refine tk0 10 ?_
          refine wpAnyH_done (by kernel_rfl) ?_ _
          clear hHeld
          go_wp2_with fail
          go_meet
          exact ⟨z21.heap.size, rfl, ⟨_, rfl⟩, QR1, Lib.hid BY, LY⟩
      · go_simp
        obtain ⟨zV, hzV⟩ : ∃ z, z = zD.alloc (.cells #[.int .i64 0, .int .i64 0, .int .i64 0, .string ⟨#[]⟩] 34) := ⟨_, rfl⟩
        rw [← hzV]
        have bV : Below zD.heap.size zD zV := by rw [hzV]; exact (Below.refl _ _).alloc (Nat.le_refl _) _
        have KM : Hid (zV.heap[zD.heap.size]? = some (.cells #[.int .i64 0, .int .i64 0, .int .i64 0, .string ⟨#[]⟩] 34 (0, 0))) := Lib.hid (by rw [hzV]; exact heap_new _ _)
        have LM : Hid (zD.heap.size < zV.heap.size) := Lib.hid (by rw [hzV]; simp)
        have AM : Hid (yJ.heap.size ≤ zD.heap.size) := Lib.hid BD.out.size
        replace BD := tbt BD bV
        clear hzV bV
        go_wp2_with fail
        refine hK.out _ _ BD.out (fun hHeld => ?_)
        clear hK K
        refine rd1 0 (fun K hK => ?_)
        go_simp
        have hc := kb zV
        go_at_call 9
        refine hc.mono ?_
        rintro e z21 ⟨rfl, hb⟩
        replace KM := tkb hb LM KM
        replace LM := tlz LM hb.size
        replace BD := tbt BD hb
        clear hc hb
        go_wp2_with fail
        refine hK.out _ _ BD.out (fun hHeld => ?_)
        clear hK K
        refine rd1 4 (fun K hK => ?_)
        go_simp
        have hc := ko1 z21
        go_at_call 15
        refine hc.mono ?_
        rintro e z22 ⟨⟨cx, rfl⟩, hb⟩
        replace KM := tkb hb LM KM
        replace LM := tlz LM hb.size
        replace BD := tbt BD hb
        clear hc hb
        go_wp2_with fail
        refine hK.out _ _ BD.out (fun hHeld => ?_)
        clear hK K
        refine tk0 5 ?_
        refine tk0 6 ?_
        refine tk0 7 ?_
        refine rd1 9 (fun K hK => ?_)
        have f0 := tcr KM 0
        have f1 := tcr KM 1
        have f2 := tcr KM 2
        have f3 := tcr KM 3
        have z0 := tfr KM 0
        have z1 := tfr KM 1
        have z2 := tfr KM 2
        have z3 := tfr KM 3
        go_simp
        obtain ⟨Y, hY⟩ : ∃ Y, Y = (((z22.setCell ⟨zD.heap.size, 0, none⟩ (.int .i64 zo)).setCell ⟨zD.heap.size, 1, none⟩ (.int .i64 zn)).setCell ⟨zD.heap.size, 2, none⟩ (.int .i64 zc)).setCell ⟨zD.heap.size, 3, none⟩ (.string zb) := ⟨_, rfl⟩
        rw [← hY]
        have QR1 : Hid (Y.heap[zD.heap.size]? = some (.cells #[.int .i64 zo, .int .i64 zn, .int .i64 zc, .string zb] 34 (0, 0))) := Lib.hid (by rw [hY]; exact storeT KM.out)
        have BY : Below yJ.heap.size yJ Y := by rw [hY]; exact below4 BD.out AM.out
        have LY : Hid (yJ.heap.size ≤ zD.heap.size ∧ zD.heap.size < Y.heap.size) := Lib.hid ⟨AM.out, (Array.getElem?_eq_some_iff.1 QR1.out).1⟩
        refine hK.out _ _ BY (fun hHeld => ?_)
        clear hK K f0 f1 f2 f3 z0 z1 z2 z3 hY
        refine tk0 10 ?_
        refine wpAnyH_done (by kernel_rfl) ?_ _
        clear hHeld
        go_wp2_with fail
        go_meet
        exact ⟨zD.heap.size, rfl, ⟨_, rfl⟩, QR1, Lib.hid BY, LY⟩
    case rest =>
      obtain ⟨mT, rfl, ⟨ccT, rfl⟩, KT, bA, L0⟩ := hcut
      obtain ⟨q1, rfl⟩ : ∃ z, z = wc := ⟨_, rfl⟩
      have LT := Lib.hid L0.out.2
      have hb := bA.out
      clear L0 bA
      replace B1 := tbt B1 hb
      replace GT1 := Lib.hid (GT1.out.later hb)
      replace GT2 := Lib.hid (GT2.out.later hb)
      replace BB := tbt BB hb
      clear hb
      go_wp2_with fail
      go_cut [11, 12] (fun mm bv wx => ∃ (mb : Nat), mm = .pointer (some ⟨mb, 0, none⟩) ∧ bv = .int .i64 4 ∧ Hid (wx.heap[mb]? = some (.cells #[.int .i64 zo, .int .i64 zn, .int .i64 zc, .string zb] 34 (0, 0))) ∧ Hid (Below q1.heap.size q1 wx) ∧ Hid (q1.heap.size ≤ mb ∧ mb < wx.heap.size))
      case first =>
        have FT : Hid (∀ w', Below q1.heap.size q1 w' → w'.cell? ⟨mT, 0, none⟩ = some (.int .i64 zo) ∧ w'.cell? ⟨mT, 1, none⟩ = some (.int .i64 zn) ∧ w'.cell? ⟨mT, 2, none⟩ = some (.int .i64 zc) ∧ w'.cell? ⟨mT, 3, none⟩ = some (.string zb)) := Lib.hid (fun w' h => by have K := tkb h LT KT; exact ⟨tcr K 0, tcr K 1, tcr K 2, tcr K 3⟩)
        have FL : Hid (∀ w', Below q1.heap.size q1 w' → w'.cell? ⟨g2, q, none⟩ = some (.string x2)) := Lib.hid (fun w' h => by rw [HX2.out]; exact (sp_cell (GT2.out.later h) q hql).1)
        refine wp_region_held_drew (S := (fun w' => Below q1.heap.size q1 w')) (by kernel_rfl) (Below.refl _ _).drew (fun hHeld => ?_)
        obtain ⟨zD, hzD⟩ : ∃ zz, zz = q1.drew := ⟨_, rfl⟩
        rw [← hzD] at hHeld ⊢
        clear hzD
        have BD := Lib.hid hHeld
        refine tk 0 (v := ?_) ?_ ?_; rotate_left
        · refine Or.inl ⟨by rfl, ?_⟩; intro w hSw; obtain ⟨hT0, hT1, hT2, hT3⟩ := FT.out w hSw; go_simp; first | done | with_reducible rfl
        refine tk0 1 ?_
        refine tk0 2 ?_
        refine tk0 3 ?_
        refine tk0 4 ?_
        refine tk0 5 ?_
        refine tk 6 (v := ?_) ?_ ?_; rotate_left
        · refine Or.inl ⟨by rfl, ?_⟩; intro w hSw; have h0 := FL.out w hSw; go_simp; first | done | with_reducible rfl
        refine rd2 7 11 (fun K hK => ?_) (fun K hK => ?_)
        · go_simp
          have hc := ko2 zD
          go_at_call 15
          refine hc.mono ?_
          rintro e z21 ⟨rfl, hb⟩
          replace BD := tbt BD hb
          clear hc hb
          go_wp2_with fail
          refine hK.out _ _ BD.out (fun hHeld => ?_)
          clear hK K
          refine tk0 8 ?_
          refine tk0 9 ?_
          refine tk0 10 ?_
          refine rd1 11 (fun K hK => ?_)
          go_simp
          obtain ⟨zV, hzV⟩ : ∃ z, z = z21.alloc (.cells #[.int .i64 0, .int .i64 0, .int .i64 0, .string ⟨#[]⟩] 34) := ⟨_, rfl⟩
          rw [← hzV]
          have bV : Below z21.heap.size z21 zV := by rw [hzV]; exact (Below.refl _ _).alloc (Nat.le_refl _) _
          have KM : Hid (zV.heap[z21.heap.size]? = some (.cells #[.int .i64 0, .int .i64 0, .int .i64 0, .string ⟨#[]⟩] 34 (0, 0))) := Lib.hid (by rw [hzV]; exact heap_new _ _)
          have LM : Hid (z21.heap.size < zV.heap.size) := Lib.hid (by rw [hzV]; simp)
          have AM : Hid (q1.heap.size ≤ z21.heap.size) := Lib.hid BD.out.size
          replace BD := tbt BD bV
          clear hzV bV
          go_wp2_with fail
          refine hK.out _ _ BD.out (fun hHeld => ?_)
          clear hK K
          refine rd1 12 (fun K hK => ?_)
          have f0 := tcr KM 0
          have f1 := tcr KM 1
          have f2 := tcr KM 2
          have f3 := tcr KM 3
          have z0 := tfr KM 0
          have z1 := tfr KM 1
          have z2 := tfr KM 2
          have z3 := tfr KM 3
          go_simp
          obtain ⟨Y, hY⟩ : ∃ Y, Y = (((zV.setCell ⟨z21.heap.size, 0, none⟩ (.int .i64 zo)).setCell ⟨z21.heap.size, 1, none⟩ (.int .i64 zn)).setCell ⟨z21.heap.size, 2, none⟩ (.int .i64 zc)).setCell ⟨z21.heap.size, 3, none⟩ (.string zb) := ⟨_, rfl⟩
          rw [← hY]
          have QR1 : Hid (Y.heap[z21.heap.size]? = some (.cells #[.int .i64 zo, .int .i64 zn, .int .i64 zc, .string zb] 34 (0, 0))) := Lib.hid (by rw [hY]; exact storeT KM.out)
          have BY : Below q1.heap.size q1 Y := by rw [hY]; exact below4 BD.out AM.out
          have LY : Hid (q1.heap.size ≤ z21.heap.size ∧ z21.heap.size < Y.heap.size) := Lib.hid ⟨AM.out, (Array.getElem?_eq_some_iff.1 QR1.out).1⟩
          refine hK.out _ _ BY (fun hHeld => ?_)
          clear hK K f0 f1 f2 f3 z0 z1 z2 z3 hY
          refine tk0 13 ?_
          refine wpAnyH_done (by kernel_rfl) ?_ _
          clear hHeld
          go_wp2_with fail
          go_meet
          exact ⟨z21.heap.size, rfl, rfl, QR1, Lib.hid BY, LY⟩
        · go_simp
          obtain ⟨zV, hzV⟩ : ∃ z, z = zD.alloc (.cells #[.int .i64 0, .int .i64 0, .int .i64 0, .string ⟨#[]⟩] 34) := ⟨_, rfl⟩
          rw [← hzV]
          have bV : Below zD.heap.size zD zV := by rw [hzV]; exact (Below.refl _ _).alloc (Nat.le_refl _) _
          have KM : Hid (zV.heap[zD.heap.size]? = some (.cells #[.int .i64 0, .int .i64 0, .int .i64 0, .string ⟨#[]⟩] 34 (0, 0))) := Lib.hid (by rw [hzV]; exact heap_new _ _)
          have LM : Hid (zD.heap.size < zV.heap.size) := Lib.hid (by rw [hzV]; simp)
          have AM : Hid (q1.heap.size ≤ zD.heap.size) := Lib.hid BD.out.size
          replace BD := tbt BD bV
          clear hzV bV
          go_wp2_with fail
          refine hK.out _ _ BD.out (fun hHeld => ?_)
          clear hK K
          refine rd1 7 (fun K hK => ?_)
          go_simp
          have hc := ko2 zV
          go_at_call 15
          refine hc.mono ?_
          rintro e z21 ⟨rfl, hb⟩
          replace KM := tkb hb LM KM
          replace LM := tlz LM hb.size
          replace BD := tbt BD hb
          clear hc hb
          go_wp2_with fail
          refine hK.out _ _ BD.out (fun hHeld => ?_)
          clear hK K
          refine tk0 8 ?_
          refine tk0 9 ?_
          refine tk0 10 ?_
          refine rd1 12 (fun K hK => ?_)
          have f0 := tcr KM 0
          have f1 := tcr KM 1
          have f2 := tcr KM 2
          have f3 := tcr KM 3
          have z0 := tfr KM 0
          have z1 := tfr KM 1
          have z2 := tfr KM 2
          have z3 := tfr KM 3
          go_simp
          obtain ⟨Y, hY⟩ : ∃ Y, Y = (((z21.setCell ⟨zD.heap.size, 0, none⟩ (.int .i64 zo)).setCell ⟨zD.heap.size, 1, none⟩ (.int .i64 zn)).setCell ⟨zD.heap.size, 2, none⟩ (.int .i64 zc)).setCell ⟨zD.heap.size, 3, none⟩ (.string zb) := ⟨_, rfl⟩
          rw [← hY]
          have QR1 : Hid (Y.heap[zD.heap.size]? = some (.cells #[.int .i64 zo, .int .i64 zn, .int .i64 zc, .string zb] 34 (0, 0))) := Lib.hid (by rw [hY]; exact storeT KM.out)
          have BY : Below q1.heap.size q1 Y := by rw [hY]; exact below4 BD.out AM.out
          have LY : Hid (q1.heap.size ≤ zD.heap.size ∧ zD.heap.size < Y.heap.size) := Lib.hid ⟨AM.out, (Array.getElem?_eq_some_iff.1 QR1.out).1⟩
          refine hK.out _ _ BY (fun hHeld => ?_)
          clear hK K f0 f1 f2 f3 z0 z1 z2 z3 hY
          refine tk0 13 ?_
          refine wpAnyH_done (by kernel_rfl) ?_ _
          clear hHeld
          go_wp2_with fail
          go_meet
          exact ⟨zD.heap.size, rfl, rfl, QR1, Lib.hid BY, LY⟩
      case rest =>
        obtain ⟨mV, rfl, rfl, KV, bA, L0⟩ := hcut
        obtain ⟨q2, rfl⟩ : ∃ z, z = wc := ⟨_, rfl⟩
        have LV := Lib.hid L0.out.2
        have hb := bA.out
        clear L0 bA
        replace KT := tkb hb LT KT
        replace LT := tlz LT hb.size
        replace B1 := tbt B1 hb
        replace GT1 := Lib.hid (GT1.out.later hb)
        replace GT2 := Lib.hid (GT2.out.later hb)
        replace BB := tbt BB hb
        clear hb
        have d12 : decide ((E1.length : Int) < (E2.length : Int)) = true := by rw [decide_eq_true_iff]; omega
        have hk := kt q2
        clear kb ko1 ko2 kt
        by_cases h1 : (E1.length : Int) = 1
        · have b1 : ((E1.length : Int) == 1) = true := by rw [beq_iff_eq]; exact h1
          have fT0 := tcr KT 0
          have fT1 := tcr KT 1
          have fT2 := tcr KT 2
          have fT3 := tcr KT 3
          have fV0 := tcr KV 0
          have fV1 := tcr KV 1
          have fV2 := tcr KV 2
          have fV3 := tcr KV 3
          go_wp2_with (go_at_call 11; refine hk.mono ?_; rintro e q3 ⟨rfl, hb⟩; refine Hid.out ?_)
          refine Lib.hid ?_
          replace BB := tbt BB hb
          clear hk
          go_wp2_with fail
          go_ret
          exact ⟨rfl, BB.out⟩
        · have b1 : ((E1.length : Int) == 1) = false := by rw [beq_eq_false_iff_ne]; exact h1
          have fT0 := tcr KT 0
          have fT1 := tcr KT 1
          have fT2 := tcr KT 2
          have fT3 := tcr KT 3
          have fV0 := tcr KV 0
          have fV1 := tcr KV 1
          have fV2 := tcr KV 2
          have fV3 := tcr KV 3
          go_wp2_with (go_at_call 11; refine hk.mono ?_; rintro e q3 ⟨rfl, hb⟩; refine Hid.out ?_)
          refine Lib.hid ?_
          replace BB := tbt BB hb
          clear hk
          go_wp2_with fail
          go_ret
          exact ⟨rfl, BB.out⟩
end Go.Proofs.YtdpjdjkfedcojaaGreat
