/- The law FnSame: states are alike exactly where their bytes are. Condition: none. -/
import Derived.Test.YtkoohmibdaomkaaBig
import Derived.Test.YtkoohmibdaomkaaDrawSame
import Derived.Test.YtkoohmibdaomkaaEncode
import Derived.Test.YtkoohmibdaomkaaStateOk
import Derived.Test.YtkoohmibdaomkaaImplSame
import Derived.Test.YtkoohmibdaomkaaSpecSame
namespace Go.Proofs.Ytkoohmibdaomkaa
open Go.RowKit
set_option linter.unusedVariables false
set_option linter.unusedSimpArgs false

theorem txt_ne {a b : ByteArray} (h : ¬ a = b) : (a.toList == b.toList) = false := by
  rw [Bool.eq_false_iff]; intro hc; apply h
  simp only [ByteArray.toList_eq, beq_iff_eq] at hc
  exact ByteArray.ext (Array.toList_inj.mp hc)
set_option maxRecDepth 100000 in
set_option maxHeartbeats 16000000 in
theorem law_same (a : Option Addr) (len cap : Nat) (zs : List Int) (w : World) (hr : IsRow .u8 w a len cap zs) :
    Calls Try.prog 6 #[.slice a len cap] w fun e w' => e = .returned (.bool true) ∧ Below w.heap.size w w' := by
  have hr := row8_of hr
  by_cases hbig : 1048576 < len
  · have hd : decide (1048576 < len) = true := by simpa using hbig
    go_enter Try.func6, Try.ntmps6
    go_wp2_with (go_at_call 15; refine (big_any _ _ _ _).mono ?_; rintro e w' ⟨rfl, rfl⟩)
    go_ret
    exact ⟨rfl, Below.refl _ _⟩
  · have hd : decide (1048576 < len) = false := by simpa using hbig
    have hlen : len ≤ 1048576 := by omega
    go_enter Try.func6, Try.ntmps6
    go_wp2_with (first | (go_at_call 15; refine (big_any _ _ _ _).mono ?_; rintro e w' ⟨rfl, rfl⟩) | (go_at_call 34; refine (drawSameState_any a len cap zs _ hr hlen).mono ?_; rintro e w1 ⟨v, s, v2, t, rfl, hst, hsm, hst2, hsm2, hb1⟩; refine Hid.out ?_))
    refine Lib.hid ?_
    have SA := Lib.hid hst
    obtain ⟨vi, vt, rfl, r1, r2⟩ := hst
    obtain ⟨sa, sn, sc, rfl⟩ := slice_of_row r1
    obtain ⟨ta, tn, tc, rfl⟩ := slice_of_row r2
    clear r1 r2 hr
    have SB := Lib.hid hst2
    obtain ⟨vi, vt, rfl, r1, r2⟩ := hst2
    obtain ⟨ua, un, uc, rfl⟩ := slice_of_row r1
    obtain ⟨xa, xn, xc, rfl⟩ := slice_of_row r2
    clear r1 r2
    have BB : Hid (Below w.heap.size w w1) := Lib.hid hb1
    have Fs : Hid (Fits s) := Lib.hid hsm.fits
    have Ft : Hid (Fits t) := Lib.hid hsm2.fits
    have Hs := Lib.hid hsm
    have Ht := Lib.hid hsm2
    clear hb1 hsm hsm2
    obtain ⟨Y1, hY1⟩ : ∃ zz, zz = w1.alloc (.cells #[.slice sa sn sc, .slice ta tn tc] 27) := ⟨_, rfl⟩
    have bY1 : Below w1.heap.size w1 Y1 := by rw [hY1]; exact (Below.refl _ _).alloc (Nat.le_refl _) _
    have sY1 : Y1.heap.size = w1.heap.size + 1 := by rw [hY1]; simp
    replace BB := Lib.hid (BB.out.trans (bY1.mono BB.out.size))
    replace SA := Lib.hid (SA.out.later bY1 bY1.size)
    replace SB := Lib.hid (SB.out.later bY1 bY1.size)
    have KA : Hid (Y1.heap[w1.heap.size]? = some (.cells #[.slice sa sn sc, .slice ta tn tc] 27 (0, 0))) := Lib.hid (by rw [hY1]; exact heap_new _ _)
    have LA : Hid (w1.heap.size < Y1.heap.size) := Lib.hid (by omega)
    have eY1 : Hid (Y1.heap.size = w1.heap.size + 1) := Lib.hid (by omega)
    clear bY1 sY1
    obtain ⟨Y2, hY2⟩ : ∃ zz, zz = Y1.alloc (.cells #[.slice ua un uc, .slice xa xn xc] 27) := ⟨_, rfl⟩
    have bY2 : Below Y1.heap.size Y1 Y2 := by rw [hY2]; exact (Below.refl _ _).alloc (Nat.le_refl _) _
    have sY2 : Y2.heap.size = Y1.heap.size + 1 := by rw [hY2]; simp
    replace KA := Lib.hid ((bY2.block _ LA.out).trans KA.out)
    replace LA := Lib.hid (Nat.lt_of_lt_of_le LA.out bY2.size)
    replace BB := Lib.hid (BB.out.trans (bY2.mono BB.out.size))
    replace SA := Lib.hid (SA.out.later bY2 bY2.size)
    replace SB := Lib.hid (SB.out.later bY2 bY2.size)
    have KB : Hid (Y2.heap[w1.heap.size + 1]? = some (.cells #[.slice ua un uc, .slice xa xn xc] 27 (0, 0))) := Lib.hid (by rw [← eY1.out]; rw [hY2]; exact heap_new _ _)
    have LB : Hid (w1.heap.size + 1 < Y2.heap.size) := Lib.hid (by have := eY1.out; omega)
    have eY2 : Hid (Y2.heap.size = w1.heap.size + 2) := Lib.hid (by have := eY1.out; omega)
    clear bY2 sY2
    have hc := impl_sameState s t _ _ Y2.heap.size Y2 SA.out SB.out (Nat.le_refl _) Fs.out Ft.out
    have fA0 := cell_of_row Y2 _ 0 _ _ _ KA.out
    have fA1 := cell_of_row Y2 _ 1 _ _ _ KA.out
    simp only [List.getElem?_toArray, List.getElem?_cons_zero, List.getElem?_cons_succ] at fA0 fA1
    have fB0 := cell_of_row Y2 _ 0 _ _ _ KB.out
    have fB1 := cell_of_row Y2 _ 1 _ _ _ KB.out
    simp only [List.getElem?_toArray, List.getElem?_cons_zero, List.getElem?_cons_succ] at fB0 fB1
    rw [hY2] at hc fA0 fA1 fB0 fB1
    rw [hY1] at hc fA0 fA1 fB0 fB1
    go_wp2_with (go_at_call 35; refine hc.mono ?_; rintro e w2 ⟨bb, rfl, hbe, hb⟩; refine Hid.out ?_)
    refine Lib.hid ?_
    rw [← hY1] at hb
    rw [← hY2] at hb
    clear fA0 fA1 fB0 fB1
    replace KA := Lib.hid ((hb.block _ LA.out).trans KA.out)
    replace LA := Lib.hid (Nat.lt_of_lt_of_le LA.out hb.size)
    replace KB := Lib.hid ((hb.block _ LB.out).trans KB.out)
    replace LB := Lib.hid (Nat.lt_of_lt_of_le LB.out hb.size)
    replace BB := Lib.hid (BB.out.trans (hb.mono BB.out.size))
    replace SA := Lib.hid (SA.out.later hb hb.size)
    replace SB := Lib.hid (SB.out.later hb hb.size)
    clear hc hY2 hY1
    clear hb
    have HB : Hid (bb = true ↔ s = t) := Lib.hid hbe
    clear hbe
    cases bb
    case false =>
      have hc := spec_same s t _ _ w2.heap.size w2 SA.out.rd SB.out.rd (Nat.le_refl _)
      have fA0 := cell_of_row w2 _ 0 _ _ _ KA.out
      have fA1 := cell_of_row w2 _ 1 _ _ _ KA.out
      simp only [List.getElem?_toArray, List.getElem?_cons_zero, List.getElem?_cons_succ] at fA0 fA1
      have fB0 := cell_of_row w2 _ 0 _ _ _ KB.out
      have fB1 := cell_of_row w2 _ 1 _ _ _ KB.out
      simp only [List.getElem?_toArray, List.getElem?_cons_zero, List.getElem?_cons_succ] at fB0 fB1
      go_wp2_with (go_at_call 19; refine hc.mono ?_; rintro e w3 ⟨b3, rfl, hbe, hb⟩; refine Hid.out ?_)
      refine Lib.hid ?_
      clear fA0 fA1 fB0 fB1
      replace KA := Lib.hid ((hb.block _ LA.out).trans KA.out)
      replace LA := Lib.hid (Nat.lt_of_lt_of_le LA.out hb.size)
      replace KB := Lib.hid ((hb.block _ LB.out).trans KB.out)
      replace LB := Lib.hid (Nat.lt_of_lt_of_le LB.out hb.size)
      replace BB := Lib.hid (BB.out.trans (hb.mono BB.out.size))
      replace SA := Lib.hid (SA.out.later hb hb.size)
      replace SB := Lib.hid (SB.out.later hb hb.size)
      clear hc
      have h2 : ¬ s = t := by
        have h := HB.out
        simpa using h
      have H2 := Lib.hid h2
      obtain rfl : b3 = false := by
        cases b3
        · rfl
        · exact absurd (hbe.1 rfl) h2
      clear hb hbe h2
      have hc := impl_sameState t s _ _ w3.heap.size w3 SB.out SA.out (Nat.le_refl _) Ft.out Fs.out
      have fA0 := cell_of_row w3 _ 0 _ _ _ KA.out
      have fA1 := cell_of_row w3 _ 1 _ _ _ KA.out
      simp only [List.getElem?_toArray, List.getElem?_cons_zero, List.getElem?_cons_succ] at fA0 fA1
      have fB0 := cell_of_row w3 _ 0 _ _ _ KB.out
      have fB1 := cell_of_row w3 _ 1 _ _ _ KB.out
      simp only [List.getElem?_toArray, List.getElem?_cons_zero, List.getElem?_cons_succ] at fB0 fB1
      go_wp2_with (go_at_call 35; refine hc.mono ?_; rintro e w4 ⟨b4, rfl, hbe, hb⟩; refine Hid.out ?_)
      refine Lib.hid ?_
      clear fA0 fA1 fB0 fB1
      replace KA := Lib.hid ((hb.block _ LA.out).trans KA.out)
      replace LA := Lib.hid (Nat.lt_of_lt_of_le LA.out hb.size)
      replace KB := Lib.hid ((hb.block _ LB.out).trans KB.out)
      replace LB := Lib.hid (Nat.lt_of_lt_of_le LB.out hb.size)
      replace BB := Lib.hid (BB.out.trans (hb.mono BB.out.size))
      replace SA := Lib.hid (SA.out.later hb hb.size)
      replace SB := Lib.hid (SB.out.later hb hb.size)
      clear hc
      obtain rfl : b4 = false := by
        cases b4
        · rfl
        · exact absurd (hbe.1 rfl).symm H2.out
      clear hb hbe
      have hc := impl_sameState s s _ _ w4.heap.size w4 SA.out SA.out (Nat.le_refl _) Fs.out Fs.out
      have fA0 := cell_of_row w4 _ 0 _ _ _ KA.out
      have fA1 := cell_of_row w4 _ 1 _ _ _ KA.out
      simp only [List.getElem?_toArray, List.getElem?_cons_zero, List.getElem?_cons_succ] at fA0 fA1
      have fB0 := cell_of_row w4 _ 0 _ _ _ KB.out
      have fB1 := cell_of_row w4 _ 1 _ _ _ KB.out
      simp only [List.getElem?_toArray, List.getElem?_cons_zero, List.getElem?_cons_succ] at fB0 fB1
      go_wp2_with (go_at_call 35; refine hc.mono ?_; rintro e w5 ⟨b5, rfl, hbe, hb⟩; refine Hid.out ?_)
      refine Lib.hid ?_
      clear fA0 fA1 fB0 fB1
      replace KA := Lib.hid ((hb.block _ LA.out).trans KA.out)
      replace LA := Lib.hid (Nat.lt_of_lt_of_le LA.out hb.size)
      replace KB := Lib.hid ((hb.block _ LB.out).trans KB.out)
      replace LB := Lib.hid (Nat.lt_of_lt_of_le LB.out hb.size)
      replace BB := Lib.hid (BB.out.trans (hb.mono BB.out.size))
      replace SA := Lib.hid (SA.out.later hb hb.size)
      replace SB := Lib.hid (SB.out.later hb hb.size)
      clear hc
      obtain rfl : b5 = true := by simpa using hbe
      clear hb hbe
      by_cases oks : stOk s = true
      · have hc := spec_stateOk s _ w5.heap.size w5 SA.out (Nat.le_refl _) Fs.out
        rw [oks] at hc
        have Oks := Lib.hid oks
        clear oks
        have fA0 := cell_of_row w5 _ 0 _ _ _ KA.out
        have fA1 := cell_of_row w5 _ 1 _ _ _ KA.out
        simp only [List.getElem?_toArray, List.getElem?_cons_zero, List.getElem?_cons_succ] at fA0 fA1
        have fB0 := cell_of_row w5 _ 0 _ _ _ KB.out
        have fB1 := cell_of_row w5 _ 1 _ _ _ KB.out
        simp only [List.getElem?_toArray, List.getElem?_cons_zero, List.getElem?_cons_succ] at fB0 fB1
        go_wp2_with (go_at_call 21; refine hc.mono ?_; rintro e w6 ⟨rfl, hb⟩; refine Hid.out ?_)
        refine Lib.hid ?_
        clear fA0 fA1 fB0 fB1
        replace KA := Lib.hid ((hb.block _ LA.out).trans KA.out)
        replace LA := Lib.hid (Nat.lt_of_lt_of_le LA.out hb.size)
        replace KB := Lib.hid ((hb.block _ LB.out).trans KB.out)
        replace LB := Lib.hid (Nat.lt_of_lt_of_le LB.out hb.size)
        replace BB := Lib.hid (BB.out.trans (hb.mono BB.out.size))
        replace SA := Lib.hid (SA.out.later hb hb.size)
        replace SB := Lib.hid (SB.out.later hb hb.size)
        clear hc
        clear hb
        by_cases okt : stOk t = true
        · have hc := spec_stateOk t _ w6.heap.size w6 SB.out (Nat.le_refl _) Ft.out
          rw [okt] at hc
          have Okt := Lib.hid okt
          clear okt
          have fA0 := cell_of_row w6 _ 0 _ _ _ KA.out
          have fA1 := cell_of_row w6 _ 1 _ _ _ KA.out
          simp only [List.getElem?_toArray, List.getElem?_cons_zero, List.getElem?_cons_succ] at fA0 fA1
          have fB0 := cell_of_row w6 _ 0 _ _ _ KB.out
          have fB1 := cell_of_row w6 _ 1 _ _ _ KB.out
          simp only [List.getElem?_toArray, List.getElem?_cons_zero, List.getElem?_cons_succ] at fB0 fB1
          go_wp2_with (go_at_call 21; refine hc.mono ?_; rintro e w7 ⟨rfl, hb⟩; refine Hid.out ?_)
          refine Lib.hid ?_
          clear fA0 fA1 fB0 fB1
          replace KA := Lib.hid ((hb.block _ LA.out).trans KA.out)
          replace LA := Lib.hid (Nat.lt_of_lt_of_le LA.out hb.size)
          replace KB := Lib.hid ((hb.block _ LB.out).trans KB.out)
          replace LB := Lib.hid (Nat.lt_of_lt_of_le LB.out hb.size)
          replace BB := Lib.hid (BB.out.trans (hb.mono BB.out.size))
          replace SA := Lib.hid (SA.out.later hb hb.size)
          replace SB := Lib.hid (SB.out.later hb hb.size)
          clear hc
          clear hb
          obtain ⟨e1, he1⟩ : ∃ e, e = encB s := ⟨_, rfl⟩
          obtain ⟨e2, he2⟩ : ∃ e, e = encB t := ⟨_, rfl⟩
          have E1 := Lib.hid he1
          have E2 := Lib.hid he2
          have hne : e1 ≠ e2 := fun h => by
            rw [he1, he2] at h
            exact H2.out (enc_inj Oks.out Okt.out Hs.out.2.2.1 (fun x hx => ⟨(Hs.out.2.2.2 x hx).1, (Hs.out.2.2.2 x hx).2.1⟩) Ht.out.2.2.1 (fun x hx => ⟨(Ht.out.2.2.2 x hx).1, (Ht.out.2.2.2 x hx).2.1⟩) h)
          have hq := txt_ne hne
          clear hne
          clear he1 he2
          go_wp2_with fail
          obtain ⟨zD, hzD⟩ : ∃ z, z = w7.drew := ⟨_, rfl⟩
          have bzD : Below w7.heap.size w7 zD := by rw [hzD]; exact (Below.refl _ _).drew
          replace KA := Lib.hid ((bzD.block _ LA.out).trans KA.out)
          replace LA := Lib.hid (Nat.lt_of_lt_of_le LA.out bzD.size)
          replace KB := Lib.hid ((bzD.block _ LB.out).trans KB.out)
          replace LB := Lib.hid (Nat.lt_of_lt_of_le LB.out bzD.size)
          replace BB := Lib.hid (BB.out.trans (bzD.mono BB.out.size))
          replace SA := Lib.hid (SA.out.later bzD bzD.size)
          replace SB := Lib.hid (SB.out.later bzD bzD.size)
          refine wp_region_held_drew (S := (fun w' => w'.cell? ⟨w1.heap.size, 0, none⟩ = some (.slice sa sn sc) ∧ w'.cell? ⟨w1.heap.size, 1, none⟩ = some (.slice ta tn tc) ∧ w'.cell? ⟨w1.heap.size + 1, 0, none⟩ = some (.slice ua un uc) ∧ w'.cell? ⟨w1.heap.size + 1, 1, none⟩ = some (.slice xa xn xc))) (by kernel_rfl) (by rw [← hzD]; exact ⟨(by simpa using cell_of_row zD _ 0 _ _ _ KA.out), (by simpa using cell_of_row zD _ 1 _ _ _ KA.out), (by simpa using cell_of_row zD _ 0 _ _ _ KB.out), (by simpa using cell_of_row zD _ 1 _ _ _ KB.out)⟩) (fun hHeld => ?_)
          rw [← hzD] at hHeld ⊢
          have bzE := Lib.hid bzD
          clear bzD hzD
          refine wpAnyH_take (i := 0) (v := ?_) rfl (by kernel_rfl) (by kernel_rfl) (by kernel_rfl) (fun _ _ _ h => h) ?_ (by assumption) ?_
          rotate_left
          · first | (refine Or.inl ⟨by rfl, ?_⟩; intro w hSw; go_simp; done) | (refine Or.inl ⟨by rfl, ?_⟩; intro w hSw; go_simp; with_reducible rfl)
          try simp only [List.getElem_toArray, List.getElem_cons_zero, Act.put, List.setIfInBounds_toArray, List.set_cons_zero, List.set_cons_succ]
          refine wpAnyH_take (i := 1) (v := ?_) rfl (by kernel_rfl) (by kernel_rfl) (by kernel_rfl) (fun _ _ _ h => h) ?_ (by assumption) ?_
          rotate_left
          · first | (refine Or.inl ⟨by rfl, ?_⟩; intro w hSw; obtain ⟨hS0, hS1, hS2, hS3⟩ := hSw; go_simp; done) | (refine Or.inl ⟨by rfl, ?_⟩; intro w hSw; obtain ⟨hS0, hS1, hS2, hS3⟩ := hSw; go_simp; with_reducible rfl)
          try simp only [List.getElem_toArray, List.getElem_cons_zero, List.getElem_cons_succ, Act.put, List.setIfInBounds_toArray, List.set_cons_zero, List.set_cons_succ]
          refine wpAnyH_take (i := 3) (v := ?_) rfl (by kernel_rfl) (by kernel_rfl) (by kernel_rfl) (fun _ _ _ h => h) ?_ (by assumption) ?_
          rotate_left
          · first | (refine Or.inl ⟨by rfl, ?_⟩; intro w hSw; obtain ⟨hS0, hS1, hS2, hS3⟩ := hSw; go_simp; done) | (refine Or.inl ⟨by rfl, ?_⟩; intro w hSw; obtain ⟨hS0, hS1, hS2, hS3⟩ := hSw; go_simp; with_reducible rfl)
          try simp only [List.getElem_toArray, List.getElem_cons_zero, List.getElem_cons_succ, Act.put, List.setIfInBounds_toArray, List.set_cons_zero, List.set_cons_succ]
          refine wpAnyH_ready (rs := [2]) (by kernel_rfl) (by simp) ?_
          refine AllReadyH.cons rfl (fun K hK => ?_) AllReadyH.nil
          go_simp
          have hc := spec_encode2 s _ zD.heap.size zD SA.out (Nat.le_refl _) Fs.out Oks.out Hs.out.2.2.1 (fun x hx => ⟨(Hs.out.2.2.2 x hx).1, (Hs.out.2.2.2 x hx).2.1⟩)
          rw [← E1.out] at hc
          go_at_call 36
          refine (hc).mono ?_
          rintro e w8 ⟨rfl, hb⟩
          replace KA := Lib.hid ((hb.block _ LA.out).trans KA.out)
          replace LA := Lib.hid (Nat.lt_of_lt_of_le LA.out hb.size)
          replace KB := Lib.hid ((hb.block _ LB.out).trans KB.out)
          replace LB := Lib.hid (Nat.lt_of_lt_of_le LB.out hb.size)
          replace BB := Lib.hid (BB.out.trans (hb.mono BB.out.size))
          replace SA := Lib.hid (SA.out.later hb hb.size)
          replace SB := Lib.hid (SB.out.later hb hb.size)
          clear hb
          clear hc
          go_wp2_with fail
          refine hK.out _ _ ⟨(by simpa using cell_of_row w8 _ 0 _ _ _ KA.out), (by simpa using cell_of_row w8 _ 1 _ _ _ KA.out), (by simpa using cell_of_row w8 _ 0 _ _ _ KB.out), (by simpa using cell_of_row w8 _ 1 _ _ _ KB.out)⟩ (fun hHeld => ?_)
          clear hK K
          try simp only [List.getElem_toArray, List.getElem_cons_zero, List.getElem_cons_succ, Act.put, List.setIfInBounds_toArray, List.set_cons_zero, List.set_cons_succ]
          refine wpAnyH_ready (rs := [4]) (by kernel_rfl) (by simp) ?_
          refine AllReadyH.cons rfl (fun K hK => ?_) AllReadyH.nil
          go_simp
          have hc := spec_encode2 t _ w8.heap.size w8 SB.out (Nat.le_refl _) Ft.out Okt.out Ht.out.2.2.1 (fun x hx => ⟨(Ht.out.2.2.2 x hx).1, (Ht.out.2.2.2 x hx).2.1⟩)
          rw [← E2.out] at hc
          go_at_call 36
          refine (hc).mono ?_
          rintro e w9 ⟨rfl, hb⟩
          replace KA := Lib.hid ((hb.block _ LA.out).trans KA.out)
          replace LA := Lib.hid (Nat.lt_of_lt_of_le LA.out hb.size)
          replace KB := Lib.hid ((hb.block _ LB.out).trans KB.out)
          replace LB := Lib.hid (Nat.lt_of_lt_of_le LB.out hb.size)
          replace BB := Lib.hid (BB.out.trans (hb.mono BB.out.size))
          replace SA := Lib.hid (SA.out.later hb hb.size)
          replace SB := Lib.hid (SB.out.later hb hb.size)
          clear hb
          clear hc
          go_wp2_with fail
          refine hK.out _ _ ⟨(by simpa using cell_of_row w9 _ 0 _ _ _ KA.out), (by simpa using cell_of_row w9 _ 1 _ _ _ KA.out), (by simpa using cell_of_row w9 _ 0 _ _ _ KB.out), (by simpa using cell_of_row w9 _ 1 _ _ _ KB.out)⟩ (fun hHeld => ?_)
          clear hK K
          try simp only [List.getElem_toArray, List.getElem_cons_zero, List.getElem_cons_succ, Act.put, List.setIfInBounds_toArray, List.set_cons_zero, List.set_cons_succ]
          refine wpAnyH_take (i := 5) (v := ?_) rfl (by kernel_rfl) (by kernel_rfl) (by kernel_rfl) (fun _ _ _ h => h) ?_ (by assumption) ?_
          rotate_left
          · first | (refine Or.inl ⟨by rfl, ?_⟩; intro w hSw; go_simp; done) | (refine Or.inl ⟨by rfl, ?_⟩; intro w hSw; go_simp; with_reducible rfl)
          try simp only [List.getElem_toArray, List.getElem_cons_zero, List.getElem_cons_succ, Act.put, List.setIfInBounds_toArray, List.set_cons_zero, List.set_cons_succ]
          refine wpAnyH_take (i := 6) (v := ?_) rfl (by kernel_rfl) (by kernel_rfl) (by kernel_rfl) (fun _ _ _ h => h) ?_ (by assumption) ?_
          rotate_left
          · first | (refine Or.inl ⟨by rfl, ?_⟩; intro w hSw; go_simp; done) | (refine Or.inl ⟨by rfl, ?_⟩; intro w hSw; go_simp; with_reducible rfl)
          try simp only [List.getElem_toArray, List.getElem_cons_zero, List.getElem_cons_succ, Act.put, List.setIfInBounds_toArray, List.set_cons_zero, List.set_cons_succ]
          refine wpAnyH_take (i := 7) (v := ?_) rfl (by kernel_rfl) (by kernel_rfl) (by kernel_rfl) (fun _ _ _ h => h) ?_ (by assumption) ?_
          rotate_left
          · first | (refine Or.inl ⟨by rfl, ?_⟩; intro w hSw; go_simp; done) | (refine Or.inl ⟨by rfl, ?_⟩; intro w hSw; go_simp; with_reducible rfl)
          try simp only [List.getElem_toArray, List.getElem_cons_zero, List.getElem_cons_succ, Act.put, List.setIfInBounds_toArray, List.set_cons_zero, List.set_cons_succ]
          refine wpAnyH_done (by kernel_rfl) ?_ _
          clear hHeld
          go_wp2_with fail
          go_ret
          exact ⟨rfl, BB.out⟩
        · have okt' : stOk t = false := (Bool.eq_false_or_eq_true (stOk t)).resolve_left okt
          have hc := spec_stateOk t _ w6.heap.size w6 SB.out (Nat.le_refl _) Ft.out
          rw [okt'] at hc
          clear okt okt'
          have fA0 := cell_of_row w6 _ 0 _ _ _ KA.out
          have fA1 := cell_of_row w6 _ 1 _ _ _ KA.out
          simp only [List.getElem?_toArray, List.getElem?_cons_zero, List.getElem?_cons_succ] at fA0 fA1
          have fB0 := cell_of_row w6 _ 0 _ _ _ KB.out
          have fB1 := cell_of_row w6 _ 1 _ _ _ KB.out
          simp only [List.getElem?_toArray, List.getElem?_cons_zero, List.getElem?_cons_succ] at fB0 fB1
          go_wp2_with (go_at_call 21; refine hc.mono ?_; rintro e w7 ⟨rfl, hb⟩; refine Hid.out ?_)
          refine Lib.hid ?_
          clear fA0 fA1 fB0 fB1
          replace KA := Lib.hid ((hb.block _ LA.out).trans KA.out)
          replace LA := Lib.hid (Nat.lt_of_lt_of_le LA.out hb.size)
          replace KB := Lib.hid ((hb.block _ LB.out).trans KB.out)
          replace LB := Lib.hid (Nat.lt_of_lt_of_le LB.out hb.size)
          replace BB := Lib.hid (BB.out.trans (hb.mono BB.out.size))
          replace SA := Lib.hid (SA.out.later hb hb.size)
          replace SB := Lib.hid (SB.out.later hb hb.size)
          clear hc
          clear hb
          go_wp2
          go_ret
          exact ⟨rfl, BB.out⟩
      · have oks' : stOk s = false := (Bool.eq_false_or_eq_true (stOk s)).resolve_left oks
        have hc := spec_stateOk s _ w5.heap.size w5 SA.out (Nat.le_refl _) Fs.out
        rw [oks'] at hc
        clear oks oks'
        have fA0 := cell_of_row w5 _ 0 _ _ _ KA.out
        have fA1 := cell_of_row w5 _ 1 _ _ _ KA.out
        simp only [List.getElem?_toArray, List.getElem?_cons_zero, List.getElem?_cons_succ] at fA0 fA1
        have fB0 := cell_of_row w5 _ 0 _ _ _ KB.out
        have fB1 := cell_of_row w5 _ 1 _ _ _ KB.out
        simp only [List.getElem?_toArray, List.getElem?_cons_zero, List.getElem?_cons_succ] at fB0 fB1
        go_wp2_with (go_at_call 21; refine hc.mono ?_; rintro e w6 ⟨rfl, hb⟩; refine Hid.out ?_)
        refine Lib.hid ?_
        clear fA0 fA1 fB0 fB1
        replace KA := Lib.hid ((hb.block _ LA.out).trans KA.out)
        replace LA := Lib.hid (Nat.lt_of_lt_of_le LA.out hb.size)
        replace KB := Lib.hid ((hb.block _ LB.out).trans KB.out)
        replace LB := Lib.hid (Nat.lt_of_lt_of_le LB.out hb.size)
        replace BB := Lib.hid (BB.out.trans (hb.mono BB.out.size))
        replace SA := Lib.hid (SA.out.later hb hb.size)
        replace SB := Lib.hid (SB.out.later hb hb.size)
        clear hc
        clear hb
        go_wp2
        go_ret
        exact ⟨rfl, BB.out⟩
    case true =>
      have hc := spec_same s t _ _ w2.heap.size w2 SA.out.rd SB.out.rd (Nat.le_refl _)
      have fA0 := cell_of_row w2 _ 0 _ _ _ KA.out
      have fA1 := cell_of_row w2 _ 1 _ _ _ KA.out
      simp only [List.getElem?_toArray, List.getElem?_cons_zero, List.getElem?_cons_succ] at fA0 fA1
      have fB0 := cell_of_row w2 _ 0 _ _ _ KB.out
      have fB1 := cell_of_row w2 _ 1 _ _ _ KB.out
      simp only [List.getElem?_toArray, List.getElem?_cons_zero, List.getElem?_cons_succ] at fB0 fB1
      go_wp2_with (go_at_call 19; refine hc.mono ?_; rintro e w3 ⟨b3, rfl, hbe, hb⟩; refine Hid.out ?_)
      refine Lib.hid ?_
      clear fA0 fA1 fB0 fB1
      replace KA := Lib.hid ((hb.block _ LA.out).trans KA.out)
      replace LA := Lib.hid (Nat.lt_of_lt_of_le LA.out hb.size)
      replace KB := Lib.hid ((hb.block _ LB.out).trans KB.out)
      replace LB := Lib.hid (Nat.lt_of_lt_of_le LB.out hb.size)
      replace BB := Lib.hid (BB.out.trans (hb.mono BB.out.size))
      replace SA := Lib.hid (SA.out.later hb hb.size)
      replace SB := Lib.hid (SB.out.later hb hb.size)
      clear hc
      have h2 : s = t := by
        have h := HB.out
        simpa using h
      have H2 := Lib.hid h2
      obtain rfl : b3 = true := hbe.2 h2
      clear hb hbe h2
      have hc := impl_sameState t s _ _ w3.heap.size w3 SB.out SA.out (Nat.le_refl _) Ft.out Fs.out
      have fA0 := cell_of_row w3 _ 0 _ _ _ KA.out
      have fA1 := cell_of_row w3 _ 1 _ _ _ KA.out
      simp only [List.getElem?_toArray, List.getElem?_cons_zero, List.getElem?_cons_succ] at fA0 fA1
      have fB0 := cell_of_row w3 _ 0 _ _ _ KB.out
      have fB1 := cell_of_row w3 _ 1 _ _ _ KB.out
      simp only [List.getElem?_toArray, List.getElem?_cons_zero, List.getElem?_cons_succ] at fB0 fB1
      go_wp2_with (go_at_call 35; refine hc.mono ?_; rintro e w4 ⟨b4, rfl, hbe, hb⟩; refine Hid.out ?_)
      refine Lib.hid ?_
      clear fA0 fA1 fB0 fB1
      replace KA := Lib.hid ((hb.block _ LA.out).trans KA.out)
      replace LA := Lib.hid (Nat.lt_of_lt_of_le LA.out hb.size)
      replace KB := Lib.hid ((hb.block _ LB.out).trans KB.out)
      replace LB := Lib.hid (Nat.lt_of_lt_of_le LB.out hb.size)
      replace BB := Lib.hid (BB.out.trans (hb.mono BB.out.size))
      replace SA := Lib.hid (SA.out.later hb hb.size)
      replace SB := Lib.hid (SB.out.later hb hb.size)
      clear hc
      obtain rfl : b4 = true := hbe.2 H2.out.symm
      clear hb hbe
      have hc := impl_sameState s s _ _ w4.heap.size w4 SA.out SA.out (Nat.le_refl _) Fs.out Fs.out
      have fA0 := cell_of_row w4 _ 0 _ _ _ KA.out
      have fA1 := cell_of_row w4 _ 1 _ _ _ KA.out
      simp only [List.getElem?_toArray, List.getElem?_cons_zero, List.getElem?_cons_succ] at fA0 fA1
      have fB0 := cell_of_row w4 _ 0 _ _ _ KB.out
      have fB1 := cell_of_row w4 _ 1 _ _ _ KB.out
      simp only [List.getElem?_toArray, List.getElem?_cons_zero, List.getElem?_cons_succ] at fB0 fB1
      go_wp2_with (go_at_call 35; refine hc.mono ?_; rintro e w5 ⟨b5, rfl, hbe, hb⟩; refine Hid.out ?_)
      refine Lib.hid ?_
      clear fA0 fA1 fB0 fB1
      replace KA := Lib.hid ((hb.block _ LA.out).trans KA.out)
      replace LA := Lib.hid (Nat.lt_of_lt_of_le LA.out hb.size)
      replace KB := Lib.hid ((hb.block _ LB.out).trans KB.out)
      replace LB := Lib.hid (Nat.lt_of_lt_of_le LB.out hb.size)
      replace BB := Lib.hid (BB.out.trans (hb.mono BB.out.size))
      replace SA := Lib.hid (SA.out.later hb hb.size)
      replace SB := Lib.hid (SB.out.later hb hb.size)
      clear hc
      obtain rfl : b5 = true := by simpa using hbe
      clear hb hbe
      by_cases oks : stOk s = true
      · have hc := spec_stateOk s _ w5.heap.size w5 SA.out (Nat.le_refl _) Fs.out
        rw [oks] at hc
        have Oks := Lib.hid oks
        clear oks
        have fA0 := cell_of_row w5 _ 0 _ _ _ KA.out
        have fA1 := cell_of_row w5 _ 1 _ _ _ KA.out
        simp only [List.getElem?_toArray, List.getElem?_cons_zero, List.getElem?_cons_succ] at fA0 fA1
        have fB0 := cell_of_row w5 _ 0 _ _ _ KB.out
        have fB1 := cell_of_row w5 _ 1 _ _ _ KB.out
        simp only [List.getElem?_toArray, List.getElem?_cons_zero, List.getElem?_cons_succ] at fB0 fB1
        go_wp2_with (go_at_call 21; refine hc.mono ?_; rintro e w6 ⟨rfl, hb⟩; refine Hid.out ?_)
        refine Lib.hid ?_
        clear fA0 fA1 fB0 fB1
        replace KA := Lib.hid ((hb.block _ LA.out).trans KA.out)
        replace LA := Lib.hid (Nat.lt_of_lt_of_le LA.out hb.size)
        replace KB := Lib.hid ((hb.block _ LB.out).trans KB.out)
        replace LB := Lib.hid (Nat.lt_of_lt_of_le LB.out hb.size)
        replace BB := Lib.hid (BB.out.trans (hb.mono BB.out.size))
        replace SA := Lib.hid (SA.out.later hb hb.size)
        replace SB := Lib.hid (SB.out.later hb hb.size)
        clear hc
        clear hb
        by_cases okt : stOk t = true
        · have hc := spec_stateOk t _ w6.heap.size w6 SB.out (Nat.le_refl _) Ft.out
          rw [okt] at hc
          have Okt := Lib.hid okt
          clear okt
          have fA0 := cell_of_row w6 _ 0 _ _ _ KA.out
          have fA1 := cell_of_row w6 _ 1 _ _ _ KA.out
          simp only [List.getElem?_toArray, List.getElem?_cons_zero, List.getElem?_cons_succ] at fA0 fA1
          have fB0 := cell_of_row w6 _ 0 _ _ _ KB.out
          have fB1 := cell_of_row w6 _ 1 _ _ _ KB.out
          simp only [List.getElem?_toArray, List.getElem?_cons_zero, List.getElem?_cons_succ] at fB0 fB1
          go_wp2_with (go_at_call 21; refine hc.mono ?_; rintro e w7 ⟨rfl, hb⟩; refine Hid.out ?_)
          refine Lib.hid ?_
          clear fA0 fA1 fB0 fB1
          replace KA := Lib.hid ((hb.block _ LA.out).trans KA.out)
          replace LA := Lib.hid (Nat.lt_of_lt_of_le LA.out hb.size)
          replace KB := Lib.hid ((hb.block _ LB.out).trans KB.out)
          replace LB := Lib.hid (Nat.lt_of_lt_of_le LB.out hb.size)
          replace BB := Lib.hid (BB.out.trans (hb.mono BB.out.size))
          replace SA := Lib.hid (SA.out.later hb hb.size)
          replace SB := Lib.hid (SB.out.later hb hb.size)
          clear hc
          clear hb
          obtain ⟨e1, he1⟩ : ∃ e, e = encB s := ⟨_, rfl⟩
          obtain ⟨e2, he2⟩ : ∃ e, e = encB t := ⟨_, rfl⟩
          have E1 := Lib.hid he1
          have E2 := Lib.hid he2
          obtain rfl : e1 = e2 := by rw [he1, he2, H2.out]
          clear he1 he2
          go_wp2_with fail
          obtain ⟨zD, hzD⟩ : ∃ z, z = w7.drew := ⟨_, rfl⟩
          have bzD : Below w7.heap.size w7 zD := by rw [hzD]; exact (Below.refl _ _).drew
          replace KA := Lib.hid ((bzD.block _ LA.out).trans KA.out)
          replace LA := Lib.hid (Nat.lt_of_lt_of_le LA.out bzD.size)
          replace KB := Lib.hid ((bzD.block _ LB.out).trans KB.out)
          replace LB := Lib.hid (Nat.lt_of_lt_of_le LB.out bzD.size)
          replace BB := Lib.hid (BB.out.trans (bzD.mono BB.out.size))
          replace SA := Lib.hid (SA.out.later bzD bzD.size)
          replace SB := Lib.hid (SB.out.later bzD bzD.size)
          refine wp_region_held_drew (S := (fun w' => w'.cell? ⟨w1.heap.size, 0, none⟩ = some (.slice sa sn sc) ∧ w'.cell? ⟨w1.heap.size, 1, none⟩ = some (.slice ta tn tc) ∧ w'.cell? ⟨w1.heap.size + 1, 0, none⟩ = some (.slice ua un uc) ∧ w'.cell? ⟨w1.heap.size + 1, 1, none⟩ = some (.slice xa xn xc))) (by kernel_rfl) (by rw [← hzD]; exact ⟨(by simpa using cell_of_row zD _ 0 _ _ _ KA.out), (by simpa using cell_of_row zD _ 1 _ _ _ KA.out), (by simpa using cell_of_row zD _ 0 _ _ _ KB.out), (by simpa using cell_of_row zD _ 1 _ _ _ KB.out)⟩) (fun hHeld => ?_)
          rw [← hzD] at hHeld ⊢
          have bzE := Lib.hid bzD
          clear bzD hzD
          refine wpAnyH_take (i := 0) (v := ?_) rfl (by kernel_rfl) (by kernel_rfl) (by kernel_rfl) (fun _ _ _ h => h) ?_ (by assumption) ?_
          rotate_left
          · first | (refine Or.inl ⟨by rfl, ?_⟩; intro w hSw; go_simp; done) | (refine Or.inl ⟨by rfl, ?_⟩; intro w hSw; go_simp; with_reducible rfl)
          try simp only [List.getElem_toArray, List.getElem_cons_zero, Act.put, List.setIfInBounds_toArray, List.set_cons_zero, List.set_cons_succ]
          refine wpAnyH_take (i := 1) (v := ?_) rfl (by kernel_rfl) (by kernel_rfl) (by kernel_rfl) (fun _ _ _ h => h) ?_ (by assumption) ?_
          rotate_left
          · first | (refine Or.inl ⟨by rfl, ?_⟩; intro w hSw; obtain ⟨hS0, hS1, hS2, hS3⟩ := hSw; go_simp; done) | (refine Or.inl ⟨by rfl, ?_⟩; intro w hSw; obtain ⟨hS0, hS1, hS2, hS3⟩ := hSw; go_simp; with_reducible rfl)
          try simp only [List.getElem_toArray, List.getElem_cons_zero, List.getElem_cons_succ, Act.put, List.setIfInBounds_toArray, List.set_cons_zero, List.set_cons_succ]
          refine wpAnyH_take (i := 3) (v := ?_) rfl (by kernel_rfl) (by kernel_rfl) (by kernel_rfl) (fun _ _ _ h => h) ?_ (by assumption) ?_
          rotate_left
          · first | (refine Or.inl ⟨by rfl, ?_⟩; intro w hSw; obtain ⟨hS0, hS1, hS2, hS3⟩ := hSw; go_simp; done) | (refine Or.inl ⟨by rfl, ?_⟩; intro w hSw; obtain ⟨hS0, hS1, hS2, hS3⟩ := hSw; go_simp; with_reducible rfl)
          try simp only [List.getElem_toArray, List.getElem_cons_zero, List.getElem_cons_succ, Act.put, List.setIfInBounds_toArray, List.set_cons_zero, List.set_cons_succ]
          refine wpAnyH_ready (rs := [2]) (by kernel_rfl) (by simp) ?_
          refine AllReadyH.cons rfl (fun K hK => ?_) AllReadyH.nil
          go_simp
          have hc := spec_encode2 s _ zD.heap.size zD SA.out (Nat.le_refl _) Fs.out Oks.out Hs.out.2.2.1 (fun x hx => ⟨(Hs.out.2.2.2 x hx).1, (Hs.out.2.2.2 x hx).2.1⟩)
          rw [← E1.out] at hc
          go_at_call 36
          refine (hc).mono ?_
          rintro e w8 ⟨rfl, hb⟩
          replace KA := Lib.hid ((hb.block _ LA.out).trans KA.out)
          replace LA := Lib.hid (Nat.lt_of_lt_of_le LA.out hb.size)
          replace KB := Lib.hid ((hb.block _ LB.out).trans KB.out)
          replace LB := Lib.hid (Nat.lt_of_lt_of_le LB.out hb.size)
          replace BB := Lib.hid (BB.out.trans (hb.mono BB.out.size))
          replace SA := Lib.hid (SA.out.later hb hb.size)
          replace SB := Lib.hid (SB.out.later hb hb.size)
          clear hb
          clear hc
          go_wp2_with fail
          refine hK.out _ _ ⟨(by simpa using cell_of_row w8 _ 0 _ _ _ KA.out), (by simpa using cell_of_row w8 _ 1 _ _ _ KA.out), (by simpa using cell_of_row w8 _ 0 _ _ _ KB.out), (by simpa using cell_of_row w8 _ 1 _ _ _ KB.out)⟩ (fun hHeld => ?_)
          clear hK K
          try simp only [List.getElem_toArray, List.getElem_cons_zero, List.getElem_cons_succ, Act.put, List.setIfInBounds_toArray, List.set_cons_zero, List.set_cons_succ]
          refine wpAnyH_ready (rs := [4]) (by kernel_rfl) (by simp) ?_
          refine AllReadyH.cons rfl (fun K hK => ?_) AllReadyH.nil
          go_simp
          have hc := spec_encode2 t _ w8.heap.size w8 SB.out (Nat.le_refl _) Ft.out Okt.out Ht.out.2.2.1 (fun x hx => ⟨(Ht.out.2.2.2 x hx).1, (Ht.out.2.2.2 x hx).2.1⟩)
          rw [← E2.out] at hc
          go_at_call 36
          refine (hc).mono ?_
          rintro e w9 ⟨rfl, hb⟩
          replace KA := Lib.hid ((hb.block _ LA.out).trans KA.out)
          replace LA := Lib.hid (Nat.lt_of_lt_of_le LA.out hb.size)
          replace KB := Lib.hid ((hb.block _ LB.out).trans KB.out)
          replace LB := Lib.hid (Nat.lt_of_lt_of_le LB.out hb.size)
          replace BB := Lib.hid (BB.out.trans (hb.mono BB.out.size))
          replace SA := Lib.hid (SA.out.later hb hb.size)
          replace SB := Lib.hid (SB.out.later hb hb.size)
          clear hb
          clear hc
          go_wp2_with fail
          refine hK.out _ _ ⟨(by simpa using cell_of_row w9 _ 0 _ _ _ KA.out), (by simpa using cell_of_row w9 _ 1 _ _ _ KA.out), (by simpa using cell_of_row w9 _ 0 _ _ _ KB.out), (by simpa using cell_of_row w9 _ 1 _ _ _ KB.out)⟩ (fun hHeld => ?_)
          clear hK K
          try simp only [List.getElem_toArray, List.getElem_cons_zero, List.getElem_cons_succ, Act.put, List.setIfInBounds_toArray, List.set_cons_zero, List.set_cons_succ]
          refine wpAnyH_take (i := 5) (v := ?_) rfl (by kernel_rfl) (by kernel_rfl) (by kernel_rfl) (fun _ _ _ h => h) ?_ (by assumption) ?_
          rotate_left
          · first | (refine Or.inl ⟨by rfl, ?_⟩; intro w hSw; go_simp; done) | (refine Or.inl ⟨by rfl, ?_⟩; intro w hSw; go_simp; with_reducible rfl)
          try simp only [List.getElem_toArray, List.getElem_cons_zero, List.getElem_cons_succ, Act.put, List.setIfInBounds_toArray, List.set_cons_zero, List.set_cons_succ]
          refine wpAnyH_take (i := 6) (v := ?_) rfl (by kernel_rfl) (by kernel_rfl) (by kernel_rfl) (fun _ _ _ h => h) ?_ (by assumption) ?_
          rotate_left
          · first | (refine Or.inl ⟨by rfl, ?_⟩; intro w hSw; go_simp; done) | (refine Or.inl ⟨by rfl, ?_⟩; intro w hSw; go_simp; with_reducible rfl)
          try simp only [List.getElem_toArray, List.getElem_cons_zero, List.getElem_cons_succ, Act.put, List.setIfInBounds_toArray, List.set_cons_zero, List.set_cons_succ]
          refine wpAnyH_take (i := 7) (v := ?_) rfl (by kernel_rfl) (by kernel_rfl) (by kernel_rfl) (fun _ _ _ h => h) ?_ (by assumption) ?_
          rotate_left
          · first | (refine Or.inl ⟨by rfl, ?_⟩; intro w hSw; go_simp; done) | (refine Or.inl ⟨by rfl, ?_⟩; intro w hSw; go_simp; with_reducible rfl)
          try simp only [List.getElem_toArray, List.getElem_cons_zero, List.getElem_cons_succ, Act.put, List.setIfInBounds_toArray, List.set_cons_zero, List.set_cons_succ]
          refine wpAnyH_done (by kernel_rfl) ?_ _
          clear hHeld
          go_wp2_with fail
          go_ret
          exact ⟨rfl, BB.out⟩
        · have okt' : stOk t = false := (Bool.eq_false_or_eq_true (stOk t)).resolve_left okt
          have hc := spec_stateOk t _ w6.heap.size w6 SB.out (Nat.le_refl _) Ft.out
          rw [okt'] at hc
          clear okt okt'
          have fA0 := cell_of_row w6 _ 0 _ _ _ KA.out
          have fA1 := cell_of_row w6 _ 1 _ _ _ KA.out
          simp only [List.getElem?_toArray, List.getElem?_cons_zero, List.getElem?_cons_succ] at fA0 fA1
          have fB0 := cell_of_row w6 _ 0 _ _ _ KB.out
          have fB1 := cell_of_row w6 _ 1 _ _ _ KB.out
          simp only [List.getElem?_toArray, List.getElem?_cons_zero, List.getElem?_cons_succ] at fB0 fB1
          go_wp2_with (go_at_call 21; refine hc.mono ?_; rintro e w7 ⟨rfl, hb⟩; refine Hid.out ?_)
          refine Lib.hid ?_
          clear fA0 fA1 fB0 fB1
          replace KA := Lib.hid ((hb.block _ LA.out).trans KA.out)
          replace LA := Lib.hid (Nat.lt_of_lt_of_le LA.out hb.size)
          replace KB := Lib.hid ((hb.block _ LB.out).trans KB.out)
          replace LB := Lib.hid (Nat.lt_of_lt_of_le LB.out hb.size)
          replace BB := Lib.hid (BB.out.trans (hb.mono BB.out.size))
          replace SA := Lib.hid (SA.out.later hb hb.size)
          replace SB := Lib.hid (SB.out.later hb hb.size)
          clear hc
          clear hb
          go_wp2
          go_ret
          exact ⟨rfl, BB.out⟩
      · have oks' : stOk s = false := (Bool.eq_false_or_eq_true (stOk s)).resolve_left oks
        have hc := spec_stateOk s _ w5.heap.size w5 SA.out (Nat.le_refl _) Fs.out
        rw [oks'] at hc
        clear oks oks'
        have fA0 := cell_of_row w5 _ 0 _ _ _ KA.out
        have fA1 := cell_of_row w5 _ 1 _ _ _ KA.out
        simp only [List.getElem?_toArray, List.getElem?_cons_zero, List.getElem?_cons_succ] at fA0 fA1
        have fB0 := cell_of_row w5 _ 0 _ _ _ KB.out
        have fB1 := cell_of_row w5 _ 1 _ _ _ KB.out
        simp only [List.getElem?_toArray, List.getElem?_cons_zero, List.getElem?_cons_succ] at fB0 fB1
        go_wp2_with (go_at_call 21; refine hc.mono ?_; rintro e w6 ⟨rfl, hb⟩; refine Hid.out ?_)
        refine Lib.hid ?_
        clear fA0 fA1 fB0 fB1
        replace KA := Lib.hid ((hb.block _ LA.out).trans KA.out)
        replace LA := Lib.hid (Nat.lt_of_lt_of_le LA.out hb.size)
        replace KB := Lib.hid ((hb.block _ LB.out).trans KB.out)
        replace LB := Lib.hid (Nat.lt_of_lt_of_le LB.out hb.size)
        replace BB := Lib.hid (BB.out.trans (hb.mono BB.out.size))
        replace SA := Lib.hid (SA.out.later hb hb.size)
        replace SB := Lib.hid (SB.out.later hb hb.size)
        clear hc
        clear hb
        go_wp2
        go_ret
        exact ⟨rfl, BB.out⟩
end Go.Proofs.Ytkoohmibdaomkaa
