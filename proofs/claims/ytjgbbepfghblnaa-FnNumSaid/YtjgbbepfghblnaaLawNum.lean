/- The law FnNum: numbers come back from their bytes. Condition: none. -/
import Derived.Test.YtjgbbepfghblnaaBig
import Derived.Test.YtjgbbepfghblnaaDraw2
import Derived.Test.YtjgbbepfghblnaaNumBack
import Derived.Test.YtjgbbepfghblnaaImplNum2
import Derived.Test.YtjgbbepfghblnaaTextNum
import Derived.Deep.RegionHeld3
namespace Go.Proofs.Ytjgbbepfghblnaa
open Go.RowKit
set_option linter.unusedVariables false

set_option maxHeartbeats 4000000 in
theorem law_num (a : Option Addr) (len cap : Nat) (zs : List Int) (w : World) (hr : IsRow .u8 w a len cap zs) :
    Calls Try.prog 3 #[.slice a len cap] w fun e w' => e = .returned (.bool true) ∧ Below w.heap.size w w' := by
  have hr := row8_of hr
  by_cases hbig : 1048576 < len
  · have hd : decide (1048576 < len) = true := by simpa using hbig
    go_enter Try.func3, Try.ntmps3
    go_wp2_with (go_at_call 15; refine (big_any _ _ _ _).mono ?_; rintro e w' ⟨rfl, rfl⟩)
    go_ret
    exact ⟨rfl, Below.refl _ _⟩
  · have hd : decide (1048576 < len) = false := by simpa using hbig
    have hlen : len ≤ 1048576 := by omega
    go_enter Try.func3, Try.ntmps3
    go_wp2_with (first | (go_at_call 15; refine (big_any _ _ _ _).mono ?_; rintro e w' ⟨rfl, rfl⟩) | (go_at_call 16; refine (drawPutNum_any a len cap zs _ hr hlen).mono ?_; rintro e w1 ⟨n, b, rfl, hn, hb, hb1⟩; refine Hid.out ?_))
    refine Lib.hid ?_
    have hr1 := hr.later hb1
    go_wp2_with (first | (go_at_call 17; refine (impl_putNum _ _ hn (by omega) _).mono ?_; rintro e w2 ⟨rfl, hb2⟩; refine Hid.out ?_))
    refine Lib.hid ?_
    have hr2 := hr1.later hb2
    have hb2 := hb1.trans (hb2.mono hb1.size)
    clear hr1
    go_wp2_with (go_at_call 18; refine (drawGetNum_any a len cap zs _ hr2 hlen).mono ?_; rintro e w3 ⟨t, p, q, rfl, ht, hp, hq, hb3⟩; refine Hid.out ?_)
    refine Lib.hid ?_
    have hb3 := hb2.trans (hb3.mono hb2.size)
    have htm : t.size ≤ maxLen := by unfold maxLen; omega
    have Htm := Lib.hid htm
    clear hr2 htm
    go_wp2_with (go_at_call 19; refine (impl_getNum _ _ _ hp (by omega) _ Htm.out).mono ?_; rintro e w' ⟨rfl, rfl⟩; refine Hid.out ?_)
    refine Lib.hid ?_
    have hm0 := getN_lo t p q
    have hm1 := getN_hi t p q
    by_cases hneg : getN t p q < 0
    case' pos =>
      have HM := Lib.hid hm1
      have hdec : decide (0 ≤ getN t p q) = false := by simpa using hneg
      clear hm1
      go_wp2_with fail
      refine wp_region_held_drew (S := fun _ => True) (by kernel_rfl) trivial (fun _ => ?_)
      refine wpAnyH_take (i := 0) (v := ?_) rfl (by kernel_rfl) (by kernel_rfl) (by kernel_rfl) (fun _ _ _ h => h) ?_ trivial ?_
      rotate_left
      · first | (refine Or.inl ⟨by rfl, ?_⟩; intro w hSw; go_simp; done) | (refine Or.inl ⟨by rfl, ?_⟩; intro w hSw; go_simp; with_reducible rfl)
      try simp only [List.getElem_toArray, List.getElem_cons_zero, Act.put, List.setIfInBounds_toArray, List.set_cons_zero, List.set_cons_succ]
      refine wpAnyH_take (i := 1) (v := ?_) rfl (by kernel_rfl) (by kernel_rfl) (by kernel_rfl) (fun _ _ _ h => h) ?_ trivial ?_
      rotate_left
      · first | (refine Or.inl ⟨by rfl, ?_⟩; intro w hSw; go_simp; done) | (refine Or.inl ⟨by rfl, ?_⟩; intro w hSw; go_simp; with_reducible rfl)
      try simp only [List.getElem_toArray, List.getElem_cons_zero, List.getElem_cons_succ, Act.put, List.setIfInBounds_toArray, List.set_cons_zero, List.set_cons_succ]
      refine wpAnyH_take (i := 2) (v := ?_) rfl (by kernel_rfl) (by kernel_rfl) (by kernel_rfl) (fun _ _ _ h => h) ?_ trivial ?_
      rotate_left
      · first | (refine Or.inl ⟨by rfl, ?_⟩; intro w hSw; go_simp; done) | (refine Or.inl ⟨by rfl, ?_⟩; intro w hSw; go_simp; with_reducible rfl)
      try simp only [List.getElem_toArray, List.getElem_cons_zero, List.getElem_cons_succ, Act.put, List.setIfInBounds_toArray, List.set_cons_zero, List.set_cons_succ]
      refine wpAnyH_ready (rs := [3]) (by kernel_rfl) (by simp) ?_
      refine AllReadyH.cons rfl (fun K hK => ?_) AllReadyH.nil
      go_simp
      (go_at_call 20; refine (spec_putNum _ _ hn (by omega) _).mono ?_; rintro e w4 ⟨rfl, hb4⟩)
      go_wp2_with fail
      refine hK.out _ _ trivial (fun _ => ?_)
      clear hK K
      try simp only [List.getElem_toArray, List.getElem_cons_zero, List.getElem_cons_succ, Act.put, List.setIfInBounds_toArray, List.set_cons_zero, List.set_cons_succ]
      refine wpAnyH_take (i := 4) (v := ?_) rfl (by kernel_rfl) (by kernel_rfl) (by kernel_rfl) (fun _ _ _ h => h) ?_ trivial ?_
      rotate_left
      · first | (refine Or.inl ⟨by rfl, ?_⟩; intro w hSw; go_simp; done) | (refine Or.inl ⟨by rfl, ?_⟩; intro w hSw; go_simp; with_reducible rfl)
      try simp only [List.getElem_toArray, List.getElem_cons_zero, List.getElem_cons_succ, Act.put, List.setIfInBounds_toArray, List.set_cons_zero, List.set_cons_succ]
      refine wpAnyH_take (i := 5) (v := ?_) rfl (by kernel_rfl) (by kernel_rfl) (by kernel_rfl) (fun _ _ _ h => h) ?_ trivial ?_
      rotate_left
      · first | (refine Or.inl ⟨by rfl, ?_⟩; intro w hSw; go_simp; done) | (refine Or.inl ⟨by rfl, ?_⟩; intro w hSw; go_simp; with_reducible rfl)
      try simp only [List.getElem_toArray, List.getElem_cons_zero, List.getElem_cons_succ, Act.put, List.setIfInBounds_toArray, List.set_cons_zero, List.set_cons_succ]
      refine wpAnyH_take (i := 6) (v := ?_) rfl (by kernel_rfl) (by kernel_rfl) (by kernel_rfl) (fun _ _ _ h => h) ?_ trivial ?_
      rotate_left
      · first | (refine Or.inl ⟨by rfl, ?_⟩; intro w hSw; go_simp; done) | (refine Or.inl ⟨by rfl, ?_⟩; intro w hSw; go_simp; with_reducible rfl)
      try simp only [List.getElem_toArray, List.getElem_cons_zero, List.getElem_cons_succ, Act.put, List.setIfInBounds_toArray, List.set_cons_zero, List.set_cons_succ]
      refine wpAnyH_take (i := 7) (v := ?_) rfl (by kernel_rfl) (by kernel_rfl) (by kernel_rfl) (fun _ _ _ h => h) ?_ trivial ?_
      rotate_left
      · first | (refine Or.inl ⟨by rfl, ?_⟩; intro w hSw; go_simp; done) | (refine Or.inl ⟨by rfl, ?_⟩; intro w hSw; go_simp; with_reducible rfl)
      try simp only [List.getElem_toArray, List.getElem_cons_zero, List.getElem_cons_succ, Act.put, List.setIfInBounds_toArray, List.set_cons_zero, List.set_cons_succ]
      refine wpAnyH_take (i := 8) (v := ?_) rfl (by kernel_rfl) (by kernel_rfl) (by kernel_rfl) (fun _ _ _ h => h) ?_ trivial ?_
      rotate_left
      · first | (refine Or.inl ⟨by rfl, ?_⟩; intro w hSw; go_simp; done) | (refine Or.inl ⟨by rfl, ?_⟩; intro w hSw; go_simp; with_reducible rfl)
      try simp only [List.getElem_toArray, List.getElem_cons_zero, List.getElem_cons_succ, Act.put, List.setIfInBounds_toArray, List.set_cons_zero, List.set_cons_succ]
      refine wpAnyH_take (i := 9) (v := ?_) rfl (by kernel_rfl) (by kernel_rfl) (by kernel_rfl) (fun _ _ _ h => h) ?_ trivial ?_
      rotate_left
      · first | (refine Or.inl ⟨by rfl, ?_⟩; intro w hSw; go_simp; done) | (refine Or.inl ⟨by rfl, ?_⟩; intro w hSw; go_simp; with_reducible rfl)
      try simp only [List.getElem_toArray, List.getElem_cons_zero, List.getElem_cons_succ, Act.put, List.setIfInBounds_toArray, List.set_cons_zero, List.set_cons_succ]
      refine wpAnyH_ready (rs := [10]) (by kernel_rfl) (by simp) ?_
      refine AllReadyH.cons rfl (fun K hK => ?_) AllReadyH.nil
      go_simp
      (go_at_call 21; refine (spec_getNum _ _ _ hp (by omega) _ Htm.out).mono ?_; rintro e w' ⟨rfl, rfl⟩)
      go_wp2_with fail
      refine hK.out _ _ trivial (fun _ => ?_)
      clear hK K
      try simp only [List.getElem_toArray, List.getElem_cons_zero, List.getElem_cons_succ, Act.put, List.setIfInBounds_toArray, List.set_cons_zero, List.set_cons_succ]
      refine wpAnyH_take (i := 11) (v := ?_) rfl (by kernel_rfl) (by kernel_rfl) (by kernel_rfl) (fun _ _ _ h => h) ?_ trivial ?_
      rotate_left
      · first | (refine Or.inl ⟨by rfl, ?_⟩; intro w hSw; go_simp; done) | (refine Or.inl ⟨by rfl, ?_⟩; intro w hSw; go_simp; with_reducible rfl)
      try simp only [List.getElem_toArray, List.getElem_cons_zero, List.getElem_cons_succ, Act.put, List.setIfInBounds_toArray, List.set_cons_zero, List.set_cons_succ]
      refine wpAnyH_take (i := 12) (v := ?_) rfl (by kernel_rfl) (by kernel_rfl) (by kernel_rfl) (fun _ _ _ h => h) ?_ trivial ?_
      rotate_left
      · first | (refine Or.inl ⟨by rfl, ?_⟩; intro w hSw; go_simp; done) | (refine Or.inl ⟨by rfl, ?_⟩; intro w hSw; go_simp; with_reducible rfl)
      try simp only [List.getElem_toArray, List.getElem_cons_zero, List.getElem_cons_succ, Act.put, List.setIfInBounds_toArray, List.set_cons_zero, List.set_cons_succ]
      refine wpAnyH_take (i := 13) (v := ?_) rfl (by kernel_rfl) (by kernel_rfl) (by kernel_rfl) (fun _ _ _ h => h) ?_ trivial ?_
      rotate_left
      · first | (refine Or.inl ⟨by rfl, ?_⟩; intro w hSw; go_simp; done) | (refine Or.inl ⟨by rfl, ?_⟩; intro w hSw; go_simp; with_reducible rfl)
      try simp only [List.getElem_toArray, List.getElem_cons_zero, List.getElem_cons_succ, Act.put, List.setIfInBounds_toArray, List.set_cons_zero, List.set_cons_succ]
      refine wpAnyH_take (i := 14) (v := ?_) rfl (by kernel_rfl) (by kernel_rfl) (by kernel_rfl) (fun _ _ _ h => h) ?_ trivial ?_
      rotate_left
      · first | (refine Or.inl ⟨by rfl, ?_⟩; intro w hSw; go_simp; done) | (refine Or.inl ⟨by rfl, ?_⟩; intro w hSw; go_simp; with_reducible rfl)
      try simp only [List.getElem_toArray, List.getElem_cons_zero, List.getElem_cons_succ, Act.put, List.setIfInBounds_toArray, List.set_cons_zero, List.set_cons_succ]
      refine wpAnyH_take (i := 15) (v := ?_) rfl (by kernel_rfl) (by kernel_rfl) (by kernel_rfl) (fun _ _ _ h => h) ?_ trivial ?_
      rotate_left
      · first | (refine Or.inl ⟨by rfl, ?_⟩; intro w hSw; go_simp; done) | (refine Or.inl ⟨by rfl, ?_⟩; intro w hSw; go_simp; with_reducible rfl)
      try simp only [List.getElem_toArray, List.getElem_cons_zero, List.getElem_cons_succ, Act.put, List.setIfInBounds_toArray, List.set_cons_zero, List.set_cons_succ]
      refine wpAnyH_take (i := 16) (v := ?_) rfl (by kernel_rfl) (by kernel_rfl) (by kernel_rfl) (fun _ _ _ h => h) ?_ trivial ?_
      rotate_left
      · first | (refine Or.inl ⟨by rfl, ?_⟩; intro w hSw; go_simp; done) | (refine Or.inl ⟨by rfl, ?_⟩; intro w hSw; go_simp; with_reducible rfl)
      try simp only [List.getElem_toArray, List.getElem_cons_zero, List.getElem_cons_succ, Act.put, List.setIfInBounds_toArray, List.set_cons_zero, List.set_cons_succ]
      refine wpAnyH_take (i := 17) (v := undef) rfl (by kernel_rfl) (by kernel_rfl) (by kernel_rfl) (fun _ _ _ h => h) (Or.inr ⟨by rfl, rfl⟩) trivial ?_
      try simp only [List.getElem_toArray, List.getElem_cons_zero, List.getElem_cons_succ, Act.put, List.setIfInBounds_toArray, List.set_cons_zero, List.set_cons_succ]
      refine wpAnyH_take (i := 18) (v := undef) rfl (by kernel_rfl) (by kernel_rfl) (by kernel_rfl) (fun _ _ _ h => h) (Or.inr ⟨by rfl, rfl⟩) trivial ?_
      try simp only [List.getElem_toArray, List.getElem_cons_zero, List.getElem_cons_succ, Act.put, List.setIfInBounds_toArray, List.set_cons_zero, List.set_cons_succ]
      refine wpAnyH_take (i := 19) (v := undef) rfl (by kernel_rfl) (by kernel_rfl) (by kernel_rfl) (fun _ _ _ h => h) (Or.inr ⟨by rfl, rfl⟩) trivial ?_
      try simp only [List.getElem_toArray, List.getElem_cons_zero, List.getElem_cons_succ, Act.put, List.setIfInBounds_toArray, List.set_cons_zero, List.set_cons_succ]
      refine wpAnyH_take (i := 20) (v := undef) rfl (by kernel_rfl) (by kernel_rfl) (by kernel_rfl) (fun _ _ _ h => h) (Or.inr ⟨by rfl, rfl⟩) trivial ?_
      try simp only [List.getElem_toArray, List.getElem_cons_zero, List.getElem_cons_succ, Act.put, List.setIfInBounds_toArray, List.set_cons_zero, List.set_cons_succ]
      refine wpAnyH_take (i := 21) (v := undef) rfl (by kernel_rfl) (by kernel_rfl) (by kernel_rfl) (fun _ _ _ h => h) (Or.inr ⟨by rfl, rfl⟩) trivial ?_
      try simp only [List.getElem_toArray, List.getElem_cons_zero, List.getElem_cons_succ, Act.put, List.setIfInBounds_toArray, List.set_cons_zero, List.set_cons_succ]
      refine wpAnyH_take (i := 22) (v := undef) rfl (by kernel_rfl) (by kernel_rfl) (by kernel_rfl) (fun _ _ _ h => h) (Or.inr ⟨by rfl, rfl⟩) trivial ?_
      try simp only [List.getElem_toArray, List.getElem_cons_zero, List.getElem_cons_succ, Act.put, List.setIfInBounds_toArray, List.set_cons_zero, List.set_cons_succ]
      refine wpAnyH_take (i := 23) (v := undef) rfl (by kernel_rfl) (by kernel_rfl) (by kernel_rfl) (fun _ _ _ h => h) (Or.inr ⟨by rfl, rfl⟩) trivial ?_
      try simp only [List.getElem_toArray, List.getElem_cons_zero, List.getElem_cons_succ, Act.put, List.setIfInBounds_toArray, List.set_cons_zero, List.set_cons_succ]
      refine wpAnyH_take (i := 24) (v := undef) rfl (by kernel_rfl) (by kernel_rfl) (by kernel_rfl) (fun _ _ _ h => h) (Or.inr ⟨by rfl, rfl⟩) trivial ?_
      try simp only [List.getElem_toArray, List.getElem_cons_zero, List.getElem_cons_succ, Act.put, List.setIfInBounds_toArray, List.set_cons_zero, List.set_cons_succ]
      refine wpAnyH_take (i := 25) (v := undef) rfl (by kernel_rfl) (by kernel_rfl) (by kernel_rfl) (fun _ _ _ h => h) (Or.inr ⟨by rfl, rfl⟩) trivial ?_
      try simp only [List.getElem_toArray, List.getElem_cons_zero, List.getElem_cons_succ, Act.put, List.setIfInBounds_toArray, List.set_cons_zero, List.set_cons_succ]
      refine wpAnyH_take (i := 26) (v := undef) rfl (by kernel_rfl) (by kernel_rfl) (by kernel_rfl) (fun _ _ _ h => h) (Or.inr ⟨by rfl, rfl⟩) trivial ?_
      try simp only [List.getElem_toArray, List.getElem_cons_zero, List.getElem_cons_succ, Act.put, List.setIfInBounds_toArray, List.set_cons_zero, List.set_cons_succ]
      refine wpAnyH_take (i := 27) (v := ?_) rfl (by kernel_rfl) (by kernel_rfl) (by kernel_rfl) (fun _ _ _ h => h) ?_ trivial ?_
      rotate_left
      · first | (refine Or.inl ⟨by rfl, ?_⟩; intro w hSw; go_simp; done) | (refine Or.inl ⟨by rfl, ?_⟩; intro w hSw; go_simp; with_reducible rfl)
      try simp only [List.getElem_toArray, List.getElem_cons_zero, List.getElem_cons_succ, Act.put, List.setIfInBounds_toArray, List.set_cons_zero, List.set_cons_succ]
      refine wpAnyH_take (i := 28) (v := ?_) rfl (by kernel_rfl) (by kernel_rfl) (by kernel_rfl) (fun _ _ _ h => h) ?_ trivial ?_
      rotate_left
      · first | (refine Or.inl ⟨by rfl, ?_⟩; intro w hSw; go_simp; done) | (refine Or.inl ⟨by rfl, ?_⟩; intro w hSw; go_simp; with_reducible rfl)
      try simp only [List.getElem_toArray, List.getElem_cons_zero, List.getElem_cons_succ, Act.put, List.setIfInBounds_toArray, List.set_cons_zero, List.set_cons_succ]
      refine wpAnyH_done (by kernel_rfl) ?_ _
      have hfin := hb3.drew.trans (hb4.mono hb3.size)
    case' neg =>
      have hdec : decide (0 ≤ getN t p q) = true := by simpa using hneg
      obtain ⟨hp0, hpb, hq1, hq4⟩ := getN_in hneg
      have hback := put_get t p q (by omega)
      obtain ⟨P, rfl⟩ := Int.eq_ofNat_of_zero_le hp0
      obtain ⟨B, rfl⟩ := Int.eq_ofNat_of_zero_le (show 0 ≤ q by omega)
      have hback : txt (putN (getN t P B) B) = t.extract P (P + B) := by simpa using hback
      have ew : IntKind.i64.wrap ((P : Int) + (B : Int)) = (P : Int) + (B : Int) := by rw [IntKind.wrap_i64]; omega
      have e7 : (0 : Int) ≤ (P : Int) + (B : Int) := by omega
      have e8 : (P : Int) + (B : Int) ≤ (t.size : Int) := by omega
      have e9 : (P : Int) ≤ (P : Int) + (B : Int) := by omega
      have e10 : ((P : Int) + (B : Int)).toNat = P + B := by omega
      go_wp2_with fail
      refine wp_region_held_drew (S := fun _ => True) (by kernel_rfl) trivial (fun _ => ?_)
      refine wpAnyH_take (i := 0) (v := ?_) rfl (by kernel_rfl) (by kernel_rfl) (by kernel_rfl) (fun _ _ _ h => h) ?_ trivial ?_
      rotate_left
      · first | (refine Or.inl ⟨by rfl, ?_⟩; intro w hSw; go_simp; done) | (refine Or.inl ⟨by rfl, ?_⟩; intro w hSw; go_simp; with_reducible rfl)
      try simp only [List.getElem_toArray, List.getElem_cons_zero, Act.put, List.setIfInBounds_toArray, List.set_cons_zero, List.set_cons_succ]
      refine wpAnyH_take (i := 1) (v := ?_) rfl (by kernel_rfl) (by kernel_rfl) (by kernel_rfl) (fun _ _ _ h => h) ?_ trivial ?_
      rotate_left
      · first | (refine Or.inl ⟨by rfl, ?_⟩; intro w hSw; go_simp; done) | (refine Or.inl ⟨by rfl, ?_⟩; intro w hSw; go_simp; with_reducible rfl)
      try simp only [List.getElem_toArray, List.getElem_cons_zero, List.getElem_cons_succ, Act.put, List.setIfInBounds_toArray, List.set_cons_zero, List.set_cons_succ]
      refine wpAnyH_take (i := 2) (v := ?_) rfl (by kernel_rfl) (by kernel_rfl) (by kernel_rfl) (fun _ _ _ h => h) ?_ trivial ?_
      rotate_left
      · first | (refine Or.inl ⟨by rfl, ?_⟩; intro w hSw; go_simp; done) | (refine Or.inl ⟨by rfl, ?_⟩; intro w hSw; go_simp; with_reducible rfl)
      try simp only [List.getElem_toArray, List.getElem_cons_zero, List.getElem_cons_succ, Act.put, List.setIfInBounds_toArray, List.set_cons_zero, List.set_cons_succ]
      refine wpAnyH_ready (rs := [3]) (by kernel_rfl) (by simp) ?_
      refine AllReadyH.cons rfl (fun K hK => ?_) AllReadyH.nil
      go_simp
      (go_at_call 20; refine (spec_putNum _ _ hn (by omega) _).mono ?_; rintro e w4 ⟨rfl, hb4⟩)
      go_wp2_with fail
      refine hK.out _ _ trivial (fun _ => ?_)
      clear hK K
      try simp only [List.getElem_toArray, List.getElem_cons_zero, List.getElem_cons_succ, Act.put, List.setIfInBounds_toArray, List.set_cons_zero, List.set_cons_succ]
      refine wpAnyH_take (i := 4) (v := ?_) rfl (by kernel_rfl) (by kernel_rfl) (by kernel_rfl) (fun _ _ _ h => h) ?_ trivial ?_
      rotate_left
      · first | (refine Or.inl ⟨by rfl, ?_⟩; intro w hSw; go_simp; done) | (refine Or.inl ⟨by rfl, ?_⟩; intro w hSw; go_simp; with_reducible rfl)
      try simp only [List.getElem_toArray, List.getElem_cons_zero, List.getElem_cons_succ, Act.put, List.setIfInBounds_toArray, List.set_cons_zero, List.set_cons_succ]
      refine wpAnyH_take (i := 5) (v := ?_) rfl (by kernel_rfl) (by kernel_rfl) (by kernel_rfl) (fun _ _ _ h => h) ?_ trivial ?_
      rotate_left
      · first | (refine Or.inl ⟨by rfl, ?_⟩; intro w hSw; go_simp; done) | (refine Or.inl ⟨by rfl, ?_⟩; intro w hSw; go_simp; with_reducible rfl)
      try simp only [List.getElem_toArray, List.getElem_cons_zero, List.getElem_cons_succ, Act.put, List.setIfInBounds_toArray, List.set_cons_zero, List.set_cons_succ]
      refine wpAnyH_take (i := 6) (v := ?_) rfl (by kernel_rfl) (by kernel_rfl) (by kernel_rfl) (fun _ _ _ h => h) ?_ trivial ?_
      rotate_left
      · first | (refine Or.inl ⟨by rfl, ?_⟩; intro w hSw; go_simp; done) | (refine Or.inl ⟨by rfl, ?_⟩; intro w hSw; go_simp; with_reducible rfl)
      try simp only [List.getElem_toArray, List.getElem_cons_zero, List.getElem_cons_succ, Act.put, List.setIfInBounds_toArray, List.set_cons_zero, List.set_cons_succ]
      refine wpAnyH_take (i := 7) (v := ?_) rfl (by kernel_rfl) (by kernel_rfl) (by kernel_rfl) (fun _ _ _ h => h) ?_ trivial ?_
      rotate_left
      · first | (refine Or.inl ⟨by rfl, ?_⟩; intro w hSw; go_simp; done) | (refine Or.inl ⟨by rfl, ?_⟩; intro w hSw; go_simp; with_reducible rfl)
      try simp only [List.getElem_toArray, List.getElem_cons_zero, List.getElem_cons_succ, Act.put, List.setIfInBounds_toArray, List.set_cons_zero, List.set_cons_succ]
      refine wpAnyH_take (i := 8) (v := ?_) rfl (by kernel_rfl) (by kernel_rfl) (by kernel_rfl) (fun _ _ _ h => h) ?_ trivial ?_
      rotate_left
      · first | (refine Or.inl ⟨by rfl, ?_⟩; intro w hSw; go_simp; done) | (refine Or.inl ⟨by rfl, ?_⟩; intro w hSw; go_simp; with_reducible rfl)
      try simp only [List.getElem_toArray, List.getElem_cons_zero, List.getElem_cons_succ, Act.put, List.setIfInBounds_toArray, List.set_cons_zero, List.set_cons_succ]
      refine wpAnyH_take (i := 9) (v := ?_) rfl (by kernel_rfl) (by kernel_rfl) (by kernel_rfl) (fun _ _ _ h => h) ?_ trivial ?_
      rotate_left
      · first | (refine Or.inl ⟨by rfl, ?_⟩; intro w hSw; go_simp; done) | (refine Or.inl ⟨by rfl, ?_⟩; intro w hSw; go_simp; with_reducible rfl)
      try simp only [List.getElem_toArray, List.getElem_cons_zero, List.getElem_cons_succ, Act.put, List.setIfInBounds_toArray, List.set_cons_zero, List.set_cons_succ]
      refine wpAnyH_ready (rs := [10]) (by kernel_rfl) (by simp) ?_
      refine AllReadyH.cons rfl (fun K hK => ?_) AllReadyH.nil
      go_simp
      (go_at_call 21; refine (spec_getNum _ _ _ hp (by omega) _ Htm.out).mono ?_; rintro e w' ⟨rfl, rfl⟩)
      go_wp2_with fail
      refine hK.out _ _ trivial (fun _ => ?_)
      clear hK K
      try simp only [List.getElem_toArray, List.getElem_cons_zero, List.getElem_cons_succ, Act.put, List.setIfInBounds_toArray, List.set_cons_zero, List.set_cons_succ]
      refine wpAnyH_take (i := 11) (v := ?_) rfl (by kernel_rfl) (by kernel_rfl) (by kernel_rfl) (fun _ _ _ h => h) ?_ trivial ?_
      rotate_left
      · first | (refine Or.inl ⟨by rfl, ?_⟩; intro w hSw; go_simp; done) | (refine Or.inl ⟨by rfl, ?_⟩; intro w hSw; go_simp; with_reducible rfl)
      try simp only [List.getElem_toArray, List.getElem_cons_zero, List.getElem_cons_succ, Act.put, List.setIfInBounds_toArray, List.set_cons_zero, List.set_cons_succ]
      refine wpAnyH_take (i := 12) (v := ?_) rfl (by kernel_rfl) (by kernel_rfl) (by kernel_rfl) (fun _ _ _ h => h) ?_ trivial ?_
      rotate_left
      · first | (refine Or.inl ⟨by rfl, ?_⟩; intro w hSw; go_simp; done) | (refine Or.inl ⟨by rfl, ?_⟩; intro w hSw; go_simp; with_reducible rfl)
      try simp only [List.getElem_toArray, List.getElem_cons_zero, List.getElem_cons_succ, Act.put, List.setIfInBounds_toArray, List.set_cons_zero, List.set_cons_succ]
      refine wpAnyH_take (i := 13) (v := ?_) rfl (by kernel_rfl) (by kernel_rfl) (by kernel_rfl) (fun _ _ _ h => h) ?_ trivial ?_
      rotate_left
      · first | (refine Or.inl ⟨by rfl, ?_⟩; intro w hSw; go_simp; done) | (refine Or.inl ⟨by rfl, ?_⟩; intro w hSw; go_simp; with_reducible rfl)
      try simp only [List.getElem_toArray, List.getElem_cons_zero, List.getElem_cons_succ, Act.put, List.setIfInBounds_toArray, List.set_cons_zero, List.set_cons_succ]
      refine wpAnyH_take (i := 14) (v := ?_) rfl (by kernel_rfl) (by kernel_rfl) (by kernel_rfl) (fun _ _ _ h => h) ?_ trivial ?_
      rotate_left
      · first | (refine Or.inl ⟨by rfl, ?_⟩; intro w hSw; go_simp; done) | (refine Or.inl ⟨by rfl, ?_⟩; intro w hSw; go_simp; with_reducible rfl)
      try simp only [List.getElem_toArray, List.getElem_cons_zero, List.getElem_cons_succ, Act.put, List.setIfInBounds_toArray, List.set_cons_zero, List.set_cons_succ]
      refine wpAnyH_take (i := 15) (v := ?_) rfl (by kernel_rfl) (by kernel_rfl) (by kernel_rfl) (fun _ _ _ h => h) ?_ trivial ?_
      rotate_left
      · first | (refine Or.inl ⟨by rfl, ?_⟩; intro w hSw; go_simp; done) | (refine Or.inl ⟨by rfl, ?_⟩; intro w hSw; go_simp; with_reducible rfl)
      try simp only [List.getElem_toArray, List.getElem_cons_zero, List.getElem_cons_succ, Act.put, List.setIfInBounds_toArray, List.set_cons_zero, List.set_cons_succ]
      refine wpAnyH_take (i := 16) (v := ?_) rfl (by kernel_rfl) (by kernel_rfl) (by kernel_rfl) (fun _ _ _ h => h) ?_ trivial ?_
      rotate_left
      · first | (refine Or.inl ⟨by rfl, ?_⟩; intro w hSw; go_simp; done) | (refine Or.inl ⟨by rfl, ?_⟩; intro w hSw; go_simp; with_reducible rfl)
      try simp only [List.getElem_toArray, List.getElem_cons_zero, List.getElem_cons_succ, Act.put, List.setIfInBounds_toArray, List.set_cons_zero, List.set_cons_succ]
      refine wpAnyH_take (i := 17) (v := ?_) rfl (by kernel_rfl) (by kernel_rfl) (by kernel_rfl) (fun _ _ _ h => h) ?_ trivial ?_
      rotate_left
      · first | (refine Or.inl ⟨by rfl, ?_⟩; intro w hSw; go_simp; done) | (refine Or.inl ⟨by rfl, ?_⟩; intro w hSw; go_simp; with_reducible rfl)
      try simp only [List.getElem_toArray, List.getElem_cons_zero, List.getElem_cons_succ, Act.put, List.setIfInBounds_toArray, List.set_cons_zero, List.set_cons_succ]
      refine wpAnyH_take (i := 18) (v := ?_) rfl (by kernel_rfl) (by kernel_rfl) (by kernel_rfl) (fun _ _ _ h => h) ?_ trivial ?_
      rotate_left
      · first | (refine Or.inl ⟨by rfl, ?_⟩; intro w hSw; go_simp; done) | (refine Or.inl ⟨by rfl, ?_⟩; intro w hSw; go_simp; with_reducible rfl)
      try simp only [List.getElem_toArray, List.getElem_cons_zero, List.getElem_cons_succ, Act.put, List.setIfInBounds_toArray, List.set_cons_zero, List.set_cons_succ]
      refine wpAnyH_take (i := 20) (v := ?_) rfl (by kernel_rfl) (by kernel_rfl) (by kernel_rfl) (fun _ _ _ h => h) ?_ trivial ?_
      rotate_left
      · first | (refine Or.inl ⟨by rfl, ?_⟩; intro w hSw; go_simp; done) | (refine Or.inl ⟨by rfl, ?_⟩; intro w hSw; go_simp; with_reducible rfl)
      try simp only [List.getElem_toArray, List.getElem_cons_zero, List.getElem_cons_succ, Act.put, List.setIfInBounds_toArray, List.set_cons_zero, List.set_cons_succ]
      refine wpAnyH_take (i := 21) (v := ?_) rfl (by kernel_rfl) (by kernel_rfl) (by kernel_rfl) (fun _ _ _ h => h) ?_ trivial ?_
      rotate_left
      · first | (refine Or.inl ⟨by rfl, ?_⟩; intro w hSw; go_simp; done) | (refine Or.inl ⟨by rfl, ?_⟩; intro w hSw; go_simp; with_reducible rfl)
      try simp only [List.getElem_toArray, List.getElem_cons_zero, List.getElem_cons_succ, Act.put, List.setIfInBounds_toArray, List.set_cons_zero, List.set_cons_succ]
      refine wpAnyH_take (i := 22) (v := ?_) rfl (by kernel_rfl) (by kernel_rfl) (by kernel_rfl) (fun _ _ _ h => h) ?_ trivial ?_
      rotate_left
      · first | (refine Or.inl ⟨by rfl, ?_⟩; intro w hSw; go_simp; done) | (refine Or.inl ⟨by rfl, ?_⟩; intro w hSw; go_simp; with_reducible rfl)
      try simp only [List.getElem_toArray, List.getElem_cons_zero, List.getElem_cons_succ, Act.put, List.setIfInBounds_toArray, List.set_cons_zero, List.set_cons_succ]
      refine wpAnyH_take (i := 23) (v := ?_) rfl (by kernel_rfl) (by kernel_rfl) (by kernel_rfl) (fun _ _ _ h => h) ?_ trivial ?_
      rotate_left
      · first | (refine Or.inl ⟨by rfl, ?_⟩; intro w hSw; go_simp; done) | (refine Or.inl ⟨by rfl, ?_⟩; intro w hSw; go_simp; with_reducible rfl)
      try simp only [List.getElem_toArray, List.getElem_cons_zero, List.getElem_cons_succ, Act.put, List.setIfInBounds_toArray, List.set_cons_zero, List.set_cons_succ]
      refine wpAnyH_take (i := 24) (v := ?_) rfl (by kernel_rfl) (by kernel_rfl) (by kernel_rfl) (fun _ _ _ h => h) ?_ trivial ?_
      rotate_left
      · first | (refine Or.inl ⟨by rfl, ?_⟩; intro w hSw; go_simp; done) | (refine Or.inl ⟨by rfl, ?_⟩; intro w hSw; go_simp; with_reducible rfl)
      try simp only [List.getElem_toArray, List.getElem_cons_zero, List.getElem_cons_succ, Act.put, List.setIfInBounds_toArray, List.set_cons_zero, List.set_cons_succ]
      refine wpAnyH_take (i := 25) (v := ?_) rfl (by kernel_rfl) (by kernel_rfl) (by kernel_rfl) (fun _ _ _ h => h) ?_ trivial ?_
      rotate_left
      · first | (refine Or.inl ⟨by rfl, ?_⟩; intro w hSw; go_simp; done) | (refine Or.inl ⟨by rfl, ?_⟩; intro w hSw; go_simp; with_reducible rfl)
      try simp only [List.getElem_toArray, List.getElem_cons_zero, List.getElem_cons_succ, Act.put, List.setIfInBounds_toArray, List.set_cons_zero, List.set_cons_succ]
      refine wpAnyH_ready (rs := [19]) (by kernel_rfl) (by simp) ?_
      refine AllReadyH.cons rfl (fun K hK => ?_) AllReadyH.nil
      go_simp
      (go_at_call 17; refine (impl_putNum _ _ (by omega) (by omega) _).mono ?_; rintro e w5 ⟨rfl, hb5⟩)
      go_wp2_with fail
      refine hK.out _ _ trivial (fun _ => ?_)
      clear hK K
      try simp only [List.getElem_toArray, List.getElem_cons_zero, List.getElem_cons_succ, Act.put, List.setIfInBounds_toArray, List.set_cons_zero, List.set_cons_succ]
      refine wpAnyH_take (i := 26) (v := ?_) rfl (by kernel_rfl) (by kernel_rfl) (by kernel_rfl) (fun _ _ _ h => h) ?_ trivial ?_
      rotate_left
      · first | (refine Or.inl ⟨by rfl, ?_⟩; intro w hSw; go_simp; done) | (refine Or.inl ⟨by rfl, ?_⟩; intro w hSw; go_simp; with_reducible rfl)
      try simp only [List.getElem_toArray, List.getElem_cons_zero, List.getElem_cons_succ, Act.put, List.setIfInBounds_toArray, List.set_cons_zero, List.set_cons_succ]
      refine wpAnyH_take (i := 27) (v := ?_) rfl (by kernel_rfl) (by kernel_rfl) (by kernel_rfl) (fun _ _ _ h => h) ?_ trivial ?_
      rotate_left
      · first | (refine Or.inl ⟨by rfl, ?_⟩; intro w hSw; go_simp; done) | (refine Or.inl ⟨by rfl, ?_⟩; intro w hSw; go_simp; with_reducible rfl)
      try simp only [List.getElem_toArray, List.getElem_cons_zero, List.getElem_cons_succ, Act.put, List.setIfInBounds_toArray, List.set_cons_zero, List.set_cons_succ]
      refine wpAnyH_take (i := 28) (v := ?_) rfl (by kernel_rfl) (by kernel_rfl) (by kernel_rfl) (fun _ _ _ h => h) ?_ trivial ?_
      rotate_left
      · first | (refine Or.inl ⟨by rfl, ?_⟩; intro w hSw; go_simp; done) | (refine Or.inl ⟨by rfl, ?_⟩; intro w hSw; go_simp; with_reducible rfl)
      try simp only [List.getElem_toArray, List.getElem_cons_zero, List.getElem_cons_succ, Act.put, List.setIfInBounds_toArray, List.set_cons_zero, List.set_cons_succ]
      refine wpAnyH_done (by kernel_rfl) ?_ _
      have hfin := (hb3.drew.trans (hb4.mono hb3.size)).trans (hb5.mono (hb3.drew.trans (hb4.mono hb3.size)).size)
    all_goals
      clear hdec
      rcases (show n < 0 ∨ (0 ≤ n ∧ b < 1) ∨ (0 ≤ n ∧ 4 < b) ∨ (0 ≤ n ∧ (b = 1 ∨ b = 2 ∨ b = 3 ∨ b = 4)) by omega) with h0 | ⟨h0, h1⟩ | ⟨h0, h1⟩ | ⟨h0, h1⟩
      · have he : txt (putN n b) = ⟨#[]⟩ := by unfold putN; rw [if_pos (by omega)]; rfl
        rw [he]
        go_wp2_with fail
        go_ret
        exact ⟨rfl, hfin⟩
      · have he : txt (putN n b) = ⟨#[]⟩ := by unfold putN; rw [if_pos (by omega)]; rfl
        rw [he]
        go_wp2_with fail
        go_ret
        exact ⟨rfl, hfin⟩
      · have he : txt (putN n b) = ⟨#[]⟩ := by unfold putN; rw [if_pos (by omega)]; rfl
        rw [he]
        go_wp2_with fail
        go_ret
        exact ⟨rfl, hfin⟩
      · obtain ⟨N, rfl⟩ := Int.eq_ofNat_of_zero_le h0
        rcases h1 with rfl | rfl | rfl | rfl
        · have hl : (txt (putN N 1)).size = 1 := putN_len N 1 (by omega) (by omega)
          have hgp := get_put N 1 (by omega) (by omega) 120
          have hgp : getN ((⟨#[120]⟩ : ByteArray) ++ txt (putN N 1)) 1 1 = (N : Int) % 256 := by rw [hgp]; rfl
          have htm : (N : Int).tmod 256 = (N : Int) % 256 := Int.tmod_eq_emod_of_nonneg (by omega)
          have hw : IntKind.i64.wrap (2 ^ min (IntKind.u64.wrap (IntKind.i64.wrap 8)).toNat 64) = 256 := by decide
          have hsz : ((⟨#[120]⟩ : ByteArray) ++ txt (putN N 1)).size ≤ maxLen := by rw [ByteArray.size_append, hl]; decide
          have Hsz := Lib.hid hsz
          clear hsz
          generalize txt (putN N 1) = s at *
          go_wp2_with fail
          refine wp_region_held_drew (S := fun _ => True) (by kernel_rfl) trivial (fun _ => ?_)
          refine wpAnyH_take (i := 0) (v := ?_) rfl (by kernel_rfl) (by kernel_rfl) (by kernel_rfl) (fun _ _ _ h => h) ?_ trivial ?_
          rotate_left
          · first | (refine Or.inl ⟨by rfl, ?_⟩; intro w hSw; go_simp; done) | (refine Or.inl ⟨by rfl, ?_⟩; intro w hSw; go_simp; with_reducible rfl)
          try simp only [List.getElem_toArray, List.getElem_cons_zero, Act.put, List.setIfInBounds_toArray, List.set_cons_zero, List.set_cons_succ]
          refine wpAnyH_take (i := 1) (v := ?_) rfl (by kernel_rfl) (by kernel_rfl) (by kernel_rfl) (fun _ _ _ h => h) ?_ trivial ?_
          rotate_left
          · first | (refine Or.inl ⟨by rfl, ?_⟩; intro w hSw; go_simp; done) | (refine Or.inl ⟨by rfl, ?_⟩; intro w hSw; go_simp; with_reducible rfl)
          try simp only [List.getElem_toArray, List.getElem_cons_zero, List.getElem_cons_succ, Act.put, List.setIfInBounds_toArray, List.set_cons_zero, List.set_cons_succ]
          refine wpAnyH_take (i := 2) (v := ?_) rfl (by kernel_rfl) (by kernel_rfl) (by kernel_rfl) (fun _ _ _ h => h) ?_ trivial ?_
          rotate_left
          · first | (refine Or.inl ⟨by rfl, ?_⟩; intro w hSw; go_simp; done) | (refine Or.inl ⟨by rfl, ?_⟩; intro w hSw; go_simp; with_reducible rfl)
          try simp only [List.getElem_toArray, List.getElem_cons_zero, List.getElem_cons_succ, Act.put, List.setIfInBounds_toArray, List.set_cons_zero, List.set_cons_succ]
          refine wpAnyH_take (i := 3) (v := ?_) rfl (by kernel_rfl) (by kernel_rfl) (by kernel_rfl) (fun _ _ _ h => h) ?_ trivial ?_
          rotate_left
          · first | (refine Or.inl ⟨by rfl, ?_⟩; intro w hSw; go_simp; done) | (refine Or.inl ⟨by rfl, ?_⟩; intro w hSw; go_simp; with_reducible rfl)
          try simp only [List.getElem_toArray, List.getElem_cons_zero, List.getElem_cons_succ, Act.put, List.setIfInBounds_toArray, List.set_cons_zero, List.set_cons_succ]
          refine wpAnyH_take (i := 4) (v := ?_) rfl (by kernel_rfl) (by kernel_rfl) (by kernel_rfl) (fun _ _ _ h => h) ?_ trivial ?_
          rotate_left
          · first | (refine Or.inl ⟨by rfl, ?_⟩; intro w hSw; go_simp; done) | (refine Or.inl ⟨by rfl, ?_⟩; intro w hSw; go_simp; with_reducible rfl)
          try simp only [List.getElem_toArray, List.getElem_cons_zero, List.getElem_cons_succ, Act.put, List.setIfInBounds_toArray, List.set_cons_zero, List.set_cons_succ]
          refine wpAnyH_take (i := 5) (v := ?_) rfl (by kernel_rfl) (by kernel_rfl) (by kernel_rfl) (fun _ _ _ h => h) ?_ trivial ?_
          rotate_left
          · first | (refine Or.inl ⟨by rfl, ?_⟩; intro w hSw; go_simp; done) | (refine Or.inl ⟨by rfl, ?_⟩; intro w hSw; go_simp; with_reducible rfl)
          try simp only [List.getElem_toArray, List.getElem_cons_zero, List.getElem_cons_succ, Act.put, List.setIfInBounds_toArray, List.set_cons_zero, List.set_cons_succ]
          refine wpAnyH_take (i := 6) (v := ?_) rfl (by kernel_rfl) (by kernel_rfl) (by kernel_rfl) (fun _ _ _ h => h) ?_ trivial ?_
          rotate_left
          · first | (refine Or.inl ⟨by rfl, ?_⟩; intro w hSw; go_simp; done) | (refine Or.inl ⟨by rfl, ?_⟩; intro w hSw; go_simp; with_reducible rfl)
          try simp only [List.getElem_toArray, List.getElem_cons_zero, List.getElem_cons_succ, Act.put, List.setIfInBounds_toArray, List.set_cons_zero, List.set_cons_succ]
          refine wpAnyH_take (i := 7) (v := ?_) rfl (by kernel_rfl) (by kernel_rfl) (by kernel_rfl) (fun _ _ _ h => h) ?_ trivial ?_
          rotate_left
          · first | (refine Or.inl ⟨by rfl, ?_⟩; intro w hSw; go_simp; done) | (refine Or.inl ⟨by rfl, ?_⟩; intro w hSw; go_simp; with_reducible rfl)
          try simp only [List.getElem_toArray, List.getElem_cons_zero, List.getElem_cons_succ, Act.put, List.setIfInBounds_toArray, List.set_cons_zero, List.set_cons_succ]
          refine wpAnyH_take (i := 9) (v := ?_) rfl (by kernel_rfl) (by kernel_rfl) (by kernel_rfl) (fun _ _ _ h => h) ?_ trivial ?_
          rotate_left
          · first | (refine Or.inl ⟨by rfl, ?_⟩; intro w hSw; go_simp; done) | (refine Or.inl ⟨by rfl, ?_⟩; intro w hSw; go_simp; with_reducible rfl)
          try simp only [List.getElem_toArray, List.getElem_cons_zero, List.getElem_cons_succ, Act.put, List.setIfInBounds_toArray, List.set_cons_zero, List.set_cons_succ]
          refine wpAnyH_take (i := 10) (v := ?_) rfl (by kernel_rfl) (by kernel_rfl) (by kernel_rfl) (fun _ _ _ h => h) ?_ trivial ?_
          rotate_left
          · first | (refine Or.inl ⟨by rfl, ?_⟩; intro w hSw; go_simp; done) | (refine Or.inl ⟨by rfl, ?_⟩; intro w hSw; go_simp; with_reducible rfl)
          try simp only [List.getElem_toArray, List.getElem_cons_zero, List.getElem_cons_succ, Act.put, List.setIfInBounds_toArray, List.set_cons_zero, List.set_cons_succ]
          refine wpAnyH_take (i := 11) (v := ?_) rfl (by kernel_rfl) (by kernel_rfl) (by kernel_rfl) (fun _ _ _ h => h) ?_ trivial ?_
          rotate_left
          · first | (refine Or.inl ⟨by rfl, ?_⟩; intro w hSw; go_simp; done) | (refine Or.inl ⟨by rfl, ?_⟩; intro w hSw; go_simp; with_reducible rfl)
          try simp only [List.getElem_toArray, List.getElem_cons_zero, List.getElem_cons_succ, Act.put, List.setIfInBounds_toArray, List.set_cons_zero, List.set_cons_succ]
          refine wpAnyH_take (i := 12) (v := ?_) rfl (by kernel_rfl) (by kernel_rfl) (by kernel_rfl) (fun _ _ _ h => h) ?_ trivial ?_
          rotate_left
          · first | (refine Or.inl ⟨by rfl, ?_⟩; intro w hSw; go_simp; done) | (refine Or.inl ⟨by rfl, ?_⟩; intro w hSw; go_simp; with_reducible rfl)
          try simp only [List.getElem_toArray, List.getElem_cons_zero, List.getElem_cons_succ, Act.put, List.setIfInBounds_toArray, List.set_cons_zero, List.set_cons_succ]
          refine wpAnyH_take (i := 13) (v := ?_) rfl (by kernel_rfl) (by kernel_rfl) (by kernel_rfl) (fun _ _ _ h => h) ?_ trivial ?_
          rotate_left
          · first | (refine Or.inl ⟨by rfl, ?_⟩; intro w hSw; go_simp; done) | (refine Or.inl ⟨by rfl, ?_⟩; intro w hSw; go_simp; with_reducible rfl)
          try simp only [List.getElem_toArray, List.getElem_cons_zero, List.getElem_cons_succ, Act.put, List.setIfInBounds_toArray, List.set_cons_zero, List.set_cons_succ]
          refine wpAnyH_take (i := 14) (v := ?_) rfl (by kernel_rfl) (by kernel_rfl) (by kernel_rfl) (fun _ _ _ h => h) ?_ trivial ?_
          rotate_left
          · first | (refine Or.inl ⟨by rfl, ?_⟩; intro w hSw; go_simp; done) | (refine Or.inl ⟨by rfl, ?_⟩; intro w hSw; go_simp; with_reducible rfl)
          try simp only [List.getElem_toArray, List.getElem_cons_zero, List.getElem_cons_succ, Act.put, List.setIfInBounds_toArray, List.set_cons_zero, List.set_cons_succ]
          refine wpAnyH_ready (rs := [8]) (by kernel_rfl) (by simp) ?_
          refine AllReadyH.cons rfl (fun K hK => ?_) AllReadyH.nil
          go_simp
          (go_at_call 19; refine (impl_getNum _ _ _ (by omega) (by omega) _ Hsz.out).mono ?_; rintro e w' ⟨rfl, rfl⟩)
          go_wp2_with fail
          refine hK.out _ _ trivial (fun _ => ?_)
          clear hK K
          try simp only [List.getElem_toArray, List.getElem_cons_zero, List.getElem_cons_succ, Act.put, List.setIfInBounds_toArray, List.set_cons_zero, List.set_cons_succ]
          refine wpAnyH_take (i := 15) (v := ?_) rfl (by kernel_rfl) (by kernel_rfl) (by kernel_rfl) (fun _ _ _ h => h) ?_ trivial ?_
          rotate_left
          · first | (refine Or.inl ⟨by rfl, ?_⟩; intro w hSw; go_simp; done) | (refine Or.inl ⟨by rfl, ?_⟩; intro w hSw; go_simp; with_reducible rfl)
          try simp only [List.getElem_toArray, List.getElem_cons_zero, List.getElem_cons_succ, Act.put, List.setIfInBounds_toArray, List.set_cons_zero, List.set_cons_succ]
          refine wpAnyH_take (i := 16) (v := ?_) rfl (by kernel_rfl) (by kernel_rfl) (by kernel_rfl) (fun _ _ _ h => h) ?_ trivial ?_
          rotate_left
          · first | (refine Or.inl ⟨by rfl, ?_⟩; intro w hSw; go_simp; done) | (refine Or.inl ⟨by rfl, ?_⟩; intro w hSw; go_simp; with_reducible rfl)
          try simp only [List.getElem_toArray, List.getElem_cons_zero, List.getElem_cons_succ, Act.put, List.setIfInBounds_toArray, List.set_cons_zero, List.set_cons_succ]
          refine wpAnyH_take (i := 17) (v := ?_) rfl (by kernel_rfl) (by kernel_rfl) (by kernel_rfl) (fun _ _ _ h => h) ?_ trivial ?_
          rotate_left
          · first | (refine Or.inl ⟨by rfl, ?_⟩; intro w hSw; go_simp; done) | (refine Or.inl ⟨by rfl, ?_⟩; intro w hSw; go_simp; with_reducible rfl)
          try simp only [List.getElem_toArray, List.getElem_cons_zero, List.getElem_cons_succ, Act.put, List.setIfInBounds_toArray, List.set_cons_zero, List.set_cons_succ]
          refine wpAnyH_done (by kernel_rfl) ?_ _
          go_wp2_with fail
          go_ret
          exact ⟨rfl, hfin.drew⟩
        · have hl : (txt (putN N 2)).size = 2 := putN_len N 2 (by omega) (by omega)
          have hgp := get_put N 2 (by omega) (by omega) 120
          have hgp : getN ((⟨#[120]⟩ : ByteArray) ++ txt (putN N 2)) 1 2 = (N : Int) % 65536 := by rw [hgp]; rfl
          have htm : (N : Int).tmod 65536 = (N : Int) % 65536 := Int.tmod_eq_emod_of_nonneg (by omega)
          have hw : IntKind.i64.wrap (2 ^ min (IntKind.u64.wrap (IntKind.i64.wrap 16)).toNat 64) = 65536 := by decide
          have hsz : ((⟨#[120]⟩ : ByteArray) ++ txt (putN N 2)).size ≤ maxLen := by rw [ByteArray.size_append, hl]; decide
          have Hsz := Lib.hid hsz
          clear hsz
          generalize txt (putN N 2) = s at *
          go_wp2_with fail
          refine wp_region_held_drew (S := fun _ => True) (by kernel_rfl) trivial (fun _ => ?_)
          refine wpAnyH_take (i := 0) (v := ?_) rfl (by kernel_rfl) (by kernel_rfl) (by kernel_rfl) (fun _ _ _ h => h) ?_ trivial ?_
          rotate_left
          · first | (refine Or.inl ⟨by rfl, ?_⟩; intro w hSw; go_simp; done) | (refine Or.inl ⟨by rfl, ?_⟩; intro w hSw; go_simp; with_reducible rfl)
          try simp only [List.getElem_toArray, List.getElem_cons_zero, Act.put, List.setIfInBounds_toArray, List.set_cons_zero, List.set_cons_succ]
          refine wpAnyH_take (i := 1) (v := ?_) rfl (by kernel_rfl) (by kernel_rfl) (by kernel_rfl) (fun _ _ _ h => h) ?_ trivial ?_
          rotate_left
          · first | (refine Or.inl ⟨by rfl, ?_⟩; intro w hSw; go_simp; done) | (refine Or.inl ⟨by rfl, ?_⟩; intro w hSw; go_simp; with_reducible rfl)
          try simp only [List.getElem_toArray, List.getElem_cons_zero, List.getElem_cons_succ, Act.put, List.setIfInBounds_toArray, List.set_cons_zero, List.set_cons_succ]
          refine wpAnyH_take (i := 2) (v := ?_) rfl (by kernel_rfl) (by kernel_rfl) (by kernel_rfl) (fun _ _ _ h => h) ?_ trivial ?_
          rotate_left
          · first | (refine Or.inl ⟨by rfl, ?_⟩; intro w hSw; go_simp; done) | (refine Or.inl ⟨by rfl, ?_⟩; intro w hSw; go_simp; with_reducible rfl)
          try simp only [List.getElem_toArray, List.getElem_cons_zero, List.getElem_cons_succ, Act.put, List.setIfInBounds_toArray, List.set_cons_zero, List.set_cons_succ]
          refine wpAnyH_take (i := 3) (v := ?_) rfl (by kernel_rfl) (by kernel_rfl) (by kernel_rfl) (fun _ _ _ h => h) ?_ trivial ?_
          rotate_left
          · first | (refine Or.inl ⟨by rfl, ?_⟩; intro w hSw; go_simp; done) | (refine Or.inl ⟨by rfl, ?_⟩; intro w hSw; go_simp; with_reducible rfl)
          try simp only [List.getElem_toArray, List.getElem_cons_zero, List.getElem_cons_succ, Act.put, List.setIfInBounds_toArray, List.set_cons_zero, List.set_cons_succ]
          refine wpAnyH_take (i := 4) (v := ?_) rfl (by kernel_rfl) (by kernel_rfl) (by kernel_rfl) (fun _ _ _ h => h) ?_ trivial ?_
          rotate_left
          · first | (refine Or.inl ⟨by rfl, ?_⟩; intro w hSw; go_simp; done) | (refine Or.inl ⟨by rfl, ?_⟩; intro w hSw; go_simp; with_reducible rfl)
          try simp only [List.getElem_toArray, List.getElem_cons_zero, List.getElem_cons_succ, Act.put, List.setIfInBounds_toArray, List.set_cons_zero, List.set_cons_succ]
          refine wpAnyH_take (i := 5) (v := ?_) rfl (by kernel_rfl) (by kernel_rfl) (by kernel_rfl) (fun _ _ _ h => h) ?_ trivial ?_
          rotate_left
          · first | (refine Or.inl ⟨by rfl, ?_⟩; intro w hSw; go_simp; done) | (refine Or.inl ⟨by rfl, ?_⟩; intro w hSw; go_simp; with_reducible rfl)
          try simp only [List.getElem_toArray, List.getElem_cons_zero, List.getElem_cons_succ, Act.put, List.setIfInBounds_toArray, List.set_cons_zero, List.set_cons_succ]
          refine wpAnyH_take (i := 6) (v := ?_) rfl (by kernel_rfl) (by kernel_rfl) (by kernel_rfl) (fun _ _ _ h => h) ?_ trivial ?_
          rotate_left
          · first | (refine Or.inl ⟨by rfl, ?_⟩; intro w hSw; go_simp; done) | (refine Or.inl ⟨by rfl, ?_⟩; intro w hSw; go_simp; with_reducible rfl)
          try simp only [List.getElem_toArray, List.getElem_cons_zero, List.getElem_cons_succ, Act.put, List.setIfInBounds_toArray, List.set_cons_zero, List.set_cons_succ]
          refine wpAnyH_take (i := 7) (v := ?_) rfl (by kernel_rfl) (by kernel_rfl) (by kernel_rfl) (fun _ _ _ h => h) ?_ trivial ?_
          rotate_left
          · first | (refine Or.inl ⟨by rfl, ?_⟩; intro w hSw; go_simp; done) | (refine Or.inl ⟨by rfl, ?_⟩; intro w hSw; go_simp; with_reducible rfl)
          try simp only [List.getElem_toArray, List.getElem_cons_zero, List.getElem_cons_succ, Act.put, List.setIfInBounds_toArray, List.set_cons_zero, List.set_cons_succ]
          refine wpAnyH_take (i := 9) (v := ?_) rfl (by kernel_rfl) (by kernel_rfl) (by kernel_rfl) (fun _ _ _ h => h) ?_ trivial ?_
          rotate_left
          · first | (refine Or.inl ⟨by rfl, ?_⟩; intro w hSw; go_simp; done) | (refine Or.inl ⟨by rfl, ?_⟩; intro w hSw; go_simp; with_reducible rfl)
          try simp only [List.getElem_toArray, List.getElem_cons_zero, List.getElem_cons_succ, Act.put, List.setIfInBounds_toArray, List.set_cons_zero, List.set_cons_succ]
          refine wpAnyH_take (i := 10) (v := ?_) rfl (by kernel_rfl) (by kernel_rfl) (by kernel_rfl) (fun _ _ _ h => h) ?_ trivial ?_
          rotate_left
          · first | (refine Or.inl ⟨by rfl, ?_⟩; intro w hSw; go_simp; done) | (refine Or.inl ⟨by rfl, ?_⟩; intro w hSw; go_simp; with_reducible rfl)
          try simp only [List.getElem_toArray, List.getElem_cons_zero, List.getElem_cons_succ, Act.put, List.setIfInBounds_toArray, List.set_cons_zero, List.set_cons_succ]
          refine wpAnyH_take (i := 11) (v := ?_) rfl (by kernel_rfl) (by kernel_rfl) (by kernel_rfl) (fun _ _ _ h => h) ?_ trivial ?_
          rotate_left
          · first | (refine Or.inl ⟨by rfl, ?_⟩; intro w hSw; go_simp; done) | (refine Or.inl ⟨by rfl, ?_⟩; intro w hSw; go_simp; with_reducible rfl)
          try simp only [List.getElem_toArray, List.getElem_cons_zero, List.getElem_cons_succ, Act.put, List.setIfInBounds_toArray, List.set_cons_zero, List.set_cons_succ]
          refine wpAnyH_take (i := 12) (v := ?_) rfl (by kernel_rfl) (by kernel_rfl) (by kernel_rfl) (fun _ _ _ h => h) ?_ trivial ?_
          rotate_left
          · first | (refine Or.inl ⟨by rfl, ?_⟩; intro w hSw; go_simp; done) | (refine Or.inl ⟨by rfl, ?_⟩; intro w hSw; go_simp; with_reducible rfl)
          try simp only [List.getElem_toArray, List.getElem_cons_zero, List.getElem_cons_succ, Act.put, List.setIfInBounds_toArray, List.set_cons_zero, List.set_cons_succ]
          refine wpAnyH_take (i := 13) (v := ?_) rfl (by kernel_rfl) (by kernel_rfl) (by kernel_rfl) (fun _ _ _ h => h) ?_ trivial ?_
          rotate_left
          · first | (refine Or.inl ⟨by rfl, ?_⟩; intro w hSw; go_simp; done) | (refine Or.inl ⟨by rfl, ?_⟩; intro w hSw; go_simp; with_reducible rfl)
          try simp only [List.getElem_toArray, List.getElem_cons_zero, List.getElem_cons_succ, Act.put, List.setIfInBounds_toArray, List.set_cons_zero, List.set_cons_succ]
          refine wpAnyH_take (i := 14) (v := ?_) rfl (by kernel_rfl) (by kernel_rfl) (by kernel_rfl) (fun _ _ _ h => h) ?_ trivial ?_
          rotate_left
          · first | (refine Or.inl ⟨by rfl, ?_⟩; intro w hSw; go_simp; done) | (refine Or.inl ⟨by rfl, ?_⟩; intro w hSw; go_simp; with_reducible rfl)
          try simp only [List.getElem_toArray, List.getElem_cons_zero, List.getElem_cons_succ, Act.put, List.setIfInBounds_toArray, List.set_cons_zero, List.set_cons_succ]
          refine wpAnyH_ready (rs := [8]) (by kernel_rfl) (by simp) ?_
          refine AllReadyH.cons rfl (fun K hK => ?_) AllReadyH.nil
          go_simp
          (go_at_call 19; refine (impl_getNum _ _ _ (by omega) (by omega) _ Hsz.out).mono ?_; rintro e w' ⟨rfl, rfl⟩)
          go_wp2_with fail
          refine hK.out _ _ trivial (fun _ => ?_)
          clear hK K
          try simp only [List.getElem_toArray, List.getElem_cons_zero, List.getElem_cons_succ, Act.put, List.setIfInBounds_toArray, List.set_cons_zero, List.set_cons_succ]
          refine wpAnyH_take (i := 15) (v := ?_) rfl (by kernel_rfl) (by kernel_rfl) (by kernel_rfl) (fun _ _ _ h => h) ?_ trivial ?_
          rotate_left
          · first | (refine Or.inl ⟨by rfl, ?_⟩; intro w hSw; go_simp; done) | (refine Or.inl ⟨by rfl, ?_⟩; intro w hSw; go_simp; with_reducible rfl)
          try simp only [List.getElem_toArray, List.getElem_cons_zero, List.getElem_cons_succ, Act.put, List.setIfInBounds_toArray, List.set_cons_zero, List.set_cons_succ]
          refine wpAnyH_take (i := 16) (v := ?_) rfl (by kernel_rfl) (by kernel_rfl) (by kernel_rfl) (fun _ _ _ h => h) ?_ trivial ?_
          rotate_left
          · first | (refine Or.inl ⟨by rfl, ?_⟩; intro w hSw; go_simp; done) | (refine Or.inl ⟨by rfl, ?_⟩; intro w hSw; go_simp; with_reducible rfl)
          try simp only [List.getElem_toArray, List.getElem_cons_zero, List.getElem_cons_succ, Act.put, List.setIfInBounds_toArray, List.set_cons_zero, List.set_cons_succ]
          refine wpAnyH_take (i := 17) (v := ?_) rfl (by kernel_rfl) (by kernel_rfl) (by kernel_rfl) (fun _ _ _ h => h) ?_ trivial ?_
          rotate_left
          · first | (refine Or.inl ⟨by rfl, ?_⟩; intro w hSw; go_simp; done) | (refine Or.inl ⟨by rfl, ?_⟩; intro w hSw; go_simp; with_reducible rfl)
          try simp only [List.getElem_toArray, List.getElem_cons_zero, List.getElem_cons_succ, Act.put, List.setIfInBounds_toArray, List.set_cons_zero, List.set_cons_succ]
          refine wpAnyH_done (by kernel_rfl) ?_ _
          go_wp2_with fail
          go_ret
          exact ⟨rfl, hfin.drew⟩
        · have hl : (txt (putN N 3)).size = 3 := putN_len N 3 (by omega) (by omega)
          have hgp := get_put N 3 (by omega) (by omega) 120
          have hgp : getN ((⟨#[120]⟩ : ByteArray) ++ txt (putN N 3)) 1 3 = (N : Int) % 16777216 := by rw [hgp]; rfl
          have htm : (N : Int).tmod 16777216 = (N : Int) % 16777216 := Int.tmod_eq_emod_of_nonneg (by omega)
          have hw : IntKind.i64.wrap (2 ^ min (IntKind.u64.wrap (IntKind.i64.wrap 24)).toNat 64) = 16777216 := by decide
          have hsz : ((⟨#[120]⟩ : ByteArray) ++ txt (putN N 3)).size ≤ maxLen := by rw [ByteArray.size_append, hl]; decide
          have Hsz := Lib.hid hsz
          clear hsz
          generalize txt (putN N 3) = s at *
          go_wp2_with fail
          refine wp_region_held_drew (S := fun _ => True) (by kernel_rfl) trivial (fun _ => ?_)
          refine wpAnyH_take (i := 0) (v := ?_) rfl (by kernel_rfl) (by kernel_rfl) (by kernel_rfl) (fun _ _ _ h => h) ?_ trivial ?_
          rotate_left
          · first | (refine Or.inl ⟨by rfl, ?_⟩; intro w hSw; go_simp; done) | (refine Or.inl ⟨by rfl, ?_⟩; intro w hSw; go_simp; with_reducible rfl)
          try simp only [List.getElem_toArray, List.getElem_cons_zero, Act.put, List.setIfInBounds_toArray, List.set_cons_zero, List.set_cons_succ]
          refine wpAnyH_take (i := 1) (v := ?_) rfl (by kernel_rfl) (by kernel_rfl) (by kernel_rfl) (fun _ _ _ h => h) ?_ trivial ?_
          rotate_left
          · first | (refine Or.inl ⟨by rfl, ?_⟩; intro w hSw; go_simp; done) | (refine Or.inl ⟨by rfl, ?_⟩; intro w hSw; go_simp; with_reducible rfl)
          try simp only [List.getElem_toArray, List.getElem_cons_zero, List.getElem_cons_succ, Act.put, List.setIfInBounds_toArray, List.set_cons_zero, List.set_cons_succ]
          refine wpAnyH_take (i := 2) (v := ?_) rfl (by kernel_rfl) (by kernel_rfl) (by kernel_rfl) (fun _ _ _ h => h) ?_ trivial ?_
          rotate_left
          · first | (refine Or.inl ⟨by rfl, ?_⟩; intro w hSw; go_simp; done) | (refine Or.inl ⟨by rfl, ?_⟩; intro w hSw; go_simp; with_reducible rfl)
          try simp only [List.getElem_toArray, List.getElem_cons_zero, List.getElem_cons_succ, Act.put, List.setIfInBounds_toArray, List.set_cons_zero, List.set_cons_succ]
          refine wpAnyH_take (i := 3) (v := ?_) rfl (by kernel_rfl) (by kernel_rfl) (by kernel_rfl) (fun _ _ _ h => h) ?_ trivial ?_
          rotate_left
          · first | (refine Or.inl ⟨by rfl, ?_⟩; intro w hSw; go_simp; done) | (refine Or.inl ⟨by rfl, ?_⟩; intro w hSw; go_simp; with_reducible rfl)
          try simp only [List.getElem_toArray, List.getElem_cons_zero, List.getElem_cons_succ, Act.put, List.setIfInBounds_toArray, List.set_cons_zero, List.set_cons_succ]
          refine wpAnyH_take (i := 4) (v := ?_) rfl (by kernel_rfl) (by kernel_rfl) (by kernel_rfl) (fun _ _ _ h => h) ?_ trivial ?_
          rotate_left
          · first | (refine Or.inl ⟨by rfl, ?_⟩; intro w hSw; go_simp; done) | (refine Or.inl ⟨by rfl, ?_⟩; intro w hSw; go_simp; with_reducible rfl)
          try simp only [List.getElem_toArray, List.getElem_cons_zero, List.getElem_cons_succ, Act.put, List.setIfInBounds_toArray, List.set_cons_zero, List.set_cons_succ]
          refine wpAnyH_take (i := 5) (v := ?_) rfl (by kernel_rfl) (by kernel_rfl) (by kernel_rfl) (fun _ _ _ h => h) ?_ trivial ?_
          rotate_left
          · first | (refine Or.inl ⟨by rfl, ?_⟩; intro w hSw; go_simp; done) | (refine Or.inl ⟨by rfl, ?_⟩; intro w hSw; go_simp; with_reducible rfl)
          try simp only [List.getElem_toArray, List.getElem_cons_zero, List.getElem_cons_succ, Act.put, List.setIfInBounds_toArray, List.set_cons_zero, List.set_cons_succ]
          refine wpAnyH_take (i := 6) (v := ?_) rfl (by kernel_rfl) (by kernel_rfl) (by kernel_rfl) (fun _ _ _ h => h) ?_ trivial ?_
          rotate_left
          · first | (refine Or.inl ⟨by rfl, ?_⟩; intro w hSw; go_simp; done) | (refine Or.inl ⟨by rfl, ?_⟩; intro w hSw; go_simp; with_reducible rfl)
          try simp only [List.getElem_toArray, List.getElem_cons_zero, List.getElem_cons_succ, Act.put, List.setIfInBounds_toArray, List.set_cons_zero, List.set_cons_succ]
          refine wpAnyH_take (i := 7) (v := ?_) rfl (by kernel_rfl) (by kernel_rfl) (by kernel_rfl) (fun _ _ _ h => h) ?_ trivial ?_
          rotate_left
          · first | (refine Or.inl ⟨by rfl, ?_⟩; intro w hSw; go_simp; done) | (refine Or.inl ⟨by rfl, ?_⟩; intro w hSw; go_simp; with_reducible rfl)
          try simp only [List.getElem_toArray, List.getElem_cons_zero, List.getElem_cons_succ, Act.put, List.setIfInBounds_toArray, List.set_cons_zero, List.set_cons_succ]
          refine wpAnyH_take (i := 9) (v := ?_) rfl (by kernel_rfl) (by kernel_rfl) (by kernel_rfl) (fun _ _ _ h => h) ?_ trivial ?_
          rotate_left
          · first | (refine Or.inl ⟨by rfl, ?_⟩; intro w hSw; go_simp; done) | (refine Or.inl ⟨by rfl, ?_⟩; intro w hSw; go_simp; with_reducible rfl)
          try simp only [List.getElem_toArray, List.getElem_cons_zero, List.getElem_cons_succ, Act.put, List.setIfInBounds_toArray, List.set_cons_zero, List.set_cons_succ]
          refine wpAnyH_take (i := 10) (v := ?_) rfl (by kernel_rfl) (by kernel_rfl) (by kernel_rfl) (fun _ _ _ h => h) ?_ trivial ?_
          rotate_left
          · first | (refine Or.inl ⟨by rfl, ?_⟩; intro w hSw; go_simp; done) | (refine Or.inl ⟨by rfl, ?_⟩; intro w hSw; go_simp; with_reducible rfl)
          try simp only [List.getElem_toArray, List.getElem_cons_zero, List.getElem_cons_succ, Act.put, List.setIfInBounds_toArray, List.set_cons_zero, List.set_cons_succ]
          refine wpAnyH_take (i := 11) (v := ?_) rfl (by kernel_rfl) (by kernel_rfl) (by kernel_rfl) (fun _ _ _ h => h) ?_ trivial ?_
          rotate_left
          · first | (refine Or.inl ⟨by rfl, ?_⟩; intro w hSw; go_simp; done) | (refine Or.inl ⟨by rfl, ?_⟩; intro w hSw; go_simp; with_reducible rfl)
          try simp only [List.getElem_toArray, List.getElem_cons_zero, List.getElem_cons_succ, Act.put, List.setIfInBounds_toArray, List.set_cons_zero, List.set_cons_succ]
          refine wpAnyH_take (i := 12) (v := ?_) rfl (by kernel_rfl) (by kernel_rfl) (by kernel_rfl) (fun _ _ _ h => h) ?_ trivial ?_
          rotate_left
          · first | (refine Or.inl ⟨by rfl, ?_⟩; intro w hSw; go_simp; done) | (refine Or.inl ⟨by rfl, ?_⟩; intro w hSw; go_simp; with_reducible rfl)
          try simp only [List.getElem_toArray, List.getElem_cons_zero, List.getElem_cons_succ, Act.put, List.setIfInBounds_toArray, List.set_cons_zero, List.set_cons_succ]
          refine wpAnyH_take (i := 13) (v := ?_) rfl (by kernel_rfl) (by kernel_rfl) (by kernel_rfl) (fun _ _ _ h => h) ?_ trivial ?_
          rotate_left
          · first | (refine Or.inl ⟨by rfl, ?_⟩; intro w hSw; go_simp; done) | (refine Or.inl ⟨by rfl, ?_⟩; intro w hSw; go_simp; with_reducible rfl)
          try simp only [List.getElem_toArray, List.getElem_cons_zero, List.getElem_cons_succ, Act.put, List.setIfInBounds_toArray, List.set_cons_zero, List.set_cons_succ]
          refine wpAnyH_take (i := 14) (v := ?_) rfl (by kernel_rfl) (by kernel_rfl) (by kernel_rfl) (fun _ _ _ h => h) ?_ trivial ?_
          rotate_left
          · first | (refine Or.inl ⟨by rfl, ?_⟩; intro w hSw; go_simp; done) | (refine Or.inl ⟨by rfl, ?_⟩; intro w hSw; go_simp; with_reducible rfl)
          try simp only [List.getElem_toArray, List.getElem_cons_zero, List.getElem_cons_succ, Act.put, List.setIfInBounds_toArray, List.set_cons_zero, List.set_cons_succ]
          refine wpAnyH_ready (rs := [8]) (by kernel_rfl) (by simp) ?_
          refine AllReadyH.cons rfl (fun K hK => ?_) AllReadyH.nil
          go_simp
          (go_at_call 19; refine (impl_getNum _ _ _ (by omega) (by omega) _ Hsz.out).mono ?_; rintro e w' ⟨rfl, rfl⟩)
          go_wp2_with fail
          refine hK.out _ _ trivial (fun _ => ?_)
          clear hK K
          try simp only [List.getElem_toArray, List.getElem_cons_zero, List.getElem_cons_succ, Act.put, List.setIfInBounds_toArray, List.set_cons_zero, List.set_cons_succ]
          refine wpAnyH_take (i := 15) (v := ?_) rfl (by kernel_rfl) (by kernel_rfl) (by kernel_rfl) (fun _ _ _ h => h) ?_ trivial ?_
          rotate_left
          · first | (refine Or.inl ⟨by rfl, ?_⟩; intro w hSw; go_simp; done) | (refine Or.inl ⟨by rfl, ?_⟩; intro w hSw; go_simp; with_reducible rfl)
          try simp only [List.getElem_toArray, List.getElem_cons_zero, List.getElem_cons_succ, Act.put, List.setIfInBounds_toArray, List.set_cons_zero, List.set_cons_succ]
          refine wpAnyH_take (i := 16) (v := ?_) rfl (by kernel_rfl) (by kernel_rfl) (by kernel_rfl) (fun _ _ _ h => h) ?_ trivial ?_
          rotate_left
          · first | (refine Or.inl ⟨by rfl, ?_⟩; intro w hSw; go_simp; done) | (refine Or.inl ⟨by rfl, ?_⟩; intro w hSw; go_simp; with_reducible rfl)
          try simp only [List.getElem_toArray, List.getElem_cons_zero, List.getElem_cons_succ, Act.put, List.setIfInBounds_toArray, List.set_cons_zero, List.set_cons_succ]
          refine wpAnyH_take (i := 17) (v := ?_) rfl (by kernel_rfl) (by kernel_rfl) (by kernel_rfl) (fun _ _ _ h => h) ?_ trivial ?_
          rotate_left
          · first | (refine Or.inl ⟨by rfl, ?_⟩; intro w hSw; go_simp; done) | (refine Or.inl ⟨by rfl, ?_⟩; intro w hSw; go_simp; with_reducible rfl)
          try simp only [List.getElem_toArray, List.getElem_cons_zero, List.getElem_cons_succ, Act.put, List.setIfInBounds_toArray, List.set_cons_zero, List.set_cons_succ]
          refine wpAnyH_done (by kernel_rfl) ?_ _
          go_wp2_with fail
          go_ret
          exact ⟨rfl, hfin.drew⟩
        · have hl : (txt (putN N 4)).size = 4 := putN_len N 4 (by omega) (by omega)
          have hgp := get_put N 4 (by omega) (by omega) 120
          have hgp : getN ((⟨#[120]⟩ : ByteArray) ++ txt (putN N 4)) 1 4 = (N : Int) % 4294967296 := by rw [hgp]; rfl
          have htm : (N : Int).tmod 4294967296 = (N : Int) % 4294967296 := Int.tmod_eq_emod_of_nonneg (by omega)
          have hw : IntKind.i64.wrap (2 ^ min (IntKind.u64.wrap (IntKind.i64.wrap 32)).toNat 64) = 4294967296 := by decide
          have hsz : ((⟨#[120]⟩ : ByteArray) ++ txt (putN N 4)).size ≤ maxLen := by rw [ByteArray.size_append, hl]; decide
          have Hsz := Lib.hid hsz
          clear hsz
          generalize txt (putN N 4) = s at *
          go_wp2_with fail
          refine wp_region_held_drew (S := fun _ => True) (by kernel_rfl) trivial (fun _ => ?_)
          refine wpAnyH_take (i := 0) (v := ?_) rfl (by kernel_rfl) (by kernel_rfl) (by kernel_rfl) (fun _ _ _ h => h) ?_ trivial ?_
          rotate_left
          · first | (refine Or.inl ⟨by rfl, ?_⟩; intro w hSw; go_simp; done) | (refine Or.inl ⟨by rfl, ?_⟩; intro w hSw; go_simp; with_reducible rfl)
          try simp only [List.getElem_toArray, List.getElem_cons_zero, Act.put, List.setIfInBounds_toArray, List.set_cons_zero, List.set_cons_succ]
          refine wpAnyH_take (i := 1) (v := ?_) rfl (by kernel_rfl) (by kernel_rfl) (by kernel_rfl) (fun _ _ _ h => h) ?_ trivial ?_
          rotate_left
          · first | (refine Or.inl ⟨by rfl, ?_⟩; intro w hSw; go_simp; done) | (refine Or.inl ⟨by rfl, ?_⟩; intro w hSw; go_simp; with_reducible rfl)
          try simp only [List.getElem_toArray, List.getElem_cons_zero, List.getElem_cons_succ, Act.put, List.setIfInBounds_toArray, List.set_cons_zero, List.set_cons_succ]
          refine wpAnyH_take (i := 2) (v := ?_) rfl (by kernel_rfl) (by kernel_rfl) (by kernel_rfl) (fun _ _ _ h => h) ?_ trivial ?_
          rotate_left
          · first | (refine Or.inl ⟨by rfl, ?_⟩; intro w hSw; go_simp; done) | (refine Or.inl ⟨by rfl, ?_⟩; intro w hSw; go_simp; with_reducible rfl)
          try simp only [List.getElem_toArray, List.getElem_cons_zero, List.getElem_cons_succ, Act.put, List.setIfInBounds_toArray, List.set_cons_zero, List.set_cons_succ]
          refine wpAnyH_take (i := 3) (v := ?_) rfl (by kernel_rfl) (by kernel_rfl) (by kernel_rfl) (fun _ _ _ h => h) ?_ trivial ?_
          rotate_left
          · first | (refine Or.inl ⟨by rfl, ?_⟩; intro w hSw; go_simp; done) | (refine Or.inl ⟨by rfl, ?_⟩; intro w hSw; go_simp; with_reducible rfl)
          try simp only [List.getElem_toArray, List.getElem_cons_zero, List.getElem_cons_succ, Act.put, List.setIfInBounds_toArray, List.set_cons_zero, List.set_cons_succ]
          refine wpAnyH_take (i := 4) (v := ?_) rfl (by kernel_rfl) (by kernel_rfl) (by kernel_rfl) (fun _ _ _ h => h) ?_ trivial ?_
          rotate_left
          · first | (refine Or.inl ⟨by rfl, ?_⟩; intro w hSw; go_simp; done) | (refine Or.inl ⟨by rfl, ?_⟩; intro w hSw; go_simp; with_reducible rfl)
          try simp only [List.getElem_toArray, List.getElem_cons_zero, List.getElem_cons_succ, Act.put, List.setIfInBounds_toArray, List.set_cons_zero, List.set_cons_succ]
          refine wpAnyH_take (i := 5) (v := ?_) rfl (by kernel_rfl) (by kernel_rfl) (by kernel_rfl) (fun _ _ _ h => h) ?_ trivial ?_
          rotate_left
          · first | (refine Or.inl ⟨by rfl, ?_⟩; intro w hSw; go_simp; done) | (refine Or.inl ⟨by rfl, ?_⟩; intro w hSw; go_simp; with_reducible rfl)
          try simp only [List.getElem_toArray, List.getElem_cons_zero, List.getElem_cons_succ, Act.put, List.setIfInBounds_toArray, List.set_cons_zero, List.set_cons_succ]
          refine wpAnyH_take (i := 6) (v := ?_) rfl (by kernel_rfl) (by kernel_rfl) (by kernel_rfl) (fun _ _ _ h => h) ?_ trivial ?_
          rotate_left
          · first | (refine Or.inl ⟨by rfl, ?_⟩; intro w hSw; go_simp; done) | (refine Or.inl ⟨by rfl, ?_⟩; intro w hSw; go_simp; with_reducible rfl)
          try simp only [List.getElem_toArray, List.getElem_cons_zero, List.getElem_cons_succ, Act.put, List.setIfInBounds_toArray, List.set_cons_zero, List.set_cons_succ]
          refine wpAnyH_take (i := 7) (v := ?_) rfl (by kernel_rfl) (by kernel_rfl) (by kernel_rfl) (fun _ _ _ h => h) ?_ trivial ?_
          rotate_left
          · first | (refine Or.inl ⟨by rfl, ?_⟩; intro w hSw; go_simp; done) | (refine Or.inl ⟨by rfl, ?_⟩; intro w hSw; go_simp; with_reducible rfl)
          try simp only [List.getElem_toArray, List.getElem_cons_zero, List.getElem_cons_succ, Act.put, List.setIfInBounds_toArray, List.set_cons_zero, List.set_cons_succ]
          refine wpAnyH_take (i := 9) (v := ?_) rfl (by kernel_rfl) (by kernel_rfl) (by kernel_rfl) (fun _ _ _ h => h) ?_ trivial ?_
          rotate_left
          · first | (refine Or.inl ⟨by rfl, ?_⟩; intro w hSw; go_simp; done) | (refine Or.inl ⟨by rfl, ?_⟩; intro w hSw; go_simp; with_reducible rfl)
          try simp only [List.getElem_toArray, List.getElem_cons_zero, List.getElem_cons_succ, Act.put, List.setIfInBounds_toArray, List.set_cons_zero, List.set_cons_succ]
          refine wpAnyH_take (i := 10) (v := ?_) rfl (by kernel_rfl) (by kernel_rfl) (by kernel_rfl) (fun _ _ _ h => h) ?_ trivial ?_
          rotate_left
          · first | (refine Or.inl ⟨by rfl, ?_⟩; intro w hSw; go_simp; done) | (refine Or.inl ⟨by rfl, ?_⟩; intro w hSw; go_simp; with_reducible rfl)
          try simp only [List.getElem_toArray, List.getElem_cons_zero, List.getElem_cons_succ, Act.put, List.setIfInBounds_toArray, List.set_cons_zero, List.set_cons_succ]
          refine wpAnyH_take (i := 11) (v := ?_) rfl (by kernel_rfl) (by kernel_rfl) (by kernel_rfl) (fun _ _ _ h => h) ?_ trivial ?_
          rotate_left
          · first | (refine Or.inl ⟨by rfl, ?_⟩; intro w hSw; go_simp; done) | (refine Or.inl ⟨by rfl, ?_⟩; intro w hSw; go_simp; with_reducible rfl)
          try simp only [List.getElem_toArray, List.getElem_cons_zero, List.getElem_cons_succ, Act.put, List.setIfInBounds_toArray, List.set_cons_zero, List.set_cons_succ]
          refine wpAnyH_take (i := 12) (v := ?_) rfl (by kernel_rfl) (by kernel_rfl) (by kernel_rfl) (fun _ _ _ h => h) ?_ trivial ?_
          rotate_left
          · first | (refine Or.inl ⟨by rfl, ?_⟩; intro w hSw; go_simp; done) | (refine Or.inl ⟨by rfl, ?_⟩; intro w hSw; go_simp; with_reducible rfl)
          try simp only [List.getElem_toArray, List.getElem_cons_zero, List.getElem_cons_succ, Act.put, List.setIfInBounds_toArray, List.set_cons_zero, List.set_cons_succ]
          refine wpAnyH_take (i := 13) (v := ?_) rfl (by kernel_rfl) (by kernel_rfl) (by kernel_rfl) (fun _ _ _ h => h) ?_ trivial ?_
          rotate_left
          · first | (refine Or.inl ⟨by rfl, ?_⟩; intro w hSw; go_simp; done) | (refine Or.inl ⟨by rfl, ?_⟩; intro w hSw; go_simp; with_reducible rfl)
          try simp only [List.getElem_toArray, List.getElem_cons_zero, List.getElem_cons_succ, Act.put, List.setIfInBounds_toArray, List.set_cons_zero, List.set_cons_succ]
          refine wpAnyH_take (i := 14) (v := ?_) rfl (by kernel_rfl) (by kernel_rfl) (by kernel_rfl) (fun _ _ _ h => h) ?_ trivial ?_
          rotate_left
          · first | (refine Or.inl ⟨by rfl, ?_⟩; intro w hSw; go_simp; done) | (refine Or.inl ⟨by rfl, ?_⟩; intro w hSw; go_simp; with_reducible rfl)
          try simp only [List.getElem_toArray, List.getElem_cons_zero, List.getElem_cons_succ, Act.put, List.setIfInBounds_toArray, List.set_cons_zero, List.set_cons_succ]
          refine wpAnyH_ready (rs := [8]) (by kernel_rfl) (by simp) ?_
          refine AllReadyH.cons rfl (fun K hK => ?_) AllReadyH.nil
          go_simp
          (go_at_call 19; refine (impl_getNum _ _ _ (by omega) (by omega) _ Hsz.out).mono ?_; rintro e w' ⟨rfl, rfl⟩)
          go_wp2_with fail
          refine hK.out _ _ trivial (fun _ => ?_)
          clear hK K
          try simp only [List.getElem_toArray, List.getElem_cons_zero, List.getElem_cons_succ, Act.put, List.setIfInBounds_toArray, List.set_cons_zero, List.set_cons_succ]
          refine wpAnyH_take (i := 15) (v := ?_) rfl (by kernel_rfl) (by kernel_rfl) (by kernel_rfl) (fun _ _ _ h => h) ?_ trivial ?_
          rotate_left
          · first | (refine Or.inl ⟨by rfl, ?_⟩; intro w hSw; go_simp; done) | (refine Or.inl ⟨by rfl, ?_⟩; intro w hSw; go_simp; with_reducible rfl)
          try simp only [List.getElem_toArray, List.getElem_cons_zero, List.getElem_cons_succ, Act.put, List.setIfInBounds_toArray, List.set_cons_zero, List.set_cons_succ]
          refine wpAnyH_take (i := 16) (v := ?_) rfl (by kernel_rfl) (by kernel_rfl) (by kernel_rfl) (fun _ _ _ h => h) ?_ trivial ?_
          rotate_left
          · first | (refine Or.inl ⟨by rfl, ?_⟩; intro w hSw; go_simp; done) | (refine Or.inl ⟨by rfl, ?_⟩; intro w hSw; go_simp; with_reducible rfl)
          try simp only [List.getElem_toArray, List.getElem_cons_zero, List.getElem_cons_succ, Act.put, List.setIfInBounds_toArray, List.set_cons_zero, List.set_cons_succ]
          refine wpAnyH_take (i := 17) (v := ?_) rfl (by kernel_rfl) (by kernel_rfl) (by kernel_rfl) (fun _ _ _ h => h) ?_ trivial ?_
          rotate_left
          · first | (refine Or.inl ⟨by rfl, ?_⟩; intro w hSw; go_simp; done) | (refine Or.inl ⟨by rfl, ?_⟩; intro w hSw; go_simp; with_reducible rfl)
          try simp only [List.getElem_toArray, List.getElem_cons_zero, List.getElem_cons_succ, Act.put, List.setIfInBounds_toArray, List.set_cons_zero, List.set_cons_succ]
          refine wpAnyH_done (by kernel_rfl) ?_ _
          go_wp2_with fail
          go_ret
          exact ⟨rfl, hfin.drew⟩
end Go.Proofs.Ytjgbbepfghblnaa
