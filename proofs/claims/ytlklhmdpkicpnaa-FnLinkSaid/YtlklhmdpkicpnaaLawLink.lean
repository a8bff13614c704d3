/- The law FnLink: what a chain becomes hangs on what it was, and on the bytes. Condition: none. -/
import Derived.Test.YtlklhmdpkicpnaaBaseA
import Derived.Test.YtlklhmdpkicpnaaCurA
import Derived.Test.YtlklhmdpkicpnaaDrawCut
import Derived.Test.YtlklhmdpkicpnaaImplPc
import Derived.BigQuiet
import Derived.Deep.QuietTactic
namespace Go.Proofs.Ytlklhmdpkicpnaa
open Go.RowKit
set_option linter.unusedVariables false
set_option linter.unusedSimpArgs false

set_option maxRecDepth 100000 in
set_option maxHeartbeats 8000000 in
theorem law_linkU (a : Option Addr) (len cap : Nat) (zs : List Int) (w : World) (hr : IsRow .u8 w a len cap zs) :
    Calls Try.prog 5 #[.slice a len cap] w fun e w' => e = .returned (.bool true) ∧ Below w.heap.size w w' := by
  have hr := row8_of hr
  by_cases hbig : 1048576 < len
  · have hd : decide (1048576 < len) = true := by simpa using hbig
    go_enter Try.func5, Try.ntmps5
    go_wp2_with (go_at_call 17; refine (big_any _ _ _ _).mono ?_; rintro e w' ⟨rfl, rfl⟩)
    go_ret
    exact ⟨rfl, Below.refl _ _⟩
  have hd : decide (1048576 < len) = false := by simpa using hbig
  have hlen : len ≤ 1048576 := by omega
  have Hr8 := Lib.hid hr
  have BB : Hid (Below w.heap.size w w) := Lib.hid (Below.refl _ _)
  go_enter Try.func5, Try.ntmps5
  go_wp2_with (go_at_call 17; refine (big_any _ _ _ _).mono ?_; rintro e w' ⟨rfl, rfl⟩; refine Hid.out ?_)
  refine Lib.hid ?_
  clear hd hbig hr
  have hc := drawLink_any a len cap zs w Hr8.out hlen
  go_wp2_with (go_at_call 32; refine hc.mono ?_; rintro e w1 ⟨n, s, rfl, hn, hs, hb⟩; refine Hid.out ?_)
  refine Lib.hid ?_
  replace BB := Lib.hid hb
  clear hb hc
  obtain ⟨K, hK⟩ : ∃ K, K = linkN n s := ⟨_, rfl⟩
  have HK := Lib.hid hK
  have hKb := link_lt n s
  rw [← hK] at hKb
  clear hK
  have hz1 : (s ++ (⟨#[97]⟩ : ByteArray)).size ≤ 7 := by rw [ByteArray.size_append]; show s.size + 1 ≤ 7; omega
  have hz2 : (s ++ (⟨#[98]⟩ : ByteArray)).size ≤ 7 := by rw [ByteArray.size_append]; show s.size + 1 ≤ 7; omega
  have hz3 : ((⟨#[0, 0, 0, 5]⟩ : ByteArray) ++ s).size ≤ 10 := by rw [ByteArray.size_append]; show 4 + s.size ≤ 10; omega
  obtain ⟨A, hA⟩ : ∃ A, A = linkN n (s ++ (⟨#[97]⟩ : ByteArray)) := ⟨_, rfl⟩
  obtain ⟨B, hB⟩ : ∃ B, B = linkN n (s ++ (⟨#[98]⟩ : ByteArray)) := ⟨_, rfl⟩
  have hAB : A ≠ B := by rw [hA, hB]; exact link_last n s (by decide)
  have HA := Lib.hid hA
  have HB := Lib.hid hB
  obtain ⟨F, hF⟩ : ∃ F, F = linkN 5 s := ⟨_, rfl⟩
  have HF := Lib.hid hF
  have HF2 : Hid (hashN ((⟨#[0, 0, 0, 5]⟩ : ByteArray) ++ s).data.toList = F) := Lib.hid (by rw [hF]; exact (link_five s).symm)
  clear hA hB hF
  have e1 : ((K : Int) == (K : Int)) = true := by simp
  have e2 : decide ((0 : Int) ≤ (K : Int)) = true := by simp
  have e3 : decide ((K : Int) ≤ 4294967295) = true := by simp; omega
  have e4 : ((A : Int) == (B : Int)) = false := by rw [beq_eq_false_iff_ne]; intro h; exact hAB (by omega)
  have e4' : ((A : Int) != (B : Int)) = true := by rw [bne_iff_ne]; intro h; exact hAB (by omega)
  have e5 : ((F : Int) == (F : Int)) = true := by simp
  clear hAB hKb
  have hc := impl_link n s w1 hn (by omega)
  rw [← HK.out] at hc
  go_wp2_with (go_at_call 31; refine hc.mono ?_; rintro e w2 ⟨rfl, hb⟩; refine Hid.out ?_)
  refine Lib.hid ?_
  replace BB := tbt BB hb
  clear hc hb 
  have hc := spec_link n s w2 hn (by omega)
  rw [← HK.out] at hc
  go_wp2_with (go_at_call 33; refine hc.mono ?_; rintro e w3 ⟨rfl, hb⟩; refine Hid.out ?_)
  refine Lib.hid ?_
  replace BB := tbt BB hb
  clear hc hb 
  by_cases h0 : n < 0
  · have d0 : decide (n < 0) = true := by simpa using h0
    have hc := impl_link 5 s w3 (by omega) (by omega)
    rw [← HF.out] at hc
    go_wp2_with (go_at_call 31; refine hc.mono ?_; rintro e v1 ⟨rfl, hb⟩; refine Hid.out ?_)
    refine Lib.hid ?_
    replace BB := tbt BB hb
    clear hc hb 
    have hc := impl_hash (⟨#[0, 0, 0, 5]⟩ ++ s) v1 (by unfold maxLen; omega)
    rw [HF2.out] at hc
    go_wp2_with (go_at_call 30; refine hc.mono ?_; rintro e v2 ⟨rfl, rfl⟩; refine Hid.out ?_)
    refine Lib.hid ?_
    clear hc
    go_wp2_with fail
    go_ret
    exact ⟨rfl, BB.out⟩
  · have d0 : decide (n < 0) = false := by simpa using h0
    have hc := impl_link n (s ++ ⟨#[97]⟩) w3 hn (by omega)
    rw [← HA.out] at hc
    go_wp2_with (go_at_call 31; refine hc.mono ?_; rintro e w4 ⟨rfl, hb⟩; refine Hid.out ?_)
    refine Lib.hid ?_
    replace BB := tbt BB hb
    clear hc hb 
    have hc := impl_link n (s ++ ⟨#[98]⟩) w4 hn (by omega)
    rw [← HB.out] at hc
    go_wp2_with (go_at_call 31; refine hc.mono ?_; rintro e w5 ⟨rfl, hb⟩; refine Hid.out ?_)
    refine Lib.hid ?_
    replace BB := tbt BB hb
    clear hc hb 
    have hc := impl_link 5 s w5 (by omega) (by omega)
    rw [← HF.out] at hc
    go_wp2_with (go_at_call 31; refine hc.mono ?_; rintro e v1 ⟨rfl, hb⟩; refine Hid.out ?_)
    refine Lib.hid ?_
    replace BB := tbt BB hb
    clear hc hb 
    have hc := impl_hash (⟨#[0, 0, 0, 5]⟩ ++ s) v1 (by unfold maxLen; omega)
    rw [HF2.out] at hc
    go_wp2_with (go_at_call 30; refine hc.mono ?_; rintro e v2 ⟨rfl, rfl⟩; refine Hid.out ?_)
    refine Lib.hid ?_
    clear hc
    go_wp2_with fail
    go_ret
    exact ⟨rfl, BB.out⟩
end Go.Proofs.Ytlklhmdpkicpnaa
