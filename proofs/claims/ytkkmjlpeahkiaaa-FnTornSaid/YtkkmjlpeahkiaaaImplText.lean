/- What impl.PutText and impl.GetText answer. Condition: a text of at most 2^40 bytes. -/
import Derived.Test.YtkkmjlpeahkiaaaImplNum2
import Derived.Test.YtkkmjlpeahkiaaaTextNum
namespace Go.Proofs.Ytkkmjlpeahkiaaa
open Go.RowKit
set_option linter.unusedVariables false

theorem impl_putText (s : ByteArray) (w : World) (hs : s.size ≤ 1099511627776) :
    Calls Try.prog 58 #[.string s] w fun e w' => e = .returned (.string (putTextB s)) ∧ Below w.heap.size w w' := by
  by_cases h : 65535 < (s.size : Int)
  · have hv : Hid ((⟨#[]⟩ : ByteArray) = putTextB s) := Lib.hid (by unfold putTextB; rw [if_pos (by omega)])
    go_enter Try.func58, Try.ntmps58
    go_wp2_with fail
    go_ret
    exact ⟨ret_txt hv.out, Below.refl _ _⟩
  · have hv : Hid (txt (putN s.size 2) ++ s = putTextB s) := Lib.hid (by unfold putTextB; rw [if_neg (by omega)])
    have hz := putN_size s.size
    go_enter Try.func58, Try.ntmps58
    go_wp2_with (go_at_call 75; refine (impl_putNum _ _ (by omega) (by omega) _).mono ?_; rintro e w1 ⟨rfl, hb⟩)
    go_ret
    exact ⟨ret_txt hv.out, hb⟩

theorem extract_tail (s : ByteArray) (a n : Nat) (h : a + n ≤ s.size) : (s.extract a s.size).extract 0 n = s.extract a (a + n) := by
  apply ByteArray.ext
  simp [ByteArray.data_extract, Array.extract_extract]
  rw [Nat.min_eq_left h]

set_option maxHeartbeats 400000 in
theorem impl_getText (s : ByteArray) (p : Int) (hp : -9223372036854775808 ≤ p ∧ p ≤ 9223372036854775807) (w : World) (hs : s.size ≤ 1099511627776) :
    Calls Try.prog 86 #[.string s, .int .i64 p] w fun e w' => e = .returned (.tuple #[.string (getTextB s p).1, .int .i64 (getTextB s p).2]) ∧ w = w' := by
  have h0 := getN_lo s p 2
  have h1 := getN_hi s p 2
  by_cases hn : getN s p 2 < 0
  · have hv : Hid (((⟨#[]⟩ : ByteArray), (-1 : Int)) = getTextB s p) := Lib.hid (by unfold getTextB; rw [if_pos (by omega)])
    go_enter Try.func86, Try.ntmps86
    go_wp2_with (go_at_call 88; refine (impl_getNum _ _ _ (by omega) (by omega) _ (by unfold maxLen; omega)).mono ?_; rintro e w1 ⟨rfl, rfl⟩)
    go_ret2
    exact ⟨ret_txtint hv.out, rfl⟩
  · obtain ⟨hp0, hp1, _, _⟩ := getN_in hn
    obtain ⟨L, hL⟩ := Int.eq_ofNat_of_zero_le (show 0 ≤ getN s p 2 by omega)
    obtain ⟨P, rfl⟩ := Int.eq_ofNat_of_zero_le hp0
    have hsz : (s.extract (P + 2) s.size).size = s.size - (P + 2) := by simp
    by_cases hl : (s.size : Int) < P + 2 + L
    · have hv : Hid (((⟨#[]⟩ : ByteArray), (-1 : Int)) = getTextB s P) := Lib.hid (by unfold getTextB; rw [if_pos (by omega)])
      go_enter Try.func86, Try.ntmps86
      go_wp2_with (go_at_call 88; refine (impl_getNum _ _ _ (by omega) (by omega) _ (by unfold maxLen; omega)).mono ?_; rintro e w1 ⟨rfl, rfl⟩)
      go_ret2
      exact ⟨ret_txtint hv.out, rfl⟩
    · have hv : Hid (((s.extract (P + 2) s.size).extract 0 L, ((P + 2 + L : Nat) : Int)) = getTextB s P) := Lib.hid (by
        rw [extract_tail _ _ _ (by omega)]
        unfold getTextB; rw [if_neg (by omega), hL]
        have e1 : ((P : Int) + 2).toNat = P + 2 := by omega
        have e2 : ((P : Int) + 2 + (L : Int)).toNat = P + 2 + L := by omega
        have e3 : ((P + 2 + L : Nat) : Int) = (P : Int) + 2 + (L : Int) := by omega
        rw [e1, e2, e3])
      go_enter Try.func86, Try.ntmps86
      go_wp2_with (go_at_call 88; refine (impl_getNum _ _ _ (by omega) (by omega) _ (by unfold maxLen; omega)).mono ?_; rintro e w1 ⟨rfl, rfl⟩)
      go_ret2
      exact ⟨ret_txtint hv.out, rfl⟩
end Go.Proofs.Ytkkmjlpeahkiaaa
