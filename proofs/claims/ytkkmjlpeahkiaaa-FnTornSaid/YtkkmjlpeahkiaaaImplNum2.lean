/- What impl.GetNum answers at every argument. Condition: none beyond what the arguments may be. -/
import Derived.Test.YtkkmjlpeahkiaaaImplNum
import Derived.Test.YtkkmjlpeahkiaaaBits64
namespace Go.Proofs.Ytkkmjlpeahkiaaa
open Go.RowKit
set_option linter.unusedVariables false

set_option maxHeartbeats 400000 in
theorem impl_getNum (s : ByteArray) (p b : Int) (hp : -9223372036854775808 ≤ p ∧ p ≤ 9223372036854775807) (hb : -9223372036854775808 ≤ b ∧ b ≤ 9223372036854775807) (w : World) (hs : s.size ≤ maxLen) :
    Calls Try.prog 88 #[.string s, .int .i64 p, .int .i64 b] w fun e w' => e = .returned (.int .i64 (getN s p b)) ∧ w = w' := by
  unfold maxLen at hs
  by_cases hout : b < 1 ∨ 4 < b
  · have hin : inB b 1 4 = false := by simp [inB]; omega
    have hv : Hid (getN s p b = -1) := Lib.hid (by unfold getN; rw [if_pos (by omega)])
    go_enter Try.func88, Try.ntmps88
    go_wp2_with (go_at_call 82; refine (impl_bytesOk _ (by omega) _).mono ?_; rintro e w' ⟨rfl, rfl⟩)
    go_ret
    exact ⟨ret_int (by rw [hv.out]), rfl⟩
  · have hin : inB b 1 4 = true := by simp [inB]; omega
    by_cases hpn : p < 0
    · have hv : Hid (getN s p b = -1) := Lib.hid (by unfold getN; rw [if_pos (by omega)])
      go_enter Try.func88, Try.ntmps88
      go_wp2_with (go_at_call 82; refine (impl_bytesOk _ (by omega) _).mono ?_; rintro e w' ⟨rfl, rfl⟩)
      go_ret
      exact ⟨ret_int (by rw [hv.out]), rfl⟩
    · by_cases hend : (s.size : Int) - b < p
      · have hv : Hid (getN s p b = -1) := Lib.hid (by unfold getN; rw [if_pos (by omega)])
        go_enter Try.func88, Try.ntmps88
        go_wp2_with (go_at_call 82; refine (impl_bytesOk _ (by omega) _).mono ?_; rintro e w' ⟨rfl, rfl⟩)
        go_ret
        exact ⟨ret_int (by rw [hv.out]), rfl⟩
      · obtain ⟨P, rfl⟩ := Int.eq_ofNat_of_zero_le (show 0 ≤ p by omega)
        obtain ⟨B, rfl⟩ := Int.eq_ofNat_of_zero_le (show 0 ≤ b by omega)
        have hv : Hid (getN s P B = beN ((s.data.toList.drop P).take B)) := Lib.hid (by unfold getN; rw [if_neg (by omega)]; rfl)
        go_enter Try.func88, Try.ntmps88
        go_wp2_with (go_at_call 82; refine (impl_bytesOk _ (by omega) _).mono ?_; rintro e w' ⟨rfl, rfl⟩)
        go_loop [7, 25] (fun n i => ∃ k X : Nat, k ≤ B ∧ i = .int .i64 k ∧ n = .int .i64 X ∧ X < 256 ^ k ∧ Hid (X = beN ((s.data.toList.drop P).take k))) (fun _ i => B - (intOf i).toNat)
        case atStart => exact ⟨0, 0, Nat.zero_le _, rfl, rfl, by omega, Lib.hid (by simp [beN])⟩
        case round =>
          obtain ⟨k, X, hk, rfl, rfl, hX, HX⟩ := hrel
          by_cases hlt : k < B
          · have hk4 : X < 16777216 := by
              have h3 : 256 ^ k ≤ 256 ^ 3 := Nat.pow_le_pow_right (by decide) (by omega)
              omega
            have hc : s[P + k].toNat < 256 := s[P + k].toNat_lt
            have hX' : X * 256 + s[P + k].toNat < 256 ^ (k + 1) := by rw [Nat.pow_succ]; omega
            have hst : Hid (X * 256 + s[P + k].toNat = beN ((s.data.toList.drop P).take (k + 1))) := Lib.hid (by rw [drop_snoc s P k (by omega), beN_snoc, ← HX.out])
            have hor := Lib.hid (i64_join8 X s[P + k].toNat (by omega) hc)
            go_wp2
            go_round
            case rel => exact ⟨k + 1, X * 256 + s[P + k].toNat, by omega, by go_num, by rw [hor.out], hX', hst⟩
            case measure => simp [intOf]; omega
          · obtain rfl : k = B := by omega
            go_wp2
            go_ret
            exact ⟨ret_int (by rw [hv.out, ← HX.out]), rfl⟩
end Go.Proofs.Ytkkmjlpeahkiaaa
