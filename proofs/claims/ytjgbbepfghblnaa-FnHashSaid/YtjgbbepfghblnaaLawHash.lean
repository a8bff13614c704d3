/- The law FnHash: a hash is of 32 bits, and goes on from the one ahead, byte by byte; both sides have the same checksum. Condition: none. -/
import Derived.Test.YtjgbbepfghblnaaBig
import Derived.Test.YtjgbbepfghblnaaDraw2b
import Derived.Test.YtjgbbepfghblnaaImplHash
import Derived.Test.YtjgbbepfghblnaaImplSeal
import Derived.Test.YtjgbbepfghblnaaBits64
import Derived.Deep.RegionHeld3
namespace Go.Proofs.Ytjgbbepfghblnaa
open Go.RowKit
set_option linter.unusedVariables false

theorem hash_i64 (x A : Nat) (b : UInt8) (hA : A = x ^^^ b.toNat) (hlt : A < 4294967296) : bits .and .i64 ((A : Int) * 16777619) 4294967295 = (hashOn x b : Int) := by
  have h := i64_and_nat (A * 16777619) 4294967295 (by omega) (by decide)
  rw [Int.natCast_mul, show ((4294967295 : Nat) : Int) = 4294967295 from rfl, show ((16777619 : Nat) : Int) = 16777619 from rfl] at h
  rw [h, hA]
  unfold hashOn
  rw [show (4294967295 : Nat) = 2 ^ 32 - 1 from rfl, Nat.and_two_pow_sub_one_eq_mod]

set_option maxHeartbeats 4000000 in
theorem law_hash2 (a : Option Addr) (len cap : Nat) (zs : List Int) (w : World) (hr : IsRow .u8 w a len cap zs) :
    Calls Try.prog 6 #[.slice a len cap] w fun e w' => e = .returned (.bool true) ∧ Below w.heap.size w w' := by
  have hr := row8_of hr
  by_cases hbig : 1048576 < len
  · have hd : decide (1048576 < len) = true := by simpa using hbig
    go_enter Try.func6, Try.ntmps6
    go_wp2_with (go_at_call 15; refine (big_any _ _ _ _).mono ?_; rintro e w' ⟨rfl, rfl⟩)
    go_ret
    exact ⟨rfl, Below.refl _ _⟩
  · have hd : decide (1048576 < len) = false := by simpa using hbig
    have hlen : len ≤ 1048576 := by omega
    go_enter Try.func6, Try.ntmps6
    go_wp2_with (first | (go_at_call 15; refine (big_any _ _ _ _).mono ?_; rintro e w' ⟨rfl, rfl⟩) | (go_at_call 37; refine (drawHash_any a len cap zs _ hr hlen).mono ?_; rintro e w1 ⟨s, rfl, hs, hb1⟩; refine Hid.out ?_))
    refine Lib.hid ?_
    have hr1 := hr.later hb1
    have Hs := Lib.hid (show s.size ≤ maxLen by unfold maxLen; omega)
    have hnil : Hid (hashN ([] : List UInt8) = 2166136261) := Lib.hid rfl
    have hz0 : (⟨#[]⟩ : ByteArray).size ≤ maxLen := by decide
    have Hz0 := Lib.hid hz0
    clear hz0
    go_wp2_with (go_at_call 38; refine (impl_hash _ _ (by first | exact Hs.out | exact Hz0.out)).mono ?_; rintro e w' ⟨rfl, rfl⟩)
    rw [hnil.out]
    go_loop [5, 6] (fun x i => ∃ (k X : Nat), k ≤ s.size ∧ i = .int .i64 k ∧ x = .int .i64 X ∧ X < 4294967296 ∧ Hid (X = (s.data.toList.take k).foldl hashOn 2166136261)) (fun _ i => s.size - (intOf i).toNat)
    case atStart => exact ⟨0, 2166136261, Nat.zero_le _, rfl, rfl, by omega, Lib.hid (by simp)⟩
    case round =>
      obtain ⟨k, X, hk, rfl, rfl, hX1, HX⟩ := hrel
      by_cases hlt : k < s.size
      · have hc : s[k].toNat < 256 := s[k].toNat_lt
        obtain ⟨A, hA⟩ : ∃ A, A = X ^^^ s[k].toNat := ⟨_, rfl⟩
        have hA1 : A < 4294967296 := by rw [hA]; exact xor_lt32 hX1 (by omega)
        have hand := hash_i64 X A s[k] hA hA1
        have hxor : bits .xor .i64 (X : Int) (s[k].toNat : Int) = (A : Int) := by rw [hA]; exact i64_xor_nat _ _ (by omega) (by omega)
        have hst : Hid (hashOn X s[k] = (s.data.toList.take (k + 1)).foldl hashOn 2166136261) := Lib.hid (by rw [fold_snoc _ _ _ _ hlt, ← HX.out])
        clear hA
        go_wp2
        go_round
        case rel => exact ⟨k + 1, hashOn X s[k], by omega, by go_num, rfl, hashOn_lt _ _, hst⟩
        case measure => simp [intOf]; omega
      · have he : Hid (hashN s.data.toList = X) := Lib.hid (by rw [HX.out, take_end s k (by omega)]; rfl)
        rw [he.out]
        go_wp2_with (go_at_call 39; refine (drawCrc_any a len cap zs _ hr1 hlen).mono ?_; rintro e w2 ⟨x, rfl, hx, hb2⟩; refine Hid.out ?_)
        refine Lib.hid ?_
        have hb3 := hb1.trans (hb2.mono hb1.size)
        have Hx := Lib.hid (show x.size ≤ maxLen by unfold maxLen; omega)
        have hlo : (0 : Int) ≤ (X : Int) := by omega
        have hhi : (X : Int) ≤ 4294967295 := by omega
        have he := he.out
        go_wp2_with (first | (go_at_call 40; refine (spec_hash _ _ Hs.out).mono ?_; rintro e w' ⟨rfl, rfl⟩) | (go_at_call 35; refine (impl_crc _ _ (by omega)).mono ?_; rintro e w4 ⟨rfl, hb4⟩) | (go_at_call 36; refine (spec_crc _ _ Hx.out).mono ?_; rintro e w' ⟨rfl, rfl⟩))
        go_ret
        exact ⟨rfl, hb3.trans (hb4.mono hb3.size)⟩
end Go.Proofs.Ytjgbbepfghblnaa
