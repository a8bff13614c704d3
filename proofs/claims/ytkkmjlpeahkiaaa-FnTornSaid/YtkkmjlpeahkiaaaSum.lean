/- What spec.Hash and spec.Crc answer at every text: FNV-1a and CRC-32C of its bytes. Condition: none beyond what a text may be. -/
import Derived.Test.YtkkmjlpeahkiaaaRows
import Derived.Test.YtkkmjlpeahkiaaaPlain
import Derived.Test.YtkkmjlpeahkiaaaSumPlain
import Derived.WalkKit
import Derived.WalkSpells
import Derived.WalkLawsBesides
import Derived.LoopTactic
import Derived.Lib.Hide
namespace Go.Proofs.Ytkkmjlpeahkiaaa
open Go.RowKit
set_option linter.unusedVariables false

theorem bit_odd (X : Nat) (hX : X < 4294967296) (h : X % 2 = 1) : bits .xor .u32 ((X : Int) / 2) 2197175160 = (bit1 X : Int) := by
  unfold bit1
  rw [if_pos h]
  exact u32_xor_nat (X / 2) 2197175160 (by omega) (by decide)
theorem bit_even (X : Nat) (h : ¬ X % 2 = 1) : (X : Int) / 2 = (bit1 X : Int) := by
  unfold bit1
  rw [if_neg h]; omega
theorem and_one_u32 (X : Nat) (hX : X < 4294967296) : bits .and .u32 (X : Int) 1 = ((X % 2 : Nat) : Int) :=
  (u32_and_nat X 1 hX (by decide)).trans (by rw [Nat.and_one_is_mod])
theorem not_u32 (X : Nat) (hX : X < 4294967296) : bits .xor .u32 IntKind.u32.max (X : Int) = ((4294967295 ^^^ X : Nat) : Int) :=
  u32_xor_nat 4294967295 X (by decide) hX

set_option maxHeartbeats 400000 in
theorem spec_crc (s : ByteArray) (w : World) (hs : s.size ≤ maxLen) :
    Calls Try.prog 74 #[.string s] w fun e w' => e = .returned (.int .i64 (crcN s.data.toList)) ∧ w = w' := by
  unfold maxLen at hs
  go_enter Try.func74, Try.ntmps74
  go_wp2
  go_loop [3, 4] (fun x i => ∃ (k X : Nat), k ≤ s.size ∧ i = .int .i64 k ∧ x = .int .u32 X ∧ X < 4294967296 ∧ Hid (X = (s.data.toList.take k).foldl crcOn 4294967295)) (fun _ i => s.size - (intOf i).toNat)
  case atStart => exact ⟨0, 4294967295, Nat.zero_le _, rfl, rfl, by omega, Lib.hid (by simp)⟩
  case round =>
    obtain ⟨k, X, hk, rfl, rfl, hX1, HX⟩ := hrel
    by_cases hlt : k < s.size
    · have hc : s[k].toNat < 256 := s[k].toNat_lt
      have hx0 := Lib.hid (u32_xor_nat X s[k].toNat hX1 (by omega))
      have hst : Hid (crcOn X s[k] = (s.data.toList.take (k + 1)).foldl crcOn 4294967295) := Lib.hid (by rw [fold_snoc _ _ _ _ hlt, ← HX.out])
      go_wp2
      go_loop [3, 5] (fun x i => ∃ (j Y : Nat), j ≤ 8 ∧ i = .int .i64 j ∧ x = .int .u32 Y ∧ Y < 4294967296 ∧ Hid (Y = bitsN j (X ^^^ s[k].toNat))) (fun _ i => 8 - (intOf i).toNat)
      case atStart => exact ⟨0, X ^^^ s[k].toNat, Nat.zero_le _, rfl, by rw [hx0.out], xor_lt32 hX1 (by omega), Lib.hid rfl⟩
      case round =>
        obtain ⟨j, Y, hj, rfl, rfl, hY1, HY⟩ := hrel
        by_cases hj8 : j < 8
        · have ha := Lib.hid (and_one_u32 Y hY1)
          have hlt2 := bit1_lt Y hY1
          have hst2 : Hid (bit1 Y = bitsN (j + 1) (X ^^^ s[k].toNat)) := Lib.hid (by rw [HY.out]; rfl)
          have hand := and_one_u32 Y hY1
          by_cases ho : Y % 2 = 1
          · have hb := Lib.hid (bit_odd Y hY1 ho)
            have hp : (bits BinOp.and IntKind.u32 (Y : Int) 1 == 1) = true := by rw [hand, ho]; rfl
            clear hand
            go_wp2
            go_round
            case rel => exact ⟨j + 1, bit1 Y, by omega, by go_num, by rw [hb.out], hlt2, hst2⟩
            case measure => simp [intOf]; omega
          · have hb := Lib.hid (bit_even Y ho)
            have hp : (bits BinOp.and IntKind.u32 (Y : Int) 1 == 1) = false := by rw [hand, show Y % 2 = 0 by omega]; rfl
            clear hand
            go_wp2
            go_round
            case rel => exact ⟨j + 1, bit1 Y, by omega, by go_num, by rw [hb.out], hlt2, hst2⟩
            case measure => simp [intOf]; omega
        · obtain rfl : j = 8 := by omega
          have hst3 : Hid (Y = (s.data.toList.take (k + 1)).foldl crcOn 4294967295) := Lib.hid (by rw [HY.out, ← hst.out]; rfl)
          go_wp2
          go_round
          case rel => exact ⟨k + 1, Y, by omega, by go_num, rfl, hY1, hst3⟩
          case measure => simp [intOf]; omega
    · have he : Hid (4294967295 ^^^ X = crcN s.data.toList) := Lib.hid (by rw [HX.out, take_end s k (by omega)]; rfl)
      have hn := Lib.hid (not_u32 X hX1)
      have hl := Lib.hid (xor_lt32 (a := 4294967295) (by decide) hX1)
      go_wp2
      go_ret
      exact ⟨ret_int (by have := crcN_lt s.data.toList; rw [hn.out, he.out]; exact IntWalk.wrap64_in _ ⟨by omega, by omega⟩), rfl⟩
end Go.Proofs.Ytkkmjlpeahkiaaa
