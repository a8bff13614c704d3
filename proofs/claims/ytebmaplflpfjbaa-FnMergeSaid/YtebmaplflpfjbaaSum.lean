/- What spec.Hash and spec.Crc answer at every text: FNV-1a and CRC-32C of its bytes. Condition: none beyond what a text may be. -/
import Derived.Test.YtebmaplflpfjbaaRows
import Derived.Test.YtebmaplflpfjbaaBaseA
import Derived.Test.YtebmaplflpfjbaaSumPlain
import Derived.WalkKit
import Derived.WalkSpells
import Derived.WalkLawsBesides
import Derived.LoopTactic
import Derived.Lib.Hide
namespace Go.Proofs.Ytebmaplflpfjbaa
open Go.RowKit
set_option linter.unusedVariables false

theorem spec_hash (s : ByteArray) (w : World) (hs : s.size ≤ maxLen) :
    Calls Try.prog 46 #[.string s] w fun e w' => e = .returned (.int .i64 (hashN s.data.toList)) ∧ w = w' := by
  unfold maxLen at hs
  go_enter Try.func46, Try.ntmps46
  go_wp2
  go_loop [3, 4] (fun x i => ∃ (k X : Nat), k ≤ s.size ∧ i = .int .i64 k ∧ x = .int .u32 X ∧ X < 4294967296 ∧ Hid (X = (s.data.toList.take k).foldl hashOn 2166136261)) (fun _ i => s.size - (intOf i).toNat)
  case atStart => exact ⟨0, 2166136261, Nat.zero_le _, rfl, rfl, by omega, Lib.hid (by simp)⟩
  case round =>
    obtain ⟨k, X, hk, rfl, rfl, hX1, HX⟩ := hrel
    by_cases hlt : k < s.size
    · have hc : s[k].toNat < 256 := s[k].toNat_lt
      have hh := Lib.hid (hash_u32 X s[k] hX1)
      have hst : Hid (hashOn X s[k] = (s.data.toList.take (k + 1)).foldl hashOn 2166136261) := Lib.hid (by rw [fold_snoc _ _ _ _ hlt, ← HX.out])
      go_wp2
      go_round
      case rel => exact ⟨k + 1, hashOn X s[k], by omega, by go_num, by rw [hh.out], hashOn_lt _ _, hst⟩
      case measure => simp [intOf]; omega
    · have he : Hid (X = hashN s.data.toList) := Lib.hid (by rw [HX.out, take_end s k (by omega)]; rfl)
      go_wp2
      go_ret
      exact ⟨ret_int (by rw [he.out]), rfl⟩

theorem bit_odd (X : Nat) (hX : X < 4294967296) (h : X % 2 = 1) : bits .xor .u32 ((X : Int) / 2) 2197175160 = (bit1 X : Int) := by
  unfold bit1
  rw [if_pos h]
  exact u32_xor_nat (X / 2) 2197175160 (by omega) (by decide)
theorem bit_even (X : Nat) (h : ¬ X % 2 = 1) : (X : Int) / 2 = (bit1 X : Int) := by
  unfold bit1
  rw [if_neg h]; omega
theorem and_one_u32 (X : Nat) (hX : X < 4294967296) : bits .and .u32 (X : Int) 1 = ((X % 2 : Nat) : Int) :=
  (u32_and_nat X 1 hX (by decide)).trans (by rw [Nat.and_one_is_mod])
theorem not_u32 (X : Nat) (hX : X < 4294967296) : bits .xor .u32 IntKind.u32.max (X : Int) = ((4294967295 ^^^ X : Nat) : Int) :=
  u32_xor_nat 4294967295 X (by decide) hX

end Go.Proofs.Ytebmaplflpfjbaa
