/- What impl.Hash answers at every text: FNV-1a of its bytes. Condition: none beyond what a text may be. -/
import Derived.Test.YtdpjdjkfedcojaaGreatNumA
namespace Go.Proofs.YtdpjdjkfedcojaaGreat
open Go.RowKit
set_option linter.unusedVariables false

theorem impl_hash (s : ByteArray) (w : World) (hs : s.size ≤ maxLen) :
    Calls Tryz.prog 65 #[.string s] w fun e w' => e = .returned (.int .i64 (hashN s.data.toList)) ∧ w = w' := by
  unfold maxLen at hs
  go_enter Tryz.func65, Tryz.ntmps65
  go_wp2
  go_loop [3, 7] (fun x i => ∃ (k X : Nat), k ≤ s.size ∧ i = .int .i64 k ∧ x = .int .u32 X ∧ X < 4294967296 ∧ Hid (X = (s.data.toList.take k).foldl hashOn 2166136261)) (fun _ i => s.size - (intOf i).toNat)
  case atStart => exact ⟨0, 2166136261, Nat.zero_le _, rfl, rfl, by omega, Lib.hid (by simp)⟩
  case round =>
    obtain ⟨k, X, hk, rfl, rfl, hX1, HX⟩ := hrel
    by_cases hlt : k < s.size
    · have hc : s[k].toNat < 256 := s[k].toNat_lt
      have hh := Lib.hid (hash_u32 X s[k] hX1)
      have hst : Hid (hashOn X s[k] = (s.data.toList.take (k + 1)).foldl hashOn 2166136261) := Lib.hid (by rw [fold_snoc _ _ _ _ hlt, ← HX.out])
      go_wp2
      go_round
      case rel => exact ⟨k + 1, hashOn X s[k], by omega, by go_num, by rw [hh.out], hashOn_lt _ _, hst⟩
      case measure => simp [intOf]; omega
    · have he : Hid (X = hashN s.data.toList) := Lib.hid (by rw [HX.out, take_end s k (by omega)]; rfl)
      go_wp2
      go_ret
      exact ⟨ret_int (by rw [he.out]), rfl⟩
end Go.Proofs.YtdpjdjkfedcojaaGreat
