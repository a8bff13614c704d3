/- What the model and the program answer of a word; what the model answers as an operation's text. Condition: what the arguments may be. -/
import Derived.Test.YtebmaplflpfjbaaDoorOpTextPlain
import Derived.Test.YtebmaplflpfjbaaDoorDec
import Derived.Deep.RegionHeld
import Derived.OwnWalk
namespace Go.Proofs.YtebmaplflpfjbaaDoor
open Go.RowKit
set_option linter.unusedVariables false

theorem ret_str' {a b : ByteArray} (h : a = b) : Ending.returned (.string a) = .returned (.string b) := by rw [h]
set_option maxHeartbeats 400000 in
theorem spec_plain (s : ByteArray) (w : World) (hs : s.size ≤ maxLen) :
    Calls Tryd.prog 59 #[.string s] w fun e w' => e = .returned (.bool (wordB s.data.toList)) ∧ w = w' := by
  unfold maxLen at hs
  go_enter Tryd.func59, Tryd.ntmps59
  go_wp2
  go_loop [3] (fun i => ∃ k : Nat, k ≤ s.size ∧ i = .int .i64 k ∧ Hid ((s.data.toList.take k).all plainB = true)) (fun i => s.size - (intOf i).toNat)
  case atStart => exact ⟨0, Nat.zero_le _, rfl, Lib.hid (by simp)⟩
  case round =>
    obtain ⟨k, hk, rfl, hall⟩ := hrel
    by_cases hlt : k < s.size
    · have hc : s[k].toNat < 256 := s[k].toNat_lt
      by_cases ha : (s[k].toNat : Int) ≤ 32
      · have hn := Lib.hid (word_no s k hlt (plain_no ha))
        go_wp2
        go_ret
        exact ⟨ret_bool (by rw [hn.out]), rfl⟩
      · have hn := Lib.hid (plain_snoc s k hlt hall.out (plain_yes ha))
        go_wp2
        go_round
        case rel => exact ⟨k + 1, by omega, by go_num, hn⟩
        case measure => simp [intOf]; omega
    · obtain rfl : k = s.size := by omega
      by_cases hz : s.size = 0
      · have hn := Lib.hid (word_none s hz)
        have he : s = ⟨#[]⟩ := ByteArray.ext (Array.eq_empty_of_size_eq_zero hz)
        have ht : s.toList = [] := by rw [he, ByteArray.toList_eq]
        clear hz he
        go_wp2
        go_ret
        exact ⟨ret_bool (by rw [hn.out]), rfl⟩
      · have hn := Lib.hid (word_some s (by omega) hall.out)
        have ht : s.toList.isEmpty = false := by
          rw [ByteArray.toList_eq]; cases h : s.data.toList with
          | nil => exact absurd (by have := congrArg List.length h; simpa using this) hz
          | cons _ _ => rfl
        have ht2 : ¬ s.toList = [] := by intro h; rw [h] at ht; cases ht
        clear hz
        go_wp2
        go_ret
        exact ⟨ret_bool (by rw [hn.out]), rfl⟩
set_option maxHeartbeats 400000 in
theorem impl_isWord (s : ByteArray) (w : World) (hs : s.size ≤ maxLen) :
    Calls Tryd.prog 49 #[.string s] w fun e w' => e = .returned (.bool (wordB s.data.toList)) ∧ w = w' := by
  unfold maxLen at hs
  go_enter Tryd.func49, Tryd.ntmps49
  go_wp2
  go_loop [6] (fun i => ∃ k : Nat, k ≤ s.size ∧ i = .int .i64 k ∧ Hid ((s.data.toList.take k).all plainB = true)) (fun i => s.size - (intOf i).toNat)
  case atStart => exact ⟨0, Nat.zero_le _, rfl, Lib.hid (by simp)⟩
  case round =>
    obtain ⟨k, hk, rfl, hall⟩ := hrel
    by_cases hlt : k < s.size
    · have hc : s[k].toNat < 256 := s[k].toNat_lt
      by_cases ha : (s[k].toNat : Int) ≤ 32
      · have hn := Lib.hid (word_no s k hlt (plain_no ha))
        go_wp2
        go_ret
        exact ⟨ret_bool (by rw [hn.out]), rfl⟩
      · have hn := Lib.hid (plain_snoc s k hlt hall.out (plain_yes ha))
        go_wp2
        go_round
        case rel => exact ⟨k + 1, by omega, by go_num, hn⟩
        case measure => simp [intOf]; omega
    · obtain rfl : k = s.size := by omega
      by_cases hz : s.size = 0
      · have hn := Lib.hid (word_none s hz)
        have he : s = ⟨#[]⟩ := ByteArray.ext (Array.eq_empty_of_size_eq_zero hz)
        have ht : s.toList = [] := by rw [he, ByteArray.toList_eq]
        clear hz he
        go_wp2
        go_ret
        exact ⟨ret_bool (by rw [hn.out]), rfl⟩
      · have hn := Lib.hid (word_some s (by omega) hall.out)
        have ht : s.toList.isEmpty = false := by
          rw [ByteArray.toList_eq]; cases h : s.data.toList with
          | nil => exact absurd (by have := congrArg List.length h; simpa using this) hz
          | cons _ _ => rfl
        have ht2 : ¬ s.toList = [] := by intro h; rw [h] at ht; cases ht
        clear hz
        go_wp2
        go_ret
        exact ⟨ret_bool (by rw [hn.out]), rfl⟩
end Go.Proofs.YtebmaplflpfjbaaDoor
