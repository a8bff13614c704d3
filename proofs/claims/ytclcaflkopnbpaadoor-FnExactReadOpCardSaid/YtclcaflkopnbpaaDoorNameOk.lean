/- What spec.NameOk and impl.NameOk answer at every text of at most maxLen bytes: the same. Condition: none beyond what a text may be. -/
import Derived.Test.YtclcaflkopnbpaaDoorRows
import Derived.Test.YtclcaflkopnbpaaDoorIn
import Derived.Test.YtclcaflkopnbpaaDoorPlain
import Derived.WalkKit
import Derived.WalkSpells
import Derived.WalkLawsBesides
import Derived.LoopTactic
import Derived.Lib.Hide
namespace Go.Proofs.YtclcaflkopnbpaaDoor
open Go.RowKit
set_option linter.unusedVariables false

theorem digit_any (c : Nat) (hc : c < 256) (w : World) : Calls Tryd.prog 91 #[.int .u8 c] w fun e w' => e = .returned (.bool (inB c 48 57)) ∧ w = w' := by
  go_enter Tryd.func91, Tryd.ntmps91
  go_wp2_with (go_at_call 58; refine (in_any _ _ _ _).mono ?_; rintro e w' ⟨rfl, rfl⟩)
  go_ret
  exact ⟨rfl, rfl⟩


set_option maxHeartbeats 400000 in
theorem spec_nameOk (s : ByteArray) (w : World) (hs : s.size ≤ maxLen) :
    Calls Tryd.prog 75 #[.string s] w fun e w' => e = .returned (.bool (nameOkB s.data.toList)) ∧ w = w' := by
  unfold maxLen at hs
  go_enter Tryd.func75, Tryd.ntmps75
  go_wp2
  go_loop [3] (fun i => ∃ k : Nat, k ≤ s.size ∧ i = .int .i64 k ∧ Hid ((s.data.toList.take k).all nameByte = true)) (fun i => s.size - (intOf i).toNat)
  case atStart => exact ⟨0, Nat.zero_le _, rfl, Lib.hid (by simp)⟩
  case round =>
    obtain ⟨k, hk, rfl, hall⟩ := hrel
    by_cases hlt : k < s.size
    · have hc : s[k].toNat < 256 := s[k].toNat_lt
      by_cases ha : inB s[k].toNat 97 122 = true
      · have hn := Lib.hid (nameByte_1 ha)
        go_wp2_with (go_at_call 58; refine (in_any _ _ _ _).mono ?_; rintro e w' ⟨rfl, rfl⟩)
        go_round
        case rel => exact ⟨k + 1, by omega, by go_num, Lib.hid (all_snoc s k hlt hall.out hn.out)⟩
        case measure => simp [intOf]; omega
      · have ha : inB s[k].toNat 97 122 = false := by simpa using ha
        by_cases hd : inB s[k].toNat 48 57 = true
        · have hn := Lib.hid (nameByte_2 hd)
          go_wp2_with (first | (go_at_call 58; refine (in_any _ _ _ _).mono ?_; rintro e w' ⟨rfl, rfl⟩) | (go_at_call 91; refine (digit_any _ hc _).mono ?_; rintro e w' ⟨rfl, rfl⟩))
          go_round
          case rel => exact ⟨k + 1, by omega, by go_num, Lib.hid (all_snoc s k hlt hall.out hn.out)⟩
          case measure => simp [intOf]; omega
        · have hd : inB s[k].toNat 48 57 = false := by simpa using hd
          have hn := Lib.hid (nameOk_no s k hlt (nameByte_0 ha hd))
          go_wp2_with (first | (go_at_call 58; refine (in_any _ _ _ _).mono ?_; rintro e w' ⟨rfl, rfl⟩) | (go_at_call 91; refine (digit_any _ hc _).mono ?_; rintro e w' ⟨rfl, rfl⟩))
          go_ret
          exact ⟨ret_bool (by rw [hn.out]), rfl⟩
    · have hn := Lib.hid (nameOk_in s k (by omega) hall.out)
      go_wp2_with (go_at_call 58; refine (in_any _ _ _ _).mono ?_; rintro e w' ⟨rfl, rfl⟩)
      go_ret
      exact ⟨ret_bool (by rw [hn.out]), rfl⟩

set_option maxHeartbeats 400000 in
theorem nameBytes_any (s : ByteArray) (w : World) (hs : s.size ≤ maxLen) :
    Calls Tryd.prog 103 #[.string s] w fun e w' => e = .returned (.int .i64 (nameRun s.data.toList)) ∧ w = w' := by
  unfold maxLen at hs
  go_enter Tryd.func103, Tryd.ntmps103
  go_wp2
  go_step3
  go_wp2
  go_step3
  go_wp2
  go_loop [3] (fun i => ∃ k : Nat, k ≤ s.size ∧ i = .int .i64 k ∧ Hid ((s.data.toList.take k).all nameByte = true)) (fun i => s.size - (intOf i).toNat)
  case atStart => exact ⟨0, Nat.zero_le _, rfl, Lib.hid (by simp)⟩
  case round =>
    obtain ⟨k, hk, rfl, hall⟩ := hrel
    by_cases hlt : k < s.size
    · have hc : s[k].toNat < 256 := s[k].toNat_lt
      have hno : Hid ((s[k].toNat : Int) < 97 ∨ 122 < (s[k].toNat : Int) → (s[k].toNat : Int) < 48 ∨ 57 < (s[k].toNat : Int) → nameRun s.data.toList = k) := Lib.hid fun a b => run_here s k hlt hall.out (nameByte_no a b)
      by_cases h1 : (97 : Int) ≤ (s[k].toNat : Int)
      · by_cases h2 : (s[k].toNat : Int) ≤ 122
        · have hn := Lib.hid (all_snoc s k hlt hall.out (nameByte_az h1 h2))
          go_wp2
          go_round
          case rel => exact ⟨k + 1, by omega, by go_num, hn⟩
          case measure => simp [intOf]; omega
        · have hn := Lib.hid (hno.out (by omega) (by omega))
          go_wp2
          try rw [Exit.noGoto_ret]
          go_ret
          exact ⟨ret_int (by rw [hn.out]), rfl⟩
      · by_cases h3 : (48 : Int) ≤ (s[k].toNat : Int)
        · by_cases h4 : (s[k].toNat : Int) ≤ 57
          · have hn := Lib.hid (all_snoc s k hlt hall.out (nameByte_09 h3 h4))
            go_wp2
            go_round
            case rel => exact ⟨k + 1, by omega, by go_num, hn⟩
            case measure => simp [intOf]; omega
          · have hn := Lib.hid (hno.out (by omega) (by omega))
            go_wp2
            try rw [Exit.noGoto_ret]
            go_ret
            exact ⟨ret_int (by rw [hn.out]), rfl⟩
        · have hn := Lib.hid (hno.out (by omega) (by omega))
          go_wp2
          try rw [Exit.noGoto_ret]
          go_ret
          exact ⟨ret_int (by rw [hn.out]), rfl⟩
    · have hn := Lib.hid (run_end s k (by omega) hall.out)
      go_wp2
      try rw [Exit.noGoto_ret]
      go_ret
      exact ⟨ret_int (by rw [hn.out]), rfl⟩

theorem impl_nameOk (s : ByteArray) (w : World) (hs : s.size ≤ maxLen) :
    Calls Tryd.prog 83 #[.string s] w fun e w' => e = .returned (.bool (nameOkB s.data.toList)) ∧ w = w' := by
  have hr := nameRun_le s.data.toList
  simp at hr
  unfold maxLen at hs
  by_cases h1 : (1 : Int) ≤ (s.size : Int)
  · by_cases h2 : (s.size : Int) ≤ 12
    · have hn : Hid (∀ b, ((nameRun s.data.toList : Int) == (s.size : Int)) = b → nameOkB s.data.toList = b) := Lib.hid fun b h => nameOk_run s h1 h2 b h
      by_cases h3 : ((nameRun s.data.toList : Int) == (s.size : Int)) = true
      · have hn := Lib.hid (hn.out _ h3)
        go_enter Tryd.func83, Tryd.ntmps83
        go_wp2_with (go_at_call 103; refine (nameBytes_any _ _ (by unfold maxLen; omega)).mono ?_; rintro e w' ⟨rfl, rfl⟩)
        go_ret
        exact ⟨ret_bool (by rw [hn.out]), rfl⟩
      · have h3 : ((nameRun s.data.toList : Int) == (s.size : Int)) = false := by simpa using h3
        have hn := Lib.hid (hn.out _ h3)
        go_enter Tryd.func83, Tryd.ntmps83
        go_wp2_with (go_at_call 103; refine (nameBytes_any _ _ (by unfold maxLen; omega)).mono ?_; rintro e w' ⟨rfl, rfl⟩)
        go_ret
        exact ⟨ret_bool (by rw [hn.out]), rfl⟩
    · have hn := Lib.hid (nameOk_out s (by omega))
      go_enter Tryd.func83, Tryd.ntmps83
      go_wp2_with fail
      go_ret
      exact ⟨ret_bool (by rw [hn.out]), rfl⟩
  · have hn := Lib.hid (nameOk_out s (by omega))
    go_enter Tryd.func83, Tryd.ntmps83
    go_wp2_with fail
    go_ret
    exact ⟨ret_bool (by rw [hn.out]), rfl⟩

end Go.Proofs.YtclcaflkopnbpaaDoor
