/- What spec.ReadDec answers at every text. Condition: none beyond what a text may be. -/
import Derived.Test.YtebmaplflpfjbaaDoorBaseA
import Derived.Test.YtebmaplflpfjbaaDoorDec
import Derived.Test.YtebmaplflpfjbaaDoorReadPlain
import Derived.WalkKit
import Derived.WalkSpells
import Derived.WalkLawsBesides
import Derived.LoopTactic
import Derived.Lib.Hide
namespace Go.Proofs.YtebmaplflpfjbaaDoor
open Go.RowKit
set_option linter.unusedVariables false

set_option maxHeartbeats 400000 in
theorem spec_readDec (s : ByteArray) (w : World) (hs : s.size ≤ maxLen) :
    Calls Tryd.prog 57 #[.string s] w fun e w' => e = .returned (.int .i64 (rd s.data.toList)) ∧ w = w' := by
  unfold maxLen at hs
  go_enter Tryd.func57, Tryd.ntmps57
  go_wp2
  go_loop [3, 4] (fun v i => ∃ (k n : Nat), k ≤ s.size ∧ (k = 0 ∨ s.size ≤ 9) ∧ n < 1000000000 ∧ i = .int .i64 k ∧ v = .int .i64 n ∧ Hid (Lib.decFrom 0 (s.data.toList.take k) = some n)) (fun _ i => s.size - (intOf i).toNat)
  case atStart => exact ⟨0, 0, Nat.zero_le _, .inl rfl, by omega, rfl, rfl, Lib.hid rfl⟩
  case round =>
    obtain ⟨k, n, hk, hk9, hn, rfl, rfl, hv⟩ := hrel
    by_cases hlt : k < s.size
    · have hc : s[k].toNat < 256 := s[k].toNat_lt
      by_cases hd : inB s[k].toNat 48 57 = true
      · by_cases h9 : (s.size : Int) ≤ 9
        · have hst : Hid (∃ m : Nat, m < 1000000000 ∧ 10 * (n : Int) + s[k].toNat - 48 = (m : Int) ∧ Lib.decFrom 0 (s.data.toList.take (k + 1)) = some m) := Lib.hid (read_step s k n hlt (by omega) hv.out hd)
          go_wp2_with (go_at_call 82; refine (digit_any _ hc _).mono ?_; rintro e w' ⟨rfl, rfl⟩)
          go_round
          case rel => obtain ⟨m, h1, h2, h3⟩ := hst.out; exact ⟨k + 1, m, by omega, by omega, h1, by go_num, by rw [h2], Lib.hid h3⟩
          case measure => simp [intOf]; omega
        · have hn := Lib.hid (rd_long s.data.toList (by simp; omega))
          go_wp2_with (go_at_call 82; refine (digit_any _ hc _).mono ?_; rintro e w' ⟨rfl, rfl⟩)
          go_ret
          exact ⟨ret_int (by rw [hn.out]), rfl⟩
      · have hd : inB s[k].toNat 48 57 = false := by simpa using hd
        have hn := Lib.hid (read_bad s k hlt hd)
        go_wp2_with (go_at_call 82; refine (digit_any _ hc _).mono ?_; rintro e w' ⟨rfl, rfl⟩)
        go_ret
        exact ⟨ret_int (by rw [hn.out]), rfl⟩
    · have hfin := Lib.hid (read_end s k n (by omega) (by omega) hv.out)
      by_cases h0 : s.toList = []
      · have hn := Lib.hid (hfin.out.1 h0)
        have h1 : s.toList.isEmpty = true := by simp [h0]
        go_wp2_with (go_at_call 58; refine (spec_decText n (by omega) (by omega) _).mono ?_; rintro e w' ⟨rfl, rfl⟩)
        go_ret
        exact ⟨ret_int (by rw [hn.out]), rfl⟩
      · have h1 : s.toList.isEmpty = false := by simpa using h0
        by_cases hq : (Lib.itoa n == s.toList) = true
        · have hn := Lib.hid (hfin.out.2.1 h0 hq)
          go_wp2_with (go_at_call 58; refine (spec_decText n (by omega) (by omega) _).mono ?_; rintro e w' ⟨rfl, rfl⟩)
          go_ret
          exact ⟨ret_int (by rw [hn.out]), rfl⟩
        · have hq : (Lib.itoa n == s.toList) = false := by simpa using hq
          have hn := Lib.hid (hfin.out.2.2 h0 hq)
          go_wp2_with (go_at_call 58; refine (spec_decText n (by omega) (by omega) _).mono ?_; rintro e w' ⟨rfl, rfl⟩)
          go_ret
          exact ⟨ret_int (by rw [hn.out]), rfl⟩

end Go.Proofs.YtebmaplflpfjbaaDoor
