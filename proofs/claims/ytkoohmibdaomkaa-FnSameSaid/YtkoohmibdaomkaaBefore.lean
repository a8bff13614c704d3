/- What spec.Before and impl.Before answer at every two texts of at most maxLen bytes: the same. Condition: none beyond what a text may be. -/
import Derived.Test.YtkoohmibdaomkaaRows
import Derived.Test.YtkoohmibdaomkaaPlain
import Derived.WalkKit
import Derived.WalkSpells
import Derived.WalkLawsBesides
import Derived.LoopTactic
import Derived.Lib.Hide
import Derived.Deep.QuietTactic
import Derived.BigQuiet
namespace Go.Proofs.Ytkoohmibdaomkaa
open Go.RowKit
set_option linter.unusedVariables false

theorem less_any (a b : ByteArray) (w : World) : Calls Try.prog 87 #[.string a, .string b] w fun e w' => e = .returned (.bool (lessB a b)) ∧ w = w' := by
  have h : Hid (lessB a b = Op.bytesLess a.toList b.toList) := Lib.hid (by rw [ByteArray.toList_eq, ByteArray.toList_eq]; rfl)
  go_enter Try.func87, Try.ntmps87
  go_wp2
  go_ret
  exact ⟨ret_bool h.out.symm, rfl⟩

set_option maxHeartbeats 400000 in
theorem spec_before (a b : ByteArray) (w : World) (ha : a.size ≤ maxLen) (hb : b.size ≤ maxLen) :
    Calls Try.prog 56 #[.string a, .string b] w fun e w' => e = .returned (.bool (lessB a b)) ∧ ∃ n, w' = w.drewN n := by
  unfold maxLen at ha hb
  go_enter Try.func56, Try.ntmps56
  go_wp2
  go_loopw [5] (fun i wr => (∃ n, wr = w.drewN n) ∧ ∃ k : Nat, k ≤ a.size ∧ k ≤ b.size ∧ i = .int .i64 k ∧ Hid (a.data.toList.take k = b.data.toList.take k)) (fun i _ => a.size - (intOf i).toNat)
  case atStart => exact ⟨⟨0, rfl⟩, 0, Nat.zero_le _, Nat.zero_le _, rfl, Lib.hid (by simp)⟩
  case round =>
    obtain ⟨⟨n, rfl⟩, k, hka, hkb, rfl, hall⟩ := hrel
    by_cases hla : k < a.size
    · by_cases hlb : k < b.size
      · by_cases he : (a[k].toNat : Int) = b[k].toNat
        · have hn := Lib.hid (take_both a b k hla hlb hall.out he)
          have he1 : ((a[k].toNat : Int) != b[k].toNat) = false := by simpa using he
          clear he
          go_wp2
          go_quiet (fail)
          go_wp2
          go_roundw
          case rel => exact ⟨⟨_, rfl⟩, k + 1, by omega, by omega, by go_num, hn⟩
          case measure => simp [intOf]; omega
        · have hn := Lib.hid (lessB_ne a b k hla hlb hall.out he)
          have he1 : ((a[k].toNat : Int) != b[k].toNat) = true := by simpa using he
          clear he
          go_wp2
          go_quiet (fail)
          go_wp2
          go_quiet (fail)
          go_wp2
          go_ret
          exact ⟨ret_bool (by rw [hn.out]), _, by rw [World.drewN_drewN, World.drewN_drewN]⟩
      · have hn := Lib.hid (lessB_end a b k hka hkb hall.out (by omega))
        go_wp2
        go_ret
        exact ⟨ret_bool (by rw [hn.out]), n, rfl⟩
    · have hn := Lib.hid (lessB_end a b k hka hkb hall.out (by omega))
      go_wp2
      go_ret
      exact ⟨ret_bool (by rw [hn.out]), n, rfl⟩

end Go.Proofs.Ytkoohmibdaomkaa
