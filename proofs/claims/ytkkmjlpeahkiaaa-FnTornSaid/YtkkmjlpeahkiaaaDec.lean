/- What spec.DecText answers at every number: its decimal numeral. Condition: none. -/
import Derived.Test.YtkkmjlpeahkiaaaRows
import Derived.Test.YtkkmjlpeahkiaaaDecPlain
import Derived.WalkKit
import Derived.WalkSpells
import Derived.WalkLawsBesides
import Derived.LoopTactic
import Derived.Lib.Hide
namespace Go.Proofs.Ytkkmjlpeahkiaaa
open Go.RowKit
set_option linter.unusedVariables false

theorem decText_zero (w : World) :
    Calls Try.prog 49 #[.int .i64 0] w fun e w' => e = .returned (.string ⟨(Lib.itoa 0).toArray⟩) ∧ w = w' := by
  have h : ((⟨(Lib.itoa 0).toArray⟩ : ByteArray) = ⟨#[48]⟩) := by decide +kernel
  rw [h]
  go_enter Try.func49, Try.ntmps49
  go_wp2
  go_ret
  exact ⟨rfl, rfl⟩

set_option maxHeartbeats 400000 in
theorem decText_pos (n : Nat) (h0 : 0 < n) (hn : (n : Int) ≤ 9223372036854775807) (w : World) :
    Calls Try.prog 49 #[.int .i64 n] w fun e w' => e = .returned (.string ⟨(Lib.decDigits n).toArray⟩) ∧ w = w' := by
  have hn0 : ((n : Int) == 0) = false := by simp; omega
  go_enter Try.func49, Try.ntmps49
  go_wp2
  go_loop [3, 4] (fun out i => ∃ (m : Nat) (s : ByteArray), m ≤ n ∧ i = .int .i64 m ∧ out = .string s ∧ Hid (Left n m s)) (fun _ i => (intOf i).toNat)
  case atStart => exact ⟨n, _, Nat.le_refl _, rfl, rfl, Lib.hid (Left.start n h0)⟩
  case round =>
    obtain ⟨m, s, hm, rfl, rfl, hl⟩ := hrel
    have hb := hl.out.bound (by omega)
    by_cases hlt : 0 < m
    · have hd1 : (0 : Int) ≤ (m : Int) % 10 := by omega
      have hd2 : (m : Int) % 10 < 10 := by omega
      have hd3 : min (m % 10 + 1) 10 - m % 10 + s.size ≤ 9223372036854775807 := by omega
      have hst := Lib.hid (hl.out.step hlt)
      go_wp2
      go_round
      case rel => exact ⟨m / 10, _, by omega, by go_num, rfl, hst⟩
      case measure => simp [intOf]; omega
    · obtain rfl : m = 0 := by omega
      go_wp2
      go_ret
      exact ⟨ret_str hl.out.fin, rfl⟩

set_option maxHeartbeats 400000 in
theorem decText_neg (n : Nat) (h0 : 0 < n) (hn : (n : Int) ≤ 9223372036854775808) (w : World) :
    Calls Try.prog 49 #[.int .i64 (-(n : Int))] w fun e w' => e = .returned (.string ⟨((45 : UInt8) :: Lib.decDigits n).toArray⟩) ∧ w = w' := by
  have hn0 : ((-(n : Int)) == 0) = false := by simp; omega
  go_enter Try.func49, Try.ntmps49
  go_wp2
  go_loop [3, 4] (fun out i => ∃ (m : Nat) (s : ByteArray), m ≤ n ∧ i = .int .i64 (-(m : Int)) ∧ out = .string s ∧ Hid (Left n m s)) (fun _ i => (-(intOf i)).toNat)
  case atStart => exact ⟨n, _, Nat.le_refl _, rfl, rfl, Lib.hid (Left.start n h0)⟩
  case round =>
    obtain ⟨m, s, hm, rfl, rfl, hl⟩ := hrel
    have hb := hl.out.bound (by omega)
    by_cases hlt : 0 < m
    · have hd1 : (0 : Int) ≤ (m : Int) % 10 := by omega
      have hd2 : (m : Int) % 10 < 10 := by omega
      have hd3 : min (m % 10 + 1) 10 - m % 10 + s.size ≤ 9223372036854775807 := by omega
      have hst := Lib.hid (hl.out.step hlt)
      go_wp2
      · go_round
        case rel => exact ⟨m / 10, _, by omega, by go_num, rfl, hst⟩
        case measure => simp [intOf]; omega
      · have hz : (m : Int) % 10 ≤ 0 := by assumption
        have e1 : (-((m : Int) % 10)).toNat = m % 10 := by omega
        have e2 : (-((m : Int) % 10) + 1).toNat = m % 10 + 1 := by omega
        go_round
        case rel => exact ⟨m / 10, _, by omega, by go_num, rfl, by rw [e1, e2]; exact hst⟩
        case measure => simp [intOf]; omega
    · obtain rfl : m = 0 := by omega
      go_wp2
      go_ret
      exact ⟨ret_str hl.out.fin_neg, rfl⟩

/-- spec.DecText at every int. -/
theorem spec_decText (n : Int) (h0 : -9223372036854775808 ≤ n) (h1 : n ≤ 9223372036854775807) (w : World) :
    Calls Try.prog 49 #[.int .i64 n] w fun e w' => e = .returned (.string ⟨(Lib.itoa n).toArray⟩) ∧ w = w' := by
  rcases Int.lt_trichotomy n 0 with h | h | h
  · obtain ⟨m, rfl⟩ : ∃ m : Nat, n = -(m : Int) := ⟨n.natAbs, by omega⟩
    rw [itoa_neg m (by omega)]
    exact decText_neg m (by omega) (by omega) w
  · subst h
    exact decText_zero w
  · obtain ⟨m, rfl⟩ : ∃ m : Nat, n = (m : Int) := ⟨n.natAbs, by omega⟩
    rw [itoa_pos m]
    exact decText_pos m (by omega) (by omega) w
end Go.Proofs.Ytkkmjlpeahkiaaa
