/- What the program's valueOk and seqOk answer. Condition: none beyond what the arguments may be. -/
import Derived.Test.YtclcaflkopnbpaaState
import Derived.Test.YtclcaflkopnbpaaIn
namespace Go.Proofs.Ytclcaflkopnbpaa
open Go.RowKit
set_option linter.unusedVariables false

theorem impl_valueOk (s : ByteArray) (w : World) (hs : s.size ≤ maxLen) : Calls Try.prog 13 #[.string s] w fun e w' => e = .returned (.bool (decide ((s.size : Int) ≤ 60))) ∧ w = w' := by
  unfold maxLen at hs
  go_enter Try.func13, Try.ntmps13
  go_wp2
  go_ret
  exact ⟨rfl, rfl⟩
theorem impl_seqOk (q : Int) (w : World) : Calls Try.prog 12 #[.int .i64 q] w fun e w' => e = .returned (.bool (inB q 1 1000000000)) ∧ w = w' := by
  rcases (show q < 1 ∨ 1000000000 < q ∨ (1 ≤ q ∧ q ≤ 1000000000) by omega) with h | h | ⟨h, h'⟩
  · have hb : Hid (inB q 1 1000000000 = false) := Lib.hid (by unfold inB; simp; omega)
    go_enter Try.func12, Try.ntmps12
    go_wp2
    go_ret
    exact ⟨ret_bool hb.out.symm, rfl⟩
  · have hb : Hid (inB q 1 1000000000 = false) := Lib.hid (by unfold inB; simp; omega)
    have h1 : 1 ≤ q := by omega
    have h2 : decide (q ≤ 1000000000) = false := by simpa using h
    go_enter Try.func12, Try.ntmps12
    go_wp2
    go_ret
    exact ⟨ret_bool hb.out.symm, rfl⟩
  · have hb : Hid (inB q 1 1000000000 = true) := Lib.hid (by unfold inB; simp; omega)
    go_enter Try.func12, Try.ntmps12
    go_wp2
    go_ret
    exact ⟨ret_bool hb.out.symm, rfl⟩
end Go.Proofs.Ytclcaflkopnbpaa
