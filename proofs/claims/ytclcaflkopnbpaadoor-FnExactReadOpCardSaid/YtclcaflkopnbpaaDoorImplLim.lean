/- What the program's valueOk and seqOk answer. Condition: none beyond what the arguments may be. -/
import Derived.Test.YtclcaflkopnbpaaDoorState
import Derived.Test.YtclcaflkopnbpaaDoorIn
namespace Go.Proofs.YtclcaflkopnbpaaDoor
open Go.RowKit
set_option linter.unusedVariables false

theorem impl_valueOk (s : ByteArray) (w : World) (hs : s.size ≤ maxLen) : Calls Tryd.prog 85 #[.string s] w fun e w' => e = .returned (.bool (decide ((s.size : Int) ≤ 60))) ∧ w = w' := by
  unfold maxLen at hs
  go_enter Tryd.func85, Tryd.ntmps85
  go_wp2
  go_ret
  exact ⟨rfl, rfl⟩
theorem impl_seqOk (q : Int) (w : World) : Calls Tryd.prog 84 #[.int .i64 q] w fun e w' => e = .returned (.bool (inB q 1 1000000000)) ∧ w = w' := by
  rcases (show q < 1 ∨ 1000000000 < q ∨ (1 ≤ q ∧ q ≤ 1000000000) by omega) with h | h | ⟨h, h'⟩
  · have hb : Hid (inB q 1 1000000000 = false) := Lib.hid (by unfold inB; simp; omega)
    go_enter Tryd.func84, Tryd.ntmps84
    go_wp2
    go_ret
    exact ⟨ret_bool hb.out.symm, rfl⟩
  · have hb : Hid (inB q 1 1000000000 = false) := Lib.hid (by unfold inB; simp; omega)
    have h1 : 1 ≤ q := by omega
    have h2 : decide (q ≤ 1000000000) = false := by simpa using h
    go_enter Tryd.func84, Tryd.ntmps84
    go_wp2
    go_ret
    exact ⟨ret_bool hb.out.symm, rfl⟩
  · have hb : Hid (inB q 1 1000000000 = true) := Lib.hid (by unfold inB; simp; omega)
    go_enter Tryd.func84, Tryd.ntmps84
    go_wp2
    go_ret
    exact ⟨ret_bool hb.out.symm, rfl⟩
end Go.Proofs.YtclcaflkopnbpaaDoor
