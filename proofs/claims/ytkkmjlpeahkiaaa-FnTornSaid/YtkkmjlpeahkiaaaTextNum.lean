/- What spec.PutText and spec.GetText answer. Condition: none beyond what the arguments may be. -/
import Derived.Test.YtkkmjlpeahkiaaaPutNum
import Derived.Test.YtkkmjlpeahkiaaaSpecPutText
import Derived.Test.YtkkmjlpeahkiaaaGetNum
namespace Go.Proofs.Ytkkmjlpeahkiaaa
open Go.RowKit
set_option linter.unusedVariables false

set_option maxHeartbeats 400000 in
theorem spec_getText (s : ByteArray) (p : Int) (hp : -9223372036854775808 ≤ p ∧ p ≤ 9223372036854775807) (w : World) (hs : s.size ≤ 1099511627776) :
    Calls Try.prog 60 #[.string s, .int .i64 p] w fun e w' => e = .returned (.tuple #[.string (getTextB s p).1, .int .i64 (getTextB s p).2]) ∧ w = w' := by
  have h0 := getN_lo s p 2
  have h1 := getN_hi s p 2
  by_cases hn : getN s p 2 < 0
  · have hv : Hid (((⟨#[]⟩ : ByteArray), (-1 : Int)) = getTextB s p) := Lib.hid (by unfold getTextB; rw [if_pos (by omega)])
    go_enter Try.func60, Try.ntmps60
    go_wp2_with (go_at_call 77; refine (spec_getNum _ _ _ (by omega) (by omega) _ (by unfold maxLen; omega)).mono ?_; rintro e w1 ⟨rfl, rfl⟩)
    go_ret2
    exact ⟨ret_txtint hv.out, rfl⟩
  · obtain ⟨hp0, hp1, _, _⟩ := getN_in hn
    by_cases hl : (s.size : Int) < p + 2 + getN s p 2
    · have hv : Hid (((⟨#[]⟩ : ByteArray), (-1 : Int)) = getTextB s p) := Lib.hid (by unfold getTextB; rw [if_pos (by omega)])
      go_enter Try.func60, Try.ntmps60
      go_wp2_with (go_at_call 77; refine (spec_getNum _ _ _ (by omega) (by omega) _ (by unfold maxLen; omega)).mono ?_; rintro e w1 ⟨rfl, rfl⟩)
      go_ret2
      exact ⟨ret_txtint hv.out, rfl⟩
    · have hv : Hid ((s.extract (p + 2).toNat (p + 2 + getN s p 2).toNat, p + 2 + getN s p 2) = getTextB s p) := Lib.hid (by unfold getTextB; rw [if_neg (by omega)])
      go_enter Try.func60, Try.ntmps60
      go_wp2_with (go_at_call 77; refine (spec_getNum _ _ _ (by omega) (by omega) _ (by unfold maxLen; omega)).mono ?_; rintro e w1 ⟨rfl, rfl⟩)
      go_ret2
      exact ⟨ret_txtint hv.out, rfl⟩
end Go.Proofs.Ytkkmjlpeahkiaaa
