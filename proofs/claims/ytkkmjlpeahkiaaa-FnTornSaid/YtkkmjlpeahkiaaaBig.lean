/- What laws.big answers. Condition: none. -/
import Derived.Test.YtkkmjlpeahkiaaaCur
namespace Go.Proofs.Ytkkmjlpeahkiaaa
open Go.RowKit

theorem big_any (a : Option Addr) (len cap : Nat) (w : World) : Calls Try.prog 41 #[.slice a len cap] w fun e w' => e = .returned (.bool (decide (1048576 < len))) ∧ w = w' := by
  go_enter Try.func41, Try.ntmps41
  go_wp2
  go_ret
  exact ⟨ret_bool (by simp; omega), rfl⟩
end Go.Proofs.Ytkkmjlpeahkiaaa
