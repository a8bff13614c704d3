/- What laws.big answers. Condition: none. -/
import Derived.Test.YtebmaplflpfjbaaGreatDoorCur
namespace Go.Proofs.YtebmaplflpfjbaaGreatDoor
open Go.RowKit

theorem big_any (a : Option Addr) (len cap : Nat) (w : World) : Calls Tryz.prog 4 #[.slice a len cap] w fun e w' => e = .returned (.bool (decide (1048576 < len))) ∧ w = w' := by
  go_enter Tryz.func4, Tryz.ntmps4
  go_wp2
  go_ret
  exact ⟨ret_bool (by simp; omega), rfl⟩
end Go.Proofs.YtebmaplflpfjbaaGreatDoor
