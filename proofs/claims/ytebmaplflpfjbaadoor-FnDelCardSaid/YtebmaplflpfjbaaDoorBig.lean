/- What laws.big answers. Condition: none. -/
import Derived.Test.YtebmaplflpfjbaaDoorCur
namespace Go.Proofs.YtebmaplflpfjbaaDoor
open Go.RowKit

theorem big_any (a : Option Addr) (len cap : Nat) (w : World) : Calls Tryd.prog 7 #[.slice a len cap] w fun e w' => e = .returned (.bool (decide (1048576 < len))) ∧ w = w' := by
  go_enter Tryd.func7, Tryd.ntmps7
  go_wp2
  go_ret
  exact ⟨ret_bool (by simp; omega), rfl⟩
end Go.Proofs.YtebmaplflpfjbaaDoor
