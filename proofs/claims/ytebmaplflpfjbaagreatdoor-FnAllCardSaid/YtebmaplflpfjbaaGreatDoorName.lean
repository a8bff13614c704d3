/- The draw of a name: at most five bytes. Condition: none. -/
import Derived.Test.YtebmaplflpfjbaaGreatDoorCur
namespace Go.Proofs.YtebmaplflpfjbaaGreatDoor
open Go.RowKit
set_option linter.unusedVariables false

theorem name_any (B blk : Nat) (w : World) (c : Cu TC w B blk) :
    Calls Tryz.prog 18 #[.pointer (some ⟨blk, 0, none⟩)] w (DrewText TC w B blk 5) := by
  go_enter Tryz.func18, Tryz.ntmps18
  go_wp2_with (go_at_call 25; refine (pick_lit 5 _ _ 8 8 w _ _ c rfl (by decide) (by decide) rfl).mono ?_; rintro e w3 ⟨t, ht, rfl, hc3, hg3⟩)
  go_ret
  exact ⟨t, ht, rfl, hc3, hg3⟩
end Go.Proofs.YtebmaplflpfjbaaGreatDoor
