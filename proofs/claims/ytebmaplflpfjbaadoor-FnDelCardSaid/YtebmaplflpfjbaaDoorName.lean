/- The draw of a name: at most five bytes. Condition: none. -/
import Derived.Test.YtebmaplflpfjbaaDoorCur
namespace Go.Proofs.YtebmaplflpfjbaaDoor
open Go.RowKit
set_option linter.unusedVariables false

theorem name_any (B blk : Nat) (w : World) (c : Cu TC w B blk) :
    Calls Tryd.prog 88 #[.pointer (some ⟨blk, 0, none⟩)] w (DrewText TC w B blk 5) := by
  go_enter Tryd.func88, Tryd.ntmps88
  go_wp2_with (go_at_call 69; refine (pick_lit 5 _ _ 8 8 w _ _ c rfl (by decide) (by decide) rfl).mono ?_; rintro e w3 ⟨t, ht, rfl, hc3, hg3⟩)
  go_ret
  exact ⟨t, ht, rfl, hc3, hg3⟩
end Go.Proofs.YtebmaplflpfjbaaDoor
