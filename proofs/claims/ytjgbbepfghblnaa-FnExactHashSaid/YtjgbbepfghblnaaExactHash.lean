/- The exact law of Hash: at every text the program answers as its model. Condition: none beyond what the argument may be. -/
import Derived.Test.YtjgbbepfghblnaaImplHash
namespace Go.Proofs.Ytjgbbepfghblnaa
open Go.RowKit
set_option linter.unusedVariables false

theorem law_hash (s : ByteArray) (w : World) (hs : s.size ≤ maxLen) :
    Calls Try.prog 12 #[.string s] w fun e w' => e = .returned (.bool true) ∧ Below w.heap.size w w' := by
  have hs' := hs
  unfold maxLen at hs
  by_cases hbig : 1048576 < (s.size : Int)
  · go_enter Try.func12, Try.ntmps12
    go_wp2_with fail
    go_ret
    exact ⟨rfl, Below.refl _ _⟩
  · go_enter Try.func12, Try.ntmps12
    go_wp2_with (first | (go_at_call 40; refine (spec_hash _ _ hs').mono ?_; rintro e w1 ⟨rfl, rfl⟩) | (go_at_call 38; refine (impl_hash _ _ hs').mono ?_; rintro e w2 ⟨rfl, rfl⟩))
    go_ret
    exact ⟨rfl, Below.refl _ _⟩
end Go.Proofs.Ytjgbbepfghblnaa
