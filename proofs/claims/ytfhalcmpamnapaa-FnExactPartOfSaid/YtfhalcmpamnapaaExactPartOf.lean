/- The exact law of PartOf. Condition: none beyond what the arguments may be. -/
import Derived.Test.YtfhalcmpamnapaaPartOf
namespace Go.Proofs.Ytfhalcmpamnapaa
open Go.RowKit
set_option linter.unusedVariables false

theorem law_partOf (key : ByteArray) (n : Int) (w : World) (hs : key.size ≤ maxLen) :
    Calls Try.prog 7 #[.string key, .int .i64 n] w fun e w' => e = .returned (.bool true) ∧ Below w.heap.size w w' := by
  have hs' := hs
  unfold maxLen at hs
  by_cases hbig : 1048576 < (key.size : Int)
  · go_enter Try.func7, Try.ntmps7
    go_wp2_with fail
    go_ret
    exact ⟨rfl, Below.refl _ _⟩
  · go_enter Try.func7, Try.ntmps7
    go_wp2_with (first | (go_at_call 14; refine (spec_partOf _ _ _ hs').mono ?_; rintro e w1 ⟨rfl, rfl⟩) | (go_at_call 13; refine (impl_partOf _ _ _ hs').mono ?_; rintro e w2 ⟨rfl, rfl⟩))
    go_ret
    exact ⟨rfl, Below.refl _ _⟩
end Go.Proofs.Ytfhalcmpamnapaa
