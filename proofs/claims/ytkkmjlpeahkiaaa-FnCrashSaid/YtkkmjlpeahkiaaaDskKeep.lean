/- How much of what is loose a crash keeps. Condition: none. -/
import Derived.Test.YtkkmjlpeahkiaaaDskPlain
namespace Go.Proofs.Ytkkmjlpeahkiaaa
theorem keep_le (n : Nat) (k : Int) : keepN n k ≤ n := by
  unfold keepN
  split
  · exact Nat.zero_le _
  · split <;> omega
end Go.Proofs.Ytkkmjlpeahkiaaa
