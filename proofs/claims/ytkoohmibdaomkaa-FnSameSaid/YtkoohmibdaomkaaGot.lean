/- Rows of the call's own: kept where other blocks turn. Condition: none. -/
import Derived.Test.YtkoohmibdaomkaaCopy
import Derived.Test.YtkoohmibdaomkaaAppendMore
namespace Go.Proofs.Ytkoohmibdaomkaa
open Go.RowKit
set_option linter.unusedVariables false

/-- At most the blocks g and h of what was there have turned. -/
def Off (w w' : World) (g h : Nat) : Prop := ∃ w1, w.grownBy w1 (some g) ∧ w1.grownBy w' (some h)
theorem Off.below {w w' : World} {g h B : Nat} (ho : Off w w' g h) (hg : B ≤ g) (hh : B ≤ h) (hB : B ≤ w.heap.size) : Below B w w' := by
  obtain ⟨w1, a, b⟩ := ho
  exact (((Below.refl B w).grown a hB (fun k hk => by cases hk; exact hg))).grown b (Nat.le_trans hB a.size) (fun k hk => by cases hk; exact hh)
theorem Got.grown {w w' : World} {base e size x n cap g : Nat} {cs : List Value} (h : Got w base e size x n cap cs) (hg : w.grownBy w' (some g)) (hne : x ≠ g) : Got w' base e size x n cap cs := by
  obtain ⟨h1, h2, h3, h4, h5, h6⟩ := h
  exact ⟨h1, h2, h3, h4, Nat.lt_of_lt_of_le h5 hg.size, h6.imp id (fun h => h.kept hg (Or.inr (by simp [Value.ownBlock]; omega)))⟩
theorem Got.off {w w' : World} {base e size x n cap g k : Nat} {cs : List Value} (h : Got w base e size x n cap cs) (ho : Off w w' g k) (hg : x ≠ g) (hk : x ≠ k) : Got w' base e size x n cap cs := by
  obtain ⟨w1, a, b⟩ := ho
  exact (h.grown a hg).grown b hk
theorem grown_of_below {w w' : World} (h : Below w.heap.size w w') (g : Option Nat) : w.grownBy w' g := ⟨h.os, h.tape, h.output, h.size, fun k hk _ => h.block k hk⟩

/-- A slice's address, or none where it has no element. -/
def NilOr (a : Option Addr) (g n cap : Nat) : Prop := a = some ⟨g, 0, none⟩ ∨ (a = none ∧ n = 0 ∧ cap = 0)
theorem Off.size {w w' : World} {g h : Nat} (ho : Off w w' g h) : w.heap.size ≤ w'.heap.size := by
  obtain ⟨w1, a, b⟩ := ho
  exact Nat.le_trans a.size b.size
theorem Off.block {w w' : World} {g h : Nat} (ho : Off w w' g h) {j : Nat} (hj : j < w.heap.size) (hg : j ≠ g) (hh : j ≠ h) : w'.heap[j]? = w.heap[j]? := by
  obtain ⟨w1, a, b⟩ := ho
  exact (b.block j (Nat.lt_of_lt_of_le hj a.size) (by simp; omega)).trans (a.block j hj (by simp; omega))
end Go.Proofs.Ytkoohmibdaomkaa
