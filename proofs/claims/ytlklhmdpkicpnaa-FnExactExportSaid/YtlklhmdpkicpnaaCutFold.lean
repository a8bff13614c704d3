/- A text cut into pieces step by step, as data: each part taken off what is left, the chain carried on. Condition: none. -/
import Derived.Test.YtlklhmdpkicpnaaCutPlain
namespace Go.Proofs.Ytlklhmdpkicpnaa
open Go.RowKit
set_option linter.unusedVariables false
set_option linter.unusedSimpArgs false

def stepC (s : ByteArray) (n m : Nat) (a : Nat × List ByteArray) (i : Nat) : Nat × List ByteArray :=
  (linkN (a.1 : Int) (partB s n i), a.2 ++ [pcB ⟨(i : Int) + 1, (m : Int), partB s n i, (linkN (a.1 : Int) (partB s n i) : Nat)⟩])
/-- The chain and the pieces behind these parts. -/
def cutL (s : ByteArray) (n m : Nat) (l : List Nat) : Nat × List ByteArray := l.foldl (stepC s n m) (hashN [], [])
theorem cutL_snoc (s : ByteArray) (n m : Nat) (l : List Nat) (i : Nat) : cutL s n m (l ++ [i]) = stepC s n m (cutL s n m l) i := by
  unfold cutL
  rw [List.foldl_append, List.foldl_cons, List.foldl_nil]
theorem cutL_len (s : ByteArray) (n m : Nat) (l : List Nat) : (cutL s n m l).2.length = l.length := by
  unfold cutL
  have h : ∀ (l : List Nat) (a : Nat × List ByteArray), (l.foldl (stepC s n m) a).2.length = a.2.length + l.length := by
    intro l
    induction l with
    | nil => intro a; rfl
    | cons i l ih =>
      intro a
      rw [List.foldl_cons, ih]
      unfold stepC
      simp; omega
  rw [h]; simp
theorem cutL_lt (s : ByteArray) (n m : Nat) (l : List Nat) : (cutL s n m l).1 < 4294967296 := by
  rcases List.eq_nil_or_concat l with rfl | ⟨l', i, rfl⟩
  · unfold cutL; rw [List.foldl_nil]; exact hashN_lt []
  · rw [List.concat_eq_append, cutL_snoc]; unfold stepC; dsimp only; exact link_lt _ _
theorem cutL_range (s : ByteArray) (n : Nat) : ∀ k, cutL s n (manyN s n) (List.range k) = (chainN s n k, cutUp s n k)
  | 0 => rfl
  | k + 1 => by
    rw [List.range_succ, cutL_snoc, cutL_range s n k, cutUp_succ]
    rfl
/-- Where part k begins, inside the text. -/
def fromN (s : ByteArray) (n k : Nat) : Nat := if k * n ≤ s.size then k * n else s.size
def restC (s : ByteArray) (n k : Nat) : ByteArray := s.extract (fromN s n k) s.size
theorem fromN_zero (s : ByteArray) (n : Nat) : fromN s n 0 = 0 := by unfold fromN; rw [Nat.zero_mul, if_pos (Nat.zero_le _)]
theorem restC_zero (s : ByteArray) (n : Nat) : restC s n 0 = s := by unfold restC; rw [fromN_zero]; exact ByteArray.extract_zero_size
theorem fromN_le (s : ByteArray) (n k : Nat) : fromN s n k ≤ s.size := by unfold fromN; split <;> omega
theorem restC_size (s : ByteArray) (n k : Nat) : (restC s n k).size = s.size - fromN s n k := by
  unfold restC; rw [ByteArray.size_extract]; omega
theorem fromN_in {s : ByteArray} {n k : Nat} (hn : 0 < n) (h : k < manyN s n) : fromN s n k = k * n ∧ k * n < s.size := by
  have h1 := many_in hn h
  refine ⟨?_, h1⟩
  unfold fromN; rw [if_pos (by omega)]
theorem many_gt {s : ByteArray} {n k : Nat} (hn : 0 < n) (h : k * n < s.size) : k < manyN s n := by
  unfold manyN
  rw [Nat.lt_div_iff_mul_lt hn]
  omega
theorem fromN_end {s : ByteArray} {n k : Nat} (hn : 0 < n) (h : ¬ k < manyN s n) : fromN s n k = s.size := by
  have h1 : ¬ k * n < s.size := fun q => h (many_gt hn q)
  unfold fromN; split <;> omega
theorem restC_none {s : ByteArray} {n k : Nat} (hn : 0 < n) (h : ¬ k < manyN s n) : (restC s n k).size = 0 := by
  rw [restC_size, fromN_end hn h]; omega
theorem restC_some {s : ByteArray} {n k : Nat} (hn : 0 < n) (h : k < manyN s n) : 0 < (restC s n k).size := by
  have := fromN_in hn h
  rw [restC_size, this.1]; omega
theorem restC_next {s : ByteArray} {n k : Nat} (hn : 0 < n) (h : k < manyN s n) (j : Nat) (hj : j = min n (restC s n k).size) :
    (restC s n k).extract 0 j = partB s n k ∧ (restC s n k).extract j (restC s n k).size = restC s n (k + 1) ∧ j ≤ (restC s n k).size := by
  have h1 := fromN_in hn h
  have h2 := restC_size s n k
  have h3 : (k + 1) * n = k * n + n := by rw [Nat.add_mul, Nat.one_mul]
  rw [h1.1] at h2
  have hje : k * n + j = endN s n k := by unfold endN; rw [h3]; split <;> omega
  have hjf : k * n + j = fromN s n (k + 1) := by unfold fromN; rw [h3]; split <;> omega
  have hjl : j ≤ (restC s n k).size := by omega
  refine ⟨?_, ?_, hjl⟩
  · unfold restC partB
    rw [h1.1, ByteArray.extract_extract, ← hje, Nat.add_zero, Nat.min_eq_left (by omega)]
  · rw [h2]
    unfold restC
    rw [h1.1, ByteArray.extract_extract, ← hjf, Nat.min_eq_left (by omega)]
    congr 1
    omega
end Go.Proofs.Ytlklhmdpkicpnaa
