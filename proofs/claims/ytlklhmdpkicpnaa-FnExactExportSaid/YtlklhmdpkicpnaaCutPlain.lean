/- A text cut into pieces, as data. Condition: none. -/
import Derived.Test.YtlklhmdpkicpnaaPcPlain
namespace Go.Proofs.Ytlklhmdpkicpnaa
open Go.RowKit
set_option linter.unusedVariables false
set_option linter.unusedSimpArgs false

/-- Where part i ends. -/
def endN (s : ByteArray) (n i : Nat) : Nat := if (i + 1) * n ≤ s.size then (i + 1) * n else s.size
def partB (s : ByteArray) (n i : Nat) : ByteArray := s.extract (i * n) (endN s n i)
def chainN (s : ByteArray) (n : Nat) : Nat → Nat
  | 0 => hashN []
  | k + 1 => linkN (chainN s n k : Nat) (partB s n k)
def manyN (s : ByteArray) (n : Nat) : Nat := (s.size + n - 1) / n
def pieceN (s : ByteArray) (n i : Nat) : Pc := ⟨(i : Int) + 1, (manyN s n : Nat), partB s n i, (chainN s n (i + 1) : Nat)⟩
def cutUp (s : ByteArray) (n k : Nat) : List ByteArray := (List.range k).map fun i => pcB (pieceN s n i)
def cutS (s : ByteArray) (size : Int) : List ByteArray :=
  if s = ⟨#[]⟩ then [] else if inB size 8 200 = false then [] else if 600 < manyN s size.toNat then [] else cutUp s size.toNat (manyN s size.toNat)
theorem cutUp_zero (s : ByteArray) (n : Nat) : cutUp s n 0 = [] := rfl
theorem cutUp_len (s : ByteArray) (n k : Nat) : (cutUp s n k).length = k := by unfold cutUp; simp
theorem cutUp_succ (s : ByteArray) (n k : Nat) : cutUp s n (k + 1) = cutUp s n k ++ [pcB (pieceN s n k)] := by
  unfold cutUp; rw [List.range_succ, List.map_append]; rfl
theorem chain_lt (s : ByteArray) (n k : Nat) : chainN s n k < 4294967296 := by
  cases k with
  | zero => exact hashN_lt _
  | succ k => exact link_lt _ _
theorem many_pos {s : ByteArray} {n : Nat} (hs : 0 < s.size) (hn : 0 < n) : 0 < manyN s n := by
  unfold manyN
  exact Nat.div_pos (by omega) hn
/-- A part that is one begins inside the text. -/
theorem many_in {s : ByteArray} {n k : Nat} (hn : 0 < n) (h : k < manyN s n) : k * n < s.size := by
  unfold manyN at h
  have h1 : (k + 1) * n ≤ s.size + n - 1 := (Nat.le_div_iff_mul_le hn).1 h
  have h2 : (k + 1) * n = k * n + n := by rw [Nat.add_mul, Nat.one_mul]
  omega
theorem many_le {s : ByteArray} {n : Nat} (hn : 0 < n) : s.size ≤ manyN s n * n := by
  unfold manyN
  have h := Nat.div_add_mod (s.size + n - 1) n
  have h1 := Nat.mod_lt (s.size + n - 1) hn
  rw [Nat.mul_comm] at h
  omega
theorem end_in {s : ByteArray} {n k : Nat} (hn : 0 < n) (h : k < manyN s n) : k * n < endN s n k ∧ endN s n k ≤ s.size ∧ endN s n k ≤ k * n + n := by
  have h1 := many_in hn h
  have h2 : (k + 1) * n = k * n + n := by rw [Nat.add_mul, Nat.one_mul]
  unfold endN
  split <;> omega
theorem part_size {s : ByteArray} {n k : Nat} (hn : 0 < n) (h : k < manyN s n) : 1 ≤ (partB s n k).size ∧ (partB s n k).size ≤ n := by
  have h1 := end_in hn h
  unfold partB
  rw [ByteArray.size_extract]
  omega
/-- The pieces are right. -/
theorem piece_ok {s : ByteArray} {n k : Nat} (hn : 0 < n) (hn2 : n ≤ 200) (hm : manyN s n ≤ 600) (h : k < manyN s n) : pcOk (pieceN s n k) = true := by
  have h1 := part_size hn h
  have h2 := chain_lt s n (k + 1)
  have t1 : inB ((manyN s n : Nat) : Int) 1 600 = true := by unfold inB; simp; omega
  have t2 : inB ((k : Int) + 1) 1 ((manyN s n : Nat) : Int) = true := by unfold inB; simp; omega
  have t3 : inB ((partB s n k).size : Int) 1 200 = true := by unfold inB; simp; omega
  have t4 : inB ((chainN s n (k + 1) : Nat) : Int) 0 4294967295 = true := by unfold inB; simp; omega
  unfold pcOk pieceN
  dsimp only
  rw [t1, t2, t3, t4]
  rfl
/-- The parts together. -/
def partsTo (s : ByteArray) (n : Nat) : Nat → ByteArray
  | 0 => ⟨#[]⟩
  | k + 1 => partsTo s n k ++ partB s n k
theorem parts_are {s : ByteArray} {n : Nat} (hn : 0 < n) : ∀ k, k ≤ manyN s n → partsTo s n k = s.extract 0 (if k * n ≤ s.size then k * n else s.size)
  | 0, _ => by
    rw [Nat.zero_mul, if_pos (Nat.zero_le _)]
    apply ByteArray.ext
    simp [partsTo]
  | k + 1, h => by
    have h1 := many_in hn (show k < manyN s n by omega)
    have h2 := end_in hn (show k < manyN s n by omega)
    rw [partsTo, parts_are hn k (by omega), if_pos (by omega)]
    unfold partB
    rw [ByteArray.extract_append_extract]
    rw [Nat.min_eq_left (Nat.zero_le _), Nat.max_eq_right (by omega)]
    rfl
theorem parts_all {s : ByteArray} {n : Nat} (hn : 0 < n) : partsTo s n (manyN s n) = s := by
  rw [parts_are hn _ (Nat.le_refl _)]
  have h := many_le (s := s) hn
  have e : (if manyN s n * n ≤ s.size then manyN s n * n else s.size) = s.size := by split <;> omega
  rw [e]
  exact ByteArray.extract_zero_size
end Go.Proofs.Ytlklhmdpkicpnaa
