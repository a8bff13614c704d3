/- Plain facts on numbers as bytes, the highest first: no program is named here. Condition: none. -/
import Derived.Test.YtkkmjlpeahkiaaaSumPlain
namespace Go.Proofs.Ytkkmjlpeahkiaaa
open Go.RowKit

/-- The last k bytes of n, the highest first. -/
def beB : Nat → Nat → List Int
  | _, 0 => []
  | n, k + 1 => beB (n / 256) k ++ [((n % 256 : Nat) : Int)]
theorem beB_len (n k : Nat) : (beB n k).length = k := by
  induction k generalizing n with
  | zero => rfl
  | succ k ih => simp [beB, ih]
/-- One byte more. -/
theorem beB_step (n k i : Nat) (x : Int) (h : x = ((n / 256 ^ i % 256 : Nat) : Int)) : beB (n / 256 ^ (i + 1)) k ++ [x] = beB (n / 256 ^ i) (k + 1) := by
  rw [beB, h, Nat.pow_succ, Nat.div_div_eq_div_mul]
/-- What PutNum writes. -/
def putN (n bytes : Int) : List Int := if n < 0 ∨ bytes < 1 ∨ 4 < bytes then [] else beB n.toNat bytes.toNat
/-- The number that stands at a place. -/
def beN (l : List UInt8) : Nat := l.foldl (fun x b => x * 256 + b.toNat) 0
def getN (s : ByteArray) (at_ bytes : Int) : Int := if bytes < 1 ∨ 4 < bytes ∨ at_ < 0 ∨ (s.size : Int) - bytes < at_ then -1 else beN ((s.data.toList.drop at_.toNat).take bytes.toNat)
theorem beN_snoc (l : List UInt8) (b : UInt8) : beN (l ++ [b]) = beN l * 256 + b.toNat := by unfold beN; rw [List.foldl_append]; rfl
theorem beN_lt_from (l : List UInt8) : ∀ x, l.foldl (fun x b => x * 256 + b.toNat) x < (x + 1) * 256 ^ l.length := by
  induction l with
  | nil => intro x; simp
  | cons b l ih =>
    intro x
    have hb : b.toNat < 256 := b.toNat_lt
    refine Nat.lt_of_lt_of_le (ih _) ?_
    rw [List.length_cons, Nat.pow_succ, Nat.mul_comm (256 ^ l.length), ← Nat.mul_assoc]
    refine Nat.mul_le_mul_right _ ?_
    show x * 256 + b.toNat + 1 ≤ (x + 1) * 256
    omega
theorem beN_lt (l : List UInt8) : beN l < 256 ^ l.length := by simpa [beN] using beN_lt_from l 0
theorem beN_lt4 (l : List UInt8) (h : l.length ≤ 4) : beN l < 4294967296 :=
  Nat.lt_of_lt_of_le (beN_lt l) (Nat.pow_le_pow_right (n := 256) (by decide) h)
theorem drop_snoc (s : ByteArray) (a k : Nat) (h : a + k < s.size) : (s.data.toList.drop a).take (k + 1) = (s.data.toList.drop a).take k ++ [s[a + k]] := by
  rw [List.take_succ_eq_append_getElem (by simp; omega)]
  simp; rfl
end Go.Proofs.Ytkkmjlpeahkiaaa
