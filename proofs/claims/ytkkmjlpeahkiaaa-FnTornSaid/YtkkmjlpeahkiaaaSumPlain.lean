/- Plain facts on the two checksums, CRC-32C bit by bit and FNV-1a: no program is named here. Condition: none. -/
import Derived.WalkKit
import Derived.Laws.BitsAllLaws
import Derived.Lib.Hide
namespace Go.Proofs.Ytkkmjlpeahkiaaa
open Go.RowKit

/-! ## FNV-1a -/
def hashOn (x : Nat) (b : UInt8) : Nat := (x ^^^ b.toNat) * 16777619 % 4294967296
def hashN (l : List UInt8) : Nat := l.foldl hashOn 2166136261
theorem hashOn_lt (x : Nat) (b : UInt8) : hashOn x b < 4294967296 := by unfold hashOn; omega
theorem foldl_lt {f : Nat → UInt8 → Nat} (hf : ∀ x b, x < 4294967296 → f x b < 4294967296) (l : List UInt8) : ∀ x, x < 4294967296 → l.foldl f x < 4294967296 := by
  induction l with
  | nil => intro x h; exact h
  | cons b l ih => intro x h; exact ih _ (hf x b h)
theorem hashN_lt (l : List UInt8) : hashN l < 4294967296 := foldl_lt (fun x b _ => hashOn_lt x b) l _ (by decide)
theorem fold_snoc {α : Type} (f : α → UInt8 → α) (x : α) (s : ByteArray) (k : Nat) (h : k < s.size) : (s.data.toList.take (k + 1)).foldl f x = f ((s.data.toList.take k).foldl f x) s[k] := by
  rw [List.take_succ_eq_append_getElem (by simpa using h), List.foldl_append]; rfl
theorem take_end (s : ByteArray) (k : Nat) (h : s.size ≤ k) : s.data.toList.take k = s.data.toList := List.take_of_length_le (by simpa using h)
theorem xor_lt32 {a b : Nat} (ha : a < 4294967296) (hb : b < 4294967296) : a ^^^ b < 4294967296 := Nat.xor_lt_two_pow (n := 32) ha hb
theorem xor_lt8 {a b : Nat} (ha : a < 256) (hb : b < 256) : a ^^^ b < 256 := Nat.xor_lt_two_pow (n := 8) ha hb
theorem hash_u32 (x : Nat) (b : UInt8) (hx : x < 4294967296) : bits .xor .u32 (x : Int) (b.toNat : Int) * 16777619 % 4294967296 = (hashOn x b : Int) := by
  have hb : b.toNat < 256 := b.toNat_lt
  rw [u32_xor_nat _ _ hx (by omega)]
  unfold hashOn
  omega

/-! ## CRC-32C -/
def bit1 (x : Nat) : Nat := if x % 2 = 1 then x / 2 ^^^ 2197175160 else x / 2
def bitsN : Nat → Nat → Nat
  | 0, x => x
  | k + 1, x => bit1 (bitsN k x)
def crcOn (x : Nat) (b : UInt8) : Nat := bitsN 8 (x ^^^ b.toNat)
def crcRow (l : List UInt8) : Nat := l.foldl crcOn 4294967295
def crcN (l : List UInt8) : Nat := 4294967295 ^^^ crcRow l
theorem bit1_lt (x : Nat) (h : x < 4294967296) : bit1 x < 4294967296 := by
  unfold bit1
  split
  · exact xor_lt32 (by omega) (by decide)
  · omega
theorem bitsN_lt (k x : Nat) (h : x < 4294967296) : bitsN k x < 4294967296 := by
  induction k with
  | zero => exact h
  | succ k ih => exact bit1_lt _ ih
theorem crcOn_lt (x : Nat) (b : UInt8) (h : x < 4294967296) : crcOn x b < 4294967296 := by
  have hb : b.toNat < 256 := b.toNat_lt
  exact bitsN_lt _ _ (xor_lt32 h (by omega))
theorem crcRow_lt (l : List UInt8) : crcRow l < 4294967296 := foldl_lt crcOn_lt l _ (by decide)
theorem crcN_lt (l : List UInt8) : crcN l < 4294967296 := xor_lt32 (by decide) (crcRow_lt l)
theorem bit1_xor (a b : Nat) : bit1 (a ^^^ b) = bit1 a ^^^ bit1 b := by
  have h2 : (a ^^^ b) % 2 = (a + b) % 2 := by
    have h0 := Nat.xor_mod_two_pow (a := a) (b := b) (n := 1)
    rw [Nat.pow_one] at h0
    rw [h0, Nat.add_mod]
    rcases Nat.mod_two_eq_zero_or_one a with ha | ha <;> rcases Nat.mod_two_eq_zero_or_one b with hb | hb <;> simp [ha, hb]
  have hd : (a ^^^ b) / 2 = a / 2 ^^^ b / 2 := Nat.xor_div_two
  unfold bit1
  rw [h2, hd]
  rcases Nat.mod_two_eq_zero_or_one a with ha | ha <;> rcases Nat.mod_two_eq_zero_or_one b with hb | hb
  · rw [if_neg (by omega), if_neg (by omega), if_neg (by omega)]
  · rw [if_pos (by omega), if_neg (by omega), if_pos (by omega), Nat.xor_assoc]
  · rw [if_pos (by omega), if_pos (by omega), if_neg (by omega), Nat.xor_assoc, Nat.xor_assoc, Nat.xor_comm (b / 2)]
  · rw [if_neg (by omega), if_pos (by omega), if_pos (by omega), Nat.xor_assoc, Nat.xor_comm _ (b / 2 ^^^ _), Nat.xor_assoc (b / 2), Nat.xor_self, Nat.xor_zero]
theorem bitsN_xor (k a b : Nat) : bitsN k (a ^^^ b) = bitsN k a ^^^ bitsN k b := by
  induction k with
  | zero => rfl
  | succ k ih => show bit1 _ = _; rw [ih, bit1_xor]; rfl
theorem bit1_two (x : Nat) : bit1 (2 * x) = x := by unfold bit1; rw [if_neg (by omega)]; omega
theorem bitsN_in (k x : Nat) : bitsN (k + 1) x = bitsN k (bit1 x) := by
  induction k with
  | zero => rfl
  | succ k ih => show bit1 _ = bit1 _; rw [ih]
theorem bitsN_pow (k x : Nat) : bitsN k (2 ^ k * x) = x := by
  induction k with
  | zero => simp [bitsN]
  | succ k ih => rw [bitsN_in, Nat.pow_succ, Nat.mul_comm (2 ^ k) 2, Nat.mul_assoc, bit1_two, ih]
theorem split_byte (x : Nat) : x = x % 256 ^^^ 2 ^ 8 * (x / 256) := by
  apply Nat.eq_of_testBit_eq
  intro i
  rw [Nat.testBit_xor, show x % 256 = x % 2 ^ 8 from rfl, Nat.testBit_mod_two_pow, Nat.testBit_two_pow_mul, show x / 256 = x / 2 ^ 8 from rfl, Nat.testBit_div_two_pow]
  by_cases h : i < 8
  · simp [h, show ¬ 8 ≤ i by omega]
  · simp [h, show 8 ≤ i by omega]
/-- By a table of 256 numbers: the low byte's eight bits, and the rest a byte lower. -/
theorem bits8_table (x : Nat) : bitsN 8 x = bitsN 8 (x % 256) ^^^ x / 256 := by
  conv => lhs; rw [split_byte x, bitsN_xor, bitsN_pow]
theorem crcOn_table (x : Nat) (b : UInt8) : crcOn x b = bitsN 8 (x % 256 ^^^ b.toNat) ^^^ x / 256 := by
  have hb : b.toNat < 256 := b.toNat_lt
  unfold crcOn
  rw [bits8_table]
  have h1 : (x ^^^ b.toNat) % 256 = x % 256 ^^^ b.toNat := by
    rw [show (256 : Nat) = 2 ^ 8 from rfl, Nat.xor_mod_two_pow, Nat.mod_eq_of_lt (a := b.toNat) hb]
  have h2 : (x ^^^ b.toNat) / 256 = x / 256 := by
    rw [show (256 : Nat) = 2 ^ 8 from rfl, Nat.xor_div_two_pow, Nat.div_eq_of_lt (a := b.toNat) hb, Nat.xor_zero]
  rw [h1, h2]
theorem crcN_sub (l : List UInt8) : (crcN l : Int) = 4294967295 - crcRow l := by
  have h := crcRow_lt l
  unfold crcN
  have : 4294967295 ^^^ crcRow l = 4294967295 - crcRow l := by
    apply Nat.eq_of_testBit_eq
    intro i
    rw [Nat.testBit_xor, show (4294967295 : Nat) = 2 ^ 32 - 1 from rfl, Nat.testBit_two_pow_sub_one]
    rw [show 2 ^ 32 - 1 - crcRow l = 2 ^ 32 - (crcRow l + 1) by omega, Nat.testBit_two_pow_sub_succ h]
    by_cases h : i < 32
    · simp [h]
    · simp [h]
      apply Nat.testBit_lt_two_pow
      have hp : 2 ^ 32 ≤ 2 ^ i := Nat.pow_le_pow_right (by decide) (by omega)
      have := crcRow_lt l
      omega
  omega
end Go.Proofs.Ytkkmjlpeahkiaaa
