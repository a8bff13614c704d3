/- Plain facts: a sealed text has one checksum row for all texts; a text that differs from it in an odd burst of at most 32 bits has another. Condition: none. -/
import Derived.Test.YtkkmjlpeahkiaaaImplSeal
namespace Go.Proofs.Ytkkmjlpeahkiaaa
open Go.RowKit
set_option linter.unusedVariables false

/-- The text as one number, its first byte the lowest. -/
def leN : List UInt8 → Nat
  | [] => 0
  | b :: l => b.toNat + 256 * leN l
theorem leN_cons (b : UInt8) (l : List UInt8) : leN (b :: l) = b.toNat ^^^ 2 ^ 8 * leN l := by
  have hb : b.toNat < 256 := b.toNat_lt
  have h := split_byte (b.toNat + 256 * leN l)
  rw [show (b.toNat + 256 * leN l) % 256 = b.toNat by omega, show (b.toNat + 256 * leN l) / 256 = leN l by omega] at h
  exact h
theorem bitsN_add (a b x : Nat) : bitsN (a + b) x = bitsN a (bitsN b x) := by
  induction b generalizing x with
  | zero => rfl
  | succ b ih => rw [← Nat.add_assoc, bitsN_in, bitsN_in, ih]
/-- A row of bytes fed into a checksum is one number fed bit by bit. -/
theorem crc_wide (l : List UInt8) (x : Nat) : bitsN (8 * l.length) (x ^^^ leN l) = l.foldl crcOn x := by
  induction l generalizing x with
  | nil => simp [leN, bitsN]
  | cons b l ih =>
    rw [List.length_cons, show 8 * (l.length + 1) = 8 * l.length + 8 by omega, bitsN_add, leN_cons, ← Nat.xor_assoc, bitsN_xor, bitsN_pow]
    exact ih (crcOn x b)
theorem bit1_ne (x : Nat) (h : x < 4294967296) (h0 : x ≠ 0) : bit1 x ≠ 0 := by
  unfold bit1
  split
  · intro hc
    have h2 : x / 2 = 2197175160 := by
      have := congrArg (fun z => z ^^^ 2197175160) hc
      simpa [Nat.xor_assoc] using this
    omega
  · omega
theorem bitsN_ne (k x : Nat) (h : x < 4294967296) (h0 : x ≠ 0) : bitsN k x ≠ 0 := by
  induction k with
  | zero => exact h0
  | succ k ih => exact bit1_ne _ (bitsN_lt _ _ h) ih
theorem leN_le4 (C : Nat) (h : C < 4294967296) : leN (le4 C) = C := by
  unfold le4 leB
  simp only [List.map_cons, List.map_nil, leN]
  have e : ∀ z : Int, 0 ≤ z → z < 256 → (UInt8.ofNat z.toNat).toNat = z.toNat := fun z h0 h1 => by simp; omega
  rw [e _ (by omega) (by omega), e _ (by omega) (by omega), e _ (by omega) (by omega), e _ (by omega) (by omega)]
  omega
/-- The checksum row of every sealed text. -/
theorem seal_row (l : List UInt8) : crcRow (l ++ le4 (crcN l)) = bitsN 32 4294967295 := by
  unfold crcRow
  rw [List.foldl_append]
  show (le4 (crcN l)).foldl crcOn (crcRow l) = _
  rw [← crc_wide, le4_len, leN_le4 _ (crcN_lt l)]
  unfold crcN
  rw [Nat.xor_comm 4294967295, ← Nat.xor_assoc, Nat.xor_self, Nat.zero_xor]
theorem not_sealed (l l' x b : List UInt8) (m f : Nat) (hx : x = l ++ le4 (crcN l)) (hb : b.length = x.length) (hd : leN b = leN x ^^^ m * 2 ^ f) (hm : m ≠ 0) (hm' : m < 4294967296) (hf : f ≤ 8 * x.length) : ¬ l' ++ le4 (crcN l') = b := by
  intro hc
  have h1 : crcRow b = bitsN 32 4294967295 := by rw [← hc]; exact seal_row l'
  have h2 : crcRow x = bitsN 32 4294967295 := by rw [hx]; exact seal_row l
  have e1 := crc_wide b 4294967295
  have e2 := crc_wide x 4294967295
  rw [hb] at e1
  have h3 : bitsN (8 * x.length) (m * 2 ^ f) = 0 := by
    have : bitsN (8 * x.length) ((4294967295 ^^^ leN b) ^^^ (4294967295 ^^^ leN x)) = 0 := by
      rw [bitsN_xor, e1, e2]
      show crcRow b ^^^ crcRow x = 0
      rw [h1, h2, Nat.xor_self]
    have e3 : (4294967295 ^^^ leN b) ^^^ (4294967295 ^^^ leN x) = m * 2 ^ f := by
      rw [hd, ← Nat.xor_assoc 4294967295, Nat.xor_comm (4294967295 ^^^ leN x), Nat.xor_assoc, Nat.xor_self, Nat.xor_zero]
    rwa [e3] at this
  obtain ⟨d, hd8⟩ := Nat.le.dest hf
  rw [← hd8, Nat.add_comm, bitsN_add, Nat.mul_comm m, bitsN_pow] at h3
  exact bitsN_ne d m hm' hm h3

/-- One bit turned in one byte. -/
theorem leN_set (l : List UInt8) (i r : Nat) (hi : i < l.length) (hr : r < 8) (c : UInt8) (hc : c.toNat = l[i].toNat ^^^ 2 ^ r) : leN (l.set i c) = leN l ^^^ 2 ^ (8 * i + r) := by
  induction l generalizing i with
  | nil => simp at hi
  | cons b l ih =>
    cases i with
    | zero =>
      rw [List.set_cons_zero, leN_cons, leN_cons, hc]
      simp only [List.getElem_cons_zero, Nat.mul_zero, Nat.zero_add]
      rw [Nat.xor_assoc, Nat.xor_comm (2 ^ r), ← Nat.xor_assoc]
    | succ i =>
      rw [List.set_cons_succ, leN_cons, leN_cons, ih i (by simpa using hi) (by simpa using hc)]
      have e : 2 ^ 8 * (leN l ^^^ 2 ^ (8 * i + r)) = 2 ^ 8 * leN l ^^^ 2 ^ (8 * (i + 1) + r) := by
        have e0 : 2 ^ (8 * (i + 1) + r) = 2 ^ 8 * 2 ^ (8 * i + r) := by rw [← Nat.pow_add]; congr 1; omega
        rw [e0]
        apply Nat.eq_of_testBit_eq
        intro j
        rw [Nat.testBit_xor, Nat.testBit_two_pow_mul, Nat.testBit_two_pow_mul, Nat.testBit_two_pow_mul, Nat.testBit_xor]
        cases decide (8 ≤ j) <;> simp
      rw [e, Nat.xor_assoc]
/-- The bits turned so far. -/
def burst (mask f k : Nat) : Nat := mask % 2 ^ k * 2 ^ f
theorem burst_zero (mask f : Nat) : burst mask f 0 = 0 := by simp [burst, Nat.mod_one]
theorem burst_bit (mask f k j : Nat) : (burst mask f k).testBit j = (decide (f ≤ j) && (decide (j - f < k) && mask.testBit (j - f))) := by
  unfold burst
  rw [Nat.mul_comm, Nat.testBit_two_pow_mul, Nat.testBit_mod_two_pow]
theorem burst_on (mask f k : Nat) (h : mask.testBit k = true) : burst mask f (k + 1) = burst mask f k ^^^ 2 ^ (f + k) := by
  apply Nat.eq_of_testBit_eq
  intro j
  rw [Nat.testBit_xor, burst_bit, burst_bit, Nat.testBit_two_pow]
  by_cases h1 : f + k = j
  · subst h1
    simp [h]
  · by_cases h2 : f ≤ j
    · by_cases h3 : j - f < k
      · simp [h1, h2, h3, show j - f < k + 1 by omega]
      · simp [h1, h2, h3, show ¬ j - f < k + 1 by omega]
    · simp [h1, h2]
theorem burst_off (mask f k : Nat) (h : mask.testBit k = false) : burst mask f (k + 1) = burst mask f k := by
  apply Nat.eq_of_testBit_eq
  intro j
  rw [burst_bit, burst_bit]
  by_cases h1 : f + k = j
  · subst h1
    simp [h]
  · by_cases h2 : f ≤ j
    · by_cases h3 : j - f < k
      · simp [h2, h3, show j - f < k + 1 by omega]
      · simp [h2, h3, show ¬ j - f < k + 1 by omega]
    · simp [h2]
theorem open_sealed (s : ByteArray) : openB (sealB s) = (s, true) := by
  have hz : (sealB s).size = s.size + 4 := by unfold sealB; rw [ByteArray.size_append, leB_size]
  have he : (sealB s).extract 0 ((sealB s).size - 4) = s := by
    rw [hz]
    apply ByteArray.ext
    unfold sealB
    rw [ByteArray.data_extract, ByteArray.data_append]
    apply Array.ext'
    simp
    exact List.take_of_length_le (by simp)
  unfold openB
  rw [if_neg (by omega), he, if_pos rfl]
theorem seal_opened (t : ByteArray) (h : (openB t).2 = true) : sealB (openB t).1 = t := by
  unfold openB at h ⊢
  split
  · rename_i h4; rw [if_pos h4] at h; cases h
  · rename_i h4
    rw [if_neg h4] at h
    split
    · assumption
    · rename_i h5; rw [if_neg h5] at h; cases h
theorem open_size (t : ByteArray) : (openB t).1.size ≤ t.size := by
  unfold openB
  split
  · exact Nat.zero_le _
  · split
    · simp
    · exact Nat.zero_le _
/-- A text with some bits in a row of 32 turned is not opened. -/
theorem not_open (s : ByteArray) (b : List UInt8) (m f : Nat) (hb : b.length = (sealB s).size) (hd : leN b = leN (sealB s).data.toList ^^^ m * 2 ^ f) (hm : m ≠ 0) (hm' : m < 4294967296) (hf : f ≤ 8 * (sealB s).size) : openB ⟨b.toArray⟩ = (⟨#[]⟩, false) := by
  have hx : (sealB s).data.toList = s.data.toList ++ le4 (crcN s.data.toList) := by rw [← sealB_data]
  have hlen : (sealB s).data.toList.length = (sealB s).size := by simp
  have hz : (sealB s).size = s.size + 4 := by unfold sealB; rw [ByteArray.size_append, leB_size]
  have hbz : (⟨b.toArray⟩ : ByteArray).size = b.length := by show b.toArray.size = _; simp
  unfold openB
  rw [if_neg (by omega), if_neg]
  intro hc
  have hc' := congrArg (fun z : ByteArray => z.data.toList) hc
  rw [← sealB_data] at hc'
  exact not_sealed s.data.toList _ (sealB s).data.toList b m f hx (by omega) hd hm hm' (by omega) hc'
end Go.Proofs.Ytkkmjlpeahkiaaa
