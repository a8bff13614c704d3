/- Plain facts: a number comes back from its bytes, and bytes from their number. Condition: none. -/
import Derived.Test.YtkkmjlpeahkiaaaNumPlain
import Derived.Test.YtkkmjlpeahkiaaaBytes
namespace Go.Proofs.Ytkkmjlpeahkiaaa
open Go.RowKit

def be8 (n k : Nat) : List UInt8 := (beB n k).map fun z => UInt8.ofNat z.toNat
theorem be8_len (n k : Nat) : (be8 n k).length = k := by unfold be8; rw [List.length_map, beB_len]
theorem be8_succ (n k : Nat) : be8 n (k + 1) = be8 (n / 256) k ++ [UInt8.ofNat (n % 256)] := by
  show List.map _ (beB (n / 256) k ++ [((n % 256 : Nat) : Int)]) = _
  rw [List.map_append]
  rfl
theorem beN_be8 (n k : Nat) : beN (be8 n k) = n % 256 ^ k := by
  induction k generalizing n with
  | zero => simp [be8, beB, beN, Nat.mod_one]
  | succ k ih =>
    rw [be8_succ, beN_snoc, ih]
    have h : (UInt8.ofNat (n % 256)).toNat = n % 256 := by simp
    rw [h, Nat.pow_succ, Nat.mul_comm (256 ^ k) 256, Nat.mod_mul]
    omega
theorem be8_beN_rev (l : List UInt8) : be8 (beN l.reverse) l.length = l.reverse := by
  induction l with
  | nil => rfl
  | cons b l ih =>
    rw [List.reverse_cons, beN_snoc, List.length_cons, be8_succ]
    have hb : b.toNat < 256 := b.toNat_lt
    have h1 : (beN l.reverse * 256 + b.toNat) / 256 = beN l.reverse := by omega
    have h2 : (beN l.reverse * 256 + b.toNat) % 256 = b.toNat := by omega
    rw [h1, h2, ih]
    simp
theorem be8_beN (l : List UInt8) : be8 (beN l) l.length = l := by
  have := be8_beN_rev l.reverse
  simpa using this
theorem txt_beB (n k : Nat) : txt (beB n k) = ⟨(be8 n k).toArray⟩ := rfl
/-- What GetNum answers is what PutNum writes there. -/
theorem put_get (t : ByteArray) (p b : Int) (h : 0 ≤ getN t p b) : txt (putN (getN t p b) b) = t.extract p.toNat (p.toNat + b.toNat) := by
  have hne : ¬ (b < 1 ∨ 4 < b ∨ p < 0 ∨ (t.size : Int) - b < p) := fun hc => by unfold getN at h; rw [if_pos hc] at h; omega
  have hv : getN t p b = beN ((t.data.toList.drop p.toNat).take b.toNat) := by unfold getN; rw [if_neg hne]
  have hl : ((t.data.toList.drop p.toNat).take b.toNat).length = b.toNat := by simp; omega
  unfold putN
  rw [if_neg (by omega), hv]
  have e : ((beN ((t.data.toList.drop p.toNat).take b.toNat) : Nat) : Int).toNat = beN ((t.data.toList.drop p.toNat).take b.toNat) := by simp
  rw [e, txt_beB]
  have hb := be8_beN ((t.data.toList.drop p.toNat).take b.toNat)
  rw [hl] at hb
  rw [hb]
  apply ByteArray.ext
  rw [ByteArray.data_extract]
  apply Array.ext'
  simp
/-- What PutNum writes reads back as the number's lowest bytes, behind one byte more. -/
theorem get_put (n b : Int) (hn : 0 ≤ n) (hb : 1 ≤ b ∧ b ≤ 4) (c : UInt8) : getN ((⟨#[c]⟩ : ByteArray) ++ txt (putN n b)) 1 b = ((n.toNat % 256 ^ b.toNat : Nat) : Int) := by
  have hp : putN n b = beB n.toNat b.toNat := by unfold putN; rw [if_neg (by omega)]
  have hz : ((⟨#[c]⟩ : ByteArray) ++ txt (putN n b)).size = 1 + b.toNat := by
    rw [ByteArray.size_append, txt_size, hp, beB_len]; rfl
  unfold getN
  rw [if_neg (by omega), hp, txt_beB]
  have e : (((⟨#[c]⟩ : ByteArray) ++ (⟨(be8 n.toNat b.toNat).toArray⟩ : ByteArray)).data.toList.drop (1 : Int).toNat).take b.toNat = be8 n.toNat b.toNat := by
    simp [ByteArray.data_append]
    exact List.take_of_length_le (by rw [be8_len]; omega)
  rw [e, beN_be8]
theorem putN_len (n b : Int) (hn : 0 ≤ n) (hb : 1 ≤ b ∧ b ≤ 4) : (txt (putN n b)).size = b.toNat := by
  unfold putN; rw [if_neg (by omega), txt_size, beB_len]
end Go.Proofs.Ytkkmjlpeahkiaaa
