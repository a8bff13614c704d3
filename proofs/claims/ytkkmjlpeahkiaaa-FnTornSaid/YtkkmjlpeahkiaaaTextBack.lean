/- Plain facts: a text comes back from its bytes, wherever these stand. Condition: none. -/
import Derived.Test.YtkkmjlpeahkiaaaNumBack
import Derived.Test.YtkkmjlpeahkiaaaTextNum
namespace Go.Proofs.Ytkkmjlpeahkiaaa
open Go.RowKit

theorem getText_parts {t : ByteArray} {p : Int} (h : 0 ≤ (getTextB t p).2) : ∃ P L : Nat, p = P ∧ getN t p 2 = L ∧ P + 2 + L ≤ t.size ∧ L < 65536 ∧ getTextB t p = (t.extract (P + 2) (P + 2 + L), ((P + 2 + L : Nat) : Int)) := by
  have hn : ¬ (getN t p 2 < 0 ∨ (t.size : Int) < p + 2 + getN t p 2) := fun hc => by unfold getTextB at h; rw [if_pos hc] at h; simp at h
  obtain ⟨h0, h1, _, _⟩ := getN_in (show ¬ getN t p 2 < 0 by omega)
  obtain ⟨P, rfl⟩ := Int.eq_ofNat_of_zero_le h0
  obtain ⟨L, hL⟩ := Int.eq_ofNat_of_zero_le (show 0 ≤ getN t P 2 by omega)
  refine ⟨P, L, rfl, hL, by omega, ?_, ?_⟩
  · have hv : getN t P 2 = beN ((t.data.toList.drop P).take 2) := by
      have hne : ¬ ((2 : Int) < 1 ∨ 4 < (2 : Int) ∨ (P : Int) < 0 ∨ (t.size : Int) - 2 < P) := by omega
      unfold getN; rw [if_neg hne]; rfl
    have hlt := beN_lt ((t.data.toList.drop P).take 2)
    have hll : ((t.data.toList.drop P).take 2).length ≤ 2 := by rw [List.length_take]; omega
    have : 256 ^ ((t.data.toList.drop P).take 2).length ≤ 256 ^ 2 := Nat.pow_le_pow_right (by decide) hll
    omega
  · unfold getTextB
    rw [if_neg hn, hL]
    have e1 : ((P : Int) + 2).toNat = P + 2 := by omega
    have e2 : ((P : Int) + 2 + (L : Int)).toNat = P + 2 + L := by omega
    have e3 : ((P + 2 + L : Nat) : Int) = (P : Int) + 2 + (L : Int) := by omega
    rw [e1, e2, e3]
theorem put_getText {t : ByteArray} {p : Int} (h : 0 ≤ (getTextB t p).2) : putTextB (getTextB t p).1 = t.extract p.toNat (getTextB t p).2.toNat := by
  obtain ⟨P, L, rfl, hL, hle, hlt, hv⟩ := getText_parts h
  have hpg := put_get t P 2 (by omega)
  rw [hv]
  have hsz : (t.extract (P + 2) (P + 2 + L)).size = L := by simp; omega
  unfold putTextB
  rw [if_neg (by show ¬ 65535 < (t.extract (P + 2) (P + 2 + L)).size; omega)]
  show txt (putN (t.extract (P + 2) (P + 2 + L)).size 2) ++ t.extract (P + 2) (P + 2 + L) = _
  rw [hsz, ← hL, hpg]
  have e : ((P : Int)).toNat = P := by omega
  have e2 : (2 : Int).toNat = 2 := rfl
  show t.extract (P : Int).toNat ((P : Int).toNat + (2 : Int).toNat) ++ t.extract (P + 2) (P + 2 + L) = t.extract (P : Int).toNat (((P + 2 + L : Nat) : Int)).toNat
  rw [e, e2]
  apply ByteArray.ext
  simp only [ByteArray.data_append, ByteArray.data_extract, Int.toNat_natCast]
  rw [Array.extract_append_extract]
  congr 1 <;> omega
/-- What PutText writes reads back, behind four bytes and ahead of others. -/
theorem get_putText (s tail : ByteArray) (h : s.size ≤ 65535) (a b c d : UInt8) : getTextB ((⟨#[a, b, c, d]⟩ : ByteArray) ++ putTextB s ++ tail) 4 = (s, 4 + ((putTextB s).size : Int)) := by
  have hp : putTextB s = txt (putN s.size 2) ++ s := by unfold putTextB; rw [if_neg (by omega)]
  have hpn : putN (s.size : Int) 2 = beB s.size 2 := by unfold putN; rw [if_neg (by omega)]; rfl
  have hz : (putTextB s).size = 2 + s.size := by rw [hp, ByteArray.size_append, putN_size]
  have hz4 : ((⟨#[a, b, c, d]⟩ : ByteArray) ++ putTextB s ++ tail).size = 4 + (2 + s.size) + tail.size := by
    rw [ByteArray.size_append, ByteArray.size_append, hz]; rfl
  have hdat : ((⟨#[a, b, c, d]⟩ : ByteArray) ++ putTextB s ++ tail).data.toList = [a, b, c, d] ++ (be8 s.size 2 ++ s.data.toList) ++ tail.data.toList := by
    rw [hp, hpn, txt_beB]; simp [ByteArray.data_append]
  have hg : getN ((⟨#[a, b, c, d]⟩ : ByteArray) ++ putTextB s ++ tail) 4 2 = (s.size : Int) := by
    unfold getN
    rw [if_neg (by rw [hz4]; omega), hdat]
    have e : (([a, b, c, d] ++ (be8 s.size 2 ++ s.data.toList) ++ tail.data.toList).drop (4 : Int).toNat).take (2 : Int).toNat = be8 s.size 2 := by
      show (be8 s.size 2 ++ s.data.toList ++ tail.data.toList).take 2 = _
      rw [List.append_assoc, List.take_append_of_le_length (by rw [be8_len]; exact Nat.le_refl _), List.take_of_length_le (by rw [be8_len]; exact Nat.le_refl _)]
    rw [e, beN_be8]
    have : s.size % 256 ^ 2 = s.size := Nat.mod_eq_of_lt (by omega)
    rw [this]
  unfold getTextB
  rw [if_neg (by rw [hg, hz4]; omega), hg]
  have e1 : ((4 : Int) + 2).toNat = 6 := rfl
  have e2 : ((4 : Int) + 2 + (s.size : Int)).toNat = 6 + s.size := by omega
  rw [e1, e2]
  refine Prod.ext ?_ (by show (4 : Int) + 2 + (s.size : Int) = 4 + ((putTextB s).size : Int); omega)
  show ((⟨#[a, b, c, d]⟩ : ByteArray) ++ putTextB s ++ tail).extract 6 (6 + s.size) = s
  apply ByteArray.ext
  apply Array.ext'
  rw [ByteArray.data_extract, Array.toList_extract, List.extract_eq_take_drop, hdat]
  have e6 : ([a, b, c, d] ++ (be8 s.size 2 ++ s.data.toList) ++ tail.data.toList) = ([a, b, c, d] ++ be8 s.size 2) ++ (s.data.toList ++ tail.data.toList) := by simp
  rw [e6, show 6 + s.size - 6 = s.size by omega, List.drop_append_of_le_length (by simp [be8_len]), List.drop_of_length_le (by simp [be8_len])]
  simp
end Go.Proofs.Ytkkmjlpeahkiaaa
