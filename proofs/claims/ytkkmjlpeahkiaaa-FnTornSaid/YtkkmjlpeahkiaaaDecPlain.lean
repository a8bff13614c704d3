/- Plain facts on decimal numerals: no program is named here. Condition: none. -/
import Derived.WalkKit
import Derived.Lib.Hide
import Derived.Lib.ItoaNum
import Derived.Lib.ItoaLen
import Derived.Lib.Strings
namespace Go.Proofs.Ytkkmjlpeahkiaaa
open Go.RowKit

def digs (u : Nat) : List UInt8 := if u = 0 then [] else Lib.decDigits u
theorem digs_step (m : Nat) (h : 0 < m) : digs m = digs (m / 10) ++ [UInt8.ofNat (48 + m % 10)] := by
  unfold digs
  rw [if_neg (by omega), Lib.decDigits]
  by_cases h' : m < 10
  · rw [dif_pos h', if_pos (by omega), show m % 10 = m by omega]; rfl
  · rw [dif_neg h', if_neg (by omega)]

/-- What is left of a number's digits stands ahead of those that were written. -/
def Left (n m : Nat) (s : ByteArray) : Prop := digs m ++ s.data.toList = Lib.decDigits n
theorem Left.start (n : Nat) (h : 0 < n) : Left n n ⟨#[]⟩ := by
  unfold Left digs; rw [if_neg (by omega)]; simp
theorem Left.bound {n m : Nat} {s : ByteArray} (h : Left n m s) (hn : n < 18446744073709551616) : s.size ≤ 20 := by
  have := congrArg List.length h
  rw [List.length_append, Lib.decDigits_length] at this
  have h20 := Lib.nDigits_le20 n hn
  have : s.data.toList.length = s.size := by simp
  omega
theorem Left.step {n m : Nat} {s : ByteArray} (h : Left n m s) (hm : 0 < m) : Left n (m / 10) ((⟨#[48, 49, 50, 51, 52, 53, 54, 55, 56, 57]⟩ : ByteArray).extract (m % 10) (m % 10 + 1) ++ s) := by
  unfold Left at *
  rw [← h, digs_step m hm, ByteArray.data_append, Array.toList_append, Lib.extract_data, ← List.append_assoc]
  congr 2
  have : m % 10 < 10 := by omega
  generalize m % 10 = d at this
  match d, this with
  | 0, _ | 1, _ | 2, _ | 3, _ | 4, _ | 5, _ | 6, _ | 7, _ | 8, _ | 9, _ => rfl
theorem Left.step1 {n m : Nat} {s : ByteArray} (h : Left n m s) (hm : 0 < m) : Left n (m / 10) ((⟨#[UInt8.ofNat (48 + m % 10)]⟩ : ByteArray) ++ s) := by
  unfold Left at *
  rw [← h, digs_step m hm, ByteArray.data_append, Array.toList_append, ← List.append_assoc]
theorem Left.fin {n : Nat} {s : ByteArray} (h : Left n 0 s) : s = ⟨(Lib.decDigits n).toArray⟩ := by
  unfold Left digs at h
  rw [if_pos rfl, List.nil_append] at h
  rw [← h]
theorem itoa_pos (n : Nat) : Lib.itoa n = Lib.decDigits n := by
  unfold Lib.itoa; rw [if_neg (by omega)]; simp
theorem itoa_neg (n : Nat) (h : 0 < n) : Lib.itoa (-(n : Int)) = 45 :: Lib.decDigits n := by
  unfold Lib.itoa; rw [if_pos (by omega)]; simp
theorem ret_str {a b : ByteArray} (h : a = b) : Ending.returned (.string a) = .returned (.string b) := by rw [h]
theorem Left.fin_neg {n : Nat} {s : ByteArray} (h : Left n 0 s) : (⟨#[45]⟩ : ByteArray) ++ s = ⟨((45 : UInt8) :: Lib.decDigits n).toArray⟩ := by
  rw [h.fin]; apply ByteArray.ext; simp
end Go.Proofs.Ytkkmjlpeahkiaaa
