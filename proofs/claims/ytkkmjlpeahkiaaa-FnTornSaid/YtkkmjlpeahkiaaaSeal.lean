/- What spec.Sealed and spec.Opened answer. Condition: a text of at most 2^40 bytes. -/
import Derived.Test.YtkkmjlpeahkiaaaSum
import Derived.Test.YtkkmjlpeahkiaaaPutNum
namespace Go.Proofs.Ytkkmjlpeahkiaaa
open Go.RowKit
set_option linter.unusedVariables false

/-- The four bytes of a number, the lowest first. -/
def leB (n : Nat) : List Int := [(n : Int) % 256, (n : Int) / 256 % 256, (n : Int) / 65536 % 256, (n : Int) / 16777216 % 256]
def sealB (s : ByteArray) : ByteArray := s ++ txt (leB (crcN s.data.toList))
theorem leB_size (n : Nat) : (txt (leB n)).size = 4 := by rw [txt_size]; rfl

theorem spec_sealed (s : ByteArray) (w : World) (hs : s.size ≤ 1099511627776) :
    Calls Try.prog 57 #[.string s] w fun e w' => e = .returned (.string (sealB s)) ∧ Below w.heap.size w w' := by
  have hn := crcN_lt s.data.toList
  have hv : Hid (s ++ txt (leB (crcN s.data.toList)) = sealB s) := Lib.hid rfl
  have hz := leB_size (crcN s.data.toList)
  have htop : (crcN s.data.toList : Int) / 16777216 % 256 = (crcN s.data.toList : Int) / 16777216 := by omega
  have hconv := conv_lit w (leB (crcN s.data.toList)) (by unfold leB; intro x hx; simp at hx; omega) 4 4 rfl
  simp only [leB, htop, List.map] at hconv
  rw [← show txt (leB (crcN s.data.toList)) = txt [(crcN s.data.toList : Int) % 256, (crcN s.data.toList : Int) / 256 % 256, (crcN s.data.toList : Int) / 65536 % 256, (crcN s.data.toList : Int) / 16777216] by rw [← htop]; rfl] at hconv
  clear htop
  go_enter Try.func57, Try.ntmps57
  go_wp2_with (go_at_call 74; refine (spec_crc _ _ (by unfold maxLen; omega)).mono ?_; rintro e w1 ⟨rfl, rfl⟩)
  go_ret
  exact ⟨ret_txt hv.out, (Below.refl _ _).alloc (Nat.le_refl _) _⟩

def openB (s : ByteArray) : ByteArray × Bool := if s.size < 4 then (⟨#[]⟩, false) else if sealB (s.extract 0 (s.size - 4)) = s then (s.extract 0 (s.size - 4), true) else (⟨#[]⟩, false)
theorem str_eq {a b : ByteArray} (h : a = b) : (a.toList == b.toList) = true := by rw [h]; simp
theorem str_ne {a b : ByteArray} (h : ¬ a = b) : (a.toList == b.toList) = false := by
  rw [Bool.eq_false_iff]; intro hc; apply h
  simp only [ByteArray.toList_eq, beq_iff_eq] at hc
  exact ByteArray.ext (Array.toList_inj.mp hc)
theorem ret_txtbool {a b : ByteArray} {x y : Bool} (h : (a, x) = (b, y)) : Ending.returned (.tuple #[.string a, .bool x]) = .returned (.tuple #[.string b, .bool y]) := by cases h; rfl

theorem spec_opened (s : ByteArray) (w : World) (hs : s.size ≤ 1099511627776) :
    Calls Try.prog 61 #[.string s] w fun e w' => e = .returned (.tuple #[.string (openB s).1, .bool (openB s).2]) ∧ Below w.heap.size w w' := by
  by_cases h4 : s.size < 4
  · have hv : Hid (((⟨#[]⟩ : ByteArray), false) = openB s) := Lib.hid (by unfold openB; rw [if_pos h4])
    go_enter Try.func61, Try.ntmps61
    go_wp2_with fail
    go_ret2
    exact ⟨ret_txtbool hv.out, Below.refl _ _⟩
  · have hsz : (s.extract 0 (s.size - 4)).size = s.size - 4 := by simp
    have e1 : ((s.size : Int) - 4).toNat = s.size - 4 := by omega
    by_cases hq : sealB (s.extract 0 (s.size - 4)) = s
    · have hv : Hid ((s.extract 0 (s.size - 4), true) = openB s) := Lib.hid (by unfold openB; rw [if_neg h4, if_pos hq])
      have hqt := str_eq hq
      clear hq
      go_enter Try.func61, Try.ntmps61
      go_wp2_with (go_at_call 57; refine (spec_sealed _ _ (by omega)).mono ?_; rintro e w1 ⟨rfl, hb⟩)
      go_ret2
      exact ⟨ret_txtbool hv.out, hb⟩
    · have hv : Hid (((⟨#[]⟩ : ByteArray), false) = openB s) := Lib.hid (by unfold openB; rw [if_neg h4, if_neg hq])
      have hqt := str_ne hq
      clear hq
      go_enter Try.func61, Try.ntmps61
      go_wp2_with (go_at_call 57; refine (spec_sealed _ _ (by omega)).mono ?_; rintro e w1 ⟨rfl, hb⟩)
      go_ret2
      exact ⟨ret_txtbool hv.out, hb⟩
end Go.Proofs.Ytkkmjlpeahkiaaa
