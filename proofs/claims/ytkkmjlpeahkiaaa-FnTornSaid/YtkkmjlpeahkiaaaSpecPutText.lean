/- What spec.PutText answers. Condition: none. -/
import Derived.Test.YtkkmjlpeahkiaaaPutNum
namespace Go.Proofs.Ytkkmjlpeahkiaaa
open Go.RowKit
set_option linter.unusedVariables false

def putTextB (s : ByteArray) : ByteArray := if 65535 < s.size then ⟨#[]⟩ else txt (putN s.size 2) ++ s
theorem txt_beB_size (n k : Nat) : (txt (beB n k)).size = k := by rw [txt_size, beB_len]
theorem putN_size (n : Nat) : (txt (putN n 2)).size = 2 := by
  unfold putN; rw [if_neg (by omega)]; exact txt_beB_size _ _

theorem spec_putText (s : ByteArray) (w : World) (hs : s.size ≤ maxLen) :
    Calls Try.prog 56 #[.string s] w fun e w' => e = .returned (.string (putTextB s)) ∧ Below w.heap.size w w' := by
  unfold maxLen at hs
  by_cases h : 65535 < (s.size : Int)
  · have hv : Hid ((⟨#[]⟩ : ByteArray) = putTextB s) := Lib.hid (by unfold putTextB; rw [if_pos (by omega)])
    go_enter Try.func56, Try.ntmps56
    go_wp2_with fail
    go_ret
    exact ⟨ret_txt hv.out, Below.refl _ _⟩
  · have hv : Hid (txt (putN s.size 2) ++ s = putTextB s) := Lib.hid (by unfold putTextB; rw [if_neg (by omega)])
    have hz := putN_size s.size
    go_enter Try.func56, Try.ntmps56
    go_wp2_with (go_at_call 73; refine (spec_putNum _ _ (by omega) (by omega) _).mono ?_; rintro e w1 ⟨rfl, hb⟩)
    go_ret
    exact ⟨ret_txt hv.out, hb⟩

def getTextB (s : ByteArray) (p : Int) : ByteArray × Int :=
  if getN s p 2 < 0 ∨ (s.size : Int) < p + 2 + getN s p 2 then (⟨#[]⟩, -1) else (s.extract (p + 2).toNat (p + 2 + getN s p 2).toNat, p + 2 + getN s p 2)
theorem getN_lo (s : ByteArray) (p b : Int) : -1 ≤ getN s p b := by unfold getN; split <;> omega
theorem getN_hi (s : ByteArray) (p b : Int) : getN s p b ≤ 4294967295 := by
  unfold getN
  split
  · omega
  · have := beN_lt4 ((s.data.toList.drop p.toNat).take b.toNat) (by rw [List.length_take]; omega)
    omega
theorem getN_in {s : ByteArray} {p b : Int} (h : ¬ getN s p b < 0) : 0 ≤ p ∧ p ≤ s.size - b ∧ 1 ≤ b ∧ b ≤ 4 := by
  unfold getN at h
  split at h <;> omega
theorem ret_txtint {a b : ByteArray} {x y : Int} (h : (a, x) = (b, y)) : Ending.returned (.tuple #[.string a, .int .i64 x]) = .returned (.tuple #[.string b, .int .i64 y]) := by cases h; rfl
end Go.Proofs.Ytkkmjlpeahkiaaa
