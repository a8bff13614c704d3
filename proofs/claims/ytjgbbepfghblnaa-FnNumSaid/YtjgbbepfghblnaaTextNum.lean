/- What spec.PutText and spec.GetText answer. Condition: none beyond what the arguments may be. -/
import Derived.Test.YtjgbbepfghblnaaPutNum
namespace Go.Proofs.Ytjgbbepfghblnaa
open Go.RowKit
set_option linter.unusedVariables false

def putTextB (s : ByteArray) : ByteArray := if 65535 < s.size then ⟨#[]⟩ else txt (putN s.size 2) ++ s
theorem txt_beB_size (n k : Nat) : (txt (beB n k)).size = k := by rw [txt_size, beB_len]
theorem putN_size (n : Nat) : (txt (putN n 2)).size = 2 := by
  unfold putN; rw [if_neg (by omega)]; exact txt_beB_size _ _

theorem spec_putText (s : ByteArray) (w : World) (hs : s.size ≤ maxLen) :
    Calls Try.prog 27 #[.string s] w fun e w' => e = .returned (.string (putTextB s)) ∧ Below w.heap.size w w' := by
  unfold maxLen at hs
  by_cases h : 65535 < (s.size : Int)
  · have hv : Hid ((⟨#[]⟩ : ByteArray) = putTextB s) := Lib.hid (by unfold putTextB; rw [if_pos (by omega)])
    go_enter Try.func27, Try.ntmps27
    go_wp2_with fail
    go_ret
    exact ⟨ret_txt hv.out, Below.refl _ _⟩
  · have hv : Hid (txt (putN s.size 2) ++ s = putTextB s) := Lib.hid (by unfold putTextB; rw [if_neg (by omega)])
    have hz := putN_size s.size
    go_enter Try.func27, Try.ntmps27
    go_wp2_with (go_at_call 20; refine (spec_putNum _ _ (by omega) (by omega) _).mono ?_; rintro e w1 ⟨rfl, hb⟩)
    go_ret
    exact ⟨ret_txt hv.out, hb⟩

def getTextB (s : ByteArray) (p : Int) : ByteArray × Int :=
  if getN s p 2 < 0 ∨ (s.size : Int) < p + 2 + getN s p 2 then (⟨#[]⟩, -1) else (s.extract (p + 2).toNat (p + 2 + getN s p 2).toNat, p + 2 + getN s p 2)
theorem getN_lo (s : ByteArray) (p b : Int) : -1 ≤ getN s p b := by unfold getN; split <;> omega
theorem getN_hi (s : ByteArray) (p b : Int) : getN s p b ≤ 4294967295 := by
  unfold getN
  split
  · omega
  · have := beN_lt4 ((s.data.toList.drop p.toNat).take b.toNat) (by rw [List.length_take]; omega)
    omega
theorem getN_in {s : ByteArray} {p b : Int} (h : ¬ getN s p b < 0) : 0 ≤ p ∧ p ≤ s.size - b ∧ 1 ≤ b ∧ b ≤ 4 := by
  unfold getN at h
  split at h <;> omega
theorem ret_txtint {a b : ByteArray} {x y : Int} (h : (a, x) = (b, y)) : Ending.returned (.tuple #[.string a, .int .i64 x]) = .returned (.tuple #[.string b, .int .i64 y]) := by cases h; rfl

set_option maxHeartbeats 400000 in
theorem spec_getText (s : ByteArray) (p : Int) (hp : -9223372036854775808 ≤ p ∧ p ≤ 9223372036854775807) (w : World) (hs : s.size ≤ 1099511627776) :
    Calls Try.prog 26 #[.string s, .int .i64 p] w fun e w' => e = .returned (.tuple #[.string (getTextB s p).1, .int .i64 (getTextB s p).2]) ∧ w = w' := by
  have h0 := getN_lo s p 2
  have h1 := getN_hi s p 2
  by_cases hn : getN s p 2 < 0
  · have hv : Hid (((⟨#[]⟩ : ByteArray), (-1 : Int)) = getTextB s p) := Lib.hid (by unfold getTextB; rw [if_pos (by omega)])
    go_enter Try.func26, Try.ntmps26
    go_wp2_with (go_at_call 21; refine (spec_getNum _ _ _ (by omega) (by omega) _ (by unfold maxLen; omega)).mono ?_; rintro e w1 ⟨rfl, rfl⟩)
    go_ret2
    exact ⟨ret_txtint hv.out, rfl⟩
  · obtain ⟨hp0, hp1, _, _⟩ := getN_in hn
    by_cases hl : (s.size : Int) < p + 2 + getN s p 2
    · have hv : Hid (((⟨#[]⟩ : ByteArray), (-1 : Int)) = getTextB s p) := Lib.hid (by unfold getTextB; rw [if_pos (by omega)])
      go_enter Try.func26, Try.ntmps26
      go_wp2_with (go_at_call 21; refine (spec_getNum _ _ _ (by omega) (by omega) _ (by unfold maxLen; omega)).mono ?_; rintro e w1 ⟨rfl, rfl⟩)
      go_ret2
      exact ⟨ret_txtint hv.out, rfl⟩
    · have hv : Hid ((s.extract (p + 2).toNat (p + 2 + getN s p 2).toNat, p + 2 + getN s p 2) = getTextB s p) := Lib.hid (by unfold getTextB; rw [if_neg (by omega)])
      go_enter Try.func26, Try.ntmps26
      go_wp2_with (go_at_call 21; refine (spec_getNum _ _ _ (by omega) (by omega) _ (by unfold maxLen; omega)).mono ?_; rintro e w1 ⟨rfl, rfl⟩)
      go_ret2
      exact ⟨ret_txtint hv.out, rfl⟩
end Go.Proofs.Ytjgbbepfghblnaa
