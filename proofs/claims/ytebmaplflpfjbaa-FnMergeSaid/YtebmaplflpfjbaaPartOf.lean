/- What PartOf answers, the program's and the model's: the hash of the key modulo the number of parts. Condition: none beyond what the arguments may be. -/
import Derived.Test.YtebmaplflpfjbaaImplHash
import Derived.Test.YtebmaplflpfjbaaBaseA
namespace Go.Proofs.Ytebmaplflpfjbaa
open Go.RowKit
set_option linter.unusedVariables false

/-- The part of a key among n. -/
def partN (key : ByteArray) (n : Int) : Int := if inB n 1 8 = true then (hashN key.data.toList : Int) % n else 0
theorem partN_off {key : ByteArray} {n : Int} (h : inB n 1 8 = false) : partN key n = 0 := by unfold partN; rw [h]; rfl
theorem partN_in {key : ByteArray} {n : Int} (h : inB n 1 8 = true) : partN key n = (hashN key.data.toList : Int) % n := by unfold partN; rw [if_pos h]
theorem partN_lo (key : ByteArray) (n : Int) : 0 ≤ partN key n := by
  cases h : inB n 1 8
  · rw [partN_off h]; omega
  · rw [partN_in h]
    have : 1 ≤ n := by simp [inB] at h; omega
    exact Int.emod_nonneg _ (by omega)
theorem partN_hi {key : ByteArray} {n : Int} (h : inB n 1 8 = true) : partN key n < n := by
  rw [partN_in h]
  have : 1 ≤ n := by simp [inB] at h; omega
  exact Int.emod_lt_of_pos _ (by omega)
theorem impl_partsOk (n : Int) (w : World) : Calls Try.prog 44 #[.int .i64 n] w fun e w' => e = .returned (.bool (inB n 1 8)) ∧ w = w' := by
  by_cases h1 : 1 ≤ n
  · by_cases h2 : n ≤ 8
    all_goals
      go_enter Try.func44, Try.ntmps44
      go_wp2
      go_ret
      exact ⟨ret_bool (by unfold inB; simp; omega), rfl⟩
  · go_enter Try.func44, Try.ntmps44
    go_wp2
    go_ret
    exact ⟨ret_bool (by unfold inB; simp; omega), rfl⟩
theorem impl_partOf (key : ByteArray) (n : Int) (w : World) (hk : key.size ≤ maxLen) :
    Calls Try.prog 13 #[.string key, .int .i64 n] w fun e w' => e = .returned (.int .i64 (partN key n)) ∧ w = w' := by
  cases h : inB n 1 8
  · have H := Lib.hid h
    go_enter Try.func13, Try.ntmps13
    go_wp2_with (go_at_call 44; refine (impl_partsOk _ _).mono ?_; rintro e w' ⟨rfl, rfl⟩; rw [H.out])
    go_ret
    exact ⟨ret_int (by rw [partN_off H.out]), rfl⟩
  · have H := Lib.hid h
    have h1 : 1 ≤ n ∧ n ≤ 8 := by simpa [inB] using h
    have h2 := Lib.hid (hashN_lt key.data.toList)
    have h3 : Hid ((hashN key.data.toList : Int) % n = partN key n) := Lib.hid (partN_in H.out).symm
    clear h
    go_enter Try.func13, Try.ntmps13
    go_wp2_with (first | (go_at_call 44; refine (impl_partsOk _ _).mono ?_; rintro e w' ⟨rfl, rfl⟩; rw [H.out]) | (go_at_call 15; refine (impl_hash _ _ hk).mono ?_; rintro e w' ⟨rfl, rfl⟩; generalize hashN key.data.toList = X at h2 h3 ⊢; replace h2 := h2.out))
    go_ret
    exact ⟨ret_int h3.out, rfl⟩
theorem spec_partOf (key : ByteArray) (n : Int) (w : World) (hk : key.size ≤ maxLen) :
    Calls Try.prog 14 #[.string key, .int .i64 n] w fun e w' => e = .returned (.int .i64 (partN key n)) ∧ w = w' := by
  cases h : inB n 1 8
  · have H := Lib.hid h
    go_enter Try.func14, Try.ntmps14
    go_wp2_with (go_at_call 45; refine (in_any _ _ _ _).mono ?_; rintro e w' ⟨rfl, rfl⟩; rw [H.out])
    go_ret
    exact ⟨ret_int (by rw [partN_off H.out]), rfl⟩
  · have H := Lib.hid h
    have h1 : 1 ≤ n ∧ n ≤ 8 := by simpa [inB] using h
    have h2 := Lib.hid (hashN_lt key.data.toList)
    have h3 : Hid ((hashN key.data.toList : Int) % n = partN key n) := Lib.hid (partN_in H.out).symm
    clear h
    go_enter Try.func14, Try.ntmps14
    go_wp2_with (first | (go_at_call 45; refine (in_any _ _ _ _).mono ?_; rintro e w' ⟨rfl, rfl⟩; rw [H.out]) | (go_at_call 46; refine (spec_hash _ _ hk).mono ?_; rintro e w' ⟨rfl, rfl⟩; generalize hashN key.data.toList = X at h2 h3 ⊢; replace h2 := h2.out))
    go_ret
    exact ⟨ret_int h3.out, rfl⟩
end Go.Proofs.Ytebmaplflpfjbaa
