/- A byte of the code: the same at every call. Condition: a code of at most 2^20 bytes. -/
import Derived.Test.YtkkmjlpeahkiaaaCurPlain
import Derived.Test.YtkkmjlpeahkiaaaBig
namespace Go.Proofs.Ytkkmjlpeahkiaaa
open Go.RowKit
set_option linter.unusedVariables false
set_option linter.unusedSimpArgs false

set_option linter.unusedSimpArgs false

/-- A byte of the code, or a number that stands for it: which one, the code alone says. -/
theorem atD_val (a : Option Addr) (len cap : Nat) (zs : List Int) (i : Nat) (hi : i ≤ 100000) (w : World) (hr : Row8 w w.heap.size a len cap zs) (hl : len ≤ 1048576) :
    Calls Try.prog 44 #[.slice a len cap, .int .i64 i] w fun e w' => ∃ x : Nat, x < 256 ∧ (i < len → (x : Int) = zs.getD i 0) ∧ (¬ i < len → x = (i * 7 + len) % 256) ∧ e = .returned (.int .i64 x) ∧ w = w' := by
  by_cases h : i < len
  · obtain ⟨b, off, z, rfl, hb, hcell, hz0, hz1, hzz⟩ := hr.byte i h
    have HZ := Lib.hid hzz
    clear hzz
    obtain ⟨x, rfl⟩ := Int.eq_ofNat_of_zero_le hz0
    go_enter Try.func44, Try.ntmps44
    go_wp2_with fail
    go_ret
    exact ⟨x, by omega, fun _ => HZ.out, fun h' => absurd h h', rfl, rfl⟩
  · have hv : Hid (((i : Int) * 7 + (len : Int)).tmod 256 = (((i * 7 + len) % 256 : Nat) : Int)) := Lib.hid (by rw [Int.tmod_eq_emod_of_nonneg (by omega)]; omega)
    go_enter Try.func44, Try.ntmps44
    go_wp2_with fail
    go_ret
    exact ⟨(i * 7 + len) % 256, by omega, fun h' => absurd h' h, fun _ => rfl, ret_int (by rw [← hv.out]; rfl), rfl⟩
theorem atD_the (a : Option Addr) (len cap : Nat) (zs : List Int) (i : Nat) (hi : i ≤ 100000) (w : World) (hr : Row8 w w.heap.size a len cap zs) (hl : len ≤ 1048576) :
    ∃ x : Nat, x < 256 ∧ ∀ w', Row8 w' w'.heap.size a len cap zs → Calls Try.prog 44 #[.slice a len cap, .int .i64 i] w' fun e w'' => e = .returned (.int .i64 x) ∧ w' = w'' := by
  by_cases h : i < len
  · obtain ⟨b, off, z, _, _, _, hz0, hz1, hzz⟩ := hr.byte i h
    obtain ⟨x, rfl⟩ := Int.eq_ofNat_of_zero_le hz0
    refine ⟨x, by omega, fun w' hr' => (atD_val a len cap zs i hi w' hr' hl).mono ?_⟩
    rintro e w'' ⟨y, hy, h1, _, rfl, hw⟩
    have := h1 h
    obtain rfl : y = x := by omega
    exact ⟨rfl, hw⟩
  · refine ⟨(i * 7 + len) % 256, by omega, fun w' hr' => (atD_val a len cap zs i hi w' hr' hl).mono ?_⟩
    rintro e w'' ⟨y, hy, _, h2, rfl, hw⟩
    rw [h2 h]
    exact ⟨rfl, hw⟩
end Go.Proofs.Ytkkmjlpeahkiaaa
