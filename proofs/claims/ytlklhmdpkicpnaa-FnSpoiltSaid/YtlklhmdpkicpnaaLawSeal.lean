/- The law FnSeal: a text comes back from its seal; with some bits in a row of 32 turned there is none. Condition: none. -/
import Derived.Test.YtlklhmdpkicpnaaCurA
import Derived.Test.YtlklhmdpkicpnaaDraw2b
import Derived.Test.YtlklhmdpkicpnaaFmtA
import Derived.Test.YtlklhmdpkicpnaaNumA
namespace Go.Proofs.Ytlklhmdpkicpnaa
open Go.RowKit
set_option linter.unusedVariables false

/-- A byte of the code, or a number that stands for it. -/
theorem at_any (a : Option Addr) (len cap : Nat) (zs : List Int) (i : Nat) (hi : i ≤ 5) (w : World) (hr : Row8 w w.heap.size a len cap zs) (hl : len ≤ 1048576) :
    Calls Try.prog 42 #[.slice a len cap, .int .i64 i] w fun e w' => ∃ x : Nat, x < 256 ∧ e = .returned (.int .i64 x) ∧ w = w' := by
  by_cases h : i < len
  · obtain ⟨b, off, z, rfl, hb, hcell, hz0, hz1, hzz⟩ := hr.byte i h
    clear hzz
    obtain ⟨x, rfl⟩ := Int.eq_ofNat_of_zero_le hz0
    go_enter Try.func42, Try.ntmps42
    go_wp2_with fail
    go_ret
    exact ⟨x, by omega, rfl, rfl⟩
  · have hv : Hid (((i : Int) * 7 + (len : Int)).tmod 256 = (((i * 7 + len) % 256 : Nat) : Int)) := Lib.hid (by rw [Int.tmod_eq_emod_of_nonneg (by omega)]; omega)
    go_enter Try.func42, Try.ntmps42
    go_wp2_with fail
    go_ret
    exact ⟨(i * 7 + len) % 256, by omega, ret_int (by rw [← hv.out]; rfl), rfl⟩

/-- A text as a row of bytes that may be written. -/
theorem conv_bytes_free (s : ByteArray) (w : World) : ∃ cap w1, (convert 9 22 (.string s)).run Try.prog w = .ok (.slice (some ⟨w.heap.size, 0, none⟩) s.size cap) w1 ∧
    RowAt w1 w.heap.size s.data.toList ∧ Below w.heap.size w w1 ∧ w.heap.size < w1.heap.size ∧ s.size ≤ cap ∧ ∀ j, j < s.size → w1.frozen? ⟨w.heap.size, j, none⟩ = false := by
  have hge := grownCap_ge w s.size 0 5
  refine ⟨_, _, run_bytes_of_string w 9 22 5 s Try.underlying9 Try.underlying22 Try.underlying5, fun j h => ?_, ((Below.refl _ _).drew).alloc (Nat.le_refl _) _, by simp, hge, fun j h1 => ?_⟩
  · have hj : j < s.size := by simpa using h
    rw [World.cell?, heap_drew_alloc]
    simp [bytesRow, Array.getElem?_append, hj]
  · rw [World.frozen?, heap_drew_alloc]
    simp [bytesRow]
    omega

theorem test_nat (M k : Nat) (h : M < 4294967296) : bits .and .i64 ((M : Int) / 2 ^ k) 1 = ((M / 2 ^ k % 2 : Nat) : Int) := by
  have hle : M / 2 ^ k ≤ M := Nat.div_le_self _ _
  have h1 := i64_and_nat (M / 2 ^ k) 1 (by omega) (by decide)
  rw [nat_mask1] at h1
  rw [← h1]
  congr 1
theorem test_on (M k : Nat) (hb : M.testBit k = true) (h : M < 4294967296) : (bits .and .i64 ((M : Int) / 2 ^ k) 1 == 1) = true := by
  rw [test_nat M k h]
  rw [Nat.testBit_eq_decide_div_mod_eq] at hb
  have := of_decide_eq_true hb
  rw [this]; rfl
theorem test_off (M k : Nat) (hb : M.testBit k = false) (h : M < 4294967296) : (bits .and .i64 ((M : Int) / 2 ^ k) 1 == 1) = false := by
  rw [test_nat M k h]
  rw [Nat.testBit_eq_decide_div_mod_eq] at hb
  have := of_decide_eq_false hb
  rw [show M / 2 ^ k % 2 = 0 by omega]; rfl
theorem pow_small (r : Nat) (hr : r < 8) : ((2 : Int) ^ r % 256 = ((2 ^ r : Nat) : Int)) ∧ 2 ^ r < 256 := by
  rcases (show r = 0 ∨ r = 1 ∨ r = 2 ∨ r = 3 ∨ r = 4 ∨ r = 5 ∨ r = 6 ∨ r = 7 by omega) with rfl | rfl | rfl | rfl | rfl | rfl | rfl | rfl <;> decide
theorem turn_small (c r : Nat) (hc : c < 256) (hr : r < 8) : c ^^^ 2 ^ r < 256 := xor_lt8 hc (pow_small r hr).2
theorem turn_byte (c r : Nat) (hc : c < 256) (hr : r < 8) : bits .xor .u8 (c : Int) ((2 : Int) ^ r % 256) = ((c ^^^ 2 ^ r : Nat) : Int) := by
  rw [(pow_small r hr).1]
  exact u8_xor_nat c (2 ^ r) hc (pow_small r hr).2
theorem burst_odd (M k : Nat) (hk : 1 ≤ k) (h : M.testBit 0 = true) : M % 2 ^ k ≠ 0 := by
  intro hc
  have h1 : (M % 2 ^ k).testBit 0 = true := by rw [Nat.testBit_mod_two_pow]; simp [h]; omega
  rw [hc] at h1
  simp at h1
theorem toNat_small (n : Nat) (h : n < 256) : (UInt8.ofNat n).toNat = n := by simp; omega
theorem RowAt.set {w : World} {g : Nat} {l : List UInt8} (h : RowAt w g l) (j : Nat) (hj : j < l.length) (v : Value) (c : Nat) (hc : c < 256) (hv : v = .int .u8 (c : Int) := by rfl) : RowAt (w.setCell ⟨g, j, none⟩ v) g (l.set j (UInt8.ofNat c)) := fun i hi => by
  rw [List.length_set] at hi
  by_cases he : j = i
  · subst he
    rw [World.cell?_setCell_same _ _ _ (h j hj), hv]
    simp
    omega
  · rw [World.cell?_setCell_other _ _ _ _ (fun e => he (congrArg Addr.off e)), h i hi]
    simp [he]

end Go.Proofs.Ytlklhmdpkicpnaa
