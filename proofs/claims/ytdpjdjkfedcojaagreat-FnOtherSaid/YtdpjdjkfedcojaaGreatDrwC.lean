/- What the proofs of this seat have in common: plain facts, rows in memory, the laws' own helpers, the small functions' contracts. Condition: none. -/
import Derived.Test.YtdpjdjkfedcojaaGreatCurA
import Derived.Test.YtdpjdjkfedcojaaGreatText
import Derived.Test.YtdpjdjkfedcojaaGreatNumA
import Derived.OwnWalk
import Derived.Laws.OwnMore
import Derived.Test.YtdpjdjkfedcojaaGreatFmtA
namespace Go.Proofs.YtdpjdjkfedcojaaGreat
open Go.RowKit
set_option linter.unusedVariables false

end Go.Proofs.YtdpjdjkfedcojaaGreat

namespace Go.Proofs.YtdpjdjkfedcojaaGreat
open Go.RowKit
set_option linter.unusedVariables false

def DrawnPut (w : World) (e : Ending) (w' : World) : Prop := ∃ n b : Int, e = .returned (.tuple #[.int .i64 n, .int .i64 b]) ∧ (-9223372036854775808 ≤ n ∧ n ≤ 9223372036854775807) ∧ (-1 ≤ b ∧ b ≤ 5) ∧ Below w.heap.size w w'
def DrawnGet (w : World) (e : Ending) (w' : World) : Prop := ∃ (s : ByteArray) (p b : Int), e = .returned (.tuple #[.string s, .int .i64 p, .int .i64 b]) ∧ s.size ≤ 7 ∧ (-9223372036854775808 ≤ p ∧ p ≤ 9223372036854775807) ∧ (-1 ≤ b ∧ b ≤ 5) ∧ Below w.heap.size w w'

end Go.Proofs.YtdpjdjkfedcojaaGreat

namespace Go.Proofs.YtdpjdjkfedcojaaGreat
open Go.RowKit
set_option linter.unusedVariables false

theorem Cu.kept_below {T : TypeId} {w w' : World} {B b blk : Nat} (c : Cu T w B blk) (hf : Below b w w') (hB : B ≤ b) (hb : blk < b) : Cu T w' B blk := c.kept (hf.mono hB) (hf.block _ hb)

/-- 'make([]byte, n)', and what it reads as. -/
theorem make_zeros (i0 : TypeInfo) (hi : Tryz.prog.info? 5 = some i0) (hz0 : i0.zero = some (.int .u8 0)) (hz1 : i0.size = 1) (hz2 : i0.bytes = 1) (w : World) (N : Int) (n : Nat) (hN : N = n) (hn : n ≤ 1048576) (h1 : 0 < n) :
    ∃ w', (Instr.makeSlice 22 (.int .i64 N) (.int .i64 N)).run Tryz.prog w = .ok (.slice (some ⟨w.heap.size, 0, none⟩) n n) w' ∧ (convert 22 9 (.slice (some ⟨w.heap.size, 0, none⟩) n n)).run Tryz.prog w' = .ok (.string (txt (List.replicate n 0))) w' ∧ Below w.heap.size w w' := by
  subst hN
  obtain ⟨w', hrun, hown, hgr⟩ := run_make_full (P := Tryz.prog) w w.heap.size 22 5 i0 (.int .u8 0) 1 Tryz.underlying22 hi hz0 hz1 .i64 .i64 n (by rw [hz2]; omega) (by unfold maxLen; omega) (Nat.le_refl _)
  have hb : Bytes8 w' w.heap.size (.slice (some ⟨w.heap.size, 0, none⟩) n n) (List.replicate n 0) := ⟨by
    rw [Nat.mul_one] at hown
    have e : (madeCells (Value.int .u8 0).cells n).toList = (List.replicate n (0 : Int)).map (Value.int .u8) := by
      rw [show (Value.int .u8 0).cells = #[Value.int .u8 0] from rfl, toList_madeCells_one]; simp
    rw [e] at hown
    simpa using hown, fun x hx => by rw [List.eq_of_mem_replicate hx]; omega⟩
  obtain ⟨g, cap, hv, _, _, hc⟩ := hb.str (by simpa using h1)
  exact ⟨w', hrun, hc, (Below.refl _ _).grown hgr (Nat.le_refl _) (fun k hk => by cases hk)⟩

end Go.Proofs.YtdpjdjkfedcojaaGreat

namespace Go.Proofs.YtdpjdjkfedcojaaGreat
open Go.RowKit
set_option linter.unusedVariables false

/-- A byte of the code, or a number that stands for it. -/
theorem at_any (a : Option Addr) (len cap : Nat) (zs : List Int) (i : Nat) (hi : i ≤ 5) (w : World) (hr : Row8 w w.heap.size a len cap zs) (hl : len ≤ 1048576) :
    Calls Tryz.prog 8 #[.slice a len cap, .int .i64 i] w fun e w' => ∃ x : Nat, x < 256 ∧ e = .returned (.int .i64 x) ∧ w = w' := by
  by_cases h : i < len
  · obtain ⟨b, off, z, rfl, hb, hcell, hz0, hz1, hzz⟩ := hr.byte i h
    clear hzz
    obtain ⟨x, rfl⟩ := Int.eq_ofNat_of_zero_le hz0
    go_enter Tryz.func8, Tryz.ntmps8
    go_wp2_with fail
    go_ret
    exact ⟨x, by omega, rfl, rfl⟩
  · have hv : Hid (((i : Int) * 7 + (len : Int)).tmod 256 = (((i * 7 + len) % 256 : Nat) : Int)) := Lib.hid (by rw [Int.tmod_eq_emod_of_nonneg (by omega)]; omega)
    go_enter Tryz.func8, Tryz.ntmps8
    go_wp2_with fail
    go_ret
    exact ⟨(i * 7 + len) % 256, by omega, ret_int (by rw [← hv.out]; rfl), rfl⟩

/-- A text as a row of bytes that may be written. -/
theorem conv_bytes_free (s : ByteArray) (w : World) : ∃ cap w1, (convert 9 22 (.string s)).run Tryz.prog w = .ok (.slice (some ⟨w.heap.size, 0, none⟩) s.size cap) w1 ∧
    RowAt w1 w.heap.size s.data.toList ∧ Below w.heap.size w w1 ∧ w.heap.size < w1.heap.size ∧ s.size ≤ cap ∧ ∀ j, j < s.size → w1.frozen? ⟨w.heap.size, j, none⟩ = false := by
  have hge := grownCap_ge w s.size 0 5
  refine ⟨_, _, run_bytes_of_string w 9 22 5 s Tryz.underlying9 Tryz.underlying22 Tryz.underlying5, fun j h => ?_, ((Below.refl _ _).drew).alloc (Nat.le_refl _) _, by simp, hge, fun j h1 => ?_⟩
  · have hj : j < s.size := by simpa using h
    rw [World.cell?, heap_drew_alloc]
    simp [bytesRow, Array.getElem?_append, hj]
  · rw [World.frozen?, heap_drew_alloc]
    simp [bytesRow]
    omega

theorem test_nat (M k : Nat) (h : M < 4294967296) : bits .and .i64 ((M : Int) / 2 ^ k) 1 = ((M / 2 ^ k % 2 : Nat) : Int) := by
  have hle : M / 2 ^ k ≤ M := Nat.div_le_self _ _
  have h1 := i64_and_nat (M / 2 ^ k) 1 (by omega) (by decide)
  rw [nat_mask1] at h1
  rw [← h1]
  congr 1
theorem test_on (M k : Nat) (hb : M.testBit k = true) (h : M < 4294967296) : (bits .and .i64 ((M : Int) / 2 ^ k) 1 == 1) = true := by
  rw [test_nat M k h]
  rw [Nat.testBit_eq_decide_div_mod_eq] at hb
  have := of_decide_eq_true hb
  rw [this]; rfl
theorem test_off (M k : Nat) (hb : M.testBit k = false) (h : M < 4294967296) : (bits .and .i64 ((M : Int) / 2 ^ k) 1 == 1) = false := by
  rw [test_nat M k h]
  rw [Nat.testBit_eq_decide_div_mod_eq] at hb
  have := of_decide_eq_false hb
  rw [show M / 2 ^ k % 2 = 0 by omega]; rfl
theorem pow_small (r : Nat) (hr : r < 8) : ((2 : Int) ^ r % 256 = ((2 ^ r : Nat) : Int)) ∧ 2 ^ r < 256 := by
  rcases (show r = 0 ∨ r = 1 ∨ r = 2 ∨ r = 3 ∨ r = 4 ∨ r = 5 ∨ r = 6 ∨ r = 7 by omega) with rfl | rfl | rfl | rfl | rfl | rfl | rfl | rfl <;> decide
theorem turn_small (c r : Nat) (hc : c < 256) (hr : r < 8) : c ^^^ 2 ^ r < 256 := xor_lt8 hc (pow_small r hr).2
theorem turn_byte (c r : Nat) (hc : c < 256) (hr : r < 8) : bits .xor .u8 (c : Int) ((2 : Int) ^ r % 256) = ((c ^^^ 2 ^ r : Nat) : Int) := by
  rw [(pow_small r hr).1]
  exact u8_xor_nat c (2 ^ r) hc (pow_small r hr).2
theorem burst_odd (M k : Nat) (hk : 1 ≤ k) (h : M.testBit 0 = true) : M % 2 ^ k ≠ 0 := by
  intro hc
  have h1 : (M % 2 ^ k).testBit 0 = true := by rw [Nat.testBit_mod_two_pow]; simp [h]; omega
  rw [hc] at h1
  simp at h1
theorem toNat_small (n : Nat) (h : n < 256) : (UInt8.ofNat n).toNat = n := by simp; omega
theorem RowAt.set {w : World} {g : Nat} {l : List UInt8} (h : RowAt w g l) (j : Nat) (hj : j < l.length) (v : Value) (c : Nat) (hc : c < 256) (hv : v = .int .u8 (c : Int) := by rfl) : RowAt (w.setCell ⟨g, j, none⟩ v) g (l.set j (UInt8.ofNat c)) := fun i hi => by
  rw [List.length_set] at hi
  by_cases he : j = i
  · subst he
    rw [World.cell?_setCell_same _ _ _ (h j hj), hv]
    simp
    omega
  · rw [World.cell?_setCell_other _ _ _ _ (fun e => he (congrArg Addr.off e)), h i hi]
    simp [he]

end Go.Proofs.YtdpjdjkfedcojaaGreat
