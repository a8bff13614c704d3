/- 'make([]byte, n)', and what it reads as. Condition: a number from 1 to 2^20. -/
import Derived.Test.YtkkmjlpeahkiaaaBytes
import Derived.OwnWalk
import Derived.Laws.OwnMore
namespace Go.Proofs.Ytkkmjlpeahkiaaa
open Go.RowKit
set_option linter.unusedVariables false

/-- 'make([]byte, n)', and what it reads as. -/
theorem make_zeros (i0 : TypeInfo) (hi : Try.prog.info? 5 = some i0) (hz0 : i0.zero = some (.int .u8 0)) (hz1 : i0.size = 1) (hz2 : i0.bytes = 1) (w : World) (N : Int) (n : Nat) (hN : N = n) (hn : n ≤ 1048576) (h1 : 0 < n) :
    ∃ w', (Instr.makeSlice 45 (.int .i64 N) (.int .i64 N)).run Try.prog w = .ok (.slice (some ⟨w.heap.size, 0, none⟩) n n) w' ∧ (convert 45 9 (.slice (some ⟨w.heap.size, 0, none⟩) n n)).run Try.prog w' = .ok (.string (txt (List.replicate n 0))) w' ∧ Below w.heap.size w w' := by
  subst hN
  obtain ⟨w', hrun, hown, hgr⟩ := run_make_full (P := Try.prog) w w.heap.size 45 5 i0 (.int .u8 0) 1 Try.underlying45 hi hz0 hz1 .i64 .i64 n (by rw [hz2]; omega) (by unfold maxLen; omega) (Nat.le_refl _)
  have hb : Bytes8 w' w.heap.size (.slice (some ⟨w.heap.size, 0, none⟩) n n) (List.replicate n 0) := ⟨by
    rw [Nat.mul_one] at hown
    have e : (madeCells (Value.int .u8 0).cells n).toList = (List.replicate n (0 : Int)).map (Value.int .u8) := by
      rw [show (Value.int .u8 0).cells = #[Value.int .u8 0] from rfl, toList_madeCells_one]; simp
    rw [e] at hown
    simpa using hown, fun x hx => by rw [List.eq_of_mem_replicate hx]; omega⟩
  obtain ⟨g, cap, hv, _, _, hc⟩ := hb.str (by simpa using h1)
  exact ⟨w', hrun, hc, (Below.refl _ _).grown hgr (Nat.le_refl _) (fun k hk => by cases hk)⟩

end Go.Proofs.Ytkkmjlpeahkiaaa
