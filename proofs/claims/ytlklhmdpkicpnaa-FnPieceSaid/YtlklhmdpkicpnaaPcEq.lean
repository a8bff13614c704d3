/- Pieces compared, as the program compares two structs. Condition: none. -/
import Derived.Test.YtlklhmdpkicpnaaSpecPc
import Derived.Laws.StructEq
namespace Go.Proofs.Ytlklhmdpkicpnaa
set_option linter.unusedVariables false
set_option linter.unusedSimpArgs false
theorem eq_pc_run (a b c d : Int) (s t : ByteArray) (a2 b2 : Int) (w : World) : (Op.equalIn 10000 25 (.agg #[.int .i64 a, .int .i64 b, .string s, .int .i64 c]) (.agg #[.int .i64 a2, .int .i64 b2, .string t, .int .i64 d])).run Try.prog w = .ok (a == a2 && b == b2 && s.toList == t.toList && c == d) w := by
  have u1 := Try.underlying3
  have a1 := Try.isAgg3
  have z1 := Try.sizeOf3
  have u2 := Try.underlying9
  have a2' := Try.isAgg9
  have z2 := Try.sizeOf9
  have hS : Try.prog.underlying 25 = some (.struct (Try.prog.fieldsOf 25)) := by kernel_rfl
  have hp : Try.prog.stoodInHeld 25 = false := by kernel_rfl
  rw [show (10000 : Nat) = 9999 + 1 from rfl, run_equalIn_agg w 9999 25 _ _ hS hp]
  simp only [Program.fieldsOf, Try.underlying25]
  go_simp
  by_cases h1 : a = a2 <;> by_cases h2 : b = b2 <;> by_cases h3 : s.toList = t.toList <;> by_cases h4 : c = d <;> simp [h1, h2, h3, h4]
theorem eql_pc (a b c : Int) (s : ByteArray) (w : World) : (binOp .eql 25 (.agg #[.int .i64 a, .int .i64 b, .string s, .int .i64 c]) (.agg #[.int .i64 a, .int .i64 b, .string s, .int .i64 c])).run Try.prog w = .ok (.bool true) w := by
  rw [run_eql_struct, eq_pc_run]
  simp
theorem neq_pc (a b c : Int) (s : ByteArray) (w : World) : (binOp .neq 25 (.agg #[.int .i64 a, .int .i64 b, .string s, .int .i64 c]) (.agg #[.int .i64 a, .int .i64 b, .string s, .int .i64 c])).run Try.prog w = .ok (.bool false) w := by
  rw [run_neq_struct, eq_pc_run]
  simp
end Go.Proofs.Ytlklhmdpkicpnaa
