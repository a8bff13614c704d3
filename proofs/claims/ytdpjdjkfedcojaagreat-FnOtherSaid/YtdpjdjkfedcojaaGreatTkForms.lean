/- A Taker as the program holds it; two compared; the laws' own helpers. Condition: none. -/
import Derived.Test.YtdpjdjkfedcojaaGreatTkPlain
import Derived.Test.YtdpjdjkfedcojaaGreatSpecPc
import Derived.Laws.StructEq
namespace Go.Proofs.YtdpjdjkfedcojaaGreat
open Go.RowKit
set_option linter.unusedVariables false
set_option linter.unusedSimpArgs false

def tkrV (t : Tkr) : Value := .agg #[.int .i64 t.of, .int .i64 t.nx, .int .i64 t.ch, .string t.b]
/-- What a Taker that is an argument may hold. -/
def FitTkr (t : Tkr) : Prop := (-9223372036854775808 ≤ t.of ∧ t.of ≤ 9223372036854775807) ∧ (-9223372036854775808 ≤ t.nx ∧ t.nx ≤ 9223372036854775807) ∧ (-9223372036854775808 ≤ t.ch ∧ t.ch ≤ 9223372036854775807) ∧ t.b.size ≤ maxLen
theorem eq_tk_run (a b c a2 b2 c2 : Int) (s t : ByteArray) (w : World) : (Op.equalIn 10000 34 (.agg #[.int .i64 a, .int .i64 b, .int .i64 c, .string s]) (.agg #[.int .i64 a2, .int .i64 b2, .int .i64 c2, .string t])).run Tryz.prog w = .ok (a == a2 && b == b2 && c == c2 && s.toList == t.toList) w := by
  have u1 := Tryz.underlying3
  have a1 := Tryz.isAgg3
  have z1 := Tryz.sizeOf3
  have u2 := Tryz.underlying9
  have a2' := Tryz.isAgg9
  have z2 := Tryz.sizeOf9
  have hS : Tryz.prog.underlying 34 = some (.struct (Tryz.prog.fieldsOf 34)) := by kernel_rfl
  have hp : Tryz.prog.stoodInHeld 34 = false := by kernel_rfl
  rw [show (10000 : Nat) = 9999 + 1 from rfl, run_equalIn_agg w 9999 34 _ _ hS hp]
  simp only [Program.fieldsOf, Tryz.underlying34]
  go_simp
  by_cases h1 : a = a2 <;> by_cases h2 : b = b2 <;> by_cases h4 : c = c2 <;> by_cases h3 : s.toList = t.toList <;> simp [h1, h2, h3, h4]
def tkrEq (t u : Tkr) : Bool := decide (t.of = u.of) && (decide (t.nx = u.nx) && (decide (t.ch = u.ch) && decide (t.b = u.b)))
theorem tkrEq_iff {t u : Tkr} : tkrEq t u = true ↔ t = u := by
  obtain ⟨a, b, c, s⟩ := t
  obtain ⟨a2, b2, c2, s2⟩ := u
  unfold tkrEq
  simp only [Bool.and_eq_true, decide_eq_true_eq, Tkr.mk.injEq]
theorem tkrEq_refl (t : Tkr) : tkrEq t t = true := tkrEq_iff.2 rfl
theorem tkrEq_run (t u : Tkr) : (t.of == u.of && t.nx == u.nx && t.ch == u.ch && t.b.toList == u.b.toList) = tkrEq t u := by
  unfold tkrEq
  rw [Bool.eq_iff_iff]
  simp only [Bool.and_eq_true, beq_iff_eq, decide_eq_true_eq]
  constructor
  · rintro ⟨⟨⟨h1, h2⟩, h3⟩, h4⟩
    refine ⟨h1, h2, h3, Classical.byContradiction fun q => ?_⟩
    have := str_ne q
    rw [h4] at this
    simp at this
  · rintro ⟨h1, h2, h3, h4⟩
    exact ⟨⟨⟨h1, h2⟩, h3⟩, by rw [h4]⟩
/-- Two Takers compared. -/
theorem eql_tk (t u : Tkr) (w : World) : (binOp .eql 34 (tkrV t) (tkrV u)).run Tryz.prog w = .ok (.bool (tkrEq t u)) w := by
  unfold tkrV
  rw [run_eql_struct, eq_tk_run, tkrEq_run]
  rfl
theorem neq_tk (t u : Tkr) (w : World) : (binOp .neq 34 (tkrV t) (tkrV u)).run Tryz.prog w = .ok (.bool (!tkrEq t u)) w := by
  unfold tkrV
  rw [run_neq_struct, eq_tk_run, tkrEq_run]
  rfl
end Go.Proofs.YtdpjdjkfedcojaaGreat
