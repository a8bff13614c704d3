/- A Taker as the program holds it; two compared; the laws' own helpers. Condition: none. -/
import Derived.Test.YtdpjdjkfedcojaaTkPlain
import Derived.Test.YtdpjdjkfedcojaaSpecPc
import Derived.Laws.StructEq
namespace Go.Proofs.Ytdpjdjkfedcojaa
open Go.RowKit
set_option linter.unusedVariables false
set_option linter.unusedSimpArgs false

def tkrV (t : Tkr) : Value := .agg #[.int .i64 t.of, .int .i64 t.nx, .int .i64 t.ch, .string t.b]
/-- What a Taker that is an argument may hold. -/
def FitTkr (t : Tkr) : Prop := (-9223372036854775808 ≤ t.of ∧ t.of ≤ 9223372036854775807) ∧ (-9223372036854775808 ≤ t.nx ∧ t.nx ≤ 9223372036854775807) ∧ (-9223372036854775808 ≤ t.ch ∧ t.ch ≤ 9223372036854775807) ∧ t.b.size ≤ maxLen
theorem eq_tk_run (a b c a2 b2 c2 : Int) (s t : ByteArray) (w : World) : (Op.equalIn 10000 25 (.agg #[.int .i64 a, .int .i64 b, .int .i64 c, .string s]) (.agg #[.int .i64 a2, .int .i64 b2, .int .i64 c2, .string t])).run Try.prog w = .ok (a == a2 && b == b2 && c == c2 && s.toList == t.toList) w := by
  have u1 := Try.underlying3
  have a1 := Try.isAgg3
  have z1 := Try.sizeOf3
  have u2 := Try.underlying9
  have a2' := Try.isAgg9
  have z2 := Try.sizeOf9
  have hS : Try.prog.underlying 25 = some (.struct (Try.prog.fieldsOf 25)) := by kernel_rfl
  have hp : Try.prog.stoodInHeld 25 = false := by kernel_rfl
  rw [show (10000 : Nat) = 9999 + 1 from rfl, run_equalIn_agg w 9999 25 _ _ hS hp]
  simp only [Program.fieldsOf, Try.underlying25]
  go_simp
  by_cases h1 : a = a2 <;> by_cases h2 : b = b2 <;> by_cases h4 : c = c2 <;> by_cases h3 : s.toList = t.toList <;> simp [h1, h2, h3, h4]
def tkrEq (t u : Tkr) : Bool := decide (t.of = u.of) && (decide (t.nx = u.nx) && (decide (t.ch = u.ch) && decide (t.b = u.b)))
theorem tkrEq_iff {t u : Tkr} : tkrEq t u = true ↔ t = u := by
  obtain ⟨a, b, c, s⟩ := t
  obtain ⟨a2, b2, c2, s2⟩ := u
  unfold tkrEq
  simp only [Bool.and_eq_true, decide_eq_true_eq, Tkr.mk.injEq]
theorem tkrEq_refl (t : Tkr) : tkrEq t t = true := tkrEq_iff.2 rfl
theorem tkrEq_run (t u : Tkr) : (t.of == u.of && t.nx == u.nx && t.ch == u.ch && t.b.toList == u.b.toList) = tkrEq t u := by
  unfold tkrEq
  rw [Bool.eq_iff_iff]
  simp only [Bool.and_eq_true, beq_iff_eq, decide_eq_true_eq]
  constructor
  · rintro ⟨⟨⟨h1, h2⟩, h3⟩, h4⟩
    refine ⟨h1, h2, h3, Classical.byContradiction fun q => ?_⟩
    have := str_ne q
    rw [h4] at this
    simp at this
  · rintro ⟨h1, h2, h3, h4⟩
    exact ⟨⟨⟨h1, h2⟩, h3⟩, by rw [h4]⟩
/-- Two Takers compared. -/
theorem eql_tk (t u : Tkr) (w : World) : (binOp .eql 25 (tkrV t) (tkrV u)).run Try.prog w = .ok (.bool (tkrEq t u)) w := by
  unfold tkrV
  rw [run_eql_struct, eq_tk_run, tkrEq_run]
  rfl
theorem neq_tk (t u : Tkr) (w : World) : (binOp .neq 25 (tkrV t) (tkrV u)).run Try.prog w = .ok (.bool (!tkrEq t u)) w := by
  unfold tkrV
  rw [run_neq_struct, eq_tk_run, tkrEq_run]
  rfl
theorem sz_taker (t : Tkr) (w : World) (hb : t.b.size ≤ maxLen) :
    Calls Try.prog 25 #[tkrV t, .int .i64 1048576] w fun e w' => ∃ r : Int, e = .returned (.int .i64 r) ∧ (0 ≤ r → t.b.size ≤ 1048576) ∧ Below w.heap.size w w' := by
  unfold maxLen at hb
  obtain ⟨o, n, c, b⟩ := t
  dsimp only at hb ⊢
  unfold tkrV
  dsimp only
  by_cases h1 : 1048576 - (b.size : Int) < 0
  · go_enter Try.func25, Try.ntmps25
    go_wp2
    go_ret
    exact ⟨-1, ret_int rfl, fun h => by omega, (Below.refl _ _).alloc (Nat.le_refl _) _⟩
  · go_enter Try.func25, Try.ntmps25
    go_wp2
    go_ret
    exact ⟨1048576 - b.size, ret_int rfl, fun h => by omega, (Below.refl _ _).alloc (Nat.le_refl _) _⟩
theorem to_taker (t : Tkr) (w : World) : Calls Try.prog 26 #[tkrV t] w fun e w' => e = .returned (tkrV t) ∧ Below w.heap.size w w' := by
  unfold tkrV
  go_enter Try.func26, Try.ntmps26
  go_wp2
  refine bodyPost_ret (v := .agg #[.int .i64 t.of, .int .i64 t.nx, .int .i64 t.ch, .string t.b]) (by simp [results, Try.results26, go_sem]) rfl ⟨rfl, ?_⟩
  exact (((Below.refl _ _).alloc (Nat.le_refl _) _).alloc (by simp) _).alloc (by simp; omega) _
theorem eq_taker (t : Tkr) (w : World) : Calls Try.prog 24 #[tkrV t, tkrV t] w fun e w' => e = .returned (.bool true) ∧ Below w.heap.size w w' := by
  unfold tkrV
  go_enter Try.func24, Try.ntmps24
  go_wp2
  go_ret
  exact ⟨rfl, ((Below.refl _ _).alloc (Nat.le_refl _) _).alloc (by simp) _⟩
end Go.Proofs.Ytdpjdjkfedcojaa
