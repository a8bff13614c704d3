/- A Disk as the program holds it; two compared; the laws' own helpers. Condition: none. -/
import Derived.Test.YtkkmjlpeahkiaaaDskPlain
import Derived.Test.YtkkmjlpeahkiaaaTk
import Derived.Laws.StructEq
namespace Go.Proofs.Ytkkmjlpeahkiaaa
open Go.RowKit
set_option linter.unusedVariables false
set_option linter.unusedSimpArgs false

def dskV (d : Dsk) : Value := .agg #[.int .i64 d.rm, .string d.sn, .string d.kp, .string d.ls]
/-- What a Disk that is an argument may hold. -/
def FitDsk (d : Dsk) : Prop := (-9223372036854775808 ≤ d.rm ∧ d.rm ≤ 9223372036854775807) ∧ d.sn.size ≤ maxLen ∧ d.kp.size ≤ maxLen ∧ d.ls.size ≤ maxLen
/-- A Disk of a small size. -/
def SmD (d : Dsk) : Prop := (-9223372036854775808 ≤ d.rm ∧ d.rm ≤ 9223372036854775807) ∧ d.sn.size ≤ 4194304 ∧ d.kp.size ≤ 4194304 ∧ d.ls.size ≤ 4194304
theorem eq_dsk_run (a a2 : Int) (s t u s2 t2 u2 : ByteArray) (w : World) : (Op.equalIn 10000 26 (.agg #[.int .i64 a, .string s, .string t, .string u]) (.agg #[.int .i64 a2, .string s2, .string t2, .string u2])).run Try.prog w = .ok (a == a2 && s.toList == s2.toList && t.toList == t2.toList && u.toList == u2.toList) w := by
  have u1 := Try.underlying3
  have a1 := Try.isAgg3
  have z1 := Try.sizeOf3
  have u2' := Try.underlying9
  have a2' := Try.isAgg9
  have z2 := Try.sizeOf9
  have hS : Try.prog.underlying 26 = some (.struct (Try.prog.fieldsOf 26)) := by kernel_rfl
  have hp : Try.prog.stoodInHeld 26 = false := by kernel_rfl
  rw [show (10000 : Nat) = 9999 + 1 from rfl, run_equalIn_agg w 9999 26 _ _ hS hp]
  simp only [Program.fieldsOf, Try.underlying26]
  go_simp
  by_cases h1 : a = a2 <;> by_cases h2 : s.toList = s2.toList <;> by_cases h3 : t.toList = t2.toList <;> by_cases h4 : u.toList = u2.toList <;> simp [h1, h2, h3, h4]
def dskEq (d e : Dsk) : Bool := decide (d.rm = e.rm) && (decide (d.sn = e.sn) && (decide (d.kp = e.kp) && decide (d.ls = e.ls)))
theorem dskEq_iff {d e : Dsk} : dskEq d e = true ↔ d = e := by
  obtain ⟨a, s, t, u⟩ := d
  obtain ⟨a2, s2, t2, u2⟩ := e
  unfold dskEq
  simp only [Bool.and_eq_true, decide_eq_true_eq, Dsk.mk.injEq]
theorem dskEq_refl (d : Dsk) : dskEq d d = true := dskEq_iff.2 rfl
theorem str_beq (s t : ByteArray) : (s.toList == t.toList) = decide (s = t) := by
  by_cases h : s = t
  · rw [str_eq h]; simp [h]
  · rw [str_ne h]; simp [h]
theorem dskEq_run (d e : Dsk) : (d.rm == e.rm && d.sn.toList == e.sn.toList && d.kp.toList == e.kp.toList && d.ls.toList == e.ls.toList) = dskEq d e := by
  unfold dskEq
  rw [str_beq, str_beq, str_beq]
  cases decide (d.sn = e.sn) <;> cases decide (d.kp = e.kp) <;> cases decide (d.ls = e.ls) <;> by_cases h : d.rm = e.rm <;> simp [h]
/-- Two Disks compared. -/
theorem eql_dsk (d e : Dsk) (w : World) : (binOp .eql 26 (dskV d) (dskV e)).run Try.prog w = .ok (.bool (dskEq d e)) w := by
  unfold dskV
  rw [run_eql_struct, eq_dsk_run, dskEq_run]
  rfl
theorem neq_dsk (d e : Dsk) (w : World) : (binOp .neq 26 (dskV d) (dskV e)).run Try.prog w = .ok (.bool (!dskEq d e)) w := by
  unfold dskV
  rw [run_neq_struct, eq_dsk_run, dskEq_run]
  rfl
set_option maxHeartbeats 1000000 in
theorem sz_disk (d : Dsk) (w : World) (hf : FitDsk d) :
    Calls Try.prog 19 #[dskV d, .int .i64 1048576] w fun e w' => ∃ r : Int, e = .returned (.int .i64 r) ∧ (0 ≤ r → SmD d) ∧ Below w.heap.size w w' := by
  obtain ⟨o, s, t, u⟩ := d
  obtain ⟨hr, h1, h2, h3⟩ := hf
  unfold maxLen at h1 h2 h3
  dsimp only at hr h1 h2 h3
  have HS : Hid (s.size + t.size + u.size ≤ 1048576 → SmD ⟨o, s, t, u⟩) := Lib.hid (fun h => ⟨hr, by show s.size ≤ _; omega, by show t.size ≤ _; omega, by show u.size ≤ _; omega⟩)
  clear hr
  unfold dskV
  dsimp only
  have BW : Hid (Below w.heap.size w (w.alloc (.cells #[.int .i64 o, .string s, .string t, .string u] 23))) := Lib.hid ((Below.refl _ _).alloc (Nat.le_refl _) _)
  by_cases c1 : 1048576 - (s.size : Int) < 0
  · go_enter Try.func19, Try.ntmps19
    go_wp2
    go_ret
    exact ⟨-1, ret_int rfl, fun h => by omega, BW.out⟩
  · by_cases c2 : 1048576 - (s.size : Int) - t.size < 0
    · go_enter Try.func19, Try.ntmps19
      go_wp2
      go_ret
      exact ⟨-1, ret_int rfl, fun h => by omega, BW.out⟩
    · by_cases c3 : 1048576 - (s.size : Int) - t.size - u.size < 0
      · go_enter Try.func19, Try.ntmps19
        go_wp2
        go_ret
        exact ⟨-1, ret_int rfl, fun h => by omega, BW.out⟩
      · go_enter Try.func19, Try.ntmps19
        go_wp2
        go_ret
        exact ⟨1048576 - (s.size : Int) - t.size - u.size, ret_int rfl, fun h => HS.out (by omega), BW.out⟩
theorem to_disk (d : Dsk) (w : World) : Calls Try.prog 21 #[dskV d] w fun e w' => e = .returned (dskV d) ∧ Below w.heap.size w w' := by
  unfold dskV
  go_enter Try.func21, Try.ntmps21
  go_wp2
  refine bodyPost_ret (v := .agg #[.int .i64 d.rm, .string d.sn, .string d.kp, .string d.ls]) (by simp [results, Try.results21, go_sem]) rfl ⟨rfl, ?_⟩
  exact (((Below.refl _ _).alloc (Nat.le_refl _) _).alloc (by simp) _).alloc (by simp; omega) _
theorem eq_disk (d : Dsk) (w : World) : Calls Try.prog 27 #[dskV d, dskV d] w fun e w' => e = .returned (.bool true) ∧ Below w.heap.size w w' := by
  unfold dskV
  go_enter Try.func27, Try.ntmps27
  go_wp2
  go_ret
  exact ⟨rfl, ((Below.refl _ _).alloc (Nat.le_refl _) _).alloc (by simp) _⟩
end Go.Proofs.Ytkkmjlpeahkiaaa
