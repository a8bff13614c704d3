/- An operation as data, and what the program and its model answer of one: valid or not. Condition: what the arguments may be. -/
import Derived.Test.YtclcaflkopnbpaaDoorState
import Derived.Test.YtclcaflkopnbpaaDoorNameOk
import Derived.Test.YtclcaflkopnbpaaDoorImplLim
namespace Go.Proofs.YtclcaflkopnbpaaDoor
open Go.RowKit
set_option linter.unusedVariables false

structure Rq where
  c : ByteArray
  q : Int
  n : Int
  k : ByteArray
  v : ByteArray
instance : Inhabited Rq := ⟨⟨⟨#[]⟩, 0, 0, ⟨#[]⟩, ⟨#[]⟩⟩⟩
def rqC (x : Rq) : List Value := [.string x.c, .int .i64 x.q, .int .i64 x.n, .string x.k, .string x.v]
def rqA (x : Rq) : Value := .agg #[.string x.c, .int .i64 x.q, .int .i64 x.n, .string x.k, .string x.v]
/-- What is read of an operation. -/
def FitRq (x : Rq) : Prop := x.c.size ≤ maxLen ∧ x.k.size ≤ maxLen ∧ x.v.size ≤ maxLen ∧ (-9223372036854775808 ≤ x.q ∧ x.q ≤ 9223372036854775807) ∧ -9223372036854775808 ≤ x.n ∧ x.n ≤ 9223372036854775807
def rqOk (x : Rq) : Bool := inB x.n 0 2 && nameOkB x.c.data.toList && nameOkB x.k.data.toList && inB x.q 1 1000000000 && decide ((x.v.size : Int) ≤ 60) && (decide (x.n = 1) || decide (x.v = ⟨#[]⟩))

theorem impl_kindOk (n : Int) (w : World) : Calls Tryd.prog 82 #[.int .i64 n] w fun e w' => e = .returned (.bool (inB n 0 2)) ∧ w = w' := by
  by_cases h1 : 0 ≤ n
  · by_cases h2 : n < 3
    all_goals
      go_enter Tryd.func82, Tryd.ntmps82
      go_wp2
      go_ret
      exact ⟨ret_bool (by unfold inB; simp; omega), rfl⟩
  · go_enter Tryd.func82, Tryd.ntmps82
    go_wp2
    go_ret
    exact ⟨ret_bool (by unfold inB; simp; omega), rfl⟩
set_option maxHeartbeats 4000000 in
theorem spec_opOk (x : Rq) (w : World) (hf : FitRq x) :
    Calls Tryd.prog 34 #[rqA x] w fun e w' => e = .returned (.bool (rqOk x)) ∧ Below w.heap.size w w' := by
  obtain ⟨hc, hk, hv, hq, hn⟩ := hf
  unfold rqA rqOk
  unfold maxLen at hv
  have c1 := fun w => in_any x.n 0 2 w
  have c2 := fun w => spec_nameOk x.c w hc
  have c3 := fun w => spec_nameOk x.k w hk
  have c4 := fun w => in_any x.q 1 1000000000 w
  generalize inB x.n 0 2 = b1 at *
  generalize nameOkB x.c.data.toList = b2 at *
  generalize nameOkB x.k.data.toList = b3 at *
  generalize inB x.q 1 1000000000 = b4 at *
  generalize x.n = n at *
  generalize x.v = v at *
  clear hc hk hq
  cases b1
  rotate_left
  cases b2
  rotate_left
  cases b3
  rotate_left
  cases b4
  rotate_left
  by_cases hz : (v.size : Int) ≤ 60
  by_cases h1 : ¬ n = 1
  by_cases he : v = ⟨#[]⟩
  have he' := teq he
  rotate_left
  have he' := tne he
  rotate_left
  all_goals
    go_enter Tryd.func34, Tryd.ntmps34
    go_wp2_with (first | (go_at_call 58; (with_reducible refine (c1 _).mono ?_); rintro e w' ⟨rfl, rfl⟩) | (go_at_call 58; (with_reducible refine (c4 _).mono ?_); rintro e w' ⟨rfl, rfl⟩) | (go_at_call 75; (with_reducible refine (c2 _).mono ?_); rintro e w' ⟨rfl, rfl⟩) | (go_at_call 75; (with_reducible refine (c3 _).mono ?_); rintro e w' ⟨rfl, rfl⟩))
    go_ret
    exact ⟨ret_bool (by simp_all <;> (intro _; omega)), (Below.refl _ _).alloc (Nat.le_refl _) _⟩
set_option maxHeartbeats 4000000 in
theorem impl_opOk (x : Rq) (w : World) (hf : FitRq x) :
    Calls Tryd.prog 53 #[rqA x] w fun e w' => e = .returned (.bool (rqOk x)) ∧ Below w.heap.size w w' := by
  obtain ⟨hc, hk, hv, hq, hn⟩ := hf
  unfold rqA rqOk
  unfold maxLen at hv
  have c1 := fun w => impl_kindOk x.n w
  have c2 := fun w => impl_nameOk x.c w hc
  have c3 := fun w => impl_nameOk x.k w hk
  have c4 := fun w => impl_seqOk x.q w
  have c5 := fun w => impl_valueOk x.v w (by unfold maxLen; exact hv)
  generalize inB x.n 0 2 = b1 at *
  generalize nameOkB x.c.data.toList = b2 at *
  generalize nameOkB x.k.data.toList = b3 at *
  generalize inB x.q 1 1000000000 = b4 at *
  generalize decide ((x.v.size : Int) ≤ 60) = b5 at *
  generalize x.n = n at *
  generalize x.v = v at *
  clear hc hk hq
  cases b1
  rotate_left
  cases b2
  rotate_left
  cases b3
  rotate_left
  cases b4
  rotate_left
  cases b5
  rotate_left
  by_cases h1 : ¬ n = 1
  by_cases he : v = ⟨#[]⟩
  subst he
  rotate_left
  have he' := tne he
  rotate_left
  all_goals
    go_enter Tryd.func53, Tryd.ntmps53
    go_wp2_with (first | (go_at_call 82; (with_reducible refine (c1 _).mono ?_); rintro e w' ⟨rfl, rfl⟩) | (go_at_call 83; (with_reducible refine (c2 _).mono ?_); rintro e w' ⟨rfl, rfl⟩) | (go_at_call 83; (with_reducible refine (c3 _).mono ?_); rintro e w' ⟨rfl, rfl⟩) | (go_at_call 84; (with_reducible refine (c4 _).mono ?_); rintro e w' ⟨rfl, rfl⟩) | (go_at_call 85; (with_reducible refine (c5 _).mono ?_); rintro e w' ⟨rfl, rfl⟩))
    go_ret
    exact ⟨ret_bool (by simp_all <;> (intro _; omega)), (Below.refl _ _).alloc (Nat.le_refl _) _⟩
theorem name_size {a : ByteArray} (h : nameOkB a.data.toList = true) : (a.size : Int) ≤ 12 := by
  unfold nameOkB at h
  rw [Bool.and_eq_true] at h
  have h1 := inB_true h.2
  have h2 : a.data.toList.length = a.size := by simp
  omega
theorem rqOk_parts {x : Rq} (h : rqOk x = true) : (0 ≤ x.n ∧ x.n ≤ 2) ∧ nameOkB x.c.data.toList = true ∧ nameOkB x.k.data.toList = true ∧ (1 ≤ x.q ∧ x.q ≤ 1000000000) ∧ (x.v.size : Int) ≤ 60 ∧ (x.n = 1 ∨ x.v = ⟨#[]⟩) := by
  unfold rqOk at h
  simp only [Bool.and_eq_true, Bool.or_eq_true, decide_eq_true_eq] at h
  obtain ⟨⟨⟨⟨⟨h1, h2⟩, h3⟩, h4⟩, h5⟩, h6⟩ := h
  exact ⟨inB_true h1, h2, h3, inB_true h4, h5, h6⟩
end Go.Proofs.YtclcaflkopnbpaaDoor
