/- What the program's methods of a row of a state answer: name, valid. Condition: none beyond what the arguments may be. -/
import Derived.Test.YtdpjdjkfedcojaaStateOk
import Derived.Test.YtdpjdjkfedcojaaBaseA
namespace Go.Proofs.Ytdpjdjkfedcojaa
open Go.RowKit
set_option linter.unusedVariables false

theorem impl_nameI (x : It) (w : World) : Calls Try.prog 150 #[itA x] w fun e w' => e = .returned (.string x.k) ∧ Below w.heap.size w w' := by
  unfold itA
  go_enter Try.func150, Try.ntmps150
  go_wp2
  go_ret
  exact ⟨rfl, (Below.refl _ _).alloc (Nat.le_refl _) _⟩
theorem impl_nameT (x : Tk) (w : World) : Calls Try.prog 155 #[tkA x] w fun e w' => e = .returned (.string x.c) ∧ Below w.heap.size w w' := by
  unfold tkA
  go_enter Try.func155, Try.ntmps155
  go_wp2
  go_ret
  exact ⟨rfl, (Below.refl _ _).alloc (Nat.le_refl _) _⟩
theorem impl_validI (x : It) (w : World) (hk : x.k.size ≤ maxLen ∧ x.v.size ≤ maxLen) :
    Calls Try.prog 151 #[itA x] w fun e w' => e = .returned (.bool (itOk x)) ∧ Below w.heap.size w w' := by
  unfold itA itOk
  generalize hn : nameOkB x.k.data.toList = n
  have hc := fun w => impl_nameOk x.k w hk.1
  have hc2 := fun w => impl_valueOk x.v w hk.2
  rw [hn] at hc
  clear hn
  cases n
  all_goals
    go_enter Try.func151, Try.ntmps151
    go_wp2_with (first | (go_at_call 152; refine (hc _).mono ?_; rintro e w' ⟨rfl, rfl⟩) | (go_at_call 153; refine (hc2 _).mono ?_; rintro e w' ⟨rfl, rfl⟩))
    go_ret
    exact ⟨rfl, (Below.refl _ _).alloc (Nat.le_refl _) _⟩
theorem impl_validT (x : Tk) (w : World) (hk : x.c.size ≤ maxLen ∧ x.r.size ≤ maxLen) :
    Calls Try.prog 156 #[tkA x] w fun e w' => e = .returned (.bool (tkOk x)) ∧ Below w.heap.size w w' := by
  unfold tkA tkOk
  generalize hn : nameOkB x.c.data.toList = n
  have hc := fun w => impl_nameOk x.c w hk.1
  have hc2 := fun w => impl_valueOk x.r w hk.2
  have hc3 := fun w => impl_seqOk x.q w
  rw [hn] at hc
  clear hn
  generalize hm : inB x.q 1 1000000000 = m
  rw [hm] at hc3
  clear hm
  cases n <;> cases m
  all_goals
    go_enter Try.func156, Try.ntmps156
    go_wp2_with (first | (go_at_call 152; refine (hc _).mono ?_; rintro e w' ⟨rfl, rfl⟩) | (go_at_call 153; refine (hc2 _).mono ?_; rintro e w' ⟨rfl, rfl⟩) | (go_at_call 157; refine (hc3 _).mono ?_; rintro e w' ⟨rfl, rfl⟩))
    go_ret
    exact ⟨rfl, (Below.refl _ _).alloc (Nat.le_refl _) _⟩
/-- A row's methods, where it stands in an interface. -/
theorem meth_nameI (n : Nat) (k v : ByteArray) (w : World) : (method (n + 1) 77 (.agg #[.string k, .string v]) "loop.example/g00772/impl.name").run Try.prog w = .ok (150, .agg #[.string k, .string v]) w := by kernel_rfl
theorem meth_nameT (n : Nat) (c r : ByteArray) (q : Int) (w : World) : (method (n + 1) 79 (.agg #[.string c, .int .i64 q, .string r]) "loop.example/g00772/impl.name").run Try.prog w = .ok (155, .agg #[.string c, .int .i64 q, .string r]) w := by kernel_rfl
theorem meth_validI (n : Nat) (k v : ByteArray) (w : World) : (method (n + 1) 77 (.agg #[.string k, .string v]) "loop.example/g00772/impl.valid").run Try.prog w = .ok (151, .agg #[.string k, .string v]) w := by kernel_rfl
theorem meth_validT (n : Nat) (c r : ByteArray) (q : Int) (w : World) : (method (n + 1) 79 (.agg #[.string c, .int .i64 q, .string r]) "loop.example/g00772/impl.valid").run Try.prog w = .ok (156, .agg #[.string c, .int .i64 q, .string r]) w := by kernel_rfl
end Go.Proofs.Ytdpjdjkfedcojaa
