/- What the program's methods of a row of a state answer: name, valid. Condition: none beyond what the arguments may be. -/
import Derived.Test.YtdpjdjkfedcojaaGreatStateOk
import Derived.Test.YtdpjdjkfedcojaaGreatBaseA
namespace Go.Proofs.YtdpjdjkfedcojaaGreat
open Go.RowKit
set_option linter.unusedVariables false

theorem impl_nameI (x : It) (w : World) : Calls Tryz.prog 135 #[itA x] w fun e w' => e = .returned (.string x.k) ∧ Below w.heap.size w w' := by
  unfold itA
  go_enter Tryz.func135, Tryz.ntmps135
  go_wp2
  go_ret
  exact ⟨rfl, (Below.refl _ _).alloc (Nat.le_refl _) _⟩
theorem impl_nameT (x : Tk) (w : World) : Calls Tryz.prog 140 #[tkA x] w fun e w' => e = .returned (.string x.c) ∧ Below w.heap.size w w' := by
  unfold tkA
  go_enter Tryz.func140, Tryz.ntmps140
  go_wp2
  go_ret
  exact ⟨rfl, (Below.refl _ _).alloc (Nat.le_refl _) _⟩
theorem impl_validI (x : It) (w : World) (hk : x.k.size ≤ maxLen ∧ x.v.size ≤ maxLen) :
    Calls Tryz.prog 136 #[itA x] w fun e w' => e = .returned (.bool (itOk x)) ∧ Below w.heap.size w w' := by
  unfold itA itOk
  generalize hn : nameOkB x.k.data.toList = n
  have hc := fun w => impl_nameOk x.k w hk.1
  have hc2 := fun w => impl_valueOk x.v w hk.2
  rw [hn] at hc
  clear hn
  cases n
  all_goals
    go_enter Tryz.func136, Tryz.ntmps136
    go_wp2_with (first | (go_at_call 137; refine (hc _).mono ?_; rintro e w' ⟨rfl, rfl⟩) | (go_at_call 138; refine (hc2 _).mono ?_; rintro e w' ⟨rfl, rfl⟩))
    go_ret
    exact ⟨rfl, (Below.refl _ _).alloc (Nat.le_refl _) _⟩
theorem impl_validT (x : Tk) (w : World) (hk : x.c.size ≤ maxLen ∧ x.r.size ≤ maxLen) :
    Calls Tryz.prog 141 #[tkA x] w fun e w' => e = .returned (.bool (tkOk x)) ∧ Below w.heap.size w w' := by
  unfold tkA tkOk
  generalize hn : nameOkB x.c.data.toList = n
  have hc := fun w => impl_nameOk x.c w hk.1
  have hc2 := fun w => impl_valueOk x.r w hk.2
  have hc3 := fun w => impl_seqOk x.q w
  rw [hn] at hc
  clear hn
  generalize hm : inB x.q 1 1000000000 = m
  rw [hm] at hc3
  clear hm
  cases n <;> cases m
  all_goals
    go_enter Tryz.func141, Tryz.ntmps141
    go_wp2_with (first | (go_at_call 137; refine (hc _).mono ?_; rintro e w' ⟨rfl, rfl⟩) | (go_at_call 138; refine (hc2 _).mono ?_; rintro e w' ⟨rfl, rfl⟩) | (go_at_call 142; refine (hc3 _).mono ?_; rintro e w' ⟨rfl, rfl⟩))
    go_ret
    exact ⟨rfl, (Below.refl _ _).alloc (Nat.le_refl _) _⟩
/-- A row's methods, where it stands in an interface. -/
theorem meth_nameI (n : Nat) (k v : ByteArray) (w : World) : (method (n + 1) 45 (.agg #[.string k, .string v]) "loop.example/g00772/impl.name").run Tryz.prog w = .ok (135, .agg #[.string k, .string v]) w := by kernel_rfl
theorem meth_nameT (n : Nat) (c r : ByteArray) (q : Int) (w : World) : (method (n + 1) 65 (.agg #[.string c, .int .i64 q, .string r]) "loop.example/g00772/impl.name").run Tryz.prog w = .ok (140, .agg #[.string c, .int .i64 q, .string r]) w := by kernel_rfl
theorem meth_validI (n : Nat) (k v : ByteArray) (w : World) : (method (n + 1) 45 (.agg #[.string k, .string v]) "loop.example/g00772/impl.valid").run Tryz.prog w = .ok (136, .agg #[.string k, .string v]) w := by kernel_rfl
theorem meth_validT (n : Nat) (c r : ByteArray) (q : Int) (w : World) : (method (n + 1) 65 (.agg #[.string c, .int .i64 q, .string r]) "loop.example/g00772/impl.valid").run Tryz.prog w = .ok (141, .agg #[.string c, .int .i64 q, .string r]) w := by kernel_rfl
end Go.Proofs.YtdpjdjkfedcojaaGreat
