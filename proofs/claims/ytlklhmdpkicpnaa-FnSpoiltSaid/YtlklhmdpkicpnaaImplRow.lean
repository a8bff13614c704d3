/- What the program's methods of a row of a state answer: name, valid. Condition: none beyond what the arguments may be. -/
import Derived.Test.YtlklhmdpkicpnaaStateOk
import Derived.Test.YtlklhmdpkicpnaaBaseA
namespace Go.Proofs.Ytlklhmdpkicpnaa
open Go.RowKit
set_option linter.unusedVariables false

theorem impl_nameI (x : It) (w : World) : Calls Try.prog 166 #[itA x] w fun e w' => e = .returned (.string x.k) ∧ Below w.heap.size w w' := by
  unfold itA
  go_enter Try.func166, Try.ntmps166
  go_wp2
  go_ret
  exact ⟨rfl, (Below.refl _ _).alloc (Nat.le_refl _) _⟩
theorem impl_nameT (x : Tk) (w : World) : Calls Try.prog 171 #[tkA x] w fun e w' => e = .returned (.string x.c) ∧ Below w.heap.size w w' := by
  unfold tkA
  go_enter Try.func171, Try.ntmps171
  go_wp2
  go_ret
  exact ⟨rfl, (Below.refl _ _).alloc (Nat.le_refl _) _⟩
theorem impl_validI (x : It) (w : World) (hk : x.k.size ≤ maxLen ∧ x.v.size ≤ maxLen) :
    Calls Try.prog 167 #[itA x] w fun e w' => e = .returned (.bool (itOk x)) ∧ Below w.heap.size w w' := by
  unfold itA itOk
  generalize hn : nameOkB x.k.data.toList = n
  have hc := fun w => impl_nameOk x.k w hk.1
  have hc2 := fun w => impl_valueOk x.v w hk.2
  rw [hn] at hc
  clear hn
  cases n
  all_goals
    go_enter Try.func167, Try.ntmps167
    go_wp2_with (first | (go_at_call 168; refine (hc _).mono ?_; rintro e w' ⟨rfl, rfl⟩) | (go_at_call 169; refine (hc2 _).mono ?_; rintro e w' ⟨rfl, rfl⟩))
    go_ret
    exact ⟨rfl, (Below.refl _ _).alloc (Nat.le_refl _) _⟩
theorem impl_validT (x : Tk) (w : World) (hk : x.c.size ≤ maxLen ∧ x.r.size ≤ maxLen) :
    Calls Try.prog 172 #[tkA x] w fun e w' => e = .returned (.bool (tkOk x)) ∧ Below w.heap.size w w' := by
  unfold tkA tkOk
  generalize hn : nameOkB x.c.data.toList = n
  have hc := fun w => impl_nameOk x.c w hk.1
  have hc2 := fun w => impl_valueOk x.r w hk.2
  have hc3 := fun w => impl_seqOk x.q w
  rw [hn] at hc
  clear hn
  generalize hm : inB x.q 1 1000000000 = m
  rw [hm] at hc3
  clear hm
  cases n <;> cases m
  all_goals
    go_enter Try.func172, Try.ntmps172
    go_wp2_with (first | (go_at_call 168; refine (hc _).mono ?_; rintro e w' ⟨rfl, rfl⟩) | (go_at_call 169; refine (hc2 _).mono ?_; rintro e w' ⟨rfl, rfl⟩) | (go_at_call 173; refine (hc3 _).mono ?_; rintro e w' ⟨rfl, rfl⟩))
    go_ret
    exact ⟨rfl, (Below.refl _ _).alloc (Nat.le_refl _) _⟩
/-- A row's methods, where it stands in an interface. -/
theorem meth_nameI (n : Nat) (k v : ByteArray) (w : World) : (method (n + 1) 114 (.agg #[.string k, .string v]) "loop.example/g00772/impl.name").run Try.prog w = .ok (166, .agg #[.string k, .string v]) w := by kernel_rfl
theorem meth_nameT (n : Nat) (c r : ByteArray) (q : Int) (w : World) : (method (n + 1) 116 (.agg #[.string c, .int .i64 q, .string r]) "loop.example/g00772/impl.name").run Try.prog w = .ok (171, .agg #[.string c, .int .i64 q, .string r]) w := by kernel_rfl
theorem meth_validI (n : Nat) (k v : ByteArray) (w : World) : (method (n + 1) 114 (.agg #[.string k, .string v]) "loop.example/g00772/impl.valid").run Try.prog w = .ok (167, .agg #[.string k, .string v]) w := by kernel_rfl
theorem meth_validT (n : Nat) (c r : ByteArray) (q : Int) (w : World) : (method (n + 1) 116 (.agg #[.string c, .int .i64 q, .string r]) "loop.example/g00772/impl.valid").run Try.prog w = .ok (172, .agg #[.string c, .int .i64 q, .string r]) w := by kernel_rfl
end Go.Proofs.Ytlklhmdpkicpnaa
