/-
  PutTalk answers as its model at every state and talk, writes into no argument, and its answer owns its memory.
-/
import Derived.Test.YtkoohmibdaomkaaRows
import Derived.Test.YtkoohmibdaomkaaExactPutT
import Derived.Test.YtkoohmibdaomkaaOpenItem
import Derived.WalkKit
import Derived.ProofKit
import Derived.OpenShut
import Derived.ShutString
import Derived.ChangeOld
import Derived.Below
import Derived.Carry
namespace Go.Proofs.Ytkoohmibdaomkaa.fnExactPutTalk
open Go.ChangeShapes Go.WideShapes Go.ChangeAt Go.RowKit
open Go.ChangeMaps (open_string shut_string)
set_option linter.unusedVariables false

theorem own : ownKnob Try.prog.godebug = none := by kernel_rfl
theorem laidOut : laidOutB Try.prog = true := by kernel_rfl

/-- The walk: true; at most new blocks. -/
theorem walk (v0 : Value) (s0 : St) (x1 : Tk) (w : World) (w0 : RawS w w.heap.size v0 s0) (w1 : FitTk x1) :
    Calls Try.prog 13 #[v0, tkA x1] w fun e w' => e = .returned (.bool true) ∧ Below w.heap.size w w' :=
  law_putTalk impl_putTalk s0 v0 x1 w w0 w1

set_option maxRecDepth 100000 in
theorem lifted (os : Os) (started : os.Started) (H : Type) (enc : TypeId × Value → H) :
    ReturnsInHanded {} Try.checked os 13 .any (Rows.fnExactPutTalkSpec.pre6 enc Try.prog Try.f13 Rows.fnExactPutTalkRow.domain false) (Rows.fnExactPutTalkSpec.post enc Try.prog Try.f13 false true false false) := by
  refine returnsInHanded_of_change (C := Try.checked) own started (by kernel_rfl) Try.func13
    (ChangeSpec.witness6 (enc := enc) (C := Try.checked) false ⟨#[], #[.agg #[.slice none 0 0, .slice none 0 0], .agg #[.string ByteArray.empty, .int .i64 0, .string ByteArray.empty]], []⟩ 8 (by kernel_rfl) (by kernel_rfl) (by kernel_rfl) (by kernel_rfl)) ?_
  intro W base args ds gs before hval0 hW hcnd _
  have hval : ∀ (j : Nat) t v, Try.f13.params[j]? = some t → args[j]? = some v → Value.okWide Try.prog W .any base t v := hval0
  have hW' := hW
  obtain ⟨p, q, hA0, hV, rfl, hfz, hnd⟩ := hW
  have hA : DataW.TrodAll enc Try.prog W 0 (fun _ => true) true Try.f13.params.toList args.toList ds p := hA0
  rw [Try.params13] at hA hval
  obtain ⟨v0, vs0, d0, ds0, p0, q0, hargs, rfl, rfl, h0, r0⟩ := trodAll_cons hA
  obtain ⟨v1, vs1, d1, ds1, p1, q1, rfl, rfl, rfl, h1, r1⟩ := trodAll_cons r0
  obtain ⟨rfl, rfl, rfl⟩ := trodAll_nil r1
  obtain rfl : args = #[v0, v1] := by cases args; simp_all
  obtain ⟨rfl, rfl⟩ := trodVars_none hV
  obtain ⟨cs0, rfl, _⟩ := okWide_struct Try.underlying53 (hval 0 53 v0 rfl rfl)
  have k0 := h0
  have lt0 : ∀ x ∈ p0, x.block < W.heap.size := by obtain ⟨m, hm⟩ := k0; exact DataW.trod_lt m _ _ _ hm
  obtain ⟨vi0, vt0, s0, rfl, w0⟩ : ∃ (vi vt : Value) (s : St), cs0 = #[vi, vt] ∧ RawS W W.heap.size (.agg #[vi, vt]) s := by
    obtain ⟨fuel, hf⟩ := h0
    obtain ⟨vi, vt, s, hc, r0, r1, f0, f1⟩ := open_state hf
    exact ⟨vi, vt, s, Array.toList_inj.mp (by simpa [Value.cells] using hc), _, _, rfl, r0, r1, f0, f1⟩
  obtain ⟨cs1, rfl, _⟩ := okWide_struct Try.underlying63 (hval 1 63 v1 rfl rfl)
  have k1 := h1
  have lt1 : ∀ x ∈ p1, x.block < W.heap.size := by obtain ⟨m, hm⟩ := k1; exact DataW.trod_lt m _ _ _ hm
  obtain ⟨x1, rfl, w1⟩ : ∃ x : Tk, cs1 = #[.string x.c, .int .i64 x.q, .string x.r] ∧ FitTk x := by
    obtain ⟨fuel, hf⟩ := h1
    obtain ⟨x, hc, hx⟩ := open_talk hf
    exact ⟨x, Array.toList_inj.mp (by simpa [Value.cells] using hc), hx⟩
  clear hA0 hval0
  refine (walk _ s0 x1 W w0 w1).mono fun e W' ⟨he, bel⟩ => ?_
  subst he
  exact ⟨_, rfl, _, _, _, [], _, [], hW', trodAll_mk1 (shut_bool Try.underlying4 _), (trodAll_cons_mk (Below.trod laidOut (by kernel_rfl) (of_decide_eq_true (by kernel_rfl)) k0 bel lt0) (trodAll_cons_mk (Below.trod laidOut (by kernel_rfl) (of_decide_eq_true (by kernel_rfl)) k1 bel lt1) trodAll_mk0)), rfl, bel.frame _, fun h => by cases h⟩

theorem over : Rows.fnExactPutTalkRow.holds Try.pinned (OpenSpec.ofChange Rows.fnExactPutTalkSpec) :=
  OpenClaim.holds_of_wide 13 Try.f13 rfl rfl rfl rfl rfl rfl rfl ⟨rfl, rfl, rfl, rfl, rfl⟩ rfl rfl rfl rfl rfl (by kernel_rfl) Try.func13 (by kernel_rfl)
    (of_decide_eq_true (by kernel_rfl)) (by unfold Func.isWrapper; first | (rw [if_pos (by decide +kernel)]; kernel_rfl) | (rw [if_neg (by decide +kernel)]; exact ⟨rfl, rfl⟩))
    (fun os started H enc _ => lifted os started H enc)

theorem proved : Rows.FnExactPutTalkSaid := over
#print axioms proved
end Go.Proofs.Ytkoohmibdaomkaa.fnExactPutTalk
