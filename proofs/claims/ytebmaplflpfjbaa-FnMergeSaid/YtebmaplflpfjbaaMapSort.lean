/- The sorted names of a map, as data. Condition: none. -/
import Derived.Test.YtebmaplflpfjbaaMapI
import Derived.Test.YtebmaplflpfjbaaPutFacts
import Derived.Sort.KeysCollected
import Derived.Sort.Walk0
import Derived.OwnWalk
namespace Go.Proofs.Ytebmaplflpfjbaa
open Go.RowKit Go.Maps Go.Sort
set_option linter.unusedVariables false

theorem strKeys_facts {R : Value → Option (DataW Unit × List MemPlace)} {w : World} {b n : Nat} {D : DataW Unit} (h : w.ownsMap Try.prog 9 R b n D) : (strKeys D).Nodup ∧ ∀ l, l ∈ strKeys D ↔ Maps.has D (.string l) = true := by
  obtain ⟨es, hD, hpw, _⟩ := h.entries (string_keyed Try.underlying9)
  obtain ⟨es', hD', hko⟩ := h.keysOf
  obtain rfl : es = es' := by rw [hD] at hD'; simpa using hD'
  subst hD
  have hk : ∀ p ∈ es, ∃ x, p.1 = .string x := fun p hp => by obtain ⟨v, hv⟩ := hko p hp; obtain ⟨x, _, hx, _⟩ := Maps.keyOf_str Try.underlying9 hv; exact ⟨x, hx⟩
  constructor
  · show (es.map fun p => strOf p.1).Nodup
    unfold List.Nodup
    rw [List.pairwise_map]
    refine hpw.imp_of_mem (fun {p q} hp hq hne e => hne ?_)
    obtain ⟨x, hx⟩ := hk p hp
    obtain ⟨y, hy⟩ := hk q hq
    rw [hx, hy] at e ⊢
    simpa [strOf] using e
  · intro l
    show l ∈ es.map (fun p => strOf p.1) ↔ _
    rw [List.mem_map, Maps.has_eq, List.any_eq_true]
    constructor
    · rintro ⟨p, hp, rfl⟩
      obtain ⟨x, hx⟩ := hk p hp
      exact ⟨p, hp, by rw [hx]; simp [strOf, Lit.sameKey]⟩
    · rintro ⟨p, hp, e⟩
      obtain ⟨x, hx⟩ := hk p hp
      rw [hx] at e
      refine ⟨p, hp, ?_⟩
      rw [hx]
      simpa [strOf, Lit.sameKey] using e
/-- The rows behind sorted names. -/
def rowsOf {α : Type} (m : ByteArray → Option α) (ts : List (List UInt8)) : List α := ts.filterMap fun l => m ⟨l.toArray⟩
theorem rowsOf_take {α : Type} {m : ByteArray → Option α} {ts : List (List UInt8)} {k : Nat} (hk : k < ts.length) {x : α} (hx : m ⟨ts[k].toArray⟩ = some x) : rowsOf m (ts.take (k + 1)) = rowsOf m (ts.take k) ++ [x] := by
  unfold rowsOf
  rw [List.take_succ_eq_append_getElem hk, List.filterMap_append]
  simp [hx]
theorem rowsOf_len {α : Type} {m : ByteArray → Option α} {ts : List (List UInt8)} (h : ∀ l ∈ ts, (m ⟨l.toArray⟩).isSome = true) : (rowsOf m ts).length = ts.length := by
  induction ts with
  | nil => rfl
  | cons t ts ih =>
    have h0 := h t (by simp)
    cases hm : m ⟨t.toArray⟩ with
    | none => rw [hm] at h0; cases h0
    | some x =>
      have := ih (fun l hl => h l (by simp [hl]))
      unfold rowsOf at this ⊢
      simp [hm, this]
theorem ba_list (k : ByteArray) : (⟨k.data.toList.toArray⟩ : ByteArray) = k := by cases k; simp
theorem sort_asc {α : Type} (f : α → ByteArray) {m : ByteArray → Option α} (hwf : ∀ k x, m k = some x → f x = k) {ss : List (List UInt8)} (hnd : ss.Nodup) (hmem : ∀ l, l ∈ ss ↔ (m ⟨l.toArray⟩).isSome = true) :
    Asc f (rowsOf m (ss.mergeSort fun x y => decide (x ≤ y))) ∧ ∀ x, x ∈ rowsOf m (ss.mergeSort fun x y => decide (x ≤ y)) ↔ m (f x) = some x := by
  have tr : ∀ a b c : List UInt8, leB a b = true → leB b c = true → leB a c = true := fun a b c h1 h2 => by simp only [leB, decide_eq_true_eq] at *; exact List.le_trans h1 h2
  have to : ∀ a b : List UInt8, (leB a b || leB b a) = true := fun a b => by simp only [leB, Bool.or_eq_true, decide_eq_true_eq]; exact List.le_total a b
  have hp := List.pairwise_mergeSort tr to ss
  have hperm := List.mergeSort_perm ss leB
  have hn2 : (ss.mergeSort leB).Nodup := hperm.nodup_iff.2 hnd
  constructor
  · unfold Asc rowsOf
    rw [List.pairwise_filterMap]
    refine (hp.and hn2).imp (fun {a c} hac x hx y hy => ?_)
    have e1 := hwf _ _ hx
    have e2 := hwf _ _ hy
    have hne : (⟨a.toArray⟩ : ByteArray) ≠ ⟨c.toArray⟩ := fun e => hac.2 (by simpa using congrArg (fun b => b.data.toList) e)
    rw [e1, e2, less_other' _ _ hne]
    have hle : ¬ c < a := by have := hac.1; simp only [leB, decide_eq_true_eq] at this; exact this
    unfold lessB
    rw [bytesLess_eq]
    simp [hle]
  · intro x
    unfold rowsOf
    rw [List.mem_filterMap]
    constructor
    · rintro ⟨l, _, hx⟩
      rw [hwf _ _ hx]; exact hx
    · intro h
      refine ⟨(f x).data.toList, ?_, by rw [ba_list]; exact h⟩
      rw [hperm.mem_iff, hmem, ba_list, h]; rfl
/-- 'append' in a walk, its run told. -/
theorem wpList_appE {P : Program} {w w' : World} {ops : Array Oper} {rest : List Oper} {o : Oper} {a : Act} {Q : Exit → Act → World → Prop} {sv xv v' : Value} (hg : o.guard = none) (s x : Operand) (t : TypeId) (hop : o.op = Op.call { callee := Callee.builtin Builtin.append, args := #[s, x], argTypes := #[t, t] })
    (run : (Builtin.append_ #[t, t] o.type #[sv, xv]).run P w = .ok v' w') (hs : a.eval s = sv) (hx : a.eval x = xv) (hK : wpList P ops Q rest (a.put o.dst v') w') : wpList P ops Q (o :: rest) a w := by
  refine wpList_plain hg fun K' hK' => ?_
  unfold Oper.wp
  simp [execOp, hop, resolve, invoke, builtin, hs, hx, run, Result.andThen]
  exact hK' _ _ hK
end Go.Proofs.Ytebmaplflpfjbaa
