/- Rows of the call's own, nil or not; a row's cells written in place. Condition: none. -/
import Derived.Test.YtkoohmibdaomkaaGot
import Derived.Test.YtkoohmibdaomkaaCopy
import Derived.Test.YtkoohmibdaomkaaAppendMore
namespace Go.Proofs.Ytkoohmibdaomkaa
open Go.RowKit
set_option linter.unusedVariables false

/-- The slice at a row's head, or nil where it has no element. -/
def SlN (v : Value) (g n cap : Nat) : Prop := ∃ a, v = .slice a n cap ∧ (a = some ⟨g, 0, none⟩ ∨ (a = none ∧ n = 0 ∧ cap = 0))
/-- A state whose rows are the call's own, or nil. -/
def OwnN (w : World) (base : Nat) (v : Value) (s : St) : Prop := ∃ vi vt gi ci gt ct, v = .agg #[vi, vt] ∧ gi ≠ gt ∧ SlN vi gi s.items.length ci ∧ SlN vt gt s.talks.length ct ∧
  Got w base 29 2 gi s.items.length ci (s.items.flatMap itC) ∧ Got w base 41 3 gt s.talks.length ct (s.talks.flatMap tkC)
theorem OwnC.n {w : World} {base : Nat} {v : Value} {s : St} (h : OwnC w base v s) : OwnN w base v s := by
  obtain ⟨gi, ci, gt, ct, h0, h1, h2, h3⟩ := h
  exact ⟨_, _, gi, ci, gt, ct, h0, h1, ⟨_, rfl, .inl rfl⟩, ⟨_, rfl, .inl rfl⟩, h2, h3⟩
theorem OwnN.later {w w' : World} {base : Nat} {v : Value} {s : St} (h : OwnN w base v s) (hb : Below w.heap.size w w') : OwnN w' base v s := by
  obtain ⟨vi, vt, gi, ci, gt, ct, h0, h1, h2, h3, h4, h5⟩ := h
  exact ⟨vi, vt, gi, ci, gt, ct, h0, h1, h2, h3, h4.later hb, h5.later hb⟩
theorem OwnN.base {w : World} {base base' : Nat} {v : Value} {s : St} (h : OwnN w base v s) (hb : base' ≤ base) : OwnN w base' v s := by
  obtain ⟨vi, vt, gi, ci, gt, ct, h0, h1, h2, h3, h4, h5⟩ := h
  exact ⟨vi, vt, gi, ci, gt, ct, h0, h1, h2, h3, h4.base hb, h5.base hb⟩
theorem raw_of_got {w : World} {base e size g n cap : Nat} {v : Value} {cs : List Value} (h : Got w base e size g n cap cs) (hv : SlN v g n cap) : Raw w w.heap.size v n cs := by
  obtain ⟨h1, h2, h3, h4, h5, h6⟩ := h
  obtain ⟨a, rfl, hv⟩ := hv
  rcases hv with rfl | ⟨rfl, rfl, rfl⟩
  · refine ⟨_, cap, rfl, h2, h3, (fun h => by cases h), fun hn => ⟨g, 0, rfl, h5, fun j u hu => ?_⟩⟩
    have := (h6.resolve_left (by omega)).cells (g := g) rfl j u hu
    rwa [add_flat] at this
  · exact ⟨none, 0, rfl, Nat.le_refl _, Nat.zero_le _, fun _ => rfl, fun h => absurd h (Nat.lt_irrefl _)⟩
theorem OwnN.rd {w : World} {base : Nat} {v : Value} {s : St} (h : OwnN w base v s) : Rd w w.heap.size v s := by
  obtain ⟨vi, vt, gi, ci, gt, ct, h0, h1, h2, h3, h4, h5⟩ := h
  exact ⟨vi, vt, h0, raw_of_got h4 h2, raw_of_got h5 h3⟩

/-- A block's cells, some of them in a row written. -/
theorem heap_setCells (g : Nat) (e : TypeId) : ∀ (vs : List Value) (o : Nat) (w : World) (cur : Array Value), w.heap[g]? = some (.cells cur e (0, 0)) → o + vs.length ≤ cur.size →
    ∃ cur', (w.setCells g o vs).heap[g]? = some (.cells cur' e (0, 0)) ∧ cur'.size = cur.size ∧ cur'.toList = cur.toList.take o ++ vs ++ cur.toList.drop (o + vs.length)
  | [], o, w, cur, h, _ => ⟨cur, h, rfl, by simp⟩
  | v :: vs, o, w, cur, h, hl => by
    have h1 := heap_setCell_same w g o _ _ v h
    simp only [List.length_cons] at hl
    obtain ⟨cur', k0, k1, k2⟩ := heap_setCells g e vs (o + 1) (w.setCell ⟨g, o, none⟩ v) _ h1 (by simp only [Array.size_setIfInBounds]; omega)
    refine ⟨cur', k0, by simpa using k1, ?_⟩
    rw [k2]
    have ho : o < cur.toList.length := by rw [Array.length_toList]; omega
    have e1 : (cur.setIfInBounds o v).toList = cur.toList.set o v := by simp
    rw [e1, List.take_set, List.drop_set]
    have e2 : (cur.toList.take (o + 1)).set o v = cur.toList.take o ++ [v] := by
      have hl2 : (cur.toList.take o).length = o := by rw [List.length_take]; omega
      rw [List.take_succ_eq_append_getElem ho, List.set_append_right _ _ (by omega), hl2, Nat.sub_self]
      rfl
    rw [e2, if_pos (by omega)]
    simp [List.append_assoc, Nat.add_assoc, Nat.add_comm 1]
theorem grown_setCells (g : Nat) : ∀ (vs : List Value) (o : Nat) (w : World), w.grownBy (w.setCells g o vs) (some g)
  | [], o, w => World.grownBy.refl _ _
  | v :: vs, o, w => (grown_set w ⟨g, o, none⟩ v).trans (grown_setCells g vs (o + 1) _)

/-- 'append' whose run is known, in a list of operations, and in a region that draws. -/
theorem wpList_app {P : Program} {ops : Array Oper} {rest : List Oper} {o : Oper} {a : Act} {w w' : World} {Q : Exit → Act → World → Prop} (hg : o.guard = none) (s x : Operand) (t : TypeId)
    (hop : o.op = Op.call { callee := Callee.builtin Builtin.append, args := #[s, x], argTypes := #[t, t] }) (sv xv v : Value) (hs : a.eval s = sv) (hx : a.eval x = xv)
    (hrun : (Builtin.append_ #[t, t] o.type #[sv, xv]).run P w = .ok v w') (h : wpList P ops Q rest (a.put o.dst v) w') : wpList P ops Q (o :: rest) a w := by
  refine wpList_plain hg fun K hK' => ?_
  unfold Oper.wp
  simp [execOp, hop, resolve, invoke, builtin, hs, hx, hrun, Result.andThen]
  exact hK' _ _ h
theorem step_run {P : Program} {ops : Array Oper} {o : Oper} {a : Act} {w w' : World} {K : Act → World → Prop} {Q : Exit → Act → World → Prop} {E : Prop} (hgd : o.guard = none) (s x : Operand) (t : TypeId)
    (hop : o.op = Op.call { callee := Callee.builtin Builtin.append, args := #[s, x], argTypes := #[t, t] }) (sv xv v : Value) (hs : a.eval s = sv) (hx : a.eval x = xv)
    (hrun : (Builtin.append_ #[t, t] o.type #[sv, xv]).run P w = .ok v w') (hK : K (a.put o.dst v) w') : if Region.wanted o (yielded ops a.tmps) = true then Oper.wp P o a w K Q else E := by
  have hw : Region.wanted o (yielded ops a.tmps) = true := by simp [Region.wanted, hgd]
  rw [if_pos hw]
  unfold Oper.wp
  simp [execOp, hop, resolve, invoke, builtin, hs, hx, hrun, Result.andThen]
  exact hK
end Go.Proofs.Ytkoohmibdaomkaa
