/- An element cut out of a row of the call's own; slices.Delete. Condition: the element is there. -/
import Derived.Test.YtkoohmibdaomkaaRowSet
import Derived.Deep.QuietTactic
namespace Go.Proofs.Ytkoohmibdaomkaa
open Go.RowKit
set_option linter.unusedVariables false

theorem got_put {w : World} {base e size g n cap : Nat} {cs : List Value} (h : Got w base e size g n cap cs) (hn : 0 < n) (o : Nat) (vs : List Value) (m : Nat) (hm : m ≤ cap) (ho : o + vs.length ≤ cap * size) :
    ∃ cur : List Value, cur.length = cap * size ∧ cur.take (n * size) = cs ∧ Got (w.setCells g o vs) base e size g m cap ((cur.take o ++ vs ++ cur.drop (o + vs.length)).take (m * size)) := by
  obtain ⟨h1, h2, h3, h4, h5, h6⟩ := h
  rcases h6 with h6 | ⟨_, h6⟩
  · omega
  rcases h6 with ⟨h6, _⟩ | ⟨g', cap', cur, hv, k1, k2, k3, k4, k5, k6⟩
  · cases h6
  · cases hv
    obtain ⟨cur', j0, j1, j2⟩ := heap_setCells g e vs o w cur k2 (by omega)
    have hgr := grown_setCells g vs o w
    have hl : ((cur.toList.take o ++ vs ++ cur.toList.drop (o + vs.length)).take (m * size)).length = m * size := by
      have hms : m * size ≤ cap * size := Nat.mul_le_mul_right _ hm
      simp only [List.length_take, List.length_append, List.length_drop, Array.length_toList]
      omega
    refine ⟨cur.toList, by simpa using k5, k6, hl, hm, h3, h4, Nat.lt_of_lt_of_le h5 hgr.size, .inr ⟨hl, .inr ⟨g, cap, cur', rfl, h4, j0, hm, h3, by omega, ?_⟩⟩⟩
    rw [j2]

/-- What lies in a row's block: its cells, none frozen. -/
theorem got_cells {w : World} {base e size g n cap : Nat} {cs : List Value} (h : Got w base e size g n cap cs) (hn : 0 < n) :
    ∃ cur : Array Value, w.heap[g]? = some (.cells cur e (0, 0)) ∧ cur.size = cap * size ∧ cur.toList.take (n * size) = cs := by
  obtain ⟨h1, h2, h3, h4, h5, h6⟩ := h
  rcases h6 with h6 | ⟨_, h6⟩
  · omega
  rcases h6 with ⟨h6, _⟩ | ⟨g', cap', cur, hv, k1, k2, k3, k4, k5, k6⟩
  · cases h6
  · cases hv
    exact ⟨cur, k2, k5, k6⟩

theorem run_clear1 {P : Program} (w : World) (t e ty : TypeId) (z : Value) (zs : List Value) (ht : P.underlying t = some (.slice e)) (hv : ∀ w, (zeroValue e).run P w = .ok z w) (hz : (Builtin.zeroCells z.cells 1).toList = zs)
    (h1 : ∀ v ∈ zs, v.oneCell' = true) (b o c : Nat) (hc : ∀ j, j < zs.length → (w.cell? ⟨b, o + j, none⟩).isSome = true) (hf : ∀ j, j < zs.length → w.frozen? ⟨b, o + j, none⟩ = false) :
    (Builtin.clear_ #[t] ty #[.slice (some ⟨b, o, none⟩) 1 c]).run P w = .ok (.tuple #[]) (w.setCells b o zs) := by
  have hst := run_storeCells_cells (P := P) b o zs 0 w (by simpa using hc) (by simpa using hf) h1
  simp only [Nat.add_zero] at hst
  simp [Builtin.clear_, run_underlying ht, hv, hz, hst]

theorem flat_split_it (xs : List It) (i : Nat) : xs.flatMap itC = (xs.take i).flatMap itC ++ (xs.drop i).flatMap itC := by
  rw [← List.flatMap_append, List.take_append_drop]
theorem flat_take_it (xs : List It) (i : Nat) (hi : i ≤ xs.length) : (xs.take i).flatMap itC = (xs.flatMap itC).take (i * 2) := by
  rw [flat_split_it xs i, List.take_left' (by rw [flat_len_it, List.length_take]; omega)]
theorem flat_drop_it (xs : List It) (i : Nat) (hi : i ≤ xs.length) : (xs.drop i).flatMap itC = (xs.flatMap itC).drop (i * 2) := by
  rw [flat_split_it xs i, List.drop_left' (by rw [flat_len_it, List.length_take]; omega)]
theorem flat_split_tk (xs : List Tk) (i : Nat) : xs.flatMap tkC = (xs.take i).flatMap tkC ++ (xs.drop i).flatMap tkC := by
  rw [← List.flatMap_append, List.take_append_drop]
theorem flat_take_tk (xs : List Tk) (i : Nat) (hi : i ≤ xs.length) : (xs.take i).flatMap tkC = (xs.flatMap tkC).take (i * 3) := by
  rw [flat_split_tk xs i, List.take_left' (by rw [flat_len_tk, List.length_take]; omega)]
theorem flat_drop_tk (xs : List Tk) (i : Nat) (hi : i ≤ xs.length) : (xs.drop i).flatMap tkC = (xs.flatMap tkC).drop (i * 3) := by
  rw [flat_split_tk xs i, List.drop_left' (by rw [flat_len_tk, List.length_take]; omega)]

/-- Cells behind a row's end written: the row stays. -/
theorem got_tail {w : World} {base e size g n cap : Nat} {cs : List Value} (h : Got w base e size g n cap cs) (o : Nat) (vs : List Value) (ho : n * size ≤ o) (hl : o + vs.length ≤ cap * size) : Got (w.setCells g o vs) base e size g n cap cs := by
  obtain ⟨h1, h2, h3, h4, h5, h6⟩ := h
  have hgr := grown_setCells g vs o w
  refine ⟨h1, h2, h3, h4, Nat.lt_of_lt_of_le h5 hgr.size, ?_⟩
  rcases h6 with h6 | h6
  · exact .inl h6
  refine .inr ⟨h1, ?_⟩
  rcases h6.2 with ⟨h6, _⟩ | ⟨g', cap', cur, hv, k1, k2, k3, k4, k5, k6⟩
  · cases h6
  · cases hv
    obtain ⟨cur', j0, j1, j2⟩ := heap_setCells g e vs o w cur k2 (by omega)
    refine .inr ⟨g, cap, cur', rfl, h4, j0, h2, h3, by omega, ?_⟩
    have hol : (cur.toList.take o).length = o := by rw [List.length_take, Array.length_toList]; omega
    rw [j2, List.append_assoc, List.take_append_of_le_length (by omega), List.take_take, Nat.min_eq_left ho]
    exact k6

/-- 'clear' whose run is known, in a list of operations. -/
theorem wpList_clear {P : Program} {ops : Array Oper} {rest : List Oper} {o : Oper} {a : Act} {w w' : World} {Q : Exit → Act → World → Prop} (hg : o.guard = none) (x : Operand) (t : TypeId)
    (hop : o.op = Op.call { callee := Callee.builtin Builtin.clear, args := #[x], argTypes := #[t] }) (xv v : Value) (hx : a.eval x = xv)
    (hrun : (Builtin.clear_ #[t] o.type #[xv]).run P w = .ok v w') (h : wpList P ops Q rest (a.put o.dst v) w') : wpList P ops Q (o :: rest) a w := by
  refine wpList_plain hg fun K hK' => ?_
  unfold Oper.wp
  simp [execOp, hop, resolve, invoke, builtin, hx, hrun, Result.andThen]
  exact hK' _ _ h

/-- An element cut out: what the row's cells are then. -/
theorem cut_list (cur cs : List Value) (sz i p cap : Nat) (zs : List Value) (hz : zs.length = sz) (hl : cur.length = cap * sz) (hc : cur.take ((i + 1 + p) * sz) = cs) (hcap : i + 1 + p ≤ cap) :
    ((cur.take (i * sz) ++ cs.drop ((i + 1) * sz) ++ cur.drop (i * sz + (cs.drop ((i + 1) * sz)).length)).take ((i + p) * sz)) = cs.take (i * sz) ++ cs.drop ((i + 1) * sz) := by
  have e0 : (i + 1 + p) * sz = i * sz + sz + p * sz := by rw [Nat.add_mul, Nat.add_mul, Nat.one_mul]
  have e1 : (i + p) * sz = i * sz + p * sz := Nat.add_mul _ _ _
  have e2 : (i + 1) * sz = i * sz + sz := by rw [Nat.add_mul, Nat.one_mul]
  have e3 : (i + 1 + p) * sz ≤ cap * sz := Nat.mul_le_mul_right _ hcap
  have l1 : cs.length = (i + 1 + p) * sz := by rw [← hc, List.length_take]; omega
  have l2 : (cs.drop ((i + 1) * sz)).length = p * sz := by rw [List.length_drop]; omega
  have l3 : (cur.take (i * sz)).length = i * sz := by rw [List.length_take]; omega
  have l4 : cur.take (i * sz) = cs.take (i * sz) := by rw [← hc, List.take_take, Nat.min_eq_left (by omega)]
  rw [List.take_append_of_le_length (by rw [List.length_append]; omega), List.take_of_length_le (by rw [List.length_append]; omega), l4]
end Go.Proofs.Ytkoohmibdaomkaa
