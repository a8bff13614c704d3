/- A row of states that came in, opened. Condition: none. -/
import Derived.Test.YtebmaplflpfjbaaOpenState
import Derived.Test.YtebmaplflpfjbaaStates
namespace Go.Proofs.Ytebmaplflpfjbaa
open Go.RowKit Go.Deep Go.ChangeShapes Go.WideShapes
set_option linter.unusedVariables false

theorem at_of_sqs {w : World} {g o n : Nat} (I : Nat → Sq) (h : ∀ i, i < n → w.cell? ⟨g, o + i * 2, none⟩ = some (I i).vi ∧ w.cell? ⟨g, o + i * 2 + 1, none⟩ = some (I i).vt) :
    At w g o (((List.range n).map I).flatMap sqC) := by
  induction n with
  | zero => exact At.nil _ _ _
  | succ n ih =>
    rw [List.range_succ, List.map_append, List.flatMap_append, At.append]
    refine ⟨ih (fun i hi => h i (by omega)), ?_⟩
    rw [sqC_len, List.length_map, List.length_range]
    have := h n (by omega)
    simp only [List.map_cons, List.map_nil, List.flatMap_cons, List.flatMap_nil, List.append_nil, sqC, At.cons]
    exact ⟨this.1, this.2, At.nil _ _ _⟩
set_option maxRecDepth 100000 in
theorem open_stateRow {H : Type} {enc : TypeId × Value → H} {W : World} {base : Nat} {sp : Nat → Bool} {held : Bool} {fuel : Nat} {cs : List Value} {x : DataW H × List MemPlace} (h : DataW.trod enc Try.prog W base sp held fuel 57 cs = some x) :
    ∃ (v : Value) (qs : List Sq), cs = [v] ∧ RawL W W.heap.size v qs := by
  rcases open_slice Try.underlying57 h with ⟨rfl, _⟩ | ⟨a, len, cap, m, n, D, Pl, rfl, hb, hl, hm, hmm, _, hx⟩
  · exact ⟨_, [], rfl, ⟨none, 0, rfl, Nat.le_refl _, Nat.zero_le _, fun _ => rfl, fun h => absurd h (Nat.lt_irrefl _)⟩, fun x hx => by simp at hx⟩
  · have hlm : len ≤ m := by rw [hmm]; split <;> omega
    rw [cellsLS] at hx
    have each : ∀ i, i < len → ∃ q : Sq, W.cell? (a.add (i * 2)) = some q.vi ∧ W.cell? (a.add (i * 2 + 1)) = some q.vt ∧ RawS W W.heap.size q.v q.s := by
      intro i hi
      obtain ⟨cs', h1, h2⟩ := hx i (by omega)
      obtain ⟨_, hlen, hcell⟩ := World.cells?_some h1
      obtain ⟨vi, vt, s, hc, r0, r1, f0, f1⟩ := open_state h2
      have c0 := hcell 0 (by omega)
      have c1 := hcell 1 (by omega)
      rw [add_add] at c0 c1
      subst hc
      exact ⟨⟨vi, vt, 0, 0, 0, 0, s⟩, by simpa using c0, by simpa using c1, _, _, rfl, r0, r1, f0, f1⟩
    obtain ⟨I, hI⟩ := choose_lt each
    have hlI : ((List.range len).map I).length = len := by simp
    refine ⟨_, (List.range len).map I, rfl, ⟨some a, cap, by rw [hlI], by rw [hlI]; exact hl, hm, (fun h => by cases h), fun h0 => ?_⟩, fun x hx => ?_⟩
    · rw [hlI] at h0
      obtain ⟨b, off, spot⟩ := a
      have hc0 := (hI 0 h0).1
      have hsp : spot = none := by simpa [Addr.add] using World.cell?_spot hc0
      subst hsp
      refine ⟨b, off, rfl, ?_, at_of_sqs I (fun i hi => ?_)⟩
      · have := World.block_lt_of_cell? W _ hc0
        simpa [Addr.add] using this
      · have hc := hI i hi
        simp only [add_flat, Nat.add_assoc] at hc ⊢
        exact ⟨hc.1, hc.2.1⟩
    · obtain ⟨i, hi, rfl⟩ := List.mem_map.1 hx
      exact (hI i (List.mem_range.1 hi)).2.2
end Go.Proofs.Ytebmaplflpfjbaa
