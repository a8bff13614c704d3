/- A row of operations that came in (a law's own types), opened. Condition: none. -/
import Derived.Test.YtclcaflkopnbpaaGreatDoorOpenState
import Derived.Test.YtclcaflkopnbpaaGreatDoorBaseA
import Derived.Test.YtclcaflkopnbpaaGreatDoorApplyAllPlain
namespace Go.Proofs.YtclcaflkopnbpaaGreatDoor
open Go.RowKit Go.Deep Go.ChangeShapes Go.WideShapes
set_option linter.unusedVariables false

theorem at_of_ops {w : World} {g o n : Nat} (I : Nat → Rq) (h : ∀ i, i < n → w.cell? ⟨g, o + i * 5, none⟩ = some (.string (I i).c) ∧ w.cell? ⟨g, o + i * 5 + 1, none⟩ = some (.int .i64 (I i).q) ∧ w.cell? ⟨g, o + i * 5 + 2, none⟩ = some (.int .i64 (I i).n) ∧ w.cell? ⟨g, o + i * 5 + 3, none⟩ = some (.string (I i).k) ∧ w.cell? ⟨g, o + i * 5 + 4, none⟩ = some (.string (I i).v)) :
    At w g o (((List.range n).map I).flatMap rqC) := by
  induction n with
  | zero => exact At.nil _ _ _
  | succ n ih =>
    rw [List.range_succ, List.map_append, List.flatMap_append, At.append]
    refine ⟨ih (fun i hi => h i (by omega)), ?_⟩
    rw [rqC_len]
    simp only [List.length_map, List.length_range, List.map_cons, List.map_nil, List.flatMap_cons, List.flatMap_nil, List.append_nil, rqC, At.cons]
    exact ⟨(h n (by omega)).1, (h n (by omega)).2.1, (h n (by omega)).2.2.1, (h n (by omega)).2.2.2.1, (h n (by omega)).2.2.2.2, At.nil _ _ _⟩
section
variable {H : Type} {enc : TypeId × Value → H}
set_option maxRecDepth 100000 in
theorem open_opRow {W : World} {base : Nat} {sp : Nat → Bool} {held : Bool} {fuel : Nat} {cs : List Value} {x : DataW H × List MemPlace} (h : DataW.trod enc Tryz.prog W base sp held fuel 51 cs = some x) :
    ∃ (v : Value) (xs : List Rq), cs = [v] ∧ Raw W W.heap.size v xs.length (xs.flatMap rqC) ∧ ∀ x ∈ xs, FitRq x := by
  rcases open_slice Tryz.underlying51 h with ⟨rfl, _⟩ | ⟨a, len, cap, m, n, D, Pl, rfl, hb, hl, hm, hmm, _, hx⟩
  · exact ⟨_, [], rfl, ⟨none, 0, rfl, Nat.le_refl _, Nat.zero_le _, fun _ => rfl, fun h => absurd h (Nat.lt_irrefl _)⟩, fun x hx => by simp at hx⟩
  · have hlm : len ≤ m := by rw [hmm]; split <;> omega
    rw [cellsLO] at hx
    have each : ∀ i, i < len → ∃ q : Rq, W.cell? (a.add (i * 5)) = some (.string q.c) ∧ W.cell? (a.add (i * 5 + 1)) = some (.int .i64 q.q) ∧ W.cell? (a.add (i * 5 + 2)) = some (.int .i64 q.n) ∧ W.cell? (a.add (i * 5 + 3)) = some (.string q.k) ∧ W.cell? (a.add (i * 5 + 4)) = some (.string q.v) ∧ FitRq q := by
      intro i hi
      obtain ⟨cs', h1, h2⟩ := hx i (by omega)
      obtain ⟨_, hlen, hcell⟩ := World.cells?_some h1
      obtain ⟨q, rfl, hf⟩ := open_op h2
      have c0 := hcell 0 (by omega)
      have c1 := hcell 1 (by omega)
      have c2 := hcell 2 (by omega)
      have c3 := hcell 3 (by omega)
      have c4 := hcell 4 (by omega)
      rw [add_add] at c0 c1 c2 c3 c4
      exact ⟨q, by simpa [rqC] using c0, by simpa [rqC] using c1, by simpa [rqC] using c2, by simpa [rqC] using c3, by simpa [rqC] using c4, hf⟩
    obtain ⟨I, hI⟩ := choose_lt each
    have hlI : ((List.range len).map I).length = len := by simp
    refine ⟨_, (List.range len).map I, rfl, ⟨some a, cap, by rw [hlI], by rw [hlI]; exact hl, hm, (fun h => by cases h), fun h0 => ?_⟩, fun x hx => ?_⟩
    · rw [hlI] at h0
      obtain ⟨b, off, spot⟩ := a
      have hc0 := (hI 0 h0).1
      have hsp : spot = none := by simpa [Addr.add] using World.cell?_spot hc0
      subst hsp
      refine ⟨b, off, rfl, ?_, at_of_ops I (fun i hi => ?_)⟩
      · have := World.block_lt_of_cell? W _ hc0
        simpa [Addr.add] using this
      · have hc := hI i hi
        simp only [add_flat, Nat.add_assoc] at hc ⊢
        exact ⟨hc.1, hc.2.1, hc.2.2.1, hc.2.2.2.1, hc.2.2.2.2.1⟩
    · obtain ⟨i, hi, rfl⟩ := List.mem_map.1 hx
      exact (hI i (List.mem_range.1 hi)).2.2.2.2.2
end
end Go.Proofs.YtclcaflkopnbpaaGreatDoor
