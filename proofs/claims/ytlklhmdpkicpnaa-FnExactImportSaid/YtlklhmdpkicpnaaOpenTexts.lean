/- A row of texts that came in, opened. Condition: none. -/
import Derived.Test.YtlklhmdpkicpnaaOpenState
import Derived.Test.YtlklhmdpkicpnaaRowTexts
namespace Go.Proofs.Ytlklhmdpkicpnaa
open Go.RowKit Go.Deep Go.ChangeShapes Go.WideShapes
set_option linter.unusedVariables false

theorem at_of_texts {w : World} {g o n : Nat} (I : Nat → ByteArray) (h : ∀ i, i < n → w.cell? ⟨g, o + i, none⟩ = some (.string (I i))) : At w g o (((List.range n).map I).map Value.string) := by
  intro j u hu
  rw [List.map_map] at hu
  have hj : j < n := by
    have := (List.getElem?_eq_some_iff.1 hu).1
    simpa using this
  rw [List.getElem?_map, List.getElem?_range hj] at hu
  simp at hu
  rw [← hu]
  exact h j hj
theorem cellsTx : Try.prog.cellsOf 9 = 1 := by kernel_rfl
section
variable {H : Type} {enc : TypeId × Value → H}
set_option maxRecDepth 100000 in
theorem open_textRow {W : World} {base : Nat} {sp : Nat → Bool} {held : Bool} {fuel : Nat} {cs : List Value} {x : DataW H × List MemPlace} (h : DataW.trod enc Try.prog W base sp held fuel 34 cs = some x) :
    ∃ (v : Value) (xs : List ByteArray), cs = [v] ∧ RawX W W.heap.size v xs := by
  rcases open_slice Try.underlying34 h with ⟨rfl, _⟩ | ⟨a, len, cap, m, n, D, Pl, rfl, hb, hl, hm, hmm, _, hx⟩
  · exact ⟨_, [], rfl, ⟨none, 0, rfl, Nat.le_refl _, Nat.zero_le _, fun _ => rfl, fun h => absurd h (Nat.lt_irrefl _)⟩, fun x hx => by simp at hx⟩
  · have hlm : len ≤ m := by rw [hmm]; split <;> omega
    rw [cellsTx] at hx
    have each : ∀ i, i < len → ∃ q : ByteArray, W.cell? (a.add i) = some (.string q) ∧ q.size ≤ maxLen := by
      intro i hi
      obtain ⟨cs', h1, h2⟩ := hx i (by omega)
      obtain ⟨_, hlen, hcell⟩ := World.cells?_some h1
      match cs', hlen with
      | [v0], _ =>
        obtain ⟨s0, e0, d0, b0⟩ := DataW.trod_string Try.underlying9 h2
        simp only [List.cons.injEq, and_true] at e0
        subst e0
        have c0 := hcell 0 (by omega)
        rw [add_add] at c0
        exact ⟨s0, by simpa using c0, b0⟩
    obtain ⟨I, hI⟩ := choose_lt each
    have hlI : ((List.range len).map I).length = len := by simp
    refine ⟨_, (List.range len).map I, rfl, ⟨some a, cap, by rw [hlI], by rw [hlI]; exact hl, hm, (fun h => by cases h), fun h0 => ?_⟩, fun x hx => ?_⟩
    · rw [hlI] at h0
      obtain ⟨b, off, spot⟩ := a
      have hc0 := (hI 0 h0).1
      have hsp : spot = none := by simpa [Addr.add] using World.cell?_spot hc0
      subst hsp
      refine ⟨b, off, rfl, ?_, at_of_texts I (fun i hi => ?_)⟩
      · have := World.block_lt_of_cell? W _ hc0
        simpa [Addr.add] using this
      · have hc := (hI i hi).1
        simpa [add_flat] using hc
    · obtain ⟨i, hi, rfl⟩ := List.mem_map.1 hx
      exact (hI i (List.mem_range.1 hi)).2
end
end Go.Proofs.Ytlklhmdpkicpnaa
