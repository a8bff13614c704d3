/- A state that came in (a law's own types), opened: its rows of cells. Condition: none. -/
import Derived.Test.YtlklhmdpkicpnaaBaseA
import Derived.Test.YtlklhmdpkicpnaaRows
import Derived.ProofKit
import Derived.Deep.Slices
import Derived.Deep.Strs
import Derived.OpenShut
namespace Go.Proofs.Ytlklhmdpkicpnaa
open Go.RowKit Go.Deep Go.ChangeShapes Go.WideShapes
set_option linter.unusedVariables false

theorem cellsLI : Try.prog.cellsOf 152 = 2 := by kernel_rfl
theorem cellsLT : Try.prog.cellsOf 154 = 3 := by kernel_rfl
theorem cellsLS : Try.prog.cellsOf 66 = 2 := by kernel_rfl
theorem cellsIs : Try.prog.cellsOf 63 = 1 := by kernel_rfl
theorem cellsTs : Try.prog.cellsOf 64 = 1 := by kernel_rfl
theorem cellsStr : Try.prog.cellsOf 9 = 1 := by kernel_rfl
theorem cellsInt : Try.prog.cellsOf 3 = 1 := by kernel_rfl

/-- Rows of two cells by index are the flat row. -/
theorem at_of_items {w : World} {g o n : Nat} (I : Nat → It) (h : ∀ i, i < n → w.cell? ⟨g, o + i * 2, none⟩ = some (.string (I i).k) ∧ w.cell? ⟨g, o + i * 2 + 1, none⟩ = some (.string (I i).v)) :
    At w g o (((List.range n).map I).flatMap itC) := by
  induction n with
  | zero => exact At.nil _ _ _
  | succ n ih =>
    rw [List.range_succ, List.map_append, List.flatMap_append, At.append]
    refine ⟨ih (fun i hi => h i (by omega)), ?_⟩
    rw [flat_len_it]
    simp only [List.length_map, List.length_range, List.map_cons, List.map_nil, List.flatMap_cons, List.flatMap_nil, List.append_nil, itC, At.cons]
    exact ⟨(h n (by omega)).1, (h n (by omega)).2, At.nil _ _ _⟩
theorem at_of_talks {w : World} {g o n : Nat} (I : Nat → Tk) (h : ∀ i, i < n → w.cell? ⟨g, o + i * 3, none⟩ = some (.string (I i).c) ∧ w.cell? ⟨g, o + i * 3 + 1, none⟩ = some (.int .i64 (I i).q) ∧ w.cell? ⟨g, o + i * 3 + 2, none⟩ = some (.string (I i).r)) :
    At w g o (((List.range n).map I).flatMap tkC) := by
  induction n with
  | zero => exact At.nil _ _ _
  | succ n ih =>
    rw [List.range_succ, List.map_append, List.flatMap_append, At.append]
    refine ⟨ih (fun i hi => h i (by omega)), ?_⟩
    rw [flat_len_tk]
    simp only [List.length_map, List.length_range, List.map_cons, List.map_nil, List.flatMap_cons, List.flatMap_nil, List.append_nil, tkC, At.cons]
    exact ⟨(h n (by omega)).1, (h n (by omega)).2.1, (h n (by omega)).2.2, At.nil _ _ _⟩

section
variable {H : Type} {enc : TypeId × Value → H}

set_option maxRecDepth 100000 in
theorem open_itemRow {W : World} {base : Nat} {sp : Nat → Bool} {held : Bool} {fuel : Nat} {cs : List Value} {x : DataW H × List MemPlace} (h : DataW.trod enc Try.prog W base sp held fuel 63 cs = some x) :
    ∃ (v : Value) (xs : List It), cs = [v] ∧ Raw W W.heap.size v xs.length (xs.flatMap itC) ∧ ∀ x ∈ xs, FitIt x := by
  rcases open_slice Try.underlying63 h with ⟨rfl, _⟩ | ⟨a, len, cap, m, n, D, Pl, rfl, hb, hl, hm, hmm, _, hx⟩
  · exact ⟨_, [], rfl, ⟨none, 0, rfl, Nat.le_refl _, Nat.zero_le _, fun _ => rfl, fun h => absurd h (Nat.lt_irrefl _)⟩, fun x hx => by simp at hx⟩
  · have hlm : len ≤ m := by rw [hmm]; split <;> omega
    rw [cellsLI] at hx
    have each : ∀ i, i < len → ∃ q : It, W.cell? (a.add (i * 2)) = some (.string q.k) ∧ W.cell? (a.add (i * 2 + 1)) = some (.string q.v) ∧ FitIt q := by
      intro i hi
      obtain ⟨cs', h1, h2⟩ := hx i (by omega)
      obtain ⟨_, hlen, hcell⟩ := World.cells?_some h1
      obtain ⟨y0, y1, k, hxy, _, u0, u1⟩ := trod_struct2 Try.underlying152 h2
      match cs', hlen with
      | [v0, v1], _ =>
        simp only [cellsStr, List.drop, List.take] at u0 u1
        obtain ⟨s, e0, d0, s0⟩ := DataW.trod_string Try.underlying9 u0
        obtain ⟨q, e1, d1, s1⟩ := DataW.trod_string Try.underlying9 u1
        simp only [List.cons.injEq, and_true] at e0 e1
        subst e0; subst e1
        have c0 := hcell 0 (by omega)
        have c1 := hcell 1 (by omega)
        rw [add_add] at c0 c1
        exact ⟨⟨s, q⟩, by simpa using c0, by simpa using c1, s0, s1⟩
    obtain ⟨I, hI⟩ := choose_lt each
    have hlI : ((List.range len).map I).length = len := by simp
    refine ⟨_, (List.range len).map I, rfl, ⟨some a, cap, by rw [hlI], by rw [hlI]; exact hl, hm, (fun h => by cases h), fun h0 => ?_⟩, fun x hx => ?_⟩
    · rw [hlI] at h0
      obtain ⟨b, off, spot⟩ := a
      have hc0 := (hI 0 h0).1
      have hsp : spot = none := by simpa [Addr.add] using World.cell?_spot hc0
      subst hsp
      refine ⟨b, off, rfl, ?_, at_of_items I (fun i hi => ?_)⟩
      · have := World.block_lt_of_cell? W _ hc0
        simpa [Addr.add] using this
      · have hc := hI i hi
        simp only [add_flat, Nat.add_assoc] at hc ⊢
        exact ⟨hc.1, hc.2.1⟩
    · obtain ⟨i, hi, rfl⟩ := List.mem_map.1 hx
      exact (hI i (List.mem_range.1 hi)).2.2

set_option maxRecDepth 100000 in
theorem open_talkRow {W : World} {base : Nat} {sp : Nat → Bool} {held : Bool} {fuel : Nat} {cs : List Value} {x : DataW H × List MemPlace} (h : DataW.trod enc Try.prog W base sp held fuel 64 cs = some x) :
    ∃ (v : Value) (xs : List Tk), cs = [v] ∧ Raw W W.heap.size v xs.length (xs.flatMap tkC) ∧ ∀ x ∈ xs, FitTk x := by
  rcases open_slice Try.underlying64 h with ⟨rfl, _⟩ | ⟨a, len, cap, m, n, D, Pl, rfl, hb, hl, hm, hmm, _, hx⟩
  · exact ⟨_, [], rfl, ⟨none, 0, rfl, Nat.le_refl _, Nat.zero_le _, fun _ => rfl, fun h => absurd h (Nat.lt_irrefl _)⟩, fun x hx => by simp at hx⟩
  · have hlm : len ≤ m := by rw [hmm]; split <;> omega
    rw [cellsLT] at hx
    have each : ∀ i, i < len → ∃ q : Tk, W.cell? (a.add (i * 3)) = some (.string q.c) ∧ W.cell? (a.add (i * 3 + 1)) = some (.int .i64 q.q) ∧ W.cell? (a.add (i * 3 + 2)) = some (.string q.r) ∧ FitTk q := by
      intro i hi
      obtain ⟨cs', h1, h2⟩ := hx i (by omega)
      obtain ⟨_, hlen, hcell⟩ := World.cells?_some h1
      obtain ⟨y0, y1, y2, k, hxy, _, u0, u1, u2⟩ := trod_struct3 Try.underlying154 h2
      match cs', hlen with
      | [v0, v1, v2], _ =>
        simp only [cellsStr, cellsInt, List.drop, List.take] at u0 u1 u2
        obtain ⟨s, e0, d0, s0⟩ := DataW.trod_string Try.underlying9 u0
        obtain ⟨p, e1, d1, s1⟩ := DataW.trod_int Try.underlying3 u1
        obtain ⟨q, e2, d2, s2⟩ := DataW.trod_string Try.underlying9 u2
        simp only [List.cons.injEq, and_true] at e0 e1 e2
        subst e0; subst e1; subst e2
        have c0 := hcell 0 (by omega)
        have c1 := hcell 1 (by omega)
        have c2 := hcell 2 (by omega)
        rw [add_add] at c0 c1 c2
        exact ⟨⟨s, p, q⟩, by simpa using c0, by simpa using c1, by simpa using c2, s0, s2, bounds_i64 s1⟩
    obtain ⟨I, hI⟩ := choose_lt each
    have hlI : ((List.range len).map I).length = len := by simp
    refine ⟨_, (List.range len).map I, rfl, ⟨some a, cap, by rw [hlI], by rw [hlI]; exact hl, hm, (fun h => by cases h), fun h0 => ?_⟩, fun x hx => ?_⟩
    · rw [hlI] at h0
      obtain ⟨b, off, spot⟩ := a
      have hc0 := (hI 0 h0).1
      have hsp : spot = none := by simpa [Addr.add] using World.cell?_spot hc0
      subst hsp
      refine ⟨b, off, rfl, ?_, at_of_talks I (fun i hi => ?_)⟩
      · have := World.block_lt_of_cell? W _ hc0
        simpa [Addr.add] using this
      · have hc := hI i hi
        simp only [add_flat, Nat.add_assoc] at hc ⊢
        exact ⟨hc.1, hc.2.1, hc.2.2.1⟩
    · obtain ⟨i, hi, rfl⟩ := List.mem_map.1 hx
      exact (hI i (List.mem_range.1 hi)).2.2.2

set_option maxRecDepth 100000 in
/-- A state that came in. -/
theorem open_state {W : World} {base : Nat} {sp : Nat → Bool} {held : Bool} {fuel : Nat} {cs : List Value} {x : DataW H × List MemPlace} (h : DataW.trod enc Try.prog W base sp held fuel 66 cs = some x) :
    ∃ (vi vt : Value) (s : St), cs = [vi, vt] ∧ Raw W W.heap.size vi s.items.length (s.items.flatMap itC) ∧ Raw W W.heap.size vt s.talks.length (s.talks.flatMap tkC) ∧ (∀ x ∈ s.items, FitIt x) ∧ ∀ x ∈ s.talks, FitTk x := by
  obtain ⟨y0, y1, k, _, hlen, u0, u1⟩ := trod_struct2 Try.underlying66 h
  rw [cellsLS] at hlen
  match cs, hlen with
  | [v0, v1], _ =>
    simp only [cellsIs, cellsTs, List.drop, List.take] at u0 u1
    obtain ⟨a, xs, e0, r0, f0⟩ := open_itemRow u0
    obtain ⟨b, ys, e1, r1, f1⟩ := open_talkRow u1
    simp only [List.cons.injEq, and_true] at e0 e1
    subst e0; subst e1
    exact ⟨_, _, ⟨xs, ys⟩, rfl, r0, r1, f0, f1⟩
end
end Go.Proofs.Ytlklhmdpkicpnaa
