/- 'append([]T{}, s..)': onto a row that holds nothing: what is handed back, and that nothing that was there has turned. Condition: a source that can be read. -/
import Derived.Test.YtkoohmibdaomkaaForms
import Derived.Maps.AppendAt
import Derived.ArgAppend
import Derived.Deep.RegionHeldLaw
namespace Go.Proofs.Ytkoohmibdaomkaa
open Go.RowKit
set_option linter.unusedVariables false

/-- What lies at block g: nothing, or a row of the call's own. -/
def Got (w : World) (base e size g n cap : Nat) (cs : List Value) : Prop :=
  cs.length = n * size ∧ n ≤ cap ∧ cap ≤ maxLen ∧ base ≤ g ∧ g < w.heap.size ∧ ((n = 0 ∧ cap = 0) ∨ w.ownsRow base e size (.slice (some ⟨g, 0, none⟩) n cap) n cs)

theorem below_of_grown {w w' : World} (h : w.grownBy w' none) : Below w.heap.size w w' :=
  ⟨h.os, h.tape, h.output, h.size, fun j hj => h.block j hj (by simp)⟩

theorem run_app0 {P : Program} (w : World) (t ty e : TypeId) (i : TypeInfo) (z : Value) (size bytes : Nat) (ht : P.underlying t = some (.slice e)) (hi : P.info? e = some i) (hz : i.zero = some z)
    (hsize : i.size = size) (hby : i.bytes = bytes) (hzs : z.cells.size = size) (hsz : 0 < size) (X base : Nat) (hX : base ≤ X) (hXl : X < w.heap.size)
    (x : Value) (B m : Nat) (news : List Value) (hr : Raw w B x m news) (hl : news.length = m * size) (h1 : ∀ u ∈ news, u.oneCell' = true) (h63 : m ≤ maxLen) (hb : m * bytes ≤ 140737488355328) :
    ∃ v' w', (Builtin.append_ #[t, t] ty #[.slice (some ⟨X, 0, none⟩) 0 0, x]).run P w = .ok v' w' ∧ Below w.heap.size w w' ∧ ∃ g cap, v' = .slice (some ⟨g, 0, none⟩) m cap ∧ (g = X ∨ w.heap.size ≤ g) ∧ Got w' base e size g m cap news := by
  obtain ⟨a, cap, rfl, hc, _, hn, hA⟩ := hr
  by_cases hm : 0 < m
  · obtain ⟨g, o, rfl, _, hAt⟩ := hA hm
    obtain ⟨v', w', hrun, r1, r2⟩ := run_append_arg_grows (P := P) w t ty e i z size bytes ht hi hz hsize hby hzs hsz ⟨X, 0, none⟩ 0 0 [] (by simp) (fun j u hu => by simp at hu) ⟨g, o, none⟩ m cap news hl
      (fun j u hu => by rw [add_flat]; exact hAt j u hu) (by omega) (by omega) (by simpa using hb)
    have r1 : w'.ownsRow w.heap.size e size v' m news := by simpa using r1
    rcases id r1.2 with ⟨_, h0⟩ | ⟨g', cap', cur, h0, h2, h3, h4, h5, _⟩
    · omega
    · subst h0
      have hlt := (r1.lt g' rfl).2
      refine ⟨_, w', hrun, below_of_grown r2, g', cap', rfl, .inr h2, hl, h4, h5, by omega, hlt, .inr ⟨hl, ?_⟩⟩
      rcases r1.2 with ⟨_, h0⟩ | ⟨g'', cap'', cur', h0', k2, k3⟩
      · omega
      · exact .inr ⟨g'', cap'', cur', h0', by omega, k3⟩
  · obtain rfl : m = 0 := by omega
    obtain rfl : news = [] := List.eq_nil_of_length_eq_zero (by simpa using hl)
    refine ⟨_, w, ?_, Below.refl _ _, X, 0, rfl, .inl rfl, by simp, Nat.le_refl _, Nat.zero_le _, hX, hXl, .inl ⟨rfl, rfl⟩⟩
    cases a with
    | none => simp [Builtin.append_, run_underlying ht, sizeOf, typeInfo, hi, Builtin.lenOf, Builtin.firstCells, storeCells]
    | some ad =>
      have := run_append_room_cells (P := P) w t ty e i ht hi X 0 0 0 ad 0 cap [] (by simp) (fun j u hu => by simp at hu) (fun u hu => by simp at hu) (by simp) (fun j hj => by simp at hj) (fun j hj => by simp at hj)
      simpa [World.setCells] using this

theorem step_app0 {P : Program} {ops : Array Oper} {o : Oper} {a : Act} {w : World} {K : Act → World → Prop} {Q : Exit → Act → World → Prop} {E : Prop} (hg : o.guard = none) (s x : Operand) (t : TypeId)
    (hop : o.op = Op.call { callee := Callee.builtin Builtin.append, args := #[s, x], argTypes := #[t, t] })
    (e : TypeId) (i : TypeInfo) (z : Value) (size bytes : Nat) (ht : P.underlying t = some (.slice e)) (hi : P.info? e = some i) (hz : i.zero = some z)
    (hsize : i.size = size) (hby : i.bytes = bytes) (hzs : z.cells.size = size) (hsz : 0 < size) (X base : Nat) (hX : base ≤ X) (hXl : X < w.heap.size) (hs : a.eval s = .slice (some ⟨X, 0, none⟩) 0 0)
    (xv : Value) (hx : a.eval x = xv) (B m : Nat) (news : List Value) (hr : Raw w B xv m news) (hl : news.length = m * size) (h1 : ∀ u ∈ news, u.oneCell' = true) (h63 : m ≤ maxLen) (hb : m * bytes ≤ 140737488355328)
    (hK : ∀ g cap w', Below w.heap.size w w' → (g = X ∨ w.heap.size ≤ g) → Got w' base e size g m cap news → K (a.put o.dst (.slice (some ⟨g, 0, none⟩) m cap)) w') :
    if Region.wanted o (yielded ops a.tmps) = true then Oper.wp P o a w K Q else E := by
  have hw : Region.wanted o (yielded ops a.tmps) = true := by simp [Region.wanted, hg]
  rw [if_pos hw]
  obtain ⟨v', w', hrun, h2, g, cap, rfl, h3, h4⟩ := run_app0 (P := P) w t o.type e i z size bytes ht hi hz hsize hby hzs hsz X base hX hXl xv B m news hr hl h1 h63 hb
  unfold Oper.wp
  simp [execOp, hop, resolve, invoke, builtin, hs, hx, hrun, Result.andThen]
  exact hK g cap w' h2 h3 h4
end Go.Proofs.Ytkoohmibdaomkaa
