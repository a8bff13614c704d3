/- 'append(row, s..)' onto a row of the call's own (or an empty one): what is handed back, and which block has turned. Condition: a source that can be read. -/
import Derived.Test.YtkoohmibdaomkaaAppend
namespace Go.Proofs.Ytkoohmibdaomkaa
open Go.RowKit
set_option linter.unusedVariables false

theorem run_app {P : Program} (w : World) (t ty e : TypeId) (i : TypeInfo) (z : Value) (size bytes : Nat) (ht : P.underlying t = some (.slice e)) (hi : P.info? e = some i) (hz : i.zero = some z)
    (hsize : i.size = size) (hby : i.bytes = bytes) (hzs : z.cells.size = size) (hsz : 0 < size) (g n cap base : Nat) (cs : List Value) (hg : Got w base e size g n cap cs)
    (x : Value) (B m : Nat) (news : List Value) (hr : Raw w B x m news) (hl : news.length = m * size) (h1 : ∀ u ∈ news, u.oneCell' = true) (h63 : n + m ≤ maxLen) (hb : (n + m) * bytes ≤ 140737488355328) :
    ∃ g' cap' w', (Builtin.append_ #[t, t] ty #[.slice (some ⟨g, 0, none⟩) n cap, x]).run P w = .ok (.slice (some ⟨g', 0, none⟩) (n + m) cap') w' ∧ w.grownBy w' (some g) ∧ (g' = g ∨ w.heap.size ≤ g') ∧ Got w' base e size g' (n + m) cap' (cs ++ news) := by
  obtain ⟨q1, q2, q3, q4, q5, q6⟩ := hg
  rcases q6 with ⟨rfl, rfl⟩ | hown
  · obtain rfl : cs = [] := List.eq_nil_of_length_eq_zero (by simpa using q1)
    obtain ⟨v', w', hrun, hbel, g', cap', rfl, hg', hgot⟩ := run_app0 (P := P) w t ty e i z size bytes ht hi hz hsize hby hzs hsz g base q4 q5 x B m news hr hl h1 (by omega) (by simpa using hb)
    exact ⟨g', cap', w', by simpa using hrun, ⟨hbel.os, hbel.tape, hbel.output, hbel.size, fun k hk _ => hbel.block k hk⟩, hg', by simpa using hgot⟩
  · obtain ⟨a, c, rfl, hc, _, hn, hA⟩ := hr
    cases a with
    | none =>
      obtain rfl : m = 0 := by have := hn rfl; omega
      obtain rfl : news = [] := List.eq_nil_of_length_eq_zero (by simpa using hl)
      obtain rfl : c = 0 := hn rfl
      refine ⟨g, cap, w, ?_, World.grownBy.refl _ _, .inl rfl, q1 |> fun h => by simpa using h, by omega, q3, q4, q5, .inr (by simpa using hown)⟩
      simp [Builtin.append_, run_underlying ht, sizeOf, typeInfo, hi, Builtin.lenOf, Builtin.firstCells, storeCells, q2]
    | some ad =>
      obtain ⟨v', w', hrun, h2, h3, _, h5⟩ := run_append_own_at (P := P) w base t ty e i z size bytes ht hi hz hsize hby hzs hsz _ n cs hown ad m c news hl (fun j u hu => by
          have hm : 0 < m := by
            rcases Nat.eq_zero_or_pos m with h | h
            · subst h
              have : news = [] := List.eq_nil_of_length_eq_zero (by simpa using hl)
              subst this; simp at hu
            · exact h
          obtain ⟨g0, o, hgo, _, hAt⟩ := hA hm
          cases hgo
          rw [add_flat]; exact hAt j u hu) h1 h63 hb (by omega)
      rcases id h2.2 with ⟨rfl, h0⟩ | ⟨g', cap', cur, rfl, k2, k3, k4, k5, _⟩
      · rcases h5 with h5 | h5 <;> simp [Value.ownBlock] at h5
      · have hlt := (h2.lt g' rfl).2
        refine ⟨g', cap', w', hrun, by simpa [Value.ownBlock] using h3, ?_, h2.1, k4, k5, k2, hlt, .inr h2⟩
        simp [Value.ownBlock] at h5
        omega

theorem step_app {P : Program} {ops : Array Oper} {o : Oper} {a : Act} {w : World} {K : Act → World → Prop} {Q : Exit → Act → World → Prop} {E : Prop} (hgd : o.guard = none) (s x : Operand) (t : TypeId)
    (hop : o.op = Op.call { callee := Callee.builtin Builtin.append, args := #[s, x], argTypes := #[t, t] })
    (e : TypeId) (i : TypeInfo) (z : Value) (size bytes : Nat) (ht : P.underlying t = some (.slice e)) (hi : P.info? e = some i) (hz : i.zero = some z)
    (hsize : i.size = size) (hby : i.bytes = bytes) (hzs : z.cells.size = size) (hsz : 0 < size) (g n cap base : Nat) (cs : List Value) (hg : Got w base e size g n cap cs) (hs : a.eval s = .slice (some ⟨g, 0, none⟩) n cap)
    (xv : Value) (hx : a.eval x = xv) (B m : Nat) (news : List Value) (hr : Raw w B xv m news) (hl : news.length = m * size) (h1 : ∀ u ∈ news, u.oneCell' = true) (h63 : n + m ≤ maxLen) (hb : (n + m) * bytes ≤ 140737488355328)
    (hK : ∀ g' cap' w', w.grownBy w' (some g) → (g' = g ∨ w.heap.size ≤ g') → Got w' base e size g' (n + m) cap' (cs ++ news) → K (a.put o.dst (.slice (some ⟨g', 0, none⟩) (n + m) cap')) w') :
    if Region.wanted o (yielded ops a.tmps) = true then Oper.wp P o a w K Q else E := by
  have hw : Region.wanted o (yielded ops a.tmps) = true := by simp [Region.wanted, hgd]
  rw [if_pos hw]
  obtain ⟨g', cap', w', hrun, h2, h3, h4⟩ := run_app (P := P) w t o.type e i z size bytes ht hi hz hsize hby hzs hsz g n cap base cs hg xv B m news hr hl h1 h63 hb
  unfold Oper.wp
  simp [execOp, hop, resolve, invoke, builtin, hs, hx, hrun, Result.andThen]
  exact hK g' cap' w' h2 h3 h4
end Go.Proofs.Ytkoohmibdaomkaa
