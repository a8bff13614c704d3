/- Drawn states with something besides: what they leave. Condition: a code of at most 2^20 bytes. -/
import Derived.Test.YtlklhmdpkicpnaaDrawOdd
namespace Go.Proofs.Ytlklhmdpkicpnaa
open Go.RowKit
set_option linter.unusedVariables false
set_option linter.unusedSimpArgs false

theorem cell_far {z : World} {p : Addr} {v u : Value} {R i : Nat} (h : z.cell? p = some v) (hn : R ≠ p.block) : (z.setCell ⟨R, i, none⟩ u).cell? p = some v := by
  rw [World.cell?_setCell_far _ _ _ _ hn]; exact h
theorem results_cells2 {P : Program} {fn : Func} {p q : Tmp} {ty ty2 : TypeId} (h : fn.results = #[.cell p ty, .cell q ty2]) (tmps : Array Value) (w : World) (g g2 : Nat) (t t2 : TypeId) (cs cs2 : Array Value) (fr fr2 : Nat × Nat) (d d2 : TypeDesc)
    (hp : tmps.getD p undef = .pointer (some ⟨g, 0, none⟩)) (hq : tmps.getD q undef = .pointer (some ⟨g2, 0, none⟩)) (hg : w.heap[g]? = some (.cells cs t fr)) (hg2 : w.heap[g2]? = some (.cells cs2 t2 fr2))
    (hu : P.underlying ty = some d) (hd : (match d with | .struct _ | .array _ _ => true | _ => false) = true) (hi : (P.info? ty).map (·.size) = some cs.size)
    (hu2 : P.underlying ty2 = some d2) (hd2 : (match d2 with | .struct _ | .array _ _ => true | _ => false) = true) (hi2 : (P.info? ty2).map (·.size) = some cs2.size) :
    (results fn tmps).run P w = .ok (.tuple #[.agg cs, .agg cs2]) w := by
  have hp' : tmps[p]?.getD undef = .pointer (some ⟨g, 0, none⟩) := by simpa using hp
  have hq' : tmps[q]?.getD undef = .pointer (some ⟨g2, 0, none⟩) := by simpa using hq
  simp [results, h, hp', hq', asAddr, run_loadVar_row w g t ty cs fr d hg hu hd hi, run_loadVar_row w g2 t2 ty2 cs2 fr2 d2 hg2 hu2 hd2 hi2]
theorem two_boxes2 (z : World) (R X : Nat) (t1 t2 : TypeId) (a b c d : Value) (hR : z.heap[R]? = some (.cells #[a, b] t1 (0, 0))) (hX : z.heap[X]? = some (.cells #[c, d] t2 (0, 0))) (hne : R ≠ X) (v0 v1 x0 x1 : Value) :
    ∃ Y, Y = (((z.setCell ⟨R, 0, none⟩ v0).setCell ⟨R, 1, none⟩ v1).setCell ⟨X, 0, none⟩ x0).setCell ⟨X, 1, none⟩ x1 ∧ Y.heap[R]? = some (.cells #[v0, v1] t1 (0, 0)) ∧ Y.heap[X]? = some (.cells #[x0, x1] t2 (0, 0)) ∧
      ∀ base, R < base ∧ X < base → ∀ {v : Value} {s : St}, OwnN z base v s → OwnN Y base v s := by
  refine ⟨_, rfl, ?_, ?_, fun base hb v s h => ?_⟩
  · have k1 := heap_setCell_same z R 0 _ _ v0 hR
    have k2 := heap_setCell_same _ R 1 _ _ v1 k1
    rw [Below.heap_setCell _ _ _ _ (by simpa using hne), Below.heap_setCell _ _ _ _ (by simpa using hne)]
    simpa using k2
  · have k0 : ((z.setCell ⟨R, 0, none⟩ v0).setCell ⟨R, 1, none⟩ v1).heap[X]? = some (.cells #[c, d] t2 (0, 0)) := by
      rw [Below.heap_setCell _ _ _ _ (by simpa using hne.symm), Below.heap_setCell _ _ _ _ (by simpa using hne.symm)]; exact hX
    have k1 := heap_setCell_same _ X 0 _ _ x0 k0
    have k2 := heap_setCell_same _ X 1 _ _ x1 k1
    simpa using k2
  · exact (((h.kept (grown_set _ ⟨R, 0, none⟩ _) hb.1).kept (grown_set _ ⟨R, 1, none⟩ _) hb.1).kept (grown_set _ ⟨X, 0, none⟩ _) hb.2).kept (grown_set _ ⟨X, 1, none⟩ _) hb.2
theorem two_boxes3 (z : World) (R X : Nat) (t1 t2 : TypeId) (a b c d e : Value) (hR : z.heap[R]? = some (.cells #[a, b] t1 (0, 0))) (hX : z.heap[X]? = some (.cells #[c, d, e] t2 (0, 0))) (hne : R ≠ X) (v0 v1 x0 x1 x2 : Value) :
    ∃ Y, Y = ((((z.setCell ⟨R, 0, none⟩ v0).setCell ⟨R, 1, none⟩ v1).setCell ⟨X, 0, none⟩ x0).setCell ⟨X, 1, none⟩ x1).setCell ⟨X, 2, none⟩ x2 ∧ Y.heap[R]? = some (.cells #[v0, v1] t1 (0, 0)) ∧ Y.heap[X]? = some (.cells #[x0, x1, x2] t2 (0, 0)) ∧
      ∀ base, R < base ∧ X < base → ∀ {v : Value} {s : St}, OwnN z base v s → OwnN Y base v s := by
  refine ⟨_, rfl, ?_, ?_, fun base hb v s h => ?_⟩
  · have k1 := heap_setCell_same z R 0 _ _ v0 hR
    have k2 := heap_setCell_same _ R 1 _ _ v1 k1
    rw [Below.heap_setCell _ _ _ _ (by simpa using hne), Below.heap_setCell _ _ _ _ (by simpa using hne), Below.heap_setCell _ _ _ _ (by simpa using hne)]
    simpa using k2
  · have k0 : ((z.setCell ⟨R, 0, none⟩ v0).setCell ⟨R, 1, none⟩ v1).heap[X]? = some (.cells #[c, d, e] t2 (0, 0)) := by
      rw [Below.heap_setCell _ _ _ _ (by simpa using hne.symm), Below.heap_setCell _ _ _ _ (by simpa using hne.symm)]; exact hX
    have k1 := heap_setCell_same _ X 0 _ _ x0 k0
    have k2 := heap_setCell_same _ X 1 _ _ x1 k1
    have k3 := heap_setCell_same _ X 2 _ _ x2 k2
    simpa using k3
  · exact ((((h.kept (grown_set _ ⟨R, 0, none⟩ _) hb.1).kept (grown_set _ ⟨R, 1, none⟩ _) hb.1).kept (grown_set _ ⟨X, 0, none⟩ _) hb.2).kept (grown_set _ ⟨X, 1, none⟩ _) hb.2).kept (grown_set _ ⟨X, 2, none⟩ _) hb.2
/-- What the draws of this chapter leave: a state, and an item, a talk, a text. -/
def DrawnIt (w : World) (e : Ending) (w' : World) : Prop := ∃ v s x, e = .returned (.tuple #[v, itA x]) ∧ StV w' w'.heap.size v s ∧ Sm s 64 4 ∧ (x.k.size ≤ 64 ∧ x.v.size ≤ 64) ∧ Below w.heap.size w w'
def DrawnTk (w : World) (e : Ending) (w' : World) : Prop := ∃ v s x, e = .returned (.tuple #[v, tkA x]) ∧ StV w' w'.heap.size v s ∧ Sm s 64 4 ∧ (x.c.size ≤ 64 ∧ x.r.size ≤ 64 ∧ -9223372036854775808 ≤ x.q ∧ x.q ≤ 9223372036854775807) ∧ Below w.heap.size w w'
def DrawnTx (w : World) (e : Ending) (w' : World) : Prop := ∃ v s t, e = .returned (.tuple #[v, .string t]) ∧ StV w' w'.heap.size v s ∧ Sm s 64 4 ∧ t.size ≤ 64 ∧ Below w.heap.size w w'

end Go.Proofs.Ytlklhmdpkicpnaa
