/- The draw of a state that may be wrong. Condition: none. -/
import Derived.Test.YtebmaplflpfjbaaGreatDoorBaseA
import Derived.Test.YtebmaplflpfjbaaGreatDoorDrawState
import Derived.Test.YtebmaplflpfjbaaGreatDoorMakeZeros
import Derived.Test.YtebmaplflpfjbaaGreatDoorPickInt
import Derived.Deep.DeepCutAuto
import Derived.Deep.CutBlock
namespace Go.Proofs.YtebmaplflpfjbaaGreatDoor
open Go.RowKit List
set_option linter.unusedVariables false
set_option linter.unusedSimpArgs false

/-- A state in its box (block sb), the cursor, and what has turned since w0. -/
structure Trk (w0 w : World) (B blk sb : Nat) (s : St) (ai at_ : Option Addr) (gi ci gt ct : Nat) : Prop where
  lb : blk < w0.heap.size
  sb0 : w0.heap.size < sb
  sbl : sb < w.heap.size
  kr : w.heap[w0.heap.size]? = some (.cells #[.slice none 0 0, .slice none 0 0] 27 (0, 0))
  ks : w.heap[sb]? = some (.cells #[.slice ai s.items.length ci, .slice at_ s.talks.length ct] 27 (0, 0))
  ni : NilOr ai gi s.items.length ci
  nt : NilOr at_ gt s.talks.length ct
  oi : Got w (w0.heap.size + 1) 47 2 gi s.items.length ci (s.items.flatMap itC)
  ot : Got w (w0.heap.size + 1) 49 3 gt s.talks.length ct (s.talks.flatMap tkC)
  ne : gi ≠ gt
  nei : gi ≠ sb
  net : gt ≠ sb
  cu : Cu TC w B blk
  gr : w0.grownBy w (some blk)
section
variable {w0 w w2 : World} {B blk sb : Nat} {s : St} {ai at_ : Option Addr} {gi ci gt ct : Nat}
theorem Trk.turn (h : Trk w0 w B blk sb s ai at_ gi ci gt ct) (g : w.grownBy w2 (some blk)) (c : Cu TC w2 B blk) : Trk w0 w2 B blk sb s ai at_ gi ci gt ct := by
  have h1 := h.lb; have h2 := h.sb0; have h3 := h.sbl; have h4 := h.oi.2.2.2.1; have h5 := h.ot.2.2.2.1
  exact ⟨h.lb, h.sb0, Nat.lt_of_lt_of_le h.sbl g.size, (g.block _ (by omega) (by simp; omega)).trans h.kr, (g.block _ (by omega) (by simp; omega)).trans h.ks, h.ni, h.nt, h.oi.grown g (by omega), h.ot.grown g (by omega), h.ne, h.nei, h.net, c, h.gr.trans g⟩
theorem Trk.below (h : Trk w0 w B blk sb s ai at_ gi ci gt ct) (b : Below w.heap.size w w2) : Trk w0 w2 B blk sb s ai at_ gi ci gt ct :=
  h.turn (grown_of_below b (some blk)) (h.cu.kept (b.mono (Nat.le_trans h.cu.le (Nat.le_of_lt h.cu.lt))) (b.block _ h.cu.lt))
theorem Trk.cells (h : Trk w0 w B blk sb s ai at_ gi ci gt ct) : w.cell? ⟨sb, 0, none⟩ = some (.slice ai s.items.length ci) ∧ w.cell? ⟨sb, 1, none⟩ = some (.slice at_ s.talks.length ct) :=
  ⟨by simpa using cell_of_row w _ 0 _ _ _ h.ks, by simpa using cell_of_row w _ 1 _ _ _ h.ks⟩
theorem cu_far (c : Cu TC w B blk) {b : Nat} (g : w.grownBy w2 (some b)) (hb : blk < b) : Cu TC w2 B blk :=
  c.kept (below_other g (by have := c.le; omega) (by have := c.le; have := c.lt; omega)) (g.block _ c.lt (by simp; omega))
theorem Trk.pushI (h : Trk w0 w B blk sb s ai at_ gi ci gt ct) {g' c' : Nat} {x : It} (r : w.grownBy w2 (some gi)) (e : g' = gi ∨ w.heap.size ≤ g') (got : Got w2 (w0.heap.size + 1) 47 2 g' (s.items.length + 1) c' (s.items.flatMap itC ++ itC x)) :
    w2.heap[sb]? = some (.cells #[.slice ai s.items.length ci, .slice at_ s.talks.length ct] 27 (0, 0)) ∧
    Trk w0 (w2.setCell ⟨sb, 0, none⟩ (.slice (some ⟨g', 0, none⟩) (s.items.length + 1) c')) B blk sb ⟨s.items ++ [x], s.talks⟩ (some ⟨g', 0, none⟩) at_ g' c' gt ct := by
  have h1 := h.lb; have h2 := h.sb0; have h3 := h.sbl; have h4 := h.oi.2.2.2.1; have h5 := h.ot.2.2.2.1; have h6 := h.ot.2.2.2.2.1; have h7 := h.nei; have h8 := h.net; have h9 := h.ne; have h10 := h.oi.2.2.2.2.1
  have hs := (r.block sb h.sbl (by simp; omega)).trans h.ks
  have g2 := grown_set w2 ⟨sb, 0, none⟩ (.slice (some ⟨g', 0, none⟩) (s.items.length + 1) c')
  have hl : (s.items ++ [x]).length = s.items.length + 1 := by simp
  refine ⟨hs, h.lb, h.sb0, Nat.lt_of_lt_of_le h.sbl (Nat.le_trans r.size g2.size), (g2.block _ (by have := r.size; omega) (by simp; omega)).trans ((r.block _ (by omega) (by simp; omega)).trans h.kr), ?_, ?_, h.nt, ?_, (h.ot.grown r (by omega)).grown g2 (by show gt ≠ sb; omega), by omega, by omega, h.net,
    cu_far (cu_far h.cu r (by omega)) g2 (by show blk < sb; omega), grown_far (grown_far h.gr r (by omega)) g2 (by show _ ≤ sb; omega)⟩
  · show _ = some (Obj.cells #[.slice _ (s.items ++ [x]).length _, _] _ _)
    rw [hl]
    have := heap_setCell_same w2 sb 0 _ _ (.slice (some ⟨g', 0, none⟩) (s.items.length + 1) c') hs
    simpa using this
  · exact .inl rfl
  · show Got _ _ _ 2 g' (s.items ++ [x]).length c' ((s.items ++ [x]).flatMap itC)
    rw [hl, List.flatMap_append, List.flatMap_cons, List.flatMap_nil, List.append_nil]
    exact got.grown g2 (by show g' ≠ sb; omega)
theorem Trk.pushT (h : Trk w0 w B blk sb s ai at_ gi ci gt ct) {g' c' : Nat} {x : Tk} (r : w.grownBy w2 (some gt)) (e : g' = gt ∨ w.heap.size ≤ g') (got : Got w2 (w0.heap.size + 1) 49 3 g' (s.talks.length + 1) c' (s.talks.flatMap tkC ++ tkC x)) :
    w2.heap[sb]? = some (.cells #[.slice ai s.items.length ci, .slice at_ s.talks.length ct] 27 (0, 0)) ∧
    Trk w0 (w2.setCell ⟨sb, 1, none⟩ (.slice (some ⟨g', 0, none⟩) (s.talks.length + 1) c')) B blk sb ⟨s.items, s.talks ++ [x]⟩ ai (some ⟨g', 0, none⟩) gi ci g' c' := by
  have h1 := h.lb; have h2 := h.sb0; have h3 := h.sbl; have h4 := h.oi.2.2.2.1; have h5 := h.ot.2.2.2.1; have h6 := h.ot.2.2.2.2.1; have h7 := h.nei; have h8 := h.net; have h9 := h.ne; have h10 := h.oi.2.2.2.2.1
  have hs := (r.block sb h.sbl (by simp; omega)).trans h.ks
  have g2 := grown_set w2 ⟨sb, 1, none⟩ (.slice (some ⟨g', 0, none⟩) (s.talks.length + 1) c')
  have hl : (s.talks ++ [x]).length = s.talks.length + 1 := by simp
  refine ⟨hs, h.lb, h.sb0, Nat.lt_of_lt_of_le h.sbl (Nat.le_trans r.size g2.size), (g2.block _ (by have := r.size; omega) (by simp; omega)).trans ((r.block _ (by omega) (by simp; omega)).trans h.kr), ?_, h.ni, ?_, (h.oi.grown r (by omega)).grown g2 (by show gi ≠ sb; omega), ?_, by omega, h.nei, by omega,
    cu_far (cu_far h.cu r (by omega)) g2 (by show blk < sb; omega), grown_far (grown_far h.gr r (by omega)) g2 (by show _ ≤ sb; omega)⟩
  · show _ = some (Obj.cells #[_, .slice _ (s.talks ++ [x]).length _] _ _)
    rw [hl]
    have := heap_setCell_same w2 sb 1 _ _ (.slice (some ⟨g', 0, none⟩) (s.talks.length + 1) c') hs
    simpa using this
  · exact .inl rfl
  · show Got _ _ _ 3 g' (s.talks ++ [x]).length c' ((s.talks ++ [x]).flatMap tkC)
    rw [hl, List.flatMap_append, List.flatMap_cons, List.flatMap_nil, List.append_nil]
    exact got.grown g2 (by show g' ≠ sb; omega)
theorem Trk.clearI (h : Trk w0 w B blk sb s ai at_ gi ci gt ct) : Trk w0 (w.setCell ⟨sb, 0, none⟩ (.slice none 0 0)) B blk sb ⟨[], s.talks⟩ none at_ gi 0 gt ct := by
  have h1 := h.lb; have h2 := h.sb0; have h3 := h.sbl; have h4 := h.oi.2.2.2.1; have h7 := h.nei; have h8 := h.net
  have g2 := grown_set w ⟨sb, 0, none⟩ (.slice none 0 0)
  refine ⟨h.lb, h.sb0, Nat.lt_of_lt_of_le h.sbl g2.size, (g2.block _ (by omega) (by simp; omega)).trans h.kr, ?_, .inr ⟨rfl, rfl, rfl⟩, h.nt, ⟨rfl, Nat.le_refl _, Nat.zero_le _, h4, Nat.lt_of_lt_of_le h.oi.2.2.2.2.1 g2.size, .inl ⟨rfl, rfl⟩⟩, h.ot.grown g2 (by show gt ≠ sb; omega), h.ne, h.nei, h.net, cu_far h.cu g2 (by show blk < sb; omega), grown_far h.gr g2 (by show _ ≤ sb; omega)⟩
  have := heap_setCell_same w sb 0 _ _ (.slice none 0 0) h.ks
  simpa using this
end
theorem texts_of_row {w : World} {g : Nat} {cs : Array Value} {t : TypeId} (h : w.heap[g]? = some (.cells cs t (0, 0))) (k : Nat) (hs : cs.toList.all (shortB k) = true) (n : Nat) (hn : n = cs.size) : ∀ j, j < n → ∃ s, w.cell? ⟨g, j, none⟩ = some (.string s) ∧ Short k (.string s) := by
  subst hn
  intro j hj
  have hc := cell_of_row w g j _ _ _ h
  rw [Array.getElem?_eq_getElem hj] at hc
  obtain ⟨s, hs1, hs2⟩ := short_of (List.all_eq_true.1 hs cs[j] (by simp))
  exact ⟨s, by rw [hc, hs1], s, rfl, hs2⟩
def intB : Value → Bool
  | .int .i64 n => decide (-9223372036854775808 ≤ n ∧ n ≤ 9223372036854775807)
  | _ => false
theorem ints_of_row {w : World} {g : Nat} {cs : Array Value} {t : TypeId} (h : w.heap[g]? = some (.cells cs t (0, 0))) (hs : cs.toList.all intB = true) (n : Nat) (hn : n = cs.size) : ∀ j, j < n → ∃ s : Int, w.cell? ⟨g, j, none⟩ = some (.int .i64 s) ∧ I64 (.int .i64 s) := by
  subst hn
  intro j hj
  have hc := cell_of_row w g j _ _ _ h
  rw [Array.getElem?_eq_getElem hj] at hc
  have h1 := List.all_eq_true.1 hs cs[j] (by simp)
  revert h1 hc
  cases cs[j] <;> intro hc h1 <;> simp [intB] at h1
  rename_i k n
  cases k <;> simp [intB] at h1
  exact ⟨n, hc, n, rfl, h1.1, h1.2⟩
theorem Sm.pushI {s : St} {a b : Nat} {x : It} (h : Sm s a b) (hx : x.k.size ≤ 64 ∧ x.v.size ≤ 64) : Sm ⟨s.items ++ [x], s.talks⟩ (a + 1) b :=
  ⟨by have := h.1; simp; omega, h.2.1, fun y hy => by
    rcases List.mem_append.1 hy with h1 | h1
    · exact h.2.2.1 y h1
    · rw [List.mem_singleton.1 h1]; exact hx, h.2.2.2⟩
theorem Sm.pushT {s : St} {a b : Nat} {x : Tk} (h : Sm s a b) (hx : x.c.size ≤ 64 ∧ x.r.size ≤ 64 ∧ -9223372036854775808 ≤ x.q ∧ x.q ≤ 9223372036854775807) : Sm ⟨s.items, s.talks ++ [x]⟩ a (b + 1) :=
  ⟨h.1, by have := h.2.1; simp; omega, h.2.2.1, fun y hy => by
    rcases List.mem_append.1 hy with h1 | h1
    · exact h.2.2.2 y h1
    · rw [List.mem_singleton.1 h1]; exact hx⟩
theorem infoB8 : (Tryz.prog.info? 5).map (fun i => (i.zero, i.size, i.bytes)) = some (some (.int .u8 0), 1, 1) := by kernel_rfl
theorem one_raw {w : World} {g : Nat} {cs : List Value} {t : TypeId} (h : w.heap[g]? = some (.cells cs.toArray t (0, 0))) (hg : g < w.heap.size) : Raw w w.heap.size (.slice (some ⟨g, 0, none⟩) 1 1) 1 cs :=
  ⟨_, 1, rfl, Nat.le_refl _, by unfold maxLen; omega, (fun h => by cases h), fun _ => ⟨g, 0, rfl, hg, fun j u hu => by rw [Nat.zero_add, cell_of_row w _ j _ _ _ h]; simpa using hu⟩⟩

end Go.Proofs.YtebmaplflpfjbaaGreatDoor
