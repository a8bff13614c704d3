/- The draw of a state that may be wrong. Condition: none. -/
import Derived.Test.YtdpjdjkfedcojaaGreatBaseA
import Derived.Test.YtdpjdjkfedcojaaGreatDrawState
import Derived.Test.YtdpjdjkfedcojaaGreatMakeZeros
import Derived.Test.YtdpjdjkfedcojaaGreatCurA
import Derived.Deep.DeepCutAuto
import Derived.Deep.CutBlock
namespace Go.Proofs.YtdpjdjkfedcojaaGreat
open Go.RowKit List
set_option linter.unusedVariables false
set_option linter.unusedSimpArgs false

/-- A state in its box (block sb), the cursor, and what has turned since w0. -/
structure Trk (w0 w : World) (B blk sb : Nat) (s : St) (ai at_ : Option Addr) (gi ci gt ct : Nat) : Prop where
  lb : blk < w0.heap.size
  sb0 : w0.heap.size < sb
  sbl : sb < w.heap.size
  kr : w.heap[w0.heap.size]? = some (.cells #[.slice none 0 0, .slice none 0 0] 27 (0, 0))
  ks : w.heap[sb]? = some (.cells #[.slice ai s.items.length ci, .slice at_ s.talks.length ct] 27 (0, 0))
  ni : NilOr ai gi s.items.length ci
  nt : NilOr at_ gt s.talks.length ct
  oi : Got w (w0.heap.size + 1) 45 2 gi s.items.length ci (s.items.flatMap itC)
  ot : Got w (w0.heap.size + 1) 65 3 gt s.talks.length ct (s.talks.flatMap tkC)
  ne : gi ≠ gt
  nei : gi ≠ sb
  net : gt ≠ sb
  cu : Cu TC w B blk
  gr : w0.grownBy w (some blk)
section
variable {w0 w w2 : World} {B blk sb : Nat} {s : St} {ai at_ : Option Addr} {gi ci gt ct : Nat}
theorem Trk.turn (h : Trk w0 w B blk sb s ai at_ gi ci gt ct) (g : w.grownBy w2 (some blk)) (c : Cu TC w2 B blk) : Trk w0 w2 B blk sb s ai at_ gi ci gt ct := by
  have h1 := h.lb; have h2 := h.sb0; have h3 := h.sbl; have h4 := h.oi.2.2.2.1; have h5 := h.ot.2.2.2.1
  exact ⟨h.lb, h.sb0, Nat.lt_of_lt_of_le h.sbl g.size, (g.block _ (by omega) (by simp; omega)).trans h.kr, (g.block _ (by omega) (by simp; omega)).trans h.ks, h.ni, h.nt, h.oi.grown g (by omega), h.ot.grown g (by omega), h.ne, h.nei, h.net, c, h.gr.trans g⟩
theorem Trk.below (h : Trk w0 w B blk sb s ai at_ gi ci gt ct) (b : Below w.heap.size w w2) : Trk w0 w2 B blk sb s ai at_ gi ci gt ct :=
  h.turn (grown_of_below b (some blk)) (h.cu.kept (b.mono (Nat.le_trans h.cu.le (Nat.le_of_lt h.cu.lt))) (b.block _ h.cu.lt))
theorem Trk.cells (h : Trk w0 w B blk sb s ai at_ gi ci gt ct) : w.cell? ⟨sb, 0, none⟩ = some (.slice ai s.items.length ci) ∧ w.cell? ⟨sb, 1, none⟩ = some (.slice at_ s.talks.length ct) :=
  ⟨by simpa using cell_of_row w _ 0 _ _ _ h.ks, by simpa using cell_of_row w _ 1 _ _ _ h.ks⟩
theorem cu_far (c : Cu TC w B blk) {b : Nat} (g : w.grownBy w2 (some b)) (hb : blk < b) : Cu TC w2 B blk :=
  c.kept (below_other g (by have := c.le; omega) (by have := c.le; have := c.lt; omega)) (g.block _ c.lt (by simp; omega))
theorem Trk.pushI (h : Trk w0 w B blk sb s ai at_ gi ci gt ct) {g' c' : Nat} {x : It} (r : w.grownBy w2 (some gi)) (e : g' = gi ∨ w.heap.size ≤ g') (got : Got w2 (w0.heap.size + 1) 45 2 g' (s.items.length + 1) c' (s.items.flatMap itC ++ itC x)) :
    w2.heap[sb]? = some (.cells #[.slice ai s.items.length ci, .slice at_ s.talks.length ct] 27 (0, 0)) ∧
    Trk w0 (w2.setCell ⟨sb, 0, none⟩ (.slice (some ⟨g', 0, none⟩) (s.items.length + 1) c')) B blk sb ⟨s.items ++ [x], s.talks⟩ (some ⟨g', 0, none⟩) at_ g' c' gt ct := by
  have h1 := h.lb; have h2 := h.sb0; have h3 := h.sbl; have h4 := h.oi.2.2.2.1; have h5 := h.ot.2.2.2.1; have h6 := h.ot.2.2.2.2.1; have h7 := h.nei; have h8 := h.net; have h9 := h.ne; have h10 := h.oi.2.2.2.2.1
  have hs := (r.block sb h.sbl (by simp; omega)).trans h.ks
  have g2 := grown_set w2 ⟨sb, 0, none⟩ (.slice (some ⟨g', 0, none⟩) (s.items.length + 1) c')
  have hl : (s.items ++ [x]).length = s.items.length + 1 := by simp
  refine ⟨hs, h.lb, h.sb0, Nat.lt_of_lt_of_le h.sbl (Nat.le_trans r.size g2.size), (g2.block _ (by have := r.size; omega) (by simp; omega)).trans ((r.block _ (by omega) (by simp; omega)).trans h.kr), ?_, ?_, h.nt, ?_, (h.ot.grown r (by omega)).grown g2 (by show gt ≠ sb; omega), by omega, by omega, h.net,
    cu_far (cu_far h.cu r (by omega)) g2 (by show blk < sb; omega), grown_far (grown_far h.gr r (by omega)) g2 (by show _ ≤ sb; omega)⟩
  · show _ = some (Obj.cells #[.slice _ (s.items ++ [x]).length _, _] _ _)
    rw [hl]
    have := heap_setCell_same w2 sb 0 _ _ (.slice (some ⟨g', 0, none⟩) (s.items.length + 1) c') hs
    simpa using this
  · exact .inl rfl
  · show Got _ _ _ 2 g' (s.items ++ [x]).length c' ((s.items ++ [x]).flatMap itC)
    rw [hl, List.flatMap_append, List.flatMap_cons, List.flatMap_nil, List.append_nil]
    exact got.grown g2 (by show g' ≠ sb; omega)
theorem Trk.pushT (h : Trk w0 w B blk sb s ai at_ gi ci gt ct) {g' c' : Nat} {x : Tk} (r : w.grownBy w2 (some gt)) (e : g' = gt ∨ w.heap.size ≤ g') (got : Got w2 (w0.heap.size + 1) 65 3 g' (s.talks.length + 1) c' (s.talks.flatMap tkC ++ tkC x)) :
    w2.heap[sb]? = some (.cells #[.slice ai s.items.length ci, .slice at_ s.talks.length ct] 27 (0, 0)) ∧
    Trk w0 (w2.setCell ⟨sb, 1, none⟩ (.slice (some ⟨g', 0, none⟩) (s.talks.length + 1) c')) B blk sb ⟨s.items, s.talks ++ [x]⟩ ai (some ⟨g', 0, none⟩) gi ci g' c' := by
  have h1 := h.lb; have h2 := h.sb0; have h3 := h.sbl; have h4 := h.oi.2.2.2.1; have h5 := h.ot.2.2.2.1; have h6 := h.ot.2.2.2.2.1; have h7 := h.nei; have h8 := h.net; have h9 := h.ne; have h10 := h.oi.2.2.2.2.1
  have hs := (r.block sb h.sbl (by simp; omega)).trans h.ks
  have g2 := grown_set w2 ⟨sb, 1, none⟩ (.slice (some ⟨g', 0, none⟩) (s.talks.length + 1) c')
  have hl : (s.talks ++ [x]).length = s.talks.length + 1 := by simp
  refine ⟨hs, h.lb, h.sb0, Nat.lt_of_lt_of_le h.sbl (Nat.le_trans r.size g2.size), (g2.block _ (by have := r.size; omega) (by simp; omega)).trans ((r.block _ (by omega) (by simp; omega)).trans h.kr), ?_, h.ni, ?_, (h.oi.grown r (by omega)).grown g2 (by show gi ≠ sb; omega), ?_, by omega, h.nei, by omega,
    cu_far (cu_far h.cu r (by omega)) g2 (by show blk < sb; omega), grown_far (grown_far h.gr r (by omega)) g2 (by show _ ≤ sb; omega)⟩
  · show _ = some (Obj.cells #[_, .slice _ (s.talks ++ [x]).length _] _ _)
    rw [hl]
    have := heap_setCell_same w2 sb 1 _ _ (.slice (some ⟨g', 0, none⟩) (s.talks.length + 1) c') hs
    simpa using this
  · exact .inl rfl
  · show Got _ _ _ 3 g' (s.talks ++ [x]).length c' ((s.talks ++ [x]).flatMap tkC)
    rw [hl, List.flatMap_append, List.flatMap_cons, List.flatMap_nil, List.append_nil]
    exact got.grown g2 (by show g' ≠ sb; omega)
theorem Trk.clearI (h : Trk w0 w B blk sb s ai at_ gi ci gt ct) : Trk w0 (w.setCell ⟨sb, 0, none⟩ (.slice none 0 0)) B blk sb ⟨[], s.talks⟩ none at_ gi 0 gt ct := by
  have h1 := h.lb; have h2 := h.sb0; have h3 := h.sbl; have h4 := h.oi.2.2.2.1; have h7 := h.nei; have h8 := h.net
  have g2 := grown_set w ⟨sb, 0, none⟩ (.slice none 0 0)
  refine ⟨h.lb, h.sb0, Nat.lt_of_lt_of_le h.sbl g2.size, (g2.block _ (by omega) (by simp; omega)).trans h.kr, ?_, .inr ⟨rfl, rfl, rfl⟩, h.nt, ⟨rfl, Nat.le_refl _, Nat.zero_le _, h4, Nat.lt_of_lt_of_le h.oi.2.2.2.2.1 g2.size, .inl ⟨rfl, rfl⟩⟩, h.ot.grown g2 (by show gt ≠ sb; omega), h.ne, h.nei, h.net, cu_far h.cu g2 (by show blk < sb; omega), grown_far h.gr g2 (by show _ ≤ sb; omega)⟩
  have := heap_setCell_same w sb 0 _ _ (.slice none 0 0) h.ks
  simpa using this
end
theorem texts_of_row {w : World} {g : Nat} {cs : Array Value} {t : TypeId} (h : w.heap[g]? = some (.cells cs t (0, 0))) (k : Nat) (hs : cs.toList.all (shortB k) = true) (n : Nat) (hn : n = cs.size) : ∀ j, j < n → ∃ s, w.cell? ⟨g, j, none⟩ = some (.string s) ∧ Short k (.string s) := by
  subst hn
  intro j hj
  have hc := cell_of_row w g j _ _ _ h
  rw [Array.getElem?_eq_getElem hj] at hc
  obtain ⟨s, hs1, hs2⟩ := short_of (List.all_eq_true.1 hs cs[j] (by simp))
  exact ⟨s, by rw [hc, hs1], s, rfl, hs2⟩
def intB : Value → Bool
  | .int .i64 n => decide (-9223372036854775808 ≤ n ∧ n ≤ 9223372036854775807)
  | _ => false
theorem ints_of_row {w : World} {g : Nat} {cs : Array Value} {t : TypeId} (h : w.heap[g]? = some (.cells cs t (0, 0))) (hs : cs.toList.all intB = true) (n : Nat) (hn : n = cs.size) : ∀ j, j < n → ∃ s : Int, w.cell? ⟨g, j, none⟩ = some (.int .i64 s) ∧ I64 (.int .i64 s) := by
  subst hn
  intro j hj
  have hc := cell_of_row w g j _ _ _ h
  rw [Array.getElem?_eq_getElem hj] at hc
  have h1 := List.all_eq_true.1 hs cs[j] (by simp)
  revert h1 hc
  cases cs[j] <;> intro hc h1 <;> simp [intB] at h1
  rename_i k n
  cases k <;> simp [intB] at h1
  exact ⟨n, hc, n, rfl, h1.1, h1.2⟩
theorem Sm.pushI {s : St} {a b : Nat} {x : It} (h : Sm s a b) (hx : x.k.size ≤ 64 ∧ x.v.size ≤ 64) : Sm ⟨s.items ++ [x], s.talks⟩ (a + 1) b :=
  ⟨by have := h.1; simp; omega, h.2.1, fun y hy => by
    rcases List.mem_append.1 hy with h1 | h1
    · exact h.2.2.1 y h1
    · rw [List.mem_singleton.1 h1]; exact hx, h.2.2.2⟩
theorem Sm.pushT {s : St} {a b : Nat} {x : Tk} (h : Sm s a b) (hx : x.c.size ≤ 64 ∧ x.r.size ≤ 64 ∧ -9223372036854775808 ≤ x.q ∧ x.q ≤ 9223372036854775807) : Sm ⟨s.items, s.talks ++ [x]⟩ a (b + 1) :=
  ⟨h.1, by have := h.2.1; simp; omega, h.2.2.1, fun y hy => by
    rcases List.mem_append.1 hy with h1 | h1
    · exact h.2.2.2 y h1
    · rw [List.mem_singleton.1 h1]; exact hx⟩
theorem infoB8 : (Tryz.prog.info? 5).map (fun i => (i.zero, i.size, i.bytes)) = some (some (.int .u8 0), 1, 1) := by kernel_rfl
theorem one_raw {w : World} {g : Nat} {cs : List Value} {t : TypeId} (h : w.heap[g]? = some (.cells cs.toArray t (0, 0))) (hg : g < w.heap.size) : Raw w w.heap.size (.slice (some ⟨g, 0, none⟩) 1 1) 1 cs :=
  ⟨_, 1, rfl, Nat.le_refl _, by unfold maxLen; omega, (fun h => by cases h), fun _ => ⟨g, 0, rfl, hg, fun j u hu => by rw [Nat.zero_add, cell_of_row w _ j _ _ _ h]; simpa using hu⟩⟩

set_option maxRecDepth 100000 in
set_option maxHeartbeats 16000000 in
theorem odd_any (B blk : Nat) (w : World) (c : Cu TC w B blk) :
    Calls Tryz.prog 25 #[.pointer (some ⟨blk, 0, none⟩)] w (DrewSt TC w B blk 64 4) := by
  have hlt := c.lt
  obtain ⟨W, hW⟩ : ∃ W, W = w.alloc (.cells #[.slice none 0 0, .slice none 0 0] 27) := ⟨_, rfl⟩
  have hbW : Below w.heap.size w W := by rw [hW]; exact (Below.refl _ _).alloc (Nat.le_refl _) _
  have hWs : W.heap.size = w.heap.size + 1 := by rw [hW]; simp
  have kr : W.heap[w.heap.size]? = some (.cells #[.slice none 0 0, .slice none 0 0] 27 (0, 0)) := by rw [hW]; exact heap_new _ _
  have cW : Cu TC W B blk := c.kept (hbW.mono (by have := c.le; omega)) (hbW.block _ c.lt)
  have hc0 := make_any B blk W cW
  rw [hW] at hc0
  go_enter Tryz.func25, Tryz.ntmps25
  go_wp2_with (go_at_call 54; refine hc0.mono ?_; rintro e w1 ⟨v, s, rfl, ho, hsm, cu, gr⟩; refine Hid.out ?_)
  refine Lib.hid ?_
  rw [← hW] at ho gr
  obtain ⟨_, _, gi, ci, gt, ct, rfl, hne, ⟨ai, rfl, hai⟩, ⟨at_, rfl, hat⟩, gotI, gotT⟩ := ho
  obtain ⟨X, hX⟩ : ∃ X, X = w1.alloc (.cells #[.slice ai s.items.length ci, .slice at_ s.talks.length ct] 27) := ⟨_, rfl⟩
  have bX : Below w1.heap.size w1 X := by rw [hX]; exact (Below.refl _ _).alloc (Nat.le_refl _) _
  have sX : X.heap.size = w1.heap.size + 1 := by rw [hX]; simp
  have hs1 := gr.size
  have TK : Hid (Trk w X B blk w1.heap.size s ai at_ gi ci gt ct) := Lib.hid (by
    have h1 := gotI.2.2.2.2.1; have h2 := gotT.2.2.2.2.1
    exact ⟨hlt, by omega, by omega, (bX.block _ (by omega)).trans ((gr.block _ (by omega) (by simp; omega)).trans kr), by rw [hX]; exact heap_new _ _, hai, hat, (gotI.later bX).base (by omega), (gotT.later bX).base (by omega), hne, by omega, by omega,
      cu.kept (bX.mono (by have := cu.le; have := cu.lt; omega)) (bX.block _ cu.lt), ((grown_of_below hbW (some blk)).trans gr).trans (grown_of_below bX (some blk))⟩)
  have hc1 := below_any 14 (by omega) B blk X TK.out.cu
  rw [hX] at hc1
  clear hc0 cW kr hbW hWs c hlt cu gotI gotT hne hai hat sX gr
  go_wp2_with (go_at_call 55; refine hc1.mono ?_; rintro e w2 ⟨q, ⟨hq0, hq1, _⟩, rfl, cu, gr⟩; refine Hid.out ?_)
  refine Lib.hid ?_
  rw [← hX] at gr
  have hq1 := hq1 (by omega)
  replace TK := Lib.hid (TK.out.turn gr cu)
  clear gr cu bX hX hW hs1 hc1
  go_upto_block 0 with fail
  go_cut [] (fun wx => ∃ (s : St) (ai at_ : Option Addr) (gi ci gt ct : Nat), Sm s 64 4 ∧ Hid (Trk w wx B blk w1.heap.size s ai at_ gi ci gt ct))
  case first =>
    by_cases h0 : q = 0
    · subst h0
      go_wp2_with fail
      refine wp_region_held_drew (S := (fun _ => True)) (by kernel_rfl) trivial (fun hHeld => ?_)
      obtain ⟨zD, hzD⟩ : ∃ z, z = w2.drew := ⟨_, rfl⟩
      rw [← hzD]
      have bzD : Below w2.heap.size w2 zD := by rw [hzD]; exact (Below.refl _ _).drew
      replace TK := Lib.hid (TK.out.below bzD)
      clear bzD hzD
      refine tk0 0 ?_
      refine tk0 2 ?_
      refine rd2 1 3 (fun K hK => ?_) (fun K hK => ?_)
      focus
        have f0 := TK.out.cells.1
        go_simp
        clear f0
        refine hK.out _ _ trivial (fun hHeld => ?_)
        clear hK K
        refine rd1 3 (fun K hK => ?_)
        go_simp
        obtain ⟨z1, hz1⟩ : ∃ z, z = zD.alloc (.cells #[.string ⟨#[]⟩, .string ⟨#[65]⟩, .string ⟨#[97]⟩, .string ⟨#[122, 122]⟩] 9) := ⟨_, rfl⟩
        rw [← hz1]
        have bz1 : Below zD.heap.size zD z1 := by rw [hz1]; exact (Below.refl _ _).alloc (Nat.le_refl _) _
        have sz1 : z1.heap.size = zD.heap.size + 1 := by rw [hz1]; simp
        have kz1 : z1.heap[zD.heap.size]? = some (.cells #[.string ⟨#[]⟩, .string ⟨#[65]⟩, .string ⟨#[97]⟩, .string ⟨#[122, 122]⟩] 9 (0, 0)) := by rw [hz1]; exact heap_new _ _
        have BA : Hid (w.heap.size < zD.heap.size) := Lib.hid (Nat.lt_trans TK.out.sb0 TK.out.sbl)
        replace TK := Lib.hid (TK.out.below bz1)
        have KA := Lib.hid kz1
        have LA : Hid (zD.heap.size < z1.heap.size) := Lib.hid (by omega)
        clear bz1 sz1 kz1 hz1
        refine hK.out _ _ trivial (fun hHeld => ?_)
        clear hK K
        refine rd1 4 (fun K hK => ?_)
        go_simp
        go_at_call 56
        refine (pick_any (Short 64) (zD.heap.size) 4 4 (by omega) (by omega) B blk z1 (by have := TK.out.lb; have := BA.out; omega) LA.out (texts_of_row KA.out 64 (by decide) _ rfl) TK.out.cu).mono ?_
        rintro e z2 ⟨_, ⟨t, rfl, ht⟩, rfl, cu, gr⟩
        replace KA := tkg gr LA KA (by simp; have := TK.out.lb; have := BA.out; omega)
        replace LA := tlz LA gr.size
        replace TK := Lib.hid (TK.out.turn gr cu)
        clear gr cu
        go_wp2_with fail
        obtain ⟨x, hxe⟩ : ∃ x : It, x = ⟨t, ⟨#[120]⟩⟩ := ⟨_, rfl⟩
        have hx : x.k.size ≤ 64 ∧ x.v.size ≤ 64 := by rw [hxe]; exact ⟨ht, by show (⟨#[120]⟩ : ByteArray).size ≤ 64; decide⟩
        refine hK.out _ _ trivial (fun hHeld => ?_)
        clear hK K
        refine tk0 5 ?_
        refine rd1 6 (fun K hK => ?_)
        go_simp
        obtain ⟨z3, hz3⟩ : ∃ z, z = z2.alloc (.cells #[.string t, .string ⟨#[120]⟩] 45) := ⟨_, rfl⟩
        rw [← hz3]
        have bz3 : Below z2.heap.size z2 z3 := by rw [hz3]; exact (Below.refl _ _).alloc (Nat.le_refl _) _
        have sz3 : z3.heap.size = z2.heap.size + 1 := by rw [hz3]; simp
        have kz3 : z3.heap[z2.heap.size]? = some (.cells #[.string t, .string ⟨#[120]⟩] 45 (0, 0)) := by rw [hz3]; exact heap_new _ _
        have BE : Hid (w.heap.size < z2.heap.size) := Lib.hid (Nat.lt_trans TK.out.sb0 TK.out.sbl)
        replace KA := tkb bz3 LA KA
        replace LA := tlz LA bz3.size
        replace TK := Lib.hid (TK.out.below bz3)
        have KE := Lib.hid kz3
        have LE : Hid (z2.heap.size < z3.heap.size) := Lib.hid (by omega)
        clear bz3 sz3 kz3 hz3
        have hxc : itC x = [.string t, .string ⟨#[120]⟩] := by rw [hxe]; rfl
        skip
        refine hK.out _ _ trivial (fun hHeld => ?_)
        clear hK K
        try simp only [getElem_toArray, getElem_cons_zero, getElem_cons_succ, Act.put, setIfInBounds_toArray, set_cons_zero, set_cons_succ]
        obtain ⟨zz, rfl⟩ : ∃ z, z = z3 := ⟨_, rfl⟩
      rotate_left 1
      focus
        go_simp
        obtain ⟨z4, hz4⟩ : ∃ z, z = zD.alloc (.cells #[.string ⟨#[]⟩, .string ⟨#[65]⟩, .string ⟨#[97]⟩, .string ⟨#[122, 122]⟩] 9) := ⟨_, rfl⟩
        rw [← hz4]
        have bz4 : Below zD.heap.size zD z4 := by rw [hz4]; exact (Below.refl _ _).alloc (Nat.le_refl _) _
        have sz4 : z4.heap.size = zD.heap.size + 1 := by rw [hz4]; simp
        have kz4 : z4.heap[zD.heap.size]? = some (.cells #[.string ⟨#[]⟩, .string ⟨#[65]⟩, .string ⟨#[97]⟩, .string ⟨#[122, 122]⟩] 9 (0, 0)) := by rw [hz4]; exact heap_new _ _
        have BA : Hid (w.heap.size < zD.heap.size) := Lib.hid (Nat.lt_trans TK.out.sb0 TK.out.sbl)
        replace TK := Lib.hid (TK.out.below bz4)
        have KA := Lib.hid kz4
        have LA : Hid (zD.heap.size < z4.heap.size) := Lib.hid (by omega)
        clear bz4 sz4 kz4 hz4
        refine hK.out _ _ trivial (fun hHeld => ?_)
        clear hK K
        try simp only [getElem_toArray, getElem_cons_zero, getElem_cons_succ, Act.put, setIfInBounds_toArray, set_cons_zero, set_cons_succ]
        refine rd2 1 4 (fun K hK => ?_) (fun K hK => ?_)
        focus
          have f0 := TK.out.cells.1
          go_simp
          clear f0
          refine hK.out _ _ trivial (fun hHeld => ?_)
          clear hK K
          refine rd1 4 (fun K hK => ?_)
          go_simp
          go_at_call 56
          refine (pick_any (Short 64) (zD.heap.size) 4 4 (by omega) (by omega) B blk z4 (by have := TK.out.lb; have := BA.out; omega) LA.out (texts_of_row KA.out 64 (by decide) _ rfl) TK.out.cu).mono ?_
          rintro e z5 ⟨_, ⟨t, rfl, ht⟩, rfl, cu, gr⟩
          replace KA := tkg gr LA KA (by simp; have := TK.out.lb; have := BA.out; omega)
          replace LA := tlz LA gr.size
          replace TK := Lib.hid (TK.out.turn gr cu)
          clear gr cu
          go_wp2_with fail
          obtain ⟨x, hxe⟩ : ∃ x : It, x = ⟨t, ⟨#[120]⟩⟩ := ⟨_, rfl⟩
          have hx : x.k.size ≤ 64 ∧ x.v.size ≤ 64 := by rw [hxe]; exact ⟨ht, by show (⟨#[120]⟩ : ByteArray).size ≤ 64; decide⟩
          refine hK.out _ _ trivial (fun hHeld => ?_)
          clear hK K
          refine tk0 5 ?_
          refine rd1 6 (fun K hK => ?_)
          go_simp
          obtain ⟨z6, hz6⟩ : ∃ z, z = z5.alloc (.cells #[.string t, .string ⟨#[120]⟩] 45) := ⟨_, rfl⟩
          rw [← hz6]
          have bz6 : Below z5.heap.size z5 z6 := by rw [hz6]; exact (Below.refl _ _).alloc (Nat.le_refl _) _
          have sz6 : z6.heap.size = z5.heap.size + 1 := by rw [hz6]; simp
          have kz6 : z6.heap[z5.heap.size]? = some (.cells #[.string t, .string ⟨#[120]⟩] 45 (0, 0)) := by rw [hz6]; exact heap_new _ _
          have BE : Hid (w.heap.size < z5.heap.size) := Lib.hid (Nat.lt_trans TK.out.sb0 TK.out.sbl)
          replace KA := tkb bz6 LA KA
          replace LA := tlz LA bz6.size
          replace TK := Lib.hid (TK.out.below bz6)
          have KE := Lib.hid kz6
          have LE : Hid (z5.heap.size < z6.heap.size) := Lib.hid (by omega)
          clear bz6 sz6 kz6 hz6
          have hxc : itC x = [.string t, .string ⟨#[120]⟩] := by rw [hxe]; rfl
          skip
          refine hK.out _ _ trivial (fun hHeld => ?_)
          clear hK K
          try simp only [getElem_toArray, getElem_cons_zero, getElem_cons_succ, Act.put, setIfInBounds_toArray, set_cons_zero, set_cons_succ]
          obtain ⟨zz, rfl⟩ : ∃ z, z = z6 := ⟨_, rfl⟩
        rotate_left 1
        focus
          go_simp
          go_at_call 56
          refine (pick_any (Short 64) (zD.heap.size) 4 4 (by omega) (by omega) B blk z4 (by have := TK.out.lb; have := BA.out; omega) LA.out (texts_of_row KA.out 64 (by decide) _ rfl) TK.out.cu).mono ?_
          rintro e z7 ⟨_, ⟨t, rfl, ht⟩, rfl, cu, gr⟩
          replace KA := tkg gr LA KA (by simp; have := TK.out.lb; have := BA.out; omega)
          replace LA := tlz LA gr.size
          replace TK := Lib.hid (TK.out.turn gr cu)
          clear gr cu
          go_wp2_with fail
          obtain ⟨x, hxe⟩ : ∃ x : It, x = ⟨t, ⟨#[120]⟩⟩ := ⟨_, rfl⟩
          have hx : x.k.size ≤ 64 ∧ x.v.size ≤ 64 := by rw [hxe]; exact ⟨ht, by show (⟨#[120]⟩ : ByteArray).size ≤ 64; decide⟩
          refine hK.out _ _ trivial (fun hHeld => ?_)
          clear hK K
          refine tk0 5 ?_
          refine rd2 1 6 (fun K hK => ?_) (fun K hK => ?_)
          focus
            have f0 := TK.out.cells.1
            go_simp
            clear f0
            refine hK.out _ _ trivial (fun hHeld => ?_)
            clear hK K
            refine rd1 6 (fun K hK => ?_)
            go_simp
            obtain ⟨z8, hz8⟩ : ∃ z, z = z7.alloc (.cells #[.string t, .string ⟨#[120]⟩] 45) := ⟨_, rfl⟩
            rw [← hz8]
            have bz8 : Below z7.heap.size z7 z8 := by rw [hz8]; exact (Below.refl _ _).alloc (Nat.le_refl _) _
            have sz8 : z8.heap.size = z7.heap.size + 1 := by rw [hz8]; simp
            have kz8 : z8.heap[z7.heap.size]? = some (.cells #[.string t, .string ⟨#[120]⟩] 45 (0, 0)) := by rw [hz8]; exact heap_new _ _
            have BE : Hid (w.heap.size < z7.heap.size) := Lib.hid (Nat.lt_trans TK.out.sb0 TK.out.sbl)
            replace KA := tkb bz8 LA KA
            replace LA := tlz LA bz8.size
            replace TK := Lib.hid (TK.out.below bz8)
            have KE := Lib.hid kz8
            have LE : Hid (z7.heap.size < z8.heap.size) := Lib.hid (by omega)
            clear bz8 sz8 kz8 hz8
            have hxc : itC x = [.string t, .string ⟨#[120]⟩] := by rw [hxe]; rfl
            skip
            refine hK.out _ _ trivial (fun hHeld => ?_)
            clear hK K
            try simp only [getElem_toArray, getElem_cons_zero, getElem_cons_succ, Act.put, setIfInBounds_toArray, set_cons_zero, set_cons_succ]
            obtain ⟨zz, rfl⟩ : ∃ z, z = z8 := ⟨_, rfl⟩
          rotate_left 1
          focus
            go_simp
            obtain ⟨z9, hz9⟩ : ∃ z, z = z7.alloc (.cells #[.string t, .string ⟨#[120]⟩] 45) := ⟨_, rfl⟩
            rw [← hz9]
            have bz9 : Below z7.heap.size z7 z9 := by rw [hz9]; exact (Below.refl _ _).alloc (Nat.le_refl _) _
            have sz9 : z9.heap.size = z7.heap.size + 1 := by rw [hz9]; simp
            have kz9 : z9.heap[z7.heap.size]? = some (.cells #[.string t, .string ⟨#[120]⟩] 45 (0, 0)) := by rw [hz9]; exact heap_new _ _
            have BE : Hid (w.heap.size < z7.heap.size) := Lib.hid (Nat.lt_trans TK.out.sb0 TK.out.sbl)
            replace KA := tkb bz9 LA KA
            replace LA := tlz LA bz9.size
            replace TK := Lib.hid (TK.out.below bz9)
            have KE := Lib.hid kz9
            have LE : Hid (z7.heap.size < z9.heap.size) := Lib.hid (by omega)
            clear bz9 sz9 kz9 hz9
            have hxc : itC x = [.string t, .string ⟨#[120]⟩] := by rw [hxe]; rfl
            skip
            refine hK.out _ _ trivial (fun hHeld => ?_)
            clear hK K
            try simp only [getElem_toArray, getElem_cons_zero, getElem_cons_succ, Act.put, setIfInBounds_toArray, set_cons_zero, set_cons_succ]
            refine rd1 1 (fun K hK => ?_)
            have f0 := TK.out.cells.1
            go_simp
            clear f0
            refine hK.out _ _ trivial (fun hHeld => ?_)
            clear hK K
            try simp only [getElem_toArray, getElem_cons_zero, getElem_cons_succ, Act.put, setIfInBounds_toArray, set_cons_zero, set_cons_succ]
            obtain ⟨zz, rfl⟩ : ∃ z, z = z9 := ⟨_, rfl⟩
      all_goals (
        refine rd1 7 (fun K hK => ?_)
        obtain ⟨i0, p1, p2, p3, p4⟩ := info_parts infoIt
        have hl1 := hsm.1
        refine step_appN rfl (.tmp 12) (.tmp 17) 24 rfl 45 i0 _ 2 32 Tryz.underlying24 p1 p2 p3 p4 rfl (by decide) gi s.items.length ci (w.heap.size + 1) _ TK.out.oi _ ⟨_, rfl, TK.out.ni⟩ (by simp [Act.eval]) _ (by simp [Act.eval]) zz.heap.size 1 (itC x) (one_raw (cs := itC x) (by have h := KE.out; first | exact h | (rw [hxe]; exact h)) LE.out) (by omega) (by simp [itC]) (by simp [itC, Value.oneCell']) (by unfold maxLen; omega) (by omega) (Nat.le_trans TK.out.sb0 (Nat.le_of_lt TK.out.sbl)) ?_
        intro g1 c1 z10 r1 e1 got1
        have PU := Lib.hid (TK.out.pushI (x := x) r1 e1 got1)
        clear r1 e1 got1 p1 p2 p3 p4 hl1
        refine hK.out _ _ trivial (fun hHeld => ?_)
        clear hK K
        refine tk0 8 ?_
        refine rd1 9 (fun K hK => ?_)
        have fs := cell_of_row z10 _ 0 _ _ _ PU.out.1
        have fz := frozen_of_row z10 _ 0 _ _ PU.out.1
        simp only [List.getElem?_toArray, List.getElem?_cons_zero, List.getElem?_cons_succ] at fs
        go_simp
        clear fs fz
        refine hK.out _ _ trivial (fun hHeld => ?_)
        clear hK K
        try simp only [getElem_toArray, getElem_cons_zero, getElem_cons_succ, Act.put, setIfInBounds_toArray, set_cons_zero, set_cons_succ]
        refine wpAnyH_done (by kernel_rfl) ?_ _
        clear hHeld
        go_wp2_with fail
        go_meet
        exact ⟨_, _, _, _, _, _, _, (hsm.pushI hx).mono (by omega) (by omega), Lib.hid PU.out.2⟩)
    · by_cases h1 : q = 1
      · subst h1
        go_wp2_with fail
        refine wp_region_held_drew (S := (fun _ => True)) (by kernel_rfl) trivial (fun hHeld => ?_)
        obtain ⟨zD, hzD⟩ : ∃ z, z = w2.drew := ⟨_, rfl⟩
        rw [← hzD]
        have bzD : Below w2.heap.size w2 zD := by rw [hzD]; exact (Below.refl _ _).drew
        replace TK := Lib.hid (TK.out.below bzD)
        clear bzD hzD
        refine tk0 0 ?_
        refine tk0 2 ?_
        refine rd2 1 3 (fun K hK => ?_) (fun K hK => ?_)
        focus
          have f0 := TK.out.cells.1
          go_simp
          clear f0
          refine hK.out _ _ trivial (fun hHeld => ?_)
          clear hK K
          refine rd1 3 (fun K hK => ?_)
          go_simp
          go_at_call 55
          refine (below_any 2 (by omega) B blk zD TK.out.cu).mono ?_
          rintro e z1 ⟨y, ⟨hy0, hy1, _⟩, rfl, cu, gr⟩
          replace TK := Lib.hid (TK.out.turn gr cu)
          clear gr cu
          have hy1 := hy1 (by omega)
          obtain ⟨y, rfl⟩ := Int.eq_ofNat_of_zero_le hy0
          have hw60 : IntKind.i64.wrap (60 + (y : Int)) = 60 + (y : Int) := by rw [IntKind.wrap_i64]; omega
          go_wp2_with fail
          refine hK.out _ _ trivial (fun hHeld => ?_)
          clear hK K
          refine tk0 4 ?_
          refine rd1 5 (fun K hK => ?_)
          obtain ⟨i8, m1, m2, m3, m4⟩ := info_parts infoB8
          obtain ⟨z2, hrun, hconv, hb⟩ := make_zeros i8 m1 m2 m3 m4 z1 (60 + (y : Int)) (60 + y) (by omega) (by omega) (by omega)
          go_simp
          have hn0 : 60 + (y : Int) = ((60 + y : Nat) : Int) := by omega
          replace TK := Lib.hid (TK.out.below hb)
          clear hb hrun m1 m2 m3 m4 hn0
          refine hK.out _ _ trivial (fun hHeld => ?_)
          clear hK K
          refine rd1 6 (fun K hK => ?_)
          go_simp
          obtain ⟨t, ht⟩ : ∃ t, t = txt (List.replicate (60 + y) 0) := ⟨_, rfl⟩
          have htz : t.size ≤ 64 := by rw [ht, txt_size, List.length_replicate]; omega
          rw [← ht]
          clear hconv ht
          obtain ⟨x, hxe⟩ : ∃ x : It, x = ⟨⟨#[122, 122, 122]⟩, t⟩ := ⟨_, rfl⟩
          have hx : x.k.size ≤ 64 ∧ x.v.size ≤ 64 := by rw [hxe]; exact ⟨by show (⟨#[122, 122, 122]⟩ : ByteArray).size ≤ 64; decide, htz⟩
          refine hK.out _ _ trivial (fun hHeld => ?_)
          clear hK K
          refine tk0 7 ?_
          refine rd1 8 (fun K hK => ?_)
          go_simp
          obtain ⟨z3, hz3⟩ : ∃ z, z = z2.alloc (.cells #[.string ⟨#[122, 122, 122]⟩, .string t] 45) := ⟨_, rfl⟩
          rw [← hz3]
          have bz3 : Below z2.heap.size z2 z3 := by rw [hz3]; exact (Below.refl _ _).alloc (Nat.le_refl _) _
          have sz3 : z3.heap.size = z2.heap.size + 1 := by rw [hz3]; simp
          have kz3 : z3.heap[z2.heap.size]? = some (.cells #[.string ⟨#[122, 122, 122]⟩, .string t] 45 (0, 0)) := by rw [hz3]; exact heap_new _ _
          have BE : Hid (w.heap.size < z2.heap.size) := Lib.hid (Nat.lt_trans TK.out.sb0 TK.out.sbl)
          replace TK := Lib.hid (TK.out.below bz3)
          have KE := Lib.hid kz3
          have LE : Hid (z2.heap.size < z3.heap.size) := Lib.hid (by omega)
          clear bz3 sz3 kz3 hz3
          refine hK.out _ _ trivial (fun hHeld => ?_)
          clear hK K
          try simp only [getElem_toArray, getElem_cons_zero, getElem_cons_succ, Act.put, setIfInBounds_toArray, set_cons_zero, set_cons_succ]
          obtain ⟨zz, rfl⟩ : ∃ z, z = z3 := ⟨_, rfl⟩
        rotate_left 1
        focus
          go_simp
          go_at_call 55
          refine (below_any 2 (by omega) B blk zD TK.out.cu).mono ?_
          rintro e z4 ⟨y, ⟨hy0, hy1, _⟩, rfl, cu, gr⟩
          replace TK := Lib.hid (TK.out.turn gr cu)
          clear gr cu
          have hy1 := hy1 (by omega)
          obtain ⟨y, rfl⟩ := Int.eq_ofNat_of_zero_le hy0
          have hw60 : IntKind.i64.wrap (60 + (y : Int)) = 60 + (y : Int) := by rw [IntKind.wrap_i64]; omega
          go_wp2_with fail
          refine hK.out _ _ trivial (fun hHeld => ?_)
          clear hK K
          refine tk0 4 ?_
          refine rd2 1 5 (fun K hK => ?_) (fun K hK => ?_)
          focus
            have f0 := TK.out.cells.1
            go_simp
            clear f0
            refine hK.out _ _ trivial (fun hHeld => ?_)
            clear hK K
            try simp only [getElem_toArray, getElem_cons_zero, getElem_cons_succ, Act.put, setIfInBounds_toArray, set_cons_zero, set_cons_succ]
            refine rd1 5 (fun K hK => ?_)
            obtain ⟨i8, m1, m2, m3, m4⟩ := info_parts infoB8
            obtain ⟨z5, hrun, hconv, hb⟩ := make_zeros i8 m1 m2 m3 m4 z4 (60 + (y : Int)) (60 + y) (by omega) (by omega) (by omega)
            go_simp
            have hn0 : 60 + (y : Int) = ((60 + y : Nat) : Int) := by omega
            replace TK := Lib.hid (TK.out.below hb)
            clear hb hrun m1 m2 m3 m4 hn0
            refine hK.out _ _ trivial (fun hHeld => ?_)
            clear hK K
            refine rd1 6 (fun K hK => ?_)
            go_simp
            obtain ⟨t, ht⟩ : ∃ t, t = txt (List.replicate (60 + y) 0) := ⟨_, rfl⟩
            have htz : t.size ≤ 64 := by rw [ht, txt_size, List.length_replicate]; omega
            rw [← ht]
            clear hconv ht
            obtain ⟨x, hxe⟩ : ∃ x : It, x = ⟨⟨#[122, 122, 122]⟩, t⟩ := ⟨_, rfl⟩
            have hx : x.k.size ≤ 64 ∧ x.v.size ≤ 64 := by rw [hxe]; exact ⟨by show (⟨#[122, 122, 122]⟩ : ByteArray).size ≤ 64; decide, htz⟩
            refine hK.out _ _ trivial (fun hHeld => ?_)
            clear hK K
            refine tk0 7 ?_
            refine rd1 8 (fun K hK => ?_)
            go_simp
            obtain ⟨z6, hz6⟩ : ∃ z, z = z5.alloc (.cells #[.string ⟨#[122, 122, 122]⟩, .string t] 45) := ⟨_, rfl⟩
            rw [← hz6]
            have bz6 : Below z5.heap.size z5 z6 := by rw [hz6]; exact (Below.refl _ _).alloc (Nat.le_refl _) _
            have sz6 : z6.heap.size = z5.heap.size + 1 := by rw [hz6]; simp
            have kz6 : z6.heap[z5.heap.size]? = some (.cells #[.string ⟨#[122, 122, 122]⟩, .string t] 45 (0, 0)) := by rw [hz6]; exact heap_new _ _
            have BE : Hid (w.heap.size < z5.heap.size) := Lib.hid (Nat.lt_trans TK.out.sb0 TK.out.sbl)
            replace TK := Lib.hid (TK.out.below bz6)
            have KE := Lib.hid kz6
            have LE : Hid (z5.heap.size < z6.heap.size) := Lib.hid (by omega)
            clear bz6 sz6 kz6 hz6
            refine hK.out _ _ trivial (fun hHeld => ?_)
            clear hK K
            try simp only [getElem_toArray, getElem_cons_zero, getElem_cons_succ, Act.put, setIfInBounds_toArray, set_cons_zero, set_cons_succ]
            obtain ⟨zz, rfl⟩ : ∃ z, z = z6 := ⟨_, rfl⟩
          rotate_left 1
          focus
            obtain ⟨i8, m1, m2, m3, m4⟩ := info_parts infoB8
            obtain ⟨z7, hrun, hconv, hb⟩ := make_zeros i8 m1 m2 m3 m4 z4 (60 + (y : Int)) (60 + y) (by omega) (by omega) (by omega)
            go_simp
            have hn0 : 60 + (y : Int) = ((60 + y : Nat) : Int) := by omega
            replace TK := Lib.hid (TK.out.below hb)
            clear hb hrun m1 m2 m3 m4 hn0
            refine hK.out _ _ trivial (fun hHeld => ?_)
            clear hK K
            try simp only [getElem_toArray, getElem_cons_zero, getElem_cons_succ, Act.put, setIfInBounds_toArray, set_cons_zero, set_cons_succ]
            refine rd2 1 6 (fun K hK => ?_) (fun K hK => ?_)
            focus
              have f0 := TK.out.cells.1
              go_simp
              clear f0
              refine hK.out _ _ trivial (fun hHeld => ?_)
              clear hK K
              refine rd1 6 (fun K hK => ?_)
              go_simp
              obtain ⟨t, ht⟩ : ∃ t, t = txt (List.replicate (60 + y) 0) := ⟨_, rfl⟩
              have htz : t.size ≤ 64 := by rw [ht, txt_size, List.length_replicate]; omega
              rw [← ht]
              clear hconv ht
              obtain ⟨x, hxe⟩ : ∃ x : It, x = ⟨⟨#[122, 122, 122]⟩, t⟩ := ⟨_, rfl⟩
              have hx : x.k.size ≤ 64 ∧ x.v.size ≤ 64 := by rw [hxe]; exact ⟨by show (⟨#[122, 122, 122]⟩ : ByteArray).size ≤ 64; decide, htz⟩
              refine hK.out _ _ trivial (fun hHeld => ?_)
              clear hK K
              refine tk0 7 ?_
              refine rd1 8 (fun K hK => ?_)
              go_simp
              obtain ⟨z8, hz8⟩ : ∃ z, z = z7.alloc (.cells #[.string ⟨#[122, 122, 122]⟩, .string t] 45) := ⟨_, rfl⟩
              rw [← hz8]
              have bz8 : Below z7.heap.size z7 z8 := by rw [hz8]; exact (Below.refl _ _).alloc (Nat.le_refl _) _
              have sz8 : z8.heap.size = z7.heap.size + 1 := by rw [hz8]; simp
              have kz8 : z8.heap[z7.heap.size]? = some (.cells #[.string ⟨#[122, 122, 122]⟩, .string t] 45 (0, 0)) := by rw [hz8]; exact heap_new _ _
              have BE : Hid (w.heap.size < z7.heap.size) := Lib.hid (Nat.lt_trans TK.out.sb0 TK.out.sbl)
              replace TK := Lib.hid (TK.out.below bz8)
              have KE := Lib.hid kz8
              have LE : Hid (z7.heap.size < z8.heap.size) := Lib.hid (by omega)
              clear bz8 sz8 kz8 hz8
              refine hK.out _ _ trivial (fun hHeld => ?_)
              clear hK K
              try simp only [getElem_toArray, getElem_cons_zero, getElem_cons_succ, Act.put, setIfInBounds_toArray, set_cons_zero, set_cons_succ]
              obtain ⟨zz, rfl⟩ : ∃ z, z = z8 := ⟨_, rfl⟩
            rotate_left 1
            focus
              go_simp
              obtain ⟨t, ht⟩ : ∃ t, t = txt (List.replicate (60 + y) 0) := ⟨_, rfl⟩
              have htz : t.size ≤ 64 := by rw [ht, txt_size, List.length_replicate]; omega
              rw [← ht]
              clear hconv ht
              obtain ⟨x, hxe⟩ : ∃ x : It, x = ⟨⟨#[122, 122, 122]⟩, t⟩ := ⟨_, rfl⟩
              have hx : x.k.size ≤ 64 ∧ x.v.size ≤ 64 := by rw [hxe]; exact ⟨by show (⟨#[122, 122, 122]⟩ : ByteArray).size ≤ 64; decide, htz⟩
              refine hK.out _ _ trivial (fun hHeld => ?_)
              clear hK K
              refine tk0 7 ?_
              refine rd2 1 8 (fun K hK => ?_) (fun K hK => ?_)
              focus
                have f0 := TK.out.cells.1
                go_simp
                clear f0
                refine hK.out _ _ trivial (fun hHeld => ?_)
                clear hK K
                refine rd1 8 (fun K hK => ?_)
                go_simp
                obtain ⟨z9, hz9⟩ : ∃ z, z = z7.alloc (.cells #[.string ⟨#[122, 122, 122]⟩, .string t] 45) := ⟨_, rfl⟩
                rw [← hz9]
                have bz9 : Below z7.heap.size z7 z9 := by rw [hz9]; exact (Below.refl _ _).alloc (Nat.le_refl _) _
                have sz9 : z9.heap.size = z7.heap.size + 1 := by rw [hz9]; simp
                have kz9 : z9.heap[z7.heap.size]? = some (.cells #[.string ⟨#[122, 122, 122]⟩, .string t] 45 (0, 0)) := by rw [hz9]; exact heap_new _ _
                have BE : Hid (w.heap.size < z7.heap.size) := Lib.hid (Nat.lt_trans TK.out.sb0 TK.out.sbl)
                replace TK := Lib.hid (TK.out.below bz9)
                have KE := Lib.hid kz9
                have LE : Hid (z7.heap.size < z9.heap.size) := Lib.hid (by omega)
                clear bz9 sz9 kz9 hz9
                refine hK.out _ _ trivial (fun hHeld => ?_)
                clear hK K
                try simp only [getElem_toArray, getElem_cons_zero, getElem_cons_succ, Act.put, setIfInBounds_toArray, set_cons_zero, set_cons_succ]
                obtain ⟨zz, rfl⟩ : ∃ z, z = z9 := ⟨_, rfl⟩
              rotate_left 1
              focus
                go_simp
                obtain ⟨z10, hz10⟩ : ∃ z, z = z7.alloc (.cells #[.string ⟨#[122, 122, 122]⟩, .string t] 45) := ⟨_, rfl⟩
                rw [← hz10]
                have bz10 : Below z7.heap.size z7 z10 := by rw [hz10]; exact (Below.refl _ _).alloc (Nat.le_refl _) _
                have sz10 : z10.heap.size = z7.heap.size + 1 := by rw [hz10]; simp
                have kz10 : z10.heap[z7.heap.size]? = some (.cells #[.string ⟨#[122, 122, 122]⟩, .string t] 45 (0, 0)) := by rw [hz10]; exact heap_new _ _
                have BE : Hid (w.heap.size < z7.heap.size) := Lib.hid (Nat.lt_trans TK.out.sb0 TK.out.sbl)
                replace TK := Lib.hid (TK.out.below bz10)
                have KE := Lib.hid kz10
                have LE : Hid (z7.heap.size < z10.heap.size) := Lib.hid (by omega)
                clear bz10 sz10 kz10 hz10
                refine hK.out _ _ trivial (fun hHeld => ?_)
                clear hK K
                try simp only [getElem_toArray, getElem_cons_zero, getElem_cons_succ, Act.put, setIfInBounds_toArray, set_cons_zero, set_cons_succ]
                refine rd1 1 (fun K hK => ?_)
                have f0 := TK.out.cells.1
                go_simp
                clear f0
                refine hK.out _ _ trivial (fun hHeld => ?_)
                clear hK K
                try simp only [getElem_toArray, getElem_cons_zero, getElem_cons_succ, Act.put, setIfInBounds_toArray, set_cons_zero, set_cons_succ]
                obtain ⟨zz, rfl⟩ : ∃ z, z = z10 := ⟨_, rfl⟩
        all_goals (
          refine rd1 9 (fun K hK => ?_)
          obtain ⟨i0, p1, p2, p3, p4⟩ := info_parts infoIt
          have hl1 := hsm.1
          refine step_appN rfl (.tmp 23) (.tmp 30) 24 rfl 45 i0 _ 2 32 Tryz.underlying24 p1 p2 p3 p4 rfl (by decide) gi s.items.length ci (w.heap.size + 1) _ TK.out.oi _ ⟨_, rfl, TK.out.ni⟩ (by simp [Act.eval]) _ (by simp [Act.eval]) zz.heap.size 1 (itC x) (one_raw (cs := itC x) (by have h := KE.out; first | exact h | (rw [hxe]; exact h)) LE.out) (by omega) (by simp [itC]) (by simp [itC, Value.oneCell']) (by unfold maxLen; omega) (by omega) (Nat.le_trans TK.out.sb0 (Nat.le_of_lt TK.out.sbl)) ?_
          intro g1 c1 z11 r1 e1 got1
          have PU := Lib.hid (TK.out.pushI (x := x) r1 e1 got1)
          clear r1 e1 got1 p1 p2 p3 p4 hl1
          refine hK.out _ _ trivial (fun hHeld => ?_)
          clear hK K
          refine tk0 10 ?_
          refine rd1 11 (fun K hK => ?_)
          have fs := cell_of_row z11 _ 0 _ _ _ PU.out.1
          have fz := frozen_of_row z11 _ 0 _ _ PU.out.1
          simp only [List.getElem?_toArray, List.getElem?_cons_zero, List.getElem?_cons_succ] at fs
          go_simp
          clear fs fz
          refine hK.out _ _ trivial (fun hHeld => ?_)
          clear hK K
          try simp only [getElem_toArray, getElem_cons_zero, getElem_cons_succ, Act.put, setIfInBounds_toArray, set_cons_zero, set_cons_succ]
          refine wpAnyH_done (by kernel_rfl) ?_ _
          clear hHeld
          go_wp2_with fail
          go_meet
          exact ⟨_, _, _, _, _, _, _, (hsm.pushI hx).mono (by omega) (by omega), Lib.hid PU.out.2⟩)
      · by_cases h2 : q = 2
        · subst h2
          go_wp2_with fail
          refine wp_region_held_drew (S := (fun _ => True)) (by kernel_rfl) trivial (fun hHeld => ?_)
          obtain ⟨zD, hzD⟩ : ∃ z, z = w2.drew := ⟨_, rfl⟩
          rw [← hzD]
          have bzD : Below w2.heap.size w2 zD := by rw [hzD]; exact (Below.refl _ _).drew
          replace TK := Lib.hid (TK.out.below bzD)
          clear bzD hzD
          refine tk0 0 ?_
          refine tk0 2 ?_
          refine tk0 5 ?_
          refine wpAnyH_ready (rs := [1, 3, 6]) (by kernel_rfl) (by simp) ?_
          refine AllReadyH.cons rfl (fun K hK => ?_) (AllReadyH.cons rfl (fun K hK => ?_) (AllReadyH.cons rfl (fun K hK => ?_) (AllReadyH.nil)))
          focus
            have f1 := TK.out.cells.2
            go_simp
            clear f1
            refine hK.out _ _ trivial (fun hHeld => ?_)
            clear hK K
            try simp only [getElem_toArray, getElem_cons_zero, getElem_cons_succ, Act.put, setIfInBounds_toArray, set_cons_zero, set_cons_succ]
            refine rd2 3 6 (fun K hK => ?_) (fun K hK => ?_)
            focus
              go_simp
              obtain ⟨z1, hz1⟩ : ∃ z, z = zD.alloc (.cells #[.string ⟨#[]⟩, .string ⟨#[122, 101, 100]⟩] 9) := ⟨_, rfl⟩
              rw [← hz1]
              have bz1 : Below zD.heap.size zD z1 := by rw [hz1]; exact (Below.refl _ _).alloc (Nat.le_refl _) _
              have sz1 : z1.heap.size = zD.heap.size + 1 := by rw [hz1]; simp
              have kz1 : z1.heap[zD.heap.size]? = some (.cells #[.string ⟨#[]⟩, .string ⟨#[122, 101, 100]⟩] 9 (0, 0)) := by rw [hz1]; exact heap_new _ _
              have BA : Hid (w.heap.size < zD.heap.size) := Lib.hid (Nat.lt_trans TK.out.sb0 TK.out.sbl)
              replace TK := Lib.hid (TK.out.below bz1)
              have KA := Lib.hid kz1
              have LA : Hid (zD.heap.size < z1.heap.size) := Lib.hid (by omega)
              clear bz1 sz1 kz1 hz1
              refine hK.out _ _ trivial (fun hHeld => ?_)
              clear hK K
              try simp only [getElem_toArray, getElem_cons_zero, getElem_cons_succ, Act.put, setIfInBounds_toArray, set_cons_zero, set_cons_succ]
              refine rd2 4 6 (fun K hK => ?_) (fun K hK => ?_)
              focus
                go_simp
                go_at_call 56
                refine (pick_any (Short 64) (zD.heap.size) 2 2 (by omega) (by omega) B blk z1 (by have := TK.out.lb; have := BA.out; omega) LA.out (texts_of_row KA.out 64 (by decide) _ rfl) TK.out.cu).mono ?_
                rintro e z2 ⟨_, ⟨t, rfl, ht⟩, rfl, cu, gr⟩
                replace KA := tkg gr LA KA (by simp; have := TK.out.lb; have := BA.out; omega)
                replace LA := tlz LA gr.size
                replace TK := Lib.hid (TK.out.turn gr cu)
                clear gr cu
                go_wp2_with fail
                refine hK.out _ _ trivial (fun hHeld => ?_)
                clear hK K
                refine rd1 6 (fun K hK => ?_)
                go_simp
                obtain ⟨z3, hz3⟩ : ∃ z, z = z2.alloc (.cells #[.int .i64 0, .int .i64 1, .int .i64 1000000000, .int .i64 1000000001] 3) := ⟨_, rfl⟩
                rw [← hz3]
                have bz3 : Below z2.heap.size z2 z3 := by rw [hz3]; exact (Below.refl _ _).alloc (Nat.le_refl _) _
                have sz3 : z3.heap.size = z2.heap.size + 1 := by rw [hz3]; simp
                have kz3 : z3.heap[z2.heap.size]? = some (.cells #[.int .i64 0, .int .i64 1, .int .i64 1000000000, .int .i64 1000000001] 3 (0, 0)) := by rw [hz3]; exact heap_new _ _
                have BI : Hid (w.heap.size < z2.heap.size) := Lib.hid (Nat.lt_trans TK.out.sb0 TK.out.sbl)
                replace KA := tkb bz3 LA KA
                replace LA := tlz LA bz3.size
                replace TK := Lib.hid (TK.out.below bz3)
                have KI := Lib.hid kz3
                have LI : Hid (z2.heap.size < z3.heap.size) := Lib.hid (by omega)
                clear bz3 sz3 kz3 hz3
                refine hK.out _ _ trivial (fun hHeld => ?_)
                clear hK K
                refine rd1 7 (fun K hK => ?_)
                go_simp
                go_at_call 26
                refine (pickInt_any I64 (z2.heap.size) 4 4 (by omega) (by omega) B blk z3 (by have := TK.out.lb; have := BI.out; omega) (ints_of_row KI.out (by decide) _ rfl) TK.out.cu).mono ?_
                rintro e z4 ⟨y, hy, rfl, cu, gr⟩
                replace KA := tkg gr LA KA (by simp; have := TK.out.lb; have := BA.out; omega)
                replace LA := tlz LA gr.size
                replace KI := tkg gr LI KI (by simp; have := TK.out.lb; have := BI.out; omega)
                replace LI := tlz LI gr.size
                replace TK := Lib.hid (TK.out.turn gr cu)
                clear gr cu
                go_wp2_with fail
                obtain ⟨y', hy', hyb⟩ := hy
                obtain rfl : y = y' := by simpa using hy'
                clear hy'
                obtain ⟨x, hxe⟩ : ∃ x : Tk, x = ⟨t, y, ⟨#[]⟩⟩ := ⟨_, rfl⟩
                have hx : x.c.size ≤ 64 ∧ x.r.size ≤ 64 ∧ -9223372036854775808 ≤ x.q ∧ x.q ≤ 9223372036854775807 := by rw [hxe]; exact ⟨ht, by show (⟨#[]⟩ : ByteArray).size ≤ 64; decide, hyb⟩
                refine hK.out _ _ trivial (fun hHeld => ?_)
                clear hK K
                refine tk0 8 ?_
                refine rd1 9 (fun K hK => ?_)
                go_simp
                obtain ⟨z5, hz5⟩ : ∃ z, z = z4.alloc (.cells #[.string t, .int .i64 y, .string ⟨#[]⟩] 65) := ⟨_, rfl⟩
                rw [← hz5]
                have bz5 : Below z4.heap.size z4 z5 := by rw [hz5]; exact (Below.refl _ _).alloc (Nat.le_refl _) _
                have sz5 : z5.heap.size = z4.heap.size + 1 := by rw [hz5]; simp
                have kz5 : z5.heap[z4.heap.size]? = some (.cells #[.string t, .int .i64 y, .string ⟨#[]⟩] 65 (0, 0)) := by rw [hz5]; exact heap_new _ _
                have BE : Hid (w.heap.size < z4.heap.size) := Lib.hid (Nat.lt_trans TK.out.sb0 TK.out.sbl)
                replace KA := tkb bz5 LA KA
                replace LA := tlz LA bz5.size
                replace KI := tkb bz5 LI KI
                replace LI := tlz LI bz5.size
                replace TK := Lib.hid (TK.out.below bz5)
                have KE := Lib.hid kz5
                have LE : Hid (z4.heap.size < z5.heap.size) := Lib.hid (by omega)
                clear bz5 sz5 kz5 hz5
                refine hK.out _ _ trivial (fun hHeld => ?_)
                clear hK K
                try simp only [getElem_toArray, getElem_cons_zero, getElem_cons_succ, Act.put, setIfInBounds_toArray, set_cons_zero, set_cons_succ]
                obtain ⟨zz, rfl⟩ : ∃ z, z = z5 := ⟨_, rfl⟩
              rotate_left 1
              focus
                go_simp
                obtain ⟨z6, hz6⟩ : ∃ z, z = z1.alloc (.cells #[.int .i64 0, .int .i64 1, .int .i64 1000000000, .int .i64 1000000001] 3) := ⟨_, rfl⟩
                rw [← hz6]
                have bz6 : Below z1.heap.size z1 z6 := by rw [hz6]; exact (Below.refl _ _).alloc (Nat.le_refl _) _
                have sz6 : z6.heap.size = z1.heap.size + 1 := by rw [hz6]; simp
                have kz6 : z6.heap[z1.heap.size]? = some (.cells #[.int .i64 0, .int .i64 1, .int .i64 1000000000, .int .i64 1000000001] 3 (0, 0)) := by rw [hz6]; exact heap_new _ _
                have BI : Hid (w.heap.size < z1.heap.size) := Lib.hid (Nat.lt_trans TK.out.sb0 TK.out.sbl)
                replace KA := tkb bz6 LA KA
                replace LA := tlz LA bz6.size
                replace TK := Lib.hid (TK.out.below bz6)
                have KI := Lib.hid kz6
                have LI : Hid (z1.heap.size < z6.heap.size) := Lib.hid (by omega)
                clear bz6 sz6 kz6 hz6
                refine hK.out _ _ trivial (fun hHeld => ?_)
                clear hK K
                refine rd1 4 (fun K hK => ?_)
                go_simp
                go_at_call 56
                refine (pick_any (Short 64) (zD.heap.size) 2 2 (by omega) (by omega) B blk z6 (by have := TK.out.lb; have := BA.out; omega) LA.out (texts_of_row KA.out 64 (by decide) _ rfl) TK.out.cu).mono ?_
                rintro e z7 ⟨_, ⟨t, rfl, ht⟩, rfl, cu, gr⟩
                replace KA := tkg gr LA KA (by simp; have := TK.out.lb; have := BA.out; omega)
                replace LA := tlz LA gr.size
                replace KI := tkg gr LI KI (by simp; have := TK.out.lb; have := BI.out; omega)
                replace LI := tlz LI gr.size
                replace TK := Lib.hid (TK.out.turn gr cu)
                clear gr cu
                go_wp2_with fail
                refine hK.out _ _ trivial (fun hHeld => ?_)
                clear hK K
                refine rd1 7 (fun K hK => ?_)
                go_simp
                go_at_call 26
                refine (pickInt_any I64 (z1.heap.size) 4 4 (by omega) (by omega) B blk z7 (by have := TK.out.lb; have := BI.out; omega) (ints_of_row KI.out (by decide) _ rfl) TK.out.cu).mono ?_
                rintro e z8 ⟨y, hy, rfl, cu, gr⟩
                replace KA := tkg gr LA KA (by simp; have := TK.out.lb; have := BA.out; omega)
                replace LA := tlz LA gr.size
                replace KI := tkg gr LI KI (by simp; have := TK.out.lb; have := BI.out; omega)
                replace LI := tlz LI gr.size
                replace TK := Lib.hid (TK.out.turn gr cu)
                clear gr cu
                go_wp2_with fail
                obtain ⟨y', hy', hyb⟩ := hy
                obtain rfl : y = y' := by simpa using hy'
                clear hy'
                obtain ⟨x, hxe⟩ : ∃ x : Tk, x = ⟨t, y, ⟨#[]⟩⟩ := ⟨_, rfl⟩
                have hx : x.c.size ≤ 64 ∧ x.r.size ≤ 64 ∧ -9223372036854775808 ≤ x.q ∧ x.q ≤ 9223372036854775807 := by rw [hxe]; exact ⟨ht, by show (⟨#[]⟩ : ByteArray).size ≤ 64; decide, hyb⟩
                refine hK.out _ _ trivial (fun hHeld => ?_)
                clear hK K
                refine tk0 8 ?_
                refine rd1 9 (fun K hK => ?_)
                go_simp
                obtain ⟨z9, hz9⟩ : ∃ z, z = z8.alloc (.cells #[.string t, .int .i64 y, .string ⟨#[]⟩] 65) := ⟨_, rfl⟩
                rw [← hz9]
                have bz9 : Below z8.heap.size z8 z9 := by rw [hz9]; exact (Below.refl _ _).alloc (Nat.le_refl _) _
                have sz9 : z9.heap.size = z8.heap.size + 1 := by rw [hz9]; simp
                have kz9 : z9.heap[z8.heap.size]? = some (.cells #[.string t, .int .i64 y, .string ⟨#[]⟩] 65 (0, 0)) := by rw [hz9]; exact heap_new _ _
                have BE : Hid (w.heap.size < z8.heap.size) := Lib.hid (Nat.lt_trans TK.out.sb0 TK.out.sbl)
                replace KA := tkb bz9 LA KA
                replace LA := tlz LA bz9.size
                replace KI := tkb bz9 LI KI
                replace LI := tlz LI bz9.size
                replace TK := Lib.hid (TK.out.below bz9)
                have KE := Lib.hid kz9
                have LE : Hid (z8.heap.size < z9.heap.size) := Lib.hid (by omega)
                clear bz9 sz9 kz9 hz9
                refine hK.out _ _ trivial (fun hHeld => ?_)
                clear hK K
                try simp only [getElem_toArray, getElem_cons_zero, getElem_cons_succ, Act.put, setIfInBounds_toArray, set_cons_zero, set_cons_succ]
                obtain ⟨zz, rfl⟩ : ∃ z, z = z9 := ⟨_, rfl⟩
            rotate_left 2
            focus
              go_simp
              obtain ⟨z10, hz10⟩ : ∃ z, z = zD.alloc (.cells #[.int .i64 0, .int .i64 1, .int .i64 1000000000, .int .i64 1000000001] 3) := ⟨_, rfl⟩
              rw [← hz10]
              have bz10 : Below zD.heap.size zD z10 := by rw [hz10]; exact (Below.refl _ _).alloc (Nat.le_refl _) _
              have sz10 : z10.heap.size = zD.heap.size + 1 := by rw [hz10]; simp
              have kz10 : z10.heap[zD.heap.size]? = some (.cells #[.int .i64 0, .int .i64 1, .int .i64 1000000000, .int .i64 1000000001] 3 (0, 0)) := by rw [hz10]; exact heap_new _ _
              have BI : Hid (w.heap.size < zD.heap.size) := Lib.hid (Nat.lt_trans TK.out.sb0 TK.out.sbl)
              replace TK := Lib.hid (TK.out.below bz10)
              have KI := Lib.hid kz10
              have LI : Hid (zD.heap.size < z10.heap.size) := Lib.hid (by omega)
              clear bz10 sz10 kz10 hz10
              refine hK.out _ _ trivial (fun hHeld => ?_)
              clear hK K
              refine rd1 3 (fun K hK => ?_)
              go_simp
              obtain ⟨z11, hz11⟩ : ∃ z, z = z10.alloc (.cells #[.string ⟨#[]⟩, .string ⟨#[122, 101, 100]⟩] 9) := ⟨_, rfl⟩
              rw [← hz11]
              have bz11 : Below z10.heap.size z10 z11 := by rw [hz11]; exact (Below.refl _ _).alloc (Nat.le_refl _) _
              have sz11 : z11.heap.size = z10.heap.size + 1 := by rw [hz11]; simp
              have kz11 : z11.heap[z10.heap.size]? = some (.cells #[.string ⟨#[]⟩, .string ⟨#[122, 101, 100]⟩] 9 (0, 0)) := by rw [hz11]; exact heap_new _ _
              have BA : Hid (w.heap.size < z10.heap.size) := Lib.hid (Nat.lt_trans TK.out.sb0 TK.out.sbl)
              replace KI := tkb bz11 LI KI
              replace LI := tlz LI bz11.size
              replace TK := Lib.hid (TK.out.below bz11)
              have KA := Lib.hid kz11
              have LA : Hid (z10.heap.size < z11.heap.size) := Lib.hid (by omega)
              clear bz11 sz11 kz11 hz11
              refine hK.out _ _ trivial (fun hHeld => ?_)
              clear hK K
              refine rd1 4 (fun K hK => ?_)
              go_simp
              go_at_call 56
              refine (pick_any (Short 64) (z10.heap.size) 2 2 (by omega) (by omega) B blk z11 (by have := TK.out.lb; have := BA.out; omega) LA.out (texts_of_row KA.out 64 (by decide) _ rfl) TK.out.cu).mono ?_
              rintro e z12 ⟨_, ⟨t, rfl, ht⟩, rfl, cu, gr⟩
              replace KI := tkg gr LI KI (by simp; have := TK.out.lb; have := BI.out; omega)
              replace LI := tlz LI gr.size
              replace KA := tkg gr LA KA (by simp; have := TK.out.lb; have := BA.out; omega)
              replace LA := tlz LA gr.size
              replace TK := Lib.hid (TK.out.turn gr cu)
              clear gr cu
              go_wp2_with fail
              refine hK.out _ _ trivial (fun hHeld => ?_)
              clear hK K
              refine rd1 7 (fun K hK => ?_)
              go_simp
              go_at_call 26
              refine (pickInt_any I64 (zD.heap.size) 4 4 (by omega) (by omega) B blk z12 (by have := TK.out.lb; have := BI.out; omega) (ints_of_row KI.out (by decide) _ rfl) TK.out.cu).mono ?_
              rintro e z13 ⟨y, hy, rfl, cu, gr⟩
              replace KI := tkg gr LI KI (by simp; have := TK.out.lb; have := BI.out; omega)
              replace LI := tlz LI gr.size
              replace KA := tkg gr LA KA (by simp; have := TK.out.lb; have := BA.out; omega)
              replace LA := tlz LA gr.size
              replace TK := Lib.hid (TK.out.turn gr cu)
              clear gr cu
              go_wp2_with fail
              obtain ⟨y', hy', hyb⟩ := hy
              obtain rfl : y = y' := by simpa using hy'
              clear hy'
              obtain ⟨x, hxe⟩ : ∃ x : Tk, x = ⟨t, y, ⟨#[]⟩⟩ := ⟨_, rfl⟩
              have hx : x.c.size ≤ 64 ∧ x.r.size ≤ 64 ∧ -9223372036854775808 ≤ x.q ∧ x.q ≤ 9223372036854775807 := by rw [hxe]; exact ⟨ht, by show (⟨#[]⟩ : ByteArray).size ≤ 64; decide, hyb⟩
              refine hK.out _ _ trivial (fun hHeld => ?_)
              clear hK K
              refine tk0 8 ?_
              refine rd1 9 (fun K hK => ?_)
              go_simp
              obtain ⟨z14, hz14⟩ : ∃ z, z = z13.alloc (.cells #[.string t, .int .i64 y, .string ⟨#[]⟩] 65) := ⟨_, rfl⟩
              rw [← hz14]
              have bz14 : Below z13.heap.size z13 z14 := by rw [hz14]; exact (Below.refl _ _).alloc (Nat.le_refl _) _
              have sz14 : z14.heap.size = z13.heap.size + 1 := by rw [hz14]; simp
              have kz14 : z14.heap[z13.heap.size]? = some (.cells #[.string t, .int .i64 y, .string ⟨#[]⟩] 65 (0, 0)) := by rw [hz14]; exact heap_new _ _
              have BE : Hid (w.heap.size < z13.heap.size) := Lib.hid (Nat.lt_trans TK.out.sb0 TK.out.sbl)
              replace KI := tkb bz14 LI KI
              replace LI := tlz LI bz14.size
              replace KA := tkb bz14 LA KA
              replace LA := tlz LA bz14.size
              replace TK := Lib.hid (TK.out.below bz14)
              have KE := Lib.hid kz14
              have LE : Hid (z13.heap.size < z14.heap.size) := Lib.hid (by omega)
              clear bz14 sz14 kz14 hz14
              refine hK.out _ _ trivial (fun hHeld => ?_)
              clear hK K
              try simp only [getElem_toArray, getElem_cons_zero, getElem_cons_succ, Act.put, setIfInBounds_toArray, set_cons_zero, set_cons_succ]
              obtain ⟨zz, rfl⟩ : ∃ z, z = z14 := ⟨_, rfl⟩
          rotate_left 3
          focus
            go_simp
            obtain ⟨z15, hz15⟩ : ∃ z, z = zD.alloc (.cells #[.string ⟨#[]⟩, .string ⟨#[122, 101, 100]⟩] 9) := ⟨_, rfl⟩
            rw [← hz15]
            have bz15 : Below zD.heap.size zD z15 := by rw [hz15]; exact (Below.refl _ _).alloc (Nat.le_refl _) _
            have sz15 : z15.heap.size = zD.heap.size + 1 := by rw [hz15]; simp
            have kz15 : z15.heap[zD.heap.size]? = some (.cells #[.string ⟨#[]⟩, .string ⟨#[122, 101, 100]⟩] 9 (0, 0)) := by rw [hz15]; exact heap_new _ _
            have BA : Hid (w.heap.size < zD.heap.size) := Lib.hid (Nat.lt_trans TK.out.sb0 TK.out.sbl)
            replace TK := Lib.hid (TK.out.below bz15)
            have KA := Lib.hid kz15
            have LA : Hid (zD.heap.size < z15.heap.size) := Lib.hid (by omega)
            clear bz15 sz15 kz15 hz15
            refine hK.out _ _ trivial (fun hHeld => ?_)
            clear hK K
            try simp only [getElem_toArray, getElem_cons_zero, getElem_cons_succ, Act.put, setIfInBounds_toArray, set_cons_zero, set_cons_succ]
            refine wpAnyH_ready (rs := [1, 4, 6]) (by kernel_rfl) (by simp) ?_
            refine AllReadyH.cons rfl (fun K hK => ?_) (AllReadyH.cons rfl (fun K hK => ?_) (AllReadyH.cons rfl (fun K hK => ?_) (AllReadyH.nil)))
            focus
              have f1 := TK.out.cells.2
              go_simp
              clear f1
              refine hK.out _ _ trivial (fun hHeld => ?_)
              clear hK K
              try simp only [getElem_toArray, getElem_cons_zero, getElem_cons_succ, Act.put, setIfInBounds_toArray, set_cons_zero, set_cons_succ]
              refine rd2 4 6 (fun K hK => ?_) (fun K hK => ?_)
              focus
                go_simp
                go_at_call 56
                refine (pick_any (Short 64) (zD.heap.size) 2 2 (by omega) (by omega) B blk z15 (by have := TK.out.lb; have := BA.out; omega) LA.out (texts_of_row KA.out 64 (by decide) _ rfl) TK.out.cu).mono ?_
                rintro e z16 ⟨_, ⟨t, rfl, ht⟩, rfl, cu, gr⟩
                replace KA := tkg gr LA KA (by simp; have := TK.out.lb; have := BA.out; omega)
                replace LA := tlz LA gr.size
                replace TK := Lib.hid (TK.out.turn gr cu)
                clear gr cu
                go_wp2_with fail
                refine hK.out _ _ trivial (fun hHeld => ?_)
                clear hK K
                refine rd1 6 (fun K hK => ?_)
                go_simp
                obtain ⟨z17, hz17⟩ : ∃ z, z = z16.alloc (.cells #[.int .i64 0, .int .i64 1, .int .i64 1000000000, .int .i64 1000000001] 3) := ⟨_, rfl⟩
                rw [← hz17]
                have bz17 : Below z16.heap.size z16 z17 := by rw [hz17]; exact (Below.refl _ _).alloc (Nat.le_refl _) _
                have sz17 : z17.heap.size = z16.heap.size + 1 := by rw [hz17]; simp
                have kz17 : z17.heap[z16.heap.size]? = some (.cells #[.int .i64 0, .int .i64 1, .int .i64 1000000000, .int .i64 1000000001] 3 (0, 0)) := by rw [hz17]; exact heap_new _ _
                have BI : Hid (w.heap.size < z16.heap.size) := Lib.hid (Nat.lt_trans TK.out.sb0 TK.out.sbl)
                replace KA := tkb bz17 LA KA
                replace LA := tlz LA bz17.size
                replace TK := Lib.hid (TK.out.below bz17)
                have KI := Lib.hid kz17
                have LI : Hid (z16.heap.size < z17.heap.size) := Lib.hid (by omega)
                clear bz17 sz17 kz17 hz17
                refine hK.out _ _ trivial (fun hHeld => ?_)
                clear hK K
                refine rd1 7 (fun K hK => ?_)
                go_simp
                go_at_call 26
                refine (pickInt_any I64 (z16.heap.size) 4 4 (by omega) (by omega) B blk z17 (by have := TK.out.lb; have := BI.out; omega) (ints_of_row KI.out (by decide) _ rfl) TK.out.cu).mono ?_
                rintro e z18 ⟨y, hy, rfl, cu, gr⟩
                replace KA := tkg gr LA KA (by simp; have := TK.out.lb; have := BA.out; omega)
                replace LA := tlz LA gr.size
                replace KI := tkg gr LI KI (by simp; have := TK.out.lb; have := BI.out; omega)
                replace LI := tlz LI gr.size
                replace TK := Lib.hid (TK.out.turn gr cu)
                clear gr cu
                go_wp2_with fail
                obtain ⟨y', hy', hyb⟩ := hy
                obtain rfl : y = y' := by simpa using hy'
                clear hy'
                obtain ⟨x, hxe⟩ : ∃ x : Tk, x = ⟨t, y, ⟨#[]⟩⟩ := ⟨_, rfl⟩
                have hx : x.c.size ≤ 64 ∧ x.r.size ≤ 64 ∧ -9223372036854775808 ≤ x.q ∧ x.q ≤ 9223372036854775807 := by rw [hxe]; exact ⟨ht, by show (⟨#[]⟩ : ByteArray).size ≤ 64; decide, hyb⟩
                refine hK.out _ _ trivial (fun hHeld => ?_)
                clear hK K
                refine tk0 8 ?_
                refine rd1 9 (fun K hK => ?_)
                go_simp
                obtain ⟨z19, hz19⟩ : ∃ z, z = z18.alloc (.cells #[.string t, .int .i64 y, .string ⟨#[]⟩] 65) := ⟨_, rfl⟩
                rw [← hz19]
                have bz19 : Below z18.heap.size z18 z19 := by rw [hz19]; exact (Below.refl _ _).alloc (Nat.le_refl _) _
                have sz19 : z19.heap.size = z18.heap.size + 1 := by rw [hz19]; simp
                have kz19 : z19.heap[z18.heap.size]? = some (.cells #[.string t, .int .i64 y, .string ⟨#[]⟩] 65 (0, 0)) := by rw [hz19]; exact heap_new _ _
                have BE : Hid (w.heap.size < z18.heap.size) := Lib.hid (Nat.lt_trans TK.out.sb0 TK.out.sbl)
                replace KA := tkb bz19 LA KA
                replace LA := tlz LA bz19.size
                replace KI := tkb bz19 LI KI
                replace LI := tlz LI bz19.size
                replace TK := Lib.hid (TK.out.below bz19)
                have KE := Lib.hid kz19
                have LE : Hid (z18.heap.size < z19.heap.size) := Lib.hid (by omega)
                clear bz19 sz19 kz19 hz19
                refine hK.out _ _ trivial (fun hHeld => ?_)
                clear hK K
                try simp only [getElem_toArray, getElem_cons_zero, getElem_cons_succ, Act.put, setIfInBounds_toArray, set_cons_zero, set_cons_succ]
                obtain ⟨zz, rfl⟩ : ∃ z, z = z19 := ⟨_, rfl⟩
              rotate_left 1
              focus
                go_simp
                obtain ⟨z20, hz20⟩ : ∃ z, z = z15.alloc (.cells #[.int .i64 0, .int .i64 1, .int .i64 1000000000, .int .i64 1000000001] 3) := ⟨_, rfl⟩
                rw [← hz20]
                have bz20 : Below z15.heap.size z15 z20 := by rw [hz20]; exact (Below.refl _ _).alloc (Nat.le_refl _) _
                have sz20 : z20.heap.size = z15.heap.size + 1 := by rw [hz20]; simp
                have kz20 : z20.heap[z15.heap.size]? = some (.cells #[.int .i64 0, .int .i64 1, .int .i64 1000000000, .int .i64 1000000001] 3 (0, 0)) := by rw [hz20]; exact heap_new _ _
                have BI : Hid (w.heap.size < z15.heap.size) := Lib.hid (Nat.lt_trans TK.out.sb0 TK.out.sbl)
                replace KA := tkb bz20 LA KA
                replace LA := tlz LA bz20.size
                replace TK := Lib.hid (TK.out.below bz20)
                have KI := Lib.hid kz20
                have LI : Hid (z15.heap.size < z20.heap.size) := Lib.hid (by omega)
                clear bz20 sz20 kz20 hz20
                refine hK.out _ _ trivial (fun hHeld => ?_)
                clear hK K
                refine rd1 4 (fun K hK => ?_)
                go_simp
                go_at_call 56
                refine (pick_any (Short 64) (zD.heap.size) 2 2 (by omega) (by omega) B blk z20 (by have := TK.out.lb; have := BA.out; omega) LA.out (texts_of_row KA.out 64 (by decide) _ rfl) TK.out.cu).mono ?_
                rintro e z21 ⟨_, ⟨t, rfl, ht⟩, rfl, cu, gr⟩
                replace KA := tkg gr LA KA (by simp; have := TK.out.lb; have := BA.out; omega)
                replace LA := tlz LA gr.size
                replace KI := tkg gr LI KI (by simp; have := TK.out.lb; have := BI.out; omega)
                replace LI := tlz LI gr.size
                replace TK := Lib.hid (TK.out.turn gr cu)
                clear gr cu
                go_wp2_with fail
                refine hK.out _ _ trivial (fun hHeld => ?_)
                clear hK K
                refine rd1 7 (fun K hK => ?_)
                go_simp
                go_at_call 26
                refine (pickInt_any I64 (z15.heap.size) 4 4 (by omega) (by omega) B blk z21 (by have := TK.out.lb; have := BI.out; omega) (ints_of_row KI.out (by decide) _ rfl) TK.out.cu).mono ?_
                rintro e z22 ⟨y, hy, rfl, cu, gr⟩
                replace KA := tkg gr LA KA (by simp; have := TK.out.lb; have := BA.out; omega)
                replace LA := tlz LA gr.size
                replace KI := tkg gr LI KI (by simp; have := TK.out.lb; have := BI.out; omega)
                replace LI := tlz LI gr.size
                replace TK := Lib.hid (TK.out.turn gr cu)
                clear gr cu
                go_wp2_with fail
                obtain ⟨y', hy', hyb⟩ := hy
                obtain rfl : y = y' := by simpa using hy'
                clear hy'
                obtain ⟨x, hxe⟩ : ∃ x : Tk, x = ⟨t, y, ⟨#[]⟩⟩ := ⟨_, rfl⟩
                have hx : x.c.size ≤ 64 ∧ x.r.size ≤ 64 ∧ -9223372036854775808 ≤ x.q ∧ x.q ≤ 9223372036854775807 := by rw [hxe]; exact ⟨ht, by show (⟨#[]⟩ : ByteArray).size ≤ 64; decide, hyb⟩
                refine hK.out _ _ trivial (fun hHeld => ?_)
                clear hK K
                refine tk0 8 ?_
                refine rd1 9 (fun K hK => ?_)
                go_simp
                obtain ⟨z23, hz23⟩ : ∃ z, z = z22.alloc (.cells #[.string t, .int .i64 y, .string ⟨#[]⟩] 65) := ⟨_, rfl⟩
                rw [← hz23]
                have bz23 : Below z22.heap.size z22 z23 := by rw [hz23]; exact (Below.refl _ _).alloc (Nat.le_refl _) _
                have sz23 : z23.heap.size = z22.heap.size + 1 := by rw [hz23]; simp
                have kz23 : z23.heap[z22.heap.size]? = some (.cells #[.string t, .int .i64 y, .string ⟨#[]⟩] 65 (0, 0)) := by rw [hz23]; exact heap_new _ _
                have BE : Hid (w.heap.size < z22.heap.size) := Lib.hid (Nat.lt_trans TK.out.sb0 TK.out.sbl)
                replace KA := tkb bz23 LA KA
                replace LA := tlz LA bz23.size
                replace KI := tkb bz23 LI KI
                replace LI := tlz LI bz23.size
                replace TK := Lib.hid (TK.out.below bz23)
                have KE := Lib.hid kz23
                have LE : Hid (z22.heap.size < z23.heap.size) := Lib.hid (by omega)
                clear bz23 sz23 kz23 hz23
                refine hK.out _ _ trivial (fun hHeld => ?_)
                clear hK K
                try simp only [getElem_toArray, getElem_cons_zero, getElem_cons_succ, Act.put, setIfInBounds_toArray, set_cons_zero, set_cons_succ]
                obtain ⟨zz, rfl⟩ : ∃ z, z = z23 := ⟨_, rfl⟩
            rotate_left 2
            focus
              go_simp
              go_at_call 56
              refine (pick_any (Short 64) (zD.heap.size) 2 2 (by omega) (by omega) B blk z15 (by have := TK.out.lb; have := BA.out; omega) LA.out (texts_of_row KA.out 64 (by decide) _ rfl) TK.out.cu).mono ?_
              rintro e z24 ⟨_, ⟨t, rfl, ht⟩, rfl, cu, gr⟩
              replace KA := tkg gr LA KA (by simp; have := TK.out.lb; have := BA.out; omega)
              replace LA := tlz LA gr.size
              replace TK := Lib.hid (TK.out.turn gr cu)
              clear gr cu
              go_wp2_with fail
              refine hK.out _ _ trivial (fun hHeld => ?_)
              clear hK K
              try simp only [getElem_toArray, getElem_cons_zero, getElem_cons_succ, Act.put, setIfInBounds_toArray, set_cons_zero, set_cons_succ]
              refine rd2 1 6 (fun K hK => ?_) (fun K hK => ?_)
              focus
                have f1 := TK.out.cells.2
                go_simp
                clear f1
                refine hK.out _ _ trivial (fun hHeld => ?_)
                clear hK K
                refine rd1 6 (fun K hK => ?_)
                go_simp
                obtain ⟨z25, hz25⟩ : ∃ z, z = z24.alloc (.cells #[.int .i64 0, .int .i64 1, .int .i64 1000000000, .int .i64 1000000001] 3) := ⟨_, rfl⟩
                rw [← hz25]
                have bz25 : Below z24.heap.size z24 z25 := by rw [hz25]; exact (Below.refl _ _).alloc (Nat.le_refl _) _
                have sz25 : z25.heap.size = z24.heap.size + 1 := by rw [hz25]; simp
                have kz25 : z25.heap[z24.heap.size]? = some (.cells #[.int .i64 0, .int .i64 1, .int .i64 1000000000, .int .i64 1000000001] 3 (0, 0)) := by rw [hz25]; exact heap_new _ _
                have BI : Hid (w.heap.size < z24.heap.size) := Lib.hid (Nat.lt_trans TK.out.sb0 TK.out.sbl)
                replace KA := tkb bz25 LA KA
                replace LA := tlz LA bz25.size
                replace TK := Lib.hid (TK.out.below bz25)
                have KI := Lib.hid kz25
                have LI : Hid (z24.heap.size < z25.heap.size) := Lib.hid (by omega)
                clear bz25 sz25 kz25 hz25
                refine hK.out _ _ trivial (fun hHeld => ?_)
                clear hK K
                refine rd1 7 (fun K hK => ?_)
                go_simp
                go_at_call 26
                refine (pickInt_any I64 (z24.heap.size) 4 4 (by omega) (by omega) B blk z25 (by have := TK.out.lb; have := BI.out; omega) (ints_of_row KI.out (by decide) _ rfl) TK.out.cu).mono ?_
                rintro e z26 ⟨y, hy, rfl, cu, gr⟩
                replace KA := tkg gr LA KA (by simp; have := TK.out.lb; have := BA.out; omega)
                replace LA := tlz LA gr.size
                replace KI := tkg gr LI KI (by simp; have := TK.out.lb; have := BI.out; omega)
                replace LI := tlz LI gr.size
                replace TK := Lib.hid (TK.out.turn gr cu)
                clear gr cu
                go_wp2_with fail
                obtain ⟨y', hy', hyb⟩ := hy
                obtain rfl : y = y' := by simpa using hy'
                clear hy'
                obtain ⟨x, hxe⟩ : ∃ x : Tk, x = ⟨t, y, ⟨#[]⟩⟩ := ⟨_, rfl⟩
                have hx : x.c.size ≤ 64 ∧ x.r.size ≤ 64 ∧ -9223372036854775808 ≤ x.q ∧ x.q ≤ 9223372036854775807 := by rw [hxe]; exact ⟨ht, by show (⟨#[]⟩ : ByteArray).size ≤ 64; decide, hyb⟩
                refine hK.out _ _ trivial (fun hHeld => ?_)
                clear hK K
                refine tk0 8 ?_
                refine rd1 9 (fun K hK => ?_)
                go_simp
                obtain ⟨z27, hz27⟩ : ∃ z, z = z26.alloc (.cells #[.string t, .int .i64 y, .string ⟨#[]⟩] 65) := ⟨_, rfl⟩
                rw [← hz27]
                have bz27 : Below z26.heap.size z26 z27 := by rw [hz27]; exact (Below.refl _ _).alloc (Nat.le_refl _) _
                have sz27 : z27.heap.size = z26.heap.size + 1 := by rw [hz27]; simp
                have kz27 : z27.heap[z26.heap.size]? = some (.cells #[.string t, .int .i64 y, .string ⟨#[]⟩] 65 (0, 0)) := by rw [hz27]; exact heap_new _ _
                have BE : Hid (w.heap.size < z26.heap.size) := Lib.hid (Nat.lt_trans TK.out.sb0 TK.out.sbl)
                replace KA := tkb bz27 LA KA
                replace LA := tlz LA bz27.size
                replace KI := tkb bz27 LI KI
                replace LI := tlz LI bz27.size
                replace TK := Lib.hid (TK.out.below bz27)
                have KE := Lib.hid kz27
                have LE : Hid (z26.heap.size < z27.heap.size) := Lib.hid (by omega)
                clear bz27 sz27 kz27 hz27
                refine hK.out _ _ trivial (fun hHeld => ?_)
                clear hK K
                try simp only [getElem_toArray, getElem_cons_zero, getElem_cons_succ, Act.put, setIfInBounds_toArray, set_cons_zero, set_cons_succ]
                obtain ⟨zz, rfl⟩ : ∃ z, z = z27 := ⟨_, rfl⟩
              rotate_left 1
              focus
                go_simp
                obtain ⟨z28, hz28⟩ : ∃ z, z = z24.alloc (.cells #[.int .i64 0, .int .i64 1, .int .i64 1000000000, .int .i64 1000000001] 3) := ⟨_, rfl⟩
                rw [← hz28]
                have bz28 : Below z24.heap.size z24 z28 := by rw [hz28]; exact (Below.refl _ _).alloc (Nat.le_refl _) _
                have sz28 : z28.heap.size = z24.heap.size + 1 := by rw [hz28]; simp
                have kz28 : z28.heap[z24.heap.size]? = some (.cells #[.int .i64 0, .int .i64 1, .int .i64 1000000000, .int .i64 1000000001] 3 (0, 0)) := by rw [hz28]; exact heap_new _ _
                have BI : Hid (w.heap.size < z24.heap.size) := Lib.hid (Nat.lt_trans TK.out.sb0 TK.out.sbl)
                replace KA := tkb bz28 LA KA
                replace LA := tlz LA bz28.size
                replace TK := Lib.hid (TK.out.below bz28)
                have KI := Lib.hid kz28
                have LI : Hid (z24.heap.size < z28.heap.size) := Lib.hid (by omega)
                clear bz28 sz28 kz28 hz28
                refine hK.out _ _ trivial (fun hHeld => ?_)
                clear hK K
                try simp only [getElem_toArray, getElem_cons_zero, getElem_cons_succ, Act.put, setIfInBounds_toArray, set_cons_zero, set_cons_succ]
                refine rd2 1 7 (fun K hK => ?_) (fun K hK => ?_)
                focus
                  have f1 := TK.out.cells.2
                  go_simp
                  clear f1
                  refine hK.out _ _ trivial (fun hHeld => ?_)
                  clear hK K
                  refine rd1 7 (fun K hK => ?_)
                  go_simp
                  go_at_call 26
                  refine (pickInt_any I64 (z24.heap.size) 4 4 (by omega) (by omega) B blk z28 (by have := TK.out.lb; have := BI.out; omega) (ints_of_row KI.out (by decide) _ rfl) TK.out.cu).mono ?_
                  rintro e z29 ⟨y, hy, rfl, cu, gr⟩
                  replace KA := tkg gr LA KA (by simp; have := TK.out.lb; have := BA.out; omega)
                  replace LA := tlz LA gr.size
                  replace KI := tkg gr LI KI (by simp; have := TK.out.lb; have := BI.out; omega)
                  replace LI := tlz LI gr.size
                  replace TK := Lib.hid (TK.out.turn gr cu)
                  clear gr cu
                  go_wp2_with fail
                  obtain ⟨y', hy', hyb⟩ := hy
                  obtain rfl : y = y' := by simpa using hy'
                  clear hy'
                  obtain ⟨x, hxe⟩ : ∃ x : Tk, x = ⟨t, y, ⟨#[]⟩⟩ := ⟨_, rfl⟩
                  have hx : x.c.size ≤ 64 ∧ x.r.size ≤ 64 ∧ -9223372036854775808 ≤ x.q ∧ x.q ≤ 9223372036854775807 := by rw [hxe]; exact ⟨ht, by show (⟨#[]⟩ : ByteArray).size ≤ 64; decide, hyb⟩
                  refine hK.out _ _ trivial (fun hHeld => ?_)
                  clear hK K
                  refine tk0 8 ?_
                  refine rd1 9 (fun K hK => ?_)
                  go_simp
                  obtain ⟨z30, hz30⟩ : ∃ z, z = z29.alloc (.cells #[.string t, .int .i64 y, .string ⟨#[]⟩] 65) := ⟨_, rfl⟩
                  rw [← hz30]
                  have bz30 : Below z29.heap.size z29 z30 := by rw [hz30]; exact (Below.refl _ _).alloc (Nat.le_refl _) _
                  have sz30 : z30.heap.size = z29.heap.size + 1 := by rw [hz30]; simp
                  have kz30 : z30.heap[z29.heap.size]? = some (.cells #[.string t, .int .i64 y, .string ⟨#[]⟩] 65 (0, 0)) := by rw [hz30]; exact heap_new _ _
                  have BE : Hid (w.heap.size < z29.heap.size) := Lib.hid (Nat.lt_trans TK.out.sb0 TK.out.sbl)
                  replace KA := tkb bz30 LA KA
                  replace LA := tlz LA bz30.size
                  replace KI := tkb bz30 LI KI
                  replace LI := tlz LI bz30.size
                  replace TK := Lib.hid (TK.out.below bz30)
                  have KE := Lib.hid kz30
                  have LE : Hid (z29.heap.size < z30.heap.size) := Lib.hid (by omega)
                  clear bz30 sz30 kz30 hz30
                  refine hK.out _ _ trivial (fun hHeld => ?_)
                  clear hK K
                  try simp only [getElem_toArray, getElem_cons_zero, getElem_cons_succ, Act.put, setIfInBounds_toArray, set_cons_zero, set_cons_succ]
                  obtain ⟨zz, rfl⟩ : ∃ z, z = z30 := ⟨_, rfl⟩
                rotate_left 1
                focus
                  go_simp
                  go_at_call 26
                  refine (pickInt_any I64 (z24.heap.size) 4 4 (by omega) (by omega) B blk z28 (by have := TK.out.lb; have := BI.out; omega) (ints_of_row KI.out (by decide) _ rfl) TK.out.cu).mono ?_
                  rintro e z31 ⟨y, hy, rfl, cu, gr⟩
                  replace KA := tkg gr LA KA (by simp; have := TK.out.lb; have := BA.out; omega)
                  replace LA := tlz LA gr.size
                  replace KI := tkg gr LI KI (by simp; have := TK.out.lb; have := BI.out; omega)
                  replace LI := tlz LI gr.size
                  replace TK := Lib.hid (TK.out.turn gr cu)
                  clear gr cu
                  go_wp2_with fail
                  obtain ⟨y', hy', hyb⟩ := hy
                  obtain rfl : y = y' := by simpa using hy'
                  clear hy'
                  obtain ⟨x, hxe⟩ : ∃ x : Tk, x = ⟨t, y, ⟨#[]⟩⟩ := ⟨_, rfl⟩
                  have hx : x.c.size ≤ 64 ∧ x.r.size ≤ 64 ∧ -9223372036854775808 ≤ x.q ∧ x.q ≤ 9223372036854775807 := by rw [hxe]; exact ⟨ht, by show (⟨#[]⟩ : ByteArray).size ≤ 64; decide, hyb⟩
                  refine hK.out _ _ trivial (fun hHeld => ?_)
                  clear hK K
                  refine tk0 8 ?_
                  refine rd2 1 9 (fun K hK => ?_) (fun K hK => ?_)
                  focus
                    have f1 := TK.out.cells.2
                    go_simp
                    clear f1
                    refine hK.out _ _ trivial (fun hHeld => ?_)
                    clear hK K
                    refine rd1 9 (fun K hK => ?_)
                    go_simp
                    obtain ⟨z32, hz32⟩ : ∃ z, z = z31.alloc (.cells #[.string t, .int .i64 y, .string ⟨#[]⟩] 65) := ⟨_, rfl⟩
                    rw [← hz32]
                    have bz32 : Below z31.heap.size z31 z32 := by rw [hz32]; exact (Below.refl _ _).alloc (Nat.le_refl _) _
                    have sz32 : z32.heap.size = z31.heap.size + 1 := by rw [hz32]; simp
                    have kz32 : z32.heap[z31.heap.size]? = some (.cells #[.string t, .int .i64 y, .string ⟨#[]⟩] 65 (0, 0)) := by rw [hz32]; exact heap_new _ _
                    have BE : Hid (w.heap.size < z31.heap.size) := Lib.hid (Nat.lt_trans TK.out.sb0 TK.out.sbl)
                    replace KA := tkb bz32 LA KA
                    replace LA := tlz LA bz32.size
                    replace KI := tkb bz32 LI KI
                    replace LI := tlz LI bz32.size
                    replace TK := Lib.hid (TK.out.below bz32)
                    have KE := Lib.hid kz32
                    have LE : Hid (z31.heap.size < z32.heap.size) := Lib.hid (by omega)
                    clear bz32 sz32 kz32 hz32
                    refine hK.out _ _ trivial (fun hHeld => ?_)
                    clear hK K
                    try simp only [getElem_toArray, getElem_cons_zero, getElem_cons_succ, Act.put, setIfInBounds_toArray, set_cons_zero, set_cons_succ]
                    obtain ⟨zz, rfl⟩ : ∃ z, z = z32 := ⟨_, rfl⟩
                  rotate_left 1
                  focus
                    go_simp
                    obtain ⟨z33, hz33⟩ : ∃ z, z = z31.alloc (.cells #[.string t, .int .i64 y, .string ⟨#[]⟩] 65) := ⟨_, rfl⟩
                    rw [← hz33]
                    have bz33 : Below z31.heap.size z31 z33 := by rw [hz33]; exact (Below.refl _ _).alloc (Nat.le_refl _) _
                    have sz33 : z33.heap.size = z31.heap.size + 1 := by rw [hz33]; simp
                    have kz33 : z33.heap[z31.heap.size]? = some (.cells #[.string t, .int .i64 y, .string ⟨#[]⟩] 65 (0, 0)) := by rw [hz33]; exact heap_new _ _
                    have BE : Hid (w.heap.size < z31.heap.size) := Lib.hid (Nat.lt_trans TK.out.sb0 TK.out.sbl)
                    replace KA := tkb bz33 LA KA
                    replace LA := tlz LA bz33.size
                    replace KI := tkb bz33 LI KI
                    replace LI := tlz LI bz33.size
                    replace TK := Lib.hid (TK.out.below bz33)
                    have KE := Lib.hid kz33
                    have LE : Hid (z31.heap.size < z33.heap.size) := Lib.hid (by omega)
                    clear bz33 sz33 kz33 hz33
                    refine hK.out _ _ trivial (fun hHeld => ?_)
                    clear hK K
                    try simp only [getElem_toArray, getElem_cons_zero, getElem_cons_succ, Act.put, setIfInBounds_toArray, set_cons_zero, set_cons_succ]
                    refine rd1 1 (fun K hK => ?_)
                    have f1 := TK.out.cells.2
                    go_simp
                    clear f1
                    refine hK.out _ _ trivial (fun hHeld => ?_)
                    clear hK K
                    try simp only [getElem_toArray, getElem_cons_zero, getElem_cons_succ, Act.put, setIfInBounds_toArray, set_cons_zero, set_cons_succ]
                    obtain ⟨zz, rfl⟩ : ∃ z, z = z33 := ⟨_, rfl⟩
            rotate_left 4
            focus
              go_simp
              obtain ⟨z34, hz34⟩ : ∃ z, z = z15.alloc (.cells #[.int .i64 0, .int .i64 1, .int .i64 1000000000, .int .i64 1000000001] 3) := ⟨_, rfl⟩
              rw [← hz34]
              have bz34 : Below z15.heap.size z15 z34 := by rw [hz34]; exact (Below.refl _ _).alloc (Nat.le_refl _) _
              have sz34 : z34.heap.size = z15.heap.size + 1 := by rw [hz34]; simp
              have kz34 : z34.heap[z15.heap.size]? = some (.cells #[.int .i64 0, .int .i64 1, .int .i64 1000000000, .int .i64 1000000001] 3 (0, 0)) := by rw [hz34]; exact heap_new _ _
              have BI : Hid (w.heap.size < z15.heap.size) := Lib.hid (Nat.lt_trans TK.out.sb0 TK.out.sbl)
              replace KA := tkb bz34 LA KA
              replace LA := tlz LA bz34.size
              replace TK := Lib.hid (TK.out.below bz34)
              have KI := Lib.hid kz34
              have LI : Hid (z15.heap.size < z34.heap.size) := Lib.hid (by omega)
              clear bz34 sz34 kz34 hz34
              refine hK.out _ _ trivial (fun hHeld => ?_)
              clear hK K
              try simp only [getElem_toArray, getElem_cons_zero, getElem_cons_succ, Act.put, setIfInBounds_toArray, set_cons_zero, set_cons_succ]
              refine rd2 1 4 (fun K hK => ?_) (fun K hK => ?_)
              focus
                have f1 := TK.out.cells.2
                go_simp
                clear f1
                refine hK.out _ _ trivial (fun hHeld => ?_)
                clear hK K
                refine rd1 4 (fun K hK => ?_)
                go_simp
                go_at_call 56
                refine (pick_any (Short 64) (zD.heap.size) 2 2 (by omega) (by omega) B blk z34 (by have := TK.out.lb; have := BA.out; omega) LA.out (texts_of_row KA.out 64 (by decide) _ rfl) TK.out.cu).mono ?_
                rintro e z35 ⟨_, ⟨t, rfl, ht⟩, rfl, cu, gr⟩
                replace KA := tkg gr LA KA (by simp; have := TK.out.lb; have := BA.out; omega)
                replace LA := tlz LA gr.size
                replace KI := tkg gr LI KI (by simp; have := TK.out.lb; have := BI.out; omega)
                replace LI := tlz LI gr.size
                replace TK := Lib.hid (TK.out.turn gr cu)
                clear gr cu
                go_wp2_with fail
                refine hK.out _ _ trivial (fun hHeld => ?_)
                clear hK K
                refine rd1 7 (fun K hK => ?_)
                go_simp
                go_at_call 26
                refine (pickInt_any I64 (z15.heap.size) 4 4 (by omega) (by omega) B blk z35 (by have := TK.out.lb; have := BI.out; omega) (ints_of_row KI.out (by decide) _ rfl) TK.out.cu).mono ?_
                rintro e z36 ⟨y, hy, rfl, cu, gr⟩
                replace KA := tkg gr LA KA (by simp; have := TK.out.lb; have := BA.out; omega)
                replace LA := tlz LA gr.size
                replace KI := tkg gr LI KI (by simp; have := TK.out.lb; have := BI.out; omega)
                replace LI := tlz LI gr.size
                replace TK := Lib.hid (TK.out.turn gr cu)
                clear gr cu
                go_wp2_with fail
                obtain ⟨y', hy', hyb⟩ := hy
                obtain rfl : y = y' := by simpa using hy'
                clear hy'
                obtain ⟨x, hxe⟩ : ∃ x : Tk, x = ⟨t, y, ⟨#[]⟩⟩ := ⟨_, rfl⟩
                have hx : x.c.size ≤ 64 ∧ x.r.size ≤ 64 ∧ -9223372036854775808 ≤ x.q ∧ x.q ≤ 9223372036854775807 := by rw [hxe]; exact ⟨ht, by show (⟨#[]⟩ : ByteArray).size ≤ 64; decide, hyb⟩
                refine hK.out _ _ trivial (fun hHeld => ?_)
                clear hK K
                refine tk0 8 ?_
                refine rd1 9 (fun K hK => ?_)
                go_simp
                obtain ⟨z37, hz37⟩ : ∃ z, z = z36.alloc (.cells #[.string t, .int .i64 y, .string ⟨#[]⟩] 65) := ⟨_, rfl⟩
                rw [← hz37]
                have bz37 : Below z36.heap.size z36 z37 := by rw [hz37]; exact (Below.refl _ _).alloc (Nat.le_refl _) _
                have sz37 : z37.heap.size = z36.heap.size + 1 := by rw [hz37]; simp
                have kz37 : z37.heap[z36.heap.size]? = some (.cells #[.string t, .int .i64 y, .string ⟨#[]⟩] 65 (0, 0)) := by rw [hz37]; exact heap_new _ _
                have BE : Hid (w.heap.size < z36.heap.size) := Lib.hid (Nat.lt_trans TK.out.sb0 TK.out.sbl)
                replace KA := tkb bz37 LA KA
                replace LA := tlz LA bz37.size
                replace KI := tkb bz37 LI KI
                replace LI := tlz LI bz37.size
                replace TK := Lib.hid (TK.out.below bz37)
                have KE := Lib.hid kz37
                have LE : Hid (z36.heap.size < z37.heap.size) := Lib.hid (by omega)
                clear bz37 sz37 kz37 hz37
                refine hK.out _ _ trivial (fun hHeld => ?_)
                clear hK K
                try simp only [getElem_toArray, getElem_cons_zero, getElem_cons_succ, Act.put, setIfInBounds_toArray, set_cons_zero, set_cons_succ]
                obtain ⟨zz, rfl⟩ : ∃ z, z = z37 := ⟨_, rfl⟩
              rotate_left 1
              focus
                go_simp
                go_at_call 56
                refine (pick_any (Short 64) (zD.heap.size) 2 2 (by omega) (by omega) B blk z34 (by have := TK.out.lb; have := BA.out; omega) LA.out (texts_of_row KA.out 64 (by decide) _ rfl) TK.out.cu).mono ?_
                rintro e z38 ⟨_, ⟨t, rfl, ht⟩, rfl, cu, gr⟩
                replace KA := tkg gr LA KA (by simp; have := TK.out.lb; have := BA.out; omega)
                replace LA := tlz LA gr.size
                replace KI := tkg gr LI KI (by simp; have := TK.out.lb; have := BI.out; omega)
                replace LI := tlz LI gr.size
                replace TK := Lib.hid (TK.out.turn gr cu)
                clear gr cu
                go_wp2_with fail
                refine hK.out _ _ trivial (fun hHeld => ?_)
                clear hK K
                try simp only [getElem_toArray, getElem_cons_zero, getElem_cons_succ, Act.put, setIfInBounds_toArray, set_cons_zero, set_cons_succ]
                refine rd2 1 7 (fun K hK => ?_) (fun K hK => ?_)
                focus
                  have f1 := TK.out.cells.2
                  go_simp
                  clear f1
                  refine hK.out _ _ trivial (fun hHeld => ?_)
                  clear hK K
                  refine rd1 7 (fun K hK => ?_)
                  go_simp
                  go_at_call 26
                  refine (pickInt_any I64 (z15.heap.size) 4 4 (by omega) (by omega) B blk z38 (by have := TK.out.lb; have := BI.out; omega) (ints_of_row KI.out (by decide) _ rfl) TK.out.cu).mono ?_
                  rintro e z39 ⟨y, hy, rfl, cu, gr⟩
                  replace KA := tkg gr LA KA (by simp; have := TK.out.lb; have := BA.out; omega)
                  replace LA := tlz LA gr.size
                  replace KI := tkg gr LI KI (by simp; have := TK.out.lb; have := BI.out; omega)
                  replace LI := tlz LI gr.size
                  replace TK := Lib.hid (TK.out.turn gr cu)
                  clear gr cu
                  go_wp2_with fail
                  obtain ⟨y', hy', hyb⟩ := hy
                  obtain rfl : y = y' := by simpa using hy'
                  clear hy'
                  obtain ⟨x, hxe⟩ : ∃ x : Tk, x = ⟨t, y, ⟨#[]⟩⟩ := ⟨_, rfl⟩
                  have hx : x.c.size ≤ 64 ∧ x.r.size ≤ 64 ∧ -9223372036854775808 ≤ x.q ∧ x.q ≤ 9223372036854775807 := by rw [hxe]; exact ⟨ht, by show (⟨#[]⟩ : ByteArray).size ≤ 64; decide, hyb⟩
                  refine hK.out _ _ trivial (fun hHeld => ?_)
                  clear hK K
                  refine tk0 8 ?_
                  refine rd1 9 (fun K hK => ?_)
                  go_simp
                  obtain ⟨z40, hz40⟩ : ∃ z, z = z39.alloc (.cells #[.string t, .int .i64 y, .string ⟨#[]⟩] 65) := ⟨_, rfl⟩
                  rw [← hz40]
                  have bz40 : Below z39.heap.size z39 z40 := by rw [hz40]; exact (Below.refl _ _).alloc (Nat.le_refl _) _
                  have sz40 : z40.heap.size = z39.heap.size + 1 := by rw [hz40]; simp
                  have kz40 : z40.heap[z39.heap.size]? = some (.cells #[.string t, .int .i64 y, .string ⟨#[]⟩] 65 (0, 0)) := by rw [hz40]; exact heap_new _ _
                  have BE : Hid (w.heap.size < z39.heap.size) := Lib.hid (Nat.lt_trans TK.out.sb0 TK.out.sbl)
                  replace KA := tkb bz40 LA KA
                  replace LA := tlz LA bz40.size
                  replace KI := tkb bz40 LI KI
                  replace LI := tlz LI bz40.size
                  replace TK := Lib.hid (TK.out.below bz40)
                  have KE := Lib.hid kz40
                  have LE : Hid (z39.heap.size < z40.heap.size) := Lib.hid (by omega)
                  clear bz40 sz40 kz40 hz40
                  refine hK.out _ _ trivial (fun hHeld => ?_)
                  clear hK K
                  try simp only [getElem_toArray, getElem_cons_zero, getElem_cons_succ, Act.put, setIfInBounds_toArray, set_cons_zero, set_cons_succ]
                  obtain ⟨zz, rfl⟩ : ∃ z, z = z40 := ⟨_, rfl⟩
                rotate_left 1
                focus
                  go_simp
                  go_at_call 26
                  refine (pickInt_any I64 (z15.heap.size) 4 4 (by omega) (by omega) B blk z38 (by have := TK.out.lb; have := BI.out; omega) (ints_of_row KI.out (by decide) _ rfl) TK.out.cu).mono ?_
                  rintro e z41 ⟨y, hy, rfl, cu, gr⟩
                  replace KA := tkg gr LA KA (by simp; have := TK.out.lb; have := BA.out; omega)
                  replace LA := tlz LA gr.size
                  replace KI := tkg gr LI KI (by simp; have := TK.out.lb; have := BI.out; omega)
                  replace LI := tlz LI gr.size
                  replace TK := Lib.hid (TK.out.turn gr cu)
                  clear gr cu
                  go_wp2_with fail
                  obtain ⟨y', hy', hyb⟩ := hy
                  obtain rfl : y = y' := by simpa using hy'
                  clear hy'
                  obtain ⟨x, hxe⟩ : ∃ x : Tk, x = ⟨t, y, ⟨#[]⟩⟩ := ⟨_, rfl⟩
                  have hx : x.c.size ≤ 64 ∧ x.r.size ≤ 64 ∧ -9223372036854775808 ≤ x.q ∧ x.q ≤ 9223372036854775807 := by rw [hxe]; exact ⟨ht, by show (⟨#[]⟩ : ByteArray).size ≤ 64; decide, hyb⟩
                  refine hK.out _ _ trivial (fun hHeld => ?_)
                  clear hK K
                  refine tk0 8 ?_
                  refine rd2 1 9 (fun K hK => ?_) (fun K hK => ?_)
                  focus
                    have f1 := TK.out.cells.2
                    go_simp
                    clear f1
                    refine hK.out _ _ trivial (fun hHeld => ?_)
                    clear hK K
                    refine rd1 9 (fun K hK => ?_)
                    go_simp
                    obtain ⟨z42, hz42⟩ : ∃ z, z = z41.alloc (.cells #[.string t, .int .i64 y, .string ⟨#[]⟩] 65) := ⟨_, rfl⟩
                    rw [← hz42]
                    have bz42 : Below z41.heap.size z41 z42 := by rw [hz42]; exact (Below.refl _ _).alloc (Nat.le_refl _) _
                    have sz42 : z42.heap.size = z41.heap.size + 1 := by rw [hz42]; simp
                    have kz42 : z42.heap[z41.heap.size]? = some (.cells #[.string t, .int .i64 y, .string ⟨#[]⟩] 65 (0, 0)) := by rw [hz42]; exact heap_new _ _
                    have BE : Hid (w.heap.size < z41.heap.size) := Lib.hid (Nat.lt_trans TK.out.sb0 TK.out.sbl)
                    replace KA := tkb bz42 LA KA
                    replace LA := tlz LA bz42.size
                    replace KI := tkb bz42 LI KI
                    replace LI := tlz LI bz42.size
                    replace TK := Lib.hid (TK.out.below bz42)
                    have KE := Lib.hid kz42
                    have LE : Hid (z41.heap.size < z42.heap.size) := Lib.hid (by omega)
                    clear bz42 sz42 kz42 hz42
                    refine hK.out _ _ trivial (fun hHeld => ?_)
                    clear hK K
                    try simp only [getElem_toArray, getElem_cons_zero, getElem_cons_succ, Act.put, setIfInBounds_toArray, set_cons_zero, set_cons_succ]
                    obtain ⟨zz, rfl⟩ : ∃ z, z = z42 := ⟨_, rfl⟩
                  rotate_left 1
                  focus
                    go_simp
                    obtain ⟨z43, hz43⟩ : ∃ z, z = z41.alloc (.cells #[.string t, .int .i64 y, .string ⟨#[]⟩] 65) := ⟨_, rfl⟩
                    rw [← hz43]
                    have bz43 : Below z41.heap.size z41 z43 := by rw [hz43]; exact (Below.refl _ _).alloc (Nat.le_refl _) _
                    have sz43 : z43.heap.size = z41.heap.size + 1 := by rw [hz43]; simp
                    have kz43 : z43.heap[z41.heap.size]? = some (.cells #[.string t, .int .i64 y, .string ⟨#[]⟩] 65 (0, 0)) := by rw [hz43]; exact heap_new _ _
                    have BE : Hid (w.heap.size < z41.heap.size) := Lib.hid (Nat.lt_trans TK.out.sb0 TK.out.sbl)
                    replace KA := tkb bz43 LA KA
                    replace LA := tlz LA bz43.size
                    replace KI := tkb bz43 LI KI
                    replace LI := tlz LI bz43.size
                    replace TK := Lib.hid (TK.out.below bz43)
                    have KE := Lib.hid kz43
                    have LE : Hid (z41.heap.size < z43.heap.size) := Lib.hid (by omega)
                    clear bz43 sz43 kz43 hz43
                    refine hK.out _ _ trivial (fun hHeld => ?_)
                    clear hK K
                    try simp only [getElem_toArray, getElem_cons_zero, getElem_cons_succ, Act.put, setIfInBounds_toArray, set_cons_zero, set_cons_succ]
                    refine rd1 1 (fun K hK => ?_)
                    have f1 := TK.out.cells.2
                    go_simp
                    clear f1
                    refine hK.out _ _ trivial (fun hHeld => ?_)
                    clear hK K
                    try simp only [getElem_toArray, getElem_cons_zero, getElem_cons_succ, Act.put, setIfInBounds_toArray, set_cons_zero, set_cons_succ]
                    obtain ⟨zz, rfl⟩ : ∃ z, z = z43 := ⟨_, rfl⟩
          rotate_left 10
          focus
            go_simp
            obtain ⟨z44, hz44⟩ : ∃ z, z = zD.alloc (.cells #[.int .i64 0, .int .i64 1, .int .i64 1000000000, .int .i64 1000000001] 3) := ⟨_, rfl⟩
            rw [← hz44]
            have bz44 : Below zD.heap.size zD z44 := by rw [hz44]; exact (Below.refl _ _).alloc (Nat.le_refl _) _
            have sz44 : z44.heap.size = zD.heap.size + 1 := by rw [hz44]; simp
            have kz44 : z44.heap[zD.heap.size]? = some (.cells #[.int .i64 0, .int .i64 1, .int .i64 1000000000, .int .i64 1000000001] 3 (0, 0)) := by rw [hz44]; exact heap_new _ _
            have BI : Hid (w.heap.size < zD.heap.size) := Lib.hid (Nat.lt_trans TK.out.sb0 TK.out.sbl)
            replace TK := Lib.hid (TK.out.below bz44)
            have KI := Lib.hid kz44
            have LI : Hid (zD.heap.size < z44.heap.size) := Lib.hid (by omega)
            clear bz44 sz44 kz44 hz44
            refine hK.out _ _ trivial (fun hHeld => ?_)
            clear hK K
            try simp only [getElem_toArray, getElem_cons_zero, getElem_cons_succ, Act.put, setIfInBounds_toArray, set_cons_zero, set_cons_succ]
            refine rd2 1 3 (fun K hK => ?_) (fun K hK => ?_)
            focus
              have f1 := TK.out.cells.2
              go_simp
              clear f1
              refine hK.out _ _ trivial (fun hHeld => ?_)
              clear hK K
              refine rd1 3 (fun K hK => ?_)
              go_simp
              obtain ⟨z45, hz45⟩ : ∃ z, z = z44.alloc (.cells #[.string ⟨#[]⟩, .string ⟨#[122, 101, 100]⟩] 9) := ⟨_, rfl⟩
              rw [← hz45]
              have bz45 : Below z44.heap.size z44 z45 := by rw [hz45]; exact (Below.refl _ _).alloc (Nat.le_refl _) _
              have sz45 : z45.heap.size = z44.heap.size + 1 := by rw [hz45]; simp
              have kz45 : z45.heap[z44.heap.size]? = some (.cells #[.string ⟨#[]⟩, .string ⟨#[122, 101, 100]⟩] 9 (0, 0)) := by rw [hz45]; exact heap_new _ _
              have BA : Hid (w.heap.size < z44.heap.size) := Lib.hid (Nat.lt_trans TK.out.sb0 TK.out.sbl)
              replace KI := tkb bz45 LI KI
              replace LI := tlz LI bz45.size
              replace TK := Lib.hid (TK.out.below bz45)
              have KA := Lib.hid kz45
              have LA : Hid (z44.heap.size < z45.heap.size) := Lib.hid (by omega)
              clear bz45 sz45 kz45 hz45
              refine hK.out _ _ trivial (fun hHeld => ?_)
              clear hK K
              refine rd1 4 (fun K hK => ?_)
              go_simp
              go_at_call 56
              refine (pick_any (Short 64) (z44.heap.size) 2 2 (by omega) (by omega) B blk z45 (by have := TK.out.lb; have := BA.out; omega) LA.out (texts_of_row KA.out 64 (by decide) _ rfl) TK.out.cu).mono ?_
              rintro e z46 ⟨_, ⟨t, rfl, ht⟩, rfl, cu, gr⟩
              replace KI := tkg gr LI KI (by simp; have := TK.out.lb; have := BI.out; omega)
              replace LI := tlz LI gr.size
              replace KA := tkg gr LA KA (by simp; have := TK.out.lb; have := BA.out; omega)
              replace LA := tlz LA gr.size
              replace TK := Lib.hid (TK.out.turn gr cu)
              clear gr cu
              go_wp2_with fail
              refine hK.out _ _ trivial (fun hHeld => ?_)
              clear hK K
              refine rd1 7 (fun K hK => ?_)
              go_simp
              go_at_call 26
              refine (pickInt_any I64 (zD.heap.size) 4 4 (by omega) (by omega) B blk z46 (by have := TK.out.lb; have := BI.out; omega) (ints_of_row KI.out (by decide) _ rfl) TK.out.cu).mono ?_
              rintro e z47 ⟨y, hy, rfl, cu, gr⟩
              replace KI := tkg gr LI KI (by simp; have := TK.out.lb; have := BI.out; omega)
              replace LI := tlz LI gr.size
              replace KA := tkg gr LA KA (by simp; have := TK.out.lb; have := BA.out; omega)
              replace LA := tlz LA gr.size
              replace TK := Lib.hid (TK.out.turn gr cu)
              clear gr cu
              go_wp2_with fail
              obtain ⟨y', hy', hyb⟩ := hy
              obtain rfl : y = y' := by simpa using hy'
              clear hy'
              obtain ⟨x, hxe⟩ : ∃ x : Tk, x = ⟨t, y, ⟨#[]⟩⟩ := ⟨_, rfl⟩
              have hx : x.c.size ≤ 64 ∧ x.r.size ≤ 64 ∧ -9223372036854775808 ≤ x.q ∧ x.q ≤ 9223372036854775807 := by rw [hxe]; exact ⟨ht, by show (⟨#[]⟩ : ByteArray).size ≤ 64; decide, hyb⟩
              refine hK.out _ _ trivial (fun hHeld => ?_)
              clear hK K
              refine tk0 8 ?_
              refine rd1 9 (fun K hK => ?_)
              go_simp
              obtain ⟨z48, hz48⟩ : ∃ z, z = z47.alloc (.cells #[.string t, .int .i64 y, .string ⟨#[]⟩] 65) := ⟨_, rfl⟩
              rw [← hz48]
              have bz48 : Below z47.heap.size z47 z48 := by rw [hz48]; exact (Below.refl _ _).alloc (Nat.le_refl _) _
              have sz48 : z48.heap.size = z47.heap.size + 1 := by rw [hz48]; simp
              have kz48 : z48.heap[z47.heap.size]? = some (.cells #[.string t, .int .i64 y, .string ⟨#[]⟩] 65 (0, 0)) := by rw [hz48]; exact heap_new _ _
              have BE : Hid (w.heap.size < z47.heap.size) := Lib.hid (Nat.lt_trans TK.out.sb0 TK.out.sbl)
              replace KI := tkb bz48 LI KI
              replace LI := tlz LI bz48.size
              replace KA := tkb bz48 LA KA
              replace LA := tlz LA bz48.size
              replace TK := Lib.hid (TK.out.below bz48)
              have KE := Lib.hid kz48
              have LE : Hid (z47.heap.size < z48.heap.size) := Lib.hid (by omega)
              clear bz48 sz48 kz48 hz48
              refine hK.out _ _ trivial (fun hHeld => ?_)
              clear hK K
              try simp only [getElem_toArray, getElem_cons_zero, getElem_cons_succ, Act.put, setIfInBounds_toArray, set_cons_zero, set_cons_succ]
              obtain ⟨zz, rfl⟩ : ∃ z, z = z48 := ⟨_, rfl⟩
            rotate_left 1
            focus
              go_simp
              obtain ⟨z49, hz49⟩ : ∃ z, z = z44.alloc (.cells #[.string ⟨#[]⟩, .string ⟨#[122, 101, 100]⟩] 9) := ⟨_, rfl⟩
              rw [← hz49]
              have bz49 : Below z44.heap.size z44 z49 := by rw [hz49]; exact (Below.refl _ _).alloc (Nat.le_refl _) _
              have sz49 : z49.heap.size = z44.heap.size + 1 := by rw [hz49]; simp
              have kz49 : z49.heap[z44.heap.size]? = some (.cells #[.string ⟨#[]⟩, .string ⟨#[122, 101, 100]⟩] 9 (0, 0)) := by rw [hz49]; exact heap_new _ _
              have BA : Hid (w.heap.size < z44.heap.size) := Lib.hid (Nat.lt_trans TK.out.sb0 TK.out.sbl)
              replace KI := tkb bz49 LI KI
              replace LI := tlz LI bz49.size
              replace TK := Lib.hid (TK.out.below bz49)
              have KA := Lib.hid kz49
              have LA : Hid (z44.heap.size < z49.heap.size) := Lib.hid (by omega)
              clear bz49 sz49 kz49 hz49
              refine hK.out _ _ trivial (fun hHeld => ?_)
              clear hK K
              try simp only [getElem_toArray, getElem_cons_zero, getElem_cons_succ, Act.put, setIfInBounds_toArray, set_cons_zero, set_cons_succ]
              refine rd2 1 4 (fun K hK => ?_) (fun K hK => ?_)
              focus
                have f1 := TK.out.cells.2
                go_simp
                clear f1
                refine hK.out _ _ trivial (fun hHeld => ?_)
                clear hK K
                refine rd1 4 (fun K hK => ?_)
                go_simp
                go_at_call 56
                refine (pick_any (Short 64) (z44.heap.size) 2 2 (by omega) (by omega) B blk z49 (by have := TK.out.lb; have := BA.out; omega) LA.out (texts_of_row KA.out 64 (by decide) _ rfl) TK.out.cu).mono ?_
                rintro e z50 ⟨_, ⟨t, rfl, ht⟩, rfl, cu, gr⟩
                replace KI := tkg gr LI KI (by simp; have := TK.out.lb; have := BI.out; omega)
                replace LI := tlz LI gr.size
                replace KA := tkg gr LA KA (by simp; have := TK.out.lb; have := BA.out; omega)
                replace LA := tlz LA gr.size
                replace TK := Lib.hid (TK.out.turn gr cu)
                clear gr cu
                go_wp2_with fail
                refine hK.out _ _ trivial (fun hHeld => ?_)
                clear hK K
                refine rd1 7 (fun K hK => ?_)
                go_simp
                go_at_call 26
                refine (pickInt_any I64 (zD.heap.size) 4 4 (by omega) (by omega) B blk z50 (by have := TK.out.lb; have := BI.out; omega) (ints_of_row KI.out (by decide) _ rfl) TK.out.cu).mono ?_
                rintro e z51 ⟨y, hy, rfl, cu, gr⟩
                replace KI := tkg gr LI KI (by simp; have := TK.out.lb; have := BI.out; omega)
                replace LI := tlz LI gr.size
                replace KA := tkg gr LA KA (by simp; have := TK.out.lb; have := BA.out; omega)
                replace LA := tlz LA gr.size
                replace TK := Lib.hid (TK.out.turn gr cu)
                clear gr cu
                go_wp2_with fail
                obtain ⟨y', hy', hyb⟩ := hy
                obtain rfl : y = y' := by simpa using hy'
                clear hy'
                obtain ⟨x, hxe⟩ : ∃ x : Tk, x = ⟨t, y, ⟨#[]⟩⟩ := ⟨_, rfl⟩
                have hx : x.c.size ≤ 64 ∧ x.r.size ≤ 64 ∧ -9223372036854775808 ≤ x.q ∧ x.q ≤ 9223372036854775807 := by rw [hxe]; exact ⟨ht, by show (⟨#[]⟩ : ByteArray).size ≤ 64; decide, hyb⟩
                refine hK.out _ _ trivial (fun hHeld => ?_)
                clear hK K
                refine tk0 8 ?_
                refine rd1 9 (fun K hK => ?_)
                go_simp
                obtain ⟨z52, hz52⟩ : ∃ z, z = z51.alloc (.cells #[.string t, .int .i64 y, .string ⟨#[]⟩] 65) := ⟨_, rfl⟩
                rw [← hz52]
                have bz52 : Below z51.heap.size z51 z52 := by rw [hz52]; exact (Below.refl _ _).alloc (Nat.le_refl _) _
                have sz52 : z52.heap.size = z51.heap.size + 1 := by rw [hz52]; simp
                have kz52 : z52.heap[z51.heap.size]? = some (.cells #[.string t, .int .i64 y, .string ⟨#[]⟩] 65 (0, 0)) := by rw [hz52]; exact heap_new _ _
                have BE : Hid (w.heap.size < z51.heap.size) := Lib.hid (Nat.lt_trans TK.out.sb0 TK.out.sbl)
                replace KI := tkb bz52 LI KI
                replace LI := tlz LI bz52.size
                replace KA := tkb bz52 LA KA
                replace LA := tlz LA bz52.size
                replace TK := Lib.hid (TK.out.below bz52)
                have KE := Lib.hid kz52
                have LE : Hid (z51.heap.size < z52.heap.size) := Lib.hid (by omega)
                clear bz52 sz52 kz52 hz52
                refine hK.out _ _ trivial (fun hHeld => ?_)
                clear hK K
                try simp only [getElem_toArray, getElem_cons_zero, getElem_cons_succ, Act.put, setIfInBounds_toArray, set_cons_zero, set_cons_succ]
                obtain ⟨zz, rfl⟩ : ∃ z, z = z52 := ⟨_, rfl⟩
              rotate_left 1
              focus
                go_simp
                go_at_call 56
                refine (pick_any (Short 64) (z44.heap.size) 2 2 (by omega) (by omega) B blk z49 (by have := TK.out.lb; have := BA.out; omega) LA.out (texts_of_row KA.out 64 (by decide) _ rfl) TK.out.cu).mono ?_
                rintro e z53 ⟨_, ⟨t, rfl, ht⟩, rfl, cu, gr⟩
                replace KI := tkg gr LI KI (by simp; have := TK.out.lb; have := BI.out; omega)
                replace LI := tlz LI gr.size
                replace KA := tkg gr LA KA (by simp; have := TK.out.lb; have := BA.out; omega)
                replace LA := tlz LA gr.size
                replace TK := Lib.hid (TK.out.turn gr cu)
                clear gr cu
                go_wp2_with fail
                refine hK.out _ _ trivial (fun hHeld => ?_)
                clear hK K
                try simp only [getElem_toArray, getElem_cons_zero, getElem_cons_succ, Act.put, setIfInBounds_toArray, set_cons_zero, set_cons_succ]
                refine rd2 1 7 (fun K hK => ?_) (fun K hK => ?_)
                focus
                  have f1 := TK.out.cells.2
                  go_simp
                  clear f1
                  refine hK.out _ _ trivial (fun hHeld => ?_)
                  clear hK K
                  refine rd1 7 (fun K hK => ?_)
                  go_simp
                  go_at_call 26
                  refine (pickInt_any I64 (zD.heap.size) 4 4 (by omega) (by omega) B blk z53 (by have := TK.out.lb; have := BI.out; omega) (ints_of_row KI.out (by decide) _ rfl) TK.out.cu).mono ?_
                  rintro e z54 ⟨y, hy, rfl, cu, gr⟩
                  replace KI := tkg gr LI KI (by simp; have := TK.out.lb; have := BI.out; omega)
                  replace LI := tlz LI gr.size
                  replace KA := tkg gr LA KA (by simp; have := TK.out.lb; have := BA.out; omega)
                  replace LA := tlz LA gr.size
                  replace TK := Lib.hid (TK.out.turn gr cu)
                  clear gr cu
                  go_wp2_with fail
                  obtain ⟨y', hy', hyb⟩ := hy
                  obtain rfl : y = y' := by simpa using hy'
                  clear hy'
                  obtain ⟨x, hxe⟩ : ∃ x : Tk, x = ⟨t, y, ⟨#[]⟩⟩ := ⟨_, rfl⟩
                  have hx : x.c.size ≤ 64 ∧ x.r.size ≤ 64 ∧ -9223372036854775808 ≤ x.q ∧ x.q ≤ 9223372036854775807 := by rw [hxe]; exact ⟨ht, by show (⟨#[]⟩ : ByteArray).size ≤ 64; decide, hyb⟩
                  refine hK.out _ _ trivial (fun hHeld => ?_)
                  clear hK K
                  refine tk0 8 ?_
                  refine rd1 9 (fun K hK => ?_)
                  go_simp
                  obtain ⟨z55, hz55⟩ : ∃ z, z = z54.alloc (.cells #[.string t, .int .i64 y, .string ⟨#[]⟩] 65) := ⟨_, rfl⟩
                  rw [← hz55]
                  have bz55 : Below z54.heap.size z54 z55 := by rw [hz55]; exact (Below.refl _ _).alloc (Nat.le_refl _) _
                  have sz55 : z55.heap.size = z54.heap.size + 1 := by rw [hz55]; simp
                  have kz55 : z55.heap[z54.heap.size]? = some (.cells #[.string t, .int .i64 y, .string ⟨#[]⟩] 65 (0, 0)) := by rw [hz55]; exact heap_new _ _
                  have BE : Hid (w.heap.size < z54.heap.size) := Lib.hid (Nat.lt_trans TK.out.sb0 TK.out.sbl)
                  replace KI := tkb bz55 LI KI
                  replace LI := tlz LI bz55.size
                  replace KA := tkb bz55 LA KA
                  replace LA := tlz LA bz55.size
                  replace TK := Lib.hid (TK.out.below bz55)
                  have KE := Lib.hid kz55
                  have LE : Hid (z54.heap.size < z55.heap.size) := Lib.hid (by omega)
                  clear bz55 sz55 kz55 hz55
                  refine hK.out _ _ trivial (fun hHeld => ?_)
                  clear hK K
                  try simp only [getElem_toArray, getElem_cons_zero, getElem_cons_succ, Act.put, setIfInBounds_toArray, set_cons_zero, set_cons_succ]
                  obtain ⟨zz, rfl⟩ : ∃ z, z = z55 := ⟨_, rfl⟩
                rotate_left 1
                focus
                  go_simp
                  go_at_call 26
                  refine (pickInt_any I64 (zD.heap.size) 4 4 (by omega) (by omega) B blk z53 (by have := TK.out.lb; have := BI.out; omega) (ints_of_row KI.out (by decide) _ rfl) TK.out.cu).mono ?_
                  rintro e z56 ⟨y, hy, rfl, cu, gr⟩
                  replace KI := tkg gr LI KI (by simp; have := TK.out.lb; have := BI.out; omega)
                  replace LI := tlz LI gr.size
                  replace KA := tkg gr LA KA (by simp; have := TK.out.lb; have := BA.out; omega)
                  replace LA := tlz LA gr.size
                  replace TK := Lib.hid (TK.out.turn gr cu)
                  clear gr cu
                  go_wp2_with fail
                  obtain ⟨y', hy', hyb⟩ := hy
                  obtain rfl : y = y' := by simpa using hy'
                  clear hy'
                  obtain ⟨x, hxe⟩ : ∃ x : Tk, x = ⟨t, y, ⟨#[]⟩⟩ := ⟨_, rfl⟩
                  have hx : x.c.size ≤ 64 ∧ x.r.size ≤ 64 ∧ -9223372036854775808 ≤ x.q ∧ x.q ≤ 9223372036854775807 := by rw [hxe]; exact ⟨ht, by show (⟨#[]⟩ : ByteArray).size ≤ 64; decide, hyb⟩
                  refine hK.out _ _ trivial (fun hHeld => ?_)
                  clear hK K
                  refine tk0 8 ?_
                  refine rd2 1 9 (fun K hK => ?_) (fun K hK => ?_)
                  focus
                    have f1 := TK.out.cells.2
                    go_simp
                    clear f1
                    refine hK.out _ _ trivial (fun hHeld => ?_)
                    clear hK K
                    refine rd1 9 (fun K hK => ?_)
                    go_simp
                    obtain ⟨z57, hz57⟩ : ∃ z, z = z56.alloc (.cells #[.string t, .int .i64 y, .string ⟨#[]⟩] 65) := ⟨_, rfl⟩
                    rw [← hz57]
                    have bz57 : Below z56.heap.size z56 z57 := by rw [hz57]; exact (Below.refl _ _).alloc (Nat.le_refl _) _
                    have sz57 : z57.heap.size = z56.heap.size + 1 := by rw [hz57]; simp
                    have kz57 : z57.heap[z56.heap.size]? = some (.cells #[.string t, .int .i64 y, .string ⟨#[]⟩] 65 (0, 0)) := by rw [hz57]; exact heap_new _ _
                    have BE : Hid (w.heap.size < z56.heap.size) := Lib.hid (Nat.lt_trans TK.out.sb0 TK.out.sbl)
                    replace KI := tkb bz57 LI KI
                    replace LI := tlz LI bz57.size
                    replace KA := tkb bz57 LA KA
                    replace LA := tlz LA bz57.size
                    replace TK := Lib.hid (TK.out.below bz57)
                    have KE := Lib.hid kz57
                    have LE : Hid (z56.heap.size < z57.heap.size) := Lib.hid (by omega)
                    clear bz57 sz57 kz57 hz57
                    refine hK.out _ _ trivial (fun hHeld => ?_)
                    clear hK K
                    try simp only [getElem_toArray, getElem_cons_zero, getElem_cons_succ, Act.put, setIfInBounds_toArray, set_cons_zero, set_cons_succ]
                    obtain ⟨zz, rfl⟩ : ∃ z, z = z57 := ⟨_, rfl⟩
                  rotate_left 1
                  focus
                    go_simp
                    obtain ⟨z58, hz58⟩ : ∃ z, z = z56.alloc (.cells #[.string t, .int .i64 y, .string ⟨#[]⟩] 65) := ⟨_, rfl⟩
                    rw [← hz58]
                    have bz58 : Below z56.heap.size z56 z58 := by rw [hz58]; exact (Below.refl _ _).alloc (Nat.le_refl _) _
                    have sz58 : z58.heap.size = z56.heap.size + 1 := by rw [hz58]; simp
                    have kz58 : z58.heap[z56.heap.size]? = some (.cells #[.string t, .int .i64 y, .string ⟨#[]⟩] 65 (0, 0)) := by rw [hz58]; exact heap_new _ _
                    have BE : Hid (w.heap.size < z56.heap.size) := Lib.hid (Nat.lt_trans TK.out.sb0 TK.out.sbl)
                    replace KI := tkb bz58 LI KI
                    replace LI := tlz LI bz58.size
                    replace KA := tkb bz58 LA KA
                    replace LA := tlz LA bz58.size
                    replace TK := Lib.hid (TK.out.below bz58)
                    have KE := Lib.hid kz58
                    have LE : Hid (z56.heap.size < z58.heap.size) := Lib.hid (by omega)
                    clear bz58 sz58 kz58 hz58
                    refine hK.out _ _ trivial (fun hHeld => ?_)
                    clear hK K
                    try simp only [getElem_toArray, getElem_cons_zero, getElem_cons_succ, Act.put, setIfInBounds_toArray, set_cons_zero, set_cons_succ]
                    refine rd1 1 (fun K hK => ?_)
                    have f1 := TK.out.cells.2
                    go_simp
                    clear f1
                    refine hK.out _ _ trivial (fun hHeld => ?_)
                    clear hK K
                    try simp only [getElem_toArray, getElem_cons_zero, getElem_cons_succ, Act.put, setIfInBounds_toArray, set_cons_zero, set_cons_succ]
                    obtain ⟨zz, rfl⟩ : ∃ z, z = z58 := ⟨_, rfl⟩
          all_goals (
            refine rd1 10 (fun K hK => ?_)
            obtain ⟨i0, p1, p2, p3, p4⟩ := info_parts infoTk
            have hl1 := hsm.2.1
            refine step_appN rfl (.tmp 36) (.tmp 44) 25 rfl 65 i0 _ 3 40 Tryz.underlying25 p1 p2 p3 p4 rfl (by decide) gt s.talks.length ct (w.heap.size + 1) _ TK.out.ot _ ⟨_, rfl, TK.out.nt⟩ (by simp [Act.eval]) _ (by simp [Act.eval]) zz.heap.size 1 (tkC x) (one_raw (cs := tkC x) (by have h := KE.out; first | exact h | (rw [hxe]; exact h)) LE.out) (by omega) (by simp [tkC]) (by simp [tkC, Value.oneCell']) (by unfold maxLen; omega) (by omega) (Nat.le_trans TK.out.sb0 (Nat.le_of_lt TK.out.sbl)) ?_
            intro g1 c1 z59 r1 e1 got1
            have PU := Lib.hid (TK.out.pushT (x := x) r1 e1 got1)
            clear r1 e1 got1 p1 p2 p3 p4 hl1
            refine hK.out _ _ trivial (fun hHeld => ?_)
            clear hK K
            refine tk0 11 ?_
            refine rd1 12 (fun K hK => ?_)
            have fs := cell_of_row z59 _ 1 _ _ _ PU.out.1
            have fz := frozen_of_row z59 _ 1 _ _ PU.out.1
            simp only [List.getElem?_toArray, List.getElem?_cons_zero, List.getElem?_cons_succ] at fs
            go_simp
            clear fs fz
            refine hK.out _ _ trivial (fun hHeld => ?_)
            clear hK K
            try simp only [getElem_toArray, getElem_cons_zero, getElem_cons_succ, Act.put, setIfInBounds_toArray, set_cons_zero, set_cons_succ]
            refine wpAnyH_done (by kernel_rfl) ?_ _
            clear hHeld
            go_wp2_with fail
            go_meet
            exact ⟨_, _, _, _, _, _, _, (hsm.pushT hx).mono (by omega) (by omega), Lib.hid PU.out.2⟩)
        · by_cases h3 : q = 3
          · subst h3
            have fs := TK.out.cells.1
            have fz := frozen_of_row w2 _ 0 _ _ TK.out.ks
            go_wp2_with fail
            clear fs fz
            have TK0 := Lib.hid TK.out.clearI
            have hs0 : Sm ⟨[], s.talks⟩ 0 4 := ⟨Nat.zero_le _, by have := hsm.2.1; show s.talks.length ≤ 4; omega, fun _ h => by simp at h, hsm.2.2.2⟩
            clear TK
            go_loopw [4] (fun i wr => ∃ (k : Nat) (s : St) (ai at_ : Option Addr) (gi ci gt ct : Nat), k ≤ 41 ∧ i = .int .i64 k ∧ Sm s k 4 ∧ Hid (Trk w wr B blk w1.heap.size s ai at_ gi ci gt ct)) (fun i _ => 42 - (intOf i).toNat)
            case atStart => exact ⟨0, _, _, _, _, _, _, _, by omega, rfl, hs0, TK0⟩
            case round =>
              obtain ⟨k, s, ai, at_, gi, ci, gt, ct, hk, rfl, hsm, TK⟩ := hrel
              clear TK0 hs0
              have hc := below_any 3 (by omega) B blk wr TK.out.cu
              go_wp2_with (go_at_call 55; refine hc.mono ?_; rintro e z1 ⟨y, ⟨hy0, hy1, _⟩, rfl, cu, gr⟩; refine Hid.out ?_)
              refine Lib.hid ?_
              have hy1 := hy1 (by omega)
              have hw39 : IntKind.i64.wrap (39 + y) = 39 + y := by rw [IntKind.wrap_i64]; omega
              replace TK := Lib.hid (TK.out.turn gr cu)
              clear gr cu hc
              by_cases hlt : (k : Int) < 39 + y
              · have hcv := conv_lit z1 [97 + (k : Int) / 26, 97 + (k : Int) % 26] (by intro x hx; simp at hx; omega) 2 2 rfl
                simp only [List.map_cons, List.map_nil] at hcv
                obtain ⟨u, hu⟩ : ∃ u, u = txt [97 + (k : Int) / 26, 97 + (k : Int) % 26] := ⟨_, rfl⟩
                have huz : u.size = 2 := by rw [hu, txt_size]; rfl
                rw [← hu] at hcv
                obtain ⟨Z, hZ⟩ : ∃ Z, Z = (z1.alloc (.cells #[.int .u8 (97 + (k : Int) / 26), .int .u8 (97 + (k : Int) % 26)] 5)).alloc (.cells #[.string (⟨#[107]⟩ ++ u), .string ⟨#[]⟩] 45) := ⟨_, rfl⟩
                have hbZ : Below z1.heap.size z1 Z := by rw [hZ]; exact ((Below.refl _ _).alloc (Nat.le_refl _) _).alloc (by simp) _
                have hZs : Z.heap.size = z1.heap.size + 2 := by rw [hZ]; simp
                have kE : Z.heap[z1.heap.size + 1]? = some (.cells #[.string (⟨#[107]⟩ ++ u), .string ⟨#[]⟩] 45 (0, 0)) := by rw [hZ]; simpa using heap_new (z1.alloc (.cells #[.int .u8 (97 + (k : Int) / 26), .int .u8 (97 + (k : Int) % 26)] 5)) (.cells #[.string (⟨#[107]⟩ ++ u), .string ⟨#[]⟩] 45)
                have TZ := TK.out.below hbZ
                obtain ⟨x, hxe⟩ : ∃ x : It, x = ⟨⟨#[107]⟩ ++ u, ⟨#[]⟩⟩ := ⟨_, rfl⟩
                have hx : x.k.size ≤ 64 ∧ x.v.size ≤ 64 := by
                  rw [hxe]
                  refine ⟨?_, by show (⟨#[]⟩ : ByteArray).size ≤ 64; decide⟩
                  show (⟨#[107]⟩ ++ u : ByteArray).size ≤ 64
                  rw [ByteArray.size_append, huz]
                  show 1 + 2 ≤ 64
                  omega
                obtain ⟨i0, p1, p2, p3, p4⟩ := info_parts infoIt
                have hl1 := hsm.1
                obtain ⟨g', c', N, hrun, r1, e1, got1⟩ := run_appN (P := Tryz.prog) Z 24 24 45 i0 _ 2 32 Tryz.underlying24 p1 p2 p3 p4 rfl (by decide) gi s.items.length ci (w.heap.size + 1) _ TZ.oi _ ⟨_, rfl, TZ.ni⟩ _ Z.heap.size 1 (itC x) (one_raw (cs := itC x) (by rw [hxe]; exact kE) (by omega)) (by omega) (by simp [itC]) (by simp [itC, Value.oneCell']) (by unfold maxLen; omega) (by omega) (Nat.le_trans TZ.sb0 (Nat.le_of_lt TZ.sbl))
                have PU := Lib.hid (TZ.pushI (x := x) r1 e1 got1)
                rw [hZ] at hrun
                have HR := Lib.hid hrun
                have fs := TK.out.cells.1
                have fz := frozen_of_row z1 _ 0 _ _ TK.out.ks
                have gs := cell_of_row N _ 0 _ _ _ PU.out.1
                have gz := frozen_of_row N _ 0 _ _ PU.out.1
                simp only [List.getElem?_toArray, List.getElem?_cons_zero, List.getElem?_cons_succ] at gs
                clear hrun r1 e1 got1 p1 p2 p3 p4 TZ kE hZs hbZ hZ hu hxe hl1
                go_wp2_with (at_builtin; refine wpList_app rfl _ _ _ rfl _ _ _ rfl rfl HR.out ?_)
                go_roundw
                case rel => exact ⟨k + 1, _, _, _, _, _, _, _, by omega, by go_num, hsm.pushI hx, Lib.hid PU.out.2⟩
                case measure => simp [intOf]; omega
              · go_wp2_with fail
                go_meet
                exact ⟨s, ai, at_, gi, ci, gt, ct, hsm.mono (by omega) (by omega), TK⟩
          · have e0 : (q == 0) = false := by simpa using h0
            have e1 : (q == 1) = false := by simpa using h1
            have e2 : (q == 2) = false := by simpa using h2
            have e3 : (q == 3) = false := by simpa using h3
            go_wp2_with fail
            go_meet
            exact ⟨s, ai, at_, gi, ci, gt, ct, hsm.mono (by omega) (by omega), TK⟩
  case rest =>
    obtain ⟨s, ai, at_, gi, ci, gt, ct, hsm, TK⟩ := hcut
    obtain ⟨z, rfl⟩ : ∃ z, z = wc := ⟨_, rfl⟩
    have f1 := TK.out.cells
    obtain ⟨f0, f1⟩ := f1
    have r0 := cell_of_row z _ 0 _ _ _ TK.out.kr
    have r1 := cell_of_row z _ 1 _ _ _ TK.out.kr
    have r2 := frozen_of_row z _ 0 _ _ TK.out.kr
    have r3 := frozen_of_row z _ 1 _ _ TK.out.kr
    simp only [List.getElem?_toArray, List.getElem?_cons_zero, List.getElem?_cons_succ] at r0 r1
    go_wp2_with fail
    clear f0 f1 r0 r1 r2 r3
    have k1 := heap_setCell_same _ w.heap.size 0 _ _ (.slice ai s.items.length ci) TK.out.kr
    have k2 := heap_setCell_same _ w.heap.size 1 _ _ (.slice at_ s.talks.length ct) k1
    have t := TK.out
    have g1 := grown_set z ⟨w.heap.size, 0, none⟩ (.slice ai s.items.length ci)
    have g2 := grown_set (z.setCell ⟨w.heap.size, 0, none⟩ (.slice ai s.items.length ci)) ⟨w.heap.size, 1, none⟩ (.slice at_ s.talks.length ct)
    have q1 := t.oi.2.2.2.1; have q2 := t.ot.2.2.2.1
    obtain ⟨j0, q1', q2', q3', q4'⟩ := info_parts infoSt
    refine bodyPost_ret (results_cell_row (P := Tryz.prog) rfl _ _ (w.heap.size) _ _ (0, 0) _ rfl k2 Tryz.underlying27 rfl (by rw [q1']; simp [q3'])) rfl ⟨_, s, rfl, ?_, hsm, ?_, ?_⟩
    · exact ⟨_, _, gi, ci, gt, ct, rfl, t.ne, ⟨ai, rfl, t.ni⟩, ⟨at_, rfl, t.nt⟩, ((t.oi.base (by omega)).grown g1 (by show gi ≠ w.heap.size; omega)).grown g2 (by show gi ≠ w.heap.size; omega), ((t.ot.base (by omega)).grown g1 (by show gt ≠ w.heap.size; omega)).grown g2 (by show gt ≠ w.heap.size; omega)⟩
    · exact cu_far (cu_far t.cu g1 (by show blk < w.heap.size; exact t.lb)) g2 (by show blk < w.heap.size; exact t.lb)
    · exact grown_far (grown_far t.gr g1 (Nat.le_refl _)) g2 (Nat.le_refl _)
end Go.Proofs.YtdpjdjkfedcojaaGreat
