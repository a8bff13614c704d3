/- The program's heap of codes: what its own methods answer. Condition: at most eight codes. -/
import Derived.Test.YtdpjdjkfedcojaaBaseA
import Derived.RegionTactic
import Derived.ChangeAlike
namespace Go.Proofs.Ytdpjdjkfedcojaa
open Go.RowKit
set_option linter.unusedVariables false
set_option linter.unusedSimpArgs false

theorem infoCd : (Try.prog.info? 3).map (fun i => (i.zero, i.size, i.bytes)) = some (some (.int .i64 0), 1, 8) := by kernel_rfl
section
variable {w : World} {base g cap : Nat} {E : List Int}
theorem hp_cell (h : Got w base 3 1 g E.length cap (E.map (Value.int .i64))) (k : Nat) (hk : k < E.length) : w.cell? ⟨g, k, none⟩ = some (.int .i64 E[k]) ∧ w.frozen? ⟨g, k, none⟩ = false := by
  obtain ⟨cur, h1, h2, h3⟩ := got_cells h (by omega)
  refine ⟨?_, frozen_of_row w g k cur 3 h1⟩
  rw [cell_of_row w g k cur 3 _ h1]
  have h4 : (E.map (Value.int .i64))[k]? = some (.int .i64 E[k]) := by rw [List.getElem?_map, List.getElem?_eq_getElem hk]; rfl
  rw [← h3, List.getElem?_take, if_pos (by omega), Array.getElem?_toList] at h4
  exact h4
theorem hp_set (h : Got w base 3 1 g E.length cap (E.map (Value.int .i64))) (k : Nat) (hk : k < E.length) (u : Int) :
    Got (w.setCell ⟨g, k, none⟩ (.int .i64 u)) base 3 1 g (E.set k u).length cap ((E.set k u).map (Value.int .i64)) := by
  have hc := h.2.1
  obtain ⟨cur, h1, h2, h3⟩ := got_put h (by omega) k [.int .i64 u] E.length hc (by simp; omega)
  have h3 : Got (w.setCell ⟨g, k, none⟩ (.int .i64 u)) base 3 1 g E.length cap ((cur.take k ++ [Value.int .i64 u] ++ cur.drop (k + 1)).take (E.length * 1)) := h3
  have e : cur.take k ++ [Value.int .i64 u] ++ cur.drop (k + 1) = cur.set k (.int .i64 u) := by
    rw [List.set_eq_take_append_cons_drop, if_pos (by omega)]; simp
  rw [e, List.take_set, h2, ← List.map_set] at h3
  rw [List.length_set]
  exact h3
end
/-- Two codes change places. -/
def swp (zs : List Int) (i j : Nat) : List Int := (zs.set i (zs.getD j 0)).set j (zs.getD i 0)
theorem swp_len (zs : List Int) (i j : Nat) : (swp zs i j).length = zs.length := by unfold swp; simp
/-- A heap of codes in its box: the box and the row are the call's own. -/
def Hp (w : World) (B h g cap : Nat) (zs : List Int) : Prop :=
  w.heap[h]? = some (.cells #[.slice (some ⟨g, 0, none⟩) zs.length cap] 67 (0, 0)) ∧ B ≤ h ∧ g ≠ h ∧ Got w B 3 1 g zs.length cap (zs.map (Value.int .i64))
theorem Hp.lt {w : World} {B h g cap : Nat} {zs : List Int} (hp : Hp w B h g cap zs) : h < w.heap.size := (Array.getElem?_eq_some_iff.1 hp.1).1
theorem Hp.later {w w' : World} {B h g cap : Nat} {zs : List Int} (hp : Hp w B h g cap zs) (hb : Below w.heap.size w w') : Hp w' B h g cap zs :=
  ⟨(hb.block _ hp.lt).trans hp.1, hp.2.1, hp.2.2.1, hp.2.2.2.later hb⟩
theorem codes_len (v : Option Addr) (n cap : Nat) (w : World) (hn : n ≤ 100) :
    Calls Try.prog 145 #[.slice v n cap] w fun e w' => e = .returned (.int .i64 n) ∧ w' = w := by
  go_enter Try.func145, Try.ntmps145
  go_wp2
  go_ret
  exact ⟨rfl, rfl⟩
set_option maxRecDepth 100000 in
set_option maxHeartbeats 4000000 in
theorem codes_less (zs : List Int) (B g cap i j : Nat) (w : World) (h : Got w B 3 1 g zs.length cap (zs.map (Value.int .i64))) (hi : i < zs.length) (hj : j < zs.length) (hl : zs.length ≤ 100) :
    Calls Try.prog 146 #[.slice (some ⟨g, 0, none⟩) zs.length cap, .int .i64 i, .int .i64 j] w fun e w' => e = .returned (.bool (decide (zs.getD j 0 < zs.getD i 0))) ∧ Below w.heap.size w w' := by
  have f0 := (hp_cell h i hi).1
  have f1 := (hp_cell h j hj).1
  obtain ⟨n, hn⟩ : ∃ n, n = zs.length := ⟨_, rfl⟩
  obtain ⟨x, hx⟩ : ∃ x, x = zs.getD i 0 := ⟨_, rfl⟩
  obtain ⟨y, hy⟩ : ∃ y, y = zs.getD j 0 := ⟨_, rfl⟩
  rw [show zs[i] = x by rw [hx]; simp [hi]] at f0
  rw [show zs[j] = y by rw [hy]; simp [hj]] at f1
  rw [← hx, ← hy]
  rw [← hn] at hi hj hl ⊢
  clear hn hx hy h
  go_enter Try.func146, Try.ntmps146
  go_wp2_with fail
  have F0 : w.drew.cell? ⟨g, i, none⟩ = some (.int .i64 x) := f0
  have F1 : w.drew.cell? ⟨g, j, none⟩ = some (.int .i64 y) := f1
  have bb : Below w.heap.size w w.drew := ⟨rfl, rfl, rfl, Nat.le_refl _, fun _ _ => rfl⟩
  go_region
  go_wp2_with fail
  go_ret
  exact ⟨rfl, bb⟩
set_option maxRecDepth 100000 in
set_option maxHeartbeats 4000000 in
theorem codes_swap (zs : List Int) (B g cap i j : Nat) (w : World) (h : Got w B 3 1 g zs.length cap (zs.map (Value.int .i64))) (hi : i < zs.length) (hj : j < zs.length) (hl : zs.length ≤ 100) :
    Calls Try.prog 149 #[.slice (some ⟨g, 0, none⟩) zs.length cap, .int .i64 i, .int .i64 j] w fun e w' => e = .returned (.tuple #[]) ∧ Got w' B 3 1 g zs.length cap ((swp zs i j).map (Value.int .i64)) ∧ w.grownBy w' (some g) := by
  have f0 := hp_cell h i hi
  have f1 := hp_cell h j hj
  have G := Lib.hid (show Got ((w.setCell ⟨g, i, none⟩ (.int .i64 (zs.getD j 0))).setCell ⟨g, j, none⟩ (.int .i64 (zs.getD i 0))) B 3 1 g zs.length cap ((swp zs i j).map (Value.int .i64)) from by
    have h1 := hp_set h i hi (zs.getD j 0)
    have h2 := hp_set h1 j (by simpa using hj) (zs.getD i 0)
    unfold swp
    simpa using h2)
  have f2 := hp_cell (hp_set h i hi (zs.getD j 0)) j (by simpa using hj)
  obtain ⟨u, hu⟩ : ∃ u, u = (zs.set i (zs.getD j 0))[j]'(by simpa using hj) := ⟨_, rfl⟩
  rw [← hu] at f2
  obtain ⟨sw, hsw⟩ : ∃ s, s = swp zs i j := ⟨_, rfl⟩
  rw [← hsw] at G ⊢
  obtain ⟨n, hn⟩ : ∃ n, n = zs.length := ⟨_, rfl⟩
  obtain ⟨x, hx⟩ : ∃ x, x = zs.getD i 0 := ⟨_, rfl⟩
  obtain ⟨y, hy⟩ : ∃ y, y = zs.getD j 0 := ⟨_, rfl⟩
  rw [show zs[i] = x by rw [hx]; simp [hi]] at f0
  rw [show zs[j] = y by rw [hy]; simp [hj]] at f1
  rw [← hx, ← hy, ← hn] at G
  rw [← hy] at f2
  rw [← hn] at hi hj hl ⊢
  obtain ⟨f0, z0⟩ := f0
  obtain ⟨f1, z1⟩ := f1
  obtain ⟨f2, z2⟩ := f2
  clear hn hx hy h hsw hu
  go_enter Try.func149, Try.ntmps149
  go_wp2_with fail
  have F0 : w.drew.cell? ⟨g, i, none⟩ = some (.int .i64 x) := f0
  have F1 : w.drew.cell? ⟨g, j, none⟩ = some (.int .i64 y) := f1
  have Z0 : w.drew.frozen? ⟨g, i, none⟩ = false := z0
  have Z1 : w.drew.frozen? ⟨g, j, none⟩ = false := z1
  have F2 : (w.setCell ⟨g, i, none⟩ (.int .i64 y)).drew.cell? ⟨g, j, none⟩ = some (.int .i64 u) := f2
  have Z2 : (w.setCell ⟨g, i, none⟩ (.int .i64 y)).drew.frozen? ⟨g, j, none⟩ = false := z2
  go_region
  go_wp2_with fail
  go_end0
  exact ⟨rfl, G.out, ((grown_set w ⟨g, i, none⟩ _).trans (grown_set _ ⟨g, j, none⟩ _)).trans ⟨rfl, rfl, rfl, Nat.le_refl _, fun _ _ _ => rfl⟩⟩
theorem one_rawI {w : World} {g : Nat} {cs : List Value} {t : TypeId} (h : w.heap[g]? = some (.cells cs.toArray t (0, 0))) (hg : g < w.heap.size) : Raw w w.heap.size (.slice (some ⟨g, 0, none⟩) 1 1) 1 cs :=
  ⟨some ⟨g, 0, none⟩, 1, rfl, Nat.le_refl _, by decide, fun h => (by cases h), fun _ => ⟨g, 0, rfl, hg, fun j u hu => (by
    rw [cell_of_row w g (0 + j) _ t _ h]
    simpa using hu)⟩⟩
theorem ta_cd (v : Value) (w : World) : (Instr.typeAssert (.iface 3 v) 20 3 false).run Try.prog w = .ok v w := by
  simp [Instr.typeAssert, run_underlying Try.underlying3]
set_option maxRecDepth 100000 in
set_option maxHeartbeats 4000000 in
theorem codes_push (zs : List Int) (x : Int) (B h g cap : Nat) (w : World) (hp : Hp w B h g cap zs) (hl : zs.length ≤ 50) (hB : B ≤ w.heap.size) :
    Calls Try.prog 148 #[.pointer (some ⟨h, 0, none⟩), .iface 3 (.int .i64 x)] w fun e w' => e = .returned (.tuple #[]) ∧ (∃ g' cap', Hp w' B h g' cap' (zs ++ [x])) ∧ Below B w w' := by
  obtain ⟨k1, k2, k3, k4⟩ := hp
  obtain ⟨n, hn⟩ : ∃ n, n = zs.length := ⟨_, rfl⟩
  rw [← hn] at k1 k4 hl
  have HN := Lib.hid hn
  have KH := Lib.hid k1
  have LH : Hid (h < w.heap.size) := Lib.hid (Array.getElem?_eq_some_iff.1 k1).1
  have GT := Lib.hid k4
  have hta := fun w => ta_cd (.int .i64 x) w
  clear k1 k4 hn
  go_enter Try.func148, Try.ntmps148
  go_wp2_with fail
  obtain ⟨z, hz⟩ : ∃ zz, zz = w.drew := ⟨_, rfl⟩
  have bz : Below w.heap.size w z := by rw [hz]; exact ⟨rfl, rfl, rfl, Nat.le_refl _, fun _ _ => rfl⟩
  replace KH := tkb bz LH KH
  replace LH := tlz LH bz.size
  replace GT := Lib.hid (GT.out.later bz)
  have BW : Hid (Below B w z) := Lib.hid (bz.mono hB)
  have HBz : Hid (B ≤ z.heap.size) := Lib.hid (Nat.le_trans hB bz.size)
  clear bz hB
  refine wp_region_held_drew (S := (fun w' => True)) (by kernel_rfl) trivial (fun hHeld => ?_)
  rw [← hz] at *
  clear hz hHeld
  have hHeld := trivial
  refine tk0 0 ?_
  refine tk0 1 ?_
  refine tk0 2 ?_
  refine tk0 4 ?_
  refine tk0 5 ?_
  refine rd2 3 6 (fun K hK => ?_) (fun K hK => ?_)
  · skip
    have f0 := tcr KH 0
    go_simp
    clear f0
    refine hK.out _ _ trivial (fun hHeld => ?_)
    clear hK K
    refine rd1 6 (fun K hK => ?_)
    go_simp
    obtain ⟨zB, hzB⟩ : ∃ u, u = z.alloc (.cells #[.int .i64 x] 3) := ⟨_, rfl⟩
    have bB : Below z.heap.size z zB := by rw [hzB]; exact (Below.refl _ _).alloc (Nat.le_refl _) _
    have KE : Hid (zB.heap[z.heap.size]? = some (.cells #[.int .i64 x] 3 (0, 0))) := Lib.hid (by rw [hzB]; exact heap_new _ _)
    have LE : Hid (z.heap.size < zB.heap.size) := Lib.hid (by rw [hzB]; simp)
    rw [← hzB]
    clear hzB
    replace KH := tkb bB LH KH
    replace LH := tlz LH bB.size
    replace GT := Lib.hid (GT.out.later bB)
    replace BW := Lib.hid (BW.out.trans (bB.mono HBz.out))
    replace HBz := Lib.hid (Nat.le_trans HBz.out bB.size)
    clear bB
    refine hK.out _ _ trivial (fun hHeld => ?_)
    clear hK K
    refine rd1 7 (fun K hK => ?_)
    obtain ⟨i0, p1, p2, p3, p4⟩ := info_parts infoCd
    refine step_app rfl (.tmp 7) (.tmp 10) 67 rfl 3 i0 _ 1 8 Try.underlying67 p1 p2 p3 p4 rfl (by decide) g n cap B _ GT.out (by simp [Act.eval]) _ (by simp [Act.eval]) zB.heap.size 1 [.int .i64 x] (one_rawI (cs := [.int .i64 x]) KE.out LE.out) (by simp) (by simp [Value.oneCell']) (by unfold maxLen; omega) (by omega) ?_
    intro g1 c1 z4 r1 e1 got1
    have LB := LH
    replace KH := tkg r1 LH KH (by simp; omega)
    replace LH := tlz LH r1.size
    replace BW := Lib.hid (BW.out.grown r1 HBz.out (fun j ej => by cases ej; exact GT.out.2.2.2.1))
    have GT1 := Lib.hid got1
    have hg1 : Hid (g1 ≠ h) := Lib.hid (by have := LB.out; rcases e1 with rfl | e1; exact k3; omega)
    clear r1 e1 got1 GT p1 p2 p3 p4 LB
    refine hK.out _ _ trivial (fun hHeld => ?_)
    clear hK K
    refine tk0 8 ?_
    refine rd1 9 (fun K hK => ?_)
    have fL := tcr KH 0
    have zL := tfr KH 0
    go_simp
    clear fL zL
    refine hK.out _ _ trivial (fun hHeld => ?_)
    clear hK K
    refine wpAnyH_done (by kernel_rfl) ?_ _
    clear hHeld
    go_wp2_with fail
    go_end0
    refine ⟨rfl, ⟨g1, c1, ?_⟩, ?_⟩
    · unfold Hp
      rw [show (zs ++ [x]).length = n + 1 by rw [HN.out]; simp, List.map_append]
      exact ⟨heap_setCell_same _ h 0 _ _ _ KH.out, k2, hg1.out, GT1.out.grown (grown_set z4 ⟨h, 0, none⟩ _) hg1.out⟩
    · exact BW.out.setCell (p := ⟨h, 0, none⟩) k2 _
  · skip
    go_simp
    obtain ⟨zB, hzB⟩ : ∃ u, u = z.alloc (.cells #[.int .i64 x] 3) := ⟨_, rfl⟩
    have bB : Below z.heap.size z zB := by rw [hzB]; exact (Below.refl _ _).alloc (Nat.le_refl _) _
    have KE : Hid (zB.heap[z.heap.size]? = some (.cells #[.int .i64 x] 3 (0, 0))) := Lib.hid (by rw [hzB]; exact heap_new _ _)
    have LE : Hid (z.heap.size < zB.heap.size) := Lib.hid (by rw [hzB]; simp)
    rw [← hzB]
    clear hzB
    replace KH := tkb bB LH KH
    replace LH := tlz LH bB.size
    replace GT := Lib.hid (GT.out.later bB)
    replace BW := Lib.hid (BW.out.trans (bB.mono HBz.out))
    replace HBz := Lib.hid (Nat.le_trans HBz.out bB.size)
    clear bB
    refine hK.out _ _ trivial (fun hHeld => ?_)
    clear hK K
    refine rd1 3 (fun K hK => ?_)
    have f0 := tcr KH 0
    go_simp
    clear f0
    refine hK.out _ _ trivial (fun hHeld => ?_)
    clear hK K
    refine rd1 7 (fun K hK => ?_)
    obtain ⟨i0, p1, p2, p3, p4⟩ := info_parts infoCd
    refine step_app rfl (.tmp 7) (.tmp 10) 67 rfl 3 i0 _ 1 8 Try.underlying67 p1 p2 p3 p4 rfl (by decide) g n cap B _ GT.out (by simp [Act.eval]) _ (by simp [Act.eval]) zB.heap.size 1 [.int .i64 x] (one_rawI (cs := [.int .i64 x]) KE.out LE.out) (by simp) (by simp [Value.oneCell']) (by unfold maxLen; omega) (by omega) ?_
    intro g1 c1 z4 r1 e1 got1
    have LB := LH
    replace KH := tkg r1 LH KH (by simp; omega)
    replace LH := tlz LH r1.size
    replace BW := Lib.hid (BW.out.grown r1 HBz.out (fun j ej => by cases ej; exact GT.out.2.2.2.1))
    have GT1 := Lib.hid got1
    have hg1 : Hid (g1 ≠ h) := Lib.hid (by have := LB.out; rcases e1 with rfl | e1; exact k3; omega)
    clear r1 e1 got1 GT p1 p2 p3 p4 LB
    refine hK.out _ _ trivial (fun hHeld => ?_)
    clear hK K
    refine tk0 8 ?_
    refine rd1 9 (fun K hK => ?_)
    have fL := tcr KH 0
    have zL := tfr KH 0
    go_simp
    clear fL zL
    refine hK.out _ _ trivial (fun hHeld => ?_)
    clear hK K
    refine wpAnyH_done (by kernel_rfl) ?_ _
    clear hHeld
    go_wp2_with fail
    go_end0
    refine ⟨rfl, ⟨g1, c1, ?_⟩, ?_⟩
    · unfold Hp
      rw [show (zs ++ [x]).length = n + 1 by rw [HN.out]; simp, List.map_append]
      exact ⟨heap_setCell_same _ h 0 _ _ _ KH.out, k2, hg1.out, GT1.out.grown (grown_set z4 ⟨h, 0, none⟩ _) hg1.out⟩
    · exact BW.out.setCell (p := ⟨h, 0, none⟩) k2 _
set_option maxRecDepth 100000 in
set_option maxHeartbeats 4000000 in
theorem codes_pop (zs : List Int) (n : Nat) (x : Int) (B h g cap : Nat) (w : World) (hp : Hp w B h g cap zs) (hl : zs.length ≤ 50) (hn : zs.length = n + 1) (hx : zs.getD n 0 = x) :
    Calls Try.prog 147 #[.pointer (some ⟨h, 0, none⟩)] w fun e w' => e = .returned (.iface 3 (.int .i64 x)) ∧ Below B w w' := by
  obtain ⟨k1, k2, k3, k4⟩ := hp
  obtain ⟨f1, z1⟩ := hp_cell k4 n (by omega)
  rw [show zs[n] = x by rw [← hx]; simp [hn]] at f1
  rw [hn] at k1 hl
  have hc : n + 1 ≤ cap := by have := k4.2.1; omega
  have hcm : cap ≤ 9223372036854775807 := by have := k4.2.2.1; unfold maxLen at this; omega
  have KH := Lib.hid k1
  have f0 := tcr KH 0
  have z0 := tfr KH 0
  have hw1 : IntKind.i64.wrap (((n + 1 : Nat) : Int) - 1) = n := by rw [IntKind.wrap_i64]; omega
  clear k1 k4 hn hx
  go_enter Try.func147, Try.ntmps147
  go_wp2
  go_ret
  exact ⟨rfl, (Below.refl B w).setCell (p := ⟨h, 0, none⟩) k2 _⟩
end Go.Proofs.Ytdpjdjkfedcojaa
