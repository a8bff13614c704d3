/- What the proofs of this seat have in common: plain facts, rows in memory, the laws' own helpers, the small functions' contracts. Condition: none. -/
import Derived.Test.YtdpjdjkfedcojaaGreatBaseA
import Derived.RegionTactic
import Derived.ChangeAlike
namespace Go.Proofs.YtdpjdjkfedcojaaGreat
open Go.RowKit
set_option linter.unusedVariables false
set_option linter.unusedSimpArgs false

theorem infoCd : (Tryz.prog.info? 3).map (fun i => (i.zero, i.size, i.bytes)) = some (some (.int .i64 0), 1, 8) := by kernel_rfl
section
variable {w : World} {base g cap : Nat} {E : List Int}
theorem hp_cell (h : Got w base 3 1 g E.length cap (E.map (Value.int .i64))) (k : Nat) (hk : k < E.length) : w.cell? ⟨g, k, none⟩ = some (.int .i64 E[k]) ∧ w.frozen? ⟨g, k, none⟩ = false := by
  obtain ⟨cur, h1, h2, h3⟩ := got_cells h (by omega)
  refine ⟨?_, frozen_of_row w g k cur 3 h1⟩
  rw [cell_of_row w g k cur 3 _ h1]
  have h4 : (E.map (Value.int .i64))[k]? = some (.int .i64 E[k]) := by rw [List.getElem?_map, List.getElem?_eq_getElem hk]; rfl
  rw [← h3, List.getElem?_take, if_pos (by omega), Array.getElem?_toList] at h4
  exact h4
theorem hp_set (h : Got w base 3 1 g E.length cap (E.map (Value.int .i64))) (k : Nat) (hk : k < E.length) (u : Int) :
    Got (w.setCell ⟨g, k, none⟩ (.int .i64 u)) base 3 1 g (E.set k u).length cap ((E.set k u).map (Value.int .i64)) := by
  have hc := h.2.1
  obtain ⟨cur, h1, h2, h3⟩ := got_put h (by omega) k [.int .i64 u] E.length hc (by simp; omega)
  have h3 : Got (w.setCell ⟨g, k, none⟩ (.int .i64 u)) base 3 1 g E.length cap ((cur.take k ++ [Value.int .i64 u] ++ cur.drop (k + 1)).take (E.length * 1)) := h3
  have e : cur.take k ++ [Value.int .i64 u] ++ cur.drop (k + 1) = cur.set k (.int .i64 u) := by
    rw [List.set_eq_take_append_cons_drop, if_pos (by omega)]; simp
  rw [e, List.take_set, h2, ← List.map_set] at h3
  rw [List.length_set]
  exact h3
end
/-- Two codes change places. -/
def swp (zs : List Int) (i j : Nat) : List Int := (zs.set i (zs.getD j 0)).set j (zs.getD i 0)
theorem swp_len (zs : List Int) (i j : Nat) : (swp zs i j).length = zs.length := by unfold swp; simp
/-- A heap of codes in its box: the box and the row are the call's own. -/
def Hp (w : World) (B h g cap : Nat) (zs : List Int) : Prop :=
  w.heap[h]? = some (.cells #[.slice (some ⟨g, 0, none⟩) zs.length cap] 71 (0, 0)) ∧ B ≤ h ∧ g ≠ h ∧ Got w B 3 1 g zs.length cap (zs.map (Value.int .i64))
theorem Hp.lt {w : World} {B h g cap : Nat} {zs : List Int} (hp : Hp w B h g cap zs) : h < w.heap.size := (Array.getElem?_eq_some_iff.1 hp.1).1
theorem Hp.later {w w' : World} {B h g cap : Nat} {zs : List Int} (hp : Hp w B h g cap zs) (hb : Below w.heap.size w w') : Hp w' B h g cap zs :=
  ⟨(hb.block _ hp.lt).trans hp.1, hp.2.1, hp.2.2.1, hp.2.2.2.later hb⟩
theorem codes_len (v : Option Addr) (n cap : Nat) (w : World) (hn : n ≤ 100) :
    Calls Tryz.prog 143 #[.slice v n cap] w fun e w' => e = .returned (.int .i64 n) ∧ w' = w := by
  go_enter Tryz.func143, Tryz.ntmps143
  go_wp2
  go_ret
  exact ⟨rfl, rfl⟩
set_option maxRecDepth 100000 in
set_option maxHeartbeats 4000000 in
theorem codes_less (zs : List Int) (B g cap i j : Nat) (w : World) (h : Got w B 3 1 g zs.length cap (zs.map (Value.int .i64))) (hi : i < zs.length) (hj : j < zs.length) (hl : zs.length ≤ 100) :
    Calls Tryz.prog 144 #[.slice (some ⟨g, 0, none⟩) zs.length cap, .int .i64 i, .int .i64 j] w fun e w' => e = .returned (.bool (decide (zs.getD j 0 < zs.getD i 0))) ∧ Below w.heap.size w w' := by
  have f0 := (hp_cell h i hi).1
  have f1 := (hp_cell h j hj).1
  obtain ⟨n, hn⟩ : ∃ n, n = zs.length := ⟨_, rfl⟩
  obtain ⟨x, hx⟩ : ∃ x, x = zs.getD i 0 := ⟨_, rfl⟩
  obtain ⟨y, hy⟩ : ∃ y, y = zs.getD j 0 := ⟨_, rfl⟩
  rw [show zs[i] = x by rw [hx]; simp [hi]] at f0
  rw [show zs[j] = y by rw [hy]; simp [hj]] at f1
  rw [← hx, ← hy]
  rw [← hn] at hi hj hl ⊢
  clear hn hx hy h
  go_enter Tryz.func144, Tryz.ntmps144
  go_wp2_with fail
  have F0 : w.drew.cell? ⟨g, i, none⟩ = some (.int .i64 x) := f0
  have F1 : w.drew.cell? ⟨g, j, none⟩ = some (.int .i64 y) := f1
  have bb : Below w.heap.size w w.drew := ⟨rfl, rfl, rfl, Nat.le_refl _, fun _ _ => rfl⟩
  go_region
  go_wp2_with fail
  go_ret
  exact ⟨rfl, bb⟩
set_option maxRecDepth 100000 in
set_option maxHeartbeats 4000000 in
theorem codes_swap (zs : List Int) (B g cap i j : Nat) (w : World) (h : Got w B 3 1 g zs.length cap (zs.map (Value.int .i64))) (hi : i < zs.length) (hj : j < zs.length) (hl : zs.length ≤ 100) :
    Calls Tryz.prog 147 #[.slice (some ⟨g, 0, none⟩) zs.length cap, .int .i64 i, .int .i64 j] w fun e w' => e = .returned (.tuple #[]) ∧ Got w' B 3 1 g zs.length cap ((swp zs i j).map (Value.int .i64)) ∧ w.grownBy w' (some g) := by
  have f0 := hp_cell h i hi
  have f1 := hp_cell h j hj
  have G := Lib.hid (show Got ((w.setCell ⟨g, i, none⟩ (.int .i64 (zs.getD j 0))).setCell ⟨g, j, none⟩ (.int .i64 (zs.getD i 0))) B 3 1 g zs.length cap ((swp zs i j).map (Value.int .i64)) from by
    have h1 := hp_set h i hi (zs.getD j 0)
    have h2 := hp_set h1 j (by simpa using hj) (zs.getD i 0)
    unfold swp
    simpa using h2)
  have f2 := hp_cell (hp_set h i hi (zs.getD j 0)) j (by simpa using hj)
  obtain ⟨u, hu⟩ : ∃ u, u = (zs.set i (zs.getD j 0))[j]'(by simpa using hj) := ⟨_, rfl⟩
  rw [← hu] at f2
  obtain ⟨sw, hsw⟩ : ∃ s, s = swp zs i j := ⟨_, rfl⟩
  rw [← hsw] at G ⊢
  obtain ⟨n, hn⟩ : ∃ n, n = zs.length := ⟨_, rfl⟩
  obtain ⟨x, hx⟩ : ∃ x, x = zs.getD i 0 := ⟨_, rfl⟩
  obtain ⟨y, hy⟩ : ∃ y, y = zs.getD j 0 := ⟨_, rfl⟩
  rw [show zs[i] = x by rw [hx]; simp [hi]] at f0
  rw [show zs[j] = y by rw [hy]; simp [hj]] at f1
  rw [← hx, ← hy, ← hn] at G
  rw [← hy] at f2
  rw [← hn] at hi hj hl ⊢
  obtain ⟨f0, z0⟩ := f0
  obtain ⟨f1, z1⟩ := f1
  obtain ⟨f2, z2⟩ := f2
  clear hn hx hy h hsw hu
  go_enter Tryz.func147, Tryz.ntmps147
  go_wp2_with fail
  have F0 : w.drew.cell? ⟨g, i, none⟩ = some (.int .i64 x) := f0
  have F1 : w.drew.cell? ⟨g, j, none⟩ = some (.int .i64 y) := f1
  have Z0 : w.drew.frozen? ⟨g, i, none⟩ = false := z0
  have Z1 : w.drew.frozen? ⟨g, j, none⟩ = false := z1
  have F2 : (w.setCell ⟨g, i, none⟩ (.int .i64 y)).drew.cell? ⟨g, j, none⟩ = some (.int .i64 u) := f2
  have Z2 : (w.setCell ⟨g, i, none⟩ (.int .i64 y)).drew.frozen? ⟨g, j, none⟩ = false := z2
  go_region
  go_wp2_with fail
  go_end0
  exact ⟨rfl, G.out, ((grown_set w ⟨g, i, none⟩ _).trans (grown_set _ ⟨g, j, none⟩ _)).trans ⟨rfl, rfl, rfl, Nat.le_refl _, fun _ _ _ => rfl⟩⟩
theorem one_rawI {w : World} {g : Nat} {cs : List Value} {t : TypeId} (h : w.heap[g]? = some (.cells cs.toArray t (0, 0))) (hg : g < w.heap.size) : Raw w w.heap.size (.slice (some ⟨g, 0, none⟩) 1 1) 1 cs :=
  ⟨some ⟨g, 0, none⟩, 1, rfl, Nat.le_refl _, by decide, fun h => (by cases h), fun _ => ⟨g, 0, rfl, hg, fun j u hu => (by
    rw [cell_of_row w g (0 + j) _ t _ h]
    simpa using hu)⟩⟩
theorem ta_cd (v : Value) (w : World) : (Instr.typeAssert (.iface 3 v) 20 3 false).run Tryz.prog w = .ok v w := by
  simp [Instr.typeAssert, run_underlying Tryz.underlying3]
set_option maxRecDepth 100000 in
set_option maxHeartbeats 4000000 in
theorem codes_push (zs : List Int) (x : Int) (B h g cap : Nat) (w : World) (hp : Hp w B h g cap zs) (hl : zs.length ≤ 50) (hB : B ≤ w.heap.size) :
    Calls Tryz.prog 146 #[.pointer (some ⟨h, 0, none⟩), .iface 3 (.int .i64 x)] w fun e w' => e = .returned (.tuple #[]) ∧ (∃ g' cap', Hp w' B h g' cap' (zs ++ [x])) ∧ Below B w w' := by
  obtain ⟨k1, k2, k3, k4⟩ := hp
  obtain ⟨n, hn⟩ : ∃ n, n = zs.length := ⟨_, rfl⟩
  rw [← hn] at k1 k4 hl
  have HN := Lib.hid hn
  have KH := Lib.hid k1
  have LH : Hid (h < w.heap.size) := Lib.hid (Array.getElem?_eq_some_iff.1 k1).1
  have GT := Lib.hid k4
  have hta := fun w => ta_cd (.int .i64 x) w
  clear k1 k4 hn
  go_enter Tryz.func146, Tryz.ntmps146
  go_wp2_with fail
  obtain ⟨z, hz⟩ : ∃ zz, zz = w.drew := ⟨_, rfl⟩
  have bz : Below w.heap.size w z := by rw [hz]; exact ⟨rfl, rfl, rfl, Nat.le_refl _, fun _ _ => rfl⟩
  replace KH := tkb bz LH KH
  replace LH := tlz LH bz.size
  replace GT := Lib.hid (GT.out.later bz)
  have BW : Hid (Below B w z) := Lib.hid (bz.mono hB)
  have HBz : Hid (B ≤ z.heap.size) := Lib.hid (Nat.le_trans hB bz.size)
  clear bz hB
  refine wp_region_held_drew (S := (fun w' => True)) (by kernel_rfl) trivial (fun hHeld => ?_)
  rw [← hz] at *
  clear hz hHeld
  have hHeld := trivial
  refine tk0 0 ?_
  refine tk0 1 ?_
  refine tk0 2 ?_
  refine tk0 4 ?_
  refine tk0 5 ?_
  refine rd2 3 6 (fun K hK => ?_) (fun K hK => ?_)
  · skip
    have f0 := tcr KH 0
    go_simp
    clear f0
    refine hK.out _ _ trivial (fun hHeld => ?_)
    clear hK K
    refine rd1 6 (fun K hK => ?_)
    go_simp
    obtain ⟨zB, hzB⟩ : ∃ u, u = z.alloc (.cells #[.int .i64 x] 3) := ⟨_, rfl⟩
    have bB : Below z.heap.size z zB := by rw [hzB]; exact (Below.refl _ _).alloc (Nat.le_refl _) _
    have KE : Hid (zB.heap[z.heap.size]? = some (.cells #[.int .i64 x] 3 (0, 0))) := Lib.hid (by rw [hzB]; exact heap_new _ _)
    have LE : Hid (z.heap.size < zB.heap.size) := Lib.hid (by rw [hzB]; simp)
    rw [← hzB]
    clear hzB
    replace KH := tkb bB LH KH
    replace LH := tlz LH bB.size
    replace GT := Lib.hid (GT.out.later bB)
    replace BW := Lib.hid (BW.out.trans (bB.mono HBz.out))
    replace HBz := Lib.hid (Nat.le_trans HBz.out bB.size)
    clear bB
    refine hK.out _ _ trivial (fun hHeld => ?_)
    clear hK K
    refine rd1 7 (fun K hK => ?_)
    obtain ⟨i0, p1, p2, p3, p4⟩ := info_parts infoCd
    refine step_app rfl (.tmp 7) (.tmp 10) 71 rfl 3 i0 _ 1 8 Tryz.underlying71 p1 p2 p3 p4 rfl (by decide) g n cap B _ GT.out (by simp [Act.eval]) _ (by simp [Act.eval]) zB.heap.size 1 [.int .i64 x] (one_rawI (cs := [.int .i64 x]) KE.out LE.out) (by simp) (by simp [Value.oneCell']) (by unfold maxLen; omega) (by omega) ?_
    intro g1 c1 z4 r1 e1 got1
    have LB := LH
    replace KH := tkg r1 LH KH (by simp; omega)
    replace LH := tlz LH r1.size
    replace BW := Lib.hid (BW.out.grown r1 HBz.out (fun j ej => by cases ej; exact GT.out.2.2.2.1))
    have GT1 := Lib.hid got1
    have hg1 : Hid (g1 ≠ h) := Lib.hid (by have := LB.out; rcases e1 with rfl | e1; exact k3; omega)
    clear r1 e1 got1 GT p1 p2 p3 p4 LB
    refine hK.out _ _ trivial (fun hHeld => ?_)
    clear hK K
    refine tk0 8 ?_
    refine rd1 9 (fun K hK => ?_)
    have fL := tcr KH 0
    have zL := tfr KH 0
    go_simp
    clear fL zL
    refine hK.out _ _ trivial (fun hHeld => ?_)
    clear hK K
    refine wpAnyH_done (by kernel_rfl) ?_ _
    clear hHeld
    go_wp2_with fail
    go_end0
    refine ⟨rfl, ⟨g1, c1, ?_⟩, ?_⟩
    · unfold Hp
      rw [show (zs ++ [x]).length = n + 1 by rw [HN.out]; simp, List.map_append]
      exact ⟨heap_setCell_same _ h 0 _ _ _ KH.out, k2, hg1.out, GT1.out.grown (grown_set z4 ⟨h, 0, none⟩ _) hg1.out⟩
    · exact BW.out.setCell (p := ⟨h, 0, none⟩) k2 _
  · skip
    go_simp
    obtain ⟨zB, hzB⟩ : ∃ u, u = z.alloc (.cells #[.int .i64 x] 3) := ⟨_, rfl⟩
    have bB : Below z.heap.size z zB := by rw [hzB]; exact (Below.refl _ _).alloc (Nat.le_refl _) _
    have KE : Hid (zB.heap[z.heap.size]? = some (.cells #[.int .i64 x] 3 (0, 0))) := Lib.hid (by rw [hzB]; exact heap_new _ _)
    have LE : Hid (z.heap.size < zB.heap.size) := Lib.hid (by rw [hzB]; simp)
    rw [← hzB]
    clear hzB
    replace KH := tkb bB LH KH
    replace LH := tlz LH bB.size
    replace GT := Lib.hid (GT.out.later bB)
    replace BW := Lib.hid (BW.out.trans (bB.mono HBz.out))
    replace HBz := Lib.hid (Nat.le_trans HBz.out bB.size)
    clear bB
    refine hK.out _ _ trivial (fun hHeld => ?_)
    clear hK K
    refine rd1 3 (fun K hK => ?_)
    have f0 := tcr KH 0
    go_simp
    clear f0
    refine hK.out _ _ trivial (fun hHeld => ?_)
    clear hK K
    refine rd1 7 (fun K hK => ?_)
    obtain ⟨i0, p1, p2, p3, p4⟩ := info_parts infoCd
    refine step_app rfl (.tmp 7) (.tmp 10) 71 rfl 3 i0 _ 1 8 Tryz.underlying71 p1 p2 p3 p4 rfl (by decide) g n cap B _ GT.out (by simp [Act.eval]) _ (by simp [Act.eval]) zB.heap.size 1 [.int .i64 x] (one_rawI (cs := [.int .i64 x]) KE.out LE.out) (by simp) (by simp [Value.oneCell']) (by unfold maxLen; omega) (by omega) ?_
    intro g1 c1 z4 r1 e1 got1
    have LB := LH
    replace KH := tkg r1 LH KH (by simp; omega)
    replace LH := tlz LH r1.size
    replace BW := Lib.hid (BW.out.grown r1 HBz.out (fun j ej => by cases ej; exact GT.out.2.2.2.1))
    have GT1 := Lib.hid got1
    have hg1 : Hid (g1 ≠ h) := Lib.hid (by have := LB.out; rcases e1 with rfl | e1; exact k3; omega)
    clear r1 e1 got1 GT p1 p2 p3 p4 LB
    refine hK.out _ _ trivial (fun hHeld => ?_)
    clear hK K
    refine tk0 8 ?_
    refine rd1 9 (fun K hK => ?_)
    have fL := tcr KH 0
    have zL := tfr KH 0
    go_simp
    clear fL zL
    refine hK.out _ _ trivial (fun hHeld => ?_)
    clear hK K
    refine wpAnyH_done (by kernel_rfl) ?_ _
    clear hHeld
    go_wp2_with fail
    go_end0
    refine ⟨rfl, ⟨g1, c1, ?_⟩, ?_⟩
    · unfold Hp
      rw [show (zs ++ [x]).length = n + 1 by rw [HN.out]; simp, List.map_append]
      exact ⟨heap_setCell_same _ h 0 _ _ _ KH.out, k2, hg1.out, GT1.out.grown (grown_set z4 ⟨h, 0, none⟩ _) hg1.out⟩
    · exact BW.out.setCell (p := ⟨h, 0, none⟩) k2 _
set_option maxRecDepth 100000 in
set_option maxHeartbeats 4000000 in
theorem codes_pop (zs : List Int) (n : Nat) (x : Int) (B h g cap : Nat) (w : World) (hp : Hp w B h g cap zs) (hl : zs.length ≤ 50) (hn : zs.length = n + 1) (hx : zs.getD n 0 = x) :
    Calls Tryz.prog 145 #[.pointer (some ⟨h, 0, none⟩)] w fun e w' => e = .returned (.iface 3 (.int .i64 x)) ∧ Below B w w' := by
  obtain ⟨k1, k2, k3, k4⟩ := hp
  obtain ⟨f1, z1⟩ := hp_cell k4 n (by omega)
  rw [show zs[n] = x by rw [← hx]; simp [hn]] at f1
  rw [hn] at k1 hl
  have hc : n + 1 ≤ cap := by have := k4.2.1; omega
  have hcm : cap ≤ 9223372036854775807 := by have := k4.2.2.1; unfold maxLen at this; omega
  have KH := Lib.hid k1
  have f0 := tcr KH 0
  have z0 := tfr KH 0
  have hw1 : IntKind.i64.wrap (((n + 1 : Nat) : Int) - 1) = n := by rw [IntKind.wrap_i64]; omega
  clear k1 k4 hn hx
  go_enter Tryz.func145, Tryz.ntmps145
  go_wp2
  go_ret
  exact ⟨rfl, (Below.refl B w).setCell (p := ⟨h, 0, none⟩) k2 _⟩
end Go.Proofs.YtdpjdjkfedcojaaGreat

namespace Go.Proofs.YtdpjdjkfedcojaaGreat
open Go.RowKit
set_option linter.unusedVariables false
set_option linter.unusedSimpArgs false

theorem m_push (a : Addr) (w : World) : (method 267 70 (.pointer (some a)) "Push").run Tryz.prog w = .ok (146, .pointer (some a)) w := by kernel_rfl
theorem m_pop (a : Addr) (w : World) : (method 267 70 (.pointer (some a)) "Pop").run Tryz.prog w = .ok (145, .pointer (some a)) w := by kernel_rfl
theorem m_val {P : Program} {t el : TypeId} {i : TypeInfo} {m : Method} {f : FuncId} {name : String} (n : Nat) (hi : P.info? t = some i) (hm : i.methods.find? (·.name == name) = some m) (hp : m.path = #[]) (hf : m.func = some (f, false)) (hu : P.underlying t = some (.pointer el)) (a : Addr) (v : Value) (w : World)
    (hl : (loadVar el a).run P w = .ok v w) : (method (n + 1) t (.pointer (some a)) name).run P w = .ok (f, v) w := by
  have h1 : (typeInfo t).run P w = .ok i w := by simp [typeInfo, hi]
  have h2 : ∀ nm, (Builtin.ssaWrapNilChk_ #[t] t #[.pointer (some a), strVal "", strVal nm]).run P w = .ok (.pointer (some a)) w := fun nm => rfl
  simp [method, h1, hm, hp, hf, follow, receiverAt, run_underlying hu, Place.get, h2, asAddr, hl]
theorem m_row {name : String} {f : FuncId} (q : (Tryz.prog.info? 70).bind (fun i => (i.methods.find? (·.name == name)).map (fun m => (m.path, m.func))) = some (#[], some (f, false))) (h : Nat) (v : Value) (w : World) (hv : w.cell? ⟨h, 0, none⟩ = some v) :
    (method 267 70 (.pointer (some ⟨h, 0, none⟩)) name).run Tryz.prog w = .ok (f, v) w := by
  obtain ⟨i, hi, q⟩ := Option.bind_eq_some_iff.1 q
  obtain ⟨m, hm, q⟩ := Option.map_eq_some_iff.1 q
  simp only [Prod.mk.injEq] at q
  exact m_val _ hi hm q.1 q.2 Tryz.underlying70 _ v w (by go_simp)
theorem m_len (h : Nat) (v : Value) (w : World) (hv : w.cell? ⟨h, 0, none⟩ = some v) : (method 267 70 (.pointer (some ⟨h, 0, none⟩)) "Len").run Tryz.prog w = .ok (143, v) w := m_row (by kernel_rfl) h v w hv
theorem m_less (h : Nat) (v : Value) (w : World) (hv : w.cell? ⟨h, 0, none⟩ = some v) : (method 267 70 (.pointer (some ⟨h, 0, none⟩)) "Less").run Tryz.prog w = .ok (144, v) w := m_row (by kernel_rfl) h v w hv
theorem m_swap (h : Nat) (v : Value) (w : World) (hv : w.cell? ⟨h, 0, none⟩ = some v) : (method 267 70 (.pointer (some ⟨h, 0, none⟩)) "Swap").run Tryz.prog w = .ok (147, v) w := m_row (by kernel_rfl) h v w hv
/-- On its way up: only the code at j may be greater than the first one. -/
def OnUp (zs : List Int) (j : Nat) (T : Int) : Prop := j < zs.length ∧ (∀ k, k < zs.length → k ≠ j → zs.getD k 0 ≤ zs.getD 0 0) ∧ T = if zs.getD 0 0 < zs.getD j 0 then zs.getD j 0 else zs.getD 0 0
/-- The first one is the greatest. -/
def Top (zs : List Int) (T : Int) : Prop := zs.getD 0 0 = T ∧ ∀ k, k < zs.length → zs.getD k 0 ≤ T
theorem swp_at {zs : List Int} {i j : Nat} (hi : i < zs.length) (hj : j < zs.length) (k : Nat) : (swp zs i j).getD k 0 = if k = j then zs.getD i 0 else if k = i then zs.getD j 0 else zs.getD k 0 := by
  unfold swp
  simp only [List.getD_eq_getElem?_getD, List.getElem?_set, List.length_set]
  by_cases h1 : k = j
  · subst h1; simp [hj]
  · rw [if_neg (fun h => h1 h.symm), if_neg h1]
    by_cases h2 : k = i
    · subst h2; simp [hi]
    · rw [if_neg (fun h => h2 h.symm), if_neg h2]
theorem up_zero {zs : List Int} {T : Int} (h : OnUp zs 0 T) : Top zs T := by
  obtain ⟨h1, h2, h3⟩ := h
  rw [if_neg (by omega)] at h3
  refine ⟨h3.symm, fun k hk => ?_⟩
  by_cases hk0 : k = 0
  · subst hk0; omega
  · have := h2 k hk hk0; omega
theorem up_stop {zs : List Int} {i j : Nat} {T : Int} (h : OnUp zs j T) (hne : i ≠ j) (hi : i < zs.length) (hle : ¬ zs.getD i 0 < zs.getD j 0) : Top zs T := by
  obtain ⟨h1, h2, h3⟩ := h
  have hi0 := h2 i hi hne
  rw [if_neg (by omega)] at h3
  refine ⟨h3.symm, fun k hk => ?_⟩
  by_cases hk0 : k = j
  · subst hk0; omega
  · have := h2 k hk hk0; omega
theorem up_swap {zs : List Int} {i j : Nat} {T : Int} (h : OnUp zs j T) (hij : i < j) (hlt : zs.getD i 0 < zs.getD j 0) : OnUp (swp zs i j) i T := by
  obtain ⟨h1, h2, h3⟩ := h
  have hi : i < zs.length := by omega
  have hi0 := h2 i hi (by omega)
  have e := swp_at hi h1
  have e0 : (swp zs i j).getD 0 0 = if i = 0 then zs.getD j 0 else zs.getD 0 0 := by
    rw [e, if_neg (by omega)]
    by_cases q : i = 0
    · rw [if_pos q.symm, if_pos q]
    · rw [if_neg (fun h => q h.symm), if_neg q]
  have ei : (swp zs i j).getD i 0 = zs.getD j 0 := by rw [e, if_neg (by omega), if_pos rfl]
  refine ⟨by rw [swp_len]; exact hi, fun k hk hne => ?_, ?_⟩
  · rw [swp_len] at hk
    rw [e0, e k]
    by_cases q : i = 0
    · rw [if_pos q]
      subst q
      by_cases k1 : k = j
      · rw [if_pos k1]; omega
      · rw [if_neg k1, if_neg hne]; have := h2 k hk k1; omega
    · rw [if_neg q]
      by_cases k1 : k = j
      · rw [if_pos k1]; omega
      · rw [if_neg k1, if_neg hne]; exact h2 k hk k1
  · rw [e0, ei]
    by_cases q : i = 0
    · subst q; rw [if_pos rfl, if_neg (by omega), h3, if_pos hlt]
    · rw [if_neg q]; exact h3
set_option maxRecDepth 100000 in
set_option maxHeartbeats 4000000 in
theorem heap_up (zs0 : List Int) (T : Int) (B h g cap j0 : Nat) (w : World) (hp : Hp w B h g cap zs0) (hl : zs0.length ≤ 50) (hB : B ≤ w.heap.size) (hup : OnUp zs0 j0 T) :
    Calls Tryz.prog 108 #[.iface 70 (.pointer (some ⟨h, 0, none⟩)), .int .i64 j0] w fun e w' => e = .returned (.tuple #[]) ∧ (∃ zs, Hp w' B h g cap zs ∧ zs.length = zs0.length ∧ Top zs T) ∧ Below B w w' := by
  go_enter Tryz.func108, Tryz.ntmps108
  go_wp2_with fail
  go_loopw [1] (fun jv wr => ∃ (j : Nat) (zs : List Int), jv = .int .i64 j ∧ Hid (Hp wr B h g cap zs) ∧ Hid (zs.length = zs0.length) ∧ Hid (OnUp zs j T) ∧ Hid (Below B w wr)) (fun jv _ => (intOf jv).toNat)
  case atStart => exact ⟨j0, zs0, rfl, Lib.hid hp, Lib.hid rfl, Lib.hid hup, Lib.hid (Below.refl _ _)⟩
  case round =>
    obtain ⟨j, zs, rfl, HP, HL, HU, BW⟩ := hrel
    have hlj := HU.out.1
    have hlen := HL.out
    obtain ⟨k1, k2, k3, k4⟩ := HP.out
    have KH := Lib.hid k1
    clear k1
    have f0 := tcr KH 0
    have hms := m_less h _ wr f0
    by_cases hj : j = 0
    · subst hj
      have HT := Lib.hid (up_zero HU.out)
      clear hms f0 k4 hlj hlen
      go_wp2_with fail
      go_end0
      exact ⟨rfl, ⟨zs, HP.out, HL.out, HT.out⟩, BW.out⟩
    · obtain ⟨p, hp1⟩ : ∃ p, p = j - 1 := ⟨_, rfl⟩
      obtain ⟨i, hi⟩ : ∃ i, i = p / 2 := ⟨_, rfl⟩
      have hw : IntKind.i64.wrap ((j : Int) - 1) = (p : Int) := by rw [IntKind.wrap_i64]; omega
      have hq : (p : Int).tdiv 2 = (i : Int) := by rw [hi]; exact (Int.ofNat_tdiv p 2).symm
      have hil : i < j := by omega
      have hne : ((i : Int) == (j : Int)) = false := by rw [beq_eq_false_iff_ne]; omega
      have hne2 : ¬ (i : Int) = (j : Int) := by omega
      have hwi : IntKind.i64.wrap (i : Int) = (i : Int) := by rw [IntKind.wrap_i64]; omega
      have hc := codes_less zs B g cap j i wr k4 hlj (by omega) (by omega)
      have HLE := Lib.hid hlen
      have HLJ := Lib.hid hlj
      clear hi hp1 hlen hlj
      by_cases hlt : zs.getD i 0 < zs.getD j 0
      · rw [decide_eq_true hlt] at hc
        have HU2 := Lib.hid (up_swap HU.out hil hlt)
        have HL2 := Lib.hid (show (swp zs i j).length = zs0.length by rw [swp_len]; exact HLE.out)
        have LH : Hid (h < wr.heap.size) := Lib.hid (Array.getElem?_eq_some_iff.1 KH.out).1
        have GT := Lib.hid k4
        have hsw := fun (w1 : World) (hb1 : Below wr.heap.size wr w1) => codes_swap zs B g cap i j w1 (GT.out.later hb1) (by have := HLJ.out; omega) HLJ.out (by have := HLE.out; omega)
        clear hlt k4
        obtain ⟨n, hn⟩ : ∃ n, n = zs.length := ⟨_, rfl⟩
        rw [← hn] at hc hms f0 hsw KH
        have HN := Lib.hid hn
        clear hn
        go_wp2_with (go_at_call 144; refine hc.mono ?_; rintro e w1 ⟨rfl, hb1⟩; refine Hid.out ?_)
        refine Lib.hid ?_
        replace hsw := hsw w1 hb1
        have KH1 := tkb hb1 LH KH
        have LH1 := tlz LH hb1.size
        have BW1 := Lib.hid (BW.out.trans (hb1.mono (Nat.le_trans hB BW.out.size)))
        have GT1 := Lib.hid (GT.out.later hb1)
        clear hc hms f0 hb1 KH LH GT
        have f0 := tcr KH1 0
        have hms := m_swap h _ w1 f0
        go_wp2_with (go_at_call 147; refine hsw.mono ?_; rintro e w2 ⟨rfl, got2, gr2⟩; refine Hid.out ?_)
        refine Lib.hid ?_
        have KH2 := tkg gr2 LH1 KH1 (by simp; omega)
        have BW2 := Lib.hid (BW1.out.grown gr2 (Nat.le_trans hB BW1.out.size) (fun k ek => by cases ek; exact GT1.out.2.2.2.1))
        have HP2 : Hid (Hp w2 B h g cap (swp zs i j)) := Lib.hid (by
          unfold Hp
          rw [swp_len, ← HN.out]
          exact ⟨KH2.out, k2, k3, got2⟩)
        clear hsw hms f0 got2 gr2 KH2 KH1 LH1 BW1 GT1
        go_wp2_with fail
        go_roundw
        case rel => exact ⟨i, _, by go_num, HP2, HL2, HU2, BW2⟩
        case measure => simp [intOf]; omega
      · rw [decide_eq_false hlt] at hc
        have HT := Lib.hid (up_stop HU.out (by omega) (by have := HLJ.out; omega) hlt)
        clear hlt k4
        obtain ⟨n, hn⟩ : ∃ n, n = zs.length := ⟨_, rfl⟩
        rw [← hn] at hc hms f0
        clear hn
        go_wp2_with (go_at_call 144; refine hc.mono ?_; rintro e w1 ⟨rfl, hb1⟩; refine Hid.out ?_)
        refine Lib.hid ?_
        go_wp2_with fail
        go_end0
        exact ⟨rfl, ⟨zs, HP.out.later hb1, HL.out, HT.out⟩, BW.out.trans (hb1.mono (Nat.le_trans hB BW.out.size))⟩
/-- A code more, ahead of the way up. -/
theorem on_up {zs : List Int} {T x : Int} (h : zs = [] ∨ Top zs T) : OnUp (zs ++ [x]) zs.length (if zs = [] then x else if T < x then x else T) := by
  refine ⟨by simp, fun k hk hne => ?_, ?_⟩
  · have hk2 : k < zs.length := by simp at hk; omega
    have h0 : 0 < zs.length := by omega
    have hT : Top zs T := by
      rcases h with h | h
      · subst h; simp at h0
      · exact h
    have e1 : (zs ++ [x]).getD k 0 = zs.getD k 0 := by rw [List.getD_eq_getElem?_getD, List.getD_eq_getElem?_getD, List.getElem?_append_left hk2]
    have e2 : (zs ++ [x]).getD 0 0 = zs.getD 0 0 := by rw [List.getD_eq_getElem?_getD, List.getD_eq_getElem?_getD, List.getElem?_append_left h0]
    rw [e1, e2, hT.1]
    exact hT.2 k hk2
  · have ex : (zs ++ [x]).getD zs.length 0 = x := by simp [List.getD_eq_getElem?_getD]
    rcases h with h | h
    · subst h; simp
    · by_cases h0 : zs = []
      · subst h0; simp
      · have hp : 0 < zs.length := List.length_pos_iff.2 h0
        have e2 : (zs ++ [x]).getD 0 0 = zs.getD 0 0 := by rw [List.getD_eq_getElem?_getD, List.getD_eq_getElem?_getD, List.getElem?_append_left hp]
        rw [if_neg h0, ex, e2, h.1]
set_option maxRecDepth 100000 in
set_option maxHeartbeats 4000000 in
theorem heap_push (zs : List Int) (x T : Int) (B h g cap : Nat) (w : World) (hp : Hp w B h g cap zs) (hl : zs.length ≤ 40) (hB : B ≤ w.heap.size) (ht : zs = [] ∨ Top zs T) :
    Calls Tryz.prog 76 #[.iface 70 (.pointer (some ⟨h, 0, none⟩)), .iface 3 (.int .i64 x)] w fun e w' => e = .returned (.tuple #[]) ∧
      (∃ g' cap' zs', Hp w' B h g' cap' zs' ∧ zs'.length = zs.length + 1 ∧ Top zs' (if zs = [] then x else if T < x then x else T)) ∧ Below B w w' := by
  have hpush := codes_push zs x B h g cap w hp (by omega) hB
  have HUP := Lib.hid (on_up (x := x) ht)
  have hmp := m_push ⟨h, 0, none⟩ w
  obtain ⟨M, hM⟩ : ∃ M, M = (if zs = [] then x else if T < x then x else T) := ⟨_, rfl⟩
  rw [← hM] at HUP ⊢
  clear hM ht hp
  go_enter Tryz.func76, Tryz.ntmps76
  go_wp2_with (go_at_call 146; refine hpush.mono ?_; rintro e w1 ⟨rfl, ⟨g1, c1, hp1⟩, hb1⟩; refine Hid.out ?_)
  refine Lib.hid ?_
  clear hpush hmp
  have HP1 := Lib.hid hp1
  have KH := Lib.hid hp1.1
  have LS : Hid (B ≤ w1.heap.size) := Lib.hid (Nat.le_trans hB hb1.size)
  have HB1 := Lib.hid hb1
  have hlen : (zs ++ [x]).length = zs.length + 1 := by simp
  have HLN := Lib.hid hlen
  rw [hlen] at KH
  obtain ⟨n, hn⟩ : ∃ n, n = zs.length := ⟨_, rfl⟩
  have hup := heap_up (zs ++ [x]) M B h g1 c1 n w1 hp1 (by rw [hlen]; omega) LS.out (by rw [hn]; exact HUP.out)
  rw [← hn] at KH hl HLN
  have HNN := Lib.hid hn
  clear hp1 hb1 hlen hn
  have f0 := tcr KH 0
  have hml := m_len h _ w1 f0
  have hcl := codes_len (some ⟨g1, 0, none⟩) (n + 1) c1 w1 (by omega)
  have hw1 : IntKind.i64.wrap (((n + 1 : Nat) : Int) - 1) = (n : Int) := by rw [IntKind.wrap_i64]; omega
  obtain ⟨m, hm⟩ : ∃ m : Int, m = ((n + 1 : Nat) : Int) := ⟨_, rfl⟩
  rw [← hm] at hcl hw1
  clear hm
  go_wp2_with (go_at_call 143; refine hcl.mono ?_; rintro e w2 ⟨rfl, rfl⟩; refine Hid.out ?_)
  refine Lib.hid ?_
  clear hcl hml f0
  go_wp2_with (go_at_call 108; refine hup.mono ?_; rintro e w3 ⟨rfl, ⟨zs3, hp3, hl3, ht3⟩, hb3⟩; refine Hid.out ?_)
  refine Lib.hid ?_
  have R3 := Lib.hid (show zs3.length = n + 1 by rw [hl3]; exact HLN.out)
  have HP3 := Lib.hid hp3
  have HT3 := Lib.hid ht3
  clear hl3 hp3 ht3
  go_wp2_with fail
  go_end0
  exact ⟨rfl, ⟨g1, c1, zs3, HP3.out, by rw [R3.out, HNN.out], HT3.out⟩, HB1.out.trans hb3⟩
end Go.Proofs.YtdpjdjkfedcojaaGreat

namespace Go.Proofs.YtdpjdjkfedcojaaGreat
open Go.RowKit
set_option linter.unusedVariables false
set_option linter.unusedSimpArgs false
/-- Something true or false is answered. -/
def ABool (e : Ending) : Prop := ∃ r : Bool, e = .returned (.bool r)
theorem swp_keep {zs : List Int} {i j n : Nat} (hi : i < zs.length) (hj : j < zs.length) (h1 : i ≠ n) (h2 : j ≠ n) : (swp zs i j).getD n 0 = zs.getD n 0 := by rw [swp_at hi hj, if_neg (fun h => h2 h.symm), if_neg (fun h => h1 h.symm)]
set_option maxRecDepth 100000 in
set_option maxHeartbeats 8000000 in
theorem heap_down (zs0 : List Int) (x : Int) (B h g cap n : Nat) (w : World) (hp : Hp w B h g cap zs0) (hl : zs0.length ≤ 50) (hB : B ≤ w.heap.size) (hn : n < zs0.length) (hx : zs0.getD n 0 = x) :
    Calls Tryz.prog 109 #[.iface 70 (.pointer (some ⟨h, 0, none⟩)), .int .i64 0, .int .i64 n] w fun e w' => ABool e ∧ (∃ zs, Hp w' B h g cap zs ∧ zs.length = zs0.length ∧ zs.getD n 0 = x) ∧ Below B w w' := by
  have HNL := Lib.hid hn
  have hn50 : n < 50 := by omega
  clear hn
  go_enter Tryz.func109, Tryz.ntmps109
  go_wp2_with fail
  go_loopw [7] (fun iv wr => ∃ (i : Nat) (zs : List Int), i ≤ n ∧ iv = .int .i64 i ∧ Hid (Hp wr B h g cap zs) ∧ Hid (zs.length = zs0.length) ∧ Hid (zs.getD n 0 = x) ∧ Hid (Below B w wr)) (fun iv _ => n - (intOf iv).toNat)
  case atStart => exact ⟨0, zs0, Nat.zero_le _, rfl, Lib.hid hp, Lib.hid rfl, Lib.hid hx, Lib.hid (Below.refl _ _)⟩
  case round =>
    obtain ⟨i, zs, hin, rfl, HP, HL, HX, BW⟩ := hrel
    clear hp hx
    obtain ⟨a, ha⟩ : ∃ a, a = 2 * i := ⟨_, rfl⟩
    obtain ⟨b, hb⟩ : ∃ b, b = a + 1 := ⟨_, rfl⟩
    obtain ⟨c, hc⟩ : ∃ c, c = b + 1 := ⟨_, rfl⟩
    have hw1 : IntKind.i64.wrap (2 * (i : Int)) = (a : Int) := by rw [IntKind.wrap_i64]; omega
    have hw2 : IntKind.i64.wrap ((a : Int) + 1) = (b : Int) := by rw [IntKind.wrap_i64]; omega
    have hw3 : IntKind.i64.wrap ((b : Int) + 1) = (c : Int) := by rw [IntKind.wrap_i64]; omega
    have hb0 : ¬ (b : Int) < 0 := by omega
    have hib : Hid (i < b) := Lib.hid (by omega)
    have hbc : Hid (b < c) := Lib.hid (by omega)
    have HLN : Hid (n < zs.length) := Lib.hid (by rw [HL.out]; exact HNL.out)
    have H50 : Hid (zs.length ≤ 50) := Lib.hid (by rw [HL.out]; exact hl)
    clear ha hb hc hl
    by_cases h1 : (n : Int) ≤ (b : Int)
    · have d1 : decide ((n : Int) ≤ (b : Int)) = true := decide_eq_true h1
      go_wp2_with fail
      go_ret
      exact ⟨⟨_, rfl⟩, ⟨zs, HP.out, HL.out, HX.out⟩, BW.out⟩
    have d1 : decide ((n : Int) ≤ (b : Int)) = false := decide_eq_false h1
    have d2 : decide ((b : Int) < 0) = false := decide_eq_false hb0
    have hbn : b < n := by omega
    obtain ⟨k1, k2, k3, k4⟩ := HP.out
    have KH := Lib.hid k1
    have GT := Lib.hid k4
    have LH : Hid (h < wr.heap.size) := Lib.hid (Array.getElem?_eq_some_iff.1 k1).1
    have hBr : Hid (B ≤ wr.heap.size) := Lib.hid (Nat.le_trans hB BW.out.size)
    clear k1 k4 hb0
    obtain ⟨l, hl⟩ : ∃ l, l = zs.length := ⟨_, rfl⟩
    have HLL := Lib.hid hl
    rw [← hl] at KH
    clear hl
    have hless := fun (p q : Nat) (r : Bool) (w1 : World) (hb1 : Below wr.heap.size wr w1) (hp : p < zs.length) (hq : q < zs.length) (hr : decide (zs.getD q 0 < zs.getD p 0) = r) => (show Calls Tryz.prog 144 #[.slice (some ⟨g, 0, none⟩) l cap, .int .i64 p, .int .i64 q] w1 fun e w' => e = .returned (.bool r) ∧ Below w1.heap.size w1 w' from by rw [HLL.out, ← hr]; exact codes_less zs B g cap p q w1 (GT.out.later hb1) hp hq (by have := H50.out; omega))
    have hswap := fun (p q : Nat) (w1 : World) (hb1 : Below wr.heap.size wr w1) (hp : p < zs.length) (hq : q < zs.length) => (show Calls Tryz.prog 147 #[.slice (some ⟨g, 0, none⟩) l cap, .int .i64 p, .int .i64 q] w1 fun e w' => e = .returned (.tuple #[]) ∧ Got w' B 3 1 g zs.length cap ((swp zs p q).map (Value.int .i64)) ∧ w1.grownBy w' (some g) from by rw [HLL.out]; exact codes_swap zs B g cap p q w1 (GT.out.later hb1) hp hq (by have := H50.out; omega))
    have hcell : Hid (∀ w1, Below wr.heap.size wr w1 → w1.cell? ⟨h, 0, none⟩ = some (.slice (some ⟨g, 0, none⟩) l cap)) := Lib.hid (fun w1 hb => tcr (tkb hb LH KH) 0)
    clear hin d1 d2
    have BR : Hid (Below wr.heap.size wr wr) := Lib.hid (Below.refl _ _)
    by_cases h2 : (c : Int) < (n : Int)
    · have hcn : c < n := by omega
      cases hr1 : decide (zs.getD b 0 < zs.getD c 0)
      · skip
        have hms := m_less h _ wr (hcell.out wr BR.out)
        have hc := hless c b false wr BR.out (by have := HLN.out; omega) (by have := HLN.out; have := hib.out; omega) (hr1)
        go_wp2_with (go_at_call 144; refine hc.mono ?_; rintro e w1 ⟨rfl, hb1⟩; refine Hid.out ?_)
        refine Lib.hid ?_
        replace BR := tbt BR hb1
        clear hc hms hb1
        have hjn : b < n := by omega
        have hij : Hid (i < b) := Lib.hid (by have := hib.out; have := hbc.out; omega)
        cases hr2 : decide (zs.getD i 0 < zs.getD b 0)
        · skip
          have hms := m_less h _ w1 (hcell.out w1 BR.out)
          have hc := hless b i false w1 BR.out (by have := HLN.out; omega) (by have := HLN.out; have := hib.out; omega) (hr2)
          go_wp2_with (go_at_call 144; refine hc.mono ?_; rintro e w2 ⟨rfl, hb1⟩; refine Hid.out ?_)
          refine Lib.hid ?_
          replace BR := tbt BR hb1
          clear hc hms hb1
          have HP2 := Lib.hid (HP.out.later BR.out)
          have BW2 := Lib.hid (BW.out.trans (BR.out.mono hBr.out))
          clear hless hswap hcell
          go_wp2_with fail
          go_ret
          exact ⟨⟨_, rfl⟩, ⟨zs, HP2.out, HL.out, HX.out⟩, BW2.out⟩
        · skip
          have hms := m_less h _ w1 (hcell.out w1 BR.out)
          have hc := hless b i true w1 BR.out (by have := HLN.out; omega) (by have := HLN.out; have := hib.out; omega) (hr2)
          go_wp2_with (go_at_call 144; refine hc.mono ?_; rintro e w2 ⟨rfl, hb1⟩; refine Hid.out ?_)
          refine Lib.hid ?_
          replace BR := tbt BR hb1
          clear hc hms hb1
          have hms := m_swap h _ w2 (hcell.out w2 BR.out)
          have hc := hswap i b w2 BR.out (by have := HLN.out; have := hij.out; omega) (by have := HLN.out; omega)
          have KH1 := tkb BR.out LH KH
          have LH1 := tlz LH BR.out.size
          have GT1 := Lib.hid (GT.out.later BR.out)
          have BW1 := Lib.hid (BW.out.trans (BR.out.mono hBr.out))
          clear hless hswap hcell
          go_wp2_with (go_at_call 147; refine hc.mono ?_; rintro e w3 ⟨rfl, got2, gr2⟩; refine Hid.out ?_)
          refine Lib.hid ?_
          have KH2 := tkg gr2 LH1 KH1 (by simp; omega)
          have BW2 := Lib.hid (BW1.out.grown gr2 (Nat.le_trans hB BW1.out.size) (fun k ek => by cases ek; exact GT1.out.2.2.2.1))
          have HP2 : Hid (Hp w3 B h g cap (swp zs i b)) := Lib.hid (by
            unfold Hp
            rw [swp_len, ← HLL.out]
            exact ⟨KH2.out, k2, k3, by rw [HLL.out]; exact got2⟩)
          have HL2 := Lib.hid (show (swp zs i b).length = zs0.length by rw [swp_len]; exact HL.out)
          have HX2 : Hid ((swp zs i b).getD n 0 = x) := Lib.hid (by rw [swp_keep (by have := HLN.out; have := hij.out; omega) (by have := HLN.out; omega) (by have := hij.out; omega) (by omega)]; exact HX.out)
          clear hc hms got2 gr2 KH2 KH1 LH1 BW1 GT1
          go_wp2_with fail
          go_roundw
          case rel => exact ⟨b, _, by omega, by go_num, HP2, HL2, HX2, BW2⟩
          case measure => simp [intOf]; have := hij.out; omega
      · skip
        have hms := m_less h _ wr (hcell.out wr BR.out)
        have hc := hless c b true wr BR.out (by have := HLN.out; omega) (by have := HLN.out; have := hib.out; omega) (hr1)
        go_wp2_with (go_at_call 144; refine hc.mono ?_; rintro e w1 ⟨rfl, hb1⟩; refine Hid.out ?_)
        refine Lib.hid ?_
        replace BR := tbt BR hb1
        clear hc hms hb1
        have hjn : c < n := by omega
        have hij : Hid (i < c) := Lib.hid (by have := hib.out; have := hbc.out; omega)
        cases hr2 : decide (zs.getD i 0 < zs.getD c 0)
        · skip
          have hms := m_less h _ w1 (hcell.out w1 BR.out)
          have hc := hless c i false w1 BR.out (by have := HLN.out; omega) (by have := HLN.out; have := hib.out; omega) (hr2)
          go_wp2_with (go_at_call 144; refine hc.mono ?_; rintro e w2 ⟨rfl, hb1⟩; refine Hid.out ?_)
          refine Lib.hid ?_
          replace BR := tbt BR hb1
          clear hc hms hb1
          have HP2 := Lib.hid (HP.out.later BR.out)
          have BW2 := Lib.hid (BW.out.trans (BR.out.mono hBr.out))
          clear hless hswap hcell
          go_wp2_with fail
          go_ret
          exact ⟨⟨_, rfl⟩, ⟨zs, HP2.out, HL.out, HX.out⟩, BW2.out⟩
        · skip
          have hms := m_less h _ w1 (hcell.out w1 BR.out)
          have hc := hless c i true w1 BR.out (by have := HLN.out; omega) (by have := HLN.out; have := hib.out; omega) (hr2)
          go_wp2_with (go_at_call 144; refine hc.mono ?_; rintro e w2 ⟨rfl, hb1⟩; refine Hid.out ?_)
          refine Lib.hid ?_
          replace BR := tbt BR hb1
          clear hc hms hb1
          have hms := m_swap h _ w2 (hcell.out w2 BR.out)
          have hc := hswap i c w2 BR.out (by have := HLN.out; have := hij.out; omega) (by have := HLN.out; omega)
          have KH1 := tkb BR.out LH KH
          have LH1 := tlz LH BR.out.size
          have GT1 := Lib.hid (GT.out.later BR.out)
          have BW1 := Lib.hid (BW.out.trans (BR.out.mono hBr.out))
          clear hless hswap hcell
          go_wp2_with (go_at_call 147; refine hc.mono ?_; rintro e w3 ⟨rfl, got2, gr2⟩; refine Hid.out ?_)
          refine Lib.hid ?_
          have KH2 := tkg gr2 LH1 KH1 (by simp; omega)
          have BW2 := Lib.hid (BW1.out.grown gr2 (Nat.le_trans hB BW1.out.size) (fun k ek => by cases ek; exact GT1.out.2.2.2.1))
          have HP2 : Hid (Hp w3 B h g cap (swp zs i c)) := Lib.hid (by
            unfold Hp
            rw [swp_len, ← HLL.out]
            exact ⟨KH2.out, k2, k3, by rw [HLL.out]; exact got2⟩)
          have HL2 := Lib.hid (show (swp zs i c).length = zs0.length by rw [swp_len]; exact HL.out)
          have HX2 : Hid ((swp zs i c).getD n 0 = x) := Lib.hid (by rw [swp_keep (by have := HLN.out; have := hij.out; omega) (by have := HLN.out; omega) (by have := hij.out; omega) (by omega)]; exact HX.out)
          clear hc hms got2 gr2 KH2 KH1 LH1 BW1 GT1
          go_wp2_with fail
          go_roundw
          case rel => exact ⟨c, _, by omega, by go_num, HP2, HL2, HX2, BW2⟩
          case measure => simp [intOf]; have := hij.out; omega
    · skip
      have hjn : b < n := by omega
      have hij : Hid (i < b) := Lib.hid (by have := hib.out; have := hbc.out; omega)
      cases hr2 : decide (zs.getD i 0 < zs.getD b 0)
      · skip
        have hms := m_less h _ wr (hcell.out wr BR.out)
        have hc := hless b i false wr BR.out (by have := HLN.out; omega) (by have := HLN.out; have := hib.out; omega) (hr2)
        go_wp2_with (go_at_call 144; refine hc.mono ?_; rintro e w1 ⟨rfl, hb1⟩; refine Hid.out ?_)
        refine Lib.hid ?_
        replace BR := tbt BR hb1
        clear hc hms hb1
        have HP2 := Lib.hid (HP.out.later BR.out)
        have BW2 := Lib.hid (BW.out.trans (BR.out.mono hBr.out))
        clear hless hswap hcell
        go_wp2_with fail
        go_ret
        exact ⟨⟨_, rfl⟩, ⟨zs, HP2.out, HL.out, HX.out⟩, BW2.out⟩
      · skip
        have hms := m_less h _ wr (hcell.out wr BR.out)
        have hc := hless b i true wr BR.out (by have := HLN.out; omega) (by have := HLN.out; have := hib.out; omega) (hr2)
        go_wp2_with (go_at_call 144; refine hc.mono ?_; rintro e w1 ⟨rfl, hb1⟩; refine Hid.out ?_)
        refine Lib.hid ?_
        replace BR := tbt BR hb1
        clear hc hms hb1
        have hms := m_swap h _ w1 (hcell.out w1 BR.out)
        have hc := hswap i b w1 BR.out (by have := HLN.out; have := hij.out; omega) (by have := HLN.out; omega)
        have KH1 := tkb BR.out LH KH
        have LH1 := tlz LH BR.out.size
        have GT1 := Lib.hid (GT.out.later BR.out)
        have BW1 := Lib.hid (BW.out.trans (BR.out.mono hBr.out))
        clear hless hswap hcell
        go_wp2_with (go_at_call 147; refine hc.mono ?_; rintro e w2 ⟨rfl, got2, gr2⟩; refine Hid.out ?_)
        refine Lib.hid ?_
        have KH2 := tkg gr2 LH1 KH1 (by simp; omega)
        have BW2 := Lib.hid (BW1.out.grown gr2 (Nat.le_trans hB BW1.out.size) (fun k ek => by cases ek; exact GT1.out.2.2.2.1))
        have HP2 : Hid (Hp w2 B h g cap (swp zs i b)) := Lib.hid (by
          unfold Hp
          rw [swp_len, ← HLL.out]
          exact ⟨KH2.out, k2, k3, by rw [HLL.out]; exact got2⟩)
        have HL2 := Lib.hid (show (swp zs i b).length = zs0.length by rw [swp_len]; exact HL.out)
        have HX2 : Hid ((swp zs i b).getD n 0 = x) := Lib.hid (by rw [swp_keep (by have := HLN.out; have := hij.out; omega) (by have := HLN.out; omega) (by have := hij.out; omega) (by omega)]; exact HX.out)
        clear hc hms got2 gr2 KH2 KH1 LH1 BW1 GT1
        go_wp2_with fail
        go_roundw
        case rel => exact ⟨b, _, by omega, by go_num, HP2, HL2, HX2, BW2⟩
        case measure => simp [intOf]; have := hij.out; omega
set_option maxRecDepth 100000 in
set_option maxHeartbeats 4000000 in
theorem heap_pop (zs : List Int) (x : Int) (B h g cap : Nat) (w : World) (hp : Hp w B h g cap zs) (hl : zs.length ≤ 40) (hB : B ≤ w.heap.size) (h0 : 0 < zs.length) (hx : zs.getD 0 0 = x) :
    Calls Tryz.prog 77 #[.iface 70 (.pointer (some ⟨h, 0, none⟩))] w fun e w' => e = .returned (.iface 3 (.int .i64 x)) ∧ Below B w w' := by
  obtain ⟨k1, k2, k3, k4⟩ := hp
  obtain ⟨n, hn⟩ : ∃ n, zs.length = n + 1 := ⟨zs.length - 1, by omega⟩
  have hsw := fun (w1 : World) (hb1 : Below w.heap.size w w1) => codes_swap zs B g cap 0 n w1 (k4.later hb1) h0 (by omega) (by omega)
  have hxs : (swp zs 0 n).getD n 0 = x := by rw [swp_at h0 (by omega), if_pos rfl]; exact hx
  have hsl : (swp zs 0 n).length = n + 1 := by rw [swp_len]; exact hn
  obtain ⟨sw, hsw2⟩ : ∃ s, s = swp zs 0 n := ⟨_, rfl⟩
  rw [← hsw2] at hsw hxs hsl
  rw [hn] at k1 k4 hsw hl
  have KH := Lib.hid k1
  have GT := Lib.hid k4
  have LH : Hid (h < w.heap.size) := Lib.hid (Array.getElem?_eq_some_iff.1 k1).1
  have HXS := Lib.hid hxs
  have HSL := Lib.hid hsl
  have hn40 : n < 40 := by omega
  clear k1 k4 hn hx h0 hxs hsl hsw2 hl
  have f0 := tcr KH 0
  have hml := m_len h _ w f0
  have hcl := codes_len (some ⟨g, 0, none⟩) (n + 1) cap w (by omega)
  have hw1 : IntKind.i64.wrap (((n + 1 : Nat) : Int) - 1) = (n : Int) := by rw [IntKind.wrap_i64]; omega
  obtain ⟨m, hm⟩ : ∃ m : Int, m = ((n + 1 : Nat) : Int) := ⟨_, rfl⟩
  rw [← hm] at hcl hw1
  clear hm
  go_enter Tryz.func77, Tryz.ntmps77
  go_wp2_with (go_at_call 143; refine hcl.mono ?_; rintro e w1 ⟨rfl, rfl⟩; refine Hid.out ?_)
  refine Lib.hid ?_
  clear hcl hml
  have hms := m_swap h _ w1 f0
  replace hsw := hsw w1 (Below.refl _ _)
  try simp only [Int.ofNat_zero, Nat.cast_zero] at hsw
  go_wp2_with (go_at_call 147; refine hsw.mono ?_; rintro e w2 ⟨rfl, got2, gr2⟩; refine Hid.out ?_)
  refine Lib.hid ?_
  clear hsw hms f0
  have KH2 := tkg gr2 LH KH (by simp; omega)
  have BW2 := Lib.hid ((Below.refl B w1).grown gr2 hB (fun k ek => by cases ek; exact GT.out.2.2.2.1))
  have hB2 : Hid (B ≤ w2.heap.size) := Lib.hid (Nat.le_trans hB gr2.size)
  have hp2 : Hp w2 B h g cap sw := by
    unfold Hp
    rw [HSL.out]
    exact ⟨KH2.out, k2, k3, got2⟩
  have hd := heap_down sw x B h g cap n w2 hp2 (by rw [HSL.out]; omega) hB2.out (by rw [HSL.out]; omega) HXS.out
  clear got2 gr2 KH2 KH LH GT hp2
  go_wp2_with (go_at_call 109; refine hd.mono ?_; rintro e w3 ⟨⟨r, rfl⟩, ⟨zs3, hp3, hl3, hx3⟩, hb3⟩; refine Hid.out ?_)
  refine Lib.hid ?_
  clear hd
  have hl4 : zs3.length = n + 1 := by rw [hl3]; exact HSL.out
  have hpop := codes_pop zs3 n x B h g cap w3 hp3 (by omega) hl4 hx3
  have hmp := m_pop ⟨h, 0, none⟩ w3
  have BW3 := Lib.hid (BW2.out.trans hb3)
  clear hl3 hl4 hx3 hp3 hb3
  go_wp2_with (go_at_call 145; refine hpop.mono ?_; rintro e w4 ⟨rfl, hb4⟩; refine Hid.out ?_)
  refine Lib.hid ?_
  clear hpop hmp
  go_wp2_with fail
  go_ret
  exact ⟨rfl, BW3.out.trans hb4⟩
end Go.Proofs.YtdpjdjkfedcojaaGreat
