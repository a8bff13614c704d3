/- Drawn Disks, right or not, and what is drawn with them. Condition: a code of at most 2^20 bytes. -/
import Derived.Test.YtkkmjlpeahkiaaaDrawDsk
import Derived.Test.YtkkmjlpeahkiaaaMakeZeros
import Derived.Test.YtkkmjlpeahkiaaaBent
import Derived.Deep.CutBlock
import Derived.Deep.DeepCutAuto
namespace Go.Proofs.Ytkkmjlpeahkiaaa
open Go.RowKit
set_option linter.unusedVariables false
set_option linter.unusedSimpArgs false

/-- A drawn Disk's sizes. -/
def OddD (d : Dsk) : Prop := (-1 ≤ d.rm ∧ d.rm ≤ 4001) ∧ d.sn.size ≤ 4001 ∧ d.kp.size ≤ 4001 ∧ d.ls.size ≤ 4000
theorem odd_sm {d : Dsk} (h : OddD d) : SmD d := by
  obtain ⟨h1, h2, h3, h4⟩ := h
  exact ⟨⟨by omega, by omega⟩, by omega, by omega, by omega⟩
theorem odd_ok {d : Dsk} (h : dskOk d = true) : OddD d := by
  obtain ⟨h1, h2, h3, h4, _⟩ := dsk_in h
  exact ⟨⟨by omega, by omega⟩, by omega, by omega, by omega⟩
theorem DK.one {w wr : World} {B blk g i : Nat} {d : Dsk} {v : Value} {e : Dsk} (h : DK w wr B blk g d)
    (he : (wr.setCell ⟨g, i, none⟩ v).heap[g]? = some (.cells #[.int .i64 e.rm, .string e.sn, .string e.kp, .string e.ls] 26 (0, 0))) : DK w (wr.setCell ⟨g, i, none⟩ v) B blk g e := by
  have h1 := h.hg
  have h2 := h.hb
  exact ⟨cu_set h.cu (Nat.lt_trans h2 h1), grown_set1 h.gr (Nat.le_of_lt h1), otherD h.kr (Nat.ne_of_lt h1), he, h1, h2⟩
/-- The same of a function that makes the cursor itself. -/
structure DX (w wr : World) (g : Nat) (d : Dsk) : Prop where
  cu : Cu TC wr (w.heap.size + 1) (w.heap.size + 1)
  bl : Below w.heap.size w wr
  kr : wr.heap[w.heap.size]? = some (.cells #[.int .i64 0, .string ⟨#[]⟩, .string ⟨#[]⟩, .string ⟨#[]⟩] 26 (0, 0))
  kd : wr.heap[g]? = some (.cells #[.int .i64 d.rm, .string d.sn, .string d.kp, .string d.ls] 26 (0, 0))
  hg : w.heap.size + 1 < g
theorem DX.lt {w wr : World} {g : Nat} {d : Dsk} (h : DX w wr g d) : g < wr.heap.size := lt_of_block h.kd
theorem DX.turn {w wr w2 : World} {g : Nat} {d : Dsk} (h : DX w wr g d) (hgr : wr.grownBy w2 (some (w.heap.size + 1))) (hcu : Cu TC w2 (w.heap.size + 1) (w.heap.size + 1)) : DX w w2 g d := by
  have h1 := h.hg
  have h3 := h.lt
  exact ⟨hcu, h.bl.grown hgr h.bl.size (fun k e => by cases e; omega), (hgr.block _ (by omega) (by simp)).trans h.kr, (hgr.block _ h3 (by simp; omega)).trans h.kd, h1⟩
theorem DX.below {w wr w2 : World} {g : Nat} {d : Dsk} (h : DX w wr g d) (hb : Below wr.heap.size wr w2) : DX w w2 g d :=
  h.turn (grown_any hb _) (cu_below h.cu hb)
theorem DX.ft {w wr : World} {g : Nat} {d : Dsk} (h : DX w wr g d) : wr.cell? ⟨g, 0, none⟩ = some (.int .i64 d.rm) ∧ wr.cell? ⟨g, 1, none⟩ = some (.string d.sn) ∧ wr.cell? ⟨g, 2, none⟩ = some (.string d.kp) ∧ wr.cell? ⟨g, 3, none⟩ = some (.string d.ls) := by
  have K := Lib.hid h.kd
  exact ⟨tcr K 0, tcr K 1, tcr K 2, tcr K 3⟩
theorem DX.fr {w wr : World} {g : Nat} {d : Dsk} (h : DX w wr g d) : (wr.cell? ⟨w.heap.size, 0, none⟩ = some (.int .i64 0) ∧ wr.cell? ⟨w.heap.size, 1, none⟩ = some (.string ⟨#[]⟩) ∧ wr.cell? ⟨w.heap.size, 2, none⟩ = some (.string ⟨#[]⟩) ∧ wr.cell? ⟨w.heap.size, 3, none⟩ = some (.string ⟨#[]⟩)) ∧ (wr.frozen? ⟨w.heap.size, 0, none⟩ = false ∧ wr.frozen? ⟨w.heap.size, 1, none⟩ = false ∧ wr.frozen? ⟨w.heap.size, 2, none⟩ = false ∧ wr.frozen? ⟨w.heap.size, 3, none⟩ = false) := by
  have K := Lib.hid h.kr
  exact ⟨⟨tcr K 0, tcr K 1, tcr K 2, tcr K 3⟩, tfr K 0, tfr K 1, tfr K 2, tfr K 3⟩
theorem DX.ret {w wr : World} {g : Nat} {d : Dsk} (h : DX w wr g d) :
    ((((wr.setCell ⟨w.heap.size, 0, none⟩ (.int .i64 d.rm)).setCell ⟨w.heap.size, 1, none⟩ (.string d.sn)).setCell ⟨w.heap.size, 2, none⟩ (.string d.kp)).setCell ⟨w.heap.size, 3, none⟩ (.string d.ls)).heap[w.heap.size]? = some (.cells #[.int .i64 d.rm, .string d.sn, .string d.kp, .string d.ls] 26 (0, 0)) ∧
    Below w.heap.size w ((((wr.setCell ⟨w.heap.size, 0, none⟩ (.int .i64 d.rm)).setCell ⟨w.heap.size, 1, none⟩ (.string d.sn)).setCell ⟨w.heap.size, 2, none⟩ (.string d.kp)).setCell ⟨w.heap.size, 3, none⟩ (.string d.ls)) :=
  ⟨storeD h.kr, belowD h.bl (Nat.le_refl _)⟩
set_option maxRecDepth 100000 in
set_option maxHeartbeats 8000000 in
theorem odd9_any (B blk : Nat) (w : World) (c : Cu TC w B blk) :
    Calls Try.prog 66 #[.pointer (some ⟨blk, 0, none⟩)] w (DrewDsk w B blk OddD) := by
  have LTB := c.lt
  obtain ⟨W, hW⟩ : ∃ z, z = w.alloc (.cells #[.int .i64 0, .string ⟨#[]⟩, .string ⟨#[]⟩, .string ⟨#[]⟩] 26) := ⟨_, rfl⟩
  have bW : Below w.heap.size w W := by rw [hW]; exact (Below.refl _ _).alloc (Nat.le_refl _) _
  have KR : Hid (W.heap[w.heap.size]? = some (.cells #[.int .i64 0, .string ⟨#[]⟩, .string ⟨#[]⟩, .string ⟨#[]⟩] 26 (0, 0))) := Lib.hid (by rw [hW]; exact heap_new _ _)
  have LR : Hid (w.heap.size < W.heap.size) := Lib.hid (by rw [hW]; simp)
  have hc := make9_any B blk W (cu_below c bW)
  go_enter Try.func66, Try.ntmps66
  rw [hW] at hc
  go_wp2_with (go_at_call 80; refine hc.mono ?_; rintro e w1 ⟨d0, rfl, hok, cu, gr⟩; refine Hid.out ?_)
  refine Lib.hid ?_
  rw [← hW] at gr
  clear hc
  have HOK := Lib.hid hok
  clear hok
  obtain ⟨g, hg⟩ : ∃ g, g = w1.heap.size := ⟨_, rfl⟩
  obtain ⟨o, s, t, u⟩ := d0
  unfold dskV
  dsimp only
  obtain ⟨X, hX⟩ : ∃ z, z = w1.alloc (.cells #[.int .i64 o, .string s, .string t, .string u] 26) := ⟨_, rfl⟩
  have H1 : Hid (DK w X B blk g ⟨o, s, t, u⟩) := Lib.hid (by
    have h1 := LR.out
    have h2 := gr.size
    have bX : Below w1.heap.size w1 X := by rw [hX]; exact (Below.refl _ _).alloc (Nat.le_refl _) _
    exact ⟨cu_below cu bX, ((grown_any bW _).trans gr).trans (grown_any bX _), (bX.block _ (by omega)).trans ((gr.block _ h1 (by simp; omega)).trans KR.out), by rw [hg, hX]; exact heap_new _ _, by omega, LTB⟩)
  clear bW KR LR cu gr hW
  have hc := below_any 12 (by omega) B blk X H1.out.cu
  rw [hX] at hc
  go_wp2_with (go_at_call 68; refine hc.mono ?_; rintro e w2 ⟨x, ⟨hx0, hx1, _⟩, rfl, cu, gr⟩; refine Hid.out ?_)
  refine Lib.hid ?_
  rw [← hX] at gr
  replace H1 := Lib.hid (H1.out.turn gr cu)
  clear hc gr cu hX
  have hx1 := hx1 (by omega)
  rw [← hg]
  clear hg
  rcases (show x = 0 ∨ x = 1 ∨ 2 ≤ x by omega) with rfl | rfl | hx2
  · have hcu := H1.out.cu
    have hc := pickI (-1) 4001 B blk 3 3 w2 #[.int .i64 (-1), .int .i64 4001, .int .i64 5] 3 hcu rfl (by decide) (by decide) (by decide)
    obtain ⟨X, hX⟩ : ∃ z, z = w2.alloc (.cells #[.int .i64 (-1), .int .i64 4001, .int .i64 5] 3) := ⟨_, rfl⟩
    replace H1 := Lib.hid (H1.out.below (w2 := X) (by rw [hX]; exact (Below.refl _ _).alloc (Nat.le_refl _) _))
    go_wp2_with (go_at_call 69; refine hc.mono ?_; rintro e w3 ⟨y, hy, rfl, cu, gr⟩; refine Hid.out ?_)
    refine Lib.hid ?_
    rw [← hX] at gr
    replace H1 := Lib.hid (H1.out.turn gr cu)
    clear hc gr cu hX hcu
    obtain ⟨Y, hY⟩ : ∃ Y, Y = w3.setCell ⟨g, 0, none⟩ (.int .i64 y) := ⟨_, rfl⟩
    have H2 : Hid (DK w Y B blk g ⟨y, s, t, u⟩) := Lib.hid (by rw [hY]; exact H1.out.one (heap_setCell_same _ _ 0 _ _ _ H1.out.kd))
    obtain ⟨f0, f1, f2, f3⟩ := H2.out.ft
    have y0 := H1.out.ft.1
    have z0 := H1.out.zt 0
    have Kr := Lib.hid H2.out.kr
    have r0 := tcr Kr 0
    have r1 := tcr Kr 1
    have r2 := tcr Kr 2
    have r3 := tcr Kr 3
    have s0 := tfr Kr 0
    have s1 := tfr Kr 1
    have s2 := tfr Kr 2
    have s3 := tfr Kr 3
    rw [hY] at f0 f1 f2 f3 r0 r1 r2 r3 s0 s1 s2 s3
    clear H1
    have H1 := H2
    clear H2
    have hyn := hY
    go_wp2_with fail
    obtain ⟨j0, q1, q2, q3, q4⟩ := info_parts infoDsk
    rw [← hyn]
    obtain ⟨g1, g2, g3⟩ := H1.out.ret
    refine bodyPost_ret (results_cell_row (P := Try.prog) rfl _ _ w.heap.size _ _ (0, 0) _ rfl g1 Try.underlying26 rfl (by rw [q1]; simp [q3])) rfl (show DrewDsk w B blk OddD _ _ from ⟨⟨y, s, t, u⟩, rfl, ⟨hy, (odd_ok HOK.out).2⟩, g2, g3⟩)
  · have hc := below_any 2 (by omega) B blk w2 H1.out.cu
    go_wp2_with (go_at_call 68; refine hc.mono ?_; rintro e w3 ⟨y, ⟨hy0, hy1, _⟩, rfl, cu, gr⟩; refine Hid.out ?_)
    refine Lib.hid ?_
    replace H1 := Lib.hid (H1.out.turn gr cu)
    have hy1 := hy1 (by omega)
    obtain ⟨y, rfl⟩ := Int.eq_ofNat_of_zero_le hy0
    clear hc gr cu
    obtain ⟨i0, hi, hz0, hz1, hz2⟩ := info_parts infoB
    obtain ⟨w4, hmk, hcv, hb⟩ := make_zeros i0 hi hz0 hz1 hz2 w3 (4000 + (y : Int)) (4000 + y) (by omega) (by omega) (by omega)
    replace H1 := Lib.hid (H1.out.below hb)
    clear hi hz0 hz1 hz2 hb
    obtain ⟨v, hv⟩ : ∃ v, v = txt (List.replicate (4000 + y) 0) := ⟨_, rfl⟩
    have hvz : v.size ≤ 4001 := by rw [hv, txt_size, List.length_replicate]; omega
    rw [← hv] at hcv
    clear hv
    obtain ⟨Y, hY⟩ : ∃ Y, Y = w4.setCell ⟨g, 1, none⟩ (.string v) := ⟨_, rfl⟩
    have H2 : Hid (DK w Y B blk g ⟨o, v, t, u⟩) := Lib.hid (by rw [hY]; exact H1.out.one (heap_setCell_same _ _ 1 _ _ _ H1.out.kd))
    obtain ⟨f0, f1, f2, f3⟩ := H2.out.ft
    have y1 := H1.out.ft.2.1
    have z1 := H1.out.zt 1
    have Kr := Lib.hid H2.out.kr
    have r0 := tcr Kr 0
    have r1 := tcr Kr 1
    have r2 := tcr Kr 2
    have r3 := tcr Kr 3
    have s0 := tfr Kr 0
    have s1 := tfr Kr 1
    have s2 := tfr Kr 2
    have s3 := tfr Kr 3
    rw [hY] at f0 f1 f2 f3 r0 r1 r2 r3 s0 s1 s2 s3
    clear H1
    have H1 := H2
    clear H2
    have hyn := hY
    go_wp2_with fail
    obtain ⟨j0, q1, q2, q3, q4⟩ := info_parts infoDsk
    rw [← hyn]
    obtain ⟨g1, g2, g3⟩ := H1.out.ret
    refine bodyPost_ret (results_cell_row (P := Try.prog) rfl _ _ w.heap.size _ _ (0, 0) _ rfl g1 Try.underlying26 rfl (by rw [q1]; simp [q3])) rfl (show DrewDsk w B blk OddD _ _ from ⟨⟨o, v, t, u⟩, rfl, ⟨(odd_ok HOK.out).1, hvz, (odd_ok HOK.out).2.2⟩, g2, g3⟩)
  · have e0 : (x == 0) = false := by rw [beq_eq_false_iff_ne]; omega
    have e1 : (x == 1) = false := by rw [beq_eq_false_iff_ne]; omega
    obtain ⟨f0, f1, f2, f3⟩ := H1.out.ft
    have Kr := Lib.hid H1.out.kr
    have r0 := tcr Kr 0
    have r1 := tcr Kr 1
    have r2 := tcr Kr 2
    have r3 := tcr Kr 3
    have s0 := tfr Kr 0
    have s1 := tfr Kr 1
    have s2 := tfr Kr 2
    have s3 := tfr Kr 3
    go_wp2_with fail
    obtain ⟨j0, q1, q2, q3, q4⟩ := info_parts infoDsk
    obtain ⟨g1, g2, g3⟩ := H1.out.ret
    refine bodyPost_ret (results_cell_row (P := Try.prog) rfl _ _ w.heap.size _ _ (0, 0) _ rfl g1 Try.underlying26 rfl (by rw [q1]; simp [q3])) rfl (show DrewDsk w B blk OddD _ _ from ⟨⟨o, s, t, u⟩, rfl, odd_ok HOK.out, g2, g3⟩)
end Go.Proofs.Ytkkmjlpeahkiaaa
