/- A drawn Taker, right or not: l08Odd, DrawTakerOk, DrawTaken. Condition: a code of at most 2^20 bytes. -/
import Derived.Test.YtdpjdjkfedcojaaBaseA
import Derived.Test.YtdpjdjkfedcojaaDrawTk
namespace Go.Proofs.Ytdpjdjkfedcojaa
open Go.RowKit
set_option linter.unusedVariables false
set_option linter.unusedSimpArgs false

set_option maxRecDepth 100000 in
set_option maxHeartbeats 8000000 in
theorem odd8_any (B blk : Nat) (w : World) (c : Cu TC w B blk) :
    Calls Try.prog 37 #[.pointer (some ⟨blk, 0, none⟩)] w fun e w' => ∃ (t : Tkr), e = .returned (.agg #[.int .i64 t.of, .int .i64 t.nx, .int .i64 t.ch, .string t.b]) ∧ FitTkr t ∧ t.b.size ≤ 120000 ∧ Cu TC w' B blk ∧ w.grownBy w' (some blk) := by
  have HN := Lib.hid c.lt
  have HLE := Lib.hid c.le
  have CU := Lib.hid c
  have GR : Hid (w.grownBy w (some blk)) := Lib.hid (World.grownBy.refl _ _)
  clear c
  obtain ⟨W0, hW0⟩ : ∃ z, z = w.alloc (.cells #[.int .i64 0, .int .i64 0, .int .i64 0, .string ⟨#[]⟩] 25) := ⟨_, rfl⟩
  have hb : Below w.heap.size w W0 := by rw [hW0]; exact (Below.refl _ _).alloc (Nat.le_refl _) _
  replace GR := Lib.hid (GR.out.trans (grown_of_below hb _))
  replace CU := Lib.hid (CU.out.kept (hb.mono (by have := CU.out.le; have := CU.out.lt; omega)) (hb.block _ CU.out.lt))
  have KR : Hid (W0.heap[w.heap.size]? = some (.cells #[.int .i64 0, .int .i64 0, .int .i64 0, .string ⟨#[]⟩] 25 (0, 0))) := Lib.hid (by rw [hW0]; exact heap_new _ _)
  have LR : Hid (w.heap.size < W0.heap.size) := Lib.hid (by rw [hW0]; simp)
  clear hb
  have HW0 : Hid (w.heap.size < W0.heap.size) := LR
  go_enter Try.func37, Try.ntmps37
  have hc := make8_any B blk W0 CU.out
  rw [hW0] at hc  
  go_wp2_with (go_at_call 31; refine hc.mono ?_; rintro e w1 ⟨t, v, xs, rfl, hok, _, _, _, cu, gr⟩; refine Hid.out ?_)
  refine Lib.hid ?_
  rw [← hW0] at gr
  have HW1 : Hid (W0.heap.size ≤ w1.heap.size) := Lib.hid gr.size
  obtain ⟨hfit, hbz, _⟩ := tk_fit hok
  obtain ⟨vo, vn, vc, vb⟩ := t
  dsimp only at *
  have HF := Lib.hid hfit
  have HBZ := Lib.hid hbz
  clear hfit hbz hok
  replace KR := tkg gr LR KR (by have h1 := HN.out; simp; omega)
  replace LR := tlz LR gr.size
  replace GR := Lib.hid (GR.out.trans gr)
  replace CU := Lib.hid cu
  clear gr cu hc  
  clear hW0
  obtain ⟨X1, hX1⟩ : ∃ z, z = w1.alloc (.cells #[.int .i64 vo, .int .i64 vn, .int .i64 vc, .string vb] 25) := ⟨_, rfl⟩
  have hb : Below w1.heap.size w1 X1 := by rw [hX1]; exact (Below.refl _ _).alloc (Nat.le_refl _) _
  replace KR := tkb hb LR KR
  replace LR := tlz LR hb.size
  replace GR := Lib.hid (GR.out.trans (grown_of_below hb _))
  replace CU := Lib.hid (CU.out.kept (hb.mono (by have := CU.out.le; have := CU.out.lt; omega)) (hb.block _ CU.out.lt))
  have KT : Hid (X1.heap[w1.heap.size]? = some (.cells #[.int .i64 vo, .int .i64 vn, .int .i64 vc, .string vb] 25 (0, 0))) := Lib.hid (by rw [hX1]; exact heap_new _ _)
  have LT : Hid (w1.heap.size < X1.heap.size) := Lib.hid (by rw [hX1]; simp)
  clear hb
  have LT5 : Hid (blk < w1.heap.size) := Lib.hid (by have := HN.out; have := HW0.out; have := HW1.out; omega)
  have LR5 : Hid (w.heap.size < w1.heap.size) := Lib.hid (by have := HW0.out; have := HW1.out; omega)
  have hc := below_any 12 (by omega) _ _ _ CU.out
  rw [hX1] at hc  
  go_wp2_with (go_at_call 32; refine hc.mono ?_; rintro e w2 ⟨x, ⟨hx0, hx1, _⟩, rfl, cu, gr⟩; refine Hid.out ?_)
  refine Lib.hid ?_
  rw [← hX1] at gr
  have hx1 := hx1 (by omega)
  have Hx : Hid (0 ≤ x ∧ x < 12) := Lib.hid ⟨hx0, hx1⟩
  clear hx0 hx1
  replace KR := tkg gr LR KR (by have h1 := HN.out; have h9 := LT5.out; simp; omega)
  replace LR := tlz LR gr.size
  replace KT := tkg gr LT KT (by have h1 := HN.out; have h9 := LT5.out; simp; omega)
  replace LT := tlz LT gr.size
  replace GR := Lib.hid (GR.out.trans gr)
  replace CU := Lib.hid cu
  clear gr cu hc  
  clear hX1
  have hx := Hx.out
  clear Hx
  rcases (show x = 0 ∨ x = 1 ∨ x = 2 ∨ x = 3 ∨ 4 ≤ x by omega) with rfl | rfl | rfl | rfl | hx4
  · have hbg := CU.out.lt
    obtain ⟨XIw3, hXIw3⟩ : ∃ z, z = w2.alloc (.cells #[.int .i64 (-1), .int .i64 0, .int .i64 1, .int .i64 600, .int .i64 601] 3) := ⟨_, rfl⟩
    have hb : Below w2.heap.size w2 XIw3 := by rw [hXIw3]; exact (Below.refl _ _).alloc (Nat.le_refl _) _
    replace KR := tkb hb LR KR
    replace LR := tlz LR hb.size
    replace KT := tkb hb LT KT
    replace LT := tlz LT hb.size
    replace GR := Lib.hid (GR.out.trans (grown_of_below hb _))
    replace CU := Lib.hid (CU.out.kept (hb.mono (by have := CU.out.le; have := CU.out.lt; omega)) (hb.block _ CU.out.lt))
    have KI : Hid (XIw3.heap[w2.heap.size]? = some (.cells #[.int .i64 (-1), .int .i64 0, .int .i64 1, .int .i64 600, .int .i64 601] 3 (0, 0))) := Lib.hid (by rw [hXIw3]; exact heap_new _ _)
    have LI : Hid (w2.heap.size < XIw3.heap.size) := Lib.hid (by rw [hXIw3]; simp)
    clear hb
    have hc := pickInt_any (QF (fun n => decide ((-1) ≤ n ∧ n ≤ (601)))) (w2.heap.size) 5 5 (by omega) (by omega) _ _ _ (by omega) (ints_f _ KI.out (by decide) _ rfl) CU.out
    rw [hXIw3] at hc  
    go_wp2_with (go_at_call 62; refine hc.mono ?_; rintro e w3 ⟨y, hq, rfl, cu, gr⟩; refine Hid.out ?_)
    refine Lib.hid ?_
    rw [← hXIw3] at gr
    have Hy : Hid ((-1) ≤ y ∧ y ≤ (601)) := Lib.hid (qf_of hq)
    clear hq
    replace KR := tkg gr LR KR (by have h1 := HN.out; have h9 := LT5.out; simp; omega)
    replace LR := tlz LR gr.size
    replace KT := tkg gr LT KT (by have h1 := HN.out; have h9 := LT5.out; simp; omega)
    replace LT := tlz LT gr.size
    replace KI := tkg gr LI KI (by have h1 := HN.out; have h9 := LT5.out; simp; omega)
    replace LI := tlz LI gr.size
    replace GR := Lib.hid (GR.out.trans gr)
    replace CU := Lib.hid cu
    clear gr cu hc  
    clear hXIw3
    clear KI LI
    clear hbg
    have hy := Hy.out
    have sT := tcr KT 0
    have sz := tfr KT 0
    obtain ⟨Y, hY⟩ : ∃ Y, Y = w3.setCell ⟨w1.heap.size, 0, none⟩ (.int .i64 y) := ⟨_, rfl⟩
    have gY : w3.grownBy Y (some w1.heap.size) := by rw [hY]; exact grown_set _ _ _
    have KY : Hid (Y.heap[w1.heap.size]? = some (.cells #[.int .i64 y, .int .i64 vn, .int .i64 vc, .string vb] 25 (0, 0))) := Lib.hid (by rw [hY]; exact heap_setCell_same _ _ 0 _ _ _ KT.out)
    have h5 := LR5.out
    have h9 := LT5.out
    have h8 := HN.out
    replace KR := tkg gY LR KR (by simp; omega)
    replace CU := Lib.hid (tk_far CU.out gY (by omega))
    replace GR := Lib.hid (grown_farK GR.out gY (by omega))
    clear h5 h8 h9 gY
    have f0 := tcr KY 0
    have f1 := tcr KY 1
    have f2 := tcr KY 2
    have f3 := tcr KY 3
    have g0 := tcr KR 0
    have g1 := tcr KR 1
    have g2 := tcr KR 2
    have g3 := tcr KR 3
    have z0 := tfr KR 0
    have z1 := tfr KR 1
    have z2 := tfr KR 2
    have z3 := tfr KR 3
    rw [hY] at f0 f1 f2 f3 g0 g1 g2 g3 z0 z1 z2 z3
    go_wp2_with fail
    rw [← hY]
    obtain ⟨j0, q1, q2, q3, q4⟩ := info_parts infoTkr
    have hn := HN.out
    refine bodyPost_ret (results_cell_row (P := Try.prog) rfl _ _ w.heap.size _ _ (0, 0) _ rfl (storeT KR.out) Try.underlying25 rfl (by rw [q1]; simp [q3])) rfl ⟨⟨y, vn, vc, vb⟩, rfl, ⟨⟨by show -9223372036854775808 ≤ y; omega, by show y ≤ 9223372036854775807; omega⟩, HF.out.2.1, HF.out.2.2.1, HF.out.2.2.2⟩, HBZ.out, cu_set4 CU.out (by omega), grown4 GR.out (Nat.le_refl _)⟩
  · have hbg := CU.out.lt
    obtain ⟨XIw3, hXIw3⟩ : ∃ z, z = w2.alloc (.cells #[.int .i64 0, .int .i64 1, .int .i64 2, .int .i64 700] 3) := ⟨_, rfl⟩
    have hb : Below w2.heap.size w2 XIw3 := by rw [hXIw3]; exact (Below.refl _ _).alloc (Nat.le_refl _) _
    replace KR := tkb hb LR KR
    replace LR := tlz LR hb.size
    replace KT := tkb hb LT KT
    replace LT := tlz LT hb.size
    replace GR := Lib.hid (GR.out.trans (grown_of_below hb _))
    replace CU := Lib.hid (CU.out.kept (hb.mono (by have := CU.out.le; have := CU.out.lt; omega)) (hb.block _ CU.out.lt))
    have KI : Hid (XIw3.heap[w2.heap.size]? = some (.cells #[.int .i64 0, .int .i64 1, .int .i64 2, .int .i64 700] 3 (0, 0))) := Lib.hid (by rw [hXIw3]; exact heap_new _ _)
    have LI : Hid (w2.heap.size < XIw3.heap.size) := Lib.hid (by rw [hXIw3]; simp)
    clear hb
    have hc := pickInt_any (QF (fun n => decide ((0) ≤ n ∧ n ≤ (700)))) (w2.heap.size) 4 4 (by omega) (by omega) _ _ _ (by omega) (ints_f _ KI.out (by decide) _ rfl) CU.out
    rw [hXIw3] at hc  
    go_wp2_with (go_at_call 62; refine hc.mono ?_; rintro e w3 ⟨y, hq, rfl, cu, gr⟩; refine Hid.out ?_)
    refine Lib.hid ?_
    rw [← hXIw3] at gr
    have Hy : Hid ((0) ≤ y ∧ y ≤ (700)) := Lib.hid (qf_of hq)
    clear hq
    replace KR := tkg gr LR KR (by have h1 := HN.out; have h9 := LT5.out; simp; omega)
    replace LR := tlz LR gr.size
    replace KT := tkg gr LT KT (by have h1 := HN.out; have h9 := LT5.out; simp; omega)
    replace LT := tlz LT gr.size
    replace KI := tkg gr LI KI (by have h1 := HN.out; have h9 := LT5.out; simp; omega)
    replace LI := tlz LI gr.size
    replace GR := Lib.hid (GR.out.trans gr)
    replace CU := Lib.hid cu
    clear gr cu hc  
    clear hXIw3
    clear KI LI
    clear hbg
    have hy := Hy.out
    have sT := tcr KT 1
    have sz := tfr KT 1
    obtain ⟨Y, hY⟩ : ∃ Y, Y = w3.setCell ⟨w1.heap.size, 1, none⟩ (.int .i64 y) := ⟨_, rfl⟩
    have gY : w3.grownBy Y (some w1.heap.size) := by rw [hY]; exact grown_set _ _ _
    have KY : Hid (Y.heap[w1.heap.size]? = some (.cells #[.int .i64 vo, .int .i64 y, .int .i64 vc, .string vb] 25 (0, 0))) := Lib.hid (by rw [hY]; exact heap_setCell_same _ _ 1 _ _ _ KT.out)
    have h5 := LR5.out
    have h9 := LT5.out
    have h8 := HN.out
    replace KR := tkg gY LR KR (by simp; omega)
    replace CU := Lib.hid (tk_far CU.out gY (by omega))
    replace GR := Lib.hid (grown_farK GR.out gY (by omega))
    clear h5 h8 h9 gY
    have f0 := tcr KY 0
    have f1 := tcr KY 1
    have f2 := tcr KY 2
    have f3 := tcr KY 3
    have g0 := tcr KR 0
    have g1 := tcr KR 1
    have g2 := tcr KR 2
    have g3 := tcr KR 3
    have z0 := tfr KR 0
    have z1 := tfr KR 1
    have z2 := tfr KR 2
    have z3 := tfr KR 3
    rw [hY] at f0 f1 f2 f3 g0 g1 g2 g3 z0 z1 z2 z3
    go_wp2_with fail
    rw [← hY]
    obtain ⟨j0, q1, q2, q3, q4⟩ := info_parts infoTkr
    have hn := HN.out
    refine bodyPost_ret (results_cell_row (P := Try.prog) rfl _ _ w.heap.size _ _ (0, 0) _ rfl (storeT KR.out) Try.underlying25 rfl (by rw [q1]; simp [q3])) rfl ⟨⟨vo, y, vc, vb⟩, rfl, ⟨HF.out.1, ⟨by show -9223372036854775808 ≤ y; omega, by show y ≤ 9223372036854775807; omega⟩, HF.out.2.2.1, HF.out.2.2.2⟩, HBZ.out, cu_set4 CU.out (by omega), grown4 GR.out (Nat.le_refl _)⟩
  · have hbg := CU.out.lt
    obtain ⟨XIw3, hXIw3⟩ : ∃ z, z = w2.alloc (.cells #[.int .i64 (-1), .int .i64 0, .int .i64 4294967296] 3) := ⟨_, rfl⟩
    have hb : Below w2.heap.size w2 XIw3 := by rw [hXIw3]; exact (Below.refl _ _).alloc (Nat.le_refl _) _
    replace KR := tkb hb LR KR
    replace LR := tlz LR hb.size
    replace KT := tkb hb LT KT
    replace LT := tlz LT hb.size
    replace GR := Lib.hid (GR.out.trans (grown_of_below hb _))
    replace CU := Lib.hid (CU.out.kept (hb.mono (by have := CU.out.le; have := CU.out.lt; omega)) (hb.block _ CU.out.lt))
    have KI : Hid (XIw3.heap[w2.heap.size]? = some (.cells #[.int .i64 (-1), .int .i64 0, .int .i64 4294967296] 3 (0, 0))) := Lib.hid (by rw [hXIw3]; exact heap_new _ _)
    have LI : Hid (w2.heap.size < XIw3.heap.size) := Lib.hid (by rw [hXIw3]; simp)
    clear hb
    have hc := pickInt_any (QF (fun n => decide ((-1) ≤ n ∧ n ≤ (4294967296)))) (w2.heap.size) 3 3 (by omega) (by omega) _ _ _ (by omega) (ints_f _ KI.out (by decide) _ rfl) CU.out
    rw [hXIw3] at hc  
    go_wp2_with (go_at_call 62; refine hc.mono ?_; rintro e w3 ⟨y, hq, rfl, cu, gr⟩; refine Hid.out ?_)
    refine Lib.hid ?_
    rw [← hXIw3] at gr
    have Hy : Hid ((-1) ≤ y ∧ y ≤ (4294967296)) := Lib.hid (qf_of hq)
    clear hq
    replace KR := tkg gr LR KR (by have h1 := HN.out; have h9 := LT5.out; simp; omega)
    replace LR := tlz LR gr.size
    replace KT := tkg gr LT KT (by have h1 := HN.out; have h9 := LT5.out; simp; omega)
    replace LT := tlz LT gr.size
    replace KI := tkg gr LI KI (by have h1 := HN.out; have h9 := LT5.out; simp; omega)
    replace LI := tlz LI gr.size
    replace GR := Lib.hid (GR.out.trans gr)
    replace CU := Lib.hid cu
    clear gr cu hc  
    clear hXIw3
    clear KI LI
    clear hbg
    have hy := Hy.out
    have sT := tcr KT 2
    have sz := tfr KT 2
    obtain ⟨Y, hY⟩ : ∃ Y, Y = w3.setCell ⟨w1.heap.size, 2, none⟩ (.int .i64 y) := ⟨_, rfl⟩
    have gY : w3.grownBy Y (some w1.heap.size) := by rw [hY]; exact grown_set _ _ _
    have KY : Hid (Y.heap[w1.heap.size]? = some (.cells #[.int .i64 vo, .int .i64 vn, .int .i64 y, .string vb] 25 (0, 0))) := Lib.hid (by rw [hY]; exact heap_setCell_same _ _ 2 _ _ _ KT.out)
    have h5 := LR5.out
    have h9 := LT5.out
    have h8 := HN.out
    replace KR := tkg gY LR KR (by simp; omega)
    replace CU := Lib.hid (tk_far CU.out gY (by omega))
    replace GR := Lib.hid (grown_farK GR.out gY (by omega))
    clear h5 h8 h9 gY
    have f0 := tcr KY 0
    have f1 := tcr KY 1
    have f2 := tcr KY 2
    have f3 := tcr KY 3
    have g0 := tcr KR 0
    have g1 := tcr KR 1
    have g2 := tcr KR 2
    have g3 := tcr KR 3
    have z0 := tfr KR 0
    have z1 := tfr KR 1
    have z2 := tfr KR 2
    have z3 := tfr KR 3
    rw [hY] at f0 f1 f2 f3 g0 g1 g2 g3 z0 z1 z2 z3
    go_wp2_with fail
    rw [← hY]
    obtain ⟨j0, q1, q2, q3, q4⟩ := info_parts infoTkr
    have hn := HN.out
    refine bodyPost_ret (results_cell_row (P := Try.prog) rfl _ _ w.heap.size _ _ (0, 0) _ rfl (storeT KR.out) Try.underlying25 rfl (by rw [q1]; simp [q3])) rfl ⟨⟨vo, vn, y, vb⟩, rfl, ⟨HF.out.1, HF.out.2.1, ⟨by show -9223372036854775808 ≤ y; omega, by show y ≤ 9223372036854775807; omega⟩, HF.out.2.2.2⟩, HBZ.out, cu_set4 CU.out (by omega), grown4 GR.out (Nat.le_refl _)⟩
  · have hc := below_any 4 (by omega) _ _ _ CU.out
    go_wp2_with (go_at_call 32; refine hc.mono ?_; rintro e w3 ⟨z, ⟨hx0, hx1, _⟩, rfl, cu, gr⟩; refine Hid.out ?_)
    refine Lib.hid ?_
    have hx1 := hx1 (by omega)
    have Hz : Hid (0 ≤ z ∧ z < 4) := Lib.hid ⟨hx0, hx1⟩
    clear hx0 hx1
    replace KR := tkg gr LR KR (by have h1 := HN.out; have h9 := LT5.out; simp; omega)
    replace LR := tlz LR gr.size
    replace KT := tkg gr LT KT (by have h1 := HN.out; have h9 := LT5.out; simp; omega)
    replace LT := tlz LT gr.size
    replace GR := Lib.hid (GR.out.trans gr)
    replace CU := Lib.hid cu
    clear gr cu hc  
    have hz := Hz.out
    obtain ⟨m, rfl⟩ := Int.eq_ofNat_of_zero_le hz.1
    have hm : m < 4 := by omega
    clear Hz hz
    have hc := text_eq m (by omega) _ _ _ CU.out
    go_wp2_with (go_at_call 68; refine hc.mono ?_; rintro e w4 ⟨u, hu, rfl, cu, gr⟩; refine Hid.out ?_)
    refine Lib.hid ?_
    replace KR := tkg gr LR KR (by have h1 := HN.out; have h9 := LT5.out; simp; omega)
    replace LR := tlz LR gr.size
    replace KT := tkg gr LT KT (by have h1 := HN.out; have h9 := LT5.out; simp; omega)
    replace LT := tlz LT gr.size
    replace GR := Lib.hid (GR.out.trans gr)
    replace CU := Lib.hid cu
    clear gr cu hc  
    have sT := tcr KT 3
    have sz := tfr KT 3
    obtain ⟨Y, hY⟩ : ∃ Y, Y = w4.setCell ⟨w1.heap.size, 3, none⟩ (.string u) := ⟨_, rfl⟩
    have gY : w4.grownBy Y (some w1.heap.size) := by rw [hY]; exact grown_set _ _ _
    have KY : Hid (Y.heap[w1.heap.size]? = some (.cells #[.int .i64 vo, .int .i64 vn, .int .i64 vc, .string u] 25 (0, 0))) := Lib.hid (by rw [hY]; exact heap_setCell_same _ _ 3 _ _ _ KT.out)
    have h5 := LR5.out
    have h9 := LT5.out
    have h8 := HN.out
    replace KR := tkg gY LR KR (by simp; omega)
    replace CU := Lib.hid (tk_far CU.out gY (by omega))
    replace GR := Lib.hid (grown_farK GR.out gY (by omega))
    clear h5 h8 h9 gY
    have f0 := tcr KY 0
    have f1 := tcr KY 1
    have f2 := tcr KY 2
    have f3 := tcr KY 3
    have g0 := tcr KR 0
    have g1 := tcr KR 1
    have g2 := tcr KR 2
    have g3 := tcr KR 3
    have z0 := tfr KR 0
    have z1 := tfr KR 1
    have z2 := tfr KR 2
    have z3 := tfr KR 3
    rw [hY] at f0 f1 f2 f3 g0 g1 g2 g3 z0 z1 z2 z3
    go_wp2_with fail
    rw [← hY]
    obtain ⟨j0, q1, q2, q3, q4⟩ := info_parts infoTkr
    have hn := HN.out
    refine bodyPost_ret (results_cell_row (P := Try.prog) rfl _ _ w.heap.size _ _ (0, 0) _ rfl (storeT KR.out) Try.underlying25 rfl (by rw [q1]; simp [q3])) rfl ⟨⟨vo, vn, vc, u⟩, rfl, ⟨HF.out.1, HF.out.2.1, HF.out.2.2.1, by show u.size ≤ _; unfold maxLen; omega⟩, by show u.size ≤ _; omega, cu_set4 CU.out (by omega), grown4 GR.out (Nat.le_refl _)⟩
  · have d0 : (x == 0) = false := by rw [beq_eq_false_iff_ne]; omega
    have d1 : (x == 1) = false := by rw [beq_eq_false_iff_ne]; omega
    have d2 : (x == 2) = false := by rw [beq_eq_false_iff_ne]; omega
    have d3 : (x == 3) = false := by rw [beq_eq_false_iff_ne]; omega
    have f0 := tcr KT 0
    have f1 := tcr KT 1
    have f2 := tcr KT 2
    have f3 := tcr KT 3
    have g0 := tcr KR 0
    have g1 := tcr KR 1
    have g2 := tcr KR 2
    have g3 := tcr KR 3
    have z0 := tfr KR 0
    have z1 := tfr KR 1
    have z2 := tfr KR 2
    have z3 := tfr KR 3
    go_wp2_with fail
    obtain ⟨j0, q1, q2, q3, q4⟩ := info_parts infoTkr
    have hn := HN.out
    refine bodyPost_ret (results_cell_row (P := Try.prog) rfl _ _ w.heap.size _ _ (0, 0) _ rfl (storeT KR.out) Try.underlying25 rfl (by rw [q1]; simp [q3])) rfl ⟨⟨vo, vn, vc, vb⟩, rfl, HF.out, HBZ.out, cu_set4 CU.out (by omega), grown4 GR.out (Nat.le_refl _)⟩
set_option maxRecDepth 100000 in
set_option maxHeartbeats 8000000 in
theorem drawDrawTakerOk_any (a : Option Addr) (len cap : Nat) (zs : List Int) (w : World) (hr : Row8 w w.heap.size a len cap zs) (hl : len ≤ 1048576) :
    Calls Try.prog 13 #[.slice a len cap] w fun e w' => ∃ (t : Tkr), e = .returned (.agg #[.int .i64 t.of, .int .i64 t.nx, .int .i64 t.ch, .string t.b]) ∧ FitTkr t ∧ t.b.size ≤ 120000 ∧ Below w.heap.size w w' := by
  obtain ⟨W, hW⟩ : ∃ W, W = w.alloc (.cells #[.int .i64 0, .int .i64 0, .int .i64 0, .string ⟨#[]⟩] 25) := ⟨_, rfl⟩
  have bW : Below w.heap.size w W := by rw [hW]; exact (Below.refl _ _).alloc (Nat.le_refl _) _
  have KR : Hid (W.heap[w.heap.size]? = some (.cells #[.int .i64 0, .int .i64 0, .int .i64 0, .string ⟨#[]⟩] 25 (0, 0))) := Lib.hid (by rw [hW]; exact heap_new _ _)
  have LR : Hid (w.heap.size < W.heap.size) := Lib.hid (by rw [hW]; simp)
  have hc := new_any a len cap zs W (hr.later bW) hl
  rw [hW] at hc
  have BB := Lib.hid bW
  clear hr bW
  go_enter Try.func13, Try.ntmps13
  go_wp2_with (go_at_call 30; refine hc.mono ?_; rintro e w1 ⟨rfl, cu, hb⟩; refine Hid.out ?_)
  refine Lib.hid ?_
  have hWs : W.heap.size = w.heap.size + 1 := by rw [hW]; simp
  rw [← hW] at cu hb
  rw [hWs] at cu
  clear hc hW
  replace KR := tkb hb LR KR
  replace LR := tlz LR hb.size
  replace BB := tbt BB hb
  have CU := Lib.hid cu
  clear hb cu
  have hc := odd8_any _ _ _ CU.out
  go_wp2_with (go_at_call 37; refine hc.mono ?_; rintro e w2 ⟨t, rfl, hf, hbz, cu, gr⟩; refine Hid.out ?_)
  refine Lib.hid ?_
  replace KR := tkg gr LR KR (by simp)
  replace BB := Lib.hid (BB.out.grown gr BB.out.size (fun j e => by cases e; omega))
  clear hc gr cu CU
  obtain ⟨vo, vn, vc, vb⟩ := t
  dsimp only at hbz ⊢
  have HF := Lib.hid hf
  clear hf
  have g0 := tcr KR 0
  have g1 := tcr KR 1
  have g2 := tcr KR 2
  have g3 := tcr KR 3
  have z0 := tfr KR 0
  have z1 := tfr KR 1
  have z2 := tfr KR 2
  have z3 := tfr KR 3
  go_wp2_with fail
  obtain ⟨j0, q1, q2, q3, q4⟩ := info_parts infoTkr
  refine bodyPost_ret (results_cell_row (P := Try.prog) rfl _ _ w.heap.size _ _ (0, 0) _ rfl (storeT KR.out) Try.underlying25 rfl (by rw [q1]; simp [q3])) rfl ⟨⟨vo, vn, vc, vb⟩, rfl, HF.out, hbz, below4 BB.out (Nat.le_refl _)⟩
set_option maxRecDepth 100000 in
set_option maxHeartbeats 8000000 in
theorem drawDrawTaken_any (a : Option Addr) (len cap : Nat) (zs : List Int) (w : World) (hr : Row8 w w.heap.size a len cap zs) (hl : len ≤ 1048576) :
    Calls Try.prog 16 #[.slice a len cap] w fun e w' => ∃ (t : Tkr), e = .returned (.agg #[.int .i64 t.of, .int .i64 t.nx, .int .i64 t.ch, .string t.b]) ∧ FitTkr t ∧ t.b.size ≤ 120000 ∧ Below w.heap.size w w' := by
  obtain ⟨W, hW⟩ : ∃ W, W = w.alloc (.cells #[.int .i64 0, .int .i64 0, .int .i64 0, .string ⟨#[]⟩] 25) := ⟨_, rfl⟩
  have bW : Below w.heap.size w W := by rw [hW]; exact (Below.refl _ _).alloc (Nat.le_refl _) _
  have KR : Hid (W.heap[w.heap.size]? = some (.cells #[.int .i64 0, .int .i64 0, .int .i64 0, .string ⟨#[]⟩] 25 (0, 0))) := Lib.hid (by rw [hW]; exact heap_new _ _)
  have LR : Hid (w.heap.size < W.heap.size) := Lib.hid (by rw [hW]; simp)
  have hc := new_any a len cap zs W (hr.later bW) hl
  rw [hW] at hc
  have BB := Lib.hid bW
  clear hr bW
  go_enter Try.func16, Try.ntmps16
  go_wp2_with (go_at_call 30; refine hc.mono ?_; rintro e w1 ⟨rfl, cu, hb⟩; refine Hid.out ?_)
  refine Lib.hid ?_
  have hWs : W.heap.size = w.heap.size + 1 := by rw [hW]; simp
  rw [← hW] at cu hb
  rw [hWs] at cu
  clear hc hW
  replace KR := tkb hb LR KR
  replace LR := tlz LR hb.size
  replace BB := tbt BB hb
  have CU := Lib.hid cu
  clear hb cu
  have hc := odd8_any _ _ _ CU.out
  go_wp2_with (go_at_call 37; refine hc.mono ?_; rintro e w2 ⟨t, rfl, hf, hbz, cu, gr⟩; refine Hid.out ?_)
  refine Lib.hid ?_
  replace KR := tkg gr LR KR (by simp)
  replace BB := Lib.hid (BB.out.grown gr BB.out.size (fun j e => by cases e; omega))
  clear hc gr cu CU
  obtain ⟨vo, vn, vc, vb⟩ := t
  dsimp only at hbz ⊢
  have HF := Lib.hid hf
  clear hf
  have g0 := tcr KR 0
  have g1 := tcr KR 1
  have g2 := tcr KR 2
  have g3 := tcr KR 3
  have z0 := tfr KR 0
  have z1 := tfr KR 1
  have z2 := tfr KR 2
  have z3 := tfr KR 3
  go_wp2_with fail
  obtain ⟨j0, q1, q2, q3, q4⟩ := info_parts infoTkr
  refine bodyPost_ret (results_cell_row (P := Try.prog) rfl _ _ w.heap.size _ _ (0, 0) _ rfl (storeT KR.out) Try.underlying25 rfl (by rw [q1]; simp [q3])) rfl ⟨⟨vo, vn, vc, vb⟩, rfl, HF.out, hbz, below4 BB.out (Nat.le_refl _)⟩
end Go.Proofs.Ytdpjdjkfedcojaa
