/- The draws of this chapter: pieces, texts with sizes. Condition: a code of at most 2^20 bytes. -/
import Derived.Test.YtlklhmdpkicpnaaBaseA
import Derived.Test.YtlklhmdpkicpnaaText
import Derived.Test.YtlklhmdpkicpnaaCurA
import Derived.Test.YtlklhmdpkicpnaaDrawInt
import Derived.Test.YtlklhmdpkicpnaaMakeZeros
import Derived.Test.YtlklhmdpkicpnaaSpecGet
import Derived.Test.YtlklhmdpkicpnaaDrawFmt
namespace Go.Proofs.Ytlklhmdpkicpnaa
open Go.RowKit
set_option linter.unusedVariables false
set_option linter.unusedSimpArgs false

def QF (f : Int → Bool) (v : Value) : Prop := ∃ n : Int, v = .int .i64 n ∧ f n = true
def okF (f : Int → Bool) : Value → Bool
  | .int .i64 n => f n
  | _ => false
theorem ints_f {w : World} {g : Nat} {cs : Array Value} {t : TypeId} (f : Int → Bool) (h : w.heap[g]? = some (.cells cs t (0, 0))) (hs : cs.toList.all (okF f) = true) (n : Nat) (hn : n = cs.size) : ∀ j, j < n → ∃ s : Int, w.cell? ⟨g, j, none⟩ = some (.int .i64 s) ∧ QF f (.int .i64 s) := by
  subst hn
  intro j hj
  have hc := cell_of_row w g j _ _ _ h
  rw [Array.getElem?_eq_getElem hj] at hc
  have h1 := List.all_eq_true.1 hs cs[j] (by simp)
  revert h1 hc
  cases cs[j] <;> intro hc h1 <;> simp [okF] at h1
  rename_i k n
  cases k <;> simp [okF] at h1
  exact ⟨n, hc, n, rfl, h1⟩
theorem qf_of {lo hi x : Int} (h : QF (fun n => decide (lo ≤ n ∧ n ≤ hi)) (.int .i64 x)) : lo ≤ x ∧ x ≤ hi := by
  obtain ⟨n, h1, h2⟩ := h
  cases h1
  exact of_decide_eq_true h2
theorem cu_set4 {w : World} {g : Nat} {x y z u : Value} {B blk : Nat} (c : Cu TC w B blk) (h : blk < g) : Cu TC ((((w.setCell ⟨g, 0, none⟩ x).setCell ⟨g, 1, none⟩ y).setCell ⟨g, 2, none⟩ z).setCell ⟨g, 3, none⟩ u) B blk :=
  c.kept (below4 (Below.refl _ _) (by have := c.le; omega)) (by rw [Below.heap_setCell _ _ _ _ (by simp; omega), Below.heap_setCell _ _ _ _ (by simp; omega), Below.heap_setCell _ _ _ _ (by simp; omega), Below.heap_setCell _ _ _ _ (by simp; omega)])
theorem grown4 {w0 w : World} {g blk : Nat} {x y z u : Value} (h : w0.grownBy w (some blk)) (hg : w0.heap.size ≤ g) : w0.grownBy ((((w.setCell ⟨g, 0, none⟩ x).setCell ⟨g, 1, none⟩ y).setCell ⟨g, 2, none⟩ z).setCell ⟨g, 3, none⟩ u) (some blk) :=
  grown_far (grown_far (grown_far (grown_far h (grown_set _ ⟨g, 0, none⟩ _) hg) (grown_set _ ⟨g, 1, none⟩ _) hg) (grown_set _ ⟨g, 2, none⟩ _) hg) (grown_set _ ⟨g, 3, none⟩ _) hg
set_option maxRecDepth 100000 in
set_option maxHeartbeats 4000000 in
theorem piece_any (B blk : Nat) (w : World) (c : Cu TC w B blk) :
    Calls Try.prog 62 #[.pointer (some ⟨blk, 0, none⟩)] w fun e w' => ∃ p : Pc, pcOk p = true ∧ e = .returned (pcV p) ∧ Cu TC w' B blk ∧ w.grownBy w' (some blk) := by
  have LT := c.lt
  have HN : Hid (blk < w.heap.size) := Lib.hid LT
  have CU := Lib.hid c
  have GR : Hid (w.grownBy w (some blk)) := Lib.hid ⟨rfl, rfl, rfl, Nat.le_refl _, fun _ _ _ => rfl⟩
  clear c LT
  obtain ⟨W, hW⟩ : ∃ z, z = w.alloc (.cells #[.int .i64 0, .int .i64 0, .string ⟨#[]⟩, .int .i64 0] 25) := ⟨_, rfl⟩
  have hb : Below w.heap.size w W := by rw [hW]; exact (Below.refl _ _).alloc (Nat.le_refl _) _
  replace GR := Lib.hid (GR.out.trans (grown_of_below hb _))
  replace CU := Lib.hid (CU.out.kept (hb.mono (by have := CU.out.le; have := CU.out.lt; omega)) (hb.block _ CU.out.lt))
  have KR : Hid (W.heap[w.heap.size]? = some (.cells #[.int .i64 0, .int .i64 0, .string ⟨#[]⟩, .int .i64 0] 25 (0, 0))) := Lib.hid (by rw [hW]; exact heap_new _ _)
  have LR : Hid (w.heap.size < W.heap.size) := Lib.hid (by rw [hW]; simp)
  clear hb
  go_enter Try.func62, Try.ntmps62
  have hc := below_any 4 (by omega) _ _ _ CU.out
  rw [hW] at hc  
  go_wp2_with (go_at_call 63; refine hc.mono ?_; rintro e w1 ⟨x, ⟨hx0, hx1, _⟩, rfl, cu, gr⟩; refine Hid.out ?_)
  refine Lib.hid ?_
  rw [← hW] at gr
  have hx1 := hx1 (by omega)
  have Hx : Hid (0 ≤ x ∧ x < 4) := Lib.hid ⟨hx0, hx1⟩
  clear hx0 hx1
  replace KR := tkg gr LR KR (by have h1 := HN.out; simp; omega)
  replace LR := tlz LR gr.size
  replace GR := Lib.hid (GR.out.trans gr)
  replace CU := Lib.hid cu
  clear gr cu hc  
  clear hW
  have hx := Hx.out
  have hc := below_any (1 + x) (by omega) _ _ _ CU.out
  go_wp2_with (go_at_call 63; refine hc.mono ?_; rintro e w2 ⟨y, ⟨hx0, hx1, _⟩, rfl, cu, gr⟩; refine Hid.out ?_)
  refine Lib.hid ?_
  have hx1 := hx1 (by omega)
  have Hy : Hid (0 ≤ y ∧ y < (1 + x)) := Lib.hid ⟨hx0, hx1⟩
  clear hx0 hx1
  replace KR := tkg gr LR KR (by have h1 := HN.out; simp; omega)
  replace LR := tlz LR gr.size
  replace GR := Lib.hid (GR.out.trans gr)
  replace CU := Lib.hid cu
  clear gr cu hc  
  have hy := Hy.out
  have hc := below_any 6 (by omega) _ _ _ CU.out
  go_wp2_with (go_at_call 63; refine hc.mono ?_; rintro e w3 ⟨z, ⟨hx0, hx1, _⟩, rfl, cu, gr⟩; refine Hid.out ?_)
  refine Lib.hid ?_
  have hx1 := hx1 (by omega)
  have Hz : Hid (0 ≤ z ∧ z < 6) := Lib.hid ⟨hx0, hx1⟩
  clear hx0 hx1
  replace KR := tkg gr LR KR (by have h1 := HN.out; simp; omega)
  replace LR := tlz LR gr.size
  replace GR := Lib.hid (GR.out.trans gr)
  replace CU := Lib.hid cu
  clear gr cu hc  
  have hz := Hz.out
  obtain ⟨m, rfl⟩ := Int.eq_ofNat_of_zero_le hz.1
  have hm : m < 6 := by omega
  have hc := text_eq (1 + m) (by omega) _ _ _ CU.out
  rw [show ((1 + m : Nat) : Int) = 1 + (m : Int) by omega] at hc
  go_wp2_with (go_at_call 83; refine hc.mono ?_; rintro e w4 ⟨t, ht, rfl, cu, gr⟩; refine Hid.out ?_)
  refine Lib.hid ?_
  replace KR := tkg gr LR KR (by have h1 := HN.out; simp; omega)
  replace LR := tlz LR gr.size
  replace GR := Lib.hid (GR.out.trans gr)
  replace CU := Lib.hid cu
  clear gr cu hc  
  have hc := below_any 100000 (by omega) _ _ _ CU.out
  go_wp2_with (go_at_call 63; refine hc.mono ?_; rintro e w5 ⟨u, ⟨hx0, hx1, _⟩, rfl, cu, gr⟩; refine Hid.out ?_)
  refine Lib.hid ?_
  have hx1 := hx1 (by omega)
  have Hu : Hid (0 ≤ u ∧ u < 100000) := Lib.hid ⟨hx0, hx1⟩
  clear hx0 hx1
  replace KR := tkg gr LR KR (by have h1 := HN.out; simp; omega)
  replace LR := tlz LR gr.size
  replace GR := Lib.hid (GR.out.trans gr)
  replace CU := Lib.hid cu
  clear gr cu hc  
  have hu := Hu.out
  have fR0 := tcr KR 0
  have fR1 := tcr KR 1
  have fR2 := tcr KR 2
  have fR3 := tcr KR 3
  have zR0 := tfr KR 0
  have zR1 := tfr KR 1
  have zR2 := tfr KR 2
  have zR3 := tfr KR 3
  go_wp2_with fail
  have hok : pcOk ⟨1 + y, 1 + x, t, u⟩ = true := by
    have t1 : inB (1 + x) 1 600 = true := by unfold inB; simp; omega
    have t2 : inB (1 + y) 1 (1 + x) = true := by unfold inB; simp; omega
    have t3 : inB (t.size : Int) 1 200 = true := by unfold inB; simp; omega
    have t4 : inB u 0 4294967295 = true := by unfold inB; simp; omega
    unfold pcOk
    dsimp only
    rw [t1, t2, t3, t4]; rfl
  obtain ⟨j0, q1, q2, q3, q4⟩ := info_parts infoPc
  refine bodyPost_ret (results_cell_row (P := Try.prog) rfl _ _ w.heap.size _ _ (0, 0) _ rfl (store4 KR.out) Try.underlying25 rfl (by rw [q1]; simp [q3])) rfl ⟨⟨1 + y, 1 + x, t, u⟩, hok, rfl, cu_set4 CU.out HN.out, grown4 GR.out (Nat.le_refl _)⟩
theorem piece_lit (B blk : Nat) (w : World) (c : Cu TC w B blk) :
    Calls Try.prog 62 #[.pointer (some ⟨blk, 0, none⟩)] w fun e w' => ∃ no of b ch, pcOk ⟨no, of, b, ch⟩ = true ∧ e = .returned (.agg #[.int .i64 no, .int .i64 of, .string b, .int .i64 ch]) ∧ Cu TC w' B blk ∧ w.grownBy w' (some blk) :=
  (piece_any B blk w c).mono (fun e w' h => by obtain ⟨⟨no, of, b, ch⟩, h1, h2, h3⟩ := h; exact ⟨no, of, b, ch, h1, h2, h3⟩)
/-- 'string(make([]byte, n))'. -/
theorem make_text (w : World) (N : Int) (h0 : 0 ≤ N) (h1 : N ≤ 10000) : ∃ (w' : World) (s : ByteArray) (n : Nat), (Instr.makeSlice 22 (.int .i64 N) (.int .i64 N)).run Try.prog w = .ok (.slice (some ⟨w.heap.size, 0, none⟩) n n) w' ∧ (convert 22 9 (.slice (some ⟨w.heap.size, 0, none⟩) n n)).run Try.prog w' = .ok (.string s) w' ∧ (s.size : Int) = N ∧ Below w.heap.size w w' := by
  obtain ⟨i0, hi, hz0, hz1, hz2⟩ := info_parts infoB
  obtain ⟨n, rfl⟩ := Int.eq_ofNat_of_zero_le h0
  rcases Nat.eq_zero_or_pos n with rfl | hn
  · obtain ⟨w', hrun, hown, hgr⟩ := run_make_full (P := Try.prog) w w.heap.size 22 5 i0 (.int .u8 0) 1 Try.underlying22 hi hz0 hz1 .i64 .i64 0 (by rw [hz2]; omega) (by unfold maxLen; omega) (Nat.le_refl _)
    exact ⟨w', ⟨#[]⟩, 0, hrun, run_convert_bytes_back (P := Try.prog) w' 22 9 5 ⟨w.heap.size, 0, none⟩ 0 [] Try.underlying22 Try.underlying5 Try.underlying9 (fun j hj => by simp at hj), rfl, (Below.refl _ _).grown hgr (Nat.le_refl _) (fun k hk => by cases hk)⟩
  · obtain ⟨w', hmk, hcv, hb⟩ := make_zeros i0 hi hz0 hz1 hz2 w n n rfl (by omega) hn
    exact ⟨w', _, n, hmk, hcv, by rw [txt_size]; simp, hb⟩
set_option maxRecDepth 100000 in
set_option maxHeartbeats 4000000 in
theorem oddPc_any (B blk : Nat) (w : World) (c : Cu TC w B blk) :
    Calls Try.prog 58 #[.pointer (some ⟨blk, 0, none⟩)] w fun e w' => ∃ no of b ch, FitPc ⟨no, of, b, ch⟩ ∧ e = .returned (.agg #[.int .i64 no, .int .i64 of, .string b, .int .i64 ch]) ∧ Cu TC w' B blk ∧ w.grownBy w' (some blk) := by
  have LT := c.lt
  have HN : Hid (blk < w.heap.size) := Lib.hid LT
  have CU := Lib.hid c
  have GR : Hid (w.grownBy w (some blk)) := Lib.hid ⟨rfl, rfl, rfl, Nat.le_refl _, fun _ _ _ => rfl⟩
  clear c LT
  obtain ⟨W, hW⟩ : ∃ z, z = w.alloc (.cells #[.int .i64 0, .int .i64 0, .string ⟨#[]⟩, .int .i64 0] 25) := ⟨_, rfl⟩
  have hb : Below w.heap.size w W := by rw [hW]; exact (Below.refl _ _).alloc (Nat.le_refl _) _
  replace GR := Lib.hid (GR.out.trans (grown_of_below hb _))
  replace CU := Lib.hid (CU.out.kept (hb.mono (by have := CU.out.le; have := CU.out.lt; omega)) (hb.block _ CU.out.lt))
  have KR : Hid (W.heap[w.heap.size]? = some (.cells #[.int .i64 0, .int .i64 0, .string ⟨#[]⟩, .int .i64 0] 25 (0, 0))) := Lib.hid (by rw [hW]; exact heap_new _ _)
  have LR : Hid (w.heap.size < W.heap.size) := Lib.hid (by rw [hW]; simp)
  clear hb
  go_enter Try.func58, Try.ntmps58
  have hc := piece_lit _ _ _ CU.out
  rw [hW] at hc  
  go_wp2_with (go_at_call 62; refine hc.mono ?_; rintro e w1 ⟨no, of, pb, pch, hok, rfl, cu, gr⟩; refine Hid.out ?_)
  refine Lib.hid ?_
  rw [← hW] at gr
  have Hok := Lib.hid (pc_in hok)
  clear hok
  replace KR := tkg gr LR KR (by have h1 := HN.out; simp; omega)
  replace LR := tlz LR gr.size
  replace GR := Lib.hid (GR.out.trans gr)
  replace CU := Lib.hid cu
  clear gr cu hc  
  clear hW
  have hlr := LR.out
  obtain ⟨X1, hX1⟩ : ∃ z, z = w1.alloc (.cells #[.int .i64 no, .int .i64 of, .string pb, .int .i64 pch] 25) := ⟨_, rfl⟩
  have hb : Below w1.heap.size w1 X1 := by rw [hX1]; exact (Below.refl _ _).alloc (Nat.le_refl _) _
  replace KR := tkb hb LR KR
  replace LR := tlz LR hb.size
  replace GR := Lib.hid (GR.out.trans (grown_of_below hb _))
  replace CU := Lib.hid (CU.out.kept (hb.mono (by have := CU.out.le; have := CU.out.lt; omega)) (hb.block _ CU.out.lt))
  have KX : Hid (X1.heap[w1.heap.size]? = some (.cells #[.int .i64 no, .int .i64 of, .string pb, .int .i64 pch] 25 (0, 0))) := Lib.hid (by rw [hX1]; exact heap_new _ _)
  have LX : Hid (w1.heap.size < X1.heap.size) := Lib.hid (by rw [hX1]; simp)
  clear hb
  have Hlx : Hid (w.heap.size < w1.heap.size) := Lib.hid hlr
  clear hlr
  have hc := below_any 10 (by omega) _ _ _ CU.out
  rw [hX1] at hc  
  go_wp2_with (go_at_call 63; refine hc.mono ?_; rintro e w2 ⟨x, ⟨hx0, hx1, _⟩, rfl, cu, gr⟩; refine Hid.out ?_)
  refine Lib.hid ?_
  rw [← hX1] at gr
  have hx1 := hx1 (by omega)
  have Hx : Hid (0 ≤ x ∧ x < 10) := Lib.hid ⟨hx0, hx1⟩
  clear hx0 hx1
  replace KR := tkg gr LR KR (by have h1 := HN.out; have h2 := Hlx.out; simp; omega)
  replace LR := tlz LR gr.size
  replace KX := tkg gr LX KX (by have h1 := HN.out; have h2 := Hlx.out; simp; omega)
  replace LX := tlz LX gr.size
  replace GR := Lib.hid (GR.out.trans gr)
  replace CU := Lib.hid cu
  clear gr cu hc  
  clear hX1
  have hx := Hx.out
  obtain ⟨⟨o1, o2⟩, ⟨n1, n2⟩, ⟨b1, b2⟩, ⟨c1, c2⟩⟩ := Hok.out
  try dsimp only at o1 o2 n1 n2 b1 b2 c1 c2
  clear Hok Hx
  rcases (show x = 0 ∨ x = 1 ∨ x = 2 ∨ x = 3 ∨ 4 ≤ x by omega) with rfl | rfl | rfl | rfl | hx4
  · have hbg := CU.out.lt
    obtain ⟨XIw3, hXIw3⟩ : ∃ z, z = w2.alloc (.cells #[.int .i64 0, .int .i64 9, .int .i64 600] 3) := ⟨_, rfl⟩
    have hb : Below w2.heap.size w2 XIw3 := by rw [hXIw3]; exact (Below.refl _ _).alloc (Nat.le_refl _) _
    replace KR := tkb hb LR KR
    replace LR := tlz LR hb.size
    replace KX := tkb hb LX KX
    replace LX := tlz LX hb.size
    replace GR := Lib.hid (GR.out.trans (grown_of_below hb _))
    replace CU := Lib.hid (CU.out.kept (hb.mono (by have := CU.out.le; have := CU.out.lt; omega)) (hb.block _ CU.out.lt))
    have KI : Hid (XIw3.heap[w2.heap.size]? = some (.cells #[.int .i64 0, .int .i64 9, .int .i64 600] 3 (0, 0))) := Lib.hid (by rw [hXIw3]; exact heap_new _ _)
    have LI : Hid (w2.heap.size < XIw3.heap.size) := Lib.hid (by rw [hXIw3]; simp)
    clear hb
    have hc := pickInt_any (QF (fun n => decide ((0) ≤ n ∧ n ≤ (600)))) (w2.heap.size) 3 3 (by omega) (by omega) _ _ _ (by omega) (ints_f _ KI.out (by decide) _ rfl) CU.out
    rw [hXIw3] at hc  
    go_wp2_with (go_at_call 65; refine hc.mono ?_; rintro e w3 ⟨y, hq, rfl, cu, gr⟩; refine Hid.out ?_)
    refine Lib.hid ?_
    rw [← hXIw3] at gr
    have Hy : Hid ((0) ≤ y ∧ y ≤ (600)) := Lib.hid (qf_of hq)
    clear hq
    replace KR := tkg gr LR KR (by have h1 := HN.out; have h2 := Hlx.out; simp; omega)
    replace LR := tlz LR gr.size
    replace KX := tkg gr LX KX (by have h1 := HN.out; have h2 := Hlx.out; simp; omega)
    replace LX := tlz LX gr.size
    replace KI := tkg gr LI KI (by have h1 := HN.out; have h2 := Hlx.out; simp; omega)
    replace LI := tlz LI gr.size
    replace GR := Lib.hid (GR.out.trans gr)
    replace CU := Lib.hid cu
    clear gr cu hc  
    clear hXIw3
    clear KI LI
    clear hbg
    have hy := Hy.out
    have hLX := Hlx.out
    obtain ⟨Y, hY⟩ : ∃ Y, Y = w3.setCell ⟨w1.heap.size, 0, none⟩ (.int .i64 y) := ⟨_, rfl⟩
    have KRY : Hid (Y.heap[w.heap.size]? = some (.cells #[.int .i64 0, .int .i64 0, .string ⟨#[]⟩, .int .i64 0] 25 (0, 0))) := Lib.hid (by rw [hY]; exact (Below.heap_setCell _ _ _ _ (by simp; omega)).trans KR.out)
    have GY : Hid (w.grownBy Y (some blk)) := Lib.hid (by rw [hY]; exact grown_far GR.out (grown_set _ ⟨w1.heap.size, 0, none⟩ _) (by show w.heap.size ≤ w1.heap.size; omega))
    have CY : Hid (Cu TC Y B blk) := Lib.hid (by rw [hY]; exact CU.out.kept ((Below.refl _ _).setCell (p := ⟨w1.heap.size, 0, none⟩) (by show B ≤ w1.heap.size; have := CU.out.le; have := HN.out; omega) _) (Below.heap_setCell _ _ _ _ (by have := HN.out; simp; omega)))
    have fX0 := tcr KX 0
    have fX1 := tcr KX 1
    have fX2 := tcr KX 2
    have fX3 := tcr KX 3
    have zX0 := tfr KX 0
    have zX1 := tfr KX 1
    have zX2 := tfr KX 2
    have zX3 := tfr KX 3
    have gR0 := tcr KRY 0
    have yR0 := tfr KRY 0
    have gR1 := tcr KRY 1
    have yR1 := tfr KRY 1
    have gR2 := tcr KRY 2
    have yR2 := tfr KRY 2
    have gR3 := tcr KRY 3
    have yR3 := tfr KRY 3
    rw [hY] at gR0 gR1 gR2 gR3 yR0 yR1 yR2 yR3
    clear hLX
    go_wp2_with fail
    rw [← hY]
    obtain ⟨j0, q1, q2, q3, q4⟩ := info_parts infoPc
    refine bodyPost_ret (results_cell_row (P := Try.prog) rfl _ _ w.heap.size _ _ (0, 0) _ rfl (store4 KRY.out) Try.underlying25 rfl (by rw [q1]; simp [q3])) rfl ⟨_, _, _, _, ⟨⟨by show _ ≤ y; omega, by show y ≤ _; omega⟩, ⟨by show _ ≤ of; omega, by show of ≤ _; omega⟩, by show (pb).size ≤ _; unfold maxLen; omega, ⟨by show _ ≤ pch; omega, by show pch ≤ _; omega⟩⟩, rfl, cu_set4 CY.out HN.out, grown4 GY.out (Nat.le_refl _)⟩
  · have hbg := CU.out.lt
    obtain ⟨XIw3, hXIw3⟩ : ∃ z, z = w2.alloc (.cells #[.int .i64 0, .int .i64 600, .int .i64 601] 3) := ⟨_, rfl⟩
    have hb : Below w2.heap.size w2 XIw3 := by rw [hXIw3]; exact (Below.refl _ _).alloc (Nat.le_refl _) _
    replace KR := tkb hb LR KR
    replace LR := tlz LR hb.size
    replace KX := tkb hb LX KX
    replace LX := tlz LX hb.size
    replace GR := Lib.hid (GR.out.trans (grown_of_below hb _))
    replace CU := Lib.hid (CU.out.kept (hb.mono (by have := CU.out.le; have := CU.out.lt; omega)) (hb.block _ CU.out.lt))
    have KI : Hid (XIw3.heap[w2.heap.size]? = some (.cells #[.int .i64 0, .int .i64 600, .int .i64 601] 3 (0, 0))) := Lib.hid (by rw [hXIw3]; exact heap_new _ _)
    have LI : Hid (w2.heap.size < XIw3.heap.size) := Lib.hid (by rw [hXIw3]; simp)
    clear hb
    have hc := pickInt_any (QF (fun n => decide ((0) ≤ n ∧ n ≤ (601)))) (w2.heap.size) 3 3 (by omega) (by omega) _ _ _ (by omega) (ints_f _ KI.out (by decide) _ rfl) CU.out
    rw [hXIw3] at hc  
    go_wp2_with (go_at_call 65; refine hc.mono ?_; rintro e w3 ⟨y, hq, rfl, cu, gr⟩; refine Hid.out ?_)
    refine Lib.hid ?_
    rw [← hXIw3] at gr
    have Hy : Hid ((0) ≤ y ∧ y ≤ (601)) := Lib.hid (qf_of hq)
    clear hq
    replace KR := tkg gr LR KR (by have h1 := HN.out; have h2 := Hlx.out; simp; omega)
    replace LR := tlz LR gr.size
    replace KX := tkg gr LX KX (by have h1 := HN.out; have h2 := Hlx.out; simp; omega)
    replace LX := tlz LX gr.size
    replace KI := tkg gr LI KI (by have h1 := HN.out; have h2 := Hlx.out; simp; omega)
    replace LI := tlz LI gr.size
    replace GR := Lib.hid (GR.out.trans gr)
    replace CU := Lib.hid cu
    clear gr cu hc  
    clear hXIw3
    clear KI LI
    clear hbg
    have hy := Hy.out
    have hLX := Hlx.out
    obtain ⟨Y, hY⟩ : ∃ Y, Y = w3.setCell ⟨w1.heap.size, 1, none⟩ (.int .i64 y) := ⟨_, rfl⟩
    have KRY : Hid (Y.heap[w.heap.size]? = some (.cells #[.int .i64 0, .int .i64 0, .string ⟨#[]⟩, .int .i64 0] 25 (0, 0))) := Lib.hid (by rw [hY]; exact (Below.heap_setCell _ _ _ _ (by simp; omega)).trans KR.out)
    have GY : Hid (w.grownBy Y (some blk)) := Lib.hid (by rw [hY]; exact grown_far GR.out (grown_set _ ⟨w1.heap.size, 1, none⟩ _) (by show w.heap.size ≤ w1.heap.size; omega))
    have CY : Hid (Cu TC Y B blk) := Lib.hid (by rw [hY]; exact CU.out.kept ((Below.refl _ _).setCell (p := ⟨w1.heap.size, 1, none⟩) (by show B ≤ w1.heap.size; have := CU.out.le; have := HN.out; omega) _) (Below.heap_setCell _ _ _ _ (by have := HN.out; simp; omega)))
    have fX0 := tcr KX 0
    have fX1 := tcr KX 1
    have fX2 := tcr KX 2
    have fX3 := tcr KX 3
    have zX0 := tfr KX 0
    have zX1 := tfr KX 1
    have zX2 := tfr KX 2
    have zX3 := tfr KX 3
    have gR0 := tcr KRY 0
    have yR0 := tfr KRY 0
    have gR1 := tcr KRY 1
    have yR1 := tfr KRY 1
    have gR2 := tcr KRY 2
    have yR2 := tfr KRY 2
    have gR3 := tcr KRY 3
    have yR3 := tfr KRY 3
    rw [hY] at gR0 gR1 gR2 gR3 yR0 yR1 yR2 yR3
    clear hLX
    go_wp2_with fail
    rw [← hY]
    obtain ⟨j0, q1, q2, q3, q4⟩ := info_parts infoPc
    refine bodyPost_ret (results_cell_row (P := Try.prog) rfl _ _ w.heap.size _ _ (0, 0) _ rfl (store4 KRY.out) Try.underlying25 rfl (by rw [q1]; simp [q3])) rfl ⟨_, _, _, _, ⟨⟨by show _ ≤ no; omega, by show no ≤ _; omega⟩, ⟨by show _ ≤ y; omega, by show y ≤ _; omega⟩, by show (pb).size ≤ _; unfold maxLen; omega, ⟨by show _ ≤ pch; omega, by show pch ≤ _; omega⟩⟩, rfl, cu_set4 CY.out HN.out, grown4 GY.out (Nat.le_refl _)⟩
  · have hbg := CU.out.lt
    obtain ⟨XIw3, hXIw3⟩ : ∃ z, z = w2.alloc (.cells #[.int .i64 0, .int .i64 200, .int .i64 201] 3) := ⟨_, rfl⟩
    have hb : Below w2.heap.size w2 XIw3 := by rw [hXIw3]; exact (Below.refl _ _).alloc (Nat.le_refl _) _
    replace KR := tkb hb LR KR
    replace LR := tlz LR hb.size
    replace KX := tkb hb LX KX
    replace LX := tlz LX hb.size
    replace GR := Lib.hid (GR.out.trans (grown_of_below hb _))
    replace CU := Lib.hid (CU.out.kept (hb.mono (by have := CU.out.le; have := CU.out.lt; omega)) (hb.block _ CU.out.lt))
    have KI : Hid (XIw3.heap[w2.heap.size]? = some (.cells #[.int .i64 0, .int .i64 200, .int .i64 201] 3 (0, 0))) := Lib.hid (by rw [hXIw3]; exact heap_new _ _)
    have LI : Hid (w2.heap.size < XIw3.heap.size) := Lib.hid (by rw [hXIw3]; simp)
    clear hb
    have hc := pickInt_any (QF (fun n => decide ((0) ≤ n ∧ n ≤ (201)))) (w2.heap.size) 3 3 (by omega) (by omega) _ _ _ (by omega) (ints_f _ KI.out (by decide) _ rfl) CU.out
    rw [hXIw3] at hc  
    go_wp2_with (go_at_call 65; refine hc.mono ?_; rintro e w3 ⟨y, hq, rfl, cu, gr⟩; refine Hid.out ?_)
    refine Lib.hid ?_
    rw [← hXIw3] at gr
    have Hy : Hid ((0) ≤ y ∧ y ≤ (201)) := Lib.hid (qf_of hq)
    clear hq
    replace KR := tkg gr LR KR (by have h1 := HN.out; have h2 := Hlx.out; simp; omega)
    replace LR := tlz LR gr.size
    replace KX := tkg gr LX KX (by have h1 := HN.out; have h2 := Hlx.out; simp; omega)
    replace LX := tlz LX gr.size
    replace KI := tkg gr LI KI (by have h1 := HN.out; have h2 := Hlx.out; simp; omega)
    replace LI := tlz LI gr.size
    replace GR := Lib.hid (GR.out.trans gr)
    replace CU := Lib.hid cu
    clear gr cu hc  
    clear hXIw3
    clear KI LI
    clear hbg
    have hy := Hy.out
    obtain ⟨w4, s, k, hmk, hcv, hss, hb⟩ := make_text w3 y hy.1 (by omega)
    replace KR := tkb hb LR KR
    replace LR := tlz LR hb.size
    replace KX := tkb hb LX KX
    replace LX := tlz LX hb.size
    replace GR := Lib.hid (GR.out.trans (grown_of_below hb _))
    replace CU := Lib.hid (CU.out.kept (hb.mono (by have := CU.out.le; have := CU.out.lt; omega)) (hb.block _ CU.out.lt))
    clear hb
    have hLX := Hlx.out
    obtain ⟨Y, hY⟩ : ∃ Y, Y = w4.setCell ⟨w1.heap.size, 2, none⟩ (.string s) := ⟨_, rfl⟩
    have KRY : Hid (Y.heap[w.heap.size]? = some (.cells #[.int .i64 0, .int .i64 0, .string ⟨#[]⟩, .int .i64 0] 25 (0, 0))) := Lib.hid (by rw [hY]; exact (Below.heap_setCell _ _ _ _ (by simp; omega)).trans KR.out)
    have GY : Hid (w.grownBy Y (some blk)) := Lib.hid (by rw [hY]; exact grown_far GR.out (grown_set _ ⟨w1.heap.size, 2, none⟩ _) (by show w.heap.size ≤ w1.heap.size; omega))
    have CY : Hid (Cu TC Y B blk) := Lib.hid (by rw [hY]; exact CU.out.kept ((Below.refl _ _).setCell (p := ⟨w1.heap.size, 2, none⟩) (by show B ≤ w1.heap.size; have := CU.out.le; have := HN.out; omega) _) (Below.heap_setCell _ _ _ _ (by have := HN.out; simp; omega)))
    have fX0 := tcr KX 0
    have fX1 := tcr KX 1
    have fX2 := tcr KX 2
    have fX3 := tcr KX 3
    have zX0 := tfr KX 0
    have zX1 := tfr KX 1
    have zX2 := tfr KX 2
    have zX3 := tfr KX 3
    have gR0 := tcr KRY 0
    have yR0 := tfr KRY 0
    have gR1 := tcr KRY 1
    have yR1 := tfr KRY 1
    have gR2 := tcr KRY 2
    have yR2 := tfr KRY 2
    have gR3 := tcr KRY 3
    have yR3 := tfr KRY 3
    rw [hY] at gR0 gR1 gR2 gR3 yR0 yR1 yR2 yR3
    clear hLX
    go_wp2_with fail
    rw [← hY]
    obtain ⟨j0, q1, q2, q3, q4⟩ := info_parts infoPc
    refine bodyPost_ret (results_cell_row (P := Try.prog) rfl _ _ w.heap.size _ _ (0, 0) _ rfl (store4 KRY.out) Try.underlying25 rfl (by rw [q1]; simp [q3])) rfl ⟨_, _, _, _, ⟨⟨by show _ ≤ no; omega, by show no ≤ _; omega⟩, ⟨by show _ ≤ of; omega, by show of ≤ _; omega⟩, by show (s).size ≤ _; unfold maxLen; omega, ⟨by show _ ≤ pch; omega, by show pch ≤ _; omega⟩⟩, rfl, cu_set4 CY.out HN.out, grown4 GY.out (Nat.le_refl _)⟩
  · have hbg := CU.out.lt
    obtain ⟨XIw3, hXIw3⟩ : ∃ z, z = w2.alloc (.cells #[.int .i64 (-1), .int .i64 4294967295, .int .i64 4294967296] 3) := ⟨_, rfl⟩
    have hb : Below w2.heap.size w2 XIw3 := by rw [hXIw3]; exact (Below.refl _ _).alloc (Nat.le_refl _) _
    replace KR := tkb hb LR KR
    replace LR := tlz LR hb.size
    replace KX := tkb hb LX KX
    replace LX := tlz LX hb.size
    replace GR := Lib.hid (GR.out.trans (grown_of_below hb _))
    replace CU := Lib.hid (CU.out.kept (hb.mono (by have := CU.out.le; have := CU.out.lt; omega)) (hb.block _ CU.out.lt))
    have KI : Hid (XIw3.heap[w2.heap.size]? = some (.cells #[.int .i64 (-1), .int .i64 4294967295, .int .i64 4294967296] 3 (0, 0))) := Lib.hid (by rw [hXIw3]; exact heap_new _ _)
    have LI : Hid (w2.heap.size < XIw3.heap.size) := Lib.hid (by rw [hXIw3]; simp)
    clear hb
    have hc := pickInt_any (QF (fun n => decide ((-1) ≤ n ∧ n ≤ (4294967296)))) (w2.heap.size) 3 3 (by omega) (by omega) _ _ _ (by omega) (ints_f _ KI.out (by decide) _ rfl) CU.out
    rw [hXIw3] at hc  
    go_wp2_with (go_at_call 65; refine hc.mono ?_; rintro e w3 ⟨y, hq, rfl, cu, gr⟩; refine Hid.out ?_)
    refine Lib.hid ?_
    rw [← hXIw3] at gr
    have Hy : Hid ((-1) ≤ y ∧ y ≤ (4294967296)) := Lib.hid (qf_of hq)
    clear hq
    replace KR := tkg gr LR KR (by have h1 := HN.out; have h2 := Hlx.out; simp; omega)
    replace LR := tlz LR gr.size
    replace KX := tkg gr LX KX (by have h1 := HN.out; have h2 := Hlx.out; simp; omega)
    replace LX := tlz LX gr.size
    replace KI := tkg gr LI KI (by have h1 := HN.out; have h2 := Hlx.out; simp; omega)
    replace LI := tlz LI gr.size
    replace GR := Lib.hid (GR.out.trans gr)
    replace CU := Lib.hid cu
    clear gr cu hc  
    clear hXIw3
    clear KI LI
    clear hbg
    have hy := Hy.out
    have hLX := Hlx.out
    obtain ⟨Y, hY⟩ : ∃ Y, Y = w3.setCell ⟨w1.heap.size, 3, none⟩ (.int .i64 y) := ⟨_, rfl⟩
    have KRY : Hid (Y.heap[w.heap.size]? = some (.cells #[.int .i64 0, .int .i64 0, .string ⟨#[]⟩, .int .i64 0] 25 (0, 0))) := Lib.hid (by rw [hY]; exact (Below.heap_setCell _ _ _ _ (by simp; omega)).trans KR.out)
    have GY : Hid (w.grownBy Y (some blk)) := Lib.hid (by rw [hY]; exact grown_far GR.out (grown_set _ ⟨w1.heap.size, 3, none⟩ _) (by show w.heap.size ≤ w1.heap.size; omega))
    have CY : Hid (Cu TC Y B blk) := Lib.hid (by rw [hY]; exact CU.out.kept ((Below.refl _ _).setCell (p := ⟨w1.heap.size, 3, none⟩) (by show B ≤ w1.heap.size; have := CU.out.le; have := HN.out; omega) _) (Below.heap_setCell _ _ _ _ (by have := HN.out; simp; omega)))
    have fX0 := tcr KX 0
    have fX1 := tcr KX 1
    have fX2 := tcr KX 2
    have fX3 := tcr KX 3
    have zX0 := tfr KX 0
    have zX1 := tfr KX 1
    have zX2 := tfr KX 2
    have zX3 := tfr KX 3
    have gR0 := tcr KRY 0
    have yR0 := tfr KRY 0
    have gR1 := tcr KRY 1
    have yR1 := tfr KRY 1
    have gR2 := tcr KRY 2
    have yR2 := tfr KRY 2
    have gR3 := tcr KRY 3
    have yR3 := tfr KRY 3
    rw [hY] at gR0 gR1 gR2 gR3 yR0 yR1 yR2 yR3
    clear hLX
    go_wp2_with fail
    rw [← hY]
    obtain ⟨j0, q1, q2, q3, q4⟩ := info_parts infoPc
    refine bodyPost_ret (results_cell_row (P := Try.prog) rfl _ _ w.heap.size _ _ (0, 0) _ rfl (store4 KRY.out) Try.underlying25 rfl (by rw [q1]; simp [q3])) rfl ⟨_, _, _, _, ⟨⟨by show _ ≤ no; omega, by show no ≤ _; omega⟩, ⟨by show _ ≤ of; omega, by show of ≤ _; omega⟩, by show (pb).size ≤ _; unfold maxLen; omega, ⟨by show _ ≤ y; omega, by show y ≤ _; omega⟩⟩, rfl, cu_set4 CY.out HN.out, grown4 GY.out (Nat.le_refl _)⟩
  · have fX0 := tcr KX 0
    have fX1 := tcr KX 1
    have fX2 := tcr KX 2
    have fX3 := tcr KX 3
    have fR0 := tcr KR 0
    have fR1 := tcr KR 1
    have fR2 := tcr KR 2
    have fR3 := tcr KR 3
    have zX0 := tfr KX 0
    have zX1 := tfr KX 1
    have zX2 := tfr KX 2
    have zX3 := tfr KX 3
    have zR0 := tfr KR 0
    have zR1 := tfr KR 1
    have zR2 := tfr KR 2
    have zR3 := tfr KR 3
    have d0 : ¬ x = 0 := by omega
    have d1 : ¬ x = 1 := by omega
    have d2 : ¬ x = 2 := by omega
    have d3 : ¬ x = 3 := by omega
    go_wp2_with fail
    obtain ⟨j0, q1, q2, q3, q4⟩ := info_parts infoPc
    refine bodyPost_ret (results_cell_row (P := Try.prog) rfl _ _ w.heap.size _ _ (0, 0) _ rfl (store4 KR.out) Try.underlying25 rfl (by rw [q1]; simp [q3])) rfl ⟨_, _, _, _, ⟨⟨by show _ ≤ no; omega, by show no ≤ _; omega⟩, ⟨by show _ ≤ of; omega, by show of ≤ _; omega⟩, by show (pb).size ≤ _; unfold maxLen; omega, ⟨by show _ ≤ pch; omega, by show pch ≤ _; omega⟩⟩, rfl, cu_set4 CU.out HN.out, grown4 GR.out (Nat.le_refl _)⟩
set_option maxRecDepth 100000 in
set_option maxHeartbeats 4000000 in
theorem drawPutPiece_any (a : Option Addr) (len cap : Nat) (zs : List Int) (w : World) (hr : Row8 w w.heap.size a len cap zs) (hl : len ≤ 1048576) :
    Calls Try.prog 18 #[.slice a len cap] w fun e w' => ∃ no of b ch, FitPc ⟨no, of, b, ch⟩ ∧ e = .returned (.agg #[.int .i64 no, .int .i64 of, .string b, .int .i64 ch]) ∧ Below w.heap.size w w' := by
  obtain ⟨W, hW⟩ : ∃ z, z = w.alloc (.cells #[.int .i64 0, .int .i64 0, .string ⟨#[]⟩, .int .i64 0] 25) := ⟨_, rfl⟩
  have bW : Below w.heap.size w W := by rw [hW]; exact (Below.refl _ _).alloc (Nat.le_refl _) _
  have KR : Hid (W.heap[w.heap.size]? = some (.cells #[.int .i64 0, .int .i64 0, .string ⟨#[]⟩, .int .i64 0] 25 (0, 0))) := Lib.hid (by rw [hW]; exact heap_new _ _)
  have LR : Hid (w.heap.size < W.heap.size) := Lib.hid (by rw [hW]; simp)
  have hc := new_any a len cap zs W (hr.later bW) hl
  have BB := Lib.hid bW
  rw [hW] at hc
  clear bW
  go_enter Try.func18, Try.ntmps18
  go_wp2_with (go_at_call 57; refine hc.mono ?_; rintro e w1 ⟨rfl, cu, hb⟩; refine Hid.out ?_)
  refine Lib.hid ?_
  rw [← hW] at cu hb
  have hWs : W.heap.size = w.heap.size + 1 := by rw [hW]; simp
  rw [hWs] at cu
  have HN : Hid (w.heap.size < w.heap.size + 1) := Lib.hid (Nat.lt_succ_self _)
  replace KR := tkb hb LR KR
  replace LR := tlz LR hb.size
  replace BB := tbt BB hb
  have CU := Lib.hid cu
  clear hc hW hb cu hWs
  have hc := oddPc_any _ _ _ CU.out
  go_wp2_with (go_at_call 58; refine hc.mono ?_; rintro e w2 ⟨no, of, b, ch, hf, rfl, cu, gr⟩; refine Hid.out ?_)
  refine Lib.hid ?_
  replace KR := tkg gr LR KR (by simp)
  replace LR := tlz LR gr.size
  replace BB := Lib.hid (BB.out.grown gr BB.out.size (fun j e => by have := HN.out; cases e; omega))
  have Hf := Lib.hid hf
  clear hc cu gr hf CU
  have fR0 := tcr KR 0
  have fR1 := tcr KR 1
  have fR2 := tcr KR 2
  have fR3 := tcr KR 3
  have zR0 := tfr KR 0
  have zR1 := tfr KR 1
  have zR2 := tfr KR 2
  have zR3 := tfr KR 3
  go_wp2_with fail
  obtain ⟨j0, q1, q2, q3, q4⟩ := info_parts infoPc
  refine bodyPost_ret (results_cell_row (P := Try.prog) rfl _ _ w.heap.size _ _ (0, 0) _ rfl (store4 KR.out) Try.underlying25 rfl (by rw [q1]; simp [q3])) rfl ⟨_, _, _, _, Hf.out, rfl, below4 BB.out (Nat.le_refl _)⟩
end Go.Proofs.Ytlklhmdpkicpnaa
