/- The draws of this chapter: pieces, texts with sizes. Condition: a code of at most 2^20 bytes. -/
import Derived.Test.YtdpjdjkfedcojaaBaseA
import Derived.Test.YtdpjdjkfedcojaaText
import Derived.Test.YtdpjdjkfedcojaaCurA
import Derived.Test.YtdpjdjkfedcojaaDrawInt
import Derived.Test.YtdpjdjkfedcojaaMakeZeros
import Derived.Test.YtdpjdjkfedcojaaSpecGet
import Derived.Test.YtdpjdjkfedcojaaDrawFmt
namespace Go.Proofs.Ytdpjdjkfedcojaa
open Go.RowKit
set_option linter.unusedVariables false
set_option linter.unusedSimpArgs false

def QF (f : Int → Bool) (v : Value) : Prop := ∃ n : Int, v = .int .i64 n ∧ f n = true
def okF (f : Int → Bool) : Value → Bool
  | .int .i64 n => f n
  | _ => false
theorem ints_f {w : World} {g : Nat} {cs : Array Value} {t : TypeId} (f : Int → Bool) (h : w.heap[g]? = some (.cells cs t (0, 0))) (hs : cs.toList.all (okF f) = true) (n : Nat) (hn : n = cs.size) : ∀ j, j < n → ∃ s : Int, w.cell? ⟨g, j, none⟩ = some (.int .i64 s) ∧ QF f (.int .i64 s) := by
  subst hn
  intro j hj
  have hc := cell_of_row w g j _ _ _ h
  rw [Array.getElem?_eq_getElem hj] at hc
  have h1 := List.all_eq_true.1 hs cs[j] (by simp)
  revert h1 hc
  cases cs[j] <;> intro hc h1 <;> simp [okF] at h1
  rename_i k n
  cases k <;> simp [okF] at h1
  exact ⟨n, hc, n, rfl, h1⟩
theorem qf_of {lo hi x : Int} (h : QF (fun n => decide (lo ≤ n ∧ n ≤ hi)) (.int .i64 x)) : lo ≤ x ∧ x ≤ hi := by
  obtain ⟨n, h1, h2⟩ := h
  cases h1
  exact of_decide_eq_true h2
theorem cu_set4 {w : World} {g : Nat} {x y z u : Value} {B blk : Nat} (c : Cu TC w B blk) (h : blk < g) : Cu TC ((((w.setCell ⟨g, 0, none⟩ x).setCell ⟨g, 1, none⟩ y).setCell ⟨g, 2, none⟩ z).setCell ⟨g, 3, none⟩ u) B blk :=
  c.kept (below4 (Below.refl _ _) (by have := c.le; omega)) (by rw [Below.heap_setCell _ _ _ _ (by simp; omega), Below.heap_setCell _ _ _ _ (by simp; omega), Below.heap_setCell _ _ _ _ (by simp; omega), Below.heap_setCell _ _ _ _ (by simp; omega)])
theorem grown4 {w0 w : World} {g blk : Nat} {x y z u : Value} (h : w0.grownBy w (some blk)) (hg : w0.heap.size ≤ g) : w0.grownBy ((((w.setCell ⟨g, 0, none⟩ x).setCell ⟨g, 1, none⟩ y).setCell ⟨g, 2, none⟩ z).setCell ⟨g, 3, none⟩ u) (some blk) :=
  grown_far (grown_far (grown_far (grown_far h (grown_set _ ⟨g, 0, none⟩ _) hg) (grown_set _ ⟨g, 1, none⟩ _) hg) (grown_set _ ⟨g, 2, none⟩ _) hg) (grown_set _ ⟨g, 3, none⟩ _) hg
set_option maxRecDepth 100000 in
set_option maxHeartbeats 4000000 in
theorem piece_any (B blk : Nat) (w : World) (c : Cu TC w B blk) :
    Calls Try.prog 34 #[.pointer (some ⟨blk, 0, none⟩)] w fun e w' => ∃ p : Pc, pcOk p = true ∧ e = .returned (pcV p) ∧ Cu TC w' B blk ∧ w.grownBy w' (some blk) := by
  have LT := c.lt
  have HN : Hid (blk < w.heap.size) := Lib.hid LT
  have CU := Lib.hid c
  have GR : Hid (w.grownBy w (some blk)) := Lib.hid ⟨rfl, rfl, rfl, Nat.le_refl _, fun _ _ _ => rfl⟩
  clear c LT
  obtain ⟨W, hW⟩ : ∃ z, z = w.alloc (.cells #[.int .i64 0, .int .i64 0, .string ⟨#[]⟩, .int .i64 0] 58) := ⟨_, rfl⟩
  have hb : Below w.heap.size w W := by rw [hW]; exact (Below.refl _ _).alloc (Nat.le_refl _) _
  replace GR := Lib.hid (GR.out.trans (grown_of_below hb _))
  replace CU := Lib.hid (CU.out.kept (hb.mono (by have := CU.out.le; have := CU.out.lt; omega)) (hb.block _ CU.out.lt))
  have KR : Hid (W.heap[w.heap.size]? = some (.cells #[.int .i64 0, .int .i64 0, .string ⟨#[]⟩, .int .i64 0] 58 (0, 0))) := Lib.hid (by rw [hW]; exact heap_new _ _)
  have LR : Hid (w.heap.size < W.heap.size) := Lib.hid (by rw [hW]; simp)
  clear hb
  go_enter Try.func34, Try.ntmps34
  have hc := below_any 4 (by omega) _ _ _ CU.out
  rw [hW] at hc  
  go_wp2_with (go_at_call 32; refine hc.mono ?_; rintro e w1 ⟨x, ⟨hx0, hx1, _⟩, rfl, cu, gr⟩; refine Hid.out ?_)
  refine Lib.hid ?_
  rw [← hW] at gr
  have hx1 := hx1 (by omega)
  have Hx : Hid (0 ≤ x ∧ x < 4) := Lib.hid ⟨hx0, hx1⟩
  clear hx0 hx1
  replace KR := tkg gr LR KR (by have h1 := HN.out; simp; omega)
  replace LR := tlz LR gr.size
  replace GR := Lib.hid (GR.out.trans gr)
  replace CU := Lib.hid cu
  clear gr cu hc  
  clear hW
  have hx := Hx.out
  have hc := below_any (1 + x) (by omega) _ _ _ CU.out
  go_wp2_with (go_at_call 32; refine hc.mono ?_; rintro e w2 ⟨y, ⟨hx0, hx1, _⟩, rfl, cu, gr⟩; refine Hid.out ?_)
  refine Lib.hid ?_
  have hx1 := hx1 (by omega)
  have Hy : Hid (0 ≤ y ∧ y < (1 + x)) := Lib.hid ⟨hx0, hx1⟩
  clear hx0 hx1
  replace KR := tkg gr LR KR (by have h1 := HN.out; simp; omega)
  replace LR := tlz LR gr.size
  replace GR := Lib.hid (GR.out.trans gr)
  replace CU := Lib.hid cu
  clear gr cu hc  
  have hy := Hy.out
  have hc := below_any 6 (by omega) _ _ _ CU.out
  go_wp2_with (go_at_call 32; refine hc.mono ?_; rintro e w3 ⟨z, ⟨hx0, hx1, _⟩, rfl, cu, gr⟩; refine Hid.out ?_)
  refine Lib.hid ?_
  have hx1 := hx1 (by omega)
  have Hz : Hid (0 ≤ z ∧ z < 6) := Lib.hid ⟨hx0, hx1⟩
  clear hx0 hx1
  replace KR := tkg gr LR KR (by have h1 := HN.out; simp; omega)
  replace LR := tlz LR gr.size
  replace GR := Lib.hid (GR.out.trans gr)
  replace CU := Lib.hid cu
  clear gr cu hc  
  have hz := Hz.out
  obtain ⟨m, rfl⟩ := Int.eq_ofNat_of_zero_le hz.1
  have hm : m < 6 := by omega
  have hc := text_eq (1 + m) (by omega) _ _ _ CU.out
  rw [show ((1 + m : Nat) : Int) = 1 + (m : Int) by omega] at hc
  go_wp2_with (go_at_call 68; refine hc.mono ?_; rintro e w4 ⟨t, ht, rfl, cu, gr⟩; refine Hid.out ?_)
  refine Lib.hid ?_
  replace KR := tkg gr LR KR (by have h1 := HN.out; simp; omega)
  replace LR := tlz LR gr.size
  replace GR := Lib.hid (GR.out.trans gr)
  replace CU := Lib.hid cu
  clear gr cu hc  
  have hc := below_any 100000 (by omega) _ _ _ CU.out
  go_wp2_with (go_at_call 32; refine hc.mono ?_; rintro e w5 ⟨u, ⟨hx0, hx1, _⟩, rfl, cu, gr⟩; refine Hid.out ?_)
  refine Lib.hid ?_
  have hx1 := hx1 (by omega)
  have Hu : Hid (0 ≤ u ∧ u < 100000) := Lib.hid ⟨hx0, hx1⟩
  clear hx0 hx1
  replace KR := tkg gr LR KR (by have h1 := HN.out; simp; omega)
  replace LR := tlz LR gr.size
  replace GR := Lib.hid (GR.out.trans gr)
  replace CU := Lib.hid cu
  clear gr cu hc  
  have hu := Hu.out
  have fR0 := tcr KR 0
  have fR1 := tcr KR 1
  have fR2 := tcr KR 2
  have fR3 := tcr KR 3
  have zR0 := tfr KR 0
  have zR1 := tfr KR 1
  have zR2 := tfr KR 2
  have zR3 := tfr KR 3
  go_wp2_with fail
  have hok : pcOk ⟨1 + y, 1 + x, t, u⟩ = true := by
    have t1 : inB (1 + x) 1 600 = true := by unfold inB; simp; omega
    have t2 : inB (1 + y) 1 (1 + x) = true := by unfold inB; simp; omega
    have t3 : inB (t.size : Int) 1 200 = true := by unfold inB; simp; omega
    have t4 : inB u 0 4294967295 = true := by unfold inB; simp; omega
    unfold pcOk
    dsimp only
    rw [t1, t2, t3, t4]; rfl
  obtain ⟨j0, q1, q2, q3, q4⟩ := info_parts infoPc
  refine bodyPost_ret (results_cell_row (P := Try.prog) rfl _ _ w.heap.size _ _ (0, 0) _ rfl (store4 KR.out) Try.underlying58 rfl (by rw [q1]; simp [q3])) rfl ⟨⟨1 + y, 1 + x, t, u⟩, hok, rfl, cu_set4 CU.out HN.out, grown4 GR.out (Nat.le_refl _)⟩
theorem piece_lit (B blk : Nat) (w : World) (c : Cu TC w B blk) :
    Calls Try.prog 34 #[.pointer (some ⟨blk, 0, none⟩)] w fun e w' => ∃ no of b ch, pcOk ⟨no, of, b, ch⟩ = true ∧ e = .returned (.agg #[.int .i64 no, .int .i64 of, .string b, .int .i64 ch]) ∧ Cu TC w' B blk ∧ w.grownBy w' (some blk) :=
  (piece_any B blk w c).mono (fun e w' h => by obtain ⟨⟨no, of, b, ch⟩, h1, h2, h3⟩ := h; exact ⟨no, of, b, ch, h1, h2, h3⟩)
/-- 'string(make([]byte, n))'. -/
theorem make_text (w : World) (N : Int) (h0 : 0 ≤ N) (h1 : N ≤ 10000) : ∃ (w' : World) (s : ByteArray) (n : Nat), (Instr.makeSlice 22 (.int .i64 N) (.int .i64 N)).run Try.prog w = .ok (.slice (some ⟨w.heap.size, 0, none⟩) n n) w' ∧ (convert 22 9 (.slice (some ⟨w.heap.size, 0, none⟩) n n)).run Try.prog w' = .ok (.string s) w' ∧ (s.size : Int) = N ∧ Below w.heap.size w w' := by
  obtain ⟨i0, hi, hz0, hz1, hz2⟩ := info_parts infoB
  obtain ⟨n, rfl⟩ := Int.eq_ofNat_of_zero_le h0
  rcases Nat.eq_zero_or_pos n with rfl | hn
  · obtain ⟨w', hrun, hown, hgr⟩ := run_make_full (P := Try.prog) w w.heap.size 22 5 i0 (.int .u8 0) 1 Try.underlying22 hi hz0 hz1 .i64 .i64 0 (by rw [hz2]; omega) (by unfold maxLen; omega) (Nat.le_refl _)
    exact ⟨w', ⟨#[]⟩, 0, hrun, run_convert_bytes_back (P := Try.prog) w' 22 9 5 ⟨w.heap.size, 0, none⟩ 0 [] Try.underlying22 Try.underlying5 Try.underlying9 (fun j hj => by simp at hj), rfl, (Below.refl _ _).grown hgr (Nat.le_refl _) (fun k hk => by cases hk)⟩
  · obtain ⟨w', hmk, hcv, hb⟩ := make_zeros i0 hi hz0 hz1 hz2 w n n rfl (by omega) hn
    exact ⟨w', _, n, hmk, hcv, by rw [txt_size]; simp, hb⟩
end Go.Proofs.Ytdpjdjkfedcojaa
