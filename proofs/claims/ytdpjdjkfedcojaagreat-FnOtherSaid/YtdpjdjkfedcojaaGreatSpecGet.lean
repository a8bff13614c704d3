/- What spec.Link and spec.GetPiece answer. Condition: texts of at most 2^40 bytes. -/
import Derived.Test.YtdpjdjkfedcojaaGreatBaseA
import Derived.Test.YtdpjdjkfedcojaaGreatSpecPc
import Derived.Test.YtdpjdjkfedcojaaGreatPutPlain
namespace Go.Proofs.YtdpjdjkfedcojaaGreat
open Go.RowKit
set_option linter.unusedVariables false
set_option linter.unusedSimpArgs false

theorem link_size (ch : Int) : (txt (putN ch 4)).size ≤ 4 := by
  rw [txt_size]
  unfold putN
  split
  · exact Nat.zero_le _
  · rw [beB_len]; decide
set_option maxHeartbeats 1000000 in
theorem spec_link (ch : Int) (b : ByteArray) (w : World) (hc : -9223372036854775808 ≤ ch ∧ ch ≤ 9223372036854775807) (hb : b.size ≤ 1099511627776) :
    Calls Tryz.prog 44 #[.int .i64 ch, .string b] w fun e w' => e = .returned (.int .i64 (linkN ch b)) ∧ Below w.heap.size w w' := by
  have hk := link_size ch
  have k1 := fun w => spec_putNum ch 4 hc (by omega) w
  have hv : Hid (hashN (txt (putN ch 4) ++ b).data.toList = linkN ch b) := Lib.hid (by unfold linkN; rw [ByteArray.data_append, Array.toList_append])
  obtain ⟨p, hp⟩ : ∃ p, p = txt (putN ch 4) := ⟨_, rfl⟩
  rw [← hp] at k1 hk hv
  clear hp
  have ns : ¬ 9223372036854775807 < p.size + b.size := by omega
  have k2 := fun w => spec_hash (p ++ b) w (by rw [ByteArray.size_append]; unfold maxLen; omega)
  go_enter Tryz.func44, Tryz.ntmps44
  go_wp2_with (first | (go_at_call 68; refine (k1 _).mono ?_; rintro e w1 ⟨rfl, hb1⟩; replace hb1 := Lib.hid hb1) | (go_at_call 30; refine (k2 _).mono ?_; rintro e w2 ⟨rfl, rfl⟩))
  go_ret
  exact ⟨ret_int (by rw [← hv.out, ByteArray.data_append, Array.toList_append]), hb1.out⟩

theorem infoPc : (Tryz.prog.info? 67).map (fun i => (i.zero, i.size, i.bytes)) = some (some (.agg #[.int .i64 0, .int .i64 0, .string ⟨#[]⟩, .int .i64 0]), 4, 40) := by kernel_rfl
theorem store4 {w : World} {g : Nat} {a b c d x y z u : Value} (h : w.heap[g]? = some (.cells #[a, b, c, d] 67 (0, 0))) :
    ((((w.setCell ⟨g, 0, none⟩ x).setCell ⟨g, 1, none⟩ y).setCell ⟨g, 2, none⟩ z).setCell ⟨g, 3, none⟩ u).heap[g]? = some (.cells #[x, y, z, u] 67 (0, 0)) :=
  heap_setCell_same _ g 3 _ _ u (heap_setCell_same _ g 2 _ _ z (heap_setCell_same _ g 1 _ _ y (heap_setCell_same _ g 0 _ _ x h)))
theorem below4 {w0 w : World} {g n : Nat} {x y z u : Value} (h : Below n w0 w) (hg : n ≤ g) :
    Below n w0 ((((w.setCell ⟨g, 0, none⟩ x).setCell ⟨g, 1, none⟩ y).setCell ⟨g, 2, none⟩ z).setCell ⟨g, 3, none⟩ u) :=
  (((h.setCell (p := ⟨g, 0, none⟩) hg _).setCell (p := ⟨g, 1, none⟩) hg _).setCell (p := ⟨g, 2, none⟩) hg _).setCell (p := ⟨g, 3, none⟩) hg _
theorem raw_fit (t : ByteArray) (ht : t.size ≤ 1099511627776) : FitPc (rawP t) := by
  have a1 := getN_lo t 1 2
  have a2 := getN_hi t 1 2
  have b1 := getN_lo t 3 2
  have b2 := getN_hi t 3 2
  have c1 := getN_lo t (getTextB t 5).2 4
  have c2 := getN_hi t (getTextB t 5).2 4
  have d := text_small t 5
  exact ⟨⟨by show _ ≤ getN t 1 2; omega, by show getN t 1 2 ≤ _; omega⟩, ⟨by show _ ≤ getN t 3 2; omega, by show getN t 3 2 ≤ _; omega⟩, by show (getTextB t 5).1.size ≤ _; unfold maxLen; omega, ⟨by show _ ≤ getN t (getTextB t 5).2 4; omega, by show getN t (getTextB t 5).2 4 ≤ _; omega⟩⟩

set_option maxRecDepth 100000 in
set_option maxHeartbeats 8000000 in
theorem spec_getPiece (t : ByteArray) (w : World) (ht : t.size ≤ 1099511627776) :
    Calls Tryz.prog 42 #[.string t] w fun e w' => e = .returned (.tuple #[pcV (getP t).1, .bool (getP t).2]) ∧ Below w.heap.size w w' := by
  have hfit := raw_fit t ht
  have te := text_end t 5
  obtain ⟨B, hB⟩ : ∃ z, z = (getTextB t 5).1 := ⟨_, rfl⟩
  obtain ⟨q, hq⟩ : ∃ z, z = (getTextB t 5).2 := ⟨_, rfl⟩
  have hraw : rawP t = ⟨getN t 1 2, getN t 3 2, B, getN t q 4⟩ := by unfold rawP; rw [← hB, ← hq]
  rw [← hq] at te
  have hc := fun w => spec_getText t 5 (by omega) w ht
  have kn : ∀ (p b : Int) (w : World), -1 ≤ p ∧ p ≤ 1099511627776 → 0 ≤ b ∧ b ≤ 4 → Calls Tryz.prog 79 #[.string t, .int .i64 p, .int .i64 b] w fun e w' => e = .returned (.int .i64 (getN t p b)) ∧ w = w' := fun p b w hp hb =>
     spec_getNum t p b (by omega) (by omega) w (by unfold maxLen; omega)
  have hq1 : -1 ≤ q ∧ q ≤ 1099511627776 := by omega
  rw [← hB, ← hq] at hc
  have HG : Hid (getP t = if q < 0 then (pc0, false) else if pcB ⟨getN t 1 2, getN t 3 2, B, getN t q 4⟩ = t then (⟨getN t 1 2, getN t 3 2, B, getN t q 4⟩, true) else (pc0, false)) := Lib.hid (by unfold getP; rw [hraw, ← hq])
  have kp := fun w => spec_putPiece ⟨getN t 1 2, getN t 3 2, B, getN t q 4⟩ w (by rw [← hraw]; exact hfit)
  unfold pcV at kp
  dsimp only at kp
  obtain ⟨W, hW⟩ : ∃ W, W = w.alloc (.cells #[.int .i64 0, .int .i64 0, .string ⟨#[]⟩, .int .i64 0] 67) := ⟨_, rfl⟩
  have bW : Below w.heap.size w W := by rw [hW]; exact (Below.refl _ _).alloc (Nat.le_refl _) _
  have KR : Hid (W.heap[w.heap.size]? = some (.cells #[.int .i64 0, .int .i64 0, .string ⟨#[]⟩, .int .i64 0] 67 (0, 0))) := Lib.hid (by rw [hW]; exact heap_new _ _)
  have LR : Hid (w.heap.size < W.heap.size) := Lib.hid (by rw [hW]; simp)
  have BB := Lib.hid bW
  clear bW hfit hraw hB hq
  go_enter Tryz.func42, Tryz.ntmps42
  by_cases hneg : q < 0
  · have HRES : Hid (getP t = (pc0, false)) := Lib.hid (by rw [HG.out, if_pos hneg])
    have fR0 := tcr KR 0
    have zR0 := tfr KR 0
    have fR1 := tcr KR 1
    have zR1 := tfr KR 1
    have fR2 := tcr KR 2
    have zR2 := tfr KR 2
    have fR3 := tcr KR 3
    have zR3 := tfr KR 3
    rw [hW] at fR0 fR1 fR2 fR3 zR0 zR1 zR2 zR3
    go_wp2_with (go_at_call 78; refine (hc _).mono ?_; rintro e w1 ⟨rfl, rfl⟩)
    rw [← hW]
    obtain ⟨j0, q1, q2, q3, q4⟩ := info_parts infoPc
    refine bodyPost_ret (results_cell_row2 (P := Tryz.prog) rfl _ _ w.heap.size _ _ (0, 0) _ _ rfl rfl KR.out Tryz.underlying67 rfl (by rw [q1]; simp [q3])) rfl ⟨by rw [HRES.out]; rfl, BB.out⟩
  · replace HG := Lib.hid (HG.out.trans (if_neg hneg))
    go_wp2_with (first | (go_at_call 78; refine (hc _).mono ?_; rintro e w1 ⟨rfl, rfl⟩) | (go_at_call 79; refine (kn _ _ _ (by omega) (by omega)).mono ?_; rintro e w1 ⟨rfl, rfl⟩) | (go_at_call 67; refine Hid.out ?_))
    refine Lib.hid ?_
    rw [← hW]
    obtain ⟨X, hX⟩ : ∃ A, A = W.alloc (.cells #[.int .i64 (getN t 1 2), .int .i64 (getN t 3 2), .string B, .int .i64 (getN t q 4)] 67) := ⟨_, rfl⟩
    have bX : Below W.heap.size W X := by rw [hX]; exact (Below.refl _ _).alloc (Nat.le_refl _) _
    have hWs : W.heap.size = w.heap.size + 1 := by rw [hW]; simp
    have KX : Hid (X.heap[w.heap.size + 1]? = some (.cells #[.int .i64 (getN t 1 2), .int .i64 (getN t 3 2), .string B, .int .i64 (getN t q 4)] 67 (0, 0))) := Lib.hid (by rw [hX, ← hWs]; exact heap_new _ _)
    have LX : Hid (w.heap.size + 1 < X.heap.size) := Lib.hid (by rw [hX, ← hWs]; simp)
    rw [← hX]
    replace KR := tkb bX LR KR
    replace LR := tlz LR bX.size
    replace BB := tbt BB bX
    clear hX hW bX hWs hc kn
    refine (kp X).mono ?_
    rintro e w2 ⟨rfl, hb⟩
    replace KR := tkb hb LR KR
    replace KX := tkb hb LX KX
    replace LR := tlz LR hb.size
    replace BB := tbt BB hb
    clear hb LX kp
    obtain ⟨E, hE⟩ : ∃ z, z = pcB ⟨getN t 1 2, getN t 3 2, B, getN t q 4⟩ := ⟨_, rfl⟩
    rw [← hE] at HG ⊢
    clear hE
    by_cases hEt : E = t
    · have hqt := str_eq hEt
      have HRES : Hid (getP t = (⟨getN t 1 2, getN t 3 2, B, getN t q 4⟩, true)) := Lib.hid (by rw [HG.out, if_pos hEt])
      clear hEt HG
      have fX0 := tcr KX 0
      have fX1 := tcr KX 1
      have fX2 := tcr KX 2
      have fX3 := tcr KX 3
      have fR0 := tcr KR 0
      have zR0 := tfr KR 0
      have fR1 := tcr KR 1
      have zR1 := tfr KR 1
      have fR2 := tcr KR 2
      have zR2 := tfr KR 2
      have fR3 := tcr KR 3
      have zR3 := tfr KR 3
      go_wp2_with fail
      obtain ⟨j0, q1, q2, q3, q4⟩ := info_parts infoPc
      refine bodyPost_ret (results_cell_row2 (P := Tryz.prog) rfl _ _ w.heap.size _ _ (0, 0) _ _ rfl rfl (store4 KR.out) Tryz.underlying67 rfl (by rw [q1]; simp [q3])) rfl ⟨by rw [HRES.out]; rfl, below4 BB.out (Nat.le_refl _)⟩
    · have hqt := str_ne hEt
      have HRES : Hid (getP t = (pc0, false)) := Lib.hid (by rw [HG.out, if_neg hEt])
      clear hEt HG
      have fR0 := tcr KR 0
      have zR0 := tfr KR 0
      have fR1 := tcr KR 1
      have zR1 := tfr KR 1
      have fR2 := tcr KR 2
      have zR2 := tfr KR 2
      have fR3 := tcr KR 3
      have zR3 := tfr KR 3
      have fX0 := tcr KX 0
      have fX1 := tcr KX 1
      have fX2 := tcr KX 2
      have fX3 := tcr KX 3
      go_wp2_with fail
      obtain ⟨j0, q1, q2, q3, q4⟩ := info_parts infoPc
      refine bodyPost_ret (results_cell_row2 (P := Tryz.prog) rfl _ _ w.heap.size _ _ (0, 0) _ _ rfl rfl (store4 KR.out) Tryz.underlying67 rfl (by rw [q1]; simp [q3])) rfl ⟨by rw [HRES.out]; rfl, below4 BB.out (Nat.le_refl _)⟩
end Go.Proofs.YtdpjdjkfedcojaaGreat
