/- What the program's Taken answers. Condition: a text of a size that a text may have. -/
import Derived.Test.YtdpjdjkfedcojaaBaseA
import Derived.Test.YtdpjdjkfedcojaaImplTkA
import Derived.Test.YtdpjdjkfedcojaaSpecEnc
import Derived.Test.YtdpjdjkfedcojaaImplDecode
namespace Go.Proofs.Ytdpjdjkfedcojaa
open Go.RowKit
set_option linter.unusedVariables false
set_option linter.unusedSimpArgs false

theorem dec_empty8 : decS ⟨#[]⟩ = (⟨[], []⟩, 0) := by
  have h : inB (getN ⟨#[]⟩ 1 1) 1 3 = false := by decide
  unfold decS
  rw [h]
  rfl
/-- Who has taken all that there is, or nothing yet. -/
theorem taken_end {t : Tkr} (h : tkrOk t = true) (hn : ¬ t.nx ≤ t.of) : takenS t = ((decS t.b).1, decide (0 < (decS t.b).2)) := by
  unfold takenS
  rw [if_neg (by rw [h]; decide)]
  by_cases h0 : t.of = 0
  · have e := tkr_new h h0
    have eb : t.b = ⟨#[]⟩ := by rw [e]; rfl
    rw [if_pos h0, eb, dec_empty8]
    rfl
  · have := tkr_in h h0
    rw [if_neg h0, if_neg (by omega)]
theorem taken_not {t : Tkr} (h : tkrOk t = true) (hn : t.nx ≤ t.of) : takenS t = (⟨[], []⟩, false) := by
  unfold takenS
  rw [if_neg (by rw [h]; decide)]
  by_cases h0 : t.of = 0
  · rw [if_pos h0]
  · rw [if_neg h0, if_pos (by omega)]
theorem dec_pos8 (t : ByteArray) : ((decS t).2 != 0) = decide (0 < (decS t).2) := by
  by_cases h : (decS t).2 = 0
  · rw [h]; rfl
  · have h1 := inB_true (dec_fmt h).2.2
    rw [Bool.eq_iff_iff]
    simp only [bne_iff_ne, decide_eq_true_eq]
    omega
set_option maxRecDepth 100000 in
set_option maxHeartbeats 8000000 in
theorem impl_taken (t : Tkr) (w : World) (hf : FitTkr t) (hb8 : t.b.size ≤ 1099511627776) :
    Calls Try.prog 17 #[tkrV t] w fun e w' => ∃ v, e = .returned (.tuple #[v, .bool (takenS t).2]) ∧ DecV w' w.heap.size v (takenS t).1 ∧ Below w.heap.size w w' := by
  have kt := fun w => impl_takerOk t w hf
  obtain ⟨⟨o1, o2⟩, ⟨n1, n2⟩, ⟨c1, c2⟩, hb⟩ := hf
  have HO : Hid (tkrOk t = false → takenS t = (⟨[], []⟩, false)) := Lib.hid (fun h => by unfold takenS; rw [if_pos h])
  have HE := Lib.hid (@taken_end t)
  have HN := Lib.hid (@taken_not t)
  have hd0 := dec_pos8 t.b
  obtain ⟨r, hr⟩ : ∃ r, r = tkrOk t := ⟨_, rfl⟩
  rw [← hr] at kt HO HE HN
  clear hr
  have kd := fun w => impl_decode t.b w hb8
  obtain ⟨o, n, c, b⟩ := t
  unfold tkrV at *
  dsimp only at o1 o2 n1 n2 c1 c2 hb hb8 HO HE HN hd0 kt kd ⊢
  obtain ⟨ds, hds⟩ : ∃ z, z = (decS b).1 := ⟨_, rfl⟩
  obtain ⟨dv, hdv⟩ : ∃ z, z = (decS b).2 := ⟨_, rfl⟩
  rw [← hds, ← hdv] at HE kd
  rw [← hdv] at hd0
  clear hds hdv
  obtain ⟨W, hW⟩ : ∃ W, W = (w.alloc (.cells #[.int .i64 o, .int .i64 n, .int .i64 c, .string b] 25)).alloc (.cells #[.slice none 0 0, .slice none 0 0] 35) := ⟨_, rfl⟩
  have BB : Hid (Below w.heap.size w W) := Lib.hid (by rw [hW]; exact ((Below.refl _ _).alloc (Nat.le_refl _) _).alloc (by simp) _)
  have hWs : W.heap.size = w.heap.size + 2 := by rw [hW]; simp
  have KT : Hid (W.heap[w.heap.size]? = some (.cells #[.int .i64 o, .int .i64 n, .int .i64 c, .string b] 25 (0, 0))) := Lib.hid (by rw [hW, Below.heap_alloc _ _ _ (by simp)]; exact heap_new _ _)
  have KR : Hid (W.heap[w.heap.size + 1]? = some (.cells #[.slice none 0 0, .slice none 0 0] 35 (0, 0))) := Lib.hid (by rw [hW]; simpa using heap_new (w.alloc (.cells #[.int .i64 o, .int .i64 n, .int .i64 c, .string b] 25)) (.cells #[.slice none 0 0, .slice none 0 0] 35))
  have LT : Hid (w.heap.size < W.heap.size) := Lib.hid (by omega)
  have LR : Hid (w.heap.size + 1 < W.heap.size) := Lib.hid (by omega)
  clear hWs
  have f0 := tcr KT 0
  have f1 := tcr KT 1
  have f2 := tcr KT 2
  have f3 := tcr KT 3
  have hc := kt W
  rw [hW] at hc f0 f1 f2 f3
  go_enter Try.func17, Try.ntmps17
  go_wp2_with (go_at_call 14; refine hc.mono ?_; rintro e w1 ⟨rfl, hb1⟩; refine Hid.out ?_)
  refine Lib.hid ?_
  rw [← hW] at hb1
  clear hc hW kt f0 f1 f2 f3
  replace KT := tkb hb1 LT KT
  replace KR := tkb hb1 LR KR
  replace LT := tlz LT hb1.size
  replace LR := tlz LR hb1.size
  replace BB := tbt BB hb1
  clear hb1
  have f0 := tcr KT 0
  have f1 := tcr KT 1
  have f2 := tcr KT 2
  have f3 := tcr KT 3
  have g0 := tcr KR 0
  have g1 := tcr KR 1
  have z0 := tfr KR 0
  have z1 := tfr KR 1
  cases r
  · skip
    have HRES : Hid (takenS ⟨o, n, c, b⟩ = (⟨[], []⟩, false)) := Lib.hid (by exact HO.out rfl)
    clear HO HE HN kd
    go_wp2_with fail
    have k1 := heap_setCell_same _ (w.heap.size + 1) 0 _ _ (.slice none 0 0) KR.out
    have k2 := heap_setCell_same _ (w.heap.size + 1) 1 _ _ (.slice none 0 0) k1
    obtain ⟨j0, q1, q2, q3, q4⟩ := info_parts infoSt
    refine bodyPost_ret (results_cell_row2 (P := Try.prog) rfl _ _ (w.heap.size + 1) _ _ (0, 0) _ _ rfl rfl k2 Try.underlying35 rfl (by rw [q1]; simp [q3])) rfl ⟨.agg #[.slice none 0 0, .slice none 0 0], by rw [HRES.out]; rfl, ?_, ?_⟩
    · rw [HRES.out]; exact .inl ⟨rfl, rfl⟩
    · exact (BB.out.setCell (p := ⟨w.heap.size + 1, 0, none⟩) (by show w.heap.size ≤ w.heap.size + 1; omega) _).setCell (p := ⟨w.heap.size + 1, 1, none⟩) (by show w.heap.size ≤ w.heap.size + 1; omega) _
  by_cases hn : n ≤ o
  · have hle : decide (n ≤ o) = true := decide_eq_true hn
    have HRES : Hid (takenS ⟨o, n, c, b⟩ = (⟨[], []⟩, false)) := Lib.hid (by exact HN.out rfl (by omega))
    clear HO HE HN kd
    go_wp2_with fail
    have k1 := heap_setCell_same _ (w.heap.size + 1) 0 _ _ (.slice none 0 0) KR.out
    have k2 := heap_setCell_same _ (w.heap.size + 1) 1 _ _ (.slice none 0 0) k1
    obtain ⟨j0, q1, q2, q3, q4⟩ := info_parts infoSt
    refine bodyPost_ret (results_cell_row2 (P := Try.prog) rfl _ _ (w.heap.size + 1) _ _ (0, 0) _ _ rfl rfl k2 Try.underlying35 rfl (by rw [q1]; simp [q3])) rfl ⟨.agg #[.slice none 0 0, .slice none 0 0], by rw [HRES.out]; rfl, ?_, ?_⟩
    · rw [HRES.out]; exact .inl ⟨rfl, rfl⟩
    · exact (BB.out.setCell (p := ⟨w.heap.size + 1, 0, none⟩) (by show w.heap.size ≤ w.heap.size + 1; omega) _).setCell (p := ⟨w.heap.size + 1, 1, none⟩) (by show w.heap.size ≤ w.heap.size + 1; omega) _
  have hle : decide (n ≤ o) = false := decide_eq_false hn
  have HRES : Hid (takenS ⟨o, n, c, b⟩ = (ds, decide (0 < dv))) := Lib.hid (HE.out rfl (by omega))
  clear HO HE HN
  have hc := kd w1
  go_wp2_with (go_at_call 48; refine hc.mono ?_; rintro e w2 ⟨dvv, rfl, hdec, hb2, hlt2⟩; refine Hid.out ?_)
  refine Lib.hid ?_
  skip
  obtain ⟨vi, vt, rfl, r1, r2⟩ := hdec.st
  obtain ⟨sa, sc, rfl⟩ := slice_rowE r1
  obtain ⟨ta, tc, rfl⟩ := slice_rowE r2
  clear r1 r2 hc
  clear kd f0 f1 f2 f3 g0 g1 z0 z1
  obtain ⟨X, hX⟩ : ∃ X, X = w2.alloc (.cells #[.slice sa ds.items.length sc, .slice ta ds.talks.length tc] 35) := ⟨_, rfl⟩
  have bX : Below w2.heap.size w2 X := by rw [hX]; exact (Below.refl _ _).alloc (Nat.le_refl _) _
  have KX : Hid (X.heap[w2.heap.size]? = some (.cells #[.slice sa ds.items.length sc, .slice ta ds.talks.length tc] 35 (0, 0))) := Lib.hid (by rw [hX]; exact heap_new _ _)
  have HB : Hid (w.heap.size + 2 ≤ w1.heap.size) := Lib.hid LR.out
  replace KR := tkb hb2 LR KR
  replace LR := tlz LR hb2.size
  replace BB := tbt BB hb2
  replace KR := tkb bX LR KR
  replace BB := tbt BB bX
  have HD := Lib.hid (hdec.later bX)
  clear hb2 bX hdec
  have g0 := tcr KR 0
  have g1 := tcr KR 1
  have z0 := tfr KR 0
  have z1 := tfr KR 1
  have x0 := tcr KX 0
  have x1 := tcr KX 1
  rw [hX] at g0 g1 z0 z1 x0 x1
  go_wp2_with fail
  rw [← hX]
  have k1 := heap_setCell_same _ (w.heap.size + 1) 0 _ _ (.slice sa ds.items.length sc) KR.out
  have k2 := heap_setCell_same _ (w.heap.size + 1) 1 _ _ (.slice ta ds.talks.length tc) k1
  obtain ⟨j0, q1, q2, q3, q4⟩ := info_parts infoSt
  refine bodyPost_ret (results_cell_row2 (P := Try.prog) rfl _ _ (w.heap.size + 1) _ _ (0, 0) _ _ rfl rfl k2 Try.underlying35 rfl (by rw [q1]; simp [q3])) rfl ⟨.agg #[.slice sa ds.items.length sc, .slice ta ds.talks.length tc], by rw [HRES.out]; rfl, ?_, ?_⟩
  · rw [HRES.out]
    rcases HD.out with ⟨e1, e2⟩ | ho
    · exact .inl ⟨e1, e2⟩
    · exact .inr ((own_set (base := w.heap.size + 1) (ho.base HB.out) (Nat.le_refl _) _ _).base (by omega))
  · exact (BB.out.setCell (p := ⟨w.heap.size + 1, 0, none⟩) (by show w.heap.size ≤ w.heap.size + 1; omega) _).setCell (p := ⟨w.heap.size + 1, 1, none⟩) (by show w.heap.size ≤ w.heap.size + 1; omega) _
end Go.Proofs.Ytdpjdjkfedcojaa
