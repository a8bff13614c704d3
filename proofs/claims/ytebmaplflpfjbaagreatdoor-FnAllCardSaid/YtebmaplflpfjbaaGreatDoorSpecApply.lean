/- What spec.Apply answers: 'ap'. Condition: a state and an operation that can be read, not too great. -/
import Derived.Test.YtebmaplflpfjbaaGreatDoorBaseA
import Derived.Test.YtebmaplflpfjbaaGreatDoorApplyPlain
import Derived.Test.YtebmaplflpfjbaaGreatDoorSpecPut
import Derived.Test.YtebmaplflpfjbaaGreatDoorSpecPutT
import Derived.Test.YtebmaplflpfjbaaGreatDoorSpecDrop
import Derived.Test.YtebmaplflpfjbaaGreatDoorAppendNil
namespace Go.Proofs.YtebmaplflpfjbaaGreatDoor
open Go.RowKit List
set_option linter.unusedVariables false
set_option linter.unusedSimpArgs false

theorem OwnN.two {w : World} {b : Nat} {v : Value} {s : St} (h : OwnN w b v s) : ∃ a0 k0 a1 k1, v = .agg #[.slice a0 s.items.length k0, .slice a1 s.talks.length k1] := by
  obtain ⟨_, _, _, _, _, _, h, _, ⟨a0, rfl, _⟩, ⟨a1, rfl, _⟩, _⟩ := h
  exact ⟨_, _, _, _, h⟩
set_option maxRecDepth 100000 in
set_option maxHeartbeats 8000000 in
theorem spec_apply (s : St) (v : Value) (x : Rq) (B : Nat) (w : World) (hs : StV w B v s) (hB : B ≤ w.heap.size) (hsm : Small s 2097152) (hfit : Fits s) (hx : FitRq x) :
    Calls Tryz.prog 17 #[v, rqA x] w fun e w' => ∃ v', e = .returned (.tuple #[v', .string (ap s x).2.1, .int .i64 (ap s x).2.2]) ∧ OwnN w' w.heap.size v' (ap s x).1 ∧ Below w.heap.size w w' := by
  have HS := Lib.hid hs
  have Hfit := Lib.hid hfit
  have Hx := Lib.hid hx
  have Hsm := Lib.hid hsm
  have Hfew : Hid (Few s) := Lib.hid (by have := hsm; unfold Small at this; unfold Few; omega)
  obtain ⟨vi, vt, rfl, hri, hrt⟩ := hs
  have HRt := Lib.hid hrt
  have HRi := Lib.hid hri
  unfold rqA
  obtain ⟨R, hR⟩ : ∃ R, R = ap s x := ⟨_, rfl⟩
  have HR := Lib.hid hR
  rw [← hR]
  obtain ⟨W, hW⟩ : ∃ W, W = ((w.alloc (.cells #[vi, vt] 27)).alloc (.cells #[.string x.c, .int .i64 x.q, .int .i64 x.n, .string x.k, .string x.v] 41)).alloc (.cells #[.slice none 0 0, .slice none 0 0] 27) := ⟨_, rfl⟩
  have hbW : Below w.heap.size w W := by rw [hW]; exact (((Below.refl _ _).alloc (Nat.le_refl _) _).alloc (by simp) _).alloc (by simp; omega) _
  have hWs : W.heap.size = w.heap.size + 3 := by rw [hW]; simp
  have KP : Hid (W.heap[w.heap.size]? = some (.cells #[vi, vt] 27 (0, 0))) := Lib.hid (by rw [hW, Below.heap_alloc _ _ _ (by simp; omega), Below.heap_alloc _ _ _ (by simp)]; exact heap_new _ _)
  have KQ : Hid (W.heap[w.heap.size + 1]? = some (.cells #[.string x.c, .int .i64 x.q, .int .i64 x.n, .string x.k, .string x.v] 41 (0, 0))) := Lib.hid (by rw [hW, Below.heap_alloc _ _ _ (by simp)]; simpa using heap_new (w.alloc (.cells #[vi, vt] 27)) (.cells #[.string x.c, .int .i64 x.q, .int .i64 x.n, .string x.k, .string x.v] 41))
  have KR : Hid (W.heap[w.heap.size + 1 + 1]? = some (.cells #[.slice none 0 0, .slice none 0 0] 27 (0, 0))) := Lib.hid (by rw [hW]; simpa using heap_new ((w.alloc (.cells #[vi, vt] 27)).alloc (.cells #[.string x.c, .int .i64 x.q, .int .i64 x.n, .string x.k, .string x.v] 41)) (.cells #[.slice none 0 0, .slice none 0 0] 27))
  have LP : Hid (w.heap.size < W.heap.size) := Lib.hid (by omega)
  have LQ : Hid (w.heap.size + 1 < W.heap.size) := Lib.hid (by omega)
  have LR : Hid (w.heap.size + 1 + 1 < W.heap.size) := Lib.hid (by omega)
  have HWs := Lib.hid hWs
  have BB := Lib.hid hbW
  have hc0 := spec_copy s _ B W (HS.out.rd.later (hbW.mono hB) (Nat.le_refl _)) (Nat.le_trans hB hbW.size) Hfew.out
  have p0 : W.cell? ⟨w.heap.size, 0, none⟩ = some vi := by simpa using cell_of_row W _ 0 _ _ _ KP.out
  have p1 : W.cell? ⟨w.heap.size, 1, none⟩ = some vt := by simpa using cell_of_row W _ 1 _ _ _ KP.out
  rw [hW] at hc0 p0 p1
  clear hfit hx hsm hri hrt hR hbW hWs
  go_enter Tryz.func17, Tryz.ntmps17
  go_wp2_with (go_at_call 16; refine hc0.mono ?_; rintro e w1 ⟨v1, rfl, ho1, hb1⟩; refine Hid.out ?_)
  refine Lib.hid ?_
  rw [← hW] at ho1 hb1
  have S1 := Lib.hid ho1.n
  obtain ⟨a0, k0, a1, k1, rfl⟩ := ho1.n.two
  clear hc0 hW p0 p1 ho1
  have HsW := Lib.hid hb1.size
  replace KP := tkb hb1 LP KP
  replace LP := tlz LP hb1.size
  replace KQ := tkb hb1 LQ KQ
  replace LQ := tlz LQ hb1.size
  replace KR := tkb hb1 LR KR
  replace LR := tlz LR hb1.size
  replace BB := tbt BB hb1
  clear hb1
  have yX : Hid (W.heap.size ≤ w1.heap.size) := Lib.hid HsW.out
  obtain ⟨X1, hX1⟩ : ∃ x, x = w1.alloc (.cells #[.slice a0 s.items.length k0, .slice a1 s.talks.length k1] 27) := ⟨_, rfl⟩
  have bX1 : Below w1.heap.size w1 X1 := by rw [hX1]; exact (Below.refl _ _).alloc (Nat.le_refl _) _
  have sX1 : Hid (X1.heap.size = w1.heap.size + 1) := Lib.hid (by rw [hX1]; simp)
  replace KP := tkb bX1 LP KP
  replace LP := tlz LP bX1.size
  replace KQ := tkb bX1 LQ KQ
  replace LQ := tlz LQ bX1.size
  replace KR := tkb bX1 LR KR
  replace LR := tlz LR bX1.size
  replace BB := tbt BB bX1
  replace S1 := Lib.hid (S1.out.later bX1)
  have KX : Hid (X1.heap[w1.heap.size]? = some (.cells #[.slice a0 s.items.length k0, .slice a1 s.talks.length k1] 27 (0, 0))) := Lib.hid (by rw [hX1]; exact heap_new _ _)
  have LX : Hid (w1.heap.size < X1.heap.size) := Lib.hid (by have := sX1.out; omega)
  clear bX1
  have hc1 := spec_stateOk s _ B X1 (HS.out.later (BB.out.mono hB) (Nat.le_refl _)) (Nat.le_trans hB BB.out.size) Hfit.out
  rw [hX1] at hc1
  have fP0 := tcr KP 0
  have fP1 := tcr KP 1
  rw [hX1] at fP0 fP1
  go_wp2_with (go_at_call 31; refine hc1.mono ?_; rintro e w2 ⟨rfl, hb2⟩; refine Hid.out ?_)
  refine Lib.hid ?_
  rw [← hX1] at hb2
  clear hX1
  clear fP0 fP1
  replace KP := tkb hb2 LP KP
  replace LP := tlz LP hb2.size
  replace KQ := tkb hb2 LQ KQ
  replace LQ := tlz LQ hb2.size
  replace KR := tkb hb2 LR KR
  replace LR := tlz LR hb2.size
  replace KX := tkb hb2 LX KX
  replace LX := tlz LX hb2.size
  replace BB := tbt BB hb2
  replace S1 := Lib.hid (S1.out.later hb2)
  clear hc1 hb2
  by_cases hok : stOk s = true
  case neg =>
    have hok' : stOk s = false := by simpa using hok
    have HK := Lib.hid hok'
    rw [hok']
    clear hok hok'
    have hR : R = _ := HR.out.trans (ap_bad (.inl HK.out))
    clear HR
    subst hR
    have fR0 := tcr KR 0
    have fR1 := tcr KR 1
    have zR0 := tfr KR 0
    have zR1 := tfr KR 1
    have fX0 := tcr KX 0
    have fX1 := tcr KX 1
    go_wp2_with fail
    clear fR0 fR1 fX0 fX1
    clear zR0 zR1
    have f1 := heap_setCell_same _ (w.heap.size + 1 + 1) 0 _ _ (.slice a0 s.items.length k0) KR.out
    have f2 := heap_setCell_same _ (w.heap.size + 1 + 1) 1 _ _ (.slice a1 s.talks.length k1) f1
    obtain ⟨j0, q1, q2, q3, q4⟩ := info_parts infoSt
    refine bodyPost_ret (results_cell_row3 (P := Tryz.prog) rfl _ _ (w.heap.size + 1 + 1) _ _ (0, 0) _ _ _ rfl rfl rfl f2 Tryz.underlying27 rfl (by rw [q1]; simp [q3])) rfl ⟨.agg #[.slice a0 s.items.length k0, .slice a1 s.talks.length k1], rfl, ?_, ?_⟩
    · exact ((S1.out.kept (grown_set _ ⟨w.heap.size + 1 + 1, 0, none⟩ _) (by have := HWs.out; show w.heap.size + 1 + 1 < _; omega)).kept (grown_set _ ⟨w.heap.size + 1 + 1, 1, none⟩ _) (by have := HWs.out; show w.heap.size + 1 + 1 < _; omega)).base (by have := HWs.out; omega)
    · exact (BB.out.setCell (p := ⟨w.heap.size + 1 + 1, 0, none⟩) (by simp; omega) _).setCell (p := ⟨w.heap.size + 1 + 1, 1, none⟩) (by simp; omega) _
  have HO := Lib.hid hok
  rw [hok]
  clear hok
  have hc2 := spec_opOk x w2 Hx.out
  unfold rqA at hc2
  have fQ0 := tcr KQ 0
  have fQ1 := tcr KQ 1
  have fQ2 := tcr KQ 2
  have fQ3 := tcr KQ 3
  have fQ4 := tcr KQ 4
  go_wp2_with (go_at_call 32; refine hc2.mono ?_; rintro e w3 ⟨rfl, hb3⟩; refine Hid.out ?_)
  refine Lib.hid ?_
  clear fQ0 fQ1 fQ2 fQ3 fQ4
  replace KP := tkb hb3 LP KP
  replace LP := tlz LP hb3.size
  replace KQ := tkb hb3 LQ KQ
  replace LQ := tlz LQ hb3.size
  replace KR := tkb hb3 LR KR
  replace LR := tlz LR hb3.size
  replace KX := tkb hb3 LX KX
  replace LX := tlz LX hb3.size
  replace BB := tbt BB hb3
  replace S1 := Lib.hid (S1.out.later hb3)
  clear hc2 hb3
  by_cases hop : rqOk x = true
  case neg =>
    have hop' : rqOk x = false := by simpa using hop
    have HK := Lib.hid hop'
    rw [hop']
    clear hop hop'
    have hR : R = _ := HR.out.trans (ap_bad (.inr HK.out))
    clear HR
    subst hR
    have fR0 := tcr KR 0
    have fR1 := tcr KR 1
    have zR0 := tfr KR 0
    have zR1 := tfr KR 1
    have fX0 := tcr KX 0
    have fX1 := tcr KX 1
    go_wp2_with fail
    clear fR0 fR1 fX0 fX1
    clear zR0 zR1
    have f1 := heap_setCell_same _ (w.heap.size + 1 + 1) 0 _ _ (.slice a0 s.items.length k0) KR.out
    have f2 := heap_setCell_same _ (w.heap.size + 1 + 1) 1 _ _ (.slice a1 s.talks.length k1) f1
    obtain ⟨j0, q1, q2, q3, q4⟩ := info_parts infoSt
    refine bodyPost_ret (results_cell_row3 (P := Tryz.prog) rfl _ _ (w.heap.size + 1 + 1) _ _ (0, 0) _ _ _ rfl rfl rfl f2 Tryz.underlying27 rfl (by rw [q1]; simp [q3])) rfl ⟨.agg #[.slice a0 s.items.length k0, .slice a1 s.talks.length k1], rfl, ?_, ?_⟩
    · exact ((S1.out.kept (grown_set _ ⟨w.heap.size + 1 + 1, 0, none⟩ _) (by have := HWs.out; show w.heap.size + 1 + 1 < _; omega)).kept (grown_set _ ⟨w.heap.size + 1 + 1, 1, none⟩ _) (by have := HWs.out; show w.heap.size + 1 + 1 < _; omega)).base (by have := HWs.out; omega)
    · exact (BB.out.setCell (p := ⟨w.heap.size + 1 + 1, 0, none⟩) (by simp; omega) _).setCell (p := ⟨w.heap.size + 1 + 1, 1, none⟩) (by simp; omega) _
  have HQ := Lib.hid hop
  rw [hop]
  clear hop
  have hc3 := spec_talkAt s _ B x.c w3 (HS.out.later (BB.out.mono hB) (Nat.le_refl _)) (Nat.le_trans hB BB.out.size)
  have fP0 := tcr KP 0
  have fP1 := tcr KP 1
  have fQ0 := tcr KQ 0
  have fQ1 := tcr KQ 1
  have fQ2 := tcr KQ 2
  have fQ3 := tcr KQ 3
  have fQ4 := tcr KQ 4
  go_wp2_with (go_at_call 33; refine hc3.mono ?_; rintro e w4 ⟨rfl, hb4⟩; refine Hid.out ?_)
  refine Lib.hid ?_
  clear fP0 fP1 fQ0 fQ1 fQ2 fQ3 fQ4
  replace KP := tkb hb4 LP KP
  replace LP := tlz LP hb4.size
  replace KQ := tkb hb4 LQ KQ
  replace LQ := tlz LQ hb4.size
  replace KR := tkb hb4 LR KR
  replace LR := tlz LR hb4.size
  replace KX := tkb hb4 LX KX
  replace LX := tlz LX hb4.size
  replace BB := tbt BB hb4
  replace S1 := Lib.hid (S1.out.later hb4)
  clear hc3 hb4
  obtain ⟨E, hE⟩ : ∃ E : Bool, E = decide (0 ≤ talkAt s.talks x.c ∧ x.q ≤ (talkOf s x.c).q) := ⟨_, rfl⟩
  have HE := Lib.hid hE
  clear hE
  go_wp2_with fail
  go_cut [8, 40] (fun a b wx => a = .int .i64 (talkAt s.talks x.c) ∧ b = .bool E ∧ Hid (Below w4.heap.size w4 wx))
  case first =>
    by_cases hi : 0 ≤ talkAt s.talks x.c
    · obtain ⟨i, hi', ht, hn⟩ := talkAt_hit hi
      obtain ⟨T, hT⟩ : ∃ T, T = s.talks[i] := ⟨_, rfl⟩
      have HTK : Hid (talkOf s x.c = T) := Lib.hid (by unfold talkOf; rw [ht, Int.toNat_natCast, getD_at hi', hT])
      have Hi := Lib.hid hi
      have Ht := Lib.hid ht
      rw [ht]
      obtain ⟨hrl, hr⟩ := HRt.out
      rcases hr with ⟨_, h0⟩ | ⟨g, o, cap, rfl, hnc, hcm, hgB, hAt⟩
      · omega
      have hgB : g < B := by rcases hgB with h | h <;> omega
      have hcell := hAt.talk i hi'
      rw [← hT] at hcell
      have hlt : (i : Int) < (s.talks.length : Int) := by omega
      unfold maxLen at hcm
      have HY : Hid (∀ w', Below w4.heap.size w4 w' → (w'.cell? ⟨w.heap.size, 0, none⟩ = some (vi) ∧ w'.cell? ⟨w.heap.size, 1, none⟩ = some (.slice (some ⟨g, o, none⟩) s.talks.length cap)) ∧ (w'.cell? ⟨w.heap.size + 1, 0, none⟩ = some (.string x.c) ∧ w'.cell? ⟨w.heap.size + 1, 1, none⟩ = some (.int .i64 x.q) ∧ w'.cell? ⟨w.heap.size + 1, 2, none⟩ = some (.int .i64 x.n) ∧ w'.cell? ⟨w.heap.size + 1, 3, none⟩ = some (.string x.k) ∧ w'.cell? ⟨w.heap.size + 1, 4, none⟩ = some (.string x.v)) ∧ w'.cell? ⟨g, o + i * 3, none⟩ = some (.string T.c) ∧ w'.cell? ⟨g, o + i * 3 + 1, none⟩ = some (.int .i64 T.q) ∧ w'.cell? ⟨g, o + i * 3 + 2, none⟩ = some (.string T.r)) := Lib.hid (fun w' h => by
        have hb := BB.out.trans (h.mono BB.out.size)
        have hgw : g < w.heap.size := Nat.lt_of_lt_of_le hgB hB
        have k0 := (h.block _ LP.out).trans KP.out
        have k1 := (h.block _ LQ.out).trans KQ.out
        exact ⟨⟨by simpa using cell_of_row w' _ 0 _ _ _ k0, by simpa using cell_of_row w' _ 1 _ _ _ k0⟩, ⟨by simpa using cell_of_row w' _ 0 _ _ _ k1, by simpa using cell_of_row w' _ 1 _ _ _ k1, by simpa using cell_of_row w' _ 2 _ _ _ k1, by simpa using cell_of_row w' _ 3 _ _ _ k1, by simpa using cell_of_row w' _ 4 _ _ _ k1⟩, by rw [hb.cell (p := ⟨g, o + i * 3, none⟩) hgw, hb.cell (p := ⟨g, o + i * 3 + 1, none⟩) hgw, hb.cell (p := ⟨g, o + i * 3 + 2, none⟩) hgw]; exact hcell⟩)
      clear hcell hAt hT hi ht hn
      have hv : Hid (E = decide (T.q ≥ x.q)) := Lib.hid (by rw [HE.out, HTK.out]; simp [Hi.out])
      refine wp_region_held_drew (S := (fun w' => Below w4.heap.size w4 w')) (by kernel_rfl) ((Below.refl w4.heap.size w4).drew) (fun hHeld => ?_)
      refine tk0 0 ?_
      refine tk0 1 ?_
      refine tk0 2 ?_
      refine tk0 3 ?_
      refine tk 4 (v := ?_) ?_ ?_; rotate_left
      · refine Or.inl ⟨by rfl, ?_⟩; intro w hSw; obtain ⟨⟨gP0, gP1⟩, ⟨gQ0, gQ1, gQ2, gQ3, gQ4⟩, gT0, gT1, gT2⟩ := HY.out w hSw; go_simp; first | done | with_reducible rfl
      refine tk0 5 ?_
      refine tk0 6 ?_
      refine tk0 7 ?_
      refine tk 8 (v := ?_) ?_ ?_; rotate_left
      · refine Or.inl ⟨by rfl, ?_⟩; intro w hSw; obtain ⟨⟨gP0, gP1⟩, ⟨gQ0, gQ1, gQ2, gQ3, gQ4⟩, gT0, gT1, gT2⟩ := HY.out w hSw; go_simp; first | done | with_reducible rfl
      refine tk0 9 ?_
      refine tk 10 (v := ?_) ?_ ?_; rotate_left
      · refine Or.inl ⟨by rfl, ?_⟩; intro w hSw; obtain ⟨⟨gP0, gP1⟩, ⟨gQ0, gQ1, gQ2, gQ3, gQ4⟩, gT0, gT1, gT2⟩ := HY.out w hSw; go_simp; first | done | with_reducible rfl
      refine tk0 11 ?_
      refine tk0 12 ?_
      refine wpAnyH_done (by kernel_rfl) ?_ _
      go_wp2_with fail
      go_meet
      exact ⟨by rw [Ht.out], by rw [hv.out], Lib.hid hHeld⟩
    · have hi2 : ¬ talkAt s.talks x.c ≥ 0 := hi
      have hv : Hid (E = false) := Lib.hid (by rw [HE.out]; simp [hi])
      refine wp_region_held_drew (S := (fun w' => Below w4.heap.size w4 w')) (by kernel_rfl) ((Below.refl w4.heap.size w4).drew) (fun hHeld => ?_)
      refine tk0 0 ?_
      refine tk0 1 ?_
      refine tk0 2 ?_
      refine tku 3 ?_
      refine tku 4 ?_
      refine tku 5 ?_
      refine tku 6 ?_
      refine tku 7 ?_
      refine tku 8 ?_
      refine tku 9 ?_
      refine tku 10 ?_
      refine tku 11 ?_
      refine tk0 12 ?_
      refine wpAnyH_done (by kernel_rfl) ?_ _
      go_wp2_with fail
      go_meet
      exact ⟨rfl, by rw [hv.out], Lib.hid hHeld⟩
  case rest =>
    obtain ⟨rfl, rfl, hbx⟩ := hcut
    obtain ⟨w5, rfl⟩ : ∃ z, z = wc := ⟨_, rfl⟩
    replace KP := Lib.hid ((hbx.out.block _ LP.out).trans KP.out)
    replace LP := Lib.hid (Nat.lt_of_lt_of_le LP.out hbx.out.size)
    replace KQ := Lib.hid ((hbx.out.block _ LQ.out).trans KQ.out)
    replace LQ := Lib.hid (Nat.lt_of_lt_of_le LQ.out hbx.out.size)
    replace KR := Lib.hid ((hbx.out.block _ LR.out).trans KR.out)
    replace LR := Lib.hid (Nat.lt_of_lt_of_le LR.out hbx.out.size)
    replace KX := Lib.hid ((hbx.out.block _ LX.out).trans KX.out)
    replace LX := Lib.hid (Nat.lt_of_lt_of_le LX.out hbx.out.size)
    replace BB := Lib.hid (BB.out.trans (hbx.out.mono BB.out.size))
    replace S1 := Lib.hid (S1.out.later hbx.out)
    clear hbx
    cases hEE : E
    · have HA : Hid (¬ (0 ≤ talkAt s.talks x.c ∧ x.q ≤ (talkOf s x.c).q)) := Lib.hid (by have h := HE.out; rw [hEE] at h; simpa using h.symm)
      clear HE hEE
      have hc4 := spec_itemAt s _ B x.k w5 (HS.out.later (BB.out.mono hB) (Nat.le_refl _)) (Nat.le_trans hB BB.out.size)
      have fP0 := tcr KP 0
      have fP1 := tcr KP 1
      have fQ0 := tcr KQ 0
      have fQ1 := tcr KQ 1
      have fQ2 := tcr KQ 2
      have fQ3 := tcr KQ 3
      have fQ4 := tcr KQ 4
      go_wp2_with (go_at_call 34; refine hc4.mono ?_; rintro e w7 ⟨rfl, hb7⟩; refine Hid.out ?_)
      refine Lib.hid ?_
      clear fP0 fP1 fQ0 fQ1 fQ2 fQ3 fQ4
      replace KP := tkb hb7 LP KP
      replace LP := tlz LP hb7.size
      replace KQ := tkb hb7 LQ KQ
      replace LQ := tlz LQ hb7.size
      replace KR := tkb hb7 LR KR
      replace LR := tlz LR hb7.size
      replace KX := tkb hb7 LX KX
      replace LX := tlz LX hb7.size
      replace BB := tbt BB hb7
      replace S1 := Lib.hid (S1.out.later hb7)
      clear hc4 hb7
      go_upto_if 63 with fail
      go_cut [9, 10] (fun b a wx => b = .string (valOf s x.k) ∧ a = .int .i64 (itemAt s.items x.k) ∧ Hid (Below w7.heap.size w7 wx))
      case first =>
        by_cases hi : 0 ≤ itemAt s.items x.k
        · obtain ⟨i, hi', ht, hn⟩ := itemAt_hit hi
          obtain ⟨T, hT⟩ : ∃ T, T = s.items[i] := ⟨_, rfl⟩
          have hv : Hid (valOf s x.k = T.v) := Lib.hid (by unfold valOf; rw [if_pos hi, ht, Int.toNat_natCast, getD_at hi', hT])
          have Ht := Lib.hid ht
          rw [ht]
          obtain ⟨hrl, hr⟩ := HRi.out
          rcases hr with ⟨_, h0⟩ | ⟨g, o, cap, rfl, hnc, hcm, hgB, hAt⟩
          · omega
          have hgB : g < B := by rcases hgB with h | h <;> omega
          have hcell := (hAt.item i hi').2
          rw [← hT] at hcell
          have hlt : (i : Int) < (s.items.length : Int) := by omega
          unfold maxLen at hcm
          rw [← BB.out.cell (p := ⟨g, o + i * 2 + 1, none⟩) (Nat.lt_of_lt_of_le hgB hB)] at hcell
          have fP0 := tcr KP 0
          have fP1 := tcr KP 1
          clear hi ht hn hT hAt hrl
          go_wp2_with fail
          go_meet
          exact ⟨by rw [hv.out], by rw [Ht.out], Lib.hid (Below.refl _ _)⟩
        · have hv : Hid (valOf s x.k = ⟨#[]⟩) := Lib.hid (if_neg hi)
          have hi2 : ¬ itemAt s.items x.k ≥ 0 := hi
          go_wp2_with fail
          go_meet
          exact ⟨by rw [hv.out], rfl, Lib.hid (Below.refl _ _)⟩
      case rest =>
        obtain ⟨rfl, rfl, hbx⟩ := hcut
        obtain ⟨w8, rfl⟩ : ∃ z, z = wc := ⟨_, rfl⟩
        replace KP := Lib.hid ((hbx.out.block _ LP.out).trans KP.out)
        replace LP := Lib.hid (Nat.lt_of_lt_of_le LP.out hbx.out.size)
        replace KQ := Lib.hid ((hbx.out.block _ LQ.out).trans KQ.out)
        replace LQ := Lib.hid (Nat.lt_of_lt_of_le LQ.out hbx.out.size)
        replace KR := Lib.hid ((hbx.out.block _ LR.out).trans KR.out)
        replace LR := Lib.hid (Nat.lt_of_lt_of_le LR.out hbx.out.size)
        replace KX := Lib.hid ((hbx.out.block _ LX.out).trans KX.out)
        replace LX := Lib.hid (Nat.lt_of_lt_of_le LX.out hbx.out.size)
        replace BB := Lib.hid (BB.out.trans (hbx.out.mono BB.out.size))
        replace S1 := Lib.hid (S1.out.later hbx.out)
        clear hbx
        have hc5 := spec_copy s _ B w8 (HS.out.rd.later (BB.out.mono hB) (Nat.le_refl _)) (Nat.le_trans hB BB.out.size) Hfew.out
        have fP0 := tcr KP 0
        have fP1 := tcr KP 1
        go_wp2_with (go_at_call 16; refine hc5.mono ?_; rintro e w9 ⟨v2, rfl, ho2, hb9⟩; refine Hid.out ?_)
        refine Lib.hid ?_
        clear fP0 fP1
        have y8 := Lib.hid hb9.size
        replace KP := tkb hb9 LP KP
        replace LP := tlz LP hb9.size
        replace KQ := tkb hb9 LQ KQ
        replace LQ := tlz LQ hb9.size
        replace KR := tkb hb9 LR KR
        replace LR := tlz LR hb9.size
        replace KX := tkb hb9 LX KX
        replace LX := tlz LX hb9.size
        replace BB := tbt BB hb9
        replace S1 := Lib.hid (S1.out.later hb9)
        have S2 := Lib.hid ho2.n
        obtain ⟨a2, k2, a3, k3, rfl⟩ := ho2.n.two
        clear hc5 ho2 hb9
        have KP9 := KP
        have LP9 := LP
        have KQ9 := KQ
        have LQ9 := LQ
        have KR9 := KR
        have LR9 := LR
        have KX9 := KX
        have LX9 := LX
        have BB9 := BB
        have S9 := S1
        clear S1
        have B9 : Hid (Below w9.heap.size w9 w9) := Lib.hid (Below.refl _ _)
        obtain ⟨X2, hX2⟩ : ∃ x, x = w9.alloc (.cells #[.slice a2 s.items.length k2, .slice a3 s.talks.length k3] 27) := ⟨_, rfl⟩
        have bX2 : Below w9.heap.size w9 X2 := by rw [hX2]; exact (Below.refl _ _).alloc (Nat.le_refl _) _
        have sX2 : Hid (X2.heap.size = w9.heap.size + 1) := Lib.hid (by rw [hX2]; simp)
        replace KP := tkb bX2 LP KP
        replace LP := tlz LP bX2.size
        replace KQ := tkb bX2 LQ KQ
        replace LQ := tlz LQ bX2.size
        replace KR := tkb bX2 LR KR
        replace LR := tlz LR bX2.size
        replace KX := tkb bX2 LX KX
        replace LX := tlz LX bX2.size
        replace BB := tbt BB bX2
        replace B9 := tbt B9 bX2
        have KY : Hid (X2.heap[w9.heap.size]? = some (.cells #[.slice a2 s.items.length k2, .slice a3 s.talks.length k3] 27 (0, 0))) := Lib.hid (by rw [hX2]; exact heap_new _ _)
        have LY : Hid (w9.heap.size < X2.heap.size) := Lib.hid (by have := sX2.out; omega)
        clear bX2
        obtain ⟨EE, hEE⟩ : ∃ E : Bool, E = stOk (stepS s x) := ⟨_, rfl⟩
        have HEE := Lib.hid hEE
        clear hEE
        have fQ0 := tcr KQ 0
        have fQ1 := tcr KQ 1
        have fQ2 := tcr KQ 2
        have fQ3 := tcr KQ 3
        have fQ4 := tcr KQ 4
        rw [hX2] at fQ0 fQ1 fQ2 fQ3 fQ4
        go_upto_block 0 with fail
        rw [← hX2]
        clear fQ0 fQ1 fQ2 fQ3 fQ4
        clear hX2
        go_cut [12] (fun b wx => ∃ (aa : Option Addr) (na ka : Nat) (ab : Option Addr) (nb kb : Nat), b = .bool EE ∧ Hid (wx.heap[w9.heap.size]? = some (.cells #[.slice aa na ka, .slice ab nb kb] 27 (0, 0))) ∧ Hid (w9.heap.size < wx.heap.size) ∧ Hid (EE = true → OwnN wx w8.heap.size (.agg #[.slice aa na ka, .slice ab nb kb]) (stepS s x)) ∧ Hid (Below w9.heap.size w9 wx))
        case first =>
          by_cases h1 : x.n = 1
          · have h1' : (x.n == 1) = true := by simp [h1]
            have hfx : FitIt ⟨x.k, x.v⟩ := ⟨Hx.out.2.1, Hx.out.2.2.1⟩
            have hst0 : stepS s x = putSI s ⟨x.k, x.v⟩ := if_pos h1
            have hc := spec_putItemAny s _ ⟨x.k, x.v⟩ B X2 (HS.out.later (BB.out.mono hB) (Nat.le_refl _)) (Nat.le_trans hB BB.out.size) (by have := Hsm.out; unfold Small at this; omega) Hfew.out Hfit.out hfx
            rw [← hst0] at hc
            have hE : chgB s (stepS s x) = EE := by unfold chgB; rw [HO.out, ← HEE.out]; rfl
            have hst : Hid (EE = true → stepS s x = chg s (stepS s x)) := Lib.hid (fun h => (chg_of (hE.trans h)).symm)
            rw [hE] at hc
            simp only [itA] at hc
            clear hfx hst0 h1 hE
            obtain ⟨F, hF⟩ : ∃ F, F = chg s (stepS s x) := ⟨_, rfl⟩
            rw [← hF] at hst hc
            clear hF
            have fP0 := tcr KP 0
            have fP1 := tcr KP 1
            have fQ0 := tcr KQ 0
            have fQ1 := tcr KQ 1
            have fQ2 := tcr KQ 2
            have fQ3 := tcr KQ 3
            have fQ4 := tcr KQ 4
            go_wp2_with (go_at_call 19; refine hc.mono ?_; rintro e w10 ⟨v3, rfl, ho3, hb10⟩; refine Hid.out ?_)
            refine Lib.hid ?_
            clear fP0 fP1 fQ0 fQ1 fQ2 fQ3 fQ4
            have y9 := Lib.hid sX2.out
            replace KP := tkb hb10 LP KP
            replace LP := tlz LP hb10.size
            replace KQ := tkb hb10 LQ KQ
            replace LQ := tlz LQ hb10.size
            replace KR := tkb hb10 LR KR
            replace LR := tlz LR hb10.size
            replace KX := tkb hb10 LX KX
            replace LX := tlz LX hb10.size
            replace KY := tkb hb10 LY KY
            replace LY := tlz LY hb10.size
            replace BB := tbt BB hb10
            replace B9 := tbt B9 hb10
            have S3 := Lib.hid ho3.n
            obtain ⟨a4, k4, a5, k5, rfl⟩ := ho3.n.two
            clear hc ho3 hb10
            have fY0 := tcr KY 0
            have fY1 := tcr KY 1
            have zY0 := tfr KY 0
            have zY1 := tfr KY 1
            go_wp2_with fail
            have hv : Value.bool EE = .bool EE := rfl
            clear fY0 fY1
            clear zY0 zY1
            have f1 := heap_setCell_same _ w9.heap.size 0 _ _ (.slice a4 F.items.length k4) KY.out
            have f2 := heap_setCell_same _ w9.heap.size 1 _ _ (.slice a5 F.talks.length k5) f1
            go_meet
            exact ⟨_, _, _, _, _, _, hv, Lib.hid f2, Lib.hid (by have := LY.out; simpa using this), Lib.hid (fun h => by rw [hst.out h]; exact ((S3.out.kept (grown_set _ ⟨w9.heap.size, 0, none⟩ _) (by have := sX2.out; show w9.heap.size < _; omega)).kept (grown_set _ ⟨w9.heap.size, 1, none⟩ _) (by have := sX2.out; show w9.heap.size < _; omega)).base (show w8.heap.size ≤ X2.heap.size by have := sX2.out; have := y8.out; omega)), Lib.hid ((B9.out.setCell (p := ⟨w9.heap.size, 0, none⟩) (Nat.le_refl _) _).setCell (p := ⟨w9.heap.size, 1, none⟩) (Nat.le_refl _) _)⟩
          · have h1' : (x.n == 1) = false := by simp [h1]
            by_cases h2 : x.n = 2
            · have h2' : (x.n == 2) = true := by simp [h2]
              have hst0 : stepS s x = dropS s x.k := by unfold stepS; rw [if_neg h1, if_pos h2]
              have hE : Hid (EE = true) := Lib.hid (by rw [HEE.out, hst0]; exact stepS_drop HO.out)
              have hc := spec_drop s _ B x.k X2 (HS.out.later (BB.out.mono hB) (Nat.le_refl _)) (Nat.le_trans hB BB.out.size) Hfew.out Hfit.out
              have hst : Hid (EE = true → stepS s x = dropS s x.k) := Lib.hid (fun _ => hst0)
              clear hst0 h1 h2
              have fP0 := tcr KP 0
              have fP1 := tcr KP 1
              have fQ0 := tcr KQ 0
              have fQ1 := tcr KQ 1
              have fQ2 := tcr KQ 2
              have fQ3 := tcr KQ 3
              have fQ4 := tcr KQ 4
              go_wp2_with (go_at_call 35; refine hc.mono ?_; rintro e w10 ⟨v3, rfl, ho3, hb10⟩; refine Hid.out ?_)
              refine Lib.hid ?_
              clear fP0 fP1 fQ0 fQ1 fQ2 fQ3 fQ4
              replace KP := tkb hb10 LP KP
              replace LP := tlz LP hb10.size
              replace KQ := tkb hb10 LQ KQ
              replace LQ := tlz LQ hb10.size
              replace KR := tkb hb10 LR KR
              replace LR := tlz LR hb10.size
              replace KX := tkb hb10 LX KX
              replace LX := tlz LX hb10.size
              replace KY := tkb hb10 LY KY
              replace LY := tlz LY hb10.size
              replace BB := tbt BB hb10
              replace B9 := tbt B9 hb10
              have S3 := Lib.hid ho3.n
              obtain ⟨a4, k4, a5, k5, rfl⟩ := ho3.n.two
              clear hc ho3 hb10
              have fY0 := tcr KY 0
              have fY1 := tcr KY 1
              have zY0 := tfr KY 0
              have zY1 := tfr KY 1
              go_wp2_with fail
              have hv : Value.bool true = .bool EE := by rw [hE.out]
              clear fY0 fY1
              clear zY0 zY1
              have f1 := heap_setCell_same _ w9.heap.size 0 _ _ (.slice a4 (dropS s x.k).items.length k4) KY.out
              have f2 := heap_setCell_same _ w9.heap.size 1 _ _ (.slice a5 (dropS s x.k).talks.length k5) f1
              go_meet
              exact ⟨_, _, _, _, _, _, hv, Lib.hid f2, Lib.hid (by have := LY.out; simpa using this), Lib.hid (fun h => by rw [hst.out h]; exact ((S3.out.kept (grown_set _ ⟨w9.heap.size, 0, none⟩ _) (by have := sX2.out; show w9.heap.size < _; omega)).kept (grown_set _ ⟨w9.heap.size, 1, none⟩ _) (by have := sX2.out; show w9.heap.size < _; omega)).base (show w8.heap.size ≤ X2.heap.size by have := sX2.out; have := y8.out; omega)), Lib.hid ((B9.out.setCell (p := ⟨w9.heap.size, 0, none⟩) (Nat.le_refl _) _).setCell (p := ⟨w9.heap.size, 1, none⟩) (Nat.le_refl _) _)⟩
            · have h2' : (x.n == 2) = false := by simp [h2]
              have hst0 : stepS s x = s := by unfold stepS; rw [if_neg h1, if_neg h2]
              have hE : Hid (EE = true) := Lib.hid (by rw [HEE.out, hst0]; exact HO.out)
              have Hst0 := Lib.hid hst0
              clear hst0 h1 h2
              have fQ0 := tcr KQ 0
              have fQ1 := tcr KQ 1
              have fQ2 := tcr KQ 2
              have fQ3 := tcr KQ 3
              have fQ4 := tcr KQ 4
              go_wp2_with fail
              go_meet
              exact ⟨_, _, _, _, _, _, by rw [hE.out], KY, LY, Lib.hid (fun h => by rw [Hst0.out]; exact S2.out.later B9.out), B9⟩
        case rest =>
          obtain ⟨aa, na, ka, ab, nb, kb, rfl, KYn, LYn, HS3, B9n⟩ := hcut
          obtain ⟨w11, rfl⟩ : ∃ z, z = wc := ⟨_, rfl⟩
          clear KY LY B9 KP LP KQ LQ KR LR KX LX BB
          have KY := KYn
          have LY := LYn
          have B9 := B9n
          clear KYn LYn B9n
          have KP := Lib.hid ((B9.out.block _ LP9.out).trans KP9.out)
          have LP : Hid (w.heap.size < w11.heap.size) := Lib.hid (Nat.lt_of_lt_of_le LP9.out B9.out.size)
          have KQ := Lib.hid ((B9.out.block _ LQ9.out).trans KQ9.out)
          have LQ : Hid (w.heap.size + 1 < w11.heap.size) := Lib.hid (Nat.lt_of_lt_of_le LQ9.out B9.out.size)
          have KR := Lib.hid ((B9.out.block _ LR9.out).trans KR9.out)
          have LR : Hid (w.heap.size + 1 + 1 < w11.heap.size) := Lib.hid (Nat.lt_of_lt_of_le LR9.out B9.out.size)
          have KX := Lib.hid ((B9.out.block _ LX9.out).trans KX9.out)
          have LX : Hid (w1.heap.size < w11.heap.size) := Lib.hid (Nat.lt_of_lt_of_le LX9.out B9.out.size)
          have BB := Lib.hid (BB9.out.trans (B9.out.mono BB9.out.size))
          clear KP9 KQ9 KR9 KX9 BB9
          cases hE : EE
          · have hS : stOk (stepS s x) = false := HEE.out.symm.trans hE
            have S1 := Lib.hid (S9.out.later B9.out)
            have HSf := Lib.hid hS
            clear hS hE HS3 S9 B9 S2 KY LY HEE
            have hR : R = _ := HR.out.trans (ap_full HO.out HQ.out HA.out (.inl HSf.out))
            clear HR
            subst hR
            have fR0 := tcr KR 0
            have fR1 := tcr KR 1
            have zR0 := tfr KR 0
            have zR1 := tfr KR 1
            have fX0 := tcr KX 0
            have fX1 := tcr KX 1
            go_wp2_with fail
            clear fR0 fR1 fX0 fX1
            clear zR0 zR1
            have f1 := heap_setCell_same _ (w.heap.size + 1 + 1) 0 _ _ (.slice a0 s.items.length k0) KR.out
            have f2 := heap_setCell_same _ (w.heap.size + 1 + 1) 1 _ _ (.slice a1 s.talks.length k1) f1
            obtain ⟨j0, q1, q2, q3, q4⟩ := info_parts infoSt
            refine bodyPost_ret (results_cell_row3 (P := Tryz.prog) rfl _ _ (w.heap.size + 1 + 1) _ _ (0, 0) _ _ _ rfl rfl rfl f2 Tryz.underlying27 rfl (by rw [q1]; simp [q3])) rfl ⟨.agg #[.slice a0 s.items.length k0, .slice a1 s.talks.length k1], rfl, ?_, ?_⟩
            · exact ((S1.out.kept (grown_set _ ⟨w.heap.size + 1 + 1, 0, none⟩ _) (by have := HWs.out; show w.heap.size + 1 + 1 < _; omega)).kept (grown_set _ ⟨w.heap.size + 1 + 1, 1, none⟩ _) (by have := HWs.out; show w.heap.size + 1 + 1 < _; omega)).base (by have := HWs.out; omega)
            · exact (BB.out.setCell (p := ⟨w.heap.size + 1 + 1, 0, none⟩) (by simp; omega) _).setCell (p := ⟨w.heap.size + 1 + 1, 1, none⟩) (by simp; omega) _
          · have HST : Hid (stOk (stepS s x) = true) := Lib.hid (HEE.out.symm.trans hE)
            have S3 := Lib.hid (HS3.out hE)
            clear hE HS3 HEE
            have hsm2 := ok_small HST.out
            have hft : FitTk (newT s x) := ⟨Hx.out.1, by have := valOf_small HO.out x.k; unfold maxLen; show (valOf s x.k).size ≤ _; omega, Hx.out.2.2.2.1.1, Hx.out.2.2.2.1.2⟩
            have hc := spec_putTalkAny (stepS s x) _ (newT s x) w11.heap.size w11 S3.out.st (Nat.le_refl _) (by unfold Small at hsm2; omega) (by unfold Small at hsm2; unfold Few; omega) (ok_fits HST.out) hft
            obtain ⟨E2, hE2⟩ : ∃ E : Bool, E = stOk (endS s x) := ⟨_, rfl⟩
            have hE3 : chgB (stepS s x) (putST (stepS s x) (newT s x)) = E2 := by rw [hE2]; unfold chgB; rw [HST.out]; rfl
            have HEN : Hid (E2 = true → chg (stepS s x) (putST (stepS s x) (newT s x)) = endS s x) := Lib.hid (fun h => chg_of (hE3.trans h))
            have HE2 := Lib.hid hE2
            rw [hE3] at hc
            simp only [tkA, newT] at hc
            simp only [newT] at HEN
            clear hE2 hE3 hft hsm2
            obtain ⟨F, hF⟩ : ∃ F, F = chg (stepS s x) (putST (stepS s x) ⟨x.c, x.q, valOf s x.k⟩) := ⟨_, rfl⟩
            rw [← hF] at HEN hc
            clear hF
            have fY0 := tcr KY 0
            have fY1 := tcr KY 1
            have fQ0 := tcr KQ 0
            have fQ1 := tcr KQ 1
            have fQ2 := tcr KQ 2
            have fQ3 := tcr KQ 3
            have fQ4 := tcr KQ 4
            go_wp2_with (go_at_call 22; refine hc.mono ?_; rintro e w12 ⟨v4, rfl, ho4, hb12⟩; refine Hid.out ?_)
            refine Lib.hid ?_
            clear fY0 fY1 fQ0 fQ1 fQ2 fQ3 fQ4
            have y11 := Lib.hid LY.out
            replace KP := tkb hb12 LP KP
            replace LP := tlz LP hb12.size
            replace KQ := tkb hb12 LQ KQ
            replace LQ := tlz LQ hb12.size
            replace KR := tkb hb12 LR KR
            replace LR := tlz LR hb12.size
            replace KX := tkb hb12 LX KX
            replace LX := tlz LX hb12.size
            replace KY := tkb hb12 LY KY
            replace LY := tlz LY hb12.size
            replace BB := tbt BB hb12
            replace B9 := tbt B9 hb12
            have S4 := Lib.hid ho4.n
            obtain ⟨a6, k6, a7, k7, rfl⟩ := ho4.n.two
            clear hc ho4 hb12
            have fY0 := tcr KY 0
            have fY1 := tcr KY 1
            have zY0 := tfr KY 0
            have zY1 := tfr KY 1
            have f1 := heap_setCell_same _ w9.heap.size 0 _ _ (.slice a6 F.items.length k6) KY.out
            have f2 := heap_setCell_same _ w9.heap.size 1 _ _ (.slice a7 F.talks.length k7) f1
            obtain ⟨Z, hZ⟩ : ∃ Z, Z = (w12.setCell ⟨w9.heap.size, 0, none⟩ (.slice a6 F.items.length k6)).setCell ⟨w9.heap.size, 1, none⟩ (.slice a7 F.talks.length k7) := ⟨_, rfl⟩
            have gY : w12.grownBy Z (some w9.heap.size) := by rw [hZ]; exact (grown_set _ ⟨w9.heap.size, 0, none⟩ _).trans (grown_set _ ⟨w9.heap.size, 1, none⟩ _)
            rw [← hZ] at f2
            simp only [List.setIfInBounds_toArray, List.set_cons_zero, List.set_cons_succ] at f2
            have f3 := Lib.hid f2
            clear f1 f2
            go_upto_if 107 with fail
            rw [← hZ]
            clear fY0 fY1
            clear zY0 zY1
            clear hZ
            have S5 := Lib.hid (S4.out.kept gY y11.out)
            clear S4
            replace KP := tkg gY LP KP (by simp; have := LP9.out; have := LQ9.out; have := LR9.out; have := LX9.out; omega)
            replace LP := tlz LP gY.size
            replace KQ := tkg gY LQ KQ (by simp; have := LP9.out; have := LQ9.out; have := LR9.out; have := LX9.out; omega)
            replace LQ := tlz LQ gY.size
            replace KR := tkg gY LR KR (by simp; have := LP9.out; have := LQ9.out; have := LR9.out; have := LX9.out; omega)
            replace LR := tlz LR gY.size
            replace KX := tkg gY LX KX (by simp; have := LP9.out; have := LQ9.out; have := LR9.out; have := LX9.out; omega)
            replace LX := tlz LX gY.size
            replace BB := Lib.hid (BB.out.grown gY BB.out.size (fun k hk => by cases hk; have := LP9.out; have := LQ9.out; have := LR9.out; have := LX9.out; omega))
            replace KY := f3
            replace LY := tlz LY gY.size
            clear f3
            replace B9 := Lib.hid (B9.out.grown gY B9.out.size (fun k hk => by cases hk; exact Nat.le_refl _))
            clear gY
            cases hE : E2
            have B9s := Lib.hid B9.out.size
            · have hS : stOk (endS s x) = false := HE2.out.symm.trans hE
              have S1 := Lib.hid (S9.out.later B9.out)
              have HSf := Lib.hid hS
              clear hS hE HEN S9 B9 S2 S5 KY LY HE2
              have hR : R = _ := HR.out.trans (ap_full HO.out HQ.out HA.out (.inr HSf.out))
              clear HR
              subst hR
              have fR0 := tcr KR 0
              have fR1 := tcr KR 1
              have zR0 := tfr KR 0
              have zR1 := tfr KR 1
              have fX0 := tcr KX 0
              have fX1 := tcr KX 1
              go_wp2_with fail
              clear fR0 fR1 fX0 fX1
              clear zR0 zR1
              have f1 := heap_setCell_same _ (w.heap.size + 1 + 1) 0 _ _ (.slice a0 s.items.length k0) KR.out
              have f2 := heap_setCell_same _ (w.heap.size + 1 + 1) 1 _ _ (.slice a1 s.talks.length k1) f1
              obtain ⟨j0, q1, q2, q3, q4⟩ := info_parts infoSt
              refine bodyPost_ret (results_cell_row3 (P := Tryz.prog) rfl _ _ (w.heap.size + 1 + 1) _ _ (0, 0) _ _ _ rfl rfl rfl f2 Tryz.underlying27 rfl (by rw [q1]; simp [q3])) rfl ⟨.agg #[.slice a0 s.items.length k0, .slice a1 s.talks.length k1], rfl, ?_, ?_⟩
              · exact ((S1.out.kept (grown_set _ ⟨w.heap.size + 1 + 1, 0, none⟩ _) (by have := HWs.out; show w.heap.size + 1 + 1 < _; omega)).kept (grown_set _ ⟨w.heap.size + 1 + 1, 1, none⟩ _) (by have := HWs.out; show w.heap.size + 1 + 1 < _; omega)).base (by have := HWs.out; omega)
              · exact (BB.out.setCell (p := ⟨w.heap.size + 1 + 1, 0, none⟩) (by simp; omega) _).setCell (p := ⟨w.heap.size + 1 + 1, 1, none⟩) (by simp; omega) _
            · have HSt : Hid (stOk (endS s x) = true) := Lib.hid (HE2.out.symm.trans hE)
              have HF := Lib.hid (HEN.out hE)
              clear hE HEN S9 B9 S2 HE2
              have hR : R = _ := HR.out.trans (ap_new HO.out HQ.out HA.out HST.out HSt.out)
              rw [← HF.out] at hR
              clear HR
              subst hR
              have fR0 := tcr KR 0
              have fR1 := tcr KR 1
              have zR0 := tfr KR 0
              have zR1 := tfr KR 1
              have fY0 := tcr KY 0
              have fY1 := tcr KY 1
              go_wp2_with fail
              clear fR0 fR1 fY0 fY1
              clear zR0 zR1
              have hb : w.heap.size + 1 + 1 < w11.heap.size := Nat.lt_trans LR9.out y11.out
              have hb2 : w.heap.size ≤ w11.heap.size := Nat.le_trans (Nat.le_add_right w.heap.size 2) (Nat.le_of_lt hb)
              have f1 := heap_setCell_same _ (w.heap.size + 1 + 1) 0 _ _ (.slice a6 F.items.length k6) KR.out
              have f2 := heap_setCell_same _ (w.heap.size + 1 + 1) 1 _ _ (.slice a7 F.talks.length k7) f1
              obtain ⟨j0, q1, q2, q3, q4⟩ := info_parts infoSt
              refine bodyPost_ret (results_cell_row3 (P := Tryz.prog) rfl _ _ (w.heap.size + 1 + 1) _ _ (0, 0) _ _ _ rfl rfl rfl f2 Tryz.underlying27 rfl (by rw [q1]; simp [q3])) rfl ⟨.agg #[.slice a6 F.items.length k6, .slice a7 F.talks.length k7], rfl, ?_, ?_⟩
              · exact ((S5.out.kept (grown_set _ ⟨w.heap.size + 1 + 1, 0, none⟩ _) hb).kept (grown_set _ ⟨w.heap.size + 1 + 1, 1, none⟩ _) hb).base hb2
              · exact (BB.out.setCell (p := ⟨w.heap.size + 1 + 1, 0, none⟩) (by simp; omega) _).setCell (p := ⟨w.heap.size + 1 + 1, 1, none⟩) (by simp; omega) _
    · have hc : 0 ≤ talkAt s.talks x.c ∧ x.q ≤ (talkOf s x.c).q := by have h := HE.out; rw [hEE] at h; simpa using h.symm
      obtain ⟨hi, hq⟩ := hc
      clear hEE
      obtain ⟨i, hi', ht, hn⟩ := talkAt_hit hi
      obtain ⟨T, hT⟩ : ∃ T, T = s.talks[i] := ⟨_, rfl⟩
      have HTK : Hid (talkOf s x.c = T) := Lib.hid (by unfold talkOf; rw [ht, Int.toNat_natCast, getD_at hi', hT])
      have Hi := Lib.hid hi
      have Ht := Lib.hid ht
      rw [ht]
      obtain ⟨hrl, hr⟩ := HRt.out
      rcases hr with ⟨_, h0⟩ | ⟨g, o, cap, rfl, hnc, hcm, hgB, hAt⟩
      · omega
      have hgB : g < B := by rcases hgB with h | h <;> omega
      have hcell := hAt.talk i hi'
      rw [← hT] at hcell
      have hlt : (i : Int) < (s.talks.length : Int) := by omega
      unfold maxLen at hcm
      have HY : Hid (∀ w', Below w5.heap.size w5 w' → (w'.cell? ⟨w.heap.size, 0, none⟩ = some (vi) ∧ w'.cell? ⟨w.heap.size, 1, none⟩ = some (.slice (some ⟨g, o, none⟩) s.talks.length cap)) ∧ (w'.cell? ⟨w.heap.size + 1, 0, none⟩ = some (.string x.c) ∧ w'.cell? ⟨w.heap.size + 1, 1, none⟩ = some (.int .i64 x.q) ∧ w'.cell? ⟨w.heap.size + 1, 2, none⟩ = some (.int .i64 x.n) ∧ w'.cell? ⟨w.heap.size + 1, 3, none⟩ = some (.string x.k) ∧ w'.cell? ⟨w.heap.size + 1, 4, none⟩ = some (.string x.v)) ∧ w'.cell? ⟨g, o + i * 3, none⟩ = some (.string T.c) ∧ w'.cell? ⟨g, o + i * 3 + 1, none⟩ = some (.int .i64 T.q) ∧ w'.cell? ⟨g, o + i * 3 + 2, none⟩ = some (.string T.r)) := Lib.hid (fun w' h => by
        have hb := BB.out.trans (h.mono BB.out.size)
        have hgw : g < w.heap.size := Nat.lt_of_lt_of_le hgB hB
        have k0 := (h.block _ LP.out).trans KP.out
        have k1 := (h.block _ LQ.out).trans KQ.out
        exact ⟨⟨by simpa using cell_of_row w' _ 0 _ _ _ k0, by simpa using cell_of_row w' _ 1 _ _ _ k0⟩, ⟨by simpa using cell_of_row w' _ 0 _ _ _ k1, by simpa using cell_of_row w' _ 1 _ _ _ k1, by simpa using cell_of_row w' _ 2 _ _ _ k1, by simpa using cell_of_row w' _ 3 _ _ _ k1, by simpa using cell_of_row w' _ 4 _ _ _ k1⟩, by rw [hb.cell (p := ⟨g, o + i * 3, none⟩) hgw, hb.cell (p := ⟨g, o + i * 3 + 1, none⟩) hgw, hb.cell (p := ⟨g, o + i * 3 + 2, none⟩) hgw]; exact hcell⟩)
      clear hcell hAt hT hi ht hn
      have HQ2 := Lib.hid hq
      clear hq
      by_cases he : T.q = x.q
      · have he' : (T.q == x.q) = true := by simp [he]
        have hR : R = _ := HR.out.trans (ap_again HO.out HQ.out Hi.out (by rw [HTK.out]; exact he))
        rw [HTK.out] at hR
        clear HR
        subst hR
        clear he
        go_wp2_with fail
        refine wp_region_held_drew (S := (fun w' => Below w5.heap.size w5 w')) (by kernel_rfl) ((Below.refl w5.heap.size w5).drew) (fun hHeld => ?_)
        refine tk0 0 ?_
        refine tk 1 (v := ?_) ?_ ?_; rotate_left
        · refine Or.inl ⟨by rfl, ?_⟩; intro w hSw; obtain ⟨⟨gP0, gP1⟩, ⟨gQ0, gQ1, gQ2, gQ3, gQ4⟩, gT0, gT1, gT2⟩ := HY.out w hSw; go_simp; first | done | with_reducible rfl
        refine tk0 2 ?_
        refine tk0 3 ?_
        refine tk0 4 ?_
        refine tk 5 (v := ?_) ?_ ?_; rotate_left
        · refine Or.inl ⟨by rfl, ?_⟩; intro w hSw; obtain ⟨⟨gP0, gP1⟩, ⟨gQ0, gQ1, gQ2, gQ3, gQ4⟩, gT0, gT1, gT2⟩ := HY.out w hSw; go_simp; first | done | with_reducible rfl
        refine tk0 6 ?_
        refine tk 7 (v := ?_) ?_ ?_; rotate_left
        · refine Or.inl ⟨by rfl, ?_⟩; intro w hSw; obtain ⟨⟨gP0, gP1⟩, ⟨gQ0, gQ1, gQ2, gQ3, gQ4⟩, gT0, gT1, gT2⟩ := HY.out w hSw; go_simp; first | done | with_reducible rfl
        refine tk0 8 ?_
        refine wpAnyH_done (by kernel_rfl) ?_ _
        obtain ⟨w6, hw6⟩ : ∃ z, z = w5.drew := ⟨_, rfl⟩
        rw [← hw6] at hHeld ⊢
        have B6 := Lib.hid hHeld
        clear hHeld he' hw6
        replace KP := Lib.hid ((B6.out.block _ LP.out).trans KP.out)
        replace LP := Lib.hid (Nat.lt_of_lt_of_le LP.out B6.out.size)
        replace KQ := Lib.hid ((B6.out.block _ LQ.out).trans KQ.out)
        replace LQ := Lib.hid (Nat.lt_of_lt_of_le LQ.out B6.out.size)
        replace KR := Lib.hid ((B6.out.block _ LR.out).trans KR.out)
        replace LR := Lib.hid (Nat.lt_of_lt_of_le LR.out B6.out.size)
        replace KX := Lib.hid ((B6.out.block _ LX.out).trans KX.out)
        replace LX := Lib.hid (Nat.lt_of_lt_of_le LX.out B6.out.size)
        replace BB := Lib.hid (BB.out.trans (B6.out.mono BB.out.size))
        replace S1 := Lib.hid (S1.out.later B6.out)
        go_wp2_with fail
        have HZ : Hid (∀ w', w6.grownBy w' (some (w.heap.size + 1 + 1)) → (w'.cell? ⟨w.heap.size, 0, none⟩ = some (vi) ∧ w'.cell? ⟨w.heap.size, 1, none⟩ = some (.slice (some ⟨g, o, none⟩) s.talks.length cap)) ∧ (w'.cell? ⟨w1.heap.size, 0, none⟩ = some (.slice a0 s.items.length k0) ∧ w'.cell? ⟨w1.heap.size, 1, none⟩ = some (.slice a1 s.talks.length k1)) ∧ w'.cell? ⟨g, o + i * 3, none⟩ = some (.string T.c) ∧ w'.cell? ⟨g, o + i * 3 + 1, none⟩ = some (.int .i64 T.q) ∧ w'.cell? ⟨g, o + i * 3 + 2, none⟩ = some (.string T.r)) := Lib.hid (fun w' h => by
          have k0 := (h.block _ LP.out (fun e => by simp only [Option.some.injEq] at e; omega)).trans KP.out
          have k1 := (h.block _ LX.out (fun e => by have := yX.out; have := HWs.out; simp only [Option.some.injEq] at e; omega)).trans KX.out
          have hgw : g < w.heap.size := Nat.lt_of_lt_of_le hgB hB
          have e := h.block g (by have := BB.out.size; omega) (fun e => by simp only [Option.some.injEq] at e; omega)
          exact ⟨⟨by simpa using cell_of_row w' _ 0 _ _ _ k0, by simpa using cell_of_row w' _ 1 _ _ _ k0⟩, ⟨by simpa using cell_of_row w' _ 0 _ _ _ k1, by simpa using cell_of_row w' _ 1 _ _ _ k1⟩, by rw [World.cell?_of_block (w := w6) (a := ⟨g, o + i * 3, none⟩) e, World.cell?_of_block (w := w6) (a := ⟨g, o + i * 3 + 1, none⟩) e, World.cell?_of_block (w := w6) (a := ⟨g, o + i * 3 + 2, none⟩) e]; exact (HY.out _ B6.out).2.2⟩)
        refine wp_region_held_drew (S := (fun w' => w6.grownBy w' (some (w.heap.size + 1 + 1)))) (by kernel_rfl) (grown_drew _ _) (fun hHeld => ?_)
        refine tk 0 (v := ?_) ?_ ?_; rotate_left
        · refine Or.inl ⟨by rfl, ?_⟩; intro w hSw; obtain ⟨⟨gP0, gP1⟩, ⟨gX0, gX1⟩, gT0, gT1, gT2⟩ := HZ.out w hSw; go_simp; first | done | with_reducible rfl
        refine tk0 1 ?_
        refine tk 2 (v := ?_) ?_ ?_; rotate_left
        · refine Or.inl ⟨by rfl, ?_⟩; intro w hSw; obtain ⟨⟨gP0, gP1⟩, ⟨gX0, gX1⟩, gT0, gT1, gT2⟩ := HZ.out w hSw; go_simp; first | done | with_reducible rfl
        refine tk0 3 ?_
        refine tk0 4 ?_
        refine tk0 5 ?_
        refine tk 6 (v := ?_) ?_ ?_; rotate_left
        · refine Or.inl ⟨by rfl, ?_⟩; intro w hSw; obtain ⟨⟨gP0, gP1⟩, ⟨gX0, gX1⟩, gT0, gT1, gT2⟩ := HZ.out w hSw; go_simp; first | done | with_reducible rfl
        have gV : w6.grownBy w6.drew (some (w.heap.size + 1 + 1)) := grown_drew _ _
        refine rd1 7 (fun K hK => ?_)
        obtain ⟨Vd, hVd⟩ : ∃ z, z = w6.drew := ⟨_, rfl⟩
        have bVd : Below w6.heap.size w6 Vd := by rw [hVd]; exact (Below.refl _ _).drew
        rw [← hVd] at hHeld gV
        try rw [← hVd]
        clear hVd
        replace KP := tkb bVd LP KP
        replace LP := tlz LP bVd.size
        replace KQ := tkb bVd LQ KQ
        replace LQ := tlz LQ bVd.size
        replace KR := tkb bVd LR KR
        replace LR := tlz LR bVd.size
        replace KX := tkb bVd LX KX
        replace LX := tlz LX bVd.size
        replace BB := tbt BB bVd
        replace S1 := Lib.hid (S1.out.later bVd)
        clear bVd
        have fR0 := tcr KR 0
        have fR1 := tcr KR 1
        have zR0 := tfr KR 0
        have zR1 := tfr KR 1
        go_simp
        obtain ⟨Y, hY⟩ : ∃ Y, Y = (Vd.setCell ⟨w.heap.size + 1 + 1, 0, none⟩ (.slice a0 s.items.length k0)).setCell ⟨w.heap.size + 1 + 1, 1, none⟩ (.slice a1 s.talks.length k1) := ⟨_, rfl⟩
        rw [← hY]
        have gY : w6.grownBy Y (some (w.heap.size + 1 + 1)) := by rw [hY]; exact gV.trans ((grown_set Vd ⟨w.heap.size + 1 + 1, 0, none⟩ _).trans (grown_set _ ⟨w.heap.size + 1 + 1, 1, none⟩ _))
        clear fR0 fR1
        clear zR0 zR1
        refine hK.out _ _ gY (fun hHeld => ?_)
        clear hK K
        refine tk0 8 ?_
        refine tk0 9 ?_
        refine wpAnyH_done (by kernel_rfl) ?_ _
        clear hHeld gY gV
        go_wp2_with fail
        try rw [hY]
        have f1 := heap_setCell_same _ (w.heap.size + 1 + 1) 0 _ _ (.slice a0 s.items.length k0) KR.out
        have f2 := heap_setCell_same _ (w.heap.size + 1 + 1) 1 _ _ (.slice a1 s.talks.length k1) f1
        obtain ⟨j0, q1, q2, q3, q4⟩ := info_parts infoSt
        refine bodyPost_ret (results_cell_row3 (P := Tryz.prog) rfl _ _ (w.heap.size + 1 + 1) _ _ (0, 0) _ _ _ rfl rfl rfl f2 Tryz.underlying27 rfl (by rw [q1]; simp [q3])) rfl ⟨.agg #[.slice a0 s.items.length k0, .slice a1 s.talks.length k1], rfl, ?_, ?_⟩
        · exact ((S1.out.kept (grown_set _ ⟨w.heap.size + 1 + 1, 0, none⟩ _) (by have := HWs.out; show w.heap.size + 1 + 1 < _; omega)).kept (grown_set _ ⟨w.heap.size + 1 + 1, 1, none⟩ _) (by have := HWs.out; show w.heap.size + 1 + 1 < _; omega)).base (by have := HWs.out; omega)
        · exact (BB.out.setCell (p := ⟨w.heap.size + 1 + 1, 0, none⟩) (by simp; omega) _).setCell (p := ⟨w.heap.size + 1 + 1, 1, none⟩) (by simp; omega) _
      · have he' : (T.q == x.q) = false := by simp [he]
        have hlt2 : Hid (x.q < T.q) := Lib.hid (by have h := HQ2.out; rw [HTK.out] at h; omega)
        clear he
        go_wp2_with fail
        refine wp_region_held_drew (S := (fun w' => Below w5.heap.size w5 w')) (by kernel_rfl) ((Below.refl w5.heap.size w5).drew) (fun hHeld => ?_)
        refine tk0 0 ?_
        refine tk 1 (v := ?_) ?_ ?_; rotate_left
        · refine Or.inl ⟨by rfl, ?_⟩; intro w hSw; obtain ⟨⟨gP0, gP1⟩, ⟨gQ0, gQ1, gQ2, gQ3, gQ4⟩, gT0, gT1, gT2⟩ := HY.out w hSw; go_simp; first | done | with_reducible rfl
        refine tk0 2 ?_
        refine tk0 3 ?_
        refine tk0 4 ?_
        refine tk 5 (v := ?_) ?_ ?_; rotate_left
        · refine Or.inl ⟨by rfl, ?_⟩; intro w hSw; obtain ⟨⟨gP0, gP1⟩, ⟨gQ0, gQ1, gQ2, gQ3, gQ4⟩, gT0, gT1, gT2⟩ := HY.out w hSw; go_simp; first | done | with_reducible rfl
        refine tk0 6 ?_
        refine tk 7 (v := ?_) ?_ ?_; rotate_left
        · refine Or.inl ⟨by rfl, ?_⟩; intro w hSw; obtain ⟨⟨gP0, gP1⟩, ⟨gQ0, gQ1, gQ2, gQ3, gQ4⟩, gT0, gT1, gT2⟩ := HY.out w hSw; go_simp; first | done | with_reducible rfl
        refine tk0 8 ?_
        refine wpAnyH_done (by kernel_rfl) ?_ _
        obtain ⟨w6, hw6⟩ : ∃ z, z = w5.drew := ⟨_, rfl⟩
        rw [← hw6] at hHeld ⊢
        have B6 := Lib.hid hHeld
        clear hHeld he' hw6
        replace KP := Lib.hid ((B6.out.block _ LP.out).trans KP.out)
        replace LP := Lib.hid (Nat.lt_of_lt_of_le LP.out B6.out.size)
        replace KQ := Lib.hid ((B6.out.block _ LQ.out).trans KQ.out)
        replace LQ := Lib.hid (Nat.lt_of_lt_of_le LQ.out B6.out.size)
        replace KR := Lib.hid ((B6.out.block _ LR.out).trans KR.out)
        replace LR := Lib.hid (Nat.lt_of_lt_of_le LR.out B6.out.size)
        replace KX := Lib.hid ((B6.out.block _ LX.out).trans KX.out)
        replace LX := Lib.hid (Nat.lt_of_lt_of_le LX.out B6.out.size)
        replace BB := Lib.hid (BB.out.trans (B6.out.mono BB.out.size))
        replace S1 := Lib.hid (S1.out.later B6.out)
        have hR : R = _ := HR.out.trans (ap_old HO.out HQ.out Hi.out (by rw [HTK.out]; exact hlt2.out))
        clear HR
        subst hR
        have fR0 := tcr KR 0
        have fR1 := tcr KR 1
        have zR0 := tfr KR 0
        have zR1 := tfr KR 1
        have fX0 := tcr KX 0
        have fX1 := tcr KX 1
        go_wp2_with fail
        clear fR0 fR1 fX0 fX1
        clear zR0 zR1
        have f1 := heap_setCell_same _ (w.heap.size + 1 + 1) 0 _ _ (.slice a0 s.items.length k0) KR.out
        have f2 := heap_setCell_same _ (w.heap.size + 1 + 1) 1 _ _ (.slice a1 s.talks.length k1) f1
        obtain ⟨j0, q1, q2, q3, q4⟩ := info_parts infoSt
        refine bodyPost_ret (results_cell_row3 (P := Tryz.prog) rfl _ _ (w.heap.size + 1 + 1) _ _ (0, 0) _ _ _ rfl rfl rfl f2 Tryz.underlying27 rfl (by rw [q1]; simp [q3])) rfl ⟨.agg #[.slice a0 s.items.length k0, .slice a1 s.talks.length k1], rfl, ?_, ?_⟩
        · exact ((S1.out.kept (grown_set _ ⟨w.heap.size + 1 + 1, 0, none⟩ _) (by have := HWs.out; show w.heap.size + 1 + 1 < _; omega)).kept (grown_set _ ⟨w.heap.size + 1 + 1, 1, none⟩ _) (by have := HWs.out; show w.heap.size + 1 + 1 < _; omega)).base (by have := HWs.out; omega)
        · exact (BB.out.setCell (p := ⟨w.heap.size + 1 + 1, 0, none⟩) (by simp; omega) _).setCell (p := ⟨w.heap.size + 1 + 1, 1, none⟩) (by simp; omega) _
end Go.Proofs.YtebmaplflpfjbaaGreatDoor
