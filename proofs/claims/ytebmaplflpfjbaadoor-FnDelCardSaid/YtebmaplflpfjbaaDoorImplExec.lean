/- What the program's execute answers: 'ap'. Condition: a state and an operation that can be read, not too great. -/
import Derived.Test.YtebmaplflpfjbaaDoorBaseA
import Derived.Test.YtebmaplflpfjbaaDoorImplPerform
import Derived.Test.YtebmaplflpfjbaaDoorImplState
import Derived.Test.YtebmaplflpfjbaaDoorImplAt
import Derived.Test.YtebmaplflpfjbaaDoorImplCopy
import Derived.Deep.RegionHeld
namespace Go.Proofs.YtebmaplflpfjbaaDoor
open Go.RowKit List
set_option linter.unusedVariables false
set_option linter.unusedSimpArgs false

set_option maxRecDepth 100000 in
set_option maxHeartbeats 8000000 in
theorem impl_execute (s : St) (v : Value) (x : Rq) (B : Nat) (w : World) (hs : StV w B v s) (hB : B ≤ w.heap.size) (hfew : Few s) (hfit : Fits s) (hx : FitRq x) :
    Calls Tryd.prog 33 #[v, rqA x] w fun e w' => Out (ap s x) w.heap.size e w' ∧ Below w.heap.size w w' := by
  have HS := Lib.hid hs
  have Hx := Lib.hid hx
  have Hfit := Lib.hid hfit
  have Hfew := Lib.hid hfew
  obtain ⟨vi, vt, rfl, hri, hrt⟩ := hs
  have HRt := Lib.hid hrt
  unfold rqA
  obtain ⟨W, hW⟩ : ∃ W, W = ((w.alloc (.cells #[vi, vt] 27)).alloc (.cells #[.string x.c, .int .i64 x.q, .int .i64 x.n, .string x.k, .string x.v] 29)).alloc (.cells #[.slice none 0 0, .slice none 0 0] 27) := ⟨_, rfl⟩
  have hbW : Below w.heap.size w W := by rw [hW]; exact (((Below.refl _ _).alloc (Nat.le_refl _) _).alloc (by simp) _).alloc (by simp; omega) _
  have hWs : W.heap.size = w.heap.size + 3 := by rw [hW]; simp
  have KP : Hid (W.heap[w.heap.size]? = some (.cells #[vi, vt] 27 (0, 0))) := Lib.hid (by rw [hW, Below.heap_alloc _ _ _ (by simp; omega), Below.heap_alloc _ _ _ (by simp)]; exact heap_new _ _)
  have KQ : Hid (W.heap[w.heap.size + 1]? = some (.cells #[.string x.c, .int .i64 x.q, .int .i64 x.n, .string x.k, .string x.v] 29 (0, 0))) := Lib.hid (by rw [hW, Below.heap_alloc _ _ _ (by simp)]; simpa using heap_new (w.alloc (.cells #[vi, vt] 27)) (.cells #[.string x.c, .int .i64 x.q, .int .i64 x.n, .string x.k, .string x.v] 29))
  have KR : Hid (W.heap[w.heap.size + 1 + 1]? = some (.cells #[.slice none 0 0, .slice none 0 0] 27 (0, 0))) := Lib.hid (by rw [hW]; simpa using heap_new ((w.alloc (.cells #[vi, vt] 27)).alloc (.cells #[.string x.c, .int .i64 x.q, .int .i64 x.n, .string x.k, .string x.v] 29)) (.cells #[.slice none 0 0, .slice none 0 0] 27))
  have LP : Hid (w.heap.size < W.heap.size) := Lib.hid (by omega)
  have LQ : Hid (w.heap.size + 1 < W.heap.size) := Lib.hid (by omega)
  have LR : Hid (w.heap.size + 1 + 1 < W.heap.size) := Lib.hid (by omega)
  have HWs := Lib.hid hWs
  have BB := Lib.hid hbW
  have hc0 := impl_stateOk s _ B W (HS.out.later (BB.out.mono hB) (Nat.le_refl _)) (Nat.le_trans hB BB.out.size) Hfit.out
  clear hri hrt hx hfit hfew hbW hWs
  have fP0 := tcr KP 0
  have fP1 := tcr KP 1
  rw [hW] at hc0 fP0 fP1
  go_enter Tryd.func33, Tryd.ntmps33
  go_wp2_with (go_at_call 12; refine hc0.mono ?_; rintro e w2 ⟨rfl, hb1⟩; refine Hid.out ?_)
  refine Lib.hid ?_
  rw [← hW] at hb1
  clear hc0 hW
  clear fP0 fP1
  replace KP := tkb hb1 LP KP
  replace LP := tlz LP hb1.size
  replace KQ := tkb hb1 LQ KQ
  replace LQ := tlz LQ hb1.size
  replace KR := tkb hb1 LR KR
  replace LR := tlz LR hb1.size
  replace BB := tbt BB hb1
  clear hb1
  by_cases hok : stOk s = true
  case neg =>
    have hok' : stOk s = false := by simpa using hok
    have HK := Lib.hid hok'
    rw [hok']
    clear hok hok'
    have fR0 := tcr KR 0
    have fR1 := tcr KR 1
    have zR0 := tfr KR 0
    have zR1 := tfr KR 1
    go_wp2_with fail
    clear fR0 fR1
    clear zR0 zR1
    have hR : ap s x = (s, ⟨#[]⟩, 2) := ap_bad (.inl HK.out)
    have f1 := heap_setCell_same _ (w.heap.size + 1 + 1) 0 _ _ (.slice none 0 0) KR.out
    have f2 := heap_setCell_same _ (w.heap.size + 1 + 1) 1 _ _ (.slice none 0 0) f1
    obtain ⟨j0, q1, q2, q3, q4⟩ := info_parts infoSt
    refine bodyPost_ret (results_cell_row3 (P := Tryd.prog) rfl _ _ (w.heap.size + 1 + 1) _ _ (0, 0) _ _ _ rfl rfl rfl f2 Tryd.underlying27 rfl (by rw [q1]; simp [q3])) rfl ?_
    exact ⟨.inr ⟨by rw [hR]; show (2 : Int) ≠ 0; decide, by rw [hR]; rfl⟩, (BB.out.setCell (p := ⟨w.heap.size + 1 + 1, 0, none⟩) (by simp; omega) _).setCell (p := ⟨w.heap.size + 1 + 1, 1, none⟩) (by simp; omega) _⟩
  have HO := Lib.hid hok
  rw [hok]
  clear hok
  have hc2 := impl_opOk x w2 Hx.out
  unfold rqA at hc2
  have fQ0 := tcr KQ 0
  have fQ1 := tcr KQ 1
  have fQ2 := tcr KQ 2
  have fQ3 := tcr KQ 3
  have fQ4 := tcr KQ 4
  go_wp2_with (go_at_call 14; refine hc2.mono ?_; rintro e w3 ⟨rfl, hb3⟩; refine Hid.out ?_)
  refine Lib.hid ?_
  clear fQ0 fQ1 fQ2 fQ3 fQ4
  replace KP := tkb hb3 LP KP
  replace LP := tlz LP hb3.size
  replace KQ := tkb hb3 LQ KQ
  replace LQ := tlz LQ hb3.size
  replace KR := tkb hb3 LR KR
  replace LR := tlz LR hb3.size
  replace BB := tbt BB hb3
  clear hc2 hb3
  by_cases hop : rqOk x = true
  case neg =>
    have hop' : rqOk x = false := by simpa using hop
    have HK := Lib.hid hop'
    rw [hop']
    clear hop hop'
    have fR0 := tcr KR 0
    have fR1 := tcr KR 1
    have zR0 := tfr KR 0
    have zR1 := tfr KR 1
    go_wp2_with fail
    clear fR0 fR1
    clear zR0 zR1
    have hR : ap s x = (s, ⟨#[]⟩, 2) := ap_bad (.inr HK.out)
    have f1 := heap_setCell_same _ (w.heap.size + 1 + 1) 0 _ _ (.slice none 0 0) KR.out
    have f2 := heap_setCell_same _ (w.heap.size + 1 + 1) 1 _ _ (.slice none 0 0) f1
    obtain ⟨j0, q1, q2, q3, q4⟩ := info_parts infoSt
    refine bodyPost_ret (results_cell_row3 (P := Tryd.prog) rfl _ _ (w.heap.size + 1 + 1) _ _ (0, 0) _ _ _ rfl rfl rfl f2 Tryd.underlying27 rfl (by rw [q1]; simp [q3])) rfl ?_
    exact ⟨.inr ⟨by rw [hR]; show (2 : Int) ≠ 0; decide, by rw [hR]; rfl⟩, (BB.out.setCell (p := ⟨w.heap.size + 1 + 1, 0, none⟩) (by simp; omega) _).setCell (p := ⟨w.heap.size + 1 + 1, 1, none⟩) (by simp; omega) _⟩
  have HQ := Lib.hid hop
  rw [hop]
  clear hop
  have hc3 := impl_talkAt s _ B x.c w3 (HS.out.later (BB.out.mono hB) (Nat.le_refl _)) (Nat.le_trans hB BB.out.size) Hfit.out Hx.out.1
  have fP0 := tcr KP 0
  have fP1 := tcr KP 1
  have fQ0 := tcr KQ 0
  have fQ1 := tcr KQ 1
  have fQ2 := tcr KQ 2
  have fQ3 := tcr KQ 3
  have fQ4 := tcr KQ 4
  go_wp2_with (go_at_call 72; refine hc3.mono ?_; rintro e w4 ⟨rfl, hb4⟩; refine Hid.out ?_)
  refine Lib.hid ?_
  clear fP0 fP1 fQ0 fQ1 fQ2 fQ3 fQ4
  replace KP := tkb hb4 LP KP
  replace LP := tlz LP hb4.size
  replace KQ := tkb hb4 LQ KQ
  replace LQ := tlz LQ hb4.size
  replace KR := tkb hb4 LR KR
  replace LR := tlz LR hb4.size
  replace BB := tbt BB hb4
  clear hc3 hb4
  have NLR : Hid (w.heap.size + 1 + 1 < w4.heap.size) := LR
  by_cases hi : 0 ≤ talkAt s.talks x.c
  · obtain ⟨i, hi', ht, hn⟩ := talkAt_hit hi
    obtain ⟨T, hT⟩ : ∃ T, T = s.talks[i] := ⟨_, rfl⟩
    have HTK : Hid (talkOf s x.c = T) := Lib.hid (by unfold talkOf; rw [ht, Int.toNat_natCast, getD_at hi', hT])
    have Hi := Lib.hid hi
    have Ht := Lib.hid ht
    rw [ht]
    obtain ⟨hrl, hr⟩ := HRt.out
    rcases hr with ⟨_, h0⟩ | ⟨g, o, cap, rfl, hnc, hcm, hgB, hAt⟩
    · omega
    have hgB : g < B := by rcases hgB with h | h <;> omega
    have hcell := hAt.talk i hi'
    rw [← hT] at hcell
    have hlt : (i : Int) < (s.talks.length : Int) := by omega
    unfold maxLen at hcm
    have HY : Hid (∀ w', Below w4.heap.size w4 w' → (w'.cell? ⟨w.heap.size, 0, none⟩ = some (vi) ∧ w'.cell? ⟨w.heap.size, 1, none⟩ = some (.slice (some ⟨g, o, none⟩) s.talks.length cap)) ∧ (w'.cell? ⟨w.heap.size + 1, 0, none⟩ = some (.string x.c) ∧ w'.cell? ⟨w.heap.size + 1, 1, none⟩ = some (.int .i64 x.q) ∧ w'.cell? ⟨w.heap.size + 1, 2, none⟩ = some (.int .i64 x.n) ∧ w'.cell? ⟨w.heap.size + 1, 3, none⟩ = some (.string x.k) ∧ w'.cell? ⟨w.heap.size + 1, 4, none⟩ = some (.string x.v)) ∧ w'.cell? ⟨g, o + i * 3, none⟩ = some (.string T.c) ∧ w'.cell? ⟨g, o + i * 3 + 1, none⟩ = some (.int .i64 T.q) ∧ w'.cell? ⟨g, o + i * 3 + 2, none⟩ = some (.string T.r)) := Lib.hid (fun w' h => by
      have hb := BB.out.trans (h.mono BB.out.size)
      have hgw : g < w.heap.size := Nat.lt_of_lt_of_le hgB hB
      have k0 := (h.block _ LP.out).trans KP.out
      have k1 := (h.block _ LQ.out).trans KQ.out
      exact ⟨⟨by simpa using cell_of_row w' _ 0 _ _ _ k0, by simpa using cell_of_row w' _ 1 _ _ _ k0⟩, ⟨by simpa using cell_of_row w' _ 0 _ _ _ k1, by simpa using cell_of_row w' _ 1 _ _ _ k1, by simpa using cell_of_row w' _ 2 _ _ _ k1, by simpa using cell_of_row w' _ 3 _ _ _ k1, by simpa using cell_of_row w' _ 4 _ _ _ k1⟩, by rw [hb.cell (p := ⟨g, o + i * 3, none⟩) hgw, hb.cell (p := ⟨g, o + i * 3 + 1, none⟩) hgw, hb.cell (p := ⟨g, o + i * 3 + 2, none⟩) hgw]; exact hcell⟩)
    clear hcell hAt hT hi ht hn
    have Hlt3 := Lib.hid hlt
    rcases Int.lt_trichotomy T.q x.q with he | he | he
    · have he' : decide (T.q < x.q) = true := by simpa using he
      have HA : Hid (¬ (0 ≤ talkAt s.talks x.c ∧ x.q ≤ (talkOf s x.c).q)) := Lib.hid (by rw [HTK.out]; omega)
      clear he
      go_wp2_with fail
      refine wp_region_held_drew (S := (fun w' => Below w4.heap.size w4 w')) (by kernel_rfl) ((Below.refl w4.heap.size w4).drew) (fun hHeld => ?_)
      refine tk0 0 ?_
      refine tk0 1 ?_
      refine tk0 2 ?_
      refine tk0 3 ?_
      refine tk 4 (v := ?_) ?_ ?_; rotate_left
      · refine Or.inl ⟨by rfl, ?_⟩; intro w hSw; obtain ⟨⟨gP0, gP1⟩, ⟨gQ0, gQ1, gQ2, gQ3, gQ4⟩, gT0, gT1, gT2⟩ := HY.out w hSw; go_simp; first | done | with_reducible rfl
      refine tk0 5 ?_
      refine tk0 6 ?_
      refine tk0 7 ?_
      refine tk 8 (v := ?_) ?_ ?_; rotate_left
      · refine Or.inl ⟨by rfl, ?_⟩; intro w hSw; obtain ⟨⟨gP0, gP1⟩, ⟨gQ0, gQ1, gQ2, gQ3, gQ4⟩, gT0, gT1, gT2⟩ := HY.out w hSw; go_simp; first | done | with_reducible rfl
      refine tk0 9 ?_
      refine tk 10 (v := ?_) ?_ ?_; rotate_left
      · refine Or.inl ⟨by rfl, ?_⟩; intro w hSw; obtain ⟨⟨gP0, gP1⟩, ⟨gQ0, gQ1, gQ2, gQ3, gQ4⟩, gT0, gT1, gT2⟩ := HY.out w hSw; go_simp; first | done | with_reducible rfl
      refine tk0 11 ?_
      refine tk0 12 ?_
      refine wpAnyH_done (by kernel_rfl) ?_ _
      obtain ⟨w5, hw5⟩ : ∃ z, z = w4.drew := ⟨_, rfl⟩
      rw [← hw5] at hHeld ⊢
      have B6 := Lib.hid hHeld
      clear hHeld hw5
      replace KP := Lib.hid ((B6.out.block _ LP.out).trans KP.out)
      replace LP := Lib.hid (Nat.lt_of_lt_of_le LP.out B6.out.size)
      replace KQ := Lib.hid ((B6.out.block _ LQ.out).trans KQ.out)
      replace LQ := Lib.hid (Nat.lt_of_lt_of_le LQ.out B6.out.size)
      replace KR := Lib.hid ((B6.out.block _ LR.out).trans KR.out)
      replace LR := Lib.hid (Nat.lt_of_lt_of_le LR.out B6.out.size)
      replace BB := Lib.hid (BB.out.trans (B6.out.mono BB.out.size))
      clear he'
      replace NLR : Hid (w.heap.size + 1 + 1 < w5.heap.size) := LR
      have hc := impl_perform s _ x B w5 (HS.out.later (BB.out.mono hB) (Nat.le_refl _)) (Nat.le_trans hB BB.out.size) HO.out HQ.out HA.out
      unfold rqA at hc
      have fP0 := tcr KP 0
      have fP1 := tcr KP 1
      have fQ0 := tcr KQ 0
      have fQ1 := tcr KQ 1
      have fQ2 := tcr KQ 2
      have fQ3 := tcr KQ 3
      have fQ4 := tcr KQ 4
      go_wp2_with (go_at_call 73; refine hc.mono ?_; rintro e wp ⟨⟨hz, v', rfl, hown⟩ | ⟨hz, rfl⟩, hbp⟩ <;> refine Hid.out ?_)
      · refine Lib.hid ?_
        clear fP0 fP1 fQ0 fQ1 fQ2 fQ3 fQ4
        replace KP := tkb hbp LP KP
        replace LP := tlz LP hbp.size
        replace KQ := tkb hbp LQ KQ
        replace LQ := tlz LQ hbp.size
        replace KR := tkb hbp LR KR
        replace LR := tlz LR hbp.size
        replace BB := tbt BB hbp
        have S5 := Lib.hid hown
        obtain ⟨a6, m6, k6, a7, m7, k7, rfl⟩ := hown.two'
        have HZ := Lib.hid hz
        have hv1 := hbp.size
        have HV := Lib.hid hv1
        clear hown hbp hz hc hv1
        have fR0 := tcr KR 0
        have fR1 := tcr KR 1
        have zR0 := tfr KR 0
        have zR1 := tfr KR 1
        go_wp2_with fail
        clear fR0 fR1
        clear zR0 zR1
        have hb : w.heap.size + 1 + 1 < w5.heap.size := NLR.out
        have hb2 : w.heap.size ≤ w5.heap.size := by omega
        have f1 := heap_setCell_same _ (w.heap.size + 1 + 1) 0 _ _ (.slice a6 m6 k6) KR.out
        have f2 := heap_setCell_same _ (w.heap.size + 1 + 1) 1 _ _ (.slice a7 m7 k7) f1
        obtain ⟨j0, q1, q2, q3, q4⟩ := info_parts infoSt
        refine bodyPost_ret (results_cell_row3 (P := Tryd.prog) rfl _ _ (w.heap.size + 1 + 1) _ _ (0, 0) _ _ _ rfl rfl rfl f2 Tryd.underlying27 rfl (by rw [q1]; simp [q3])) rfl ?_
        exact ⟨.inl ⟨HZ.out, _, rfl, ((S5.out.kept (grown_set _ ⟨w.heap.size + 1 + 1, 0, none⟩ _) hb).kept (grown_set _ ⟨w.heap.size + 1 + 1, 1, none⟩ _) hb).base hb2⟩, (BB.out.setCell (p := ⟨w.heap.size + 1 + 1, 0, none⟩) (by simp; omega) _).setCell (p := ⟨w.heap.size + 1 + 1, 1, none⟩) (by simp; omega) _⟩
      · refine Lib.hid ?_
        clear fP0 fP1 fQ0 fQ1 fQ2 fQ3 fQ4
        replace KP := tkb hbp LP KP
        replace LP := tlz LP hbp.size
        replace KQ := tkb hbp LQ KQ
        replace LQ := tlz LQ hbp.size
        replace KR := tkb hbp LR KR
        replace LR := tlz LR hbp.size
        replace BB := tbt BB hbp
        have HZ := Lib.hid hz
        clear hz hc hbp
        have fR0 := tcr KR 0
        have fR1 := tcr KR 1
        have zR0 := tfr KR 0
        have zR1 := tfr KR 1
        go_wp2_with fail
        clear fR0 fR1
        clear zR0 zR1
        have f1 := heap_setCell_same _ (w.heap.size + 1 + 1) 0 _ _ (.slice none 0 0) KR.out
        have f2 := heap_setCell_same _ (w.heap.size + 1 + 1) 1 _ _ (.slice none 0 0) f1
        obtain ⟨j0, q1, q2, q3, q4⟩ := info_parts infoSt
        refine bodyPost_ret (results_cell_row3 (P := Tryd.prog) rfl _ _ (w.heap.size + 1 + 1) _ _ (0, 0) _ _ _ rfl rfl rfl f2 Tryd.underlying27 rfl (by rw [q1]; simp [q3])) rfl ?_
        exact ⟨.inr ⟨HZ.out, rfl⟩, (BB.out.setCell (p := ⟨w.heap.size + 1 + 1, 0, none⟩) (by simp; omega) _).setCell (p := ⟨w.heap.size + 1 + 1, 1, none⟩) (by simp; omega) _⟩
    · have he1 : decide (T.q < x.q) = false := by simp [he]
      have he2 : decide (x.q < T.q) = false := by simp [he]
      have hR : ap s x = (s, T.r, 0) := by rw [← HTK.out]; exact ap_again HO.out HQ.out Hi.out (by rw [HTK.out]; exact he)
      have HR := Lib.hid hR
      clear he hR
      go_wp2_with fail
      refine wp_region_held_drew (S := (fun w' => Below w4.heap.size w4 w')) (by kernel_rfl) ((Below.refl w4.heap.size w4).drew) (fun hHeld => ?_)
      refine tk0 0 ?_
      refine tk0 1 ?_
      refine tk0 2 ?_
      refine tk0 3 ?_
      refine tk 4 (v := ?_) ?_ ?_; rotate_left
      · refine Or.inl ⟨by rfl, ?_⟩; intro w hSw; obtain ⟨⟨gP0, gP1⟩, ⟨gQ0, gQ1, gQ2, gQ3, gQ4⟩, gT0, gT1, gT2⟩ := HY.out w hSw; go_simp; first | done | with_reducible rfl
      refine tk0 5 ?_
      refine tk0 6 ?_
      refine tk0 7 ?_
      refine tk 8 (v := ?_) ?_ ?_; rotate_left
      · refine Or.inl ⟨by rfl, ?_⟩; intro w hSw; obtain ⟨⟨gP0, gP1⟩, ⟨gQ0, gQ1, gQ2, gQ3, gQ4⟩, gT0, gT1, gT2⟩ := HY.out w hSw; go_simp; first | done | with_reducible rfl
      refine tk0 9 ?_
      refine tk 10 (v := ?_) ?_ ?_; rotate_left
      · refine Or.inl ⟨by rfl, ?_⟩; intro w hSw; obtain ⟨⟨gP0, gP1⟩, ⟨gQ0, gQ1, gQ2, gQ3, gQ4⟩, gT0, gT1, gT2⟩ := HY.out w hSw; go_simp; first | done | with_reducible rfl
      refine tk0 11 ?_
      refine tk0 12 ?_
      refine wpAnyH_done (by kernel_rfl) ?_ _
      obtain ⟨w5, hw5⟩ : ∃ z, z = w4.drew := ⟨_, rfl⟩
      rw [← hw5] at hHeld ⊢
      have B6 := Lib.hid hHeld
      clear hHeld hw5
      replace KP := Lib.hid ((B6.out.block _ LP.out).trans KP.out)
      replace LP := Lib.hid (Nat.lt_of_lt_of_le LP.out B6.out.size)
      replace KQ := Lib.hid ((B6.out.block _ LQ.out).trans KQ.out)
      replace LQ := Lib.hid (Nat.lt_of_lt_of_le LQ.out B6.out.size)
      replace KR := Lib.hid ((B6.out.block _ LR.out).trans KR.out)
      replace LR := Lib.hid (Nat.lt_of_lt_of_le LR.out B6.out.size)
      replace BB := Lib.hid (BB.out.trans (B6.out.mono BB.out.size))
      have HY5 : Hid (∀ w', Below w5.heap.size w5 w' → Below w4.heap.size w4 w') := Lib.hid (fun w' h => B6.out.trans (h.mono B6.out.size))
      go_wp2_with fail
      refine wp_region_held_drew (S := (fun w' => Below w5.heap.size w5 w')) (by kernel_rfl) ((Below.refl w5.heap.size w5).drew) (fun hHeld => ?_)
      refine tk0 0 ?_
      refine tk 1 (v := ?_) ?_ ?_; rotate_left
      · refine Or.inl ⟨by rfl, ?_⟩; intro w hSw; have hSw := HY5.out w hSw; obtain ⟨⟨gP0, gP1⟩, ⟨gQ0, gQ1, gQ2, gQ3, gQ4⟩, gT0, gT1, gT2⟩ := HY.out w hSw; go_simp; first | done | with_reducible rfl
      refine tk0 2 ?_
      refine tk0 3 ?_
      refine tk0 4 ?_
      refine tk 5 (v := ?_) ?_ ?_; rotate_left
      · refine Or.inl ⟨by rfl, ?_⟩; intro w hSw; have hSw := HY5.out w hSw; obtain ⟨⟨gP0, gP1⟩, ⟨gQ0, gQ1, gQ2, gQ3, gQ4⟩, gT0, gT1, gT2⟩ := HY.out w hSw; go_simp; first | done | with_reducible rfl
      refine tk0 6 ?_
      refine tk 7 (v := ?_) ?_ ?_; rotate_left
      · refine Or.inl ⟨by rfl, ?_⟩; intro w hSw; have hSw := HY5.out w hSw; obtain ⟨⟨gP0, gP1⟩, ⟨gQ0, gQ1, gQ2, gQ3, gQ4⟩, gT0, gT1, gT2⟩ := HY.out w hSw; go_simp; first | done | with_reducible rfl
      refine tk0 8 ?_
      refine wpAnyH_done (by kernel_rfl) ?_ _
      clear B6
      obtain ⟨w6, hw6⟩ : ∃ z, z = w5.drew := ⟨_, rfl⟩
      rw [← hw6] at hHeld ⊢
      have B6 := Lib.hid hHeld
      clear hHeld hw6
      replace KP := Lib.hid ((B6.out.block _ LP.out).trans KP.out)
      replace LP := Lib.hid (Nat.lt_of_lt_of_le LP.out B6.out.size)
      replace KQ := Lib.hid ((B6.out.block _ LQ.out).trans KQ.out)
      replace LQ := Lib.hid (Nat.lt_of_lt_of_le LQ.out B6.out.size)
      replace KR := Lib.hid ((B6.out.block _ LR.out).trans KR.out)
      replace LR := Lib.hid (Nat.lt_of_lt_of_le LR.out B6.out.size)
      replace BB := Lib.hid (BB.out.trans (B6.out.mono BB.out.size))
      clear he1 he2
      go_wp2_with fail
      have HY6 : Hid (∀ w', Below w6.heap.size w6 w' → Below w4.heap.size w4 w') := Lib.hid (fun w' h => HY5.out _ (B6.out.trans (h.mono B6.out.size)))
      have HS6 : Hid (∀ w', Below w6.heap.size w6 w' → (fun w' => (w'.cell? ⟨w.heap.size, 0, none⟩ = some (vi) ∧ w'.cell? ⟨w.heap.size, 1, none⟩ = some (.slice (some ⟨g, o, none⟩) s.talks.length cap)) ∧ (w'.cell? ⟨w.heap.size + 1, 0, none⟩ = some (.string x.c) ∧ w'.cell? ⟨w.heap.size + 1, 1, none⟩ = some (.int .i64 x.q) ∧ w'.cell? ⟨w.heap.size + 1, 2, none⟩ = some (.int .i64 x.n) ∧ w'.cell? ⟨w.heap.size + 1, 3, none⟩ = some (.string x.k) ∧ w'.cell? ⟨w.heap.size + 1, 4, none⟩ = some (.string x.v)) ∧ w'.cell? ⟨g, o + i * 3, none⟩ = some (.string T.c) ∧ w'.cell? ⟨g, o + i * 3 + 1, none⟩ = some (.int .i64 T.q) ∧ w'.cell? ⟨g, o + i * 3 + 2, none⟩ = some (.string T.r)) w') := Lib.hid (fun w' h => HY.out _ (HY6.out _ h))
      refine wp_region_held_drew (S := (fun w' => (w'.cell? ⟨w.heap.size, 0, none⟩ = some (vi) ∧ w'.cell? ⟨w.heap.size, 1, none⟩ = some (.slice (some ⟨g, o, none⟩) s.talks.length cap)) ∧ (w'.cell? ⟨w.heap.size + 1, 0, none⟩ = some (.string x.c) ∧ w'.cell? ⟨w.heap.size + 1, 1, none⟩ = some (.int .i64 x.q) ∧ w'.cell? ⟨w.heap.size + 1, 2, none⟩ = some (.int .i64 x.n) ∧ w'.cell? ⟨w.heap.size + 1, 3, none⟩ = some (.string x.k) ∧ w'.cell? ⟨w.heap.size + 1, 4, none⟩ = some (.string x.v)) ∧ w'.cell? ⟨g, o + i * 3, none⟩ = some (.string T.c) ∧ w'.cell? ⟨g, o + i * 3 + 1, none⟩ = some (.int .i64 T.q) ∧ w'.cell? ⟨g, o + i * 3 + 2, none⟩ = some (.string T.r))) (by kernel_rfl) (HS6.out _ ((Below.refl w6.heap.size w6).drew)) (fun hHeld => ?_)
      refine tk 0 (v := ?_) ?_ ?_; rotate_left
      · refine Or.inl ⟨by rfl, ?_⟩; intro w hSw; obtain ⟨⟨gP0, gP1⟩, ⟨gQ0, gQ1, gQ2, gQ3, gQ4⟩, gT0, gT1, gT2⟩ := hSw; go_simp; first | done | with_reducible rfl
      refine tk0 2 ?_
      refine tk 3 (v := ?_) ?_ ?_; rotate_left
      · refine Or.inl ⟨by rfl, ?_⟩; intro w hSw; obtain ⟨⟨gP0, gP1⟩, ⟨gQ0, gQ1, gQ2, gQ3, gQ4⟩, gT0, gT1, gT2⟩ := hSw; go_simp; first | done | with_reducible rfl
      refine tk0 4 ?_
      refine tk0 5 ?_
      refine tk0 6 ?_
      refine tk 7 (v := ?_) ?_ ?_; rotate_left
      · refine Or.inl ⟨by rfl, ?_⟩; intro w hSw; obtain ⟨⟨gP0, gP1⟩, ⟨gQ0, gQ1, gQ2, gQ3, gQ4⟩, gT0, gT1, gT2⟩ := hSw; go_simp; first | done | with_reducible rfl
      obtain ⟨wd, hwd⟩ : ∃ z, z = w6.drew := ⟨_, rfl⟩
      try rw [← hwd]
      have bwd : Below w6.heap.size w6 wd := by rw [hwd]; exact (Below.refl w6.heap.size w6).drew
      clear hwd hHeld
      replace KP := tkb bwd LP KP
      replace LP := tlz LP bwd.size
      replace KQ := tkb bwd LQ KQ
      replace LQ := tlz LQ bwd.size
      replace KR := tkb bwd LR KR
      replace LR := tlz LR bwd.size
      replace BB := tbt BB bwd
      have hc := impl_copy s _ B wd (HS.out.rd.later (BB.out.mono hB) (Nat.le_refl _)) (Nat.le_trans hB BB.out.size) Hfew.out
      refine rd1 1 (fun K hK => ?_)
      go_simp
      go_at_call 35
      refine hc.mono ?_
      rintro e wk ⟨v1, rfl, ho, hbk⟩
      have S1 := Lib.hid ho
      obtain ⟨a6, m6, k6, a7, m7, k7, rfl⟩ := ho.two'
      have bk := bwd.trans (hbk.mono bwd.size)
      go_wp2_with fail
      refine hK.out _ _ (HS6.out _ bk) (fun hHeld => ?_)
      clear hK K
      try simp only [getElem_toArray, getElem_cons_zero, getElem_cons_succ, Act.put, setIfInBounds_toArray, set_cons_zero, set_cons_succ]
      have NK : Hid (w.heap.size + 1 + 1 < wd.heap.size) := LR
      replace KP := tkb hbk LP KP
      replace LP := tlz LP hbk.size
      replace KQ := tkb hbk LQ KQ
      replace LQ := tlz LQ hbk.size
      replace KR := tkb hbk LR KR
      replace LR := tlz LR hbk.size
      replace BB := tbt BB hbk
      refine rd1 8 (fun K hK => ?_)
      have fR0 := tcr KR 0
      have fR1 := tcr KR 1
      have zR0 := tfr KR 0
      have zR1 := tfr KR 1
      go_simp
      obtain ⟨Y, hY⟩ : ∃ Y, Y = (wk.setCell ⟨w.heap.size + 1 + 1, 0, none⟩ (.slice a6 m6 k6)).setCell ⟨w.heap.size + 1 + 1, 1, none⟩ (.slice a7 m7 k7) := ⟨_, rfl⟩
      rw [← hY]
      have gY : wk.grownBy Y (some (w.heap.size + 1 + 1)) := by rw [hY]; exact (grown_set wk ⟨w.heap.size + 1 + 1, 0, none⟩ _).trans (grown_set _ ⟨w.heap.size + 1 + 1, 1, none⟩ _)
      clear fR0 fR1
      clear zR0 zR1
      have hgw : g < w.heap.size := Nat.lt_of_lt_of_le hgB hB
      have k0 := (gY.block _ LP.out (fun e => by simp only [Option.some.injEq] at e; omega)).trans KP.out
      have k1 := (gY.block _ LQ.out (fun e => by simp only [Option.some.injEq] at e; omega)).trans KQ.out
      have eg := gY.block g (by have := BB.out.size; omega) (fun e => by simp only [Option.some.injEq] at e; omega)
      have hSY : (fun w' => (w'.cell? ⟨w.heap.size, 0, none⟩ = some (vi) ∧ w'.cell? ⟨w.heap.size, 1, none⟩ = some (.slice (some ⟨g, o, none⟩) s.talks.length cap)) ∧ (w'.cell? ⟨w.heap.size + 1, 0, none⟩ = some (.string x.c) ∧ w'.cell? ⟨w.heap.size + 1, 1, none⟩ = some (.int .i64 x.q) ∧ w'.cell? ⟨w.heap.size + 1, 2, none⟩ = some (.int .i64 x.n) ∧ w'.cell? ⟨w.heap.size + 1, 3, none⟩ = some (.string x.k) ∧ w'.cell? ⟨w.heap.size + 1, 4, none⟩ = some (.string x.v)) ∧ w'.cell? ⟨g, o + i * 3, none⟩ = some (.string T.c) ∧ w'.cell? ⟨g, o + i * 3 + 1, none⟩ = some (.int .i64 T.q) ∧ w'.cell? ⟨g, o + i * 3 + 2, none⟩ = some (.string T.r)) Y := by
        refine ⟨⟨by simpa using cell_of_row Y _ 0 _ _ _ k0, by simpa using cell_of_row Y _ 1 _ _ _ k0⟩, ⟨by simpa using cell_of_row Y _ 0 _ _ _ k1, by simpa using cell_of_row Y _ 1 _ _ _ k1, by simpa using cell_of_row Y _ 2 _ _ _ k1, by simpa using cell_of_row Y _ 3 _ _ _ k1, by simpa using cell_of_row Y _ 4 _ _ _ k1⟩, ?_⟩
        rw [World.cell?_of_block (w := wk) (a := ⟨g, o + i * 3, none⟩) eg, World.cell?_of_block (w := wk) (a := ⟨g, o + i * 3 + 1, none⟩) eg, World.cell?_of_block (w := wk) (a := ⟨g, o + i * 3 + 2, none⟩) eg]
        exact (HS6.out _ bk).2.2
      clear k0 k1 eg hHeld bk
      refine hK.out _ _ hSY (fun hHeld => ?_)
      clear hK K
      refine tk0 9 ?_
      refine tk0 10 ?_
      refine wpAnyH_done (by kernel_rfl) ?_ _
      clear hHeld hSY gY
      go_wp2_with fail
      try rw [hY]
      have hb : w.heap.size + 1 + 1 < wd.heap.size := NK.out
      have hb2 : w.heap.size ≤ wd.heap.size := by omega
      have f1 := heap_setCell_same _ (w.heap.size + 1 + 1) 0 _ _ (.slice a6 m6 k6) KR.out
      have f2 := heap_setCell_same _ (w.heap.size + 1 + 1) 1 _ _ (.slice a7 m7 k7) f1
      obtain ⟨j0, q1, q2, q3, q4⟩ := info_parts infoSt
      refine bodyPost_ret (results_cell_row3 (P := Tryd.prog) rfl _ _ (w.heap.size + 1 + 1) _ _ (0, 0) _ _ _ rfl rfl rfl f2 Tryd.underlying27 rfl (by rw [q1]; simp [q3])) rfl ?_
      exact ⟨.inl ⟨by rw [HR.out], _, (by rw [HR.out]; rfl), by rw [HR.out]; exact ((S1.out.kept (grown_set _ ⟨w.heap.size + 1 + 1, 0, none⟩ _) hb).kept (grown_set _ ⟨w.heap.size + 1 + 1, 1, none⟩ _) hb).base hb2⟩, (BB.out.setCell (p := ⟨w.heap.size + 1 + 1, 0, none⟩) (by simp; omega) _).setCell (p := ⟨w.heap.size + 1 + 1, 1, none⟩) (by simp; omega) _⟩
    · have he1 : decide (T.q < x.q) = false := by simp; omega
      have he2 : decide (x.q < T.q) = true := by simpa using he
      have Hgt := Lib.hid he
      clear he
      go_wp2_with fail
      refine wp_region_held_drew (S := (fun w' => Below w4.heap.size w4 w')) (by kernel_rfl) ((Below.refl w4.heap.size w4).drew) (fun hHeld => ?_)
      refine tk0 0 ?_
      refine tk0 1 ?_
      refine tk0 2 ?_
      refine tk0 3 ?_
      refine tk 4 (v := ?_) ?_ ?_; rotate_left
      · refine Or.inl ⟨by rfl, ?_⟩; intro w hSw; obtain ⟨⟨gP0, gP1⟩, ⟨gQ0, gQ1, gQ2, gQ3, gQ4⟩, gT0, gT1, gT2⟩ := HY.out w hSw; go_simp; first | done | with_reducible rfl
      refine tk0 5 ?_
      refine tk0 6 ?_
      refine tk0 7 ?_
      refine tk 8 (v := ?_) ?_ ?_; rotate_left
      · refine Or.inl ⟨by rfl, ?_⟩; intro w hSw; obtain ⟨⟨gP0, gP1⟩, ⟨gQ0, gQ1, gQ2, gQ3, gQ4⟩, gT0, gT1, gT2⟩ := HY.out w hSw; go_simp; first | done | with_reducible rfl
      refine tk0 9 ?_
      refine tk 10 (v := ?_) ?_ ?_; rotate_left
      · refine Or.inl ⟨by rfl, ?_⟩; intro w hSw; obtain ⟨⟨gP0, gP1⟩, ⟨gQ0, gQ1, gQ2, gQ3, gQ4⟩, gT0, gT1, gT2⟩ := HY.out w hSw; go_simp; first | done | with_reducible rfl
      refine tk0 11 ?_
      refine tk0 12 ?_
      refine wpAnyH_done (by kernel_rfl) ?_ _
      obtain ⟨w5, hw5⟩ : ∃ z, z = w4.drew := ⟨_, rfl⟩
      rw [← hw5] at hHeld ⊢
      have B6 := Lib.hid hHeld
      clear hHeld hw5
      replace KP := Lib.hid ((B6.out.block _ LP.out).trans KP.out)
      replace LP := Lib.hid (Nat.lt_of_lt_of_le LP.out B6.out.size)
      replace KQ := Lib.hid ((B6.out.block _ LQ.out).trans KQ.out)
      replace LQ := Lib.hid (Nat.lt_of_lt_of_le LQ.out B6.out.size)
      replace KR := Lib.hid ((B6.out.block _ LR.out).trans KR.out)
      replace LR := Lib.hid (Nat.lt_of_lt_of_le LR.out B6.out.size)
      replace BB := Lib.hid (BB.out.trans (B6.out.mono BB.out.size))
      have HY5 : Hid (∀ w', Below w5.heap.size w5 w' → Below w4.heap.size w4 w') := Lib.hid (fun w' h => B6.out.trans (h.mono B6.out.size))
      go_wp2_with fail
      refine wp_region_held_drew (S := (fun w' => Below w5.heap.size w5 w')) (by kernel_rfl) ((Below.refl w5.heap.size w5).drew) (fun hHeld => ?_)
      refine tk0 0 ?_
      refine tk 1 (v := ?_) ?_ ?_; rotate_left
      · refine Or.inl ⟨by rfl, ?_⟩; intro w hSw; have hSw := HY5.out w hSw; obtain ⟨⟨gP0, gP1⟩, ⟨gQ0, gQ1, gQ2, gQ3, gQ4⟩, gT0, gT1, gT2⟩ := HY.out w hSw; go_simp; first | done | with_reducible rfl
      refine tk0 2 ?_
      refine tk0 3 ?_
      refine tk0 4 ?_
      refine tk 5 (v := ?_) ?_ ?_; rotate_left
      · refine Or.inl ⟨by rfl, ?_⟩; intro w hSw; have hSw := HY5.out w hSw; obtain ⟨⟨gP0, gP1⟩, ⟨gQ0, gQ1, gQ2, gQ3, gQ4⟩, gT0, gT1, gT2⟩ := HY.out w hSw; go_simp; first | done | with_reducible rfl
      refine tk0 6 ?_
      refine tk 7 (v := ?_) ?_ ?_; rotate_left
      · refine Or.inl ⟨by rfl, ?_⟩; intro w hSw; have hSw := HY5.out w hSw; obtain ⟨⟨gP0, gP1⟩, ⟨gQ0, gQ1, gQ2, gQ3, gQ4⟩, gT0, gT1, gT2⟩ := HY.out w hSw; go_simp; first | done | with_reducible rfl
      refine tk0 8 ?_
      refine wpAnyH_done (by kernel_rfl) ?_ _
      clear B6
      obtain ⟨w6, hw6⟩ : ∃ z, z = w5.drew := ⟨_, rfl⟩
      rw [← hw6] at hHeld ⊢
      have B6 := Lib.hid hHeld
      clear hHeld hw6
      replace KP := Lib.hid ((B6.out.block _ LP.out).trans KP.out)
      replace LP := Lib.hid (Nat.lt_of_lt_of_le LP.out B6.out.size)
      replace KQ := Lib.hid ((B6.out.block _ LQ.out).trans KQ.out)
      replace LQ := Lib.hid (Nat.lt_of_lt_of_le LQ.out B6.out.size)
      replace KR := Lib.hid ((B6.out.block _ LR.out).trans KR.out)
      replace LR := Lib.hid (Nat.lt_of_lt_of_le LR.out B6.out.size)
      replace BB := Lib.hid (BB.out.trans (B6.out.mono BB.out.size))
      clear he1 he2
      have fR0 := tcr KR 0
      have fR1 := tcr KR 1
      have zR0 := tfr KR 0
      have zR1 := tfr KR 1
      go_wp2_with fail
      clear fR0 fR1
      clear zR0 zR1
      have hR : ap s x = (s, ⟨#[]⟩, 1) := ap_old HO.out HQ.out Hi.out (by rw [HTK.out]; exact Hgt.out)
      have f1 := heap_setCell_same _ (w.heap.size + 1 + 1) 0 _ _ (.slice none 0 0) KR.out
      have f2 := heap_setCell_same _ (w.heap.size + 1 + 1) 1 _ _ (.slice none 0 0) f1
      obtain ⟨j0, q1, q2, q3, q4⟩ := info_parts infoSt
      refine bodyPost_ret (results_cell_row3 (P := Tryd.prog) rfl _ _ (w.heap.size + 1 + 1) _ _ (0, 0) _ _ _ rfl rfl rfl f2 Tryd.underlying27 rfl (by rw [q1]; simp [q3])) rfl ?_
      exact ⟨.inr ⟨by rw [hR]; show (1 : Int) ≠ 0; decide, by rw [hR]; rfl⟩, (BB.out.setCell (p := ⟨w.heap.size + 1 + 1, 0, none⟩) (by simp; omega) _).setCell (p := ⟨w.heap.size + 1 + 1, 1, none⟩) (by simp; omega) _⟩
  · have hi2 : decide (talkAt s.talks x.c < 0) = true := by simp; omega
    have HA : Hid (¬ (0 ≤ talkAt s.talks x.c ∧ x.q ≤ (talkOf s x.c).q)) := Lib.hid (fun h => hi h.1)
    clear hi
    go_wp2_with fail
    refine wp_region_held_drew (S := (fun w' => Below w4.heap.size w4 w')) (by kernel_rfl) ((Below.refl w4.heap.size w4).drew) (fun hHeld => ?_)
    refine tk0 0 ?_
    refine tk0 1 ?_
    refine tk0 2 ?_
    refine tku 3 ?_
    refine tku 4 ?_
    refine tku 5 ?_
    refine tku 6 ?_
    refine tku 7 ?_
    refine tku 8 ?_
    refine tku 9 ?_
    refine tku 10 ?_
    refine tku 11 ?_
    refine tk0 12 ?_
    refine wpAnyH_done (by kernel_rfl) ?_ _
    obtain ⟨w5, hw5⟩ : ∃ z, z = w4.drew := ⟨_, rfl⟩
    rw [← hw5] at hHeld ⊢
    have B6 := Lib.hid hHeld
    clear hHeld hw5
    replace KP := Lib.hid ((B6.out.block _ LP.out).trans KP.out)
    replace LP := Lib.hid (Nat.lt_of_lt_of_le LP.out B6.out.size)
    replace KQ := Lib.hid ((B6.out.block _ LQ.out).trans KQ.out)
    replace LQ := Lib.hid (Nat.lt_of_lt_of_le LQ.out B6.out.size)
    replace KR := Lib.hid ((B6.out.block _ LR.out).trans KR.out)
    replace LR := Lib.hid (Nat.lt_of_lt_of_le LR.out B6.out.size)
    replace BB := Lib.hid (BB.out.trans (B6.out.mono BB.out.size))
    clear hi2
    replace NLR : Hid (w.heap.size + 1 + 1 < w5.heap.size) := LR
    have hc := impl_perform s _ x B w5 (HS.out.later (BB.out.mono hB) (Nat.le_refl _)) (Nat.le_trans hB BB.out.size) HO.out HQ.out HA.out
    unfold rqA at hc
    have fP0 := tcr KP 0
    have fP1 := tcr KP 1
    have fQ0 := tcr KQ 0
    have fQ1 := tcr KQ 1
    have fQ2 := tcr KQ 2
    have fQ3 := tcr KQ 3
    have fQ4 := tcr KQ 4
    go_wp2_with (go_at_call 73; refine hc.mono ?_; rintro e wp ⟨⟨hz, v', rfl, hown⟩ | ⟨hz, rfl⟩, hbp⟩ <;> refine Hid.out ?_)
    · refine Lib.hid ?_
      clear fP0 fP1 fQ0 fQ1 fQ2 fQ3 fQ4
      replace KP := tkb hbp LP KP
      replace LP := tlz LP hbp.size
      replace KQ := tkb hbp LQ KQ
      replace LQ := tlz LQ hbp.size
      replace KR := tkb hbp LR KR
      replace LR := tlz LR hbp.size
      replace BB := tbt BB hbp
      have S5 := Lib.hid hown
      obtain ⟨a6, m6, k6, a7, m7, k7, rfl⟩ := hown.two'
      have HZ := Lib.hid hz
      have hv1 := hbp.size
      have HV := Lib.hid hv1
      clear hown hbp hz hc hv1
      have fR0 := tcr KR 0
      have fR1 := tcr KR 1
      have zR0 := tfr KR 0
      have zR1 := tfr KR 1
      go_wp2_with fail
      clear fR0 fR1
      clear zR0 zR1
      have hb : w.heap.size + 1 + 1 < w5.heap.size := NLR.out
      have hb2 : w.heap.size ≤ w5.heap.size := by omega
      have f1 := heap_setCell_same _ (w.heap.size + 1 + 1) 0 _ _ (.slice a6 m6 k6) KR.out
      have f2 := heap_setCell_same _ (w.heap.size + 1 + 1) 1 _ _ (.slice a7 m7 k7) f1
      obtain ⟨j0, q1, q2, q3, q4⟩ := info_parts infoSt
      refine bodyPost_ret (results_cell_row3 (P := Tryd.prog) rfl _ _ (w.heap.size + 1 + 1) _ _ (0, 0) _ _ _ rfl rfl rfl f2 Tryd.underlying27 rfl (by rw [q1]; simp [q3])) rfl ?_
      exact ⟨.inl ⟨HZ.out, _, rfl, ((S5.out.kept (grown_set _ ⟨w.heap.size + 1 + 1, 0, none⟩ _) hb).kept (grown_set _ ⟨w.heap.size + 1 + 1, 1, none⟩ _) hb).base hb2⟩, (BB.out.setCell (p := ⟨w.heap.size + 1 + 1, 0, none⟩) (by simp; omega) _).setCell (p := ⟨w.heap.size + 1 + 1, 1, none⟩) (by simp; omega) _⟩
    · refine Lib.hid ?_
      clear fP0 fP1 fQ0 fQ1 fQ2 fQ3 fQ4
      replace KP := tkb hbp LP KP
      replace LP := tlz LP hbp.size
      replace KQ := tkb hbp LQ KQ
      replace LQ := tlz LQ hbp.size
      replace KR := tkb hbp LR KR
      replace LR := tlz LR hbp.size
      replace BB := tbt BB hbp
      have HZ := Lib.hid hz
      clear hz hc hbp
      have fR0 := tcr KR 0
      have fR1 := tcr KR 1
      have zR0 := tfr KR 0
      have zR1 := tfr KR 1
      go_wp2_with fail
      clear fR0 fR1
      clear zR0 zR1
      have f1 := heap_setCell_same _ (w.heap.size + 1 + 1) 0 _ _ (.slice none 0 0) KR.out
      have f2 := heap_setCell_same _ (w.heap.size + 1 + 1) 1 _ _ (.slice none 0 0) f1
      obtain ⟨j0, q1, q2, q3, q4⟩ := info_parts infoSt
      refine bodyPost_ret (results_cell_row3 (P := Tryd.prog) rfl _ _ (w.heap.size + 1 + 1) _ _ (0, 0) _ _ _ rfl rfl rfl f2 Tryd.underlying27 rfl (by rw [q1]; simp [q3])) rfl ?_
      exact ⟨.inr ⟨HZ.out, rfl⟩, (BB.out.setCell (p := ⟨w.heap.size + 1 + 1, 0, none⟩) (by simp; omega) _).setCell (p := ⟨w.heap.size + 1 + 1, 1, none⟩) (by simp; omega) _⟩
end Go.Proofs.YtebmaplflpfjbaaDoor
