/- What the program's Apply answers: 'ap'. Condition: a state and an operation that can be read, not too great; the variable errors.errorType holds the handle of the type error. -/
import Derived.Test.YtebmaplflpfjbaaDoorBaseA
import Derived.Test.YtebmaplflpfjbaaDoorImplExec
import Derived.Test.YtebmaplflpfjbaaDoorAs
namespace Go.Proofs.YtebmaplflpfjbaaDoor
open Go.RowKit List
set_option linter.unusedVariables false
set_option linter.unusedSimpArgs false

theorem ErrType.on {w w' : World} (h : ErrType w) (hb : Below w.heap.size w w') : ErrType w' := by
  unfold ErrType at *
  rw [hb.cell (p := ⟨1, 0, none⟩) ?_]
  · exact h
  · rcases Nat.lt_or_ge 1 w.heap.size with h' | h'
    · exact h'
    · simp [World.cell?, Array.getElem?_eq_none h'] at h
theorem ap_refused (s : St) (x : Rq) (h : (ap s x).2.2 ≠ 0) : (ap s x).1 = s ∧ (ap s x).2.1 = ⟨#[]⟩ := by
  unfold ap at *
  split
  · exact ⟨rfl, rfl⟩
  · split
    · exact ⟨rfl, rfl⟩
    · split
      · split
        · simp_all
        · exact ⟨rfl, rfl⟩
      · split
        · exact ⟨rfl, rfl⟩
        · split
          · exact ⟨rfl, rfl⟩
          · simp_all
set_option maxRecDepth 100000 in
set_option maxHeartbeats 8000000 in
theorem impl_apply (s : St) (v : Value) (x : Rq) (B : Nat) (w : World) (hs : StV w B v s) (hB : B ≤ w.heap.size) (hfew : Few s) (hfit : Fits s) (hx : FitRq x) (hE : ErrType w) :
    Calls Tryd.prog 9 #[v, rqA x] w fun e w' => ∃ v', e = .returned (.tuple #[v', .string (ap s x).2.1, .int .i64 (ap s x).2.2]) ∧ OwnN w' w.heap.size v' (ap s x).1 ∧ Below w.heap.size w w' := by
  have HS := Lib.hid hs
  have Hx := Lib.hid hx
  have Hfit := Lib.hid hfit
  have Hfew := Lib.hid hfew
  have HE := Lib.hid hE
  obtain ⟨R, hR⟩ : ∃ R, R = ap s x := ⟨_, rfl⟩
  have HR := Lib.hid hR
  have HREF : Hid (R.2.2 ≠ 0 → R.1 = s ∧ R.2.1 = ⟨#[]⟩) := Lib.hid (by rw [hR]; exact ap_refused s x)
  rw [← hR]
  obtain ⟨vi, vt, rfl, hri, hrt⟩ := hs
  unfold rqA
  obtain ⟨W, hW⟩ : ∃ W, W = ((w.alloc (.cells #[vi, vt] 27)).alloc (.cells #[.string x.c, .int .i64 x.q, .int .i64 x.n, .string x.k, .string x.v] 29)).alloc (.cells #[.slice none 0 0, .slice none 0 0] 27) := ⟨_, rfl⟩
  have hbW : Below w.heap.size w W := by rw [hW]; exact (((Below.refl _ _).alloc (Nat.le_refl _) _).alloc (by simp) _).alloc (by simp; omega) _
  have hWs : W.heap.size = w.heap.size + 3 := by rw [hW]; simp
  have KP : Hid (W.heap[w.heap.size]? = some (.cells #[vi, vt] 27 (0, 0))) := Lib.hid (by rw [hW, Below.heap_alloc _ _ _ (by simp; omega), Below.heap_alloc _ _ _ (by simp)]; exact heap_new _ _)
  have KQ : Hid (W.heap[w.heap.size + 1]? = some (.cells #[.string x.c, .int .i64 x.q, .int .i64 x.n, .string x.k, .string x.v] 29 (0, 0))) := Lib.hid (by rw [hW, Below.heap_alloc _ _ _ (by simp)]; simpa using heap_new (w.alloc (.cells #[vi, vt] 27)) (.cells #[.string x.c, .int .i64 x.q, .int .i64 x.n, .string x.k, .string x.v] 29))
  have KR : Hid (W.heap[w.heap.size + 1 + 1]? = some (.cells #[.slice none 0 0, .slice none 0 0] 27 (0, 0))) := Lib.hid (by rw [hW]; simpa using heap_new ((w.alloc (.cells #[vi, vt] 27)).alloc (.cells #[.string x.c, .int .i64 x.q, .int .i64 x.n, .string x.k, .string x.v] 29)) (.cells #[.slice none 0 0, .slice none 0 0] 27))
  have LP : Hid (w.heap.size < W.heap.size) := Lib.hid (by omega)
  have LQ : Hid (w.heap.size + 1 < W.heap.size) := Lib.hid (by omega)
  have LR : Hid (w.heap.size + 1 + 1 < W.heap.size) := Lib.hid (by omega)
  have HWs := Lib.hid hWs
  have BB := Lib.hid hbW
  have hc0 := impl_execute s _ x B W (HS.out.later (BB.out.mono hB) (Nat.le_refl _)) (Nat.le_trans hB BB.out.size) Hfew.out Hfit.out Hx.out
  rw [← hR] at hc0
  have HE0 : Hid (ErrType W) := Lib.hid (HE.out.on hbW)
  unfold rqA at hc0
  clear hR hri hrt hx hfit hfew hbW hE
  have fP0 := tcr KP 0
  have fP1 := tcr KP 1
  have fQ0 := tcr KQ 0
  have fQ1 := tcr KQ 1
  have fQ2 := tcr KQ 2
  have fQ3 := tcr KQ 3
  have fQ4 := tcr KQ 4
  rw [hW] at hc0 fP0 fP1 fQ0 fQ1 fQ2 fQ3 fQ4
  go_enter Tryd.func9, Tryd.ntmps9
  go_wp2_with (go_at_call 33; refine hc0.mono ?_; rintro e w1 ⟨⟨hz, v', rfl, hown⟩ | ⟨hz, rfl⟩, hb1⟩ <;> refine Hid.out ?_)
  · refine Lib.hid ?_
    rw [← hW] at hown hb1
    have S5 := Lib.hid hown
    obtain ⟨a6, m6, k6, a7, m7, k7, rfl⟩ := hown.two'
    have HZ := Lib.hid hz
    have NW : Hid (W.heap.size ≤ w1.heap.size) := Lib.hid hb1.size
    clear hown hz hc0 hW HE0
    clear fP0 fP1 fQ0 fQ1 fQ2 fQ3 fQ4
    replace KP := tkb hb1 LP KP
    replace LP := tlz LP hb1.size
    replace KQ := tkb hb1 LQ KQ
    replace LQ := tlz LQ hb1.size
    replace KR := tkb hb1 LR KR
    replace LR := tlz LR hb1.size
    replace BB := tbt BB hb1
    clear hb1
    obtain ⟨X, hX⟩ : ∃ X, X = ((w1.alloc (.cells #[.slice a6 m6 k6, .slice a7 m7 k7] 27)).alloc (.cells #[.int .i64 0] 64)) := ⟨_, rfl⟩
    have bX : Below w1.heap.size w1 X := by rw [hX]; exact ((Below.refl _ _).alloc (Nat.le_refl _) _).alloc (by simp) _
    have sX : X.heap.size = w1.heap.size + 1 + 1 := by rw [hX]; simp
    have KN : Hid (X.heap[w1.heap.size]? = some (.cells #[.slice a6 m6 k6, .slice a7 m7 k7] 27 (0, 0))) := Lib.hid (by rw [hX, Below.heap_alloc _ _ _ (by simp)]; exact heap_new _ _)
    have KE : Hid (X.heap[w1.heap.size + 1]? = some (.cells #[.int .i64 0] 64 (0, 0))) := Lib.hid (by rw [hX]; simpa using heap_new (w1.alloc (.cells #[.slice a6 m6 k6, .slice a7 m7 k7] 27)) (.cells #[.int .i64 0] 64))
    have LN : Hid (w1.heap.size < X.heap.size) := Lib.hid (by omega)
    have LE : Hid (w1.heap.size + 1 < X.heap.size) := Lib.hid (by omega)
    have L1 : Hid (w.heap.size + 1 + 1 < w1.heap.size) := LR
    replace KP := tkb bX LP KP
    replace LP := tlz LP bX.size
    replace KQ := tkb bX LQ KQ
    replace LQ := tlz LQ bX.size
    replace KR := tkb bX LR KR
    replace LR := tlz LR bX.size
    replace BB := tbt BB bX
    replace S5 := Lib.hid (S5.out.later bX)
    clear bX sX
    have HX := Lib.hid hX
    clear hX
    go_wp2_with (go_at_call 34; rw [← HX.out]; refine (as_nil _ _).mono ?_; rintro e wy ⟨rfl, hwy⟩; obtain rfl := hwy.symm; refine Hid.out ?_)
    refine Lib.hid ?_
    clear HX
    have fR0 := tcr KR 0
    have fR1 := tcr KR 1
    have zR0 := tfr KR 0
    have zR1 := tfr KR 1
    have fN0 := tcr KN 0
    have fN1 := tcr KN 1
    go_wp2_with fail
    clear fR0 fR1 fN0 fN1
    clear zR0 zR1
    have hWs := HWs.out
    have hb : w.heap.size + 1 + 1 < W.heap.size := by omega
    have hb2 : w.heap.size ≤ W.heap.size := by omega
    have f1 := heap_setCell_same _ (w.heap.size + 1 + 1) 0 _ _ (.slice a6 m6 k6) KR.out
    have f2 := heap_setCell_same _ (w.heap.size + 1 + 1) 1 _ _ (.slice a7 m7 k7) f1
    obtain ⟨j0, q1, q2, q3, q4⟩ := info_parts infoSt
    refine bodyPost_ret (results_cell_row3 (P := Tryd.prog) rfl _ _ (w.heap.size + 1 + 1) _ _ (0, 0) _ _ _ rfl rfl rfl f2 Tryd.underlying27 rfl (by rw [q1]; simp [q3])) rfl ?_
    refine ⟨.agg #[.slice a6 m6 k6, .slice a7 m7 k7], by rw [HZ.out]; rfl, ((S5.out.kept (grown_set _ ⟨w.heap.size + 1 + 1, 0, none⟩ _) hb).kept (grown_set _ ⟨w.heap.size + 1 + 1, 1, none⟩ _) hb).base hb2, (BB.out.setCell (p := ⟨w.heap.size + 1 + 1, 0, none⟩) (by simp; omega) _).setCell (p := ⟨w.heap.size + 1 + 1, 1, none⟩) (by simp; omega) _⟩
  · refine Lib.hid ?_
    rw [← hW] at hb1
    have HZ := Lib.hid hz
    have HE1 : Hid (ErrType w1) := Lib.hid (HE0.out.on hb1)
    clear hz hc0 hW HE0
    clear fP0 fP1 fQ0 fQ1 fQ2 fQ3 fQ4
    replace KP := tkb hb1 LP KP
    replace LP := tlz LP hb1.size
    replace KQ := tkb hb1 LQ KQ
    replace LQ := tlz LQ hb1.size
    replace KR := tkb hb1 LR KR
    replace LR := tlz LR hb1.size
    replace BB := tbt BB hb1
    clear hb1
    obtain ⟨X, hX⟩ : ∃ X, X = ((w1.alloc (.cells #[.slice none 0 0, .slice none 0 0] 27)).alloc (.cells #[.int .i64 0] 64)) := ⟨_, rfl⟩
    have bX : Below w1.heap.size w1 X := by rw [hX]; exact ((Below.refl _ _).alloc (Nat.le_refl _) _).alloc (by simp) _
    have sX : X.heap.size = w1.heap.size + 1 + 1 := by rw [hX]; simp
    have KN : Hid (X.heap[w1.heap.size]? = some (.cells #[.slice none 0 0, .slice none 0 0] 27 (0, 0))) := Lib.hid (by rw [hX, Below.heap_alloc _ _ _ (by simp)]; exact heap_new _ _)
    have KE : Hid (X.heap[w1.heap.size + 1]? = some (.cells #[.int .i64 0] 64 (0, 0))) := Lib.hid (by rw [hX]; simpa using heap_new (w1.alloc (.cells #[.slice none 0 0, .slice none 0 0] 27)) (.cells #[.int .i64 0] 64))
    have LN : Hid (w1.heap.size < X.heap.size) := Lib.hid (by omega)
    have LE : Hid (w1.heap.size + 1 < X.heap.size) := Lib.hid (by omega)
    have L1 : Hid (w.heap.size + 1 + 1 < w1.heap.size) := LR
    replace KP := tkb bX LP KP
    replace LP := tlz LP bX.size
    replace KQ := tkb bX LQ KQ
    replace LQ := tlz LQ bX.size
    replace KR := tkb bX LR KR
    replace LR := tlz LR bX.size
    replace BB := tbt BB bX
    have hc := as_hit R.2.2 (w1.heap.size + 1) X (HE1.out.on bX) KE.out
    clear sX HE1
    have HX := Lib.hid hX
    clear hX
    go_wp2_with (go_at_call 34; rw [← HX.out]; refine hc.mono ?_; rintro e wy ⟨rfl, hke, hg⟩; refine Hid.out ?_)
    refine Lib.hid ?_
    clear HX hc
    have KE2 := Lib.hid hke
    clear KE
    have by_ : Below w1.heap.size X wy := (Below.refl _ _).grown hg (Nat.le_of_lt LN.out) (fun k hk => by cases hk; exact Nat.le_succ _)
    have KP0 := Lib.hid ((hg.block _ LP.out (fun e => by have := L1.out; simp only [Option.some.injEq] at e; omega)).trans KP.out)
    have KR0 := Lib.hid ((hg.block _ LR.out (fun e => by have := L1.out; simp only [Option.some.injEq] at e; omega)).trans KR.out)
    have BB0 := Lib.hid (BB.out.grown hg BB.out.size (fun k hk => by cases hk; have := L1.out; omega))
    have LP0 := Lib.hid (Nat.lt_of_lt_of_le LP.out hg.size)
    have LR0 := Lib.hid (Nat.lt_of_lt_of_le LR.out hg.size)
    have LE0 := Lib.hid (Nat.lt_of_lt_of_le LE.out hg.size)
    clear KP KQ KR BB LP LQ LR LE KN LN by_ hke bX
    have KP := KP0
    have KR := KR0
    have BB := BB0
    have LP := LP0
    have LR := LR0
    have KE := KE2
    have LE := LE0
    clear KP0 KR0 BB0 LP0 LR0 KE2 LE0 hg
    go_wp2_with fail
    have HSS : Hid (∀ w' : World, w'.heap[w.heap.size]? = some (.cells #[vi, vt] 27 (0, 0)) → w'.heap[w1.heap.size + 1]? = some (.cells #[.int .i64 R.2.2] 64 (0, 0)) → (w'.cell? ⟨w.heap.size, 0, none⟩ = some (vi) ∧ w'.cell? ⟨w.heap.size, 1, none⟩ = some (vt)) ∧ (w'.cell? ⟨w1.heap.size + 1, 0, none⟩ = some (.int .i64 R.2.2))) := Lib.hid (fun w' k0 k1 => ⟨⟨by simpa using cell_of_row w' _ 0 _ _ _ k0, by simpa using cell_of_row w' _ 1 _ _ _ k0⟩, by simpa using cell_of_row w' _ 0 _ _ _ k1⟩)
    refine wp_region_held_drew (S := (fun w' => (w'.cell? ⟨w.heap.size, 0, none⟩ = some (vi) ∧ w'.cell? ⟨w.heap.size, 1, none⟩ = some (vt)) ∧ (w'.cell? ⟨w1.heap.size + 1, 0, none⟩ = some (.int .i64 R.2.2)))) (by kernel_rfl) (HSS.out _ KP.out KE.out) (fun hHeld => ?_)
    refine tk 0 (v := ?_) ?_ ?_; rotate_left
    · refine Or.inl ⟨by rfl, ?_⟩; intro w hSw; obtain ⟨⟨gP0, gP1⟩, gE0⟩ := hSw; go_simp; first | done | with_reducible rfl
    refine tk 2 (v := ?_) ?_ ?_; rotate_left
    · refine Or.inl ⟨by rfl, ?_⟩; intro w hSw; obtain ⟨⟨gP0, gP1⟩, gE0⟩ := hSw; go_simp; first | done | with_reducible rfl
    refine tk 3 (v := ?_) ?_ ?_; rotate_left
    · refine Or.inl ⟨by rfl, ?_⟩; intro w hSw; obtain ⟨⟨gP0, gP1⟩, gE0⟩ := hSw; go_simp; first | done | with_reducible rfl
    obtain ⟨wd, hwd⟩ : ∃ z, z = wy.drew := ⟨_, rfl⟩
    try rw [← hwd]
    have bwd : Below wy.heap.size wy wd := by rw [hwd]; exact (Below.refl wy.heap.size wy).drew
    clear hwd hHeld
    replace KP := tkb bwd LP KP
    replace LP := tlz LP bwd.size
    replace KR := tkb bwd LR KR
    replace LR := tlz LR bwd.size
    replace KE := tkb bwd LE KE
    replace LE := tlz LE bwd.size
    replace BB := tbt BB bwd
    clear bwd
    have hc := impl_copy s _ B wd (HS.out.rd.later (BB.out.mono hB) (Nat.le_refl _)) (Nat.le_trans hB BB.out.size) Hfew.out
    have NK : Hid (w.heap.size + 1 + 1 < wd.heap.size) := LR
    refine rd1 1 (fun K hK => ?_)
    go_simp
    go_at_call 35
    refine hc.mono ?_
    rintro e wk ⟨v1, rfl, ho, hbk⟩
    have S1 := Lib.hid ho
    obtain ⟨a6, m6, k6, a7, m7, k7, rfl⟩ := ho.two'
    replace KP := tkb hbk LP KP
    replace LP := tlz LP hbk.size
    replace KR := tkb hbk LR KR
    replace LR := tlz LR hbk.size
    replace KE := tkb hbk LE KE
    replace LE := tlz LE hbk.size
    replace BB := tbt BB hbk
    clear ho hbk hc
    go_wp2_with fail
    refine hK.out _ _ (HSS.out _ KP.out KE.out) (fun hHeld => ?_)
    clear hK K
    try simp only [getElem_toArray, getElem_cons_zero, getElem_cons_succ, Act.put, setIfInBounds_toArray, set_cons_zero, set_cons_succ]
    refine rd1 4 (fun K hK => ?_)
    have fR0 := tcr KR 0
    have fR1 := tcr KR 1
    have zR0 := tfr KR 0
    have zR1 := tfr KR 1
    go_simp
    obtain ⟨Y, hY⟩ : ∃ Y, Y = (wk.setCell ⟨w.heap.size + 1 + 1, 0, none⟩ (.slice a6 m6 k6)).setCell ⟨w.heap.size + 1 + 1, 1, none⟩ (.slice a7 m7 k7) := ⟨_, rfl⟩
    rw [← hY]
    have gY : wk.grownBy Y (some (w.heap.size + 1 + 1)) := by rw [hY]; exact (grown_set wk ⟨w.heap.size + 1 + 1, 0, none⟩ _).trans (grown_set _ ⟨w.heap.size + 1 + 1, 1, none⟩ _)
    clear fR0 fR1
    clear zR0 zR1
    have k0 := (gY.block _ LP.out (fun e => by simp only [Option.some.injEq] at e; omega)).trans KP.out
    have k1 := (gY.block _ LE.out (fun e => by have := L1.out; simp only [Option.some.injEq] at e; omega)).trans KE.out
    refine hK.out _ _ (HSS.out _ k0 k1) (fun hHeld => ?_)
    clear hK K k0 k1
    try simp only [getElem_toArray, getElem_cons_zero, getElem_cons_succ, Act.put, setIfInBounds_toArray, set_cons_zero, set_cons_succ]
    refine tk0 5 ?_
    refine tk0 6 ?_
    refine wpAnyH_done (by kernel_rfl) ?_ _
    clear hHeld gY
    go_wp2_with fail
    try rw [hY]
    have hb : w.heap.size + 1 + 1 < wd.heap.size := NK.out
    have hb2 : w.heap.size ≤ wd.heap.size := by omega
    obtain ⟨e1, e2⟩ := HREF.out HZ.out
    have f1 := heap_setCell_same _ (w.heap.size + 1 + 1) 0 _ _ (.slice a6 m6 k6) KR.out
    have f2 := heap_setCell_same _ (w.heap.size + 1 + 1) 1 _ _ (.slice a7 m7 k7) f1
    obtain ⟨j0, q1, q2, q3, q4⟩ := info_parts infoSt
    refine bodyPost_ret (results_cell_row3 (P := Tryd.prog) rfl _ _ (w.heap.size + 1 + 1) _ _ (0, 0) _ _ _ rfl rfl rfl f2 Tryd.underlying27 rfl (by rw [q1]; simp [q3])) rfl ?_
    refine ⟨.agg #[.slice a6 m6 k6, .slice a7 m7 k7], by rw [e2]; rfl, by rw [e1]; exact ((S1.out.kept (grown_set _ ⟨w.heap.size + 1 + 1, 0, none⟩ _) hb).kept (grown_set _ ⟨w.heap.size + 1 + 1, 1, none⟩ _) hb).base hb2, (BB.out.setCell (p := ⟨w.heap.size + 1 + 1, 0, none⟩) (by simp; omega) _).setCell (p := ⟨w.heap.size + 1 + 1, 1, none⟩) (by simp; omega) _⟩
end Go.Proofs.YtebmaplflpfjbaaDoor
