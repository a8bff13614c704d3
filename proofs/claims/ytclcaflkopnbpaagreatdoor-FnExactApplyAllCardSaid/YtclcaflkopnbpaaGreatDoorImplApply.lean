/- What the program's Apply answers: 'ap'. Condition: a state and an operation that can be read, not too great; the variable errors.errorType holds the handle of the type error. -/
import Derived.Test.YtclcaflkopnbpaaGreatDoorBaseA
import Derived.Test.YtclcaflkopnbpaaGreatDoorImplExec
import Derived.Test.YtclcaflkopnbpaaGreatDoorAs
namespace Go.Proofs.YtclcaflkopnbpaaGreatDoor
open Go.RowKit List
set_option linter.unusedVariables false
set_option linter.unusedSimpArgs false

theorem ErrType.on {w w' : World} (h : ErrType w) (hb : Below w.heap.size w w') : ErrType w' := by
  unfold ErrType at *
  rw [hb.cell (p := ⟨0, 0, none⟩) ?_]
  · exact h
  · rcases Nat.lt_or_ge 0 w.heap.size with h' | h'
    · exact h'
    · simp [World.cell?, Array.getElem?_eq_none h'] at h
theorem ap_refused (s : St) (x : Rq) (h : (ap s x).2.2 ≠ 0) : (ap s x).1 = s ∧ (ap s x).2.1 = ⟨#[]⟩ := by
  unfold ap at *
  split
  · exact ⟨rfl, rfl⟩
  · split
    · exact ⟨rfl, rfl⟩
    · split
      · split
        · simp_all
        · exact ⟨rfl, rfl⟩
      · split
        · exact ⟨rfl, rfl⟩
        · split
          · exact ⟨rfl, rfl⟩
          · simp_all
set_option maxRecDepth 100000 in
set_option maxHeartbeats 8000000 in
theorem impl_apply (s : St) (v : Value) (x : Rq) (B : Nat) (w : World) (hs : StV w B v s) (hB : B ≤ w.heap.size) (hfew : Few s) (hfit : Fits s) (hx : FitRq x) (hE : ErrType w) :
    Calls Tryz.prog 17 #[v, rqA x] w fun e w' => ∃ v', e = .returned (.tuple #[v', .string (ap s x).2.1, .int .i64 (ap s x).2.2]) ∧ OwnN w' w.heap.size v' (ap s x).1 ∧ Below w.heap.size w w' := by
  have HS := Lib.hid hs
  have Hx := Lib.hid hx
  have Hfit := Lib.hid hfit
  have Hfew := Lib.hid hfew
  have HE := Lib.hid hE
  obtain ⟨R, hR⟩ : ∃ R, R = ap s x := ⟨_, rfl⟩
  have HR := Lib.hid hR
  have HREF : Hid (R.2.2 ≠ 0 → R.1 = s ∧ R.2.1 = ⟨#[]⟩) := Lib.hid (by rw [hR]; exact ap_refused s x)
  rw [← hR]
  obtain ⟨vi, vt, rfl, hri, hrt⟩ := hs
  unfold rqA
  obtain ⟨W, hW⟩ : ∃ W, W = ((w.alloc (.cells #[vi, vt] 27)).alloc (.cells #[.string x.c, .int .i64 x.q, .int .i64 x.n, .string x.k, .string x.v] 47)).alloc (.cells #[.slice none 0 0, .slice none 0 0] 27) := ⟨_, rfl⟩
  have hbW : Below w.heap.size w W := by rw [hW]; exact (((Below.refl _ _).alloc (Nat.le_refl _) _).alloc (by simp) _).alloc (by simp; omega) _
  have hWs : W.heap.size = w.heap.size + 3 := by rw [hW]; simp
  have KP : Hid (W.heap[w.heap.size]? = some (.cells #[vi, vt] 27 (0, 0))) := Lib.hid (by rw [hW, Below.heap_alloc _ _ _ (by simp; omega), Below.heap_alloc _ _ _ (by simp)]; exact heap_new _ _)
  have KQ : Hid (W.heap[w.heap.size + 1]? = some (.cells #[.string x.c, .int .i64 x.q, .int .i64 x.n, .string x.k, .string x.v] 47 (0, 0))) := Lib.hid (by rw [hW, Below.heap_alloc _ _ _ (by simp)]; simpa using heap_new (w.alloc (.cells #[vi, vt] 27)) (.cells #[.string x.c, .int .i64 x.q, .int .i64 x.n, .string x.k, .string x.v] 47))
  have KR : Hid (W.heap[w.heap.size + 1 + 1]? = some (.cells #[.slice none 0 0, .slice none 0 0] 27 (0, 0))) := Lib.hid (by rw [hW]; simpa using heap_new ((w.alloc (.cells #[vi, vt] 27)).alloc (.cells #[.string x.c, .int .i64 x.q, .int .i64 x.n, .string x.k, .string x.v] 47)) (.cells #[.slice none 0 0, .slice none 0 0] 27))
  have LP : Hid (w.heap.size < W.heap.size) := Lib.hid (by omega)
  have LQ : Hid (w.heap.size + 1 < W.heap.size) := Lib.hid (by omega)
  have LR : Hid (w.heap.size + 1 + 1 < W.heap.size) := Lib.hid (by omega)
  have HWs := Lib.hid hWs
  have BB := Lib.hid hbW
  have hc0 := impl_execute s _ x B W (HS.out.later (BB.out.mono hB) (Nat.le_refl _)) (Nat.le_trans hB BB.out.size) Hfew.out Hfit.out Hx.out
  rw [← hR] at hc0
  have HE0 : Hid (ErrType W) := Lib.hid (HE.out.on hbW)
  unfold rqA at hc0
  clear hR hri hrt hx hfit hfew hbW hE
  have fP0 := cell_of_row W _ 0 _ _ _ KP.out
  have fP1 := cell_of_row W _ 1 _ _ _ KP.out
  simp only [List.getElem?_toArray, List.getElem?_cons_zero, List.getElem?_cons_succ] at fP0 fP1
  have fQ0 := cell_of_row W _ 0 _ _ _ KQ.out
  have fQ1 := cell_of_row W _ 1 _ _ _ KQ.out
  have fQ2 := cell_of_row W _ 2 _ _ _ KQ.out
  have fQ3 := cell_of_row W _ 3 _ _ _ KQ.out
  have fQ4 := cell_of_row W _ 4 _ _ _ KQ.out
  simp only [List.getElem?_toArray, List.getElem?_cons_zero, List.getElem?_cons_succ] at fQ0 fQ1 fQ2 fQ3 fQ4
  rw [hW] at hc0 fP0 fP1 fQ0 fQ1 fQ2 fQ3 fQ4
  go_enter Tryz.func17, Tryz.ntmps17
  go_wp2_with (go_at_call 45; refine hc0.mono ?_; rintro e w1 ⟨⟨hz, v', rfl, hown⟩ | ⟨hz, rfl⟩, hb1⟩ <;> refine Hid.out ?_)
  · refine Lib.hid ?_
    rw [← hW] at hown hb1
    have S5 := Lib.hid hown
    obtain ⟨a6, m6, k6, a7, m7, k7, rfl⟩ := hown.two'
    have HZ := Lib.hid hz
    have NW : Hid (W.heap.size ≤ w1.heap.size) := Lib.hid hb1.size
    clear hown hz hc0 hW HE0
    clear fP0 fP1 fQ0 fQ1 fQ2 fQ3 fQ4
    replace KP := Lib.hid ((hb1.block _ LP.out).trans KP.out)
    replace LP := Lib.hid (Nat.lt_of_lt_of_le LP.out hb1.size)
    replace KQ := Lib.hid ((hb1.block _ LQ.out).trans KQ.out)
    replace LQ := Lib.hid (Nat.lt_of_lt_of_le LQ.out hb1.size)
    replace KR := Lib.hid ((hb1.block _ LR.out).trans KR.out)
    replace LR := Lib.hid (Nat.lt_of_lt_of_le LR.out hb1.size)
    replace BB := Lib.hid (BB.out.trans (hb1.mono BB.out.size))
    clear hb1
    obtain ⟨X, hX⟩ : ∃ X, X = ((w1.alloc (.cells #[.slice a6 m6 k6, .slice a7 m7 k7] 27)).alloc (.cells #[.int .i64 0] 84)) := ⟨_, rfl⟩
    have bX : Below w1.heap.size w1 X := by rw [hX]; exact ((Below.refl _ _).alloc (Nat.le_refl _) _).alloc (by simp) _
    have sX : X.heap.size = w1.heap.size + 1 + 1 := by rw [hX]; simp
    have KN : Hid (X.heap[w1.heap.size]? = some (.cells #[.slice a6 m6 k6, .slice a7 m7 k7] 27 (0, 0))) := Lib.hid (by rw [hX, Below.heap_alloc _ _ _ (by simp)]; exact heap_new _ _)
    have KE : Hid (X.heap[w1.heap.size + 1]? = some (.cells #[.int .i64 0] 84 (0, 0))) := Lib.hid (by rw [hX]; simpa using heap_new (w1.alloc (.cells #[.slice a6 m6 k6, .slice a7 m7 k7] 27)) (.cells #[.int .i64 0] 84))
    have LN : Hid (w1.heap.size < X.heap.size) := Lib.hid (by omega)
    have LE : Hid (w1.heap.size + 1 < X.heap.size) := Lib.hid (by omega)
    have L1 : Hid (w.heap.size + 1 + 1 < w1.heap.size) := LR
    replace KP := Lib.hid ((bX.block _ LP.out).trans KP.out)
    replace LP := Lib.hid (Nat.lt_of_lt_of_le LP.out bX.size)
    replace KQ := Lib.hid ((bX.block _ LQ.out).trans KQ.out)
    replace LQ := Lib.hid (Nat.lt_of_lt_of_le LQ.out bX.size)
    replace KR := Lib.hid ((bX.block _ LR.out).trans KR.out)
    replace LR := Lib.hid (Nat.lt_of_lt_of_le LR.out bX.size)
    replace BB := Lib.hid (BB.out.trans (bX.mono BB.out.size))
    replace S5 := Lib.hid (S5.out.later bX)
    clear bX sX
    have HX := Lib.hid hX
    clear hX
    go_wp2_with (go_at_call 46; rw [← HX.out]; refine (as_nil _ _).mono ?_; rintro e wy ⟨rfl, hwy⟩; obtain rfl := hwy.symm; refine Hid.out ?_)
    refine Lib.hid ?_
    clear HX
    have fR0 := cell_of_row X _ 0 _ _ _ KR.out
    have fR1 := cell_of_row X _ 1 _ _ _ KR.out
    simp only [List.getElem?_toArray, List.getElem?_cons_zero, List.getElem?_cons_succ] at fR0 fR1
    have zR0 := frozen_of_row X _ 0 _ _ KR.out
    have zR1 := frozen_of_row X _ 1 _ _ KR.out
    have fN0 := cell_of_row X _ 0 _ _ _ KN.out
    have fN1 := cell_of_row X _ 1 _ _ _ KN.out
    simp only [List.getElem?_toArray, List.getElem?_cons_zero, List.getElem?_cons_succ] at fN0 fN1
    go_wp2_with fail
    clear fR0 fR1 fN0 fN1
    clear zR0 zR1
    have hWs := HWs.out
    have hb : w.heap.size + 1 + 1 < W.heap.size := by omega
    have hb2 : w.heap.size ≤ W.heap.size := by omega
    have f1 := heap_setCell_same _ (w.heap.size + 1 + 1) 0 _ _ (.slice a6 m6 k6) KR.out
    have f2 := heap_setCell_same _ (w.heap.size + 1 + 1) 1 _ _ (.slice a7 m7 k7) f1
    obtain ⟨j0, q1, q2, q3, q4⟩ := info_parts infoSt
    refine bodyPost_ret (results_cell_row3 (P := Tryz.prog) rfl _ _ (w.heap.size + 1 + 1) _ _ (0, 0) _ _ _ rfl rfl rfl f2 Tryz.underlying27 rfl (by rw [q1]; simp [q3])) rfl ?_
    refine ⟨.agg #[.slice a6 m6 k6, .slice a7 m7 k7], by rw [HZ.out]; rfl, ((S5.out.kept (grown_set _ ⟨w.heap.size + 1 + 1, 0, none⟩ _) hb).kept (grown_set _ ⟨w.heap.size + 1 + 1, 1, none⟩ _) hb).base hb2, (BB.out.setCell (p := ⟨w.heap.size + 1 + 1, 0, none⟩) (by simp; omega) _).setCell (p := ⟨w.heap.size + 1 + 1, 1, none⟩) (by simp; omega) _⟩
  · refine Lib.hid ?_
    rw [← hW] at hb1
    have HZ := Lib.hid hz
    have HE1 : Hid (ErrType w1) := Lib.hid (HE0.out.on hb1)
    clear hz hc0 hW HE0
    clear fP0 fP1 fQ0 fQ1 fQ2 fQ3 fQ4
    replace KP := Lib.hid ((hb1.block _ LP.out).trans KP.out)
    replace LP := Lib.hid (Nat.lt_of_lt_of_le LP.out hb1.size)
    replace KQ := Lib.hid ((hb1.block _ LQ.out).trans KQ.out)
    replace LQ := Lib.hid (Nat.lt_of_lt_of_le LQ.out hb1.size)
    replace KR := Lib.hid ((hb1.block _ LR.out).trans KR.out)
    replace LR := Lib.hid (Nat.lt_of_lt_of_le LR.out hb1.size)
    replace BB := Lib.hid (BB.out.trans (hb1.mono BB.out.size))
    clear hb1
    obtain ⟨X, hX⟩ : ∃ X, X = ((w1.alloc (.cells #[.slice none 0 0, .slice none 0 0] 27)).alloc (.cells #[.int .i64 0] 84)) := ⟨_, rfl⟩
    have bX : Below w1.heap.size w1 X := by rw [hX]; exact ((Below.refl _ _).alloc (Nat.le_refl _) _).alloc (by simp) _
    have sX : X.heap.size = w1.heap.size + 1 + 1 := by rw [hX]; simp
    have KN : Hid (X.heap[w1.heap.size]? = some (.cells #[.slice none 0 0, .slice none 0 0] 27 (0, 0))) := Lib.hid (by rw [hX, Below.heap_alloc _ _ _ (by simp)]; exact heap_new _ _)
    have KE : Hid (X.heap[w1.heap.size + 1]? = some (.cells #[.int .i64 0] 84 (0, 0))) := Lib.hid (by rw [hX]; simpa using heap_new (w1.alloc (.cells #[.slice none 0 0, .slice none 0 0] 27)) (.cells #[.int .i64 0] 84))
    have LN : Hid (w1.heap.size < X.heap.size) := Lib.hid (by omega)
    have LE : Hid (w1.heap.size + 1 < X.heap.size) := Lib.hid (by omega)
    have L1 : Hid (w.heap.size + 1 + 1 < w1.heap.size) := LR
    replace KP := Lib.hid ((bX.block _ LP.out).trans KP.out)
    replace LP := Lib.hid (Nat.lt_of_lt_of_le LP.out bX.size)
    replace KQ := Lib.hid ((bX.block _ LQ.out).trans KQ.out)
    replace LQ := Lib.hid (Nat.lt_of_lt_of_le LQ.out bX.size)
    replace KR := Lib.hid ((bX.block _ LR.out).trans KR.out)
    replace LR := Lib.hid (Nat.lt_of_lt_of_le LR.out bX.size)
    replace BB := Lib.hid (BB.out.trans (bX.mono BB.out.size))
    have hc := as_hit R.2.2 (w1.heap.size + 1) X (HE1.out.on bX) KE.out
    clear sX HE1
    have HX := Lib.hid hX
    clear hX
    go_wp2_with (go_at_call 46; rw [← HX.out]; refine hc.mono ?_; rintro e wy ⟨rfl, hke, hg⟩; refine Hid.out ?_)
    refine Lib.hid ?_
    clear HX hc
    have KE2 := Lib.hid hke
    clear KE
    have by_ : Below w1.heap.size X wy := (Below.refl _ _).grown hg (Nat.le_of_lt LN.out) (fun k hk => by cases hk; exact Nat.le_succ _)
    have KP0 := Lib.hid ((hg.block _ LP.out (fun e => by have := L1.out; simp only [Option.some.injEq] at e; omega)).trans KP.out)
    have KR0 := Lib.hid ((hg.block _ LR.out (fun e => by have := L1.out; simp only [Option.some.injEq] at e; omega)).trans KR.out)
    have BB0 := Lib.hid (BB.out.grown hg BB.out.size (fun k hk => by cases hk; have := L1.out; omega))
    have LP0 := Lib.hid (Nat.lt_of_lt_of_le LP.out hg.size)
    have LR0 := Lib.hid (Nat.lt_of_lt_of_le LR.out hg.size)
    have LE0 := Lib.hid (Nat.lt_of_lt_of_le LE.out hg.size)
    clear KP KQ KR BB LP LQ LR LE KN LN by_ hke bX
    have KP := KP0
    have KR := KR0
    have BB := BB0
    have LP := LP0
    have LR := LR0
    have KE := KE2
    have LE := LE0
    clear KP0 KR0 BB0 LP0 LR0 KE2 LE0 hg
    go_wp2_with fail
    have HSS : Hid (∀ w' : World, w'.heap[w.heap.size]? = some (.cells #[vi, vt] 27 (0, 0)) → w'.heap[w1.heap.size + 1]? = some (.cells #[.int .i64 R.2.2] 84 (0, 0)) → (w'.cell? ⟨w.heap.size, 0, none⟩ = some (vi) ∧ w'.cell? ⟨w.heap.size, 1, none⟩ = some (vt)) ∧ (w'.cell? ⟨w1.heap.size + 1, 0, none⟩ = some (.int .i64 R.2.2))) := Lib.hid (fun w' k0 k1 => ⟨⟨by simpa using cell_of_row w' _ 0 _ _ _ k0, by simpa using cell_of_row w' _ 1 _ _ _ k0⟩, by simpa using cell_of_row w' _ 0 _ _ _ k1⟩)
    refine wp_region_held_drew (S := (fun w' => (w'.cell? ⟨w.heap.size, 0, none⟩ = some (vi) ∧ w'.cell? ⟨w.heap.size, 1, none⟩ = some (vt)) ∧ (w'.cell? ⟨w1.heap.size + 1, 0, none⟩ = some (.int .i64 R.2.2)))) (by kernel_rfl) (HSS.out _ KP.out KE.out) (fun hHeld => ?_)
    refine tk 0 (v := ?_) ?_ ?_; rotate_left
    · refine Or.inl ⟨by rfl, ?_⟩; intro w hSw; obtain ⟨⟨gP0, gP1⟩, gE0⟩ := hSw; go_simp; first | done | with_reducible rfl
    refine tk 2 (v := ?_) ?_ ?_; rotate_left
    · refine Or.inl ⟨by rfl, ?_⟩; intro w hSw; obtain ⟨⟨gP0, gP1⟩, gE0⟩ := hSw; go_simp; first | done | with_reducible rfl
    refine tk 3 (v := ?_) ?_ ?_; rotate_left
    · refine Or.inl ⟨by rfl, ?_⟩; intro w hSw; obtain ⟨⟨gP0, gP1⟩, gE0⟩ := hSw; go_simp; first | done | with_reducible rfl
    obtain ⟨wd, hwd⟩ : ∃ z, z = wy.drew := ⟨_, rfl⟩
    try rw [← hwd]
    have bwd : Below wy.heap.size wy wd := by rw [hwd]; exact (Below.refl wy.heap.size wy).drew
    clear hwd hHeld
    replace KP := Lib.hid ((bwd.block _ LP.out).trans KP.out)
    replace LP := Lib.hid (Nat.lt_of_lt_of_le LP.out bwd.size)
    replace KR := Lib.hid ((bwd.block _ LR.out).trans KR.out)
    replace LR := Lib.hid (Nat.lt_of_lt_of_le LR.out bwd.size)
    replace KE := Lib.hid ((bwd.block _ LE.out).trans KE.out)
    replace LE := Lib.hid (Nat.lt_of_lt_of_le LE.out bwd.size)
    replace BB := Lib.hid (BB.out.trans (bwd.mono BB.out.size))
    clear bwd
    have hc := impl_copy s _ B wd (HS.out.rd.later (BB.out.mono hB) (Nat.le_refl _)) (Nat.le_trans hB BB.out.size) Hfew.out
    have NK : Hid (w.heap.size + 1 + 1 < wd.heap.size) := LR
    refine wpAnyH_ready (rs := [1]) (by kernel_rfl) (by simp) ?_
    refine AllReadyH.cons rfl (fun K hK => ?_) (AllReadyH.nil)
    go_simp
    go_at_call 32
    refine hc.mono ?_
    rintro e wk ⟨v1, rfl, ho, hbk⟩
    have S1 := Lib.hid ho
    obtain ⟨a6, m6, k6, a7, m7, k7, rfl⟩ := ho.two'
    replace KP := Lib.hid ((hbk.block _ LP.out).trans KP.out)
    replace LP := Lib.hid (Nat.lt_of_lt_of_le LP.out hbk.size)
    replace KR := Lib.hid ((hbk.block _ LR.out).trans KR.out)
    replace LR := Lib.hid (Nat.lt_of_lt_of_le LR.out hbk.size)
    replace KE := Lib.hid ((hbk.block _ LE.out).trans KE.out)
    replace LE := Lib.hid (Nat.lt_of_lt_of_le LE.out hbk.size)
    replace BB := Lib.hid (BB.out.trans (hbk.mono BB.out.size))
    clear ho hbk hc
    go_wp2_with fail
    refine hK.out _ _ (HSS.out _ KP.out KE.out) (fun hHeld => ?_)
    clear hK K
    try simp only [getElem_toArray, getElem_cons_zero, getElem_cons_succ, Act.put, setIfInBounds_toArray, set_cons_zero, set_cons_succ]
    refine wpAnyH_ready (rs := [4]) (by kernel_rfl) (by simp) ?_
    refine AllReadyH.cons rfl (fun K hK => ?_) (AllReadyH.nil)
    have fR0 := cell_of_row wk _ 0 _ _ _ KR.out
    have fR1 := cell_of_row wk _ 1 _ _ _ KR.out
    simp only [List.getElem?_toArray, List.getElem?_cons_zero, List.getElem?_cons_succ] at fR0 fR1
    have zR0 := frozen_of_row wk _ 0 _ _ KR.out
    have zR1 := frozen_of_row wk _ 1 _ _ KR.out
    go_simp
    obtain ⟨Y, hY⟩ : ∃ Y, Y = (wk.setCell ⟨w.heap.size + 1 + 1, 0, none⟩ (.slice a6 m6 k6)).setCell ⟨w.heap.size + 1 + 1, 1, none⟩ (.slice a7 m7 k7) := ⟨_, rfl⟩
    rw [← hY]
    have gY : wk.grownBy Y (some (w.heap.size + 1 + 1)) := by rw [hY]; exact (grown_set wk ⟨w.heap.size + 1 + 1, 0, none⟩ _).trans (grown_set _ ⟨w.heap.size + 1 + 1, 1, none⟩ _)
    clear fR0 fR1
    clear zR0 zR1
    have k0 := (gY.block _ LP.out (fun e => by simp only [Option.some.injEq] at e; omega)).trans KP.out
    have k1 := (gY.block _ LE.out (fun e => by have := L1.out; simp only [Option.some.injEq] at e; omega)).trans KE.out
    refine hK.out _ _ (HSS.out _ k0 k1) (fun hHeld => ?_)
    clear hK K k0 k1
    try simp only [getElem_toArray, getElem_cons_zero, getElem_cons_succ, Act.put, setIfInBounds_toArray, set_cons_zero, set_cons_succ]
    refine tk0 5 ?_
    refine tk0 6 ?_
    refine wpAnyH_done (by kernel_rfl) ?_ _
    clear hHeld gY
    go_wp2_with fail
    try rw [hY]
    have hb : w.heap.size + 1 + 1 < wd.heap.size := NK.out
    have hb2 : w.heap.size ≤ wd.heap.size := by omega
    obtain ⟨e1, e2⟩ := HREF.out HZ.out
    have f1 := heap_setCell_same _ (w.heap.size + 1 + 1) 0 _ _ (.slice a6 m6 k6) KR.out
    have f2 := heap_setCell_same _ (w.heap.size + 1 + 1) 1 _ _ (.slice a7 m7 k7) f1
    obtain ⟨j0, q1, q2, q3, q4⟩ := info_parts infoSt
    refine bodyPost_ret (results_cell_row3 (P := Tryz.prog) rfl _ _ (w.heap.size + 1 + 1) _ _ (0, 0) _ _ _ rfl rfl rfl f2 Tryz.underlying27 rfl (by rw [q1]; simp [q3])) rfl ?_
    refine ⟨.agg #[.slice a6 m6 k6, .slice a7 m7 k7], by rw [e2]; rfl, by rw [e1]; exact ((S1.out.kept (grown_set _ ⟨w.heap.size + 1 + 1, 0, none⟩ _) hb).kept (grown_set _ ⟨w.heap.size + 1 + 1, 1, none⟩ _) hb).base hb2, (BB.out.setCell (p := ⟨w.heap.size + 1 + 1, 0, none⟩) (by simp; omega) _).setCell (p := ⟨w.heap.size + 1 + 1, 1, none⟩) (by simp; omega) _⟩
end Go.Proofs.YtclcaflkopnbpaaGreatDoor
