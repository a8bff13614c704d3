/- What the program's perform answers: 'ap', for an operation that is new to a right state. Condition: such a state and operation. -/
import Derived.Test.YtclcaflkopnbpaaGreatDoorBaseA
import Derived.Test.YtclcaflkopnbpaaGreatDoorImplStep
import Derived.Deep.CutBlock
import Derived.Deep.DeepCutAuto
import Derived.Test.YtclcaflkopnbpaaGreatDoorImplPutTalk
namespace Go.Proofs.YtclcaflkopnbpaaGreatDoor
open Go.RowKit List
set_option linter.unusedVariables false
set_option linter.unusedSimpArgs false

theorem rqOk_fit {x : Rq} (h : rqOk x = true) : FitRq x := by
  obtain ⟨h1, h2, h3, h4, h5, _⟩ := rqOk_parts h
  have := name_size h2
  have := name_size h3
  unfold FitRq maxLen
  omega
/-- What execute and perform answer, where 'ap' is R: the state, the reply and no error, or a refusal that bears the code. -/
def Out (R : St × ByteArray × Int) (base : Nat) (e : Ending) (w' : World) : Prop :=
  (R.2.2 = 0 ∧ ∃ v', e = .returned (.tuple #[v', .string R.2.1, .nilIface]) ∧ OwnN w' base v' R.1) ∨
  (R.2.2 ≠ 0 ∧ e = .returned (.tuple #[.agg #[.slice none 0 0, .slice none 0 0], .string ⟨#[]⟩, .iface 84 (.agg #[.int .i64 R.2.2])]))
set_option maxRecDepth 100000 in
set_option maxHeartbeats 8000000 in
theorem impl_perform (s : St) (v : Value) (x : Rq) (B : Nat) (w : World) (hs : StV w B v s) (hB : B ≤ w.heap.size) (hok : stOk s = true) (hop : rqOk x = true) (hA : ¬ (0 ≤ talkAt s.talks x.c ∧ x.q ≤ (talkOf s x.c).q)) :
    Calls Tryz.prog 76 #[v, rqA x] w fun e w' => Out (ap s x) w.heap.size e w' ∧ Below w.heap.size w w' := by
  have hx := rqOk_fit hop
  have HS := Lib.hid hs
  have Hx := Lib.hid hx
  have HO := Lib.hid hok
  have HQ := Lib.hid hop
  have HA := Lib.hid hA
  have Hfit := Lib.hid (ok_fits hok)
  obtain ⟨vi, vt, rfl, hri, hrt⟩ := hs
  unfold rqA
  obtain ⟨W, hW⟩ : ∃ W, W = ((w.alloc (.cells #[vi, vt] 27)).alloc (.cells #[.string x.c, .int .i64 x.q, .int .i64 x.n, .string x.k, .string x.v] 47)).alloc (.cells #[.slice none 0 0, .slice none 0 0] 27) := ⟨_, rfl⟩
  have hbW : Below w.heap.size w W := by rw [hW]; exact (((Below.refl _ _).alloc (Nat.le_refl _) _).alloc (by simp) _).alloc (by simp; omega) _
  have hWs : W.heap.size = w.heap.size + 3 := by rw [hW]; simp
  have KP : Hid (W.heap[w.heap.size]? = some (.cells #[vi, vt] 27 (0, 0))) := Lib.hid (by rw [hW, Below.heap_alloc _ _ _ (by simp; omega), Below.heap_alloc _ _ _ (by simp)]; exact heap_new _ _)
  have KQ : Hid (W.heap[w.heap.size + 1]? = some (.cells #[.string x.c, .int .i64 x.q, .int .i64 x.n, .string x.k, .string x.v] 47 (0, 0))) := Lib.hid (by rw [hW, Below.heap_alloc _ _ _ (by simp)]; simpa using heap_new (w.alloc (.cells #[vi, vt] 27)) (.cells #[.string x.c, .int .i64 x.q, .int .i64 x.n, .string x.k, .string x.v] 47))
  have KR : Hid (W.heap[w.heap.size + 1 + 1]? = some (.cells #[.slice none 0 0, .slice none 0 0] 27 (0, 0))) := Lib.hid (by rw [hW]; simpa using heap_new ((w.alloc (.cells #[vi, vt] 27)).alloc (.cells #[.string x.c, .int .i64 x.q, .int .i64 x.n, .string x.k, .string x.v] 47)) (.cells #[.slice none 0 0, .slice none 0 0] 27))
  have LP : Hid (w.heap.size < W.heap.size) := Lib.hid (by omega)
  have LQ : Hid (w.heap.size + 1 < W.heap.size) := Lib.hid (by omega)
  have LR : Hid (w.heap.size + 1 + 1 < W.heap.size) := Lib.hid (by omega)
  have HWs := Lib.hid hWs
  have BB := Lib.hid hbW
  have hc0 := impl_valueOf s _ x.k B W (HS.out.later (BB.out.mono hB) (Nat.le_refl _)) (Nat.le_trans hB BB.out.size) Hfit.out hx.2.1
  clear hri hrt hx hok hop hA hbW hWs
  have fP0 := cell_of_row W _ 0 _ _ _ KP.out
  have fP1 := cell_of_row W _ 1 _ _ _ KP.out
  simp only [List.getElem?_toArray, List.getElem?_cons_zero, List.getElem?_cons_succ] at fP0 fP1
  have fQ0 := cell_of_row W _ 0 _ _ _ KQ.out
  have fQ1 := cell_of_row W _ 1 _ _ _ KQ.out
  have fQ2 := cell_of_row W _ 2 _ _ _ KQ.out
  have fQ3 := cell_of_row W _ 3 _ _ _ KQ.out
  have fQ4 := cell_of_row W _ 4 _ _ _ KQ.out
  simp only [List.getElem?_toArray, List.getElem?_cons_zero, List.getElem?_cons_succ] at fQ0 fQ1 fQ2 fQ3 fQ4
  rw [hW] at hc0 fP0 fP1 fQ0 fQ1 fQ2 fQ3 fQ4
  go_enter Tryz.func76, Tryz.ntmps76
  go_wp2_with (go_at_call 91; refine hc0.mono ?_; rintro e w1 ⟨rfl, hb1⟩; refine Hid.out ?_)
  refine Lib.hid ?_
  rw [← hW] at hb1
  clear hc0 hW
  clear fP0 fP1 fQ0 fQ1 fQ2 fQ3 fQ4
  replace KP := Lib.hid ((hb1.block _ LP.out).trans KP.out)
  replace LP := Lib.hid (Nat.lt_of_lt_of_le LP.out hb1.size)
  replace KQ := Lib.hid ((hb1.block _ LQ.out).trans KQ.out)
  replace LQ := Lib.hid (Nat.lt_of_lt_of_le LQ.out hb1.size)
  replace KR := Lib.hid ((hb1.block _ LR.out).trans KR.out)
  replace LR := Lib.hid (Nat.lt_of_lt_of_le LR.out hb1.size)
  replace BB := Lib.hid (BB.out.trans (hb1.mono BB.out.size))
  clear hb1
  have B1s : Hid (w.heap.size ≤ w1.heap.size) := Lib.hid BB.out.size
  have LPa := LP
  have LQa := LQ
  have LRa := LR
  obtain ⟨EE, hEE⟩ : ∃ E : Bool, E = stOk (stepS s x) := ⟨_, rfl⟩
  have HEE := Lib.hid hEE
  clear hEE
  go_wp2_with fail
  go_cut [8, 9] (fun p b wx => ∃ (yb : Nat) (a0 : Option Addr) (n0 c0 : Nat) (a1 : Option Addr) (n1 c1 : Nat), p = .pointer (some ⟨yb, 0, none⟩) ∧ b = .bool EE ∧ Hid (wx.heap[yb]? = some (.cells #[.slice a0 n0 c0, .slice a1 n1 c1] 27 (0, 0))) ∧ Hid (EE = true → StV wx wx.heap.size (.agg #[.slice a0 n0 c0, .slice a1 n1 c1]) (stepS s x)) ∧ Hid (Below w1.heap.size w1 wx) ∧ Hid (w1.heap.size ≤ yb ∧ yb < wx.heap.size))
  case first =>
    have hnn := (rqOk_parts HQ.out).1
    have hn : x.n = 0 ∨ x.n = 1 ∨ x.n = 2 := by omega
    clear hnn
    have HSS : Hid (∀ w' : World, w'.heap[w.heap.size]? = some (.cells #[vi, vt] 27 (0, 0)) → w'.heap[w.heap.size + 1]? = some (.cells #[.string x.c, .int .i64 x.q, .int .i64 x.n, .string x.k, .string x.v] 47 (0, 0)) → (w'.cell? ⟨w.heap.size, 0, none⟩ = some (vi) ∧ w'.cell? ⟨w.heap.size, 1, none⟩ = some (vt)) ∧ (w'.cell? ⟨w.heap.size + 1, 0, none⟩ = some (.string x.c) ∧ w'.cell? ⟨w.heap.size + 1, 1, none⟩ = some (.int .i64 x.q) ∧ w'.cell? ⟨w.heap.size + 1, 2, none⟩ = some (.int .i64 x.n) ∧ w'.cell? ⟨w.heap.size + 1, 3, none⟩ = some (.string x.k) ∧ w'.cell? ⟨w.heap.size + 1, 4, none⟩ = some (.string x.v))) := Lib.hid (fun w' k0 k1 => ⟨⟨by simpa using cell_of_row w' _ 0 _ _ _ k0, by simpa using cell_of_row w' _ 1 _ _ _ k0⟩, ⟨by simpa using cell_of_row w' _ 0 _ _ _ k1, by simpa using cell_of_row w' _ 1 _ _ _ k1, by simpa using cell_of_row w' _ 2 _ _ _ k1, by simpa using cell_of_row w' _ 3 _ _ _ k1, by simpa using cell_of_row w' _ 4 _ _ _ k1⟩⟩)
    rcases hn with hn | hn | hn
    · have Hlk : Hid (∀ (w : World) (b : Nat), w.heap[b]? = some (.map chEs 3) → (Instr.lookup 136 (.map (some b)) (.int .i64 x.n) false).run Tryz.prog w = .ok (.func (.func 102) #[] #[]) w) := Lib.hid (fun w b h => by rw [hn]; exact look0 w b h)
      have Hn := Lib.hid hn
      clear hn
      refine wp_region_held_drew (S := (fun w' => (w'.cell? ⟨w.heap.size, 0, none⟩ = some (vi) ∧ w'.cell? ⟨w.heap.size, 1, none⟩ = some (vt)) ∧ (w'.cell? ⟨w.heap.size + 1, 0, none⟩ = some (.string x.c) ∧ w'.cell? ⟨w.heap.size + 1, 1, none⟩ = some (.int .i64 x.q) ∧ w'.cell? ⟨w.heap.size + 1, 2, none⟩ = some (.int .i64 x.n) ∧ w'.cell? ⟨w.heap.size + 1, 3, none⟩ = some (.string x.k) ∧ w'.cell? ⟨w.heap.size + 1, 4, none⟩ = some (.string x.v)))) (by kernel_rfl) (HSS.out w1.drew KP.out KQ.out) (fun hHeld => ?_)
      obtain ⟨zD, hzD⟩ : ∃ z, z = w1.drew := ⟨_, rfl⟩
      rw [← hzD] at hHeld ⊢
      have bzD : Below w1.heap.size w1 zD := by rw [hzD]; exact (Below.refl _ _).drew
      have BA : Hid (Below w1.heap.size w1 zD) := Lib.hid bzD
      have Ba0 := Lib.hid bzD.size
      replace KP := Lib.hid ((bzD.block _ LP.out).trans KP.out)
      replace LP := Lib.hid (Nat.lt_of_lt_of_le LP.out bzD.size)
      replace KQ := Lib.hid ((bzD.block _ LQ.out).trans KQ.out)
      replace LQ := Lib.hid (Nat.lt_of_lt_of_le LQ.out bzD.size)
      replace KR := Lib.hid ((bzD.block _ LR.out).trans KR.out)
      replace LR := Lib.hid (Nat.lt_of_lt_of_le LR.out bzD.size)
      replace BB := Lib.hid (BB.out.trans (bzD.mono BB.out.size))
      clear bzD hzD
      refine tk0 1 ?_
      refine tk 2 (v := ?_) ?_ ?_; rotate_left
      · refine Or.inl ⟨by rfl, ?_⟩; intro w hSw; obtain ⟨⟨gP0, gP1⟩, gQ0, gQ1, gQ2, gQ3, gQ4⟩ := hSw; go_simp; first | done | with_reducible rfl
      refine tk 4 (v := ?_) ?_ ?_; rotate_left
      · refine Or.inl ⟨by rfl, ?_⟩; intro w hSw; obtain ⟨⟨gP0, gP1⟩, gQ0, gQ1, gQ2, gQ3, gQ4⟩ := hSw; go_simp; first | done | with_reducible rfl
      refine tk 5 (v := ?_) ?_ ?_; rotate_left
      · refine Or.inl ⟨by rfl, ?_⟩; intro w hSw; obtain ⟨⟨gP0, gP1⟩, gQ0, gQ1, gQ2, gQ3, gQ4⟩ := hSw; go_simp; first | done | with_reducible rfl
      refine wpAnyH_ready (rs := [0, 10]) (by kernel_rfl) (by simp) ?_
      refine AllReadyH.cons rfl (fun K hK => ?_) (AllReadyH.cons rfl (fun K hK => ?_) (AllReadyH.nil))
      · go_simp
        go_at_call 92
        refine (impl_changes _).mono ?_
        rintro e z1 ⟨rfl, hz1⟩
        have bz1 : Below zD.heap.size zD z1 := by rw [hz1]; exact (Below.refl _ _).alloc (Nat.le_refl _) _
        replace KP := Lib.hid ((bz1.block _ LP.out).trans KP.out)
        replace LP := Lib.hid (Nat.lt_of_lt_of_le LP.out bz1.size)
        replace KQ := Lib.hid ((bz1.block _ LQ.out).trans KQ.out)
        replace LQ := Lib.hid (Nat.lt_of_lt_of_le LQ.out bz1.size)
        replace KR := Lib.hid ((bz1.block _ LR.out).trans KR.out)
        replace LR := Lib.hid (Nat.lt_of_lt_of_le LR.out bz1.size)
        replace BB := Lib.hid (BB.out.trans (bz1.mono BB.out.size))
        replace BA := Lib.hid (BA.out.trans (bz1.mono BA.out.size))
        have KM : Hid (z1.heap[zD.heap.size]? = some (.map chEs 3)) := Lib.hid (by rw [hz1]; exact heap_new _ _)
        have LM : Hid (zD.heap.size < z1.heap.size) := Lib.hid (by rw [hz1]; simp)
        clear bz1 hz1
        go_wp2_with fail
        refine hK.out _ _ (HSS.out _ KP.out KQ.out) (fun hHeld => ?_)
        clear hK K
        try simp only [getElem_toArray, getElem_cons_zero, getElem_cons_succ, Act.put, setIfInBounds_toArray, set_cons_zero, set_cons_succ]
        refine wpAnyH_ready (rs := [3, 10]) (by kernel_rfl) (by simp) ?_
        refine AllReadyH.cons rfl (fun K hK => ?_) (AllReadyH.cons rfl (fun K hK => ?_) (AllReadyH.nil))
        · have hl := Hlk.out z1 _ KM.out
          go_simp
          clear hl
          refine hK.out _ _ (HSS.out _ KP.out KQ.out) (fun hHeld => ?_)
          clear hK K
          try simp only [getElem_toArray, getElem_cons_zero, getElem_cons_succ, Act.put, setIfInBounds_toArray, set_cons_zero, set_cons_succ]
          refine wpAnyH_ready (rs := [6, 10]) (by kernel_rfl) (by simp) ?_
          refine AllReadyH.cons rfl (fun K hK => ?_) (AllReadyH.cons rfl (fun K hK => ?_) (AllReadyH.nil))
          · have hc := step_get s _ x B z1 (HS.out.later (BB.out.mono hB) (Nat.le_refl _)) (Nat.le_trans hB BB.out.size) HO.out Hx.out Hn.out
            unfold rqA at hc
            go_simp
            go_at_call 102
            refine hc.mono ?_
            rintro e z2 ⟨b0, n0, c0, b1, n1, c1, rfl, hLeft, bz2⟩
            rw [← HEE.out] at hLeft ⊢
            clear hc
            have HL := Lib.hid hLeft
            clear hLeft
            replace KP := Lib.hid ((bz2.block _ LP.out).trans KP.out)
            replace LP := Lib.hid (Nat.lt_of_lt_of_le LP.out bz2.size)
            replace KQ := Lib.hid ((bz2.block _ LQ.out).trans KQ.out)
            replace LQ := Lib.hid (Nat.lt_of_lt_of_le LQ.out bz2.size)
            replace KR := Lib.hid ((bz2.block _ LR.out).trans KR.out)
            replace LR := Lib.hid (Nat.lt_of_lt_of_le LR.out bz2.size)
            replace KM := Lib.hid ((bz2.block _ LM.out).trans KM.out)
            replace LM := Lib.hid (Nat.lt_of_lt_of_le LM.out bz2.size)
            replace BB := Lib.hid (BB.out.trans (bz2.mono BB.out.size))
            replace BA := Lib.hid (BA.out.trans (bz2.mono BA.out.size))
            clear bz2
            have BC : Hid (Below z2.heap.size z2 z2) := Lib.hid (Below.refl _ _)
            go_wp2_with fail
            refine hK.out _ _ (HSS.out _ KP.out KQ.out) (fun hHeld => ?_)
            clear hK K
            try simp only [getElem_toArray, getElem_cons_zero, getElem_cons_succ, Act.put, setIfInBounds_toArray, set_cons_zero, set_cons_succ]
            refine tk0 7 ?_
            refine tk0 8 ?_
            refine tk0 9 ?_
            refine wpAnyH_ready (rs := [10]) (by kernel_rfl) (by simp) ?_
            refine AllReadyH.cons rfl (fun K hK => ?_) (AllReadyH.nil)
            go_simp
            obtain ⟨z3, hz3⟩ : ∃ z, z = z2.alloc (.cells #[.slice none 0 0, .slice none 0 0] 27) := ⟨_, rfl⟩
            rw [← hz3]
            have bz3 : Below z2.heap.size z2 z3 := by rw [hz3]; exact (Below.refl _ _).alloc (Nat.le_refl _) _
            have sz3 : Hid (z3.heap.size = z2.heap.size + 1) := Lib.hid (by rw [hz3]; simp)
            have yA : Hid (w1.heap.size ≤ z2.heap.size) := Lib.hid BA.out.size
            replace KP := Lib.hid ((bz3.block _ LP.out).trans KP.out)
            replace LP := Lib.hid (Nat.lt_of_lt_of_le LP.out bz3.size)
            replace KQ := Lib.hid ((bz3.block _ LQ.out).trans KQ.out)
            replace LQ := Lib.hid (Nat.lt_of_lt_of_le LQ.out bz3.size)
            replace KR := Lib.hid ((bz3.block _ LR.out).trans KR.out)
            replace LR := Lib.hid (Nat.lt_of_lt_of_le LR.out bz3.size)
            replace KM := Lib.hid ((bz3.block _ LM.out).trans KM.out)
            replace LM := Lib.hid (Nat.lt_of_lt_of_le LM.out bz3.size)
            replace BB := Lib.hid (BB.out.trans (bz3.mono BB.out.size))
            replace BA := Lib.hid (BA.out.trans (bz3.mono BA.out.size))
            replace BC := Lib.hid (BC.out.trans (bz3.mono BC.out.size))
            have KY : Hid (z3.heap[z2.heap.size]? = some (.cells #[.slice none 0 0, .slice none 0 0] 27 (0, 0))) := Lib.hid (by rw [hz3]; exact heap_new _ _)
            have LY : Hid (z2.heap.size < z3.heap.size) := Lib.hid (by have := sz3.out; omega)
            clear bz3 hz3
            refine hK.out _ _ (HSS.out _ KP.out KQ.out) (fun hHeld => ?_)
            clear hK K
            try simp only [getElem_toArray, getElem_cons_zero, getElem_cons_succ, Act.put, setIfInBounds_toArray, set_cons_zero, set_cons_succ]
            have fY0 := cell_of_row z3 _ 0 _ _ _ KY.out
            have fY1 := cell_of_row z3 _ 1 _ _ _ KY.out
            simp only [List.getElem?_toArray, List.getElem?_cons_zero, List.getElem?_cons_succ] at fY0 fY1
            have zY0 := frozen_of_row z3 _ 0 _ _ KY.out
            have zY1 := frozen_of_row z3 _ 1 _ _ KY.out
            refine wpAnyH_ready (rs := [11]) (by kernel_rfl) (by simp) ?_
            refine AllReadyH.cons rfl (fun K hK => ?_) (AllReadyH.nil)
            go_simp
            obtain ⟨Y, hY⟩ : ∃ Y, Y = (z3.setCell ⟨z2.heap.size, 0, none⟩ (.slice b0 n0 c0)).setCell ⟨z2.heap.size, 1, none⟩ (.slice b1 n1 c1) := ⟨_, rfl⟩
            rw [← hY]
            have f1 := heap_setCell_same _ (z2.heap.size) 0 _ _ (.slice b0 n0 c0) KY.out
            have f2 := heap_setCell_same _ (z2.heap.size) 1 _ _ (.slice b1 n1 c1) f1
            rw [← hY] at f2
            have gY : z3.grownBy Y (some (z2.heap.size)) := by rw [hY]; exact (grown_set _ ⟨z2.heap.size, 0, none⟩ _).trans (grown_set _ ⟨z2.heap.size, 1, none⟩ _)
            clear fY0 fY1
            clear zY0 zY1
            clear hY f1
            simp only [List.setIfInBounds_toArray, List.set_cons_zero, List.set_cons_succ] at f2
            have F2 := Lib.hid f2
            have hBw : B ≤ z2.heap.size := Nat.le_trans hB (Nat.le_trans B1s.out yA.out)
            have HST : Hid (EE = true → StV Y Y.heap.size (.agg #[.slice b0 n0 c0, .slice b1 n1 c1]) (stepS s x)) := Lib.hid (fun h => HL.out h Y (.inr (BC.out.grown gY BC.out.size (fun k hk => by cases hk; exact Nat.le_refl _))))
            have LY2 : Hid (z2.heap.size < Y.heap.size) := Lib.hid (Nat.lt_of_lt_of_le LY.out gY.size)
            have BA2 : Hid (Below w1.heap.size w1 Y) := Lib.hid (BA.out.grown gY BA.out.size (fun k hk => by cases hk; exact yA.out))
            have KPy := Lib.hid ((gY.block _ LP.out (fun e => by have := yA.out; have := LPa.out; simp only [Option.some.injEq] at e; omega)).trans KP.out)
            have KQy := Lib.hid ((gY.block _ LQ.out (fun e => by have := yA.out; have := LQa.out; simp only [Option.some.injEq] at e; omega)).trans KQ.out)
            refine hK.out _ _ (HSS.out _ KPy.out KQy.out) (fun hHeld => ?_)
            clear hK K gY f2
            try simp only [getElem_toArray, getElem_cons_zero, getElem_cons_succ, Act.put, setIfInBounds_toArray, set_cons_zero, set_cons_succ]
            refine tk0 12 ?_
            refine wpAnyH_done (by kernel_rfl) ?_ _
            clear hHeld
            go_wp2_with fail
            go_meet
            exact ⟨z2.heap.size, b0, n0, c0, b1, n1, c1, rfl, rfl, F2, HST, BA2, Lib.hid ⟨yA.out, LY2.out⟩⟩
          · go_simp
            obtain ⟨z4, hz4⟩ : ∃ z, z = z1.alloc (.cells #[.slice none 0 0, .slice none 0 0] 27) := ⟨_, rfl⟩
            rw [← hz4]
            have bz4 : Below z1.heap.size z1 z4 := by rw [hz4]; exact (Below.refl _ _).alloc (Nat.le_refl _) _
            have sz4 : Hid (z4.heap.size = z1.heap.size + 1) := Lib.hid (by rw [hz4]; simp)
            have yA : Hid (w1.heap.size ≤ z1.heap.size) := Lib.hid BA.out.size
            replace KP := Lib.hid ((bz4.block _ LP.out).trans KP.out)
            replace LP := Lib.hid (Nat.lt_of_lt_of_le LP.out bz4.size)
            replace KQ := Lib.hid ((bz4.block _ LQ.out).trans KQ.out)
            replace LQ := Lib.hid (Nat.lt_of_lt_of_le LQ.out bz4.size)
            replace KR := Lib.hid ((bz4.block _ LR.out).trans KR.out)
            replace LR := Lib.hid (Nat.lt_of_lt_of_le LR.out bz4.size)
            replace KM := Lib.hid ((bz4.block _ LM.out).trans KM.out)
            replace LM := Lib.hid (Nat.lt_of_lt_of_le LM.out bz4.size)
            replace BB := Lib.hid (BB.out.trans (bz4.mono BB.out.size))
            replace BA := Lib.hid (BA.out.trans (bz4.mono BA.out.size))
            have KY : Hid (z4.heap[z1.heap.size]? = some (.cells #[.slice none 0 0, .slice none 0 0] 27 (0, 0))) := Lib.hid (by rw [hz4]; exact heap_new _ _)
            have LY : Hid (z1.heap.size < z4.heap.size) := Lib.hid (by have := sz4.out; omega)
            clear bz4 hz4
            refine hK.out _ _ (HSS.out _ KP.out KQ.out) (fun hHeld => ?_)
            clear hK K
            try simp only [getElem_toArray, getElem_cons_zero, getElem_cons_succ, Act.put, setIfInBounds_toArray, set_cons_zero, set_cons_succ]
            refine wpAnyH_ready (rs := [6]) (by kernel_rfl) (by simp) ?_
            refine AllReadyH.cons rfl (fun K hK => ?_) (AllReadyH.nil)
            have hc := step_get s _ x B z4 (HS.out.later (BB.out.mono hB) (Nat.le_refl _)) (Nat.le_trans hB BB.out.size) HO.out Hx.out Hn.out
            unfold rqA at hc
            go_simp
            go_at_call 102
            refine hc.mono ?_
            rintro e z5 ⟨b0, n0, c0, b1, n1, c1, rfl, hLeft, bz5⟩
            rw [← HEE.out] at hLeft ⊢
            clear hc
            have HL := Lib.hid hLeft
            clear hLeft
            have LYc := LY
            replace KP := Lib.hid ((bz5.block _ LP.out).trans KP.out)
            replace LP := Lib.hid (Nat.lt_of_lt_of_le LP.out bz5.size)
            replace KQ := Lib.hid ((bz5.block _ LQ.out).trans KQ.out)
            replace LQ := Lib.hid (Nat.lt_of_lt_of_le LQ.out bz5.size)
            replace KR := Lib.hid ((bz5.block _ LR.out).trans KR.out)
            replace LR := Lib.hid (Nat.lt_of_lt_of_le LR.out bz5.size)
            replace KM := Lib.hid ((bz5.block _ LM.out).trans KM.out)
            replace LM := Lib.hid (Nat.lt_of_lt_of_le LM.out bz5.size)
            replace KY := Lib.hid ((bz5.block _ LY.out).trans KY.out)
            replace LY := Lib.hid (Nat.lt_of_lt_of_le LY.out bz5.size)
            replace BB := Lib.hid (BB.out.trans (bz5.mono BB.out.size))
            replace BA := Lib.hid (BA.out.trans (bz5.mono BA.out.size))
            clear bz5
            have BC : Hid (Below z5.heap.size z5 z5) := Lib.hid (Below.refl _ _)
            go_wp2_with fail
            refine hK.out _ _ (HSS.out _ KP.out KQ.out) (fun hHeld => ?_)
            clear hK K
            try simp only [getElem_toArray, getElem_cons_zero, getElem_cons_succ, Act.put, setIfInBounds_toArray, set_cons_zero, set_cons_succ]
            refine tk0 7 ?_
            refine tk0 8 ?_
            refine tk0 9 ?_
            have fY0 := cell_of_row z5 _ 0 _ _ _ KY.out
            have fY1 := cell_of_row z5 _ 1 _ _ _ KY.out
            simp only [List.getElem?_toArray, List.getElem?_cons_zero, List.getElem?_cons_succ] at fY0 fY1
            have zY0 := frozen_of_row z5 _ 0 _ _ KY.out
            have zY1 := frozen_of_row z5 _ 1 _ _ KY.out
            refine wpAnyH_ready (rs := [11]) (by kernel_rfl) (by simp) ?_
            refine AllReadyH.cons rfl (fun K hK => ?_) (AllReadyH.nil)
            go_simp
            obtain ⟨Y, hY⟩ : ∃ Y, Y = (z5.setCell ⟨z1.heap.size, 0, none⟩ (.slice b0 n0 c0)).setCell ⟨z1.heap.size, 1, none⟩ (.slice b1 n1 c1) := ⟨_, rfl⟩
            rw [← hY]
            have f1 := heap_setCell_same _ (z1.heap.size) 0 _ _ (.slice b0 n0 c0) KY.out
            have f2 := heap_setCell_same _ (z1.heap.size) 1 _ _ (.slice b1 n1 c1) f1
            rw [← hY] at f2
            have gY : z5.grownBy Y (some (z1.heap.size)) := by rw [hY]; exact (grown_set _ ⟨z1.heap.size, 0, none⟩ _).trans (grown_set _ ⟨z1.heap.size, 1, none⟩ _)
            clear fY0 fY1
            clear zY0 zY1
            clear hY f1
            simp only [List.setIfInBounds_toArray, List.set_cons_zero, List.set_cons_succ] at f2
            have F2 := Lib.hid f2
            have hBw : B ≤ z1.heap.size := Nat.le_trans hB (Nat.le_trans B1s.out yA.out)
            have HST : Hid (EE = true → StV Y Y.heap.size (.agg #[.slice b0 n0 c0, .slice b1 n1 c1]) (stepS s x)) := Lib.hid (fun h => HL.out h Y (.inl ⟨_, hBw, LYc.out, gY⟩))
            have LY2 : Hid (z1.heap.size < Y.heap.size) := Lib.hid (Nat.lt_of_lt_of_le LY.out gY.size)
            have BA2 : Hid (Below w1.heap.size w1 Y) := Lib.hid (BA.out.grown gY BA.out.size (fun k hk => by cases hk; exact yA.out))
            have KPy := Lib.hid ((gY.block _ LP.out (fun e => by have := yA.out; have := LPa.out; simp only [Option.some.injEq] at e; omega)).trans KP.out)
            have KQy := Lib.hid ((gY.block _ LQ.out (fun e => by have := yA.out; have := LQa.out; simp only [Option.some.injEq] at e; omega)).trans KQ.out)
            refine hK.out _ _ (HSS.out _ KPy.out KQy.out) (fun hHeld => ?_)
            clear hK K gY f2
            try simp only [getElem_toArray, getElem_cons_zero, getElem_cons_succ, Act.put, setIfInBounds_toArray, set_cons_zero, set_cons_succ]
            refine tk0 12 ?_
            refine wpAnyH_done (by kernel_rfl) ?_ _
            clear hHeld
            go_wp2_with fail
            go_meet
            exact ⟨z1.heap.size, b0, n0, c0, b1, n1, c1, rfl, rfl, F2, HST, BA2, Lib.hid ⟨yA.out, LY2.out⟩⟩
        · go_simp
          obtain ⟨z6, hz6⟩ : ∃ z, z = z1.alloc (.cells #[.slice none 0 0, .slice none 0 0] 27) := ⟨_, rfl⟩
          rw [← hz6]
          have bz6 : Below z1.heap.size z1 z6 := by rw [hz6]; exact (Below.refl _ _).alloc (Nat.le_refl _) _
          have sz6 : Hid (z6.heap.size = z1.heap.size + 1) := Lib.hid (by rw [hz6]; simp)
          have yA : Hid (w1.heap.size ≤ z1.heap.size) := Lib.hid BA.out.size
          replace KP := Lib.hid ((bz6.block _ LP.out).trans KP.out)
          replace LP := Lib.hid (Nat.lt_of_lt_of_le LP.out bz6.size)
          replace KQ := Lib.hid ((bz6.block _ LQ.out).trans KQ.out)
          replace LQ := Lib.hid (Nat.lt_of_lt_of_le LQ.out bz6.size)
          replace KR := Lib.hid ((bz6.block _ LR.out).trans KR.out)
          replace LR := Lib.hid (Nat.lt_of_lt_of_le LR.out bz6.size)
          replace KM := Lib.hid ((bz6.block _ LM.out).trans KM.out)
          replace LM := Lib.hid (Nat.lt_of_lt_of_le LM.out bz6.size)
          replace BB := Lib.hid (BB.out.trans (bz6.mono BB.out.size))
          replace BA := Lib.hid (BA.out.trans (bz6.mono BA.out.size))
          have KY : Hid (z6.heap[z1.heap.size]? = some (.cells #[.slice none 0 0, .slice none 0 0] 27 (0, 0))) := Lib.hid (by rw [hz6]; exact heap_new _ _)
          have LY : Hid (z1.heap.size < z6.heap.size) := Lib.hid (by have := sz6.out; omega)
          clear bz6 hz6
          refine hK.out _ _ (HSS.out _ KP.out KQ.out) (fun hHeld => ?_)
          clear hK K
          try simp only [getElem_toArray, getElem_cons_zero, getElem_cons_succ, Act.put, setIfInBounds_toArray, set_cons_zero, set_cons_succ]
          refine wpAnyH_ready (rs := [3]) (by kernel_rfl) (by simp) ?_
          refine AllReadyH.cons rfl (fun K hK => ?_) (AllReadyH.nil)
          have hl := Hlk.out z6 _ KM.out
          go_simp
          clear hl
          refine hK.out _ _ (HSS.out _ KP.out KQ.out) (fun hHeld => ?_)
          clear hK K
          try simp only [getElem_toArray, getElem_cons_zero, getElem_cons_succ, Act.put, setIfInBounds_toArray, set_cons_zero, set_cons_succ]
          refine wpAnyH_ready (rs := [6]) (by kernel_rfl) (by simp) ?_
          refine AllReadyH.cons rfl (fun K hK => ?_) (AllReadyH.nil)
          have hc := step_get s _ x B z6 (HS.out.later (BB.out.mono hB) (Nat.le_refl _)) (Nat.le_trans hB BB.out.size) HO.out Hx.out Hn.out
          unfold rqA at hc
          go_simp
          go_at_call 102
          refine hc.mono ?_
          rintro e z7 ⟨b0, n0, c0, b1, n1, c1, rfl, hLeft, bz7⟩
          rw [← HEE.out] at hLeft ⊢
          clear hc
          have HL := Lib.hid hLeft
          clear hLeft
          have LYc := LY
          replace KP := Lib.hid ((bz7.block _ LP.out).trans KP.out)
          replace LP := Lib.hid (Nat.lt_of_lt_of_le LP.out bz7.size)
          replace KQ := Lib.hid ((bz7.block _ LQ.out).trans KQ.out)
          replace LQ := Lib.hid (Nat.lt_of_lt_of_le LQ.out bz7.size)
          replace KR := Lib.hid ((bz7.block _ LR.out).trans KR.out)
          replace LR := Lib.hid (Nat.lt_of_lt_of_le LR.out bz7.size)
          replace KM := Lib.hid ((bz7.block _ LM.out).trans KM.out)
          replace LM := Lib.hid (Nat.lt_of_lt_of_le LM.out bz7.size)
          replace KY := Lib.hid ((bz7.block _ LY.out).trans KY.out)
          replace LY := Lib.hid (Nat.lt_of_lt_of_le LY.out bz7.size)
          replace BB := Lib.hid (BB.out.trans (bz7.mono BB.out.size))
          replace BA := Lib.hid (BA.out.trans (bz7.mono BA.out.size))
          clear bz7
          have BC : Hid (Below z7.heap.size z7 z7) := Lib.hid (Below.refl _ _)
          go_wp2_with fail
          refine hK.out _ _ (HSS.out _ KP.out KQ.out) (fun hHeld => ?_)
          clear hK K
          try simp only [getElem_toArray, getElem_cons_zero, getElem_cons_succ, Act.put, setIfInBounds_toArray, set_cons_zero, set_cons_succ]
          refine tk0 7 ?_
          refine tk0 8 ?_
          refine tk0 9 ?_
          have fY0 := cell_of_row z7 _ 0 _ _ _ KY.out
          have fY1 := cell_of_row z7 _ 1 _ _ _ KY.out
          simp only [List.getElem?_toArray, List.getElem?_cons_zero, List.getElem?_cons_succ] at fY0 fY1
          have zY0 := frozen_of_row z7 _ 0 _ _ KY.out
          have zY1 := frozen_of_row z7 _ 1 _ _ KY.out
          refine wpAnyH_ready (rs := [11]) (by kernel_rfl) (by simp) ?_
          refine AllReadyH.cons rfl (fun K hK => ?_) (AllReadyH.nil)
          go_simp
          obtain ⟨Y, hY⟩ : ∃ Y, Y = (z7.setCell ⟨z1.heap.size, 0, none⟩ (.slice b0 n0 c0)).setCell ⟨z1.heap.size, 1, none⟩ (.slice b1 n1 c1) := ⟨_, rfl⟩
          rw [← hY]
          have f1 := heap_setCell_same _ (z1.heap.size) 0 _ _ (.slice b0 n0 c0) KY.out
          have f2 := heap_setCell_same _ (z1.heap.size) 1 _ _ (.slice b1 n1 c1) f1
          rw [← hY] at f2
          have gY : z7.grownBy Y (some (z1.heap.size)) := by rw [hY]; exact (grown_set _ ⟨z1.heap.size, 0, none⟩ _).trans (grown_set _ ⟨z1.heap.size, 1, none⟩ _)
          clear fY0 fY1
          clear zY0 zY1
          clear hY f1
          simp only [List.setIfInBounds_toArray, List.set_cons_zero, List.set_cons_succ] at f2
          have F2 := Lib.hid f2
          have hBw : B ≤ z1.heap.size := Nat.le_trans hB (Nat.le_trans B1s.out yA.out)
          have HST : Hid (EE = true → StV Y Y.heap.size (.agg #[.slice b0 n0 c0, .slice b1 n1 c1]) (stepS s x)) := Lib.hid (fun h => HL.out h Y (.inl ⟨_, hBw, LYc.out, gY⟩))
          have LY2 : Hid (z1.heap.size < Y.heap.size) := Lib.hid (Nat.lt_of_lt_of_le LY.out gY.size)
          have BA2 : Hid (Below w1.heap.size w1 Y) := Lib.hid (BA.out.grown gY BA.out.size (fun k hk => by cases hk; exact yA.out))
          have KPy := Lib.hid ((gY.block _ LP.out (fun e => by have := yA.out; have := LPa.out; simp only [Option.some.injEq] at e; omega)).trans KP.out)
          have KQy := Lib.hid ((gY.block _ LQ.out (fun e => by have := yA.out; have := LQa.out; simp only [Option.some.injEq] at e; omega)).trans KQ.out)
          refine hK.out _ _ (HSS.out _ KPy.out KQy.out) (fun hHeld => ?_)
          clear hK K gY f2
          try simp only [getElem_toArray, getElem_cons_zero, getElem_cons_succ, Act.put, setIfInBounds_toArray, set_cons_zero, set_cons_succ]
          refine tk0 12 ?_
          refine wpAnyH_done (by kernel_rfl) ?_ _
          clear hHeld
          go_wp2_with fail
          go_meet
          exact ⟨z1.heap.size, b0, n0, c0, b1, n1, c1, rfl, rfl, F2, HST, BA2, Lib.hid ⟨yA.out, LY2.out⟩⟩
      · go_simp
        obtain ⟨z8, hz8⟩ : ∃ z, z = zD.alloc (.cells #[.slice none 0 0, .slice none 0 0] 27) := ⟨_, rfl⟩
        rw [← hz8]
        have bz8 : Below zD.heap.size zD z8 := by rw [hz8]; exact (Below.refl _ _).alloc (Nat.le_refl _) _
        have sz8 : Hid (z8.heap.size = zD.heap.size + 1) := Lib.hid (by rw [hz8]; simp)
        have yA : Hid (w1.heap.size ≤ zD.heap.size) := Lib.hid BA.out.size
        replace KP := Lib.hid ((bz8.block _ LP.out).trans KP.out)
        replace LP := Lib.hid (Nat.lt_of_lt_of_le LP.out bz8.size)
        replace KQ := Lib.hid ((bz8.block _ LQ.out).trans KQ.out)
        replace LQ := Lib.hid (Nat.lt_of_lt_of_le LQ.out bz8.size)
        replace KR := Lib.hid ((bz8.block _ LR.out).trans KR.out)
        replace LR := Lib.hid (Nat.lt_of_lt_of_le LR.out bz8.size)
        replace BB := Lib.hid (BB.out.trans (bz8.mono BB.out.size))
        replace BA := Lib.hid (BA.out.trans (bz8.mono BA.out.size))
        have KY : Hid (z8.heap[zD.heap.size]? = some (.cells #[.slice none 0 0, .slice none 0 0] 27 (0, 0))) := Lib.hid (by rw [hz8]; exact heap_new _ _)
        have LY : Hid (zD.heap.size < z8.heap.size) := Lib.hid (by have := sz8.out; omega)
        clear bz8 hz8
        refine hK.out _ _ (HSS.out _ KP.out KQ.out) (fun hHeld => ?_)
        clear hK K
        try simp only [getElem_toArray, getElem_cons_zero, getElem_cons_succ, Act.put, setIfInBounds_toArray, set_cons_zero, set_cons_succ]
        refine wpAnyH_ready (rs := [0]) (by kernel_rfl) (by simp) ?_
        refine AllReadyH.cons rfl (fun K hK => ?_) (AllReadyH.nil)
        go_simp
        go_at_call 92
        refine (impl_changes _).mono ?_
        rintro e z9 ⟨rfl, hz9⟩
        have bz9 : Below z8.heap.size z8 z9 := by rw [hz9]; exact (Below.refl _ _).alloc (Nat.le_refl _) _
        replace KP := Lib.hid ((bz9.block _ LP.out).trans KP.out)
        replace LP := Lib.hid (Nat.lt_of_lt_of_le LP.out bz9.size)
        replace KQ := Lib.hid ((bz9.block _ LQ.out).trans KQ.out)
        replace LQ := Lib.hid (Nat.lt_of_lt_of_le LQ.out bz9.size)
        replace KR := Lib.hid ((bz9.block _ LR.out).trans KR.out)
        replace LR := Lib.hid (Nat.lt_of_lt_of_le LR.out bz9.size)
        replace KY := Lib.hid ((bz9.block _ LY.out).trans KY.out)
        replace LY := Lib.hid (Nat.lt_of_lt_of_le LY.out bz9.size)
        replace BB := Lib.hid (BB.out.trans (bz9.mono BB.out.size))
        replace BA := Lib.hid (BA.out.trans (bz9.mono BA.out.size))
        have KM : Hid (z9.heap[z8.heap.size]? = some (.map chEs 3)) := Lib.hid (by rw [hz9]; exact heap_new _ _)
        have LM : Hid (z8.heap.size < z9.heap.size) := Lib.hid (by rw [hz9]; simp)
        clear bz9 hz9
        go_wp2_with fail
        refine hK.out _ _ (HSS.out _ KP.out KQ.out) (fun hHeld => ?_)
        clear hK K
        try simp only [getElem_toArray, getElem_cons_zero, getElem_cons_succ, Act.put, setIfInBounds_toArray, set_cons_zero, set_cons_succ]
        refine wpAnyH_ready (rs := [3]) (by kernel_rfl) (by simp) ?_
        refine AllReadyH.cons rfl (fun K hK => ?_) (AllReadyH.nil)
        have hl := Hlk.out z9 _ KM.out
        go_simp
        clear hl
        refine hK.out _ _ (HSS.out _ KP.out KQ.out) (fun hHeld => ?_)
        clear hK K
        try simp only [getElem_toArray, getElem_cons_zero, getElem_cons_succ, Act.put, setIfInBounds_toArray, set_cons_zero, set_cons_succ]
        refine wpAnyH_ready (rs := [6]) (by kernel_rfl) (by simp) ?_
        refine AllReadyH.cons rfl (fun K hK => ?_) (AllReadyH.nil)
        have hc := step_get s _ x B z9 (HS.out.later (BB.out.mono hB) (Nat.le_refl _)) (Nat.le_trans hB BB.out.size) HO.out Hx.out Hn.out
        unfold rqA at hc
        go_simp
        go_at_call 102
        refine hc.mono ?_
        rintro e z10 ⟨b0, n0, c0, b1, n1, c1, rfl, hLeft, bz10⟩
        rw [← HEE.out] at hLeft ⊢
        clear hc
        have HL := Lib.hid hLeft
        clear hLeft
        have LYc := LY
        replace KP := Lib.hid ((bz10.block _ LP.out).trans KP.out)
        replace LP := Lib.hid (Nat.lt_of_lt_of_le LP.out bz10.size)
        replace KQ := Lib.hid ((bz10.block _ LQ.out).trans KQ.out)
        replace LQ := Lib.hid (Nat.lt_of_lt_of_le LQ.out bz10.size)
        replace KR := Lib.hid ((bz10.block _ LR.out).trans KR.out)
        replace LR := Lib.hid (Nat.lt_of_lt_of_le LR.out bz10.size)
        replace KY := Lib.hid ((bz10.block _ LY.out).trans KY.out)
        replace LY := Lib.hid (Nat.lt_of_lt_of_le LY.out bz10.size)
        replace KM := Lib.hid ((bz10.block _ LM.out).trans KM.out)
        replace LM := Lib.hid (Nat.lt_of_lt_of_le LM.out bz10.size)
        replace BB := Lib.hid (BB.out.trans (bz10.mono BB.out.size))
        replace BA := Lib.hid (BA.out.trans (bz10.mono BA.out.size))
        clear bz10
        have BC : Hid (Below z10.heap.size z10 z10) := Lib.hid (Below.refl _ _)
        go_wp2_with fail
        refine hK.out _ _ (HSS.out _ KP.out KQ.out) (fun hHeld => ?_)
        clear hK K
        try simp only [getElem_toArray, getElem_cons_zero, getElem_cons_succ, Act.put, setIfInBounds_toArray, set_cons_zero, set_cons_succ]
        refine tk0 7 ?_
        refine tk0 8 ?_
        refine tk0 9 ?_
        have fY0 := cell_of_row z10 _ 0 _ _ _ KY.out
        have fY1 := cell_of_row z10 _ 1 _ _ _ KY.out
        simp only [List.getElem?_toArray, List.getElem?_cons_zero, List.getElem?_cons_succ] at fY0 fY1
        have zY0 := frozen_of_row z10 _ 0 _ _ KY.out
        have zY1 := frozen_of_row z10 _ 1 _ _ KY.out
        refine wpAnyH_ready (rs := [11]) (by kernel_rfl) (by simp) ?_
        refine AllReadyH.cons rfl (fun K hK => ?_) (AllReadyH.nil)
        go_simp
        obtain ⟨Y, hY⟩ : ∃ Y, Y = (z10.setCell ⟨zD.heap.size, 0, none⟩ (.slice b0 n0 c0)).setCell ⟨zD.heap.size, 1, none⟩ (.slice b1 n1 c1) := ⟨_, rfl⟩
        rw [← hY]
        have f1 := heap_setCell_same _ (zD.heap.size) 0 _ _ (.slice b0 n0 c0) KY.out
        have f2 := heap_setCell_same _ (zD.heap.size) 1 _ _ (.slice b1 n1 c1) f1
        rw [← hY] at f2
        have gY : z10.grownBy Y (some (zD.heap.size)) := by rw [hY]; exact (grown_set _ ⟨zD.heap.size, 0, none⟩ _).trans (grown_set _ ⟨zD.heap.size, 1, none⟩ _)
        clear fY0 fY1
        clear zY0 zY1
        clear hY f1
        simp only [List.setIfInBounds_toArray, List.set_cons_zero, List.set_cons_succ] at f2
        have F2 := Lib.hid f2
        have hBw : B ≤ zD.heap.size := Nat.le_trans hB (Nat.le_trans B1s.out yA.out)
        have HST : Hid (EE = true → StV Y Y.heap.size (.agg #[.slice b0 n0 c0, .slice b1 n1 c1]) (stepS s x)) := Lib.hid (fun h => HL.out h Y (.inl ⟨_, hBw, LYc.out, gY⟩))
        have LY2 : Hid (zD.heap.size < Y.heap.size) := Lib.hid (Nat.lt_of_lt_of_le LY.out gY.size)
        have BA2 : Hid (Below w1.heap.size w1 Y) := Lib.hid (BA.out.grown gY BA.out.size (fun k hk => by cases hk; exact yA.out))
        have KPy := Lib.hid ((gY.block _ LP.out (fun e => by have := yA.out; have := LPa.out; simp only [Option.some.injEq] at e; omega)).trans KP.out)
        have KQy := Lib.hid ((gY.block _ LQ.out (fun e => by have := yA.out; have := LQa.out; simp only [Option.some.injEq] at e; omega)).trans KQ.out)
        refine hK.out _ _ (HSS.out _ KPy.out KQy.out) (fun hHeld => ?_)
        clear hK K gY f2
        try simp only [getElem_toArray, getElem_cons_zero, getElem_cons_succ, Act.put, setIfInBounds_toArray, set_cons_zero, set_cons_succ]
        refine tk0 12 ?_
        refine wpAnyH_done (by kernel_rfl) ?_ _
        clear hHeld
        go_wp2_with fail
        go_meet
        exact ⟨zD.heap.size, b0, n0, c0, b1, n1, c1, rfl, rfl, F2, HST, BA2, Lib.hid ⟨yA.out, LY2.out⟩⟩
    · have Hlk : Hid (∀ (w : World) (b : Nat), w.heap[b]? = some (.map chEs 3) → (Instr.lookup 136 (.map (some b)) (.int .i64 x.n) false).run Tryz.prog w = .ok (.func (.func 103) #[] #[]) w) := Lib.hid (fun w b h => by rw [hn]; exact look1 w b h)
      have Hn := Lib.hid hn
      clear hn
      refine wp_region_held_drew (S := (fun w' => (w'.cell? ⟨w.heap.size, 0, none⟩ = some (vi) ∧ w'.cell? ⟨w.heap.size, 1, none⟩ = some (vt)) ∧ (w'.cell? ⟨w.heap.size + 1, 0, none⟩ = some (.string x.c) ∧ w'.cell? ⟨w.heap.size + 1, 1, none⟩ = some (.int .i64 x.q) ∧ w'.cell? ⟨w.heap.size + 1, 2, none⟩ = some (.int .i64 x.n) ∧ w'.cell? ⟨w.heap.size + 1, 3, none⟩ = some (.string x.k) ∧ w'.cell? ⟨w.heap.size + 1, 4, none⟩ = some (.string x.v)))) (by kernel_rfl) (HSS.out w1.drew KP.out KQ.out) (fun hHeld => ?_)
      obtain ⟨zD, hzD⟩ : ∃ z, z = w1.drew := ⟨_, rfl⟩
      rw [← hzD] at hHeld ⊢
      have bzD : Below w1.heap.size w1 zD := by rw [hzD]; exact (Below.refl _ _).drew
      have BA : Hid (Below w1.heap.size w1 zD) := Lib.hid bzD
      have Ba0 := Lib.hid bzD.size
      replace KP := Lib.hid ((bzD.block _ LP.out).trans KP.out)
      replace LP := Lib.hid (Nat.lt_of_lt_of_le LP.out bzD.size)
      replace KQ := Lib.hid ((bzD.block _ LQ.out).trans KQ.out)
      replace LQ := Lib.hid (Nat.lt_of_lt_of_le LQ.out bzD.size)
      replace KR := Lib.hid ((bzD.block _ LR.out).trans KR.out)
      replace LR := Lib.hid (Nat.lt_of_lt_of_le LR.out bzD.size)
      replace BB := Lib.hid (BB.out.trans (bzD.mono BB.out.size))
      clear bzD hzD
      refine tk0 1 ?_
      refine tk 2 (v := ?_) ?_ ?_; rotate_left
      · refine Or.inl ⟨by rfl, ?_⟩; intro w hSw; obtain ⟨⟨gP0, gP1⟩, gQ0, gQ1, gQ2, gQ3, gQ4⟩ := hSw; go_simp; first | done | with_reducible rfl
      refine tk 4 (v := ?_) ?_ ?_; rotate_left
      · refine Or.inl ⟨by rfl, ?_⟩; intro w hSw; obtain ⟨⟨gP0, gP1⟩, gQ0, gQ1, gQ2, gQ3, gQ4⟩ := hSw; go_simp; first | done | with_reducible rfl
      refine tk 5 (v := ?_) ?_ ?_; rotate_left
      · refine Or.inl ⟨by rfl, ?_⟩; intro w hSw; obtain ⟨⟨gP0, gP1⟩, gQ0, gQ1, gQ2, gQ3, gQ4⟩ := hSw; go_simp; first | done | with_reducible rfl
      refine wpAnyH_ready (rs := [0, 10]) (by kernel_rfl) (by simp) ?_
      refine AllReadyH.cons rfl (fun K hK => ?_) (AllReadyH.cons rfl (fun K hK => ?_) (AllReadyH.nil))
      · go_simp
        go_at_call 92
        refine (impl_changes _).mono ?_
        rintro e z11 ⟨rfl, hz11⟩
        have bz11 : Below zD.heap.size zD z11 := by rw [hz11]; exact (Below.refl _ _).alloc (Nat.le_refl _) _
        replace KP := Lib.hid ((bz11.block _ LP.out).trans KP.out)
        replace LP := Lib.hid (Nat.lt_of_lt_of_le LP.out bz11.size)
        replace KQ := Lib.hid ((bz11.block _ LQ.out).trans KQ.out)
        replace LQ := Lib.hid (Nat.lt_of_lt_of_le LQ.out bz11.size)
        replace KR := Lib.hid ((bz11.block _ LR.out).trans KR.out)
        replace LR := Lib.hid (Nat.lt_of_lt_of_le LR.out bz11.size)
        replace BB := Lib.hid (BB.out.trans (bz11.mono BB.out.size))
        replace BA := Lib.hid (BA.out.trans (bz11.mono BA.out.size))
        have KM : Hid (z11.heap[zD.heap.size]? = some (.map chEs 3)) := Lib.hid (by rw [hz11]; exact heap_new _ _)
        have LM : Hid (zD.heap.size < z11.heap.size) := Lib.hid (by rw [hz11]; simp)
        clear bz11 hz11
        go_wp2_with fail
        refine hK.out _ _ (HSS.out _ KP.out KQ.out) (fun hHeld => ?_)
        clear hK K
        try simp only [getElem_toArray, getElem_cons_zero, getElem_cons_succ, Act.put, setIfInBounds_toArray, set_cons_zero, set_cons_succ]
        refine wpAnyH_ready (rs := [3, 10]) (by kernel_rfl) (by simp) ?_
        refine AllReadyH.cons rfl (fun K hK => ?_) (AllReadyH.cons rfl (fun K hK => ?_) (AllReadyH.nil))
        · have hl := Hlk.out z11 _ KM.out
          go_simp
          clear hl
          refine hK.out _ _ (HSS.out _ KP.out KQ.out) (fun hHeld => ?_)
          clear hK K
          try simp only [getElem_toArray, getElem_cons_zero, getElem_cons_succ, Act.put, setIfInBounds_toArray, set_cons_zero, set_cons_succ]
          refine wpAnyH_ready (rs := [6, 10]) (by kernel_rfl) (by simp) ?_
          refine AllReadyH.cons rfl (fun K hK => ?_) (AllReadyH.cons rfl (fun K hK => ?_) (AllReadyH.nil))
          · have hc := step_put s _ x B z11 (HS.out.later (BB.out.mono hB) (Nat.le_refl _)) (Nat.le_trans hB BB.out.size) HO.out Hx.out Hn.out
            unfold rqA at hc
            go_simp
            go_at_call 103
            refine hc.mono ?_
            rintro e z12 ⟨b0, n0, c0, b1, n1, c1, rfl, hLeft, bz12⟩
            rw [← HEE.out] at hLeft ⊢
            clear hc
            have HL := Lib.hid hLeft
            clear hLeft
            replace KP := Lib.hid ((bz12.block _ LP.out).trans KP.out)
            replace LP := Lib.hid (Nat.lt_of_lt_of_le LP.out bz12.size)
            replace KQ := Lib.hid ((bz12.block _ LQ.out).trans KQ.out)
            replace LQ := Lib.hid (Nat.lt_of_lt_of_le LQ.out bz12.size)
            replace KR := Lib.hid ((bz12.block _ LR.out).trans KR.out)
            replace LR := Lib.hid (Nat.lt_of_lt_of_le LR.out bz12.size)
            replace KM := Lib.hid ((bz12.block _ LM.out).trans KM.out)
            replace LM := Lib.hid (Nat.lt_of_lt_of_le LM.out bz12.size)
            replace BB := Lib.hid (BB.out.trans (bz12.mono BB.out.size))
            replace BA := Lib.hid (BA.out.trans (bz12.mono BA.out.size))
            clear bz12
            have BC : Hid (Below z12.heap.size z12 z12) := Lib.hid (Below.refl _ _)
            go_wp2_with fail
            refine hK.out _ _ (HSS.out _ KP.out KQ.out) (fun hHeld => ?_)
            clear hK K
            try simp only [getElem_toArray, getElem_cons_zero, getElem_cons_succ, Act.put, setIfInBounds_toArray, set_cons_zero, set_cons_succ]
            refine tk0 7 ?_
            refine tk0 8 ?_
            refine tk0 9 ?_
            refine wpAnyH_ready (rs := [10]) (by kernel_rfl) (by simp) ?_
            refine AllReadyH.cons rfl (fun K hK => ?_) (AllReadyH.nil)
            go_simp
            obtain ⟨z13, hz13⟩ : ∃ z, z = z12.alloc (.cells #[.slice none 0 0, .slice none 0 0] 27) := ⟨_, rfl⟩
            rw [← hz13]
            have bz13 : Below z12.heap.size z12 z13 := by rw [hz13]; exact (Below.refl _ _).alloc (Nat.le_refl _) _
            have sz13 : Hid (z13.heap.size = z12.heap.size + 1) := Lib.hid (by rw [hz13]; simp)
            have yA : Hid (w1.heap.size ≤ z12.heap.size) := Lib.hid BA.out.size
            replace KP := Lib.hid ((bz13.block _ LP.out).trans KP.out)
            replace LP := Lib.hid (Nat.lt_of_lt_of_le LP.out bz13.size)
            replace KQ := Lib.hid ((bz13.block _ LQ.out).trans KQ.out)
            replace LQ := Lib.hid (Nat.lt_of_lt_of_le LQ.out bz13.size)
            replace KR := Lib.hid ((bz13.block _ LR.out).trans KR.out)
            replace LR := Lib.hid (Nat.lt_of_lt_of_le LR.out bz13.size)
            replace KM := Lib.hid ((bz13.block _ LM.out).trans KM.out)
            replace LM := Lib.hid (Nat.lt_of_lt_of_le LM.out bz13.size)
            replace BB := Lib.hid (BB.out.trans (bz13.mono BB.out.size))
            replace BA := Lib.hid (BA.out.trans (bz13.mono BA.out.size))
            replace BC := Lib.hid (BC.out.trans (bz13.mono BC.out.size))
            have KY : Hid (z13.heap[z12.heap.size]? = some (.cells #[.slice none 0 0, .slice none 0 0] 27 (0, 0))) := Lib.hid (by rw [hz13]; exact heap_new _ _)
            have LY : Hid (z12.heap.size < z13.heap.size) := Lib.hid (by have := sz13.out; omega)
            clear bz13 hz13
            refine hK.out _ _ (HSS.out _ KP.out KQ.out) (fun hHeld => ?_)
            clear hK K
            try simp only [getElem_toArray, getElem_cons_zero, getElem_cons_succ, Act.put, setIfInBounds_toArray, set_cons_zero, set_cons_succ]
            have fY0 := cell_of_row z13 _ 0 _ _ _ KY.out
            have fY1 := cell_of_row z13 _ 1 _ _ _ KY.out
            simp only [List.getElem?_toArray, List.getElem?_cons_zero, List.getElem?_cons_succ] at fY0 fY1
            have zY0 := frozen_of_row z13 _ 0 _ _ KY.out
            have zY1 := frozen_of_row z13 _ 1 _ _ KY.out
            refine wpAnyH_ready (rs := [11]) (by kernel_rfl) (by simp) ?_
            refine AllReadyH.cons rfl (fun K hK => ?_) (AllReadyH.nil)
            go_simp
            obtain ⟨Y, hY⟩ : ∃ Y, Y = (z13.setCell ⟨z12.heap.size, 0, none⟩ (.slice b0 n0 c0)).setCell ⟨z12.heap.size, 1, none⟩ (.slice b1 n1 c1) := ⟨_, rfl⟩
            rw [← hY]
            have f1 := heap_setCell_same _ (z12.heap.size) 0 _ _ (.slice b0 n0 c0) KY.out
            have f2 := heap_setCell_same _ (z12.heap.size) 1 _ _ (.slice b1 n1 c1) f1
            rw [← hY] at f2
            have gY : z13.grownBy Y (some (z12.heap.size)) := by rw [hY]; exact (grown_set _ ⟨z12.heap.size, 0, none⟩ _).trans (grown_set _ ⟨z12.heap.size, 1, none⟩ _)
            clear fY0 fY1
            clear zY0 zY1
            clear hY f1
            simp only [List.setIfInBounds_toArray, List.set_cons_zero, List.set_cons_succ] at f2
            have F2 := Lib.hid f2
            have hBw : B ≤ z12.heap.size := Nat.le_trans hB (Nat.le_trans B1s.out yA.out)
            have HST : Hid (EE = true → StV Y Y.heap.size (.agg #[.slice b0 n0 c0, .slice b1 n1 c1]) (stepS s x)) := Lib.hid (fun h => HL.out h Y (.inr (BC.out.grown gY BC.out.size (fun k hk => by cases hk; exact Nat.le_refl _))))
            have LY2 : Hid (z12.heap.size < Y.heap.size) := Lib.hid (Nat.lt_of_lt_of_le LY.out gY.size)
            have BA2 : Hid (Below w1.heap.size w1 Y) := Lib.hid (BA.out.grown gY BA.out.size (fun k hk => by cases hk; exact yA.out))
            have KPy := Lib.hid ((gY.block _ LP.out (fun e => by have := yA.out; have := LPa.out; simp only [Option.some.injEq] at e; omega)).trans KP.out)
            have KQy := Lib.hid ((gY.block _ LQ.out (fun e => by have := yA.out; have := LQa.out; simp only [Option.some.injEq] at e; omega)).trans KQ.out)
            refine hK.out _ _ (HSS.out _ KPy.out KQy.out) (fun hHeld => ?_)
            clear hK K gY f2
            try simp only [getElem_toArray, getElem_cons_zero, getElem_cons_succ, Act.put, setIfInBounds_toArray, set_cons_zero, set_cons_succ]
            refine tk0 12 ?_
            refine wpAnyH_done (by kernel_rfl) ?_ _
            clear hHeld
            go_wp2_with fail
            go_meet
            exact ⟨z12.heap.size, b0, n0, c0, b1, n1, c1, rfl, rfl, F2, HST, BA2, Lib.hid ⟨yA.out, LY2.out⟩⟩
          · go_simp
            obtain ⟨z14, hz14⟩ : ∃ z, z = z11.alloc (.cells #[.slice none 0 0, .slice none 0 0] 27) := ⟨_, rfl⟩
            rw [← hz14]
            have bz14 : Below z11.heap.size z11 z14 := by rw [hz14]; exact (Below.refl _ _).alloc (Nat.le_refl _) _
            have sz14 : Hid (z14.heap.size = z11.heap.size + 1) := Lib.hid (by rw [hz14]; simp)
            have yA : Hid (w1.heap.size ≤ z11.heap.size) := Lib.hid BA.out.size
            replace KP := Lib.hid ((bz14.block _ LP.out).trans KP.out)
            replace LP := Lib.hid (Nat.lt_of_lt_of_le LP.out bz14.size)
            replace KQ := Lib.hid ((bz14.block _ LQ.out).trans KQ.out)
            replace LQ := Lib.hid (Nat.lt_of_lt_of_le LQ.out bz14.size)
            replace KR := Lib.hid ((bz14.block _ LR.out).trans KR.out)
            replace LR := Lib.hid (Nat.lt_of_lt_of_le LR.out bz14.size)
            replace KM := Lib.hid ((bz14.block _ LM.out).trans KM.out)
            replace LM := Lib.hid (Nat.lt_of_lt_of_le LM.out bz14.size)
            replace BB := Lib.hid (BB.out.trans (bz14.mono BB.out.size))
            replace BA := Lib.hid (BA.out.trans (bz14.mono BA.out.size))
            have KY : Hid (z14.heap[z11.heap.size]? = some (.cells #[.slice none 0 0, .slice none 0 0] 27 (0, 0))) := Lib.hid (by rw [hz14]; exact heap_new _ _)
            have LY : Hid (z11.heap.size < z14.heap.size) := Lib.hid (by have := sz14.out; omega)
            clear bz14 hz14
            refine hK.out _ _ (HSS.out _ KP.out KQ.out) (fun hHeld => ?_)
            clear hK K
            try simp only [getElem_toArray, getElem_cons_zero, getElem_cons_succ, Act.put, setIfInBounds_toArray, set_cons_zero, set_cons_succ]
            refine wpAnyH_ready (rs := [6]) (by kernel_rfl) (by simp) ?_
            refine AllReadyH.cons rfl (fun K hK => ?_) (AllReadyH.nil)
            have hc := step_put s _ x B z14 (HS.out.later (BB.out.mono hB) (Nat.le_refl _)) (Nat.le_trans hB BB.out.size) HO.out Hx.out Hn.out
            unfold rqA at hc
            go_simp
            go_at_call 103
            refine hc.mono ?_
            rintro e z15 ⟨b0, n0, c0, b1, n1, c1, rfl, hLeft, bz15⟩
            rw [← HEE.out] at hLeft ⊢
            clear hc
            have HL := Lib.hid hLeft
            clear hLeft
            have LYc := LY
            replace KP := Lib.hid ((bz15.block _ LP.out).trans KP.out)
            replace LP := Lib.hid (Nat.lt_of_lt_of_le LP.out bz15.size)
            replace KQ := Lib.hid ((bz15.block _ LQ.out).trans KQ.out)
            replace LQ := Lib.hid (Nat.lt_of_lt_of_le LQ.out bz15.size)
            replace KR := Lib.hid ((bz15.block _ LR.out).trans KR.out)
            replace LR := Lib.hid (Nat.lt_of_lt_of_le LR.out bz15.size)
            replace KM := Lib.hid ((bz15.block _ LM.out).trans KM.out)
            replace LM := Lib.hid (Nat.lt_of_lt_of_le LM.out bz15.size)
            replace KY := Lib.hid ((bz15.block _ LY.out).trans KY.out)
            replace LY := Lib.hid (Nat.lt_of_lt_of_le LY.out bz15.size)
            replace BB := Lib.hid (BB.out.trans (bz15.mono BB.out.size))
            replace BA := Lib.hid (BA.out.trans (bz15.mono BA.out.size))
            clear bz15
            have BC : Hid (Below z15.heap.size z15 z15) := Lib.hid (Below.refl _ _)
            go_wp2_with fail
            refine hK.out _ _ (HSS.out _ KP.out KQ.out) (fun hHeld => ?_)
            clear hK K
            try simp only [getElem_toArray, getElem_cons_zero, getElem_cons_succ, Act.put, setIfInBounds_toArray, set_cons_zero, set_cons_succ]
            refine tk0 7 ?_
            refine tk0 8 ?_
            refine tk0 9 ?_
            have fY0 := cell_of_row z15 _ 0 _ _ _ KY.out
            have fY1 := cell_of_row z15 _ 1 _ _ _ KY.out
            simp only [List.getElem?_toArray, List.getElem?_cons_zero, List.getElem?_cons_succ] at fY0 fY1
            have zY0 := frozen_of_row z15 _ 0 _ _ KY.out
            have zY1 := frozen_of_row z15 _ 1 _ _ KY.out
            refine wpAnyH_ready (rs := [11]) (by kernel_rfl) (by simp) ?_
            refine AllReadyH.cons rfl (fun K hK => ?_) (AllReadyH.nil)
            go_simp
            obtain ⟨Y, hY⟩ : ∃ Y, Y = (z15.setCell ⟨z11.heap.size, 0, none⟩ (.slice b0 n0 c0)).setCell ⟨z11.heap.size, 1, none⟩ (.slice b1 n1 c1) := ⟨_, rfl⟩
            rw [← hY]
            have f1 := heap_setCell_same _ (z11.heap.size) 0 _ _ (.slice b0 n0 c0) KY.out
            have f2 := heap_setCell_same _ (z11.heap.size) 1 _ _ (.slice b1 n1 c1) f1
            rw [← hY] at f2
            have gY : z15.grownBy Y (some (z11.heap.size)) := by rw [hY]; exact (grown_set _ ⟨z11.heap.size, 0, none⟩ _).trans (grown_set _ ⟨z11.heap.size, 1, none⟩ _)
            clear fY0 fY1
            clear zY0 zY1
            clear hY f1
            simp only [List.setIfInBounds_toArray, List.set_cons_zero, List.set_cons_succ] at f2
            have F2 := Lib.hid f2
            have hBw : B ≤ z11.heap.size := Nat.le_trans hB (Nat.le_trans B1s.out yA.out)
            have HST : Hid (EE = true → StV Y Y.heap.size (.agg #[.slice b0 n0 c0, .slice b1 n1 c1]) (stepS s x)) := Lib.hid (fun h => HL.out h Y (.inl ⟨_, hBw, LYc.out, gY⟩))
            have LY2 : Hid (z11.heap.size < Y.heap.size) := Lib.hid (Nat.lt_of_lt_of_le LY.out gY.size)
            have BA2 : Hid (Below w1.heap.size w1 Y) := Lib.hid (BA.out.grown gY BA.out.size (fun k hk => by cases hk; exact yA.out))
            have KPy := Lib.hid ((gY.block _ LP.out (fun e => by have := yA.out; have := LPa.out; simp only [Option.some.injEq] at e; omega)).trans KP.out)
            have KQy := Lib.hid ((gY.block _ LQ.out (fun e => by have := yA.out; have := LQa.out; simp only [Option.some.injEq] at e; omega)).trans KQ.out)
            refine hK.out _ _ (HSS.out _ KPy.out KQy.out) (fun hHeld => ?_)
            clear hK K gY f2
            try simp only [getElem_toArray, getElem_cons_zero, getElem_cons_succ, Act.put, setIfInBounds_toArray, set_cons_zero, set_cons_succ]
            refine tk0 12 ?_
            refine wpAnyH_done (by kernel_rfl) ?_ _
            clear hHeld
            go_wp2_with fail
            go_meet
            exact ⟨z11.heap.size, b0, n0, c0, b1, n1, c1, rfl, rfl, F2, HST, BA2, Lib.hid ⟨yA.out, LY2.out⟩⟩
        · go_simp
          obtain ⟨z16, hz16⟩ : ∃ z, z = z11.alloc (.cells #[.slice none 0 0, .slice none 0 0] 27) := ⟨_, rfl⟩
          rw [← hz16]
          have bz16 : Below z11.heap.size z11 z16 := by rw [hz16]; exact (Below.refl _ _).alloc (Nat.le_refl _) _
          have sz16 : Hid (z16.heap.size = z11.heap.size + 1) := Lib.hid (by rw [hz16]; simp)
          have yA : Hid (w1.heap.size ≤ z11.heap.size) := Lib.hid BA.out.size
          replace KP := Lib.hid ((bz16.block _ LP.out).trans KP.out)
          replace LP := Lib.hid (Nat.lt_of_lt_of_le LP.out bz16.size)
          replace KQ := Lib.hid ((bz16.block _ LQ.out).trans KQ.out)
          replace LQ := Lib.hid (Nat.lt_of_lt_of_le LQ.out bz16.size)
          replace KR := Lib.hid ((bz16.block _ LR.out).trans KR.out)
          replace LR := Lib.hid (Nat.lt_of_lt_of_le LR.out bz16.size)
          replace KM := Lib.hid ((bz16.block _ LM.out).trans KM.out)
          replace LM := Lib.hid (Nat.lt_of_lt_of_le LM.out bz16.size)
          replace BB := Lib.hid (BB.out.trans (bz16.mono BB.out.size))
          replace BA := Lib.hid (BA.out.trans (bz16.mono BA.out.size))
          have KY : Hid (z16.heap[z11.heap.size]? = some (.cells #[.slice none 0 0, .slice none 0 0] 27 (0, 0))) := Lib.hid (by rw [hz16]; exact heap_new _ _)
          have LY : Hid (z11.heap.size < z16.heap.size) := Lib.hid (by have := sz16.out; omega)
          clear bz16 hz16
          refine hK.out _ _ (HSS.out _ KP.out KQ.out) (fun hHeld => ?_)
          clear hK K
          try simp only [getElem_toArray, getElem_cons_zero, getElem_cons_succ, Act.put, setIfInBounds_toArray, set_cons_zero, set_cons_succ]
          refine wpAnyH_ready (rs := [3]) (by kernel_rfl) (by simp) ?_
          refine AllReadyH.cons rfl (fun K hK => ?_) (AllReadyH.nil)
          have hl := Hlk.out z16 _ KM.out
          go_simp
          clear hl
          refine hK.out _ _ (HSS.out _ KP.out KQ.out) (fun hHeld => ?_)
          clear hK K
          try simp only [getElem_toArray, getElem_cons_zero, getElem_cons_succ, Act.put, setIfInBounds_toArray, set_cons_zero, set_cons_succ]
          refine wpAnyH_ready (rs := [6]) (by kernel_rfl) (by simp) ?_
          refine AllReadyH.cons rfl (fun K hK => ?_) (AllReadyH.nil)
          have hc := step_put s _ x B z16 (HS.out.later (BB.out.mono hB) (Nat.le_refl _)) (Nat.le_trans hB BB.out.size) HO.out Hx.out Hn.out
          unfold rqA at hc
          go_simp
          go_at_call 103
          refine hc.mono ?_
          rintro e z17 ⟨b0, n0, c0, b1, n1, c1, rfl, hLeft, bz17⟩
          rw [← HEE.out] at hLeft ⊢
          clear hc
          have HL := Lib.hid hLeft
          clear hLeft
          have LYc := LY
          replace KP := Lib.hid ((bz17.block _ LP.out).trans KP.out)
          replace LP := Lib.hid (Nat.lt_of_lt_of_le LP.out bz17.size)
          replace KQ := Lib.hid ((bz17.block _ LQ.out).trans KQ.out)
          replace LQ := Lib.hid (Nat.lt_of_lt_of_le LQ.out bz17.size)
          replace KR := Lib.hid ((bz17.block _ LR.out).trans KR.out)
          replace LR := Lib.hid (Nat.lt_of_lt_of_le LR.out bz17.size)
          replace KM := Lib.hid ((bz17.block _ LM.out).trans KM.out)
          replace LM := Lib.hid (Nat.lt_of_lt_of_le LM.out bz17.size)
          replace KY := Lib.hid ((bz17.block _ LY.out).trans KY.out)
          replace LY := Lib.hid (Nat.lt_of_lt_of_le LY.out bz17.size)
          replace BB := Lib.hid (BB.out.trans (bz17.mono BB.out.size))
          replace BA := Lib.hid (BA.out.trans (bz17.mono BA.out.size))
          clear bz17
          have BC : Hid (Below z17.heap.size z17 z17) := Lib.hid (Below.refl _ _)
          go_wp2_with fail
          refine hK.out _ _ (HSS.out _ KP.out KQ.out) (fun hHeld => ?_)
          clear hK K
          try simp only [getElem_toArray, getElem_cons_zero, getElem_cons_succ, Act.put, setIfInBounds_toArray, set_cons_zero, set_cons_succ]
          refine tk0 7 ?_
          refine tk0 8 ?_
          refine tk0 9 ?_
          have fY0 := cell_of_row z17 _ 0 _ _ _ KY.out
          have fY1 := cell_of_row z17 _ 1 _ _ _ KY.out
          simp only [List.getElem?_toArray, List.getElem?_cons_zero, List.getElem?_cons_succ] at fY0 fY1
          have zY0 := frozen_of_row z17 _ 0 _ _ KY.out
          have zY1 := frozen_of_row z17 _ 1 _ _ KY.out
          refine wpAnyH_ready (rs := [11]) (by kernel_rfl) (by simp) ?_
          refine AllReadyH.cons rfl (fun K hK => ?_) (AllReadyH.nil)
          go_simp
          obtain ⟨Y, hY⟩ : ∃ Y, Y = (z17.setCell ⟨z11.heap.size, 0, none⟩ (.slice b0 n0 c0)).setCell ⟨z11.heap.size, 1, none⟩ (.slice b1 n1 c1) := ⟨_, rfl⟩
          rw [← hY]
          have f1 := heap_setCell_same _ (z11.heap.size) 0 _ _ (.slice b0 n0 c0) KY.out
          have f2 := heap_setCell_same _ (z11.heap.size) 1 _ _ (.slice b1 n1 c1) f1
          rw [← hY] at f2
          have gY : z17.grownBy Y (some (z11.heap.size)) := by rw [hY]; exact (grown_set _ ⟨z11.heap.size, 0, none⟩ _).trans (grown_set _ ⟨z11.heap.size, 1, none⟩ _)
          clear fY0 fY1
          clear zY0 zY1
          clear hY f1
          simp only [List.setIfInBounds_toArray, List.set_cons_zero, List.set_cons_succ] at f2
          have F2 := Lib.hid f2
          have hBw : B ≤ z11.heap.size := Nat.le_trans hB (Nat.le_trans B1s.out yA.out)
          have HST : Hid (EE = true → StV Y Y.heap.size (.agg #[.slice b0 n0 c0, .slice b1 n1 c1]) (stepS s x)) := Lib.hid (fun h => HL.out h Y (.inl ⟨_, hBw, LYc.out, gY⟩))
          have LY2 : Hid (z11.heap.size < Y.heap.size) := Lib.hid (Nat.lt_of_lt_of_le LY.out gY.size)
          have BA2 : Hid (Below w1.heap.size w1 Y) := Lib.hid (BA.out.grown gY BA.out.size (fun k hk => by cases hk; exact yA.out))
          have KPy := Lib.hid ((gY.block _ LP.out (fun e => by have := yA.out; have := LPa.out; simp only [Option.some.injEq] at e; omega)).trans KP.out)
          have KQy := Lib.hid ((gY.block _ LQ.out (fun e => by have := yA.out; have := LQa.out; simp only [Option.some.injEq] at e; omega)).trans KQ.out)
          refine hK.out _ _ (HSS.out _ KPy.out KQy.out) (fun hHeld => ?_)
          clear hK K gY f2
          try simp only [getElem_toArray, getElem_cons_zero, getElem_cons_succ, Act.put, setIfInBounds_toArray, set_cons_zero, set_cons_succ]
          refine tk0 12 ?_
          refine wpAnyH_done (by kernel_rfl) ?_ _
          clear hHeld
          go_wp2_with fail
          go_meet
          exact ⟨z11.heap.size, b0, n0, c0, b1, n1, c1, rfl, rfl, F2, HST, BA2, Lib.hid ⟨yA.out, LY2.out⟩⟩
      · go_simp
        obtain ⟨z18, hz18⟩ : ∃ z, z = zD.alloc (.cells #[.slice none 0 0, .slice none 0 0] 27) := ⟨_, rfl⟩
        rw [← hz18]
        have bz18 : Below zD.heap.size zD z18 := by rw [hz18]; exact (Below.refl _ _).alloc (Nat.le_refl _) _
        have sz18 : Hid (z18.heap.size = zD.heap.size + 1) := Lib.hid (by rw [hz18]; simp)
        have yA : Hid (w1.heap.size ≤ zD.heap.size) := Lib.hid BA.out.size
        replace KP := Lib.hid ((bz18.block _ LP.out).trans KP.out)
        replace LP := Lib.hid (Nat.lt_of_lt_of_le LP.out bz18.size)
        replace KQ := Lib.hid ((bz18.block _ LQ.out).trans KQ.out)
        replace LQ := Lib.hid (Nat.lt_of_lt_of_le LQ.out bz18.size)
        replace KR := Lib.hid ((bz18.block _ LR.out).trans KR.out)
        replace LR := Lib.hid (Nat.lt_of_lt_of_le LR.out bz18.size)
        replace BB := Lib.hid (BB.out.trans (bz18.mono BB.out.size))
        replace BA := Lib.hid (BA.out.trans (bz18.mono BA.out.size))
        have KY : Hid (z18.heap[zD.heap.size]? = some (.cells #[.slice none 0 0, .slice none 0 0] 27 (0, 0))) := Lib.hid (by rw [hz18]; exact heap_new _ _)
        have LY : Hid (zD.heap.size < z18.heap.size) := Lib.hid (by have := sz18.out; omega)
        clear bz18 hz18
        refine hK.out _ _ (HSS.out _ KP.out KQ.out) (fun hHeld => ?_)
        clear hK K
        try simp only [getElem_toArray, getElem_cons_zero, getElem_cons_succ, Act.put, setIfInBounds_toArray, set_cons_zero, set_cons_succ]
        refine wpAnyH_ready (rs := [0]) (by kernel_rfl) (by simp) ?_
        refine AllReadyH.cons rfl (fun K hK => ?_) (AllReadyH.nil)
        go_simp
        go_at_call 92
        refine (impl_changes _).mono ?_
        rintro e z19 ⟨rfl, hz19⟩
        have bz19 : Below z18.heap.size z18 z19 := by rw [hz19]; exact (Below.refl _ _).alloc (Nat.le_refl _) _
        replace KP := Lib.hid ((bz19.block _ LP.out).trans KP.out)
        replace LP := Lib.hid (Nat.lt_of_lt_of_le LP.out bz19.size)
        replace KQ := Lib.hid ((bz19.block _ LQ.out).trans KQ.out)
        replace LQ := Lib.hid (Nat.lt_of_lt_of_le LQ.out bz19.size)
        replace KR := Lib.hid ((bz19.block _ LR.out).trans KR.out)
        replace LR := Lib.hid (Nat.lt_of_lt_of_le LR.out bz19.size)
        replace KY := Lib.hid ((bz19.block _ LY.out).trans KY.out)
        replace LY := Lib.hid (Nat.lt_of_lt_of_le LY.out bz19.size)
        replace BB := Lib.hid (BB.out.trans (bz19.mono BB.out.size))
        replace BA := Lib.hid (BA.out.trans (bz19.mono BA.out.size))
        have KM : Hid (z19.heap[z18.heap.size]? = some (.map chEs 3)) := Lib.hid (by rw [hz19]; exact heap_new _ _)
        have LM : Hid (z18.heap.size < z19.heap.size) := Lib.hid (by rw [hz19]; simp)
        clear bz19 hz19
        go_wp2_with fail
        refine hK.out _ _ (HSS.out _ KP.out KQ.out) (fun hHeld => ?_)
        clear hK K
        try simp only [getElem_toArray, getElem_cons_zero, getElem_cons_succ, Act.put, setIfInBounds_toArray, set_cons_zero, set_cons_succ]
        refine wpAnyH_ready (rs := [3]) (by kernel_rfl) (by simp) ?_
        refine AllReadyH.cons rfl (fun K hK => ?_) (AllReadyH.nil)
        have hl := Hlk.out z19 _ KM.out
        go_simp
        clear hl
        refine hK.out _ _ (HSS.out _ KP.out KQ.out) (fun hHeld => ?_)
        clear hK K
        try simp only [getElem_toArray, getElem_cons_zero, getElem_cons_succ, Act.put, setIfInBounds_toArray, set_cons_zero, set_cons_succ]
        refine wpAnyH_ready (rs := [6]) (by kernel_rfl) (by simp) ?_
        refine AllReadyH.cons rfl (fun K hK => ?_) (AllReadyH.nil)
        have hc := step_put s _ x B z19 (HS.out.later (BB.out.mono hB) (Nat.le_refl _)) (Nat.le_trans hB BB.out.size) HO.out Hx.out Hn.out
        unfold rqA at hc
        go_simp
        go_at_call 103
        refine hc.mono ?_
        rintro e z20 ⟨b0, n0, c0, b1, n1, c1, rfl, hLeft, bz20⟩
        rw [← HEE.out] at hLeft ⊢
        clear hc
        have HL := Lib.hid hLeft
        clear hLeft
        have LYc := LY
        replace KP := Lib.hid ((bz20.block _ LP.out).trans KP.out)
        replace LP := Lib.hid (Nat.lt_of_lt_of_le LP.out bz20.size)
        replace KQ := Lib.hid ((bz20.block _ LQ.out).trans KQ.out)
        replace LQ := Lib.hid (Nat.lt_of_lt_of_le LQ.out bz20.size)
        replace KR := Lib.hid ((bz20.block _ LR.out).trans KR.out)
        replace LR := Lib.hid (Nat.lt_of_lt_of_le LR.out bz20.size)
        replace KY := Lib.hid ((bz20.block _ LY.out).trans KY.out)
        replace LY := Lib.hid (Nat.lt_of_lt_of_le LY.out bz20.size)
        replace KM := Lib.hid ((bz20.block _ LM.out).trans KM.out)
        replace LM := Lib.hid (Nat.lt_of_lt_of_le LM.out bz20.size)
        replace BB := Lib.hid (BB.out.trans (bz20.mono BB.out.size))
        replace BA := Lib.hid (BA.out.trans (bz20.mono BA.out.size))
        clear bz20
        have BC : Hid (Below z20.heap.size z20 z20) := Lib.hid (Below.refl _ _)
        go_wp2_with fail
        refine hK.out _ _ (HSS.out _ KP.out KQ.out) (fun hHeld => ?_)
        clear hK K
        try simp only [getElem_toArray, getElem_cons_zero, getElem_cons_succ, Act.put, setIfInBounds_toArray, set_cons_zero, set_cons_succ]
        refine tk0 7 ?_
        refine tk0 8 ?_
        refine tk0 9 ?_
        have fY0 := cell_of_row z20 _ 0 _ _ _ KY.out
        have fY1 := cell_of_row z20 _ 1 _ _ _ KY.out
        simp only [List.getElem?_toArray, List.getElem?_cons_zero, List.getElem?_cons_succ] at fY0 fY1
        have zY0 := frozen_of_row z20 _ 0 _ _ KY.out
        have zY1 := frozen_of_row z20 _ 1 _ _ KY.out
        refine wpAnyH_ready (rs := [11]) (by kernel_rfl) (by simp) ?_
        refine AllReadyH.cons rfl (fun K hK => ?_) (AllReadyH.nil)
        go_simp
        obtain ⟨Y, hY⟩ : ∃ Y, Y = (z20.setCell ⟨zD.heap.size, 0, none⟩ (.slice b0 n0 c0)).setCell ⟨zD.heap.size, 1, none⟩ (.slice b1 n1 c1) := ⟨_, rfl⟩
        rw [← hY]
        have f1 := heap_setCell_same _ (zD.heap.size) 0 _ _ (.slice b0 n0 c0) KY.out
        have f2 := heap_setCell_same _ (zD.heap.size) 1 _ _ (.slice b1 n1 c1) f1
        rw [← hY] at f2
        have gY : z20.grownBy Y (some (zD.heap.size)) := by rw [hY]; exact (grown_set _ ⟨zD.heap.size, 0, none⟩ _).trans (grown_set _ ⟨zD.heap.size, 1, none⟩ _)
        clear fY0 fY1
        clear zY0 zY1
        clear hY f1
        simp only [List.setIfInBounds_toArray, List.set_cons_zero, List.set_cons_succ] at f2
        have F2 := Lib.hid f2
        have hBw : B ≤ zD.heap.size := Nat.le_trans hB (Nat.le_trans B1s.out yA.out)
        have HST : Hid (EE = true → StV Y Y.heap.size (.agg #[.slice b0 n0 c0, .slice b1 n1 c1]) (stepS s x)) := Lib.hid (fun h => HL.out h Y (.inl ⟨_, hBw, LYc.out, gY⟩))
        have LY2 : Hid (zD.heap.size < Y.heap.size) := Lib.hid (Nat.lt_of_lt_of_le LY.out gY.size)
        have BA2 : Hid (Below w1.heap.size w1 Y) := Lib.hid (BA.out.grown gY BA.out.size (fun k hk => by cases hk; exact yA.out))
        have KPy := Lib.hid ((gY.block _ LP.out (fun e => by have := yA.out; have := LPa.out; simp only [Option.some.injEq] at e; omega)).trans KP.out)
        have KQy := Lib.hid ((gY.block _ LQ.out (fun e => by have := yA.out; have := LQa.out; simp only [Option.some.injEq] at e; omega)).trans KQ.out)
        refine hK.out _ _ (HSS.out _ KPy.out KQy.out) (fun hHeld => ?_)
        clear hK K gY f2
        try simp only [getElem_toArray, getElem_cons_zero, getElem_cons_succ, Act.put, setIfInBounds_toArray, set_cons_zero, set_cons_succ]
        refine tk0 12 ?_
        refine wpAnyH_done (by kernel_rfl) ?_ _
        clear hHeld
        go_wp2_with fail
        go_meet
        exact ⟨zD.heap.size, b0, n0, c0, b1, n1, c1, rfl, rfl, F2, HST, BA2, Lib.hid ⟨yA.out, LY2.out⟩⟩
    · have Hlk : Hid (∀ (w : World) (b : Nat), w.heap[b]? = some (.map chEs 3) → (Instr.lookup 136 (.map (some b)) (.int .i64 x.n) false).run Tryz.prog w = .ok (.func (.func 104) #[] #[]) w) := Lib.hid (fun w b h => by rw [hn]; exact look2 w b h)
      have Hn := Lib.hid hn
      clear hn
      refine wp_region_held_drew (S := (fun w' => (w'.cell? ⟨w.heap.size, 0, none⟩ = some (vi) ∧ w'.cell? ⟨w.heap.size, 1, none⟩ = some (vt)) ∧ (w'.cell? ⟨w.heap.size + 1, 0, none⟩ = some (.string x.c) ∧ w'.cell? ⟨w.heap.size + 1, 1, none⟩ = some (.int .i64 x.q) ∧ w'.cell? ⟨w.heap.size + 1, 2, none⟩ = some (.int .i64 x.n) ∧ w'.cell? ⟨w.heap.size + 1, 3, none⟩ = some (.string x.k) ∧ w'.cell? ⟨w.heap.size + 1, 4, none⟩ = some (.string x.v)))) (by kernel_rfl) (HSS.out w1.drew KP.out KQ.out) (fun hHeld => ?_)
      obtain ⟨zD, hzD⟩ : ∃ z, z = w1.drew := ⟨_, rfl⟩
      rw [← hzD] at hHeld ⊢
      have bzD : Below w1.heap.size w1 zD := by rw [hzD]; exact (Below.refl _ _).drew
      have BA : Hid (Below w1.heap.size w1 zD) := Lib.hid bzD
      have Ba0 := Lib.hid bzD.size
      replace KP := Lib.hid ((bzD.block _ LP.out).trans KP.out)
      replace LP := Lib.hid (Nat.lt_of_lt_of_le LP.out bzD.size)
      replace KQ := Lib.hid ((bzD.block _ LQ.out).trans KQ.out)
      replace LQ := Lib.hid (Nat.lt_of_lt_of_le LQ.out bzD.size)
      replace KR := Lib.hid ((bzD.block _ LR.out).trans KR.out)
      replace LR := Lib.hid (Nat.lt_of_lt_of_le LR.out bzD.size)
      replace BB := Lib.hid (BB.out.trans (bzD.mono BB.out.size))
      clear bzD hzD
      refine tk0 1 ?_
      refine tk 2 (v := ?_) ?_ ?_; rotate_left
      · refine Or.inl ⟨by rfl, ?_⟩; intro w hSw; obtain ⟨⟨gP0, gP1⟩, gQ0, gQ1, gQ2, gQ3, gQ4⟩ := hSw; go_simp; first | done | with_reducible rfl
      refine tk 4 (v := ?_) ?_ ?_; rotate_left
      · refine Or.inl ⟨by rfl, ?_⟩; intro w hSw; obtain ⟨⟨gP0, gP1⟩, gQ0, gQ1, gQ2, gQ3, gQ4⟩ := hSw; go_simp; first | done | with_reducible rfl
      refine tk 5 (v := ?_) ?_ ?_; rotate_left
      · refine Or.inl ⟨by rfl, ?_⟩; intro w hSw; obtain ⟨⟨gP0, gP1⟩, gQ0, gQ1, gQ2, gQ3, gQ4⟩ := hSw; go_simp; first | done | with_reducible rfl
      refine wpAnyH_ready (rs := [0, 10]) (by kernel_rfl) (by simp) ?_
      refine AllReadyH.cons rfl (fun K hK => ?_) (AllReadyH.cons rfl (fun K hK => ?_) (AllReadyH.nil))
      · go_simp
        go_at_call 92
        refine (impl_changes _).mono ?_
        rintro e z21 ⟨rfl, hz21⟩
        have bz21 : Below zD.heap.size zD z21 := by rw [hz21]; exact (Below.refl _ _).alloc (Nat.le_refl _) _
        replace KP := Lib.hid ((bz21.block _ LP.out).trans KP.out)
        replace LP := Lib.hid (Nat.lt_of_lt_of_le LP.out bz21.size)
        replace KQ := Lib.hid ((bz21.block _ LQ.out).trans KQ.out)
        replace LQ := Lib.hid (Nat.lt_of_lt_of_le LQ.out bz21.size)
        replace KR := Lib.hid ((bz21.block _ LR.out).trans KR.out)
        replace LR := Lib.hid (Nat.lt_of_lt_of_le LR.out bz21.size)
        replace BB := Lib.hid (BB.out.trans (bz21.mono BB.out.size))
        replace BA := Lib.hid (BA.out.trans (bz21.mono BA.out.size))
        have KM : Hid (z21.heap[zD.heap.size]? = some (.map chEs 3)) := Lib.hid (by rw [hz21]; exact heap_new _ _)
        have LM : Hid (zD.heap.size < z21.heap.size) := Lib.hid (by rw [hz21]; simp)
        clear bz21 hz21
        go_wp2_with fail
        refine hK.out _ _ (HSS.out _ KP.out KQ.out) (fun hHeld => ?_)
        clear hK K
        try simp only [getElem_toArray, getElem_cons_zero, getElem_cons_succ, Act.put, setIfInBounds_toArray, set_cons_zero, set_cons_succ]
        refine wpAnyH_ready (rs := [3, 10]) (by kernel_rfl) (by simp) ?_
        refine AllReadyH.cons rfl (fun K hK => ?_) (AllReadyH.cons rfl (fun K hK => ?_) (AllReadyH.nil))
        · have hl := Hlk.out z21 _ KM.out
          go_simp
          clear hl
          refine hK.out _ _ (HSS.out _ KP.out KQ.out) (fun hHeld => ?_)
          clear hK K
          try simp only [getElem_toArray, getElem_cons_zero, getElem_cons_succ, Act.put, setIfInBounds_toArray, set_cons_zero, set_cons_succ]
          refine wpAnyH_ready (rs := [6, 10]) (by kernel_rfl) (by simp) ?_
          refine AllReadyH.cons rfl (fun K hK => ?_) (AllReadyH.cons rfl (fun K hK => ?_) (AllReadyH.nil))
          · have hc := step_delete s _ x B z21 (HS.out.later (BB.out.mono hB) (Nat.le_refl _)) (Nat.le_trans hB BB.out.size) HO.out Hx.out Hn.out
            unfold rqA at hc
            go_simp
            go_at_call 104
            refine hc.mono ?_
            rintro e z22 ⟨b0, n0, c0, b1, n1, c1, rfl, hLeft, bz22⟩
            rw [← HEE.out] at hLeft ⊢
            clear hc
            have HL := Lib.hid hLeft
            clear hLeft
            replace KP := Lib.hid ((bz22.block _ LP.out).trans KP.out)
            replace LP := Lib.hid (Nat.lt_of_lt_of_le LP.out bz22.size)
            replace KQ := Lib.hid ((bz22.block _ LQ.out).trans KQ.out)
            replace LQ := Lib.hid (Nat.lt_of_lt_of_le LQ.out bz22.size)
            replace KR := Lib.hid ((bz22.block _ LR.out).trans KR.out)
            replace LR := Lib.hid (Nat.lt_of_lt_of_le LR.out bz22.size)
            replace KM := Lib.hid ((bz22.block _ LM.out).trans KM.out)
            replace LM := Lib.hid (Nat.lt_of_lt_of_le LM.out bz22.size)
            replace BB := Lib.hid (BB.out.trans (bz22.mono BB.out.size))
            replace BA := Lib.hid (BA.out.trans (bz22.mono BA.out.size))
            clear bz22
            have BC : Hid (Below z22.heap.size z22 z22) := Lib.hid (Below.refl _ _)
            go_wp2_with fail
            refine hK.out _ _ (HSS.out _ KP.out KQ.out) (fun hHeld => ?_)
            clear hK K
            try simp only [getElem_toArray, getElem_cons_zero, getElem_cons_succ, Act.put, setIfInBounds_toArray, set_cons_zero, set_cons_succ]
            refine tk0 7 ?_
            refine tk0 8 ?_
            refine tk0 9 ?_
            refine wpAnyH_ready (rs := [10]) (by kernel_rfl) (by simp) ?_
            refine AllReadyH.cons rfl (fun K hK => ?_) (AllReadyH.nil)
            go_simp
            obtain ⟨z23, hz23⟩ : ∃ z, z = z22.alloc (.cells #[.slice none 0 0, .slice none 0 0] 27) := ⟨_, rfl⟩
            rw [← hz23]
            have bz23 : Below z22.heap.size z22 z23 := by rw [hz23]; exact (Below.refl _ _).alloc (Nat.le_refl _) _
            have sz23 : Hid (z23.heap.size = z22.heap.size + 1) := Lib.hid (by rw [hz23]; simp)
            have yA : Hid (w1.heap.size ≤ z22.heap.size) := Lib.hid BA.out.size
            replace KP := Lib.hid ((bz23.block _ LP.out).trans KP.out)
            replace LP := Lib.hid (Nat.lt_of_lt_of_le LP.out bz23.size)
            replace KQ := Lib.hid ((bz23.block _ LQ.out).trans KQ.out)
            replace LQ := Lib.hid (Nat.lt_of_lt_of_le LQ.out bz23.size)
            replace KR := Lib.hid ((bz23.block _ LR.out).trans KR.out)
            replace LR := Lib.hid (Nat.lt_of_lt_of_le LR.out bz23.size)
            replace KM := Lib.hid ((bz23.block _ LM.out).trans KM.out)
            replace LM := Lib.hid (Nat.lt_of_lt_of_le LM.out bz23.size)
            replace BB := Lib.hid (BB.out.trans (bz23.mono BB.out.size))
            replace BA := Lib.hid (BA.out.trans (bz23.mono BA.out.size))
            replace BC := Lib.hid (BC.out.trans (bz23.mono BC.out.size))
            have KY : Hid (z23.heap[z22.heap.size]? = some (.cells #[.slice none 0 0, .slice none 0 0] 27 (0, 0))) := Lib.hid (by rw [hz23]; exact heap_new _ _)
            have LY : Hid (z22.heap.size < z23.heap.size) := Lib.hid (by have := sz23.out; omega)
            clear bz23 hz23
            refine hK.out _ _ (HSS.out _ KP.out KQ.out) (fun hHeld => ?_)
            clear hK K
            try simp only [getElem_toArray, getElem_cons_zero, getElem_cons_succ, Act.put, setIfInBounds_toArray, set_cons_zero, set_cons_succ]
            have fY0 := cell_of_row z23 _ 0 _ _ _ KY.out
            have fY1 := cell_of_row z23 _ 1 _ _ _ KY.out
            simp only [List.getElem?_toArray, List.getElem?_cons_zero, List.getElem?_cons_succ] at fY0 fY1
            have zY0 := frozen_of_row z23 _ 0 _ _ KY.out
            have zY1 := frozen_of_row z23 _ 1 _ _ KY.out
            refine wpAnyH_ready (rs := [11]) (by kernel_rfl) (by simp) ?_
            refine AllReadyH.cons rfl (fun K hK => ?_) (AllReadyH.nil)
            go_simp
            obtain ⟨Y, hY⟩ : ∃ Y, Y = (z23.setCell ⟨z22.heap.size, 0, none⟩ (.slice b0 n0 c0)).setCell ⟨z22.heap.size, 1, none⟩ (.slice b1 n1 c1) := ⟨_, rfl⟩
            rw [← hY]
            have f1 := heap_setCell_same _ (z22.heap.size) 0 _ _ (.slice b0 n0 c0) KY.out
            have f2 := heap_setCell_same _ (z22.heap.size) 1 _ _ (.slice b1 n1 c1) f1
            rw [← hY] at f2
            have gY : z23.grownBy Y (some (z22.heap.size)) := by rw [hY]; exact (grown_set _ ⟨z22.heap.size, 0, none⟩ _).trans (grown_set _ ⟨z22.heap.size, 1, none⟩ _)
            clear fY0 fY1
            clear zY0 zY1
            clear hY f1
            simp only [List.setIfInBounds_toArray, List.set_cons_zero, List.set_cons_succ] at f2
            have F2 := Lib.hid f2
            have hBw : B ≤ z22.heap.size := Nat.le_trans hB (Nat.le_trans B1s.out yA.out)
            have HST : Hid (EE = true → StV Y Y.heap.size (.agg #[.slice b0 n0 c0, .slice b1 n1 c1]) (stepS s x)) := Lib.hid (fun h => HL.out h Y (.inr (BC.out.grown gY BC.out.size (fun k hk => by cases hk; exact Nat.le_refl _))))
            have LY2 : Hid (z22.heap.size < Y.heap.size) := Lib.hid (Nat.lt_of_lt_of_le LY.out gY.size)
            have BA2 : Hid (Below w1.heap.size w1 Y) := Lib.hid (BA.out.grown gY BA.out.size (fun k hk => by cases hk; exact yA.out))
            have KPy := Lib.hid ((gY.block _ LP.out (fun e => by have := yA.out; have := LPa.out; simp only [Option.some.injEq] at e; omega)).trans KP.out)
            have KQy := Lib.hid ((gY.block _ LQ.out (fun e => by have := yA.out; have := LQa.out; simp only [Option.some.injEq] at e; omega)).trans KQ.out)
            refine hK.out _ _ (HSS.out _ KPy.out KQy.out) (fun hHeld => ?_)
            clear hK K gY f2
            try simp only [getElem_toArray, getElem_cons_zero, getElem_cons_succ, Act.put, setIfInBounds_toArray, set_cons_zero, set_cons_succ]
            refine tk0 12 ?_
            refine wpAnyH_done (by kernel_rfl) ?_ _
            clear hHeld
            go_wp2_with fail
            go_meet
            exact ⟨z22.heap.size, b0, n0, c0, b1, n1, c1, rfl, rfl, F2, HST, BA2, Lib.hid ⟨yA.out, LY2.out⟩⟩
          · go_simp
            obtain ⟨z24, hz24⟩ : ∃ z, z = z21.alloc (.cells #[.slice none 0 0, .slice none 0 0] 27) := ⟨_, rfl⟩
            rw [← hz24]
            have bz24 : Below z21.heap.size z21 z24 := by rw [hz24]; exact (Below.refl _ _).alloc (Nat.le_refl _) _
            have sz24 : Hid (z24.heap.size = z21.heap.size + 1) := Lib.hid (by rw [hz24]; simp)
            have yA : Hid (w1.heap.size ≤ z21.heap.size) := Lib.hid BA.out.size
            replace KP := Lib.hid ((bz24.block _ LP.out).trans KP.out)
            replace LP := Lib.hid (Nat.lt_of_lt_of_le LP.out bz24.size)
            replace KQ := Lib.hid ((bz24.block _ LQ.out).trans KQ.out)
            replace LQ := Lib.hid (Nat.lt_of_lt_of_le LQ.out bz24.size)
            replace KR := Lib.hid ((bz24.block _ LR.out).trans KR.out)
            replace LR := Lib.hid (Nat.lt_of_lt_of_le LR.out bz24.size)
            replace KM := Lib.hid ((bz24.block _ LM.out).trans KM.out)
            replace LM := Lib.hid (Nat.lt_of_lt_of_le LM.out bz24.size)
            replace BB := Lib.hid (BB.out.trans (bz24.mono BB.out.size))
            replace BA := Lib.hid (BA.out.trans (bz24.mono BA.out.size))
            have KY : Hid (z24.heap[z21.heap.size]? = some (.cells #[.slice none 0 0, .slice none 0 0] 27 (0, 0))) := Lib.hid (by rw [hz24]; exact heap_new _ _)
            have LY : Hid (z21.heap.size < z24.heap.size) := Lib.hid (by have := sz24.out; omega)
            clear bz24 hz24
            refine hK.out _ _ (HSS.out _ KP.out KQ.out) (fun hHeld => ?_)
            clear hK K
            try simp only [getElem_toArray, getElem_cons_zero, getElem_cons_succ, Act.put, setIfInBounds_toArray, set_cons_zero, set_cons_succ]
            refine wpAnyH_ready (rs := [6]) (by kernel_rfl) (by simp) ?_
            refine AllReadyH.cons rfl (fun K hK => ?_) (AllReadyH.nil)
            have hc := step_delete s _ x B z24 (HS.out.later (BB.out.mono hB) (Nat.le_refl _)) (Nat.le_trans hB BB.out.size) HO.out Hx.out Hn.out
            unfold rqA at hc
            go_simp
            go_at_call 104
            refine hc.mono ?_
            rintro e z25 ⟨b0, n0, c0, b1, n1, c1, rfl, hLeft, bz25⟩
            rw [← HEE.out] at hLeft ⊢
            clear hc
            have HL := Lib.hid hLeft
            clear hLeft
            have LYc := LY
            replace KP := Lib.hid ((bz25.block _ LP.out).trans KP.out)
            replace LP := Lib.hid (Nat.lt_of_lt_of_le LP.out bz25.size)
            replace KQ := Lib.hid ((bz25.block _ LQ.out).trans KQ.out)
            replace LQ := Lib.hid (Nat.lt_of_lt_of_le LQ.out bz25.size)
            replace KR := Lib.hid ((bz25.block _ LR.out).trans KR.out)
            replace LR := Lib.hid (Nat.lt_of_lt_of_le LR.out bz25.size)
            replace KM := Lib.hid ((bz25.block _ LM.out).trans KM.out)
            replace LM := Lib.hid (Nat.lt_of_lt_of_le LM.out bz25.size)
            replace KY := Lib.hid ((bz25.block _ LY.out).trans KY.out)
            replace LY := Lib.hid (Nat.lt_of_lt_of_le LY.out bz25.size)
            replace BB := Lib.hid (BB.out.trans (bz25.mono BB.out.size))
            replace BA := Lib.hid (BA.out.trans (bz25.mono BA.out.size))
            clear bz25
            have BC : Hid (Below z25.heap.size z25 z25) := Lib.hid (Below.refl _ _)
            go_wp2_with fail
            refine hK.out _ _ (HSS.out _ KP.out KQ.out) (fun hHeld => ?_)
            clear hK K
            try simp only [getElem_toArray, getElem_cons_zero, getElem_cons_succ, Act.put, setIfInBounds_toArray, set_cons_zero, set_cons_succ]
            refine tk0 7 ?_
            refine tk0 8 ?_
            refine tk0 9 ?_
            have fY0 := cell_of_row z25 _ 0 _ _ _ KY.out
            have fY1 := cell_of_row z25 _ 1 _ _ _ KY.out
            simp only [List.getElem?_toArray, List.getElem?_cons_zero, List.getElem?_cons_succ] at fY0 fY1
            have zY0 := frozen_of_row z25 _ 0 _ _ KY.out
            have zY1 := frozen_of_row z25 _ 1 _ _ KY.out
            refine wpAnyH_ready (rs := [11]) (by kernel_rfl) (by simp) ?_
            refine AllReadyH.cons rfl (fun K hK => ?_) (AllReadyH.nil)
            go_simp
            obtain ⟨Y, hY⟩ : ∃ Y, Y = (z25.setCell ⟨z21.heap.size, 0, none⟩ (.slice b0 n0 c0)).setCell ⟨z21.heap.size, 1, none⟩ (.slice b1 n1 c1) := ⟨_, rfl⟩
            rw [← hY]
            have f1 := heap_setCell_same _ (z21.heap.size) 0 _ _ (.slice b0 n0 c0) KY.out
            have f2 := heap_setCell_same _ (z21.heap.size) 1 _ _ (.slice b1 n1 c1) f1
            rw [← hY] at f2
            have gY : z25.grownBy Y (some (z21.heap.size)) := by rw [hY]; exact (grown_set _ ⟨z21.heap.size, 0, none⟩ _).trans (grown_set _ ⟨z21.heap.size, 1, none⟩ _)
            clear fY0 fY1
            clear zY0 zY1
            clear hY f1
            simp only [List.setIfInBounds_toArray, List.set_cons_zero, List.set_cons_succ] at f2
            have F2 := Lib.hid f2
            have hBw : B ≤ z21.heap.size := Nat.le_trans hB (Nat.le_trans B1s.out yA.out)
            have HST : Hid (EE = true → StV Y Y.heap.size (.agg #[.slice b0 n0 c0, .slice b1 n1 c1]) (stepS s x)) := Lib.hid (fun h => HL.out h Y (.inl ⟨_, hBw, LYc.out, gY⟩))
            have LY2 : Hid (z21.heap.size < Y.heap.size) := Lib.hid (Nat.lt_of_lt_of_le LY.out gY.size)
            have BA2 : Hid (Below w1.heap.size w1 Y) := Lib.hid (BA.out.grown gY BA.out.size (fun k hk => by cases hk; exact yA.out))
            have KPy := Lib.hid ((gY.block _ LP.out (fun e => by have := yA.out; have := LPa.out; simp only [Option.some.injEq] at e; omega)).trans KP.out)
            have KQy := Lib.hid ((gY.block _ LQ.out (fun e => by have := yA.out; have := LQa.out; simp only [Option.some.injEq] at e; omega)).trans KQ.out)
            refine hK.out _ _ (HSS.out _ KPy.out KQy.out) (fun hHeld => ?_)
            clear hK K gY f2
            try simp only [getElem_toArray, getElem_cons_zero, getElem_cons_succ, Act.put, setIfInBounds_toArray, set_cons_zero, set_cons_succ]
            refine tk0 12 ?_
            refine wpAnyH_done (by kernel_rfl) ?_ _
            clear hHeld
            go_wp2_with fail
            go_meet
            exact ⟨z21.heap.size, b0, n0, c0, b1, n1, c1, rfl, rfl, F2, HST, BA2, Lib.hid ⟨yA.out, LY2.out⟩⟩
        · go_simp
          obtain ⟨z26, hz26⟩ : ∃ z, z = z21.alloc (.cells #[.slice none 0 0, .slice none 0 0] 27) := ⟨_, rfl⟩
          rw [← hz26]
          have bz26 : Below z21.heap.size z21 z26 := by rw [hz26]; exact (Below.refl _ _).alloc (Nat.le_refl _) _
          have sz26 : Hid (z26.heap.size = z21.heap.size + 1) := Lib.hid (by rw [hz26]; simp)
          have yA : Hid (w1.heap.size ≤ z21.heap.size) := Lib.hid BA.out.size
          replace KP := Lib.hid ((bz26.block _ LP.out).trans KP.out)
          replace LP := Lib.hid (Nat.lt_of_lt_of_le LP.out bz26.size)
          replace KQ := Lib.hid ((bz26.block _ LQ.out).trans KQ.out)
          replace LQ := Lib.hid (Nat.lt_of_lt_of_le LQ.out bz26.size)
          replace KR := Lib.hid ((bz26.block _ LR.out).trans KR.out)
          replace LR := Lib.hid (Nat.lt_of_lt_of_le LR.out bz26.size)
          replace KM := Lib.hid ((bz26.block _ LM.out).trans KM.out)
          replace LM := Lib.hid (Nat.lt_of_lt_of_le LM.out bz26.size)
          replace BB := Lib.hid (BB.out.trans (bz26.mono BB.out.size))
          replace BA := Lib.hid (BA.out.trans (bz26.mono BA.out.size))
          have KY : Hid (z26.heap[z21.heap.size]? = some (.cells #[.slice none 0 0, .slice none 0 0] 27 (0, 0))) := Lib.hid (by rw [hz26]; exact heap_new _ _)
          have LY : Hid (z21.heap.size < z26.heap.size) := Lib.hid (by have := sz26.out; omega)
          clear bz26 hz26
          refine hK.out _ _ (HSS.out _ KP.out KQ.out) (fun hHeld => ?_)
          clear hK K
          try simp only [getElem_toArray, getElem_cons_zero, getElem_cons_succ, Act.put, setIfInBounds_toArray, set_cons_zero, set_cons_succ]
          refine wpAnyH_ready (rs := [3]) (by kernel_rfl) (by simp) ?_
          refine AllReadyH.cons rfl (fun K hK => ?_) (AllReadyH.nil)
          have hl := Hlk.out z26 _ KM.out
          go_simp
          clear hl
          refine hK.out _ _ (HSS.out _ KP.out KQ.out) (fun hHeld => ?_)
          clear hK K
          try simp only [getElem_toArray, getElem_cons_zero, getElem_cons_succ, Act.put, setIfInBounds_toArray, set_cons_zero, set_cons_succ]
          refine wpAnyH_ready (rs := [6]) (by kernel_rfl) (by simp) ?_
          refine AllReadyH.cons rfl (fun K hK => ?_) (AllReadyH.nil)
          have hc := step_delete s _ x B z26 (HS.out.later (BB.out.mono hB) (Nat.le_refl _)) (Nat.le_trans hB BB.out.size) HO.out Hx.out Hn.out
          unfold rqA at hc
          go_simp
          go_at_call 104
          refine hc.mono ?_
          rintro e z27 ⟨b0, n0, c0, b1, n1, c1, rfl, hLeft, bz27⟩
          rw [← HEE.out] at hLeft ⊢
          clear hc
          have HL := Lib.hid hLeft
          clear hLeft
          have LYc := LY
          replace KP := Lib.hid ((bz27.block _ LP.out).trans KP.out)
          replace LP := Lib.hid (Nat.lt_of_lt_of_le LP.out bz27.size)
          replace KQ := Lib.hid ((bz27.block _ LQ.out).trans KQ.out)
          replace LQ := Lib.hid (Nat.lt_of_lt_of_le LQ.out bz27.size)
          replace KR := Lib.hid ((bz27.block _ LR.out).trans KR.out)
          replace LR := Lib.hid (Nat.lt_of_lt_of_le LR.out bz27.size)
          replace KM := Lib.hid ((bz27.block _ LM.out).trans KM.out)
          replace LM := Lib.hid (Nat.lt_of_lt_of_le LM.out bz27.size)
          replace KY := Lib.hid ((bz27.block _ LY.out).trans KY.out)
          replace LY := Lib.hid (Nat.lt_of_lt_of_le LY.out bz27.size)
          replace BB := Lib.hid (BB.out.trans (bz27.mono BB.out.size))
          replace BA := Lib.hid (BA.out.trans (bz27.mono BA.out.size))
          clear bz27
          have BC : Hid (Below z27.heap.size z27 z27) := Lib.hid (Below.refl _ _)
          go_wp2_with fail
          refine hK.out _ _ (HSS.out _ KP.out KQ.out) (fun hHeld => ?_)
          clear hK K
          try simp only [getElem_toArray, getElem_cons_zero, getElem_cons_succ, Act.put, setIfInBounds_toArray, set_cons_zero, set_cons_succ]
          refine tk0 7 ?_
          refine tk0 8 ?_
          refine tk0 9 ?_
          have fY0 := cell_of_row z27 _ 0 _ _ _ KY.out
          have fY1 := cell_of_row z27 _ 1 _ _ _ KY.out
          simp only [List.getElem?_toArray, List.getElem?_cons_zero, List.getElem?_cons_succ] at fY0 fY1
          have zY0 := frozen_of_row z27 _ 0 _ _ KY.out
          have zY1 := frozen_of_row z27 _ 1 _ _ KY.out
          refine wpAnyH_ready (rs := [11]) (by kernel_rfl) (by simp) ?_
          refine AllReadyH.cons rfl (fun K hK => ?_) (AllReadyH.nil)
          go_simp
          obtain ⟨Y, hY⟩ : ∃ Y, Y = (z27.setCell ⟨z21.heap.size, 0, none⟩ (.slice b0 n0 c0)).setCell ⟨z21.heap.size, 1, none⟩ (.slice b1 n1 c1) := ⟨_, rfl⟩
          rw [← hY]
          have f1 := heap_setCell_same _ (z21.heap.size) 0 _ _ (.slice b0 n0 c0) KY.out
          have f2 := heap_setCell_same _ (z21.heap.size) 1 _ _ (.slice b1 n1 c1) f1
          rw [← hY] at f2
          have gY : z27.grownBy Y (some (z21.heap.size)) := by rw [hY]; exact (grown_set _ ⟨z21.heap.size, 0, none⟩ _).trans (grown_set _ ⟨z21.heap.size, 1, none⟩ _)
          clear fY0 fY1
          clear zY0 zY1
          clear hY f1
          simp only [List.setIfInBounds_toArray, List.set_cons_zero, List.set_cons_succ] at f2
          have F2 := Lib.hid f2
          have hBw : B ≤ z21.heap.size := Nat.le_trans hB (Nat.le_trans B1s.out yA.out)
          have HST : Hid (EE = true → StV Y Y.heap.size (.agg #[.slice b0 n0 c0, .slice b1 n1 c1]) (stepS s x)) := Lib.hid (fun h => HL.out h Y (.inl ⟨_, hBw, LYc.out, gY⟩))
          have LY2 : Hid (z21.heap.size < Y.heap.size) := Lib.hid (Nat.lt_of_lt_of_le LY.out gY.size)
          have BA2 : Hid (Below w1.heap.size w1 Y) := Lib.hid (BA.out.grown gY BA.out.size (fun k hk => by cases hk; exact yA.out))
          have KPy := Lib.hid ((gY.block _ LP.out (fun e => by have := yA.out; have := LPa.out; simp only [Option.some.injEq] at e; omega)).trans KP.out)
          have KQy := Lib.hid ((gY.block _ LQ.out (fun e => by have := yA.out; have := LQa.out; simp only [Option.some.injEq] at e; omega)).trans KQ.out)
          refine hK.out _ _ (HSS.out _ KPy.out KQy.out) (fun hHeld => ?_)
          clear hK K gY f2
          try simp only [getElem_toArray, getElem_cons_zero, getElem_cons_succ, Act.put, setIfInBounds_toArray, set_cons_zero, set_cons_succ]
          refine tk0 12 ?_
          refine wpAnyH_done (by kernel_rfl) ?_ _
          clear hHeld
          go_wp2_with fail
          go_meet
          exact ⟨z21.heap.size, b0, n0, c0, b1, n1, c1, rfl, rfl, F2, HST, BA2, Lib.hid ⟨yA.out, LY2.out⟩⟩
      · go_simp
        obtain ⟨z28, hz28⟩ : ∃ z, z = zD.alloc (.cells #[.slice none 0 0, .slice none 0 0] 27) := ⟨_, rfl⟩
        rw [← hz28]
        have bz28 : Below zD.heap.size zD z28 := by rw [hz28]; exact (Below.refl _ _).alloc (Nat.le_refl _) _
        have sz28 : Hid (z28.heap.size = zD.heap.size + 1) := Lib.hid (by rw [hz28]; simp)
        have yA : Hid (w1.heap.size ≤ zD.heap.size) := Lib.hid BA.out.size
        replace KP := Lib.hid ((bz28.block _ LP.out).trans KP.out)
        replace LP := Lib.hid (Nat.lt_of_lt_of_le LP.out bz28.size)
        replace KQ := Lib.hid ((bz28.block _ LQ.out).trans KQ.out)
        replace LQ := Lib.hid (Nat.lt_of_lt_of_le LQ.out bz28.size)
        replace KR := Lib.hid ((bz28.block _ LR.out).trans KR.out)
        replace LR := Lib.hid (Nat.lt_of_lt_of_le LR.out bz28.size)
        replace BB := Lib.hid (BB.out.trans (bz28.mono BB.out.size))
        replace BA := Lib.hid (BA.out.trans (bz28.mono BA.out.size))
        have KY : Hid (z28.heap[zD.heap.size]? = some (.cells #[.slice none 0 0, .slice none 0 0] 27 (0, 0))) := Lib.hid (by rw [hz28]; exact heap_new _ _)
        have LY : Hid (zD.heap.size < z28.heap.size) := Lib.hid (by have := sz28.out; omega)
        clear bz28 hz28
        refine hK.out _ _ (HSS.out _ KP.out KQ.out) (fun hHeld => ?_)
        clear hK K
        try simp only [getElem_toArray, getElem_cons_zero, getElem_cons_succ, Act.put, setIfInBounds_toArray, set_cons_zero, set_cons_succ]
        refine wpAnyH_ready (rs := [0]) (by kernel_rfl) (by simp) ?_
        refine AllReadyH.cons rfl (fun K hK => ?_) (AllReadyH.nil)
        go_simp
        go_at_call 92
        refine (impl_changes _).mono ?_
        rintro e z29 ⟨rfl, hz29⟩
        have bz29 : Below z28.heap.size z28 z29 := by rw [hz29]; exact (Below.refl _ _).alloc (Nat.le_refl _) _
        replace KP := Lib.hid ((bz29.block _ LP.out).trans KP.out)
        replace LP := Lib.hid (Nat.lt_of_lt_of_le LP.out bz29.size)
        replace KQ := Lib.hid ((bz29.block _ LQ.out).trans KQ.out)
        replace LQ := Lib.hid (Nat.lt_of_lt_of_le LQ.out bz29.size)
        replace KR := Lib.hid ((bz29.block _ LR.out).trans KR.out)
        replace LR := Lib.hid (Nat.lt_of_lt_of_le LR.out bz29.size)
        replace KY := Lib.hid ((bz29.block _ LY.out).trans KY.out)
        replace LY := Lib.hid (Nat.lt_of_lt_of_le LY.out bz29.size)
        replace BB := Lib.hid (BB.out.trans (bz29.mono BB.out.size))
        replace BA := Lib.hid (BA.out.trans (bz29.mono BA.out.size))
        have KM : Hid (z29.heap[z28.heap.size]? = some (.map chEs 3)) := Lib.hid (by rw [hz29]; exact heap_new _ _)
        have LM : Hid (z28.heap.size < z29.heap.size) := Lib.hid (by rw [hz29]; simp)
        clear bz29 hz29
        go_wp2_with fail
        refine hK.out _ _ (HSS.out _ KP.out KQ.out) (fun hHeld => ?_)
        clear hK K
        try simp only [getElem_toArray, getElem_cons_zero, getElem_cons_succ, Act.put, setIfInBounds_toArray, set_cons_zero, set_cons_succ]
        refine wpAnyH_ready (rs := [3]) (by kernel_rfl) (by simp) ?_
        refine AllReadyH.cons rfl (fun K hK => ?_) (AllReadyH.nil)
        have hl := Hlk.out z29 _ KM.out
        go_simp
        clear hl
        refine hK.out _ _ (HSS.out _ KP.out KQ.out) (fun hHeld => ?_)
        clear hK K
        try simp only [getElem_toArray, getElem_cons_zero, getElem_cons_succ, Act.put, setIfInBounds_toArray, set_cons_zero, set_cons_succ]
        refine wpAnyH_ready (rs := [6]) (by kernel_rfl) (by simp) ?_
        refine AllReadyH.cons rfl (fun K hK => ?_) (AllReadyH.nil)
        have hc := step_delete s _ x B z29 (HS.out.later (BB.out.mono hB) (Nat.le_refl _)) (Nat.le_trans hB BB.out.size) HO.out Hx.out Hn.out
        unfold rqA at hc
        go_simp
        go_at_call 104
        refine hc.mono ?_
        rintro e z30 ⟨b0, n0, c0, b1, n1, c1, rfl, hLeft, bz30⟩
        rw [← HEE.out] at hLeft ⊢
        clear hc
        have HL := Lib.hid hLeft
        clear hLeft
        have LYc := LY
        replace KP := Lib.hid ((bz30.block _ LP.out).trans KP.out)
        replace LP := Lib.hid (Nat.lt_of_lt_of_le LP.out bz30.size)
        replace KQ := Lib.hid ((bz30.block _ LQ.out).trans KQ.out)
        replace LQ := Lib.hid (Nat.lt_of_lt_of_le LQ.out bz30.size)
        replace KR := Lib.hid ((bz30.block _ LR.out).trans KR.out)
        replace LR := Lib.hid (Nat.lt_of_lt_of_le LR.out bz30.size)
        replace KY := Lib.hid ((bz30.block _ LY.out).trans KY.out)
        replace LY := Lib.hid (Nat.lt_of_lt_of_le LY.out bz30.size)
        replace KM := Lib.hid ((bz30.block _ LM.out).trans KM.out)
        replace LM := Lib.hid (Nat.lt_of_lt_of_le LM.out bz30.size)
        replace BB := Lib.hid (BB.out.trans (bz30.mono BB.out.size))
        replace BA := Lib.hid (BA.out.trans (bz30.mono BA.out.size))
        clear bz30
        have BC : Hid (Below z30.heap.size z30 z30) := Lib.hid (Below.refl _ _)
        go_wp2_with fail
        refine hK.out _ _ (HSS.out _ KP.out KQ.out) (fun hHeld => ?_)
        clear hK K
        try simp only [getElem_toArray, getElem_cons_zero, getElem_cons_succ, Act.put, setIfInBounds_toArray, set_cons_zero, set_cons_succ]
        refine tk0 7 ?_
        refine tk0 8 ?_
        refine tk0 9 ?_
        have fY0 := cell_of_row z30 _ 0 _ _ _ KY.out
        have fY1 := cell_of_row z30 _ 1 _ _ _ KY.out
        simp only [List.getElem?_toArray, List.getElem?_cons_zero, List.getElem?_cons_succ] at fY0 fY1
        have zY0 := frozen_of_row z30 _ 0 _ _ KY.out
        have zY1 := frozen_of_row z30 _ 1 _ _ KY.out
        refine wpAnyH_ready (rs := [11]) (by kernel_rfl) (by simp) ?_
        refine AllReadyH.cons rfl (fun K hK => ?_) (AllReadyH.nil)
        go_simp
        obtain ⟨Y, hY⟩ : ∃ Y, Y = (z30.setCell ⟨zD.heap.size, 0, none⟩ (.slice b0 n0 c0)).setCell ⟨zD.heap.size, 1, none⟩ (.slice b1 n1 c1) := ⟨_, rfl⟩
        rw [← hY]
        have f1 := heap_setCell_same _ (zD.heap.size) 0 _ _ (.slice b0 n0 c0) KY.out
        have f2 := heap_setCell_same _ (zD.heap.size) 1 _ _ (.slice b1 n1 c1) f1
        rw [← hY] at f2
        have gY : z30.grownBy Y (some (zD.heap.size)) := by rw [hY]; exact (grown_set _ ⟨zD.heap.size, 0, none⟩ _).trans (grown_set _ ⟨zD.heap.size, 1, none⟩ _)
        clear fY0 fY1
        clear zY0 zY1
        clear hY f1
        simp only [List.setIfInBounds_toArray, List.set_cons_zero, List.set_cons_succ] at f2
        have F2 := Lib.hid f2
        have hBw : B ≤ zD.heap.size := Nat.le_trans hB (Nat.le_trans B1s.out yA.out)
        have HST : Hid (EE = true → StV Y Y.heap.size (.agg #[.slice b0 n0 c0, .slice b1 n1 c1]) (stepS s x)) := Lib.hid (fun h => HL.out h Y (.inl ⟨_, hBw, LYc.out, gY⟩))
        have LY2 : Hid (zD.heap.size < Y.heap.size) := Lib.hid (Nat.lt_of_lt_of_le LY.out gY.size)
        have BA2 : Hid (Below w1.heap.size w1 Y) := Lib.hid (BA.out.grown gY BA.out.size (fun k hk => by cases hk; exact yA.out))
        have KPy := Lib.hid ((gY.block _ LP.out (fun e => by have := yA.out; have := LPa.out; simp only [Option.some.injEq] at e; omega)).trans KP.out)
        have KQy := Lib.hid ((gY.block _ LQ.out (fun e => by have := yA.out; have := LQa.out; simp only [Option.some.injEq] at e; omega)).trans KQ.out)
        refine hK.out _ _ (HSS.out _ KPy.out KQy.out) (fun hHeld => ?_)
        clear hK K gY f2
        try simp only [getElem_toArray, getElem_cons_zero, getElem_cons_succ, Act.put, setIfInBounds_toArray, set_cons_zero, set_cons_succ]
        refine tk0 12 ?_
        refine wpAnyH_done (by kernel_rfl) ?_ _
        clear hHeld
        go_wp2_with fail
        go_meet
        exact ⟨zD.heap.size, b0, n0, c0, b1, n1, c1, rfl, rfl, F2, HST, BA2, Lib.hid ⟨yA.out, LY2.out⟩⟩
  case rest =>
    obtain ⟨yb, b0, n0, c0, b1, n1, c1, rfl, rfl, KY, HST, bA, NY⟩ := hcut
    obtain ⟨w2, rfl⟩ : ∃ z, z = wc := ⟨_, rfl⟩
    replace KP := Lib.hid ((bA.out.block _ LP.out).trans KP.out)
    replace LP := Lib.hid (Nat.lt_of_lt_of_le LP.out bA.out.size)
    replace KQ := Lib.hid ((bA.out.block _ LQ.out).trans KQ.out)
    replace LQ := Lib.hid (Nat.lt_of_lt_of_le LQ.out bA.out.size)
    replace KR := Lib.hid ((bA.out.block _ LR.out).trans KR.out)
    replace LR := Lib.hid (Nat.lt_of_lt_of_le LR.out bA.out.size)
    replace BB := Lib.hid (BB.out.trans (bA.out.mono BB.out.size))
    have LY : Hid (yb < w2.heap.size) := Lib.hid NY.out.2
    have Ny : Hid (w1.heap.size ≤ yb) := Lib.hid NY.out.1
    clear bA NY
    cases hE : EE
    · have hS : stOk (stepS s x) = false := HEE.out.symm.trans hE
      have HSf := Lib.hid hS
      clear hS hE HST HEE
      have fR0 := cell_of_row w2 _ 0 _ _ _ KR.out
      have fR1 := cell_of_row w2 _ 1 _ _ _ KR.out
      simp only [List.getElem?_toArray, List.getElem?_cons_zero, List.getElem?_cons_succ] at fR0 fR1
      have zR0 := frozen_of_row w2 _ 0 _ _ KR.out
      have zR1 := frozen_of_row w2 _ 1 _ _ KR.out
      go_wp2_with fail
      clear fR0 fR1
      clear zR0 zR1
      have hR : ap s x = (s, ⟨#[]⟩, 3) := ap_full HO.out HQ.out HA.out (.inl HSf.out)
      have f1 := heap_setCell_same _ (w.heap.size + 1 + 1) 0 _ _ (.slice none 0 0) KR.out
      have f2 := heap_setCell_same _ (w.heap.size + 1 + 1) 1 _ _ (.slice none 0 0) f1
      obtain ⟨j0, q1, q2, q3, q4⟩ := info_parts infoSt
      refine bodyPost_ret (results_cell_row3 (P := Tryz.prog) rfl _ _ (w.heap.size + 1 + 1) _ _ (0, 0) _ _ _ rfl rfl rfl f2 Tryz.underlying27 rfl (by rw [q1]; simp [q3])) rfl ?_
      exact ⟨.inr ⟨by rw [hR]; show (3 : Int) ≠ 0; decide, by rw [hR]; rfl⟩, (BB.out.setCell (p := ⟨w.heap.size + 1 + 1, 0, none⟩) (by simp; omega) _).setCell (p := ⟨w.heap.size + 1 + 1, 1, none⟩) (by simp; omega) _⟩
    · have HSt : Hid (stOk (stepS s x) = true) := Lib.hid (HEE.out.symm.trans hE)
      have hs3 := HST.out hE
      clear hE HST HEE
      have hft : FitTk (newT s x) := ⟨Hx.out.1, by have := valOf_small HO.out x.k; unfold maxLen; show (valOf s x.k).size ≤ _; omega, Hx.out.2.2.2.1.1, Hx.out.2.2.2.1.2⟩
      have hc := impl_putTalk (stepS s x) _ (newT s x) w2.heap.size w2 hs3 (Nat.le_refl _) ((ok_small HSt.out).mono (by omega)) (ok_fits HSt.out) hft
      obtain ⟨E2, hE2⟩ : ∃ E : Bool, E = stOk (endS s x) := ⟨_, rfl⟩
      have hE3 : chgB (stepS s x) (putST (stepS s x) (newT s x)) = E2 := by rw [hE2]; unfold chgB; rw [HSt.out]; rfl
      have HEN : Hid (E2 = true → chg (stepS s x) (putST (stepS s x) (newT s x)) = endS s x) := Lib.hid (fun h => chg_of (hE3.trans h))
      have HE2 := Lib.hid hE2
      rw [hE3] at hc
      simp only [tkA, newT] at hc
      simp only [newT] at HEN
      clear hE2 hE3 hft hs3
      obtain ⟨F, hF⟩ : ∃ F, F = chg (stepS s x) (putST (stepS s x) ⟨x.c, x.q, valOf s x.k⟩) := ⟨_, rfl⟩
      rw [← hF] at HEN hc
      clear hF
      have fY0 := cell_of_row w2 _ 0 _ _ _ KY.out
      have fY1 := cell_of_row w2 _ 1 _ _ _ KY.out
      simp only [List.getElem?_toArray, List.getElem?_cons_zero, List.getElem?_cons_succ] at fY0 fY1
      have fQ0 := cell_of_row w2 _ 0 _ _ _ KQ.out
      have fQ1 := cell_of_row w2 _ 1 _ _ _ KQ.out
      have fQ2 := cell_of_row w2 _ 2 _ _ _ KQ.out
      have fQ3 := cell_of_row w2 _ 3 _ _ _ KQ.out
      have fQ4 := cell_of_row w2 _ 4 _ _ _ KQ.out
      simp only [List.getElem?_toArray, List.getElem?_cons_zero, List.getElem?_cons_succ] at fQ0 fQ1 fQ2 fQ3 fQ4
      go_wp2_with (go_at_call 93; refine hc.mono ?_; rintro e w3 ⟨v4, rfl, ho4, hb3⟩; refine Hid.out ?_)
      refine Lib.hid ?_
      clear fY0 fY1 fQ0 fQ1 fQ2 fQ3 fQ4
      have y2 := Lib.hid LY.out
      replace KP := Lib.hid ((hb3.block _ LP.out).trans KP.out)
      replace LP := Lib.hid (Nat.lt_of_lt_of_le LP.out hb3.size)
      replace KQ := Lib.hid ((hb3.block _ LQ.out).trans KQ.out)
      replace LQ := Lib.hid (Nat.lt_of_lt_of_le LQ.out hb3.size)
      replace KR := Lib.hid ((hb3.block _ LR.out).trans KR.out)
      replace LR := Lib.hid (Nat.lt_of_lt_of_le LR.out hb3.size)
      replace KY := Lib.hid ((hb3.block _ LY.out).trans KY.out)
      replace LY := Lib.hid (Nat.lt_of_lt_of_le LY.out hb3.size)
      replace BB := Lib.hid (BB.out.trans (hb3.mono BB.out.size))
      have S4 := Lib.hid ho4
      obtain ⟨a6, m6, k6, a7, m7, k7, rfl⟩ := ho4.two'
      clear hc ho4 hb3
      have fY0 := cell_of_row w3 _ 0 _ _ _ KY.out
      have fY1 := cell_of_row w3 _ 1 _ _ _ KY.out
      simp only [List.getElem?_toArray, List.getElem?_cons_zero, List.getElem?_cons_succ] at fY0 fY1
      have zY0 := frozen_of_row w3 _ 0 _ _ KY.out
      have zY1 := frozen_of_row w3 _ 1 _ _ KY.out
      have f1 := heap_setCell_same _ yb 0 _ _ (.slice a6 m6 k6) KY.out
      have f2 := heap_setCell_same _ yb 1 _ _ (.slice a7 m7 k7) f1
      obtain ⟨Z, hZ⟩ : ∃ Z, Z = (w3.setCell ⟨yb, 0, none⟩ (.slice a6 m6 k6)).setCell ⟨yb, 1, none⟩ (.slice a7 m7 k7) := ⟨_, rfl⟩
      have gY : w3.grownBy Z (some yb) := by rw [hZ]; exact (grown_set _ ⟨yb, 0, none⟩ _).trans (grown_set _ ⟨yb, 1, none⟩ _)
      rw [← hZ] at f2
      simp only [List.setIfInBounds_toArray, List.set_cons_zero, List.set_cons_succ] at f2
      have f3 := Lib.hid f2
      clear f1 f2
      go_upto_if 37 with fail
      rw [← hZ]
      clear fY0 fY1
      clear zY0 zY1
      clear hZ
      have S5 := Lib.hid (S4.out.kept gY y2.out)
      clear S4
      replace KP := Lib.hid ((gY.block _ LP.out (by simp; have := LPa.out; have := LQa.out; have := LRa.out; have := B1s.out; have := Ny.out; omega)).trans KP.out)
      replace LP := Lib.hid (Nat.lt_of_lt_of_le LP.out gY.size)
      replace KQ := Lib.hid ((gY.block _ LQ.out (by simp; have := LPa.out; have := LQa.out; have := LRa.out; have := B1s.out; have := Ny.out; omega)).trans KQ.out)
      replace LQ := Lib.hid (Nat.lt_of_lt_of_le LQ.out gY.size)
      replace KR := Lib.hid ((gY.block _ LR.out (by simp; have := LPa.out; have := LQa.out; have := LRa.out; have := B1s.out; have := Ny.out; omega)).trans KR.out)
      replace LR := Lib.hid (Nat.lt_of_lt_of_le LR.out gY.size)
      replace BB := Lib.hid (BB.out.grown gY BB.out.size (fun k hk => by cases hk; have := LPa.out; have := LQa.out; have := LRa.out; have := B1s.out; have := Ny.out; omega))
      replace KY := f3
      replace LY := Lib.hid (Nat.lt_of_lt_of_le LY.out gY.size)
      clear f3 gY
      cases hE : E2
      · have hS : stOk (endS s x) = false := HE2.out.symm.trans hE
        have HSf := Lib.hid hS
        clear hS hE HEN HE2 S5
        have fR0 := cell_of_row Z _ 0 _ _ _ KR.out
        have fR1 := cell_of_row Z _ 1 _ _ _ KR.out
        simp only [List.getElem?_toArray, List.getElem?_cons_zero, List.getElem?_cons_succ] at fR0 fR1
        have zR0 := frozen_of_row Z _ 0 _ _ KR.out
        have zR1 := frozen_of_row Z _ 1 _ _ KR.out
        go_wp2_with fail
        clear fR0 fR1
        clear zR0 zR1
        have hR : ap s x = (s, ⟨#[]⟩, 3) := ap_full HO.out HQ.out HA.out (.inr HSf.out)
        have f1 := heap_setCell_same _ (w.heap.size + 1 + 1) 0 _ _ (.slice none 0 0) KR.out
        have f2 := heap_setCell_same _ (w.heap.size + 1 + 1) 1 _ _ (.slice none 0 0) f1
        obtain ⟨j0, q1, q2, q3, q4⟩ := info_parts infoSt
        refine bodyPost_ret (results_cell_row3 (P := Tryz.prog) rfl _ _ (w.heap.size + 1 + 1) _ _ (0, 0) _ _ _ rfl rfl rfl f2 Tryz.underlying27 rfl (by rw [q1]; simp [q3])) rfl ?_
        exact ⟨.inr ⟨by rw [hR]; show (3 : Int) ≠ 0; decide, by rw [hR]; rfl⟩, (BB.out.setCell (p := ⟨w.heap.size + 1 + 1, 0, none⟩) (by simp; omega) _).setCell (p := ⟨w.heap.size + 1 + 1, 1, none⟩) (by simp; omega) _⟩
      · have HSe : Hid (stOk (endS s x) = true) := Lib.hid (HE2.out.symm.trans hE)
        have HF := Lib.hid (HEN.out hE)
        clear hE HEN HE2
        have fR0 := cell_of_row Z _ 0 _ _ _ KR.out
        have fR1 := cell_of_row Z _ 1 _ _ _ KR.out
        simp only [List.getElem?_toArray, List.getElem?_cons_zero, List.getElem?_cons_succ] at fR0 fR1
        have zR0 := frozen_of_row Z _ 0 _ _ KR.out
        have zR1 := frozen_of_row Z _ 1 _ _ KR.out
        have fY0 := cell_of_row Z _ 0 _ _ _ KY.out
        have fY1 := cell_of_row Z _ 1 _ _ _ KY.out
        simp only [List.getElem?_toArray, List.getElem?_cons_zero, List.getElem?_cons_succ] at fY0 fY1
        go_wp2_with fail
        clear fR0 fR1 fY0 fY1
        clear zR0 zR1
        have hR : ap s x = (endS s x, valOf s x.k, 0) := ap_new HO.out HQ.out HA.out HSt.out HSe.out
        have hb : w.heap.size + 1 + 1 < w2.heap.size := Nat.lt_of_lt_of_le LRa.out (Nat.le_trans Ny.out (Nat.le_of_lt y2.out))
        have hb2 : w.heap.size ≤ w2.heap.size := Nat.le_trans (Nat.le_add_right w.heap.size 2) (Nat.le_of_lt hb)
        have f1 := heap_setCell_same _ (w.heap.size + 1 + 1) 0 _ _ (.slice a6 m6 k6) KR.out
        have f2 := heap_setCell_same _ (w.heap.size + 1 + 1) 1 _ _ (.slice a7 m7 k7) f1
        obtain ⟨j0, q1, q2, q3, q4⟩ := info_parts infoSt
        refine bodyPost_ret (results_cell_row3 (P := Tryz.prog) rfl _ _ (w.heap.size + 1 + 1) _ _ (0, 0) _ _ _ rfl rfl rfl f2 Tryz.underlying27 rfl (by rw [q1]; simp [q3])) rfl ?_
        exact ⟨.inl ⟨by rw [hR], _, by rw [hR]; rfl, by rw [hR, ← HF.out]; exact ((S5.out.kept (grown_set _ ⟨w.heap.size + 1 + 1, 0, none⟩ _) hb).kept (grown_set _ ⟨w.heap.size + 1 + 1, 1, none⟩ _) hb).base hb2⟩, (BB.out.setCell (p := ⟨w.heap.size + 1 + 1, 0, none⟩) (by simp; omega) _).setCell (p := ⟨w.heap.size + 1 + 1, 1, none⟩) (by simp; omega) _⟩
end Go.Proofs.YtclcaflkopnbpaaGreatDoor
