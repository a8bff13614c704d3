/- What the program's perform answers: 'ap', for an operation that is new to a right state. Condition: such a state and operation. -/
import Derived.Test.YtebmaplflpfjbaaDoorBaseA
import Derived.Test.YtebmaplflpfjbaaDoorImplStep
import Derived.Deep.CutBlock
import Derived.Deep.DeepCutAuto
import Derived.Test.YtebmaplflpfjbaaDoorImplPutTalk
namespace Go.Proofs.YtebmaplflpfjbaaDoor
open Go.RowKit List
set_option linter.unusedVariables false
set_option linter.unusedSimpArgs false

theorem rqOk_fit {x : Rq} (h : rqOk x = true) : FitRq x := by
  obtain ⟨h1, h2, h3, h4, h5, _⟩ := rqOk_parts h
  have := name_size h2
  have := name_size h3
  unfold FitRq maxLen
  omega
/-- What execute and perform answer, where 'ap' is R: the state, the reply and no error, or a refusal that bears the code. -/
def Out (R : St × ByteArray × Int) (base : Nat) (e : Ending) (w' : World) : Prop :=
  (R.2.2 = 0 ∧ ∃ v', e = .returned (.tuple #[v', .string R.2.1, .nilIface]) ∧ OwnN w' base v' R.1) ∨
  (R.2.2 ≠ 0 ∧ e = .returned (.tuple #[.agg #[.slice none 0 0, .slice none 0 0], .string ⟨#[]⟩, .iface 64 (.agg #[.int .i64 R.2.2])]))
set_option maxRecDepth 100000 in
set_option maxHeartbeats 8000000 in
theorem impl_perform (s : St) (v : Value) (x : Rq) (B : Nat) (w : World) (hs : StV w B v s) (hB : B ≤ w.heap.size) (hok : stOk s = true) (hop : rqOk x = true) (hA : ¬ (0 ≤ talkAt s.talks x.c ∧ x.q ≤ (talkOf s x.c).q)) :
    Calls Tryd.prog 73 #[v, rqA x] w fun e w' => Out (ap s x) w.heap.size e w' ∧ Below w.heap.size w w' := by
  have hx := rqOk_fit hop
  have HS := Lib.hid hs
  have Hx := Lib.hid hx
  have HO := Lib.hid hok
  have HQ := Lib.hid hop
  have HA := Lib.hid hA
  have Hfit := Lib.hid (ok_fits hok)
  obtain ⟨vi, vt, rfl, hri, hrt⟩ := hs
  unfold rqA
  obtain ⟨W, hW⟩ : ∃ W, W = ((w.alloc (.cells #[vi, vt] 27)).alloc (.cells #[.string x.c, .int .i64 x.q, .int .i64 x.n, .string x.k, .string x.v] 29)).alloc (.cells #[.slice none 0 0, .slice none 0 0] 27) := ⟨_, rfl⟩
  have hbW : Below w.heap.size w W := by rw [hW]; exact (((Below.refl _ _).alloc (Nat.le_refl _) _).alloc (by simp) _).alloc (by simp; omega) _
  have hWs : W.heap.size = w.heap.size + 3 := by rw [hW]; simp
  have KP : Hid (W.heap[w.heap.size]? = some (.cells #[vi, vt] 27 (0, 0))) := Lib.hid (by rw [hW, Below.heap_alloc _ _ _ (by simp; omega), Below.heap_alloc _ _ _ (by simp)]; exact heap_new _ _)
  have KQ : Hid (W.heap[w.heap.size + 1]? = some (.cells #[.string x.c, .int .i64 x.q, .int .i64 x.n, .string x.k, .string x.v] 29 (0, 0))) := Lib.hid (by rw [hW, Below.heap_alloc _ _ _ (by simp)]; simpa using heap_new (w.alloc (.cells #[vi, vt] 27)) (.cells #[.string x.c, .int .i64 x.q, .int .i64 x.n, .string x.k, .string x.v] 29))
  have KR : Hid (W.heap[w.heap.size + 1 + 1]? = some (.cells #[.slice none 0 0, .slice none 0 0] 27 (0, 0))) := Lib.hid (by rw [hW]; simpa using heap_new ((w.alloc (.cells #[vi, vt] 27)).alloc (.cells #[.string x.c, .int .i64 x.q, .int .i64 x.n, .string x.k, .string x.v] 29)) (.cells #[.slice none 0 0, .slice none 0 0] 27))
  have LP : Hid (w.heap.size < W.heap.size) := Lib.hid (by omega)
  have LQ : Hid (w.heap.size + 1 < W.heap.size) := Lib.hid (by omega)
  have LR : Hid (w.heap.size + 1 + 1 < W.heap.size) := Lib.hid (by omega)
  have HWs := Lib.hid hWs
  have BB := Lib.hid hbW
  have hc0 := impl_valueOf s _ x.k B W (HS.out.later (BB.out.mono hB) (Nat.le_refl _)) (Nat.le_trans hB BB.out.size) Hfit.out hx.2.1
  clear hri hrt hx hok hop hA hbW hWs
  have fP0 := tcr KP 0
  have fP1 := tcr KP 1
  have fQ0 := tcr KQ 0
  have fQ1 := tcr KQ 1
  have fQ2 := tcr KQ 2
  have fQ3 := tcr KQ 3
  have fQ4 := tcr KQ 4
  rw [hW] at hc0 fP0 fP1 fQ0 fQ1 fQ2 fQ3 fQ4
  go_enter Tryd.func73, Tryd.ntmps73
  go_wp2_with (go_at_call 98; refine hc0.mono ?_; rintro e w1 ⟨rfl, hb1⟩; refine Hid.out ?_)
  refine Lib.hid ?_
  rw [← hW] at hb1
  clear hc0 hW
  clear fP0 fP1 fQ0 fQ1 fQ2 fQ3 fQ4
  replace KP := tkb hb1 LP KP
  replace LP := tlz LP hb1.size
  replace KQ := tkb hb1 LQ KQ
  replace LQ := tlz LQ hb1.size
  replace KR := tkb hb1 LR KR
  replace LR := tlz LR hb1.size
  replace BB := tbt BB hb1
  clear hb1
  have B1s : Hid (w.heap.size ≤ w1.heap.size) := Lib.hid BB.out.size
  have LPa := LP
  have LQa := LQ
  have LRa := LR
  obtain ⟨EE, hEE⟩ : ∃ E : Bool, E = stOk (stepS s x) := ⟨_, rfl⟩
  have HEE := Lib.hid hEE
  clear hEE
  go_wp2_with fail
  go_cut [8, 9] (fun p b wx => ∃ (yb : Nat) (a0 : Option Addr) (n0 c0 : Nat) (a1 : Option Addr) (n1 c1 : Nat), p = .pointer (some ⟨yb, 0, none⟩) ∧ b = .bool EE ∧ Hid (wx.heap[yb]? = some (.cells #[.slice a0 n0 c0, .slice a1 n1 c1] 27 (0, 0))) ∧ Hid (EE = true → StV wx wx.heap.size (.agg #[.slice a0 n0 c0, .slice a1 n1 c1]) (stepS s x)) ∧ Hid (Below w1.heap.size w1 wx) ∧ Hid (w1.heap.size ≤ yb ∧ yb < wx.heap.size))
  case first =>
    have hnn := (rqOk_parts HQ.out).1
    have hn : x.n = 0 ∨ x.n = 1 ∨ x.n = 2 := by omega
    clear hnn
    have HSS : Hid (∀ w' : World, w'.heap[w.heap.size]? = some (.cells #[vi, vt] 27 (0, 0)) → w'.heap[w.heap.size + 1]? = some (.cells #[.string x.c, .int .i64 x.q, .int .i64 x.n, .string x.k, .string x.v] 29 (0, 0)) → (w'.cell? ⟨w.heap.size, 0, none⟩ = some (vi) ∧ w'.cell? ⟨w.heap.size, 1, none⟩ = some (vt)) ∧ (w'.cell? ⟨w.heap.size + 1, 0, none⟩ = some (.string x.c) ∧ w'.cell? ⟨w.heap.size + 1, 1, none⟩ = some (.int .i64 x.q) ∧ w'.cell? ⟨w.heap.size + 1, 2, none⟩ = some (.int .i64 x.n) ∧ w'.cell? ⟨w.heap.size + 1, 3, none⟩ = some (.string x.k) ∧ w'.cell? ⟨w.heap.size + 1, 4, none⟩ = some (.string x.v))) := Lib.hid (fun w' k0 k1 => ⟨⟨by simpa using cell_of_row w' _ 0 _ _ _ k0, by simpa using cell_of_row w' _ 1 _ _ _ k0⟩, ⟨by simpa using cell_of_row w' _ 0 _ _ _ k1, by simpa using cell_of_row w' _ 1 _ _ _ k1, by simpa using cell_of_row w' _ 2 _ _ _ k1, by simpa using cell_of_row w' _ 3 _ _ _ k1, by simpa using cell_of_row w' _ 4 _ _ _ k1⟩⟩)
    rcases hn with hn | hn | hn
    · have Hlk : Hid (∀ (w : World) (b : Nat), w.heap[b]? = some (.map chEs 3) → (Instr.lookup 126 (.map (some b)) (.int .i64 x.n) false).run Tryd.prog w = .ok (.func (.func 115) #[] #[]) w) := Lib.hid (fun w b h => by rw [hn]; exact look0 w b h)
      have Hn := Lib.hid hn
      clear hn
      refine wp_region_held_drew (S := (fun w' => (w'.cell? ⟨w.heap.size, 0, none⟩ = some (vi) ∧ w'.cell? ⟨w.heap.size, 1, none⟩ = some (vt)) ∧ (w'.cell? ⟨w.heap.size + 1, 0, none⟩ = some (.string x.c) ∧ w'.cell? ⟨w.heap.size + 1, 1, none⟩ = some (.int .i64 x.q) ∧ w'.cell? ⟨w.heap.size + 1, 2, none⟩ = some (.int .i64 x.n) ∧ w'.cell? ⟨w.heap.size + 1, 3, none⟩ = some (.string x.k) ∧ w'.cell? ⟨w.heap.size + 1, 4, none⟩ = some (.string x.v)))) (by kernel_rfl) (HSS.out w1.drew KP.out KQ.out) (fun hHeld => ?_)
      obtain ⟨zD, hzD⟩ : ∃ z, z = w1.drew := ⟨_, rfl⟩
      rw [← hzD] at hHeld ⊢
      have bzD : Below w1.heap.size w1 zD := by rw [hzD]; exact (Below.refl _ _).drew
      have BA : Hid (Below w1.heap.size w1 zD) := Lib.hid bzD
      have Ba0 := Lib.hid bzD.size
      replace KP := tkb bzD LP KP
      replace LP := tlz LP bzD.size
      replace KQ := tkb bzD LQ KQ
      replace LQ := tlz LQ bzD.size
      replace KR := tkb bzD LR KR
      replace LR := tlz LR bzD.size
      replace BB := tbt BB bzD
      clear bzD hzD
      refine tk0 1 ?_
      refine tk 2 (v := ?_) ?_ ?_; rotate_left
      · refine Or.inl ⟨by rfl, ?_⟩; intro w hSw; obtain ⟨⟨gP0, gP1⟩, gQ0, gQ1, gQ2, gQ3, gQ4⟩ := hSw; go_simp; first | done | with_reducible rfl
      refine tk 4 (v := ?_) ?_ ?_; rotate_left
      · refine Or.inl ⟨by rfl, ?_⟩; intro w hSw; obtain ⟨⟨gP0, gP1⟩, gQ0, gQ1, gQ2, gQ3, gQ4⟩ := hSw; go_simp; first | done | with_reducible rfl
      refine tk 5 (v := ?_) ?_ ?_; rotate_left
      · refine Or.inl ⟨by rfl, ?_⟩; intro w hSw; obtain ⟨⟨gP0, gP1⟩, gQ0, gQ1, gQ2, gQ3, gQ4⟩ := hSw; go_simp; first | done | with_reducible rfl
      refine rd2 0 10 (fun K hK => ?_) (fun K hK => ?_)
      · go_simp
        go_at_call 99
        refine (impl_changes _).mono ?_
        rintro e z1 ⟨rfl, hz1⟩
        have bz1 : Below zD.heap.size zD z1 := by rw [hz1]; exact (Below.refl _ _).alloc (Nat.le_refl _) _
        replace KP := tkb bz1 LP KP
        replace LP := tlz LP bz1.size
        replace KQ := tkb bz1 LQ KQ
        replace LQ := tlz LQ bz1.size
        replace KR := tkb bz1 LR KR
        replace LR := tlz LR bz1.size
        replace BB := tbt BB bz1
        replace BA := tbt BA bz1
        have KM : Hid (z1.heap[zD.heap.size]? = some (.map chEs 3)) := Lib.hid (by rw [hz1]; exact heap_new _ _)
        have LM : Hid (zD.heap.size < z1.heap.size) := Lib.hid (by rw [hz1]; simp)
        clear bz1 hz1
        go_wp2_with fail
        refine hK.out _ _ (HSS.out _ KP.out KQ.out) (fun hHeld => ?_)
        clear hK K
        try simp only [getElem_toArray, getElem_cons_zero, getElem_cons_succ, Act.put, setIfInBounds_toArray, set_cons_zero, set_cons_succ]
        refine rd2 3 10 (fun K hK => ?_) (fun K hK => ?_)
        · have hl := Hlk.out z1 _ KM.out
          go_simp
          clear hl
          refine hK.out _ _ (HSS.out _ KP.out KQ.out) (fun hHeld => ?_)
          clear hK K
          try simp only [getElem_toArray, getElem_cons_zero, getElem_cons_succ, Act.put, setIfInBounds_toArray, set_cons_zero, set_cons_succ]
          refine rd2 6 10 (fun K hK => ?_) (fun K hK => ?_)
          · have hc := step_get s _ x B z1 (HS.out.later (BB.out.mono hB) (Nat.le_refl _)) (Nat.le_trans hB BB.out.size) HO.out Hx.out Hn.out
            unfold rqA at hc
            go_simp
            go_at_call 115
            refine hc.mono ?_
            rintro e z2 ⟨b0, n0, c0, b1, n1, c1, rfl, hLeft, bz2⟩
            rw [← HEE.out] at hLeft ⊢
            clear hc
            have HL := Lib.hid hLeft
            clear hLeft
            replace KP := tkb bz2 LP KP
            replace LP := tlz LP bz2.size
            replace KQ := tkb bz2 LQ KQ
            replace LQ := tlz LQ bz2.size
            replace KR := tkb bz2 LR KR
            replace LR := tlz LR bz2.size
            replace KM := tkb bz2 LM KM
            replace LM := tlz LM bz2.size
            replace BB := tbt BB bz2
            replace BA := tbt BA bz2
            clear bz2
            have BC : Hid (Below z2.heap.size z2 z2) := Lib.hid (Below.refl _ _)
            go_wp2_with fail
            refine hK.out _ _ (HSS.out _ KP.out KQ.out) (fun hHeld => ?_)
            clear hK K
            refine tk0 7 ?_
            refine tk0 8 ?_
            refine tk0 9 ?_
            refine rd1 10 (fun K hK => ?_)
            go_simp
            obtain ⟨z3, hz3⟩ : ∃ z, z = z2.alloc (.cells #[.slice none 0 0, .slice none 0 0] 27) := ⟨_, rfl⟩
            rw [← hz3]
            have bz3 : Below z2.heap.size z2 z3 := by rw [hz3]; exact (Below.refl _ _).alloc (Nat.le_refl _) _
            have sz3 : Hid (z3.heap.size = z2.heap.size + 1) := Lib.hid (by rw [hz3]; simp)
            have yA : Hid (w1.heap.size ≤ z2.heap.size) := Lib.hid BA.out.size
            replace KP := tkb bz3 LP KP
            replace LP := tlz LP bz3.size
            replace KQ := tkb bz3 LQ KQ
            replace LQ := tlz LQ bz3.size
            replace KR := tkb bz3 LR KR
            replace LR := tlz LR bz3.size
            replace KM := tkb bz3 LM KM
            replace LM := tlz LM bz3.size
            replace BB := tbt BB bz3
            replace BA := tbt BA bz3
            replace BC := tbt BC bz3
            have KY : Hid (z3.heap[z2.heap.size]? = some (.cells #[.slice none 0 0, .slice none 0 0] 27 (0, 0))) := Lib.hid (by rw [hz3]; exact heap_new _ _)
            have LY : Hid (z2.heap.size < z3.heap.size) := Lib.hid (by have := sz3.out; omega)
            clear bz3 hz3
            refine hK.out _ _ (HSS.out _ KP.out KQ.out) (fun hHeld => ?_)
            clear hK K
            try simp only [getElem_toArray, getElem_cons_zero, getElem_cons_succ, Act.put, setIfInBounds_toArray, set_cons_zero, set_cons_succ]
            have fY0 := tcr KY 0
            have fY1 := tcr KY 1
            have zY0 := tfr KY 0
            have zY1 := tfr KY 1
            refine rd1 11 (fun K hK => ?_)
            go_simp
            obtain ⟨Y, hY⟩ : ∃ Y, Y = (z3.setCell ⟨z2.heap.size, 0, none⟩ (.slice b0 n0 c0)).setCell ⟨z2.heap.size, 1, none⟩ (.slice b1 n1 c1) := ⟨_, rfl⟩
            rw [← hY]
            have f1 := heap_setCell_same _ (z2.heap.size) 0 _ _ (.slice b0 n0 c0) KY.out
            have f2 := heap_setCell_same _ (z2.heap.size) 1 _ _ (.slice b1 n1 c1) f1
            rw [← hY] at f2
            have gY : z3.grownBy Y (some (z2.heap.size)) := by rw [hY]; exact (grown_set _ ⟨z2.heap.size, 0, none⟩ _).trans (grown_set _ ⟨z2.heap.size, 1, none⟩ _)
            clear fY0 fY1
            clear zY0 zY1
            clear hY f1
            simp only [List.setIfInBounds_toArray, List.set_cons_zero, List.set_cons_succ] at f2
            have F2 := Lib.hid f2
            have hBw : B ≤ z2.heap.size := Nat.le_trans hB (Nat.le_trans B1s.out yA.out)
            have HST : Hid (EE = true → StV Y Y.heap.size (.agg #[.slice b0 n0 c0, .slice b1 n1 c1]) (stepS s x)) := Lib.hid (fun h => HL.out h Y (.inr (BC.out.grown gY BC.out.size (fun k hk => by cases hk; exact Nat.le_refl _))))
            have LY2 : Hid (z2.heap.size < Y.heap.size) := Lib.hid (Nat.lt_of_lt_of_le LY.out gY.size)
            have BA2 : Hid (Below w1.heap.size w1 Y) := Lib.hid (BA.out.grown gY BA.out.size (fun k hk => by cases hk; exact yA.out))
            have KPy := Lib.hid ((gY.block _ LP.out (fun e => by have := yA.out; have := LPa.out; simp only [Option.some.injEq] at e; omega)).trans KP.out)
            have KQy := Lib.hid ((gY.block _ LQ.out (fun e => by have := yA.out; have := LQa.out; simp only [Option.some.injEq] at e; omega)).trans KQ.out)
            refine hK.out _ _ (HSS.out _ KPy.out KQy.out) (fun hHeld => ?_)
            clear hK K gY f2
            try simp only [getElem_toArray, getElem_cons_zero, getElem_cons_succ, Act.put, setIfInBounds_toArray, set_cons_zero, set_cons_succ]
            refine tk0 12 ?_
            refine wpAnyH_done (by kernel_rfl) ?_ _
            clear hHeld
            go_wp2_with fail
            go_meet
            exact ⟨z2.heap.size, b0, n0, c0, b1, n1, c1, rfl, rfl, F2, HST, BA2, Lib.hid ⟨yA.out, LY2.out⟩⟩
          · go_simp
            obtain ⟨z4, hz4⟩ : ∃ z, z = z1.alloc (.cells #[.slice none 0 0, .slice none 0 0] 27) := ⟨_, rfl⟩
            rw [← hz4]
            have bz4 : Below z1.heap.size z1 z4 := by rw [hz4]; exact (Below.refl _ _).alloc (Nat.le_refl _) _
            have sz4 : Hid (z4.heap.size = z1.heap.size + 1) := Lib.hid (by rw [hz4]; simp)
            have yA : Hid (w1.heap.size ≤ z1.heap.size) := Lib.hid BA.out.size
            replace KP := tkb bz4 LP KP
            replace LP := tlz LP bz4.size
            replace KQ := tkb bz4 LQ KQ
            replace LQ := tlz LQ bz4.size
            replace KR := tkb bz4 LR KR
            replace LR := tlz LR bz4.size
            replace KM := tkb bz4 LM KM
            replace LM := tlz LM bz4.size
            replace BB := tbt BB bz4
            replace BA := tbt BA bz4
            have KY : Hid (z4.heap[z1.heap.size]? = some (.cells #[.slice none 0 0, .slice none 0 0] 27 (0, 0))) := Lib.hid (by rw [hz4]; exact heap_new _ _)
            have LY : Hid (z1.heap.size < z4.heap.size) := Lib.hid (by have := sz4.out; omega)
            clear bz4 hz4
            refine hK.out _ _ (HSS.out _ KP.out KQ.out) (fun hHeld => ?_)
            clear hK K
            try simp only [getElem_toArray, getElem_cons_zero, getElem_cons_succ, Act.put, setIfInBounds_toArray, set_cons_zero, set_cons_succ]
            refine rd1 6 (fun K hK => ?_)
            have hc := step_get s _ x B z4 (HS.out.later (BB.out.mono hB) (Nat.le_refl _)) (Nat.le_trans hB BB.out.size) HO.out Hx.out Hn.out
            unfold rqA at hc
            go_simp
            go_at_call 115
            refine hc.mono ?_
            rintro e z5 ⟨b0, n0, c0, b1, n1, c1, rfl, hLeft, bz5⟩
            rw [← HEE.out] at hLeft ⊢
            clear hc
            have HL := Lib.hid hLeft
            clear hLeft
            have LYc := LY
            replace KP := tkb bz5 LP KP
            replace LP := tlz LP bz5.size
            replace KQ := tkb bz5 LQ KQ
            replace LQ := tlz LQ bz5.size
            replace KR := tkb bz5 LR KR
            replace LR := tlz LR bz5.size
            replace KM := tkb bz5 LM KM
            replace LM := tlz LM bz5.size
            replace KY := tkb bz5 LY KY
            replace LY := tlz LY bz5.size
            replace BB := tbt BB bz5
            replace BA := tbt BA bz5
            clear bz5
            have BC : Hid (Below z5.heap.size z5 z5) := Lib.hid (Below.refl _ _)
            go_wp2_with fail
            refine hK.out _ _ (HSS.out _ KP.out KQ.out) (fun hHeld => ?_)
            clear hK K
            refine tk0 7 ?_
            refine tk0 8 ?_
            refine tk0 9 ?_
            have fY0 := tcr KY 0
            have fY1 := tcr KY 1
            have zY0 := tfr KY 0
            have zY1 := tfr KY 1
            refine rd1 11 (fun K hK => ?_)
            go_simp
            obtain ⟨Y, hY⟩ : ∃ Y, Y = (z5.setCell ⟨z1.heap.size, 0, none⟩ (.slice b0 n0 c0)).setCell ⟨z1.heap.size, 1, none⟩ (.slice b1 n1 c1) := ⟨_, rfl⟩
            rw [← hY]
            have f1 := heap_setCell_same _ (z1.heap.size) 0 _ _ (.slice b0 n0 c0) KY.out
            have f2 := heap_setCell_same _ (z1.heap.size) 1 _ _ (.slice b1 n1 c1) f1
            rw [← hY] at f2
            have gY : z5.grownBy Y (some (z1.heap.size)) := by rw [hY]; exact (grown_set _ ⟨z1.heap.size, 0, none⟩ _).trans (grown_set _ ⟨z1.heap.size, 1, none⟩ _)
            clear fY0 fY1
            clear zY0 zY1
            clear hY f1
            simp only [List.setIfInBounds_toArray, List.set_cons_zero, List.set_cons_succ] at f2
            have F2 := Lib.hid f2
            have hBw : B ≤ z1.heap.size := Nat.le_trans hB (Nat.le_trans B1s.out yA.out)
            have HST : Hid (EE = true → StV Y Y.heap.size (.agg #[.slice b0 n0 c0, .slice b1 n1 c1]) (stepS s x)) := Lib.hid (fun h => HL.out h Y (.inl ⟨_, hBw, LYc.out, gY⟩))
            have LY2 : Hid (z1.heap.size < Y.heap.size) := Lib.hid (Nat.lt_of_lt_of_le LY.out gY.size)
            have BA2 : Hid (Below w1.heap.size w1 Y) := Lib.hid (BA.out.grown gY BA.out.size (fun k hk => by cases hk; exact yA.out))
            have KPy := Lib.hid ((gY.block _ LP.out (fun e => by have := yA.out; have := LPa.out; simp only [Option.some.injEq] at e; omega)).trans KP.out)
            have KQy := Lib.hid ((gY.block _ LQ.out (fun e => by have := yA.out; have := LQa.out; simp only [Option.some.injEq] at e; omega)).trans KQ.out)
            refine hK.out _ _ (HSS.out _ KPy.out KQy.out) (fun hHeld => ?_)
            clear hK K gY f2
            try simp only [getElem_toArray, getElem_cons_zero, getElem_cons_succ, Act.put, setIfInBounds_toArray, set_cons_zero, set_cons_succ]
            refine tk0 12 ?_
            refine wpAnyH_done (by kernel_rfl) ?_ _
            clear hHeld
            go_wp2_with fail
            go_meet
            exact ⟨z1.heap.size, b0, n0, c0, b1, n1, c1, rfl, rfl, F2, HST, BA2, Lib.hid ⟨yA.out, LY2.out⟩⟩
        · go_simp
          obtain ⟨z6, hz6⟩ : ∃ z, z = z1.alloc (.cells #[.slice none 0 0, .slice none 0 0] 27) := ⟨_, rfl⟩
          rw [← hz6]
          have bz6 : Below z1.heap.size z1 z6 := by rw [hz6]; exact (Below.refl _ _).alloc (Nat.le_refl _) _
          have sz6 : Hid (z6.heap.size = z1.heap.size + 1) := Lib.hid (by rw [hz6]; simp)
          have yA : Hid (w1.heap.size ≤ z1.heap.size) := Lib.hid BA.out.size
          replace KP := tkb bz6 LP KP
          replace LP := tlz LP bz6.size
          replace KQ := tkb bz6 LQ KQ
          replace LQ := tlz LQ bz6.size
          replace KR := tkb bz6 LR KR
          replace LR := tlz LR bz6.size
          replace KM := tkb bz6 LM KM
          replace LM := tlz LM bz6.size
          replace BB := tbt BB bz6
          replace BA := tbt BA bz6
          have KY : Hid (z6.heap[z1.heap.size]? = some (.cells #[.slice none 0 0, .slice none 0 0] 27 (0, 0))) := Lib.hid (by rw [hz6]; exact heap_new _ _)
          have LY : Hid (z1.heap.size < z6.heap.size) := Lib.hid (by have := sz6.out; omega)
          clear bz6 hz6
          refine hK.out _ _ (HSS.out _ KP.out KQ.out) (fun hHeld => ?_)
          clear hK K
          try simp only [getElem_toArray, getElem_cons_zero, getElem_cons_succ, Act.put, setIfInBounds_toArray, set_cons_zero, set_cons_succ]
          refine rd1 3 (fun K hK => ?_)
          have hl := Hlk.out z6 _ KM.out
          go_simp
          clear hl
          refine hK.out _ _ (HSS.out _ KP.out KQ.out) (fun hHeld => ?_)
          clear hK K
          try simp only [getElem_toArray, getElem_cons_zero, getElem_cons_succ, Act.put, setIfInBounds_toArray, set_cons_zero, set_cons_succ]
          refine rd1 6 (fun K hK => ?_)
          have hc := step_get s _ x B z6 (HS.out.later (BB.out.mono hB) (Nat.le_refl _)) (Nat.le_trans hB BB.out.size) HO.out Hx.out Hn.out
          unfold rqA at hc
          go_simp
          go_at_call 115
          refine hc.mono ?_
          rintro e z7 ⟨b0, n0, c0, b1, n1, c1, rfl, hLeft, bz7⟩
          rw [← HEE.out] at hLeft ⊢
          clear hc
          have HL := Lib.hid hLeft
          clear hLeft
          have LYc := LY
          replace KP := tkb bz7 LP KP
          replace LP := tlz LP bz7.size
          replace KQ := tkb bz7 LQ KQ
          replace LQ := tlz LQ bz7.size
          replace KR := tkb bz7 LR KR
          replace LR := tlz LR bz7.size
          replace KM := tkb bz7 LM KM
          replace LM := tlz LM bz7.size
          replace KY := tkb bz7 LY KY
          replace LY := tlz LY bz7.size
          replace BB := tbt BB bz7
          replace BA := tbt BA bz7
          clear bz7
          have BC : Hid (Below z7.heap.size z7 z7) := Lib.hid (Below.refl _ _)
          go_wp2_with fail
          refine hK.out _ _ (HSS.out _ KP.out KQ.out) (fun hHeld => ?_)
          clear hK K
          refine tk0 7 ?_
          refine tk0 8 ?_
          refine tk0 9 ?_
          have fY0 := tcr KY 0
          have fY1 := tcr KY 1
          have zY0 := tfr KY 0
          have zY1 := tfr KY 1
          refine rd1 11 (fun K hK => ?_)
          go_simp
          obtain ⟨Y, hY⟩ : ∃ Y, Y = (z7.setCell ⟨z1.heap.size, 0, none⟩ (.slice b0 n0 c0)).setCell ⟨z1.heap.size, 1, none⟩ (.slice b1 n1 c1) := ⟨_, rfl⟩
          rw [← hY]
          have f1 := heap_setCell_same _ (z1.heap.size) 0 _ _ (.slice b0 n0 c0) KY.out
          have f2 := heap_setCell_same _ (z1.heap.size) 1 _ _ (.slice b1 n1 c1) f1
          rw [← hY] at f2
          have gY : z7.grownBy Y (some (z1.heap.size)) := by rw [hY]; exact (grown_set _ ⟨z1.heap.size, 0, none⟩ _).trans (grown_set _ ⟨z1.heap.size, 1, none⟩ _)
          clear fY0 fY1
          clear zY0 zY1
          clear hY f1
          simp only [List.setIfInBounds_toArray, List.set_cons_zero, List.set_cons_succ] at f2
          have F2 := Lib.hid f2
          have hBw : B ≤ z1.heap.size := Nat.le_trans hB (Nat.le_trans B1s.out yA.out)
          have HST : Hid (EE = true → StV Y Y.heap.size (.agg #[.slice b0 n0 c0, .slice b1 n1 c1]) (stepS s x)) := Lib.hid (fun h => HL.out h Y (.inl ⟨_, hBw, LYc.out, gY⟩))
          have LY2 : Hid (z1.heap.size < Y.heap.size) := Lib.hid (Nat.lt_of_lt_of_le LY.out gY.size)
          have BA2 : Hid (Below w1.heap.size w1 Y) := Lib.hid (BA.out.grown gY BA.out.size (fun k hk => by cases hk; exact yA.out))
          have KPy := Lib.hid ((gY.block _ LP.out (fun e => by have := yA.out; have := LPa.out; simp only [Option.some.injEq] at e; omega)).trans KP.out)
          have KQy := Lib.hid ((gY.block _ LQ.out (fun e => by have := yA.out; have := LQa.out; simp only [Option.some.injEq] at e; omega)).trans KQ.out)
          refine hK.out _ _ (HSS.out _ KPy.out KQy.out) (fun hHeld => ?_)
          clear hK K gY f2
          try simp only [getElem_toArray, getElem_cons_zero, getElem_cons_succ, Act.put, setIfInBounds_toArray, set_cons_zero, set_cons_succ]
          refine tk0 12 ?_
          refine wpAnyH_done (by kernel_rfl) ?_ _
          clear hHeld
          go_wp2_with fail
          go_meet
          exact ⟨z1.heap.size, b0, n0, c0, b1, n1, c1, rfl, rfl, F2, HST, BA2, Lib.hid ⟨yA.out, LY2.out⟩⟩
      · go_simp
        obtain ⟨z8, hz8⟩ : ∃ z, z = zD.alloc (.cells #[.slice none 0 0, .slice none 0 0] 27) := ⟨_, rfl⟩
        rw [← hz8]
        have bz8 : Below zD.heap.size zD z8 := by rw [hz8]; exact (Below.refl _ _).alloc (Nat.le_refl _) _
        have sz8 : Hid (z8.heap.size = zD.heap.size + 1) := Lib.hid (by rw [hz8]; simp)
        have yA : Hid (w1.heap.size ≤ zD.heap.size) := Lib.hid BA.out.size
        replace KP := tkb bz8 LP KP
        replace LP := tlz LP bz8.size
        replace KQ := tkb bz8 LQ KQ
        replace LQ := tlz LQ bz8.size
        replace KR := tkb bz8 LR KR
        replace LR := tlz LR bz8.size
        replace BB := tbt BB bz8
        replace BA := tbt BA bz8
        have KY : Hid (z8.heap[zD.heap.size]? = some (.cells #[.slice none 0 0, .slice none 0 0] 27 (0, 0))) := Lib.hid (by rw [hz8]; exact heap_new _ _)
        have LY : Hid (zD.heap.size < z8.heap.size) := Lib.hid (by have := sz8.out; omega)
        clear bz8 hz8
        refine hK.out _ _ (HSS.out _ KP.out KQ.out) (fun hHeld => ?_)
        clear hK K
        refine rd1 0 (fun K hK => ?_)
        go_simp
        go_at_call 99
        refine (impl_changes _).mono ?_
        rintro e z9 ⟨rfl, hz9⟩
        have bz9 : Below z8.heap.size z8 z9 := by rw [hz9]; exact (Below.refl _ _).alloc (Nat.le_refl _) _
        replace KP := tkb bz9 LP KP
        replace LP := tlz LP bz9.size
        replace KQ := tkb bz9 LQ KQ
        replace LQ := tlz LQ bz9.size
        replace KR := tkb bz9 LR KR
        replace LR := tlz LR bz9.size
        replace KY := tkb bz9 LY KY
        replace LY := tlz LY bz9.size
        replace BB := tbt BB bz9
        replace BA := tbt BA bz9
        have KM : Hid (z9.heap[z8.heap.size]? = some (.map chEs 3)) := Lib.hid (by rw [hz9]; exact heap_new _ _)
        have LM : Hid (z8.heap.size < z9.heap.size) := Lib.hid (by rw [hz9]; simp)
        clear bz9 hz9
        go_wp2_with fail
        refine hK.out _ _ (HSS.out _ KP.out KQ.out) (fun hHeld => ?_)
        clear hK K
        try simp only [getElem_toArray, getElem_cons_zero, getElem_cons_succ, Act.put, setIfInBounds_toArray, set_cons_zero, set_cons_succ]
        refine rd1 3 (fun K hK => ?_)
        have hl := Hlk.out z9 _ KM.out
        go_simp
        clear hl
        refine hK.out _ _ (HSS.out _ KP.out KQ.out) (fun hHeld => ?_)
        clear hK K
        try simp only [getElem_toArray, getElem_cons_zero, getElem_cons_succ, Act.put, setIfInBounds_toArray, set_cons_zero, set_cons_succ]
        refine rd1 6 (fun K hK => ?_)
        have hc := step_get s _ x B z9 (HS.out.later (BB.out.mono hB) (Nat.le_refl _)) (Nat.le_trans hB BB.out.size) HO.out Hx.out Hn.out
        unfold rqA at hc
        go_simp
        go_at_call 115
        refine hc.mono ?_
        rintro e z10 ⟨b0, n0, c0, b1, n1, c1, rfl, hLeft, bz10⟩
        rw [← HEE.out] at hLeft ⊢
        clear hc
        have HL := Lib.hid hLeft
        clear hLeft
        have LYc := LY
        replace KP := tkb bz10 LP KP
        replace LP := tlz LP bz10.size
        replace KQ := tkb bz10 LQ KQ
        replace LQ := tlz LQ bz10.size
        replace KR := tkb bz10 LR KR
        replace LR := tlz LR bz10.size
        replace KY := tkb bz10 LY KY
        replace LY := tlz LY bz10.size
        replace KM := tkb bz10 LM KM
        replace LM := tlz LM bz10.size
        replace BB := tbt BB bz10
        replace BA := tbt BA bz10
        clear bz10
        have BC : Hid (Below z10.heap.size z10 z10) := Lib.hid (Below.refl _ _)
        go_wp2_with fail
        refine hK.out _ _ (HSS.out _ KP.out KQ.out) (fun hHeld => ?_)
        clear hK K
        refine tk0 7 ?_
        refine tk0 8 ?_
        refine tk0 9 ?_
        have fY0 := tcr KY 0
        have fY1 := tcr KY 1
        have zY0 := tfr KY 0
        have zY1 := tfr KY 1
        refine rd1 11 (fun K hK => ?_)
        go_simp
        obtain ⟨Y, hY⟩ : ∃ Y, Y = (z10.setCell ⟨zD.heap.size, 0, none⟩ (.slice b0 n0 c0)).setCell ⟨zD.heap.size, 1, none⟩ (.slice b1 n1 c1) := ⟨_, rfl⟩
        rw [← hY]
        have f1 := heap_setCell_same _ (zD.heap.size) 0 _ _ (.slice b0 n0 c0) KY.out
        have f2 := heap_setCell_same _ (zD.heap.size) 1 _ _ (.slice b1 n1 c1) f1
        rw [← hY] at f2
        have gY : z10.grownBy Y (some (zD.heap.size)) := by rw [hY]; exact (grown_set _ ⟨zD.heap.size, 0, none⟩ _).trans (grown_set _ ⟨zD.heap.size, 1, none⟩ _)
        clear fY0 fY1
        clear zY0 zY1
        clear hY f1
        simp only [List.setIfInBounds_toArray, List.set_cons_zero, List.set_cons_succ] at f2
        have F2 := Lib.hid f2
        have hBw : B ≤ zD.heap.size := Nat.le_trans hB (Nat.le_trans B1s.out yA.out)
        have HST : Hid (EE = true → StV Y Y.heap.size (.agg #[.slice b0 n0 c0, .slice b1 n1 c1]) (stepS s x)) := Lib.hid (fun h => HL.out h Y (.inl ⟨_, hBw, LYc.out, gY⟩))
        have LY2 : Hid (zD.heap.size < Y.heap.size) := Lib.hid (Nat.lt_of_lt_of_le LY.out gY.size)
        have BA2 : Hid (Below w1.heap.size w1 Y) := Lib.hid (BA.out.grown gY BA.out.size (fun k hk => by cases hk; exact yA.out))
        have KPy := Lib.hid ((gY.block _ LP.out (fun e => by have := yA.out; have := LPa.out; simp only [Option.some.injEq] at e; omega)).trans KP.out)
        have KQy := Lib.hid ((gY.block _ LQ.out (fun e => by have := yA.out; have := LQa.out; simp only [Option.some.injEq] at e; omega)).trans KQ.out)
        refine hK.out _ _ (HSS.out _ KPy.out KQy.out) (fun hHeld => ?_)
        clear hK K gY f2
        try simp only [getElem_toArray, getElem_cons_zero, getElem_cons_succ, Act.put, setIfInBounds_toArray, set_cons_zero, set_cons_succ]
        refine tk0 12 ?_
        refine wpAnyH_done (by kernel_rfl) ?_ _
        clear hHeld
        go_wp2_with fail
        go_meet
        exact ⟨zD.heap.size, b0, n0, c0, b1, n1, c1, rfl, rfl, F2, HST, BA2, Lib.hid ⟨yA.out, LY2.out⟩⟩
    · have Hlk : Hid (∀ (w : World) (b : Nat), w.heap[b]? = some (.map chEs 3) → (Instr.lookup 126 (.map (some b)) (.int .i64 x.n) false).run Tryd.prog w = .ok (.func (.func 116) #[] #[]) w) := Lib.hid (fun w b h => by rw [hn]; exact look1 w b h)
      have Hn := Lib.hid hn
      clear hn
      refine wp_region_held_drew (S := (fun w' => (w'.cell? ⟨w.heap.size, 0, none⟩ = some (vi) ∧ w'.cell? ⟨w.heap.size, 1, none⟩ = some (vt)) ∧ (w'.cell? ⟨w.heap.size + 1, 0, none⟩ = some (.string x.c) ∧ w'.cell? ⟨w.heap.size + 1, 1, none⟩ = some (.int .i64 x.q) ∧ w'.cell? ⟨w.heap.size + 1, 2, none⟩ = some (.int .i64 x.n) ∧ w'.cell? ⟨w.heap.size + 1, 3, none⟩ = some (.string x.k) ∧ w'.cell? ⟨w.heap.size + 1, 4, none⟩ = some (.string x.v)))) (by kernel_rfl) (HSS.out w1.drew KP.out KQ.out) (fun hHeld => ?_)
      obtain ⟨zD, hzD⟩ : ∃ z, z = w1.drew := ⟨_, rfl⟩
      rw [← hzD] at hHeld ⊢
      have bzD : Below w1.heap.size w1 zD := by rw [hzD]; exact (Below.refl _ _).drew
      have BA : Hid (Below w1.heap.size w1 zD) := Lib.hid bzD
      have Ba0 := Lib.hid bzD.size
      replace KP := tkb bzD LP KP
      replace LP := tlz LP bzD.size
      replace KQ := tkb bzD LQ KQ
      replace LQ := tlz LQ bzD.size
      replace KR := tkb bzD LR KR
      replace LR := tlz LR bzD.size
      replace BB := tbt BB bzD
      clear bzD hzD
      refine tk0 1 ?_
      refine tk 2 (v := ?_) ?_ ?_; rotate_left
      · refine Or.inl ⟨by rfl, ?_⟩; intro w hSw; obtain ⟨⟨gP0, gP1⟩, gQ0, gQ1, gQ2, gQ3, gQ4⟩ := hSw; go_simp; first | done | with_reducible rfl
      refine tk 4 (v := ?_) ?_ ?_; rotate_left
      · refine Or.inl ⟨by rfl, ?_⟩; intro w hSw; obtain ⟨⟨gP0, gP1⟩, gQ0, gQ1, gQ2, gQ3, gQ4⟩ := hSw; go_simp; first | done | with_reducible rfl
      refine tk 5 (v := ?_) ?_ ?_; rotate_left
      · refine Or.inl ⟨by rfl, ?_⟩; intro w hSw; obtain ⟨⟨gP0, gP1⟩, gQ0, gQ1, gQ2, gQ3, gQ4⟩ := hSw; go_simp; first | done | with_reducible rfl
      refine rd2 0 10 (fun K hK => ?_) (fun K hK => ?_)
      · go_simp
        go_at_call 99
        refine (impl_changes _).mono ?_
        rintro e z11 ⟨rfl, hz11⟩
        have bz11 : Below zD.heap.size zD z11 := by rw [hz11]; exact (Below.refl _ _).alloc (Nat.le_refl _) _
        replace KP := tkb bz11 LP KP
        replace LP := tlz LP bz11.size
        replace KQ := tkb bz11 LQ KQ
        replace LQ := tlz LQ bz11.size
        replace KR := tkb bz11 LR KR
        replace LR := tlz LR bz11.size
        replace BB := tbt BB bz11
        replace BA := tbt BA bz11
        have KM : Hid (z11.heap[zD.heap.size]? = some (.map chEs 3)) := Lib.hid (by rw [hz11]; exact heap_new _ _)
        have LM : Hid (zD.heap.size < z11.heap.size) := Lib.hid (by rw [hz11]; simp)
        clear bz11 hz11
        go_wp2_with fail
        refine hK.out _ _ (HSS.out _ KP.out KQ.out) (fun hHeld => ?_)
        clear hK K
        try simp only [getElem_toArray, getElem_cons_zero, getElem_cons_succ, Act.put, setIfInBounds_toArray, set_cons_zero, set_cons_succ]
        refine rd2 3 10 (fun K hK => ?_) (fun K hK => ?_)
        · have hl := Hlk.out z11 _ KM.out
          go_simp
          clear hl
          refine hK.out _ _ (HSS.out _ KP.out KQ.out) (fun hHeld => ?_)
          clear hK K
          try simp only [getElem_toArray, getElem_cons_zero, getElem_cons_succ, Act.put, setIfInBounds_toArray, set_cons_zero, set_cons_succ]
          refine rd2 6 10 (fun K hK => ?_) (fun K hK => ?_)
          · have hc := step_put s _ x B z11 (HS.out.later (BB.out.mono hB) (Nat.le_refl _)) (Nat.le_trans hB BB.out.size) HO.out Hx.out Hn.out
            unfold rqA at hc
            go_simp
            go_at_call 116
            refine hc.mono ?_
            rintro e z12 ⟨b0, n0, c0, b1, n1, c1, rfl, hLeft, bz12⟩
            rw [← HEE.out] at hLeft ⊢
            clear hc
            have HL := Lib.hid hLeft
            clear hLeft
            replace KP := tkb bz12 LP KP
            replace LP := tlz LP bz12.size
            replace KQ := tkb bz12 LQ KQ
            replace LQ := tlz LQ bz12.size
            replace KR := tkb bz12 LR KR
            replace LR := tlz LR bz12.size
            replace KM := tkb bz12 LM KM
            replace LM := tlz LM bz12.size
            replace BB := tbt BB bz12
            replace BA := tbt BA bz12
            clear bz12
            have BC : Hid (Below z12.heap.size z12 z12) := Lib.hid (Below.refl _ _)
            go_wp2_with fail
            refine hK.out _ _ (HSS.out _ KP.out KQ.out) (fun hHeld => ?_)
            clear hK K
            refine tk0 7 ?_
            refine tk0 8 ?_
            refine tk0 9 ?_
            refine rd1 10 (fun K hK => ?_)
            go_simp
            obtain ⟨z13, hz13⟩ : ∃ z, z = z12.alloc (.cells #[.slice none 0 0, .slice none 0 0] 27) := ⟨_, rfl⟩
            rw [← hz13]
            have bz13 : Below z12.heap.size z12 z13 := by rw [hz13]; exact (Below.refl _ _).alloc (Nat.le_refl _) _
            have sz13 : Hid (z13.heap.size = z12.heap.size + 1) := Lib.hid (by rw [hz13]; simp)
            have yA : Hid (w1.heap.size ≤ z12.heap.size) := Lib.hid BA.out.size
            replace KP := tkb bz13 LP KP
            replace LP := tlz LP bz13.size
            replace KQ := tkb bz13 LQ KQ
            replace LQ := tlz LQ bz13.size
            replace KR := tkb bz13 LR KR
            replace LR := tlz LR bz13.size
            replace KM := tkb bz13 LM KM
            replace LM := tlz LM bz13.size
            replace BB := tbt BB bz13
            replace BA := tbt BA bz13
            replace BC := tbt BC bz13
            have KY : Hid (z13.heap[z12.heap.size]? = some (.cells #[.slice none 0 0, .slice none 0 0] 27 (0, 0))) := Lib.hid (by rw [hz13]; exact heap_new _ _)
            have LY : Hid (z12.heap.size < z13.heap.size) := Lib.hid (by have := sz13.out; omega)
            clear bz13 hz13
            refine hK.out _ _ (HSS.out _ KP.out KQ.out) (fun hHeld => ?_)
            clear hK K
            try simp only [getElem_toArray, getElem_cons_zero, getElem_cons_succ, Act.put, setIfInBounds_toArray, set_cons_zero, set_cons_succ]
            have fY0 := tcr KY 0
            have fY1 := tcr KY 1
            have zY0 := tfr KY 0
            have zY1 := tfr KY 1
            refine rd1 11 (fun K hK => ?_)
            go_simp
            obtain ⟨Y, hY⟩ : ∃ Y, Y = (z13.setCell ⟨z12.heap.size, 0, none⟩ (.slice b0 n0 c0)).setCell ⟨z12.heap.size, 1, none⟩ (.slice b1 n1 c1) := ⟨_, rfl⟩
            rw [← hY]
            have f1 := heap_setCell_same _ (z12.heap.size) 0 _ _ (.slice b0 n0 c0) KY.out
            have f2 := heap_setCell_same _ (z12.heap.size) 1 _ _ (.slice b1 n1 c1) f1
            rw [← hY] at f2
            have gY : z13.grownBy Y (some (z12.heap.size)) := by rw [hY]; exact (grown_set _ ⟨z12.heap.size, 0, none⟩ _).trans (grown_set _ ⟨z12.heap.size, 1, none⟩ _)
            clear fY0 fY1
            clear zY0 zY1
            clear hY f1
            simp only [List.setIfInBounds_toArray, List.set_cons_zero, List.set_cons_succ] at f2
            have F2 := Lib.hid f2
            have hBw : B ≤ z12.heap.size := Nat.le_trans hB (Nat.le_trans B1s.out yA.out)
            have HST : Hid (EE = true → StV Y Y.heap.size (.agg #[.slice b0 n0 c0, .slice b1 n1 c1]) (stepS s x)) := Lib.hid (fun h => HL.out h Y (.inr (BC.out.grown gY BC.out.size (fun k hk => by cases hk; exact Nat.le_refl _))))
            have LY2 : Hid (z12.heap.size < Y.heap.size) := Lib.hid (Nat.lt_of_lt_of_le LY.out gY.size)
            have BA2 : Hid (Below w1.heap.size w1 Y) := Lib.hid (BA.out.grown gY BA.out.size (fun k hk => by cases hk; exact yA.out))
            have KPy := Lib.hid ((gY.block _ LP.out (fun e => by have := yA.out; have := LPa.out; simp only [Option.some.injEq] at e; omega)).trans KP.out)
            have KQy := Lib.hid ((gY.block _ LQ.out (fun e => by have := yA.out; have := LQa.out; simp only [Option.some.injEq] at e; omega)).trans KQ.out)
            refine hK.out _ _ (HSS.out _ KPy.out KQy.out) (fun hHeld => ?_)
            clear hK K gY f2
            try simp only [getElem_toArray, getElem_cons_zero, getElem_cons_succ, Act.put, setIfInBounds_toArray, set_cons_zero, set_cons_succ]
            refine tk0 12 ?_
            refine wpAnyH_done (by kernel_rfl) ?_ _
            clear hHeld
            go_wp2_with fail
            go_meet
            exact ⟨z12.heap.size, b0, n0, c0, b1, n1, c1, rfl, rfl, F2, HST, BA2, Lib.hid ⟨yA.out, LY2.out⟩⟩
          · go_simp
            obtain ⟨z14, hz14⟩ : ∃ z, z = z11.alloc (.cells #[.slice none 0 0, .slice none 0 0] 27) := ⟨_, rfl⟩
            rw [← hz14]
            have bz14 : Below z11.heap.size z11 z14 := by rw [hz14]; exact (Below.refl _ _).alloc (Nat.le_refl _) _
            have sz14 : Hid (z14.heap.size = z11.heap.size + 1) := Lib.hid (by rw [hz14]; simp)
            have yA : Hid (w1.heap.size ≤ z11.heap.size) := Lib.hid BA.out.size
            replace KP := tkb bz14 LP KP
            replace LP := tlz LP bz14.size
            replace KQ := tkb bz14 LQ KQ
            replace LQ := tlz LQ bz14.size
            replace KR := tkb bz14 LR KR
            replace LR := tlz LR bz14.size
            replace KM := tkb bz14 LM KM
            replace LM := tlz LM bz14.size
            replace BB := tbt BB bz14
            replace BA := tbt BA bz14
            have KY : Hid (z14.heap[z11.heap.size]? = some (.cells #[.slice none 0 0, .slice none 0 0] 27 (0, 0))) := Lib.hid (by rw [hz14]; exact heap_new _ _)
            have LY : Hid (z11.heap.size < z14.heap.size) := Lib.hid (by have := sz14.out; omega)
            clear bz14 hz14
            refine hK.out _ _ (HSS.out _ KP.out KQ.out) (fun hHeld => ?_)
            clear hK K
            try simp only [getElem_toArray, getElem_cons_zero, getElem_cons_succ, Act.put, setIfInBounds_toArray, set_cons_zero, set_cons_succ]
            refine rd1 6 (fun K hK => ?_)
            have hc := step_put s _ x B z14 (HS.out.later (BB.out.mono hB) (Nat.le_refl _)) (Nat.le_trans hB BB.out.size) HO.out Hx.out Hn.out
            unfold rqA at hc
            go_simp
            go_at_call 116
            refine hc.mono ?_
            rintro e z15 ⟨b0, n0, c0, b1, n1, c1, rfl, hLeft, bz15⟩
            rw [← HEE.out] at hLeft ⊢
            clear hc
            have HL := Lib.hid hLeft
            clear hLeft
            have LYc := LY
            replace KP := tkb bz15 LP KP
            replace LP := tlz LP bz15.size
            replace KQ := tkb bz15 LQ KQ
            replace LQ := tlz LQ bz15.size
            replace KR := tkb bz15 LR KR
            replace LR := tlz LR bz15.size
            replace KM := tkb bz15 LM KM
            replace LM := tlz LM bz15.size
            replace KY := tkb bz15 LY KY
            replace LY := tlz LY bz15.size
            replace BB := tbt BB bz15
            replace BA := tbt BA bz15
            clear bz15
            have BC : Hid (Below z15.heap.size z15 z15) := Lib.hid (Below.refl _ _)
            go_wp2_with fail
            refine hK.out _ _ (HSS.out _ KP.out KQ.out) (fun hHeld => ?_)
            clear hK K
            refine tk0 7 ?_
            refine tk0 8 ?_
            refine tk0 9 ?_
            have fY0 := tcr KY 0
            have fY1 := tcr KY 1
            have zY0 := tfr KY 0
            have zY1 := tfr KY 1
            refine rd1 11 (fun K hK => ?_)
            go_simp
            obtain ⟨Y, hY⟩ : ∃ Y, Y = (z15.setCell ⟨z11.heap.size, 0, none⟩ (.slice b0 n0 c0)).setCell ⟨z11.heap.size, 1, none⟩ (.slice b1 n1 c1) := ⟨_, rfl⟩
            rw [← hY]
            have f1 := heap_setCell_same _ (z11.heap.size) 0 _ _ (.slice b0 n0 c0) KY.out
            have f2 := heap_setCell_same _ (z11.heap.size) 1 _ _ (.slice b1 n1 c1) f1
            rw [← hY] at f2
            have gY : z15.grownBy Y (some (z11.heap.size)) := by rw [hY]; exact (grown_set _ ⟨z11.heap.size, 0, none⟩ _).trans (grown_set _ ⟨z11.heap.size, 1, none⟩ _)
            clear fY0 fY1
            clear zY0 zY1
            clear hY f1
            simp only [List.setIfInBounds_toArray, List.set_cons_zero, List.set_cons_succ] at f2
            have F2 := Lib.hid f2
            have hBw : B ≤ z11.heap.size := Nat.le_trans hB (Nat.le_trans B1s.out yA.out)
            have HST : Hid (EE = true → StV Y Y.heap.size (.agg #[.slice b0 n0 c0, .slice b1 n1 c1]) (stepS s x)) := Lib.hid (fun h => HL.out h Y (.inl ⟨_, hBw, LYc.out, gY⟩))
            have LY2 : Hid (z11.heap.size < Y.heap.size) := Lib.hid (Nat.lt_of_lt_of_le LY.out gY.size)
            have BA2 : Hid (Below w1.heap.size w1 Y) := Lib.hid (BA.out.grown gY BA.out.size (fun k hk => by cases hk; exact yA.out))
            have KPy := Lib.hid ((gY.block _ LP.out (fun e => by have := yA.out; have := LPa.out; simp only [Option.some.injEq] at e; omega)).trans KP.out)
            have KQy := Lib.hid ((gY.block _ LQ.out (fun e => by have := yA.out; have := LQa.out; simp only [Option.some.injEq] at e; omega)).trans KQ.out)
            refine hK.out _ _ (HSS.out _ KPy.out KQy.out) (fun hHeld => ?_)
            clear hK K gY f2
            try simp only [getElem_toArray, getElem_cons_zero, getElem_cons_succ, Act.put, setIfInBounds_toArray, set_cons_zero, set_cons_succ]
            refine tk0 12 ?_
            refine wpAnyH_done (by kernel_rfl) ?_ _
            clear hHeld
            go_wp2_with fail
            go_meet
            exact ⟨z11.heap.size, b0, n0, c0, b1, n1, c1, rfl, rfl, F2, HST, BA2, Lib.hid ⟨yA.out, LY2.out⟩⟩
        · go_simp
          obtain ⟨z16, hz16⟩ : ∃ z, z = z11.alloc (.cells #[.slice none 0 0, .slice none 0 0] 27) := ⟨_, rfl⟩
          rw [← hz16]
          have bz16 : Below z11.heap.size z11 z16 := by rw [hz16]; exact (Below.refl _ _).alloc (Nat.le_refl _) _
          have sz16 : Hid (z16.heap.size = z11.heap.size + 1) := Lib.hid (by rw [hz16]; simp)
          have yA : Hid (w1.heap.size ≤ z11.heap.size) := Lib.hid BA.out.size
          replace KP := tkb bz16 LP KP
          replace LP := tlz LP bz16.size
          replace KQ := tkb bz16 LQ KQ
          replace LQ := tlz LQ bz16.size
          replace KR := tkb bz16 LR KR
          replace LR := tlz LR bz16.size
          replace KM := tkb bz16 LM KM
          replace LM := tlz LM bz16.size
          replace BB := tbt BB bz16
          replace BA := tbt BA bz16
          have KY : Hid (z16.heap[z11.heap.size]? = some (.cells #[.slice none 0 0, .slice none 0 0] 27 (0, 0))) := Lib.hid (by rw [hz16]; exact heap_new _ _)
          have LY : Hid (z11.heap.size < z16.heap.size) := Lib.hid (by have := sz16.out; omega)
          clear bz16 hz16
          refine hK.out _ _ (HSS.out _ KP.out KQ.out) (fun hHeld => ?_)
          clear hK K
          try simp only [getElem_toArray, getElem_cons_zero, getElem_cons_succ, Act.put, setIfInBounds_toArray, set_cons_zero, set_cons_succ]
          refine rd1 3 (fun K hK => ?_)
          have hl := Hlk.out z16 _ KM.out
          go_simp
          clear hl
          refine hK.out _ _ (HSS.out _ KP.out KQ.out) (fun hHeld => ?_)
          clear hK K
          try simp only [getElem_toArray, getElem_cons_zero, getElem_cons_succ, Act.put, setIfInBounds_toArray, set_cons_zero, set_cons_succ]
          refine rd1 6 (fun K hK => ?_)
          have hc := step_put s _ x B z16 (HS.out.later (BB.out.mono hB) (Nat.le_refl _)) (Nat.le_trans hB BB.out.size) HO.out Hx.out Hn.out
          unfold rqA at hc
          go_simp
          go_at_call 116
          refine hc.mono ?_
          rintro e z17 ⟨b0, n0, c0, b1, n1, c1, rfl, hLeft, bz17⟩
          rw [← HEE.out] at hLeft ⊢
          clear hc
          have HL := Lib.hid hLeft
          clear hLeft
          have LYc := LY
          replace KP := tkb bz17 LP KP
          replace LP := tlz LP bz17.size
          replace KQ := tkb bz17 LQ KQ
          replace LQ := tlz LQ bz17.size
          replace KR := tkb bz17 LR KR
          replace LR := tlz LR bz17.size
          replace KM := tkb bz17 LM KM
          replace LM := tlz LM bz17.size
          replace KY := tkb bz17 LY KY
          replace LY := tlz LY bz17.size
          replace BB := tbt BB bz17
          replace BA := tbt BA bz17
          clear bz17
          have BC : Hid (Below z17.heap.size z17 z17) := Lib.hid (Below.refl _ _)
          go_wp2_with fail
          refine hK.out _ _ (HSS.out _ KP.out KQ.out) (fun hHeld => ?_)
          clear hK K
          refine tk0 7 ?_
          refine tk0 8 ?_
          refine tk0 9 ?_
          have fY0 := tcr KY 0
          have fY1 := tcr KY 1
          have zY0 := tfr KY 0
          have zY1 := tfr KY 1
          refine rd1 11 (fun K hK => ?_)
          go_simp
          obtain ⟨Y, hY⟩ : ∃ Y, Y = (z17.setCell ⟨z11.heap.size, 0, none⟩ (.slice b0 n0 c0)).setCell ⟨z11.heap.size, 1, none⟩ (.slice b1 n1 c1) := ⟨_, rfl⟩
          rw [← hY]
          have f1 := heap_setCell_same _ (z11.heap.size) 0 _ _ (.slice b0 n0 c0) KY.out
          have f2 := heap_setCell_same _ (z11.heap.size) 1 _ _ (.slice b1 n1 c1) f1
          rw [← hY] at f2
          have gY : z17.grownBy Y (some (z11.heap.size)) := by rw [hY]; exact (grown_set _ ⟨z11.heap.size, 0, none⟩ _).trans (grown_set _ ⟨z11.heap.size, 1, none⟩ _)
          clear fY0 fY1
          clear zY0 zY1
          clear hY f1
          simp only [List.setIfInBounds_toArray, List.set_cons_zero, List.set_cons_succ] at f2
          have F2 := Lib.hid f2
          have hBw : B ≤ z11.heap.size := Nat.le_trans hB (Nat.le_trans B1s.out yA.out)
          have HST : Hid (EE = true → StV Y Y.heap.size (.agg #[.slice b0 n0 c0, .slice b1 n1 c1]) (stepS s x)) := Lib.hid (fun h => HL.out h Y (.inl ⟨_, hBw, LYc.out, gY⟩))
          have LY2 : Hid (z11.heap.size < Y.heap.size) := Lib.hid (Nat.lt_of_lt_of_le LY.out gY.size)
          have BA2 : Hid (Below w1.heap.size w1 Y) := Lib.hid (BA.out.grown gY BA.out.size (fun k hk => by cases hk; exact yA.out))
          have KPy := Lib.hid ((gY.block _ LP.out (fun e => by have := yA.out; have := LPa.out; simp only [Option.some.injEq] at e; omega)).trans KP.out)
          have KQy := Lib.hid ((gY.block _ LQ.out (fun e => by have := yA.out; have := LQa.out; simp only [Option.some.injEq] at e; omega)).trans KQ.out)
          refine hK.out _ _ (HSS.out _ KPy.out KQy.out) (fun hHeld => ?_)
          clear hK K gY f2
          try simp only [getElem_toArray, getElem_cons_zero, getElem_cons_succ, Act.put, setIfInBounds_toArray, set_cons_zero, set_cons_succ]
          refine tk0 12 ?_
          refine wpAnyH_done (by kernel_rfl) ?_ _
          clear hHeld
          go_wp2_with fail
          go_meet
          exact ⟨z11.heap.size, b0, n0, c0, b1, n1, c1, rfl, rfl, F2, HST, BA2, Lib.hid ⟨yA.out, LY2.out⟩⟩
      · go_simp
        obtain ⟨z18, hz18⟩ : ∃ z, z = zD.alloc (.cells #[.slice none 0 0, .slice none 0 0] 27) := ⟨_, rfl⟩
        rw [← hz18]
        have bz18 : Below zD.heap.size zD z18 := by rw [hz18]; exact (Below.refl _ _).alloc (Nat.le_refl _) _
        have sz18 : Hid (z18.heap.size = zD.heap.size + 1) := Lib.hid (by rw [hz18]; simp)
        have yA : Hid (w1.heap.size ≤ zD.heap.size) := Lib.hid BA.out.size
        replace KP := tkb bz18 LP KP
        replace LP := tlz LP bz18.size
        replace KQ := tkb bz18 LQ KQ
        replace LQ := tlz LQ bz18.size
        replace KR := tkb bz18 LR KR
        replace LR := tlz LR bz18.size
        replace BB := tbt BB bz18
        replace BA := tbt BA bz18
        have KY : Hid (z18.heap[zD.heap.size]? = some (.cells #[.slice none 0 0, .slice none 0 0] 27 (0, 0))) := Lib.hid (by rw [hz18]; exact heap_new _ _)
        have LY : Hid (zD.heap.size < z18.heap.size) := Lib.hid (by have := sz18.out; omega)
        clear bz18 hz18
        refine hK.out _ _ (HSS.out _ KP.out KQ.out) (fun hHeld => ?_)
        clear hK K
        refine rd1 0 (fun K hK => ?_)
        go_simp
        go_at_call 99
        refine (impl_changes _).mono ?_
        rintro e z19 ⟨rfl, hz19⟩
        have bz19 : Below z18.heap.size z18 z19 := by rw [hz19]; exact (Below.refl _ _).alloc (Nat.le_refl _) _
        replace KP := tkb bz19 LP KP
        replace LP := tlz LP bz19.size
        replace KQ := tkb bz19 LQ KQ
        replace LQ := tlz LQ bz19.size
        replace KR := tkb bz19 LR KR
        replace LR := tlz LR bz19.size
        replace KY := tkb bz19 LY KY
        replace LY := tlz LY bz19.size
        replace BB := tbt BB bz19
        replace BA := tbt BA bz19
        have KM : Hid (z19.heap[z18.heap.size]? = some (.map chEs 3)) := Lib.hid (by rw [hz19]; exact heap_new _ _)
        have LM : Hid (z18.heap.size < z19.heap.size) := Lib.hid (by rw [hz19]; simp)
        clear bz19 hz19
        go_wp2_with fail
        refine hK.out _ _ (HSS.out _ KP.out KQ.out) (fun hHeld => ?_)
        clear hK K
        try simp only [getElem_toArray, getElem_cons_zero, getElem_cons_succ, Act.put, setIfInBounds_toArray, set_cons_zero, set_cons_succ]
        refine rd1 3 (fun K hK => ?_)
        have hl := Hlk.out z19 _ KM.out
        go_simp
        clear hl
        refine hK.out _ _ (HSS.out _ KP.out KQ.out) (fun hHeld => ?_)
        clear hK K
        try simp only [getElem_toArray, getElem_cons_zero, getElem_cons_succ, Act.put, setIfInBounds_toArray, set_cons_zero, set_cons_succ]
        refine rd1 6 (fun K hK => ?_)
        have hc := step_put s _ x B z19 (HS.out.later (BB.out.mono hB) (Nat.le_refl _)) (Nat.le_trans hB BB.out.size) HO.out Hx.out Hn.out
        unfold rqA at hc
        go_simp
        go_at_call 116
        refine hc.mono ?_
        rintro e z20 ⟨b0, n0, c0, b1, n1, c1, rfl, hLeft, bz20⟩
        rw [← HEE.out] at hLeft ⊢
        clear hc
        have HL := Lib.hid hLeft
        clear hLeft
        have LYc := LY
        replace KP := tkb bz20 LP KP
        replace LP := tlz LP bz20.size
        replace KQ := tkb bz20 LQ KQ
        replace LQ := tlz LQ bz20.size
        replace KR := tkb bz20 LR KR
        replace LR := tlz LR bz20.size
        replace KY := tkb bz20 LY KY
        replace LY := tlz LY bz20.size
        replace KM := tkb bz20 LM KM
        replace LM := tlz LM bz20.size
        replace BB := tbt BB bz20
        replace BA := tbt BA bz20
        clear bz20
        have BC : Hid (Below z20.heap.size z20 z20) := Lib.hid (Below.refl _ _)
        go_wp2_with fail
        refine hK.out _ _ (HSS.out _ KP.out KQ.out) (fun hHeld => ?_)
        clear hK K
        refine tk0 7 ?_
        refine tk0 8 ?_
        refine tk0 9 ?_
        have fY0 := tcr KY 0
        have fY1 := tcr KY 1
        have zY0 := tfr KY 0
        have zY1 := tfr KY 1
        refine rd1 11 (fun K hK => ?_)
        go_simp
        obtain ⟨Y, hY⟩ : ∃ Y, Y = (z20.setCell ⟨zD.heap.size, 0, none⟩ (.slice b0 n0 c0)).setCell ⟨zD.heap.size, 1, none⟩ (.slice b1 n1 c1) := ⟨_, rfl⟩
        rw [← hY]
        have f1 := heap_setCell_same _ (zD.heap.size) 0 _ _ (.slice b0 n0 c0) KY.out
        have f2 := heap_setCell_same _ (zD.heap.size) 1 _ _ (.slice b1 n1 c1) f1
        rw [← hY] at f2
        have gY : z20.grownBy Y (some (zD.heap.size)) := by rw [hY]; exact (grown_set _ ⟨zD.heap.size, 0, none⟩ _).trans (grown_set _ ⟨zD.heap.size, 1, none⟩ _)
        clear fY0 fY1
        clear zY0 zY1
        clear hY f1
        simp only [List.setIfInBounds_toArray, List.set_cons_zero, List.set_cons_succ] at f2
        have F2 := Lib.hid f2
        have hBw : B ≤ zD.heap.size := Nat.le_trans hB (Nat.le_trans B1s.out yA.out)
        have HST : Hid (EE = true → StV Y Y.heap.size (.agg #[.slice b0 n0 c0, .slice b1 n1 c1]) (stepS s x)) := Lib.hid (fun h => HL.out h Y (.inl ⟨_, hBw, LYc.out, gY⟩))
        have LY2 : Hid (zD.heap.size < Y.heap.size) := Lib.hid (Nat.lt_of_lt_of_le LY.out gY.size)
        have BA2 : Hid (Below w1.heap.size w1 Y) := Lib.hid (BA.out.grown gY BA.out.size (fun k hk => by cases hk; exact yA.out))
        have KPy := Lib.hid ((gY.block _ LP.out (fun e => by have := yA.out; have := LPa.out; simp only [Option.some.injEq] at e; omega)).trans KP.out)
        have KQy := Lib.hid ((gY.block _ LQ.out (fun e => by have := yA.out; have := LQa.out; simp only [Option.some.injEq] at e; omega)).trans KQ.out)
        refine hK.out _ _ (HSS.out _ KPy.out KQy.out) (fun hHeld => ?_)
        clear hK K gY f2
        try simp only [getElem_toArray, getElem_cons_zero, getElem_cons_succ, Act.put, setIfInBounds_toArray, set_cons_zero, set_cons_succ]
        refine tk0 12 ?_
        refine wpAnyH_done (by kernel_rfl) ?_ _
        clear hHeld
        go_wp2_with fail
        go_meet
        exact ⟨zD.heap.size, b0, n0, c0, b1, n1, c1, rfl, rfl, F2, HST, BA2, Lib.hid ⟨yA.out, LY2.out⟩⟩
    · have Hlk : Hid (∀ (w : World) (b : Nat), w.heap[b]? = some (.map chEs 3) → (Instr.lookup 126 (.map (some b)) (.int .i64 x.n) false).run Tryd.prog w = .ok (.func (.func 117) #[] #[]) w) := Lib.hid (fun w b h => by rw [hn]; exact look2 w b h)
      have Hn := Lib.hid hn
      clear hn
      refine wp_region_held_drew (S := (fun w' => (w'.cell? ⟨w.heap.size, 0, none⟩ = some (vi) ∧ w'.cell? ⟨w.heap.size, 1, none⟩ = some (vt)) ∧ (w'.cell? ⟨w.heap.size + 1, 0, none⟩ = some (.string x.c) ∧ w'.cell? ⟨w.heap.size + 1, 1, none⟩ = some (.int .i64 x.q) ∧ w'.cell? ⟨w.heap.size + 1, 2, none⟩ = some (.int .i64 x.n) ∧ w'.cell? ⟨w.heap.size + 1, 3, none⟩ = some (.string x.k) ∧ w'.cell? ⟨w.heap.size + 1, 4, none⟩ = some (.string x.v)))) (by kernel_rfl) (HSS.out w1.drew KP.out KQ.out) (fun hHeld => ?_)
      obtain ⟨zD, hzD⟩ : ∃ z, z = w1.drew := ⟨_, rfl⟩
      rw [← hzD] at hHeld ⊢
      have bzD : Below w1.heap.size w1 zD := by rw [hzD]; exact (Below.refl _ _).drew
      have BA : Hid (Below w1.heap.size w1 zD) := Lib.hid bzD
      have Ba0 := Lib.hid bzD.size
      replace KP := tkb bzD LP KP
      replace LP := tlz LP bzD.size
      replace KQ := tkb bzD LQ KQ
      replace LQ := tlz LQ bzD.size
      replace KR := tkb bzD LR KR
      replace LR := tlz LR bzD.size
      replace BB := tbt BB bzD
      clear bzD hzD
      refine tk0 1 ?_
      refine tk 2 (v := ?_) ?_ ?_; rotate_left
      · refine Or.inl ⟨by rfl, ?_⟩; intro w hSw; obtain ⟨⟨gP0, gP1⟩, gQ0, gQ1, gQ2, gQ3, gQ4⟩ := hSw; go_simp; first | done | with_reducible rfl
      refine tk 4 (v := ?_) ?_ ?_; rotate_left
      · refine Or.inl ⟨by rfl, ?_⟩; intro w hSw; obtain ⟨⟨gP0, gP1⟩, gQ0, gQ1, gQ2, gQ3, gQ4⟩ := hSw; go_simp; first | done | with_reducible rfl
      refine tk 5 (v := ?_) ?_ ?_; rotate_left
      · refine Or.inl ⟨by rfl, ?_⟩; intro w hSw; obtain ⟨⟨gP0, gP1⟩, gQ0, gQ1, gQ2, gQ3, gQ4⟩ := hSw; go_simp; first | done | with_reducible rfl
      refine rd2 0 10 (fun K hK => ?_) (fun K hK => ?_)
      · go_simp
        go_at_call 99
        refine (impl_changes _).mono ?_
        rintro e z21 ⟨rfl, hz21⟩
        have bz21 : Below zD.heap.size zD z21 := by rw [hz21]; exact (Below.refl _ _).alloc (Nat.le_refl _) _
        replace KP := tkb bz21 LP KP
        replace LP := tlz LP bz21.size
        replace KQ := tkb bz21 LQ KQ
        replace LQ := tlz LQ bz21.size
        replace KR := tkb bz21 LR KR
        replace LR := tlz LR bz21.size
        replace BB := tbt BB bz21
        replace BA := tbt BA bz21
        have KM : Hid (z21.heap[zD.heap.size]? = some (.map chEs 3)) := Lib.hid (by rw [hz21]; exact heap_new _ _)
        have LM : Hid (zD.heap.size < z21.heap.size) := Lib.hid (by rw [hz21]; simp)
        clear bz21 hz21
        go_wp2_with fail
        refine hK.out _ _ (HSS.out _ KP.out KQ.out) (fun hHeld => ?_)
        clear hK K
        try simp only [getElem_toArray, getElem_cons_zero, getElem_cons_succ, Act.put, setIfInBounds_toArray, set_cons_zero, set_cons_succ]
        refine rd2 3 10 (fun K hK => ?_) (fun K hK => ?_)
        · have hl := Hlk.out z21 _ KM.out
          go_simp
          clear hl
          refine hK.out _ _ (HSS.out _ KP.out KQ.out) (fun hHeld => ?_)
          clear hK K
          try simp only [getElem_toArray, getElem_cons_zero, getElem_cons_succ, Act.put, setIfInBounds_toArray, set_cons_zero, set_cons_succ]
          refine rd2 6 10 (fun K hK => ?_) (fun K hK => ?_)
          · have hc := step_delete s _ x B z21 (HS.out.later (BB.out.mono hB) (Nat.le_refl _)) (Nat.le_trans hB BB.out.size) HO.out Hx.out Hn.out
            unfold rqA at hc
            go_simp
            go_at_call 117
            refine hc.mono ?_
            rintro e z22 ⟨b0, n0, c0, b1, n1, c1, rfl, hLeft, bz22⟩
            rw [← HEE.out] at hLeft ⊢
            clear hc
            have HL := Lib.hid hLeft
            clear hLeft
            replace KP := tkb bz22 LP KP
            replace LP := tlz LP bz22.size
            replace KQ := tkb bz22 LQ KQ
            replace LQ := tlz LQ bz22.size
            replace KR := tkb bz22 LR KR
            replace LR := tlz LR bz22.size
            replace KM := tkb bz22 LM KM
            replace LM := tlz LM bz22.size
            replace BB := tbt BB bz22
            replace BA := tbt BA bz22
            clear bz22
            have BC : Hid (Below z22.heap.size z22 z22) := Lib.hid (Below.refl _ _)
            go_wp2_with fail
            refine hK.out _ _ (HSS.out _ KP.out KQ.out) (fun hHeld => ?_)
            clear hK K
            refine tk0 7 ?_
            refine tk0 8 ?_
            refine tk0 9 ?_
            refine rd1 10 (fun K hK => ?_)
            go_simp
            obtain ⟨z23, hz23⟩ : ∃ z, z = z22.alloc (.cells #[.slice none 0 0, .slice none 0 0] 27) := ⟨_, rfl⟩
            rw [← hz23]
            have bz23 : Below z22.heap.size z22 z23 := by rw [hz23]; exact (Below.refl _ _).alloc (Nat.le_refl _) _
            have sz23 : Hid (z23.heap.size = z22.heap.size + 1) := Lib.hid (by rw [hz23]; simp)
            have yA : Hid (w1.heap.size ≤ z22.heap.size) := Lib.hid BA.out.size
            replace KP := tkb bz23 LP KP
            replace LP := tlz LP bz23.size
            replace KQ := tkb bz23 LQ KQ
            replace LQ := tlz LQ bz23.size
            replace KR := tkb bz23 LR KR
            replace LR := tlz LR bz23.size
            replace KM := tkb bz23 LM KM
            replace LM := tlz LM bz23.size
            replace BB := tbt BB bz23
            replace BA := tbt BA bz23
            replace BC := tbt BC bz23
            have KY : Hid (z23.heap[z22.heap.size]? = some (.cells #[.slice none 0 0, .slice none 0 0] 27 (0, 0))) := Lib.hid (by rw [hz23]; exact heap_new _ _)
            have LY : Hid (z22.heap.size < z23.heap.size) := Lib.hid (by have := sz23.out; omega)
            clear bz23 hz23
            refine hK.out _ _ (HSS.out _ KP.out KQ.out) (fun hHeld => ?_)
            clear hK K
            try simp only [getElem_toArray, getElem_cons_zero, getElem_cons_succ, Act.put, setIfInBounds_toArray, set_cons_zero, set_cons_succ]
            have fY0 := tcr KY 0
            have fY1 := tcr KY 1
            have zY0 := tfr KY 0
            have zY1 := tfr KY 1
            refine rd1 11 (fun K hK => ?_)
            go_simp
            obtain ⟨Y, hY⟩ : ∃ Y, Y = (z23.setCell ⟨z22.heap.size, 0, none⟩ (.slice b0 n0 c0)).setCell ⟨z22.heap.size, 1, none⟩ (.slice b1 n1 c1) := ⟨_, rfl⟩
            rw [← hY]
            have f1 := heap_setCell_same _ (z22.heap.size) 0 _ _ (.slice b0 n0 c0) KY.out
            have f2 := heap_setCell_same _ (z22.heap.size) 1 _ _ (.slice b1 n1 c1) f1
            rw [← hY] at f2
            have gY : z23.grownBy Y (some (z22.heap.size)) := by rw [hY]; exact (grown_set _ ⟨z22.heap.size, 0, none⟩ _).trans (grown_set _ ⟨z22.heap.size, 1, none⟩ _)
            clear fY0 fY1
            clear zY0 zY1
            clear hY f1
            simp only [List.setIfInBounds_toArray, List.set_cons_zero, List.set_cons_succ] at f2
            have F2 := Lib.hid f2
            have hBw : B ≤ z22.heap.size := Nat.le_trans hB (Nat.le_trans B1s.out yA.out)
            have HST : Hid (EE = true → StV Y Y.heap.size (.agg #[.slice b0 n0 c0, .slice b1 n1 c1]) (stepS s x)) := Lib.hid (fun h => HL.out h Y (.inr (BC.out.grown gY BC.out.size (fun k hk => by cases hk; exact Nat.le_refl _))))
            have LY2 : Hid (z22.heap.size < Y.heap.size) := Lib.hid (Nat.lt_of_lt_of_le LY.out gY.size)
            have BA2 : Hid (Below w1.heap.size w1 Y) := Lib.hid (BA.out.grown gY BA.out.size (fun k hk => by cases hk; exact yA.out))
            have KPy := Lib.hid ((gY.block _ LP.out (fun e => by have := yA.out; have := LPa.out; simp only [Option.some.injEq] at e; omega)).trans KP.out)
            have KQy := Lib.hid ((gY.block _ LQ.out (fun e => by have := yA.out; have := LQa.out; simp only [Option.some.injEq] at e; omega)).trans KQ.out)
            refine hK.out _ _ (HSS.out _ KPy.out KQy.out) (fun hHeld => ?_)
            clear hK K gY f2
            try simp only [getElem_toArray, getElem_cons_zero, getElem_cons_succ, Act.put, setIfInBounds_toArray, set_cons_zero, set_cons_succ]
            refine tk0 12 ?_
            refine wpAnyH_done (by kernel_rfl) ?_ _
            clear hHeld
            go_wp2_with fail
            go_meet
            exact ⟨z22.heap.size, b0, n0, c0, b1, n1, c1, rfl, rfl, F2, HST, BA2, Lib.hid ⟨yA.out, LY2.out⟩⟩
          · go_simp
            obtain ⟨z24, hz24⟩ : ∃ z, z = z21.alloc (.cells #[.slice none 0 0, .slice none 0 0] 27) := ⟨_, rfl⟩
            rw [← hz24]
            have bz24 : Below z21.heap.size z21 z24 := by rw [hz24]; exact (Below.refl _ _).alloc (Nat.le_refl _) _
            have sz24 : Hid (z24.heap.size = z21.heap.size + 1) := Lib.hid (by rw [hz24]; simp)
            have yA : Hid (w1.heap.size ≤ z21.heap.size) := Lib.hid BA.out.size
            replace KP := tkb bz24 LP KP
            replace LP := tlz LP bz24.size
            replace KQ := tkb bz24 LQ KQ
            replace LQ := tlz LQ bz24.size
            replace KR := tkb bz24 LR KR
            replace LR := tlz LR bz24.size
            replace KM := tkb bz24 LM KM
            replace LM := tlz LM bz24.size
            replace BB := tbt BB bz24
            replace BA := tbt BA bz24
            have KY : Hid (z24.heap[z21.heap.size]? = some (.cells #[.slice none 0 0, .slice none 0 0] 27 (0, 0))) := Lib.hid (by rw [hz24]; exact heap_new _ _)
            have LY : Hid (z21.heap.size < z24.heap.size) := Lib.hid (by have := sz24.out; omega)
            clear bz24 hz24
            refine hK.out _ _ (HSS.out _ KP.out KQ.out) (fun hHeld => ?_)
            clear hK K
            try simp only [getElem_toArray, getElem_cons_zero, getElem_cons_succ, Act.put, setIfInBounds_toArray, set_cons_zero, set_cons_succ]
            refine rd1 6 (fun K hK => ?_)
            have hc := step_delete s _ x B z24 (HS.out.later (BB.out.mono hB) (Nat.le_refl _)) (Nat.le_trans hB BB.out.size) HO.out Hx.out Hn.out
            unfold rqA at hc
            go_simp
            go_at_call 117
            refine hc.mono ?_
            rintro e z25 ⟨b0, n0, c0, b1, n1, c1, rfl, hLeft, bz25⟩
            rw [← HEE.out] at hLeft ⊢
            clear hc
            have HL := Lib.hid hLeft
            clear hLeft
            have LYc := LY
            replace KP := tkb bz25 LP KP
            replace LP := tlz LP bz25.size
            replace KQ := tkb bz25 LQ KQ
            replace LQ := tlz LQ bz25.size
            replace KR := tkb bz25 LR KR
            replace LR := tlz LR bz25.size
            replace KM := tkb bz25 LM KM
            replace LM := tlz LM bz25.size
            replace KY := tkb bz25 LY KY
            replace LY := tlz LY bz25.size
            replace BB := tbt BB bz25
            replace BA := tbt BA bz25
            clear bz25
            have BC : Hid (Below z25.heap.size z25 z25) := Lib.hid (Below.refl _ _)
            go_wp2_with fail
            refine hK.out _ _ (HSS.out _ KP.out KQ.out) (fun hHeld => ?_)
            clear hK K
            refine tk0 7 ?_
            refine tk0 8 ?_
            refine tk0 9 ?_
            have fY0 := tcr KY 0
            have fY1 := tcr KY 1
            have zY0 := tfr KY 0
            have zY1 := tfr KY 1
            refine rd1 11 (fun K hK => ?_)
            go_simp
            obtain ⟨Y, hY⟩ : ∃ Y, Y = (z25.setCell ⟨z21.heap.size, 0, none⟩ (.slice b0 n0 c0)).setCell ⟨z21.heap.size, 1, none⟩ (.slice b1 n1 c1) := ⟨_, rfl⟩
            rw [← hY]
            have f1 := heap_setCell_same _ (z21.heap.size) 0 _ _ (.slice b0 n0 c0) KY.out
            have f2 := heap_setCell_same _ (z21.heap.size) 1 _ _ (.slice b1 n1 c1) f1
            rw [← hY] at f2
            have gY : z25.grownBy Y (some (z21.heap.size)) := by rw [hY]; exact (grown_set _ ⟨z21.heap.size, 0, none⟩ _).trans (grown_set _ ⟨z21.heap.size, 1, none⟩ _)
            clear fY0 fY1
            clear zY0 zY1
            clear hY f1
            simp only [List.setIfInBounds_toArray, List.set_cons_zero, List.set_cons_succ] at f2
            have F2 := Lib.hid f2
            have hBw : B ≤ z21.heap.size := Nat.le_trans hB (Nat.le_trans B1s.out yA.out)
            have HST : Hid (EE = true → StV Y Y.heap.size (.agg #[.slice b0 n0 c0, .slice b1 n1 c1]) (stepS s x)) := Lib.hid (fun h => HL.out h Y (.inl ⟨_, hBw, LYc.out, gY⟩))
            have LY2 : Hid (z21.heap.size < Y.heap.size) := Lib.hid (Nat.lt_of_lt_of_le LY.out gY.size)
            have BA2 : Hid (Below w1.heap.size w1 Y) := Lib.hid (BA.out.grown gY BA.out.size (fun k hk => by cases hk; exact yA.out))
            have KPy := Lib.hid ((gY.block _ LP.out (fun e => by have := yA.out; have := LPa.out; simp only [Option.some.injEq] at e; omega)).trans KP.out)
            have KQy := Lib.hid ((gY.block _ LQ.out (fun e => by have := yA.out; have := LQa.out; simp only [Option.some.injEq] at e; omega)).trans KQ.out)
            refine hK.out _ _ (HSS.out _ KPy.out KQy.out) (fun hHeld => ?_)
            clear hK K gY f2
            try simp only [getElem_toArray, getElem_cons_zero, getElem_cons_succ, Act.put, setIfInBounds_toArray, set_cons_zero, set_cons_succ]
            refine tk0 12 ?_
            refine wpAnyH_done (by kernel_rfl) ?_ _
            clear hHeld
            go_wp2_with fail
            go_meet
            exact ⟨z21.heap.size, b0, n0, c0, b1, n1, c1, rfl, rfl, F2, HST, BA2, Lib.hid ⟨yA.out, LY2.out⟩⟩
        · go_simp
          obtain ⟨z26, hz26⟩ : ∃ z, z = z21.alloc (.cells #[.slice none 0 0, .slice none 0 0] 27) := ⟨_, rfl⟩
          rw [← hz26]
          have bz26 : Below z21.heap.size z21 z26 := by rw [hz26]; exact (Below.refl _ _).alloc (Nat.le_refl _) _
          have sz26 : Hid (z26.heap.size = z21.heap.size + 1) := Lib.hid (by rw [hz26]; simp)
          have yA : Hid (w1.heap.size ≤ z21.heap.size) := Lib.hid BA.out.size
          replace KP := tkb bz26 LP KP
          replace LP := tlz LP bz26.size
          replace KQ := tkb bz26 LQ KQ
          replace LQ := tlz LQ bz26.size
          replace KR := tkb bz26 LR KR
          replace LR := tlz LR bz26.size
          replace KM := tkb bz26 LM KM
          replace LM := tlz LM bz26.size
          replace BB := tbt BB bz26
          replace BA := tbt BA bz26
          have KY : Hid (z26.heap[z21.heap.size]? = some (.cells #[.slice none 0 0, .slice none 0 0] 27 (0, 0))) := Lib.hid (by rw [hz26]; exact heap_new _ _)
          have LY : Hid (z21.heap.size < z26.heap.size) := Lib.hid (by have := sz26.out; omega)
          clear bz26 hz26
          refine hK.out _ _ (HSS.out _ KP.out KQ.out) (fun hHeld => ?_)
          clear hK K
          try simp only [getElem_toArray, getElem_cons_zero, getElem_cons_succ, Act.put, setIfInBounds_toArray, set_cons_zero, set_cons_succ]
          refine rd1 3 (fun K hK => ?_)
          have hl := Hlk.out z26 _ KM.out
          go_simp
          clear hl
          refine hK.out _ _ (HSS.out _ KP.out KQ.out) (fun hHeld => ?_)
          clear hK K
          try simp only [getElem_toArray, getElem_cons_zero, getElem_cons_succ, Act.put, setIfInBounds_toArray, set_cons_zero, set_cons_succ]
          refine rd1 6 (fun K hK => ?_)
          have hc := step_delete s _ x B z26 (HS.out.later (BB.out.mono hB) (Nat.le_refl _)) (Nat.le_trans hB BB.out.size) HO.out Hx.out Hn.out
          unfold rqA at hc
          go_simp
          go_at_call 117
          refine hc.mono ?_
          rintro e z27 ⟨b0, n0, c0, b1, n1, c1, rfl, hLeft, bz27⟩
          rw [← HEE.out] at hLeft ⊢
          clear hc
          have HL := Lib.hid hLeft
          clear hLeft
          have LYc := LY
          replace KP := tkb bz27 LP KP
          replace LP := tlz LP bz27.size
          replace KQ := tkb bz27 LQ KQ
          replace LQ := tlz LQ bz27.size
          replace KR := tkb bz27 LR KR
          replace LR := tlz LR bz27.size
          replace KM := tkb bz27 LM KM
          replace LM := tlz LM bz27.size
          replace KY := tkb bz27 LY KY
          replace LY := tlz LY bz27.size
          replace BB := tbt BB bz27
          replace BA := tbt BA bz27
          clear bz27
          have BC : Hid (Below z27.heap.size z27 z27) := Lib.hid (Below.refl _ _)
          go_wp2_with fail
          refine hK.out _ _ (HSS.out _ KP.out KQ.out) (fun hHeld => ?_)
          clear hK K
          refine tk0 7 ?_
          refine tk0 8 ?_
          refine tk0 9 ?_
          have fY0 := tcr KY 0
          have fY1 := tcr KY 1
          have zY0 := tfr KY 0
          have zY1 := tfr KY 1
          refine rd1 11 (fun K hK => ?_)
          go_simp
          obtain ⟨Y, hY⟩ : ∃ Y, Y = (z27.setCell ⟨z21.heap.size, 0, none⟩ (.slice b0 n0 c0)).setCell ⟨z21.heap.size, 1, none⟩ (.slice b1 n1 c1) := ⟨_, rfl⟩
          rw [← hY]
          have f1 := heap_setCell_same _ (z21.heap.size) 0 _ _ (.slice b0 n0 c0) KY.out
          have f2 := heap_setCell_same _ (z21.heap.size) 1 _ _ (.slice b1 n1 c1) f1
          rw [← hY] at f2
          have gY : z27.grownBy Y (some (z21.heap.size)) := by rw [hY]; exact (grown_set _ ⟨z21.heap.size, 0, none⟩ _).trans (grown_set _ ⟨z21.heap.size, 1, none⟩ _)
          clear fY0 fY1
          clear zY0 zY1
          clear hY f1
          simp only [List.setIfInBounds_toArray, List.set_cons_zero, List.set_cons_succ] at f2
          have F2 := Lib.hid f2
          have hBw : B ≤ z21.heap.size := Nat.le_trans hB (Nat.le_trans B1s.out yA.out)
          have HST : Hid (EE = true → StV Y Y.heap.size (.agg #[.slice b0 n0 c0, .slice b1 n1 c1]) (stepS s x)) := Lib.hid (fun h => HL.out h Y (.inl ⟨_, hBw, LYc.out, gY⟩))
          have LY2 : Hid (z21.heap.size < Y.heap.size) := Lib.hid (Nat.lt_of_lt_of_le LY.out gY.size)
          have BA2 : Hid (Below w1.heap.size w1 Y) := Lib.hid (BA.out.grown gY BA.out.size (fun k hk => by cases hk; exact yA.out))
          have KPy := Lib.hid ((gY.block _ LP.out (fun e => by have := yA.out; have := LPa.out; simp only [Option.some.injEq] at e; omega)).trans KP.out)
          have KQy := Lib.hid ((gY.block _ LQ.out (fun e => by have := yA.out; have := LQa.out; simp only [Option.some.injEq] at e; omega)).trans KQ.out)
          refine hK.out _ _ (HSS.out _ KPy.out KQy.out) (fun hHeld => ?_)
          clear hK K gY f2
          try simp only [getElem_toArray, getElem_cons_zero, getElem_cons_succ, Act.put, setIfInBounds_toArray, set_cons_zero, set_cons_succ]
          refine tk0 12 ?_
          refine wpAnyH_done (by kernel_rfl) ?_ _
          clear hHeld
          go_wp2_with fail
          go_meet
          exact ⟨z21.heap.size, b0, n0, c0, b1, n1, c1, rfl, rfl, F2, HST, BA2, Lib.hid ⟨yA.out, LY2.out⟩⟩
      · go_simp
        obtain ⟨z28, hz28⟩ : ∃ z, z = zD.alloc (.cells #[.slice none 0 0, .slice none 0 0] 27) := ⟨_, rfl⟩
        rw [← hz28]
        have bz28 : Below zD.heap.size zD z28 := by rw [hz28]; exact (Below.refl _ _).alloc (Nat.le_refl _) _
        have sz28 : Hid (z28.heap.size = zD.heap.size + 1) := Lib.hid (by rw [hz28]; simp)
        have yA : Hid (w1.heap.size ≤ zD.heap.size) := Lib.hid BA.out.size
        replace KP := tkb bz28 LP KP
        replace LP := tlz LP bz28.size
        replace KQ := tkb bz28 LQ KQ
        replace LQ := tlz LQ bz28.size
        replace KR := tkb bz28 LR KR
        replace LR := tlz LR bz28.size
        replace BB := tbt BB bz28
        replace BA := tbt BA bz28
        have KY : Hid (z28.heap[zD.heap.size]? = some (.cells #[.slice none 0 0, .slice none 0 0] 27 (0, 0))) := Lib.hid (by rw [hz28]; exact heap_new _ _)
        have LY : Hid (zD.heap.size < z28.heap.size) := Lib.hid (by have := sz28.out; omega)
        clear bz28 hz28
        refine hK.out _ _ (HSS.out _ KP.out KQ.out) (fun hHeld => ?_)
        clear hK K
        refine rd1 0 (fun K hK => ?_)
        go_simp
        go_at_call 99
        refine (impl_changes _).mono ?_
        rintro e z29 ⟨rfl, hz29⟩
        have bz29 : Below z28.heap.size z28 z29 := by rw [hz29]; exact (Below.refl _ _).alloc (Nat.le_refl _) _
        replace KP := tkb bz29 LP KP
        replace LP := tlz LP bz29.size
        replace KQ := tkb bz29 LQ KQ
        replace LQ := tlz LQ bz29.size
        replace KR := tkb bz29 LR KR
        replace LR := tlz LR bz29.size
        replace KY := tkb bz29 LY KY
        replace LY := tlz LY bz29.size
        replace BB := tbt BB bz29
        replace BA := tbt BA bz29
        have KM : Hid (z29.heap[z28.heap.size]? = some (.map chEs 3)) := Lib.hid (by rw [hz29]; exact heap_new _ _)
        have LM : Hid (z28.heap.size < z29.heap.size) := Lib.hid (by rw [hz29]; simp)
        clear bz29 hz29
        go_wp2_with fail
        refine hK.out _ _ (HSS.out _ KP.out KQ.out) (fun hHeld => ?_)
        clear hK K
        try simp only [getElem_toArray, getElem_cons_zero, getElem_cons_succ, Act.put, setIfInBounds_toArray, set_cons_zero, set_cons_succ]
        refine rd1 3 (fun K hK => ?_)
        have hl := Hlk.out z29 _ KM.out
        go_simp
        clear hl
        refine hK.out _ _ (HSS.out _ KP.out KQ.out) (fun hHeld => ?_)
        clear hK K
        try simp only [getElem_toArray, getElem_cons_zero, getElem_cons_succ, Act.put, setIfInBounds_toArray, set_cons_zero, set_cons_succ]
        refine rd1 6 (fun K hK => ?_)
        have hc := step_delete s _ x B z29 (HS.out.later (BB.out.mono hB) (Nat.le_refl _)) (Nat.le_trans hB BB.out.size) HO.out Hx.out Hn.out
        unfold rqA at hc
        go_simp
        go_at_call 117
        refine hc.mono ?_
        rintro e z30 ⟨b0, n0, c0, b1, n1, c1, rfl, hLeft, bz30⟩
        rw [← HEE.out] at hLeft ⊢
        clear hc
        have HL := Lib.hid hLeft
        clear hLeft
        have LYc := LY
        replace KP := tkb bz30 LP KP
        replace LP := tlz LP bz30.size
        replace KQ := tkb bz30 LQ KQ
        replace LQ := tlz LQ bz30.size
        replace KR := tkb bz30 LR KR
        replace LR := tlz LR bz30.size
        replace KY := tkb bz30 LY KY
        replace LY := tlz LY bz30.size
        replace KM := tkb bz30 LM KM
        replace LM := tlz LM bz30.size
        replace BB := tbt BB bz30
        replace BA := tbt BA bz30
        clear bz30
        have BC : Hid (Below z30.heap.size z30 z30) := Lib.hid (Below.refl _ _)
        go_wp2_with fail
        refine hK.out _ _ (HSS.out _ KP.out KQ.out) (fun hHeld => ?_)
        clear hK K
        refine tk0 7 ?_
        refine tk0 8 ?_
        refine tk0 9 ?_
        have fY0 := tcr KY 0
        have fY1 := tcr KY 1
        have zY0 := tfr KY 0
        have zY1 := tfr KY 1
        refine rd1 11 (fun K hK => ?_)
        go_simp
        obtain ⟨Y, hY⟩ : ∃ Y, Y = (z30.setCell ⟨zD.heap.size, 0, none⟩ (.slice b0 n0 c0)).setCell ⟨zD.heap.size, 1, none⟩ (.slice b1 n1 c1) := ⟨_, rfl⟩
        rw [← hY]
        have f1 := heap_setCell_same _ (zD.heap.size) 0 _ _ (.slice b0 n0 c0) KY.out
        have f2 := heap_setCell_same _ (zD.heap.size) 1 _ _ (.slice b1 n1 c1) f1
        rw [← hY] at f2
        have gY : z30.grownBy Y (some (zD.heap.size)) := by rw [hY]; exact (grown_set _ ⟨zD.heap.size, 0, none⟩ _).trans (grown_set _ ⟨zD.heap.size, 1, none⟩ _)
        clear fY0 fY1
        clear zY0 zY1
        clear hY f1
        simp only [List.setIfInBounds_toArray, List.set_cons_zero, List.set_cons_succ] at f2
        have F2 := Lib.hid f2
        have hBw : B ≤ zD.heap.size := Nat.le_trans hB (Nat.le_trans B1s.out yA.out)
        have HST : Hid (EE = true → StV Y Y.heap.size (.agg #[.slice b0 n0 c0, .slice b1 n1 c1]) (stepS s x)) := Lib.hid (fun h => HL.out h Y (.inl ⟨_, hBw, LYc.out, gY⟩))
        have LY2 : Hid (zD.heap.size < Y.heap.size) := Lib.hid (Nat.lt_of_lt_of_le LY.out gY.size)
        have BA2 : Hid (Below w1.heap.size w1 Y) := Lib.hid (BA.out.grown gY BA.out.size (fun k hk => by cases hk; exact yA.out))
        have KPy := Lib.hid ((gY.block _ LP.out (fun e => by have := yA.out; have := LPa.out; simp only [Option.some.injEq] at e; omega)).trans KP.out)
        have KQy := Lib.hid ((gY.block _ LQ.out (fun e => by have := yA.out; have := LQa.out; simp only [Option.some.injEq] at e; omega)).trans KQ.out)
        refine hK.out _ _ (HSS.out _ KPy.out KQy.out) (fun hHeld => ?_)
        clear hK K gY f2
        try simp only [getElem_toArray, getElem_cons_zero, getElem_cons_succ, Act.put, setIfInBounds_toArray, set_cons_zero, set_cons_succ]
        refine tk0 12 ?_
        refine wpAnyH_done (by kernel_rfl) ?_ _
        clear hHeld
        go_wp2_with fail
        go_meet
        exact ⟨zD.heap.size, b0, n0, c0, b1, n1, c1, rfl, rfl, F2, HST, BA2, Lib.hid ⟨yA.out, LY2.out⟩⟩
  case rest =>
    obtain ⟨yb, b0, n0, c0, b1, n1, c1, rfl, rfl, KY, HST, bA, NY⟩ := hcut
    obtain ⟨w2, rfl⟩ : ∃ z, z = wc := ⟨_, rfl⟩
    replace KP := Lib.hid ((bA.out.block _ LP.out).trans KP.out)
    replace LP := Lib.hid (Nat.lt_of_lt_of_le LP.out bA.out.size)
    replace KQ := Lib.hid ((bA.out.block _ LQ.out).trans KQ.out)
    replace LQ := Lib.hid (Nat.lt_of_lt_of_le LQ.out bA.out.size)
    replace KR := Lib.hid ((bA.out.block _ LR.out).trans KR.out)
    replace LR := Lib.hid (Nat.lt_of_lt_of_le LR.out bA.out.size)
    replace BB := Lib.hid (BB.out.trans (bA.out.mono BB.out.size))
    have LY : Hid (yb < w2.heap.size) := Lib.hid NY.out.2
    have Ny : Hid (w1.heap.size ≤ yb) := Lib.hid NY.out.1
    clear bA NY
    cases hE : EE
    · have hS : stOk (stepS s x) = false := HEE.out.symm.trans hE
      have HSf := Lib.hid hS
      clear hS hE HST HEE
      have fR0 := tcr KR 0
      have fR1 := tcr KR 1
      have zR0 := tfr KR 0
      have zR1 := tfr KR 1
      go_wp2_with fail
      clear fR0 fR1
      clear zR0 zR1
      have hR : ap s x = (s, ⟨#[]⟩, 3) := ap_full HO.out HQ.out HA.out (.inl HSf.out)
      have f1 := heap_setCell_same _ (w.heap.size + 1 + 1) 0 _ _ (.slice none 0 0) KR.out
      have f2 := heap_setCell_same _ (w.heap.size + 1 + 1) 1 _ _ (.slice none 0 0) f1
      obtain ⟨j0, q1, q2, q3, q4⟩ := info_parts infoSt
      refine bodyPost_ret (results_cell_row3 (P := Tryd.prog) rfl _ _ (w.heap.size + 1 + 1) _ _ (0, 0) _ _ _ rfl rfl rfl f2 Tryd.underlying27 rfl (by rw [q1]; simp [q3])) rfl ?_
      exact ⟨.inr ⟨by rw [hR]; show (3 : Int) ≠ 0; decide, by rw [hR]; rfl⟩, (BB.out.setCell (p := ⟨w.heap.size + 1 + 1, 0, none⟩) (by simp; omega) _).setCell (p := ⟨w.heap.size + 1 + 1, 1, none⟩) (by simp; omega) _⟩
    · have HSt : Hid (stOk (stepS s x) = true) := Lib.hid (HEE.out.symm.trans hE)
      have hs3 := HST.out hE
      clear hE HST HEE
      have hft : FitTk (newT s x) := ⟨Hx.out.1, by have := valOf_small HO.out x.k; unfold maxLen; show (valOf s x.k).size ≤ _; omega, Hx.out.2.2.2.1.1, Hx.out.2.2.2.1.2⟩
      have hc := impl_putTalk (stepS s x) _ (newT s x) w2.heap.size w2 hs3 (Nat.le_refl _) ((ok_small HSt.out).mono (by omega)) (ok_fits HSt.out) hft
      obtain ⟨E2, hE2⟩ : ∃ E : Bool, E = stOk (endS s x) := ⟨_, rfl⟩
      have hE3 : chgB (stepS s x) (putST (stepS s x) (newT s x)) = E2 := by rw [hE2]; unfold chgB; rw [HSt.out]; rfl
      have HEN : Hid (E2 = true → chg (stepS s x) (putST (stepS s x) (newT s x)) = endS s x) := Lib.hid (fun h => chg_of (hE3.trans h))
      have HE2 := Lib.hid hE2
      rw [hE3] at hc
      simp only [tkA, newT] at hc
      simp only [newT] at HEN
      clear hE2 hE3 hft hs3
      obtain ⟨F, hF⟩ : ∃ F, F = chg (stepS s x) (putST (stepS s x) ⟨x.c, x.q, valOf s x.k⟩) := ⟨_, rfl⟩
      rw [← hF] at HEN hc
      clear hF
      have fY0 := tcr KY 0
      have fY1 := tcr KY 1
      have fQ0 := tcr KQ 0
      have fQ1 := tcr KQ 1
      have fQ2 := tcr KQ 2
      have fQ3 := tcr KQ 3
      have fQ4 := tcr KQ 4
      go_wp2_with (go_at_call 100; refine hc.mono ?_; rintro e w3 ⟨v4, rfl, ho4, hb3⟩; refine Hid.out ?_)
      refine Lib.hid ?_
      clear fY0 fY1 fQ0 fQ1 fQ2 fQ3 fQ4
      have y2 := Lib.hid LY.out
      replace KP := tkb hb3 LP KP
      replace LP := tlz LP hb3.size
      replace KQ := tkb hb3 LQ KQ
      replace LQ := tlz LQ hb3.size
      replace KR := tkb hb3 LR KR
      replace LR := tlz LR hb3.size
      replace KY := tkb hb3 LY KY
      replace LY := tlz LY hb3.size
      replace BB := tbt BB hb3
      have S4 := Lib.hid ho4
      obtain ⟨a6, m6, k6, a7, m7, k7, rfl⟩ := ho4.two'
      clear hc ho4 hb3
      have fY0 := tcr KY 0
      have fY1 := tcr KY 1
      have zY0 := tfr KY 0
      have zY1 := tfr KY 1
      have f1 := heap_setCell_same _ yb 0 _ _ (.slice a6 m6 k6) KY.out
      have f2 := heap_setCell_same _ yb 1 _ _ (.slice a7 m7 k7) f1
      obtain ⟨Z, hZ⟩ : ∃ Z, Z = (w3.setCell ⟨yb, 0, none⟩ (.slice a6 m6 k6)).setCell ⟨yb, 1, none⟩ (.slice a7 m7 k7) := ⟨_, rfl⟩
      have gY : w3.grownBy Z (some yb) := by rw [hZ]; exact (grown_set _ ⟨yb, 0, none⟩ _).trans (grown_set _ ⟨yb, 1, none⟩ _)
      rw [← hZ] at f2
      simp only [List.setIfInBounds_toArray, List.set_cons_zero, List.set_cons_succ] at f2
      have f3 := Lib.hid f2
      clear f1 f2
      go_upto_if 37 with fail
      rw [← hZ]
      clear fY0 fY1
      clear zY0 zY1
      clear hZ
      have S5 := Lib.hid (S4.out.kept gY y2.out)
      clear S4
      replace KP := tkg gY LP KP (by simp; have := LPa.out; have := LQa.out; have := LRa.out; have := B1s.out; have := Ny.out; omega)
      replace LP := tlz LP gY.size
      replace KQ := tkg gY LQ KQ (by simp; have := LPa.out; have := LQa.out; have := LRa.out; have := B1s.out; have := Ny.out; omega)
      replace LQ := tlz LQ gY.size
      replace KR := tkg gY LR KR (by simp; have := LPa.out; have := LQa.out; have := LRa.out; have := B1s.out; have := Ny.out; omega)
      replace LR := tlz LR gY.size
      replace BB := Lib.hid (BB.out.grown gY BB.out.size (fun k hk => by cases hk; have := LPa.out; have := LQa.out; have := LRa.out; have := B1s.out; have := Ny.out; omega))
      replace KY := f3
      replace LY := tlz LY gY.size
      clear f3 gY
      cases hE : E2
      · have hS : stOk (endS s x) = false := HE2.out.symm.trans hE
        have HSf := Lib.hid hS
        clear hS hE HEN HE2 S5
        have fR0 := tcr KR 0
        have fR1 := tcr KR 1
        have zR0 := tfr KR 0
        have zR1 := tfr KR 1
        go_wp2_with fail
        clear fR0 fR1
        clear zR0 zR1
        have hR : ap s x = (s, ⟨#[]⟩, 3) := ap_full HO.out HQ.out HA.out (.inr HSf.out)
        have f1 := heap_setCell_same _ (w.heap.size + 1 + 1) 0 _ _ (.slice none 0 0) KR.out
        have f2 := heap_setCell_same _ (w.heap.size + 1 + 1) 1 _ _ (.slice none 0 0) f1
        obtain ⟨j0, q1, q2, q3, q4⟩ := info_parts infoSt
        refine bodyPost_ret (results_cell_row3 (P := Tryd.prog) rfl _ _ (w.heap.size + 1 + 1) _ _ (0, 0) _ _ _ rfl rfl rfl f2 Tryd.underlying27 rfl (by rw [q1]; simp [q3])) rfl ?_
        exact ⟨.inr ⟨by rw [hR]; show (3 : Int) ≠ 0; decide, by rw [hR]; rfl⟩, (BB.out.setCell (p := ⟨w.heap.size + 1 + 1, 0, none⟩) (by simp; omega) _).setCell (p := ⟨w.heap.size + 1 + 1, 1, none⟩) (by simp; omega) _⟩
      · have HSe : Hid (stOk (endS s x) = true) := Lib.hid (HE2.out.symm.trans hE)
        have HF := Lib.hid (HEN.out hE)
        clear hE HEN HE2
        have fR0 := tcr KR 0
        have fR1 := tcr KR 1
        have zR0 := tfr KR 0
        have zR1 := tfr KR 1
        have fY0 := tcr KY 0
        have fY1 := tcr KY 1
        go_wp2_with fail
        clear fR0 fR1 fY0 fY1
        clear zR0 zR1
        have hR : ap s x = (endS s x, valOf s x.k, 0) := ap_new HO.out HQ.out HA.out HSt.out HSe.out
        have hb : w.heap.size + 1 + 1 < w2.heap.size := Nat.lt_of_lt_of_le LRa.out (Nat.le_trans Ny.out (Nat.le_of_lt y2.out))
        have hb2 : w.heap.size ≤ w2.heap.size := Nat.le_trans (Nat.le_add_right w.heap.size 2) (Nat.le_of_lt hb)
        have f1 := heap_setCell_same _ (w.heap.size + 1 + 1) 0 _ _ (.slice a6 m6 k6) KR.out
        have f2 := heap_setCell_same _ (w.heap.size + 1 + 1) 1 _ _ (.slice a7 m7 k7) f1
        obtain ⟨j0, q1, q2, q3, q4⟩ := info_parts infoSt
        refine bodyPost_ret (results_cell_row3 (P := Tryd.prog) rfl _ _ (w.heap.size + 1 + 1) _ _ (0, 0) _ _ _ rfl rfl rfl f2 Tryd.underlying27 rfl (by rw [q1]; simp [q3])) rfl ?_
        exact ⟨.inl ⟨by rw [hR], _, by rw [hR]; rfl, by rw [hR, ← HF.out]; exact ((S5.out.kept (grown_set _ ⟨w.heap.size + 1 + 1, 0, none⟩ _) hb).kept (grown_set _ ⟨w.heap.size + 1 + 1, 1, none⟩ _) hb).base hb2⟩, (BB.out.setCell (p := ⟨w.heap.size + 1 + 1, 0, none⟩) (by simp; omega) _).setCell (p := ⟨w.heap.size + 1 + 1, 1, none⟩) (by simp; omega) _⟩
end Go.Proofs.YtebmaplflpfjbaaDoor
