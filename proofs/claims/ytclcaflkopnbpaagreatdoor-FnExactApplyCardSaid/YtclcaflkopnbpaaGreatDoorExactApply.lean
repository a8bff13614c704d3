/- The exact law of Apply: the program answers as its model, keeps its argument, and its answer's memory is its own. Condition: the variable errors.errorType holds the handle of the type error. -/
import Derived.Test.YtclcaflkopnbpaaGreatDoorBaseA
import Derived.Test.YtclcaflkopnbpaaGreatDoorImplApply
import Derived.Test.YtclcaflkopnbpaaGreatDoorSpecApply
import Derived.Test.YtclcaflkopnbpaaGreatDoorExactPlain
namespace Go.Proofs.YtclcaflkopnbpaaGreatDoor
open Go.RowKit List
set_option linter.unusedVariables false
set_option linter.unusedSimpArgs false

theorem ap_len (s : St) (x : Rq) : ((ap s x).1.items.length = s.items.length ∨ (ap s x).1.items.length ≤ 64) ∧ ((ap s x).1.talks.length = s.talks.length ∨ (ap s x).1.talks.length ≤ 64) := by
  unfold ap
  split
  · exact ⟨.inl rfl, .inl rfl⟩
  · split
    · exact ⟨.inl rfl, .inl rfl⟩
    · split
      · split
        · exact ⟨.inl rfl, .inl rfl⟩
        · exact ⟨.inl rfl, .inl rfl⟩
      · split
        · exact ⟨.inl rfl, .inl rfl⟩
        · split
          · exact ⟨.inl rfl, .inl rfl⟩
          · rename_i h
            have h2 : stOk (endS s x) = true := by simpa using h
            have := ok_small h2
            unfold Small at this
            exact ⟨.inr (show (endS s x).items.length ≤ 64 by omega), .inr (show (endS s x).talks.length ≤ 64 by omega)⟩
set_option maxRecDepth 100000 in
set_option maxHeartbeats 16000000 in
theorem law_apply (s : St) (v : Value) (x : Rq) (w : World) (hr : RawS w w.heap.size v s) (hx : FitRq x) (hE : ErrType w) :
    Calls Tryz.prog 4 #[v, rqA x] w fun e w' => e = .returned (.bool true) ∧ Below w.heap.size w w' := by
  have hfit := hr.fits
  obtain ⟨vi, vt, rfl, h1, h2, h3, h4⟩ := hr
  have HR : Hid (RawS w w.heap.size (.agg #[vi, vt]) s) := Lib.hid ⟨vi, vt, rfl, h1, h2, h3, h4⟩
  have Hfit := Lib.hid hfit
  have Hx := Lib.hid hx
  clear hfit h1 h2 h3 h4
  obtain ⟨r, hr'⟩ : ∃ r, r = (ap s x).1 := ⟨_, rfl⟩
  obtain ⟨rp, hrp⟩ : ∃ b, b = (ap s x).2.1 := ⟨_, rfl⟩
  obtain ⟨re, hre⟩ : ∃ b, b = (ap s x).2.2 := ⟨_, rfl⟩
  have Hr := Lib.hid hr'
  have Hrp := Lib.hid hrp
  have Hre := Lib.hid hre
  have HE := Lib.hid hE
  unfold rqA
  obtain ⟨W, hW⟩ : ∃ W, W = (w.alloc (.cells #[vi, vt] 39)).alloc (.cells #[.string x.c, .int .i64 x.q, .int .i64 x.n, .string x.k, .string x.v] 41) := ⟨_, rfl⟩
  have hbW : Below w.heap.size w W := by rw [hW]; exact ((Below.refl _ _).alloc (Nat.le_refl _) _).alloc (by simp) _
  have hWs : W.heap.size = w.heap.size + 2 := by rw [hW]; simp
  have KP : Hid (W.heap[w.heap.size]? = some (.cells #[vi, vt] 39 (0, 0))) := Lib.hid (by rw [hW, Below.heap_alloc _ _ _ (by simp)]; exact heap_new _ _)
  have KQ : Hid (W.heap[w.heap.size + 1]? = some (.cells #[.string x.c, .int .i64 x.q, .int .i64 x.n, .string x.k, .string x.v] 41 (0, 0))) := Lib.hid (by rw [hW]; simpa using heap_new (w.alloc (.cells #[vi, vt] 39)) (.cells #[.string x.c, .int .i64 x.q, .int .i64 x.n, .string x.k, .string x.v] 41))
  have LP : Hid (w.heap.size < W.heap.size) := Lib.hid (by omega)
  have LQ : Hid (w.heap.size + 1 < W.heap.size) := Lib.hid (by omega)
  have HWlt := LQ
  have BB := Lib.hid hbW
  have hc0 := sz_state s _ w.heap.size 1048576 W (HR.out.later hbW (Nat.le_refl _)) hbW.size (by omega)
  rw [hW] at hc0
  clear hbW hWs hr' hrp hre hx hE
  go_enter Tryz.func4, Tryz.ntmps4
  go_wp2_with (go_at_call 12; refine hc0.mono ?_; rintro e w1 ⟨q, rfl, hr0, hr1, hr2, hb1⟩; refine Hid.out ?_)
  refine Lib.hid ?_
  rw [← hW] at hb1
  replace KP := Lib.hid ((hb1.block _ LP.out).trans KP.out)
  replace LP := Lib.hid (Nat.lt_of_lt_of_le LP.out hb1.size)
  replace KQ := Lib.hid ((hb1.block _ LQ.out).trans KQ.out)
  replace LQ := Lib.hid (Nat.lt_of_lt_of_le LQ.out hb1.size)
  replace BB := Lib.hid (BB.out.trans (hb1.mono BB.out.size))
  have yW : Hid (W.heap.size ≤ w1.heap.size) := Lib.hid hb1.size
  clear hc0 hW hb1
  by_cases hneg : q < 0
  · clear hr2
    go_wp2_with fail
    go_ret
    exact ⟨rfl, BB.out⟩
  have Hs := Lib.hid (hr2 (by omega))
  clear hr2
  have hq0 : ¬ q < 0 := hneg
  have hc1 := sz_op x q w1 Hx.out ⟨by omega, by omega⟩
  unfold rqA at hc1
  have fQ0 := cell_of_row w1 _ 0 _ _ _ KQ.out
  have fQ1 := cell_of_row w1 _ 1 _ _ _ KQ.out
  have fQ2 := cell_of_row w1 _ 2 _ _ _ KQ.out
  have fQ3 := cell_of_row w1 _ 3 _ _ _ KQ.out
  have fQ4 := cell_of_row w1 _ 4 _ _ _ KQ.out
  simp only [List.getElem?_toArray, List.getElem?_cons_zero, List.getElem?_cons_succ] at fQ0 fQ1 fQ2 fQ3 fQ4
  go_wp2_with (go_at_call 13; refine hc1.mono ?_; rintro e w2 ⟨q2, rfl, hr3, hr4, hr5, hb2⟩; refine Hid.out ?_)
  refine Lib.hid ?_
  clear fQ0 fQ1 fQ2 fQ3 fQ4
  replace KP := Lib.hid ((hb2.block _ LP.out).trans KP.out)
  replace LP := Lib.hid (Nat.lt_of_lt_of_le LP.out hb2.size)
  replace KQ := Lib.hid ((hb2.block _ LQ.out).trans KQ.out)
  replace LQ := Lib.hid (Nat.lt_of_lt_of_le LQ.out hb2.size)
  replace BB := Lib.hid (BB.out.trans (hb2.mono BB.out.size))
  have yW2 : Hid (W.heap.size ≤ w2.heap.size) := Lib.hid (Nat.le_trans yW.out hb2.size)
  clear hc1 hb2 hr5
  by_cases hneg2 : q2 < 0
  · go_wp2_with fail
    go_ret
    exact ⟨rfl, BB.out⟩
  have Hfew : Hid (Few s) := Lib.hid (by have := Hs.out; unfold Small at this; unfold Few; omega)
  have Hsr : Hid (r.items.length ≤ 1048577 ∧ r.talks.length ≤ 1048577) := Lib.hid (by
    have := Hs.out; unfold Small at this
    have h := ap_len s x
    rw [← Hr.out] at h
    omega)
  go_wp2_with fail
  go_cut [6, 7, 8] (fun b0 b1 b2 wx => ∃ (gb ggi gci ggt gct : Nat) (gai gat : Option Addr), b0 = .pointer (some ⟨gb, 0, none⟩) ∧ b1 = .string rp ∧ b2 = .int .i64 re ∧ Hid (wx.heap[gb]? = some (.cells #[.slice gai r.items.length gci, .slice gat r.talks.length gct] 27 (0, 0))) ∧ Hid (Got wx w2.heap.size 65 2 ggi r.items.length gci (r.items.flatMap itC)) ∧ Hid (Got wx w2.heap.size 67 3 ggt r.talks.length gct (r.talks.flatMap tkC)) ∧ Hid (Below w2.heap.size w2 wx) ∧ Hid (w2.heap.size ≤ gb ∧ gb < wx.heap.size ∧ gb ≠ ggi ∧ gb ≠ ggt ∧ ggi ≠ ggt) ∧ Hid (NilOr gai ggi r.items.length gci) ∧ Hid (NilOr gat ggt r.talks.length gct))
  case first =>
    have HSS : Hid (∀ w' : World, w'.heap[w.heap.size]? = some (.cells #[vi, vt] 39 (0, 0)) → w'.heap[w.heap.size + 1]? = some (.cells #[.string x.c, .int .i64 x.q, .int .i64 x.n, .string x.k, .string x.v] 41 (0, 0)) → (w'.cell? ⟨w.heap.size, 0, none⟩ = some (vi) ∧ w'.cell? ⟨w.heap.size, 1, none⟩ = some (vt)) ∧ w'.cell? ⟨w.heap.size + 1, 0, none⟩ = some (.string x.c) ∧ w'.cell? ⟨w.heap.size + 1, 1, none⟩ = some (.int .i64 x.q) ∧ w'.cell? ⟨w.heap.size + 1, 2, none⟩ = some (.int .i64 x.n) ∧ w'.cell? ⟨w.heap.size + 1, 3, none⟩ = some (.string x.k) ∧ w'.cell? ⟨w.heap.size + 1, 4, none⟩ = some (.string x.v)) := Lib.hid (fun w' j0 j1 => ⟨⟨by simpa using cell_of_row w' _ 0 _ _ _ j0, by simpa using cell_of_row w' _ 1 _ _ _ j0⟩, by simpa using cell_of_row w' _ 0 _ _ _ j1, by simpa using cell_of_row w' _ 1 _ _ _ j1, by simpa using cell_of_row w' _ 2 _ _ _ j1, by simpa using cell_of_row w' _ 3 _ _ _ j1, by simpa using cell_of_row w' _ 4 _ _ _ j1⟩)
    have LAP : Hid (w.heap.size < w2.heap.size) := LP
    have LAQ : Hid (w.heap.size + 1 < w2.heap.size) := LQ
    refine wp_region_held_drew (S := (fun w' => (w'.cell? ⟨w.heap.size, 0, none⟩ = some (vi) ∧ w'.cell? ⟨w.heap.size, 1, none⟩ = some (vt)) ∧ w'.cell? ⟨w.heap.size + 1, 0, none⟩ = some (.string x.c) ∧ w'.cell? ⟨w.heap.size + 1, 1, none⟩ = some (.int .i64 x.q) ∧ w'.cell? ⟨w.heap.size + 1, 2, none⟩ = some (.int .i64 x.n) ∧ w'.cell? ⟨w.heap.size + 1, 3, none⟩ = some (.string x.k) ∧ w'.cell? ⟨w.heap.size + 1, 4, none⟩ = some (.string x.v))) (by kernel_rfl) (HSS.out w2.drew KP.out KQ.out) (fun hHeld => ?_)
    obtain ⟨zD, hzD⟩ : ∃ z, z = w2.drew := ⟨_, rfl⟩
    rw [← hzD] at hHeld ⊢
    have bzD : Below w2.heap.size w2 zD := by rw [hzD]; exact (Below.refl _ _).drew
    have BA : Hid (Below w2.heap.size w2 zD) := Lib.hid bzD
    have yA : Hid (w2.heap.size ≤ w2.heap.size) := Lib.hid (Nat.le_refl _)
    replace KP := Lib.hid ((bzD.block _ LP.out).trans KP.out)
    replace LP := Lib.hid (Nat.lt_of_lt_of_le LP.out bzD.size)
    replace KQ := Lib.hid ((bzD.block _ LQ.out).trans KQ.out)
    replace LQ := Lib.hid (Nat.lt_of_lt_of_le LQ.out bzD.size)
    replace BB := Lib.hid (BB.out.trans (bzD.mono BB.out.size))
    replace yA := Lib.hid (Nat.le_trans yA.out bzD.size)
    clear bzD hzD
    refine tk 0 (v := ?_) ?_ ?_; rotate_left
    · refine Or.inl ⟨by rfl, ?_⟩; intro w hSw; obtain ⟨⟨hS0, hS1⟩, hS2, hS3, hS4, hS5, hS6⟩ := hSw; go_simp; first | done | with_reducible rfl
    refine tk 2 (v := ?_) ?_ ?_; rotate_left
    · refine Or.inl ⟨by rfl, ?_⟩; intro w hSw; obtain ⟨⟨hS0, hS1⟩, hS2, hS3, hS4, hS5, hS6⟩ := hSw; go_simp; first | done | with_reducible rfl
    refine wpAnyH_ready (rs := [1, 9]) (by kernel_rfl) (by simp) ?_
    refine AllReadyH.cons rfl (fun K hK => ?_) (AllReadyH.cons rfl (fun K hK => ?_) (AllReadyH.nil))
    · go_simp
      go_at_call 15
      refine (to_state s _ w.heap.size zD (HR.out.later BB.out (Nat.le_refl _)) BB.out.size Hs.out).mono ?_
      rintro e z1 ⟨va, rfl, hoz1, bz1⟩
      replace BA := Lib.hid (BA.out.trans (bz1.mono BA.out.size))
      replace KP := Lib.hid ((bz1.block _ LP.out).trans KP.out)
      replace LP := Lib.hid (Nat.lt_of_lt_of_le LP.out bz1.size)
      replace KQ := Lib.hid ((bz1.block _ LQ.out).trans KQ.out)
      replace LQ := Lib.hid (Nat.lt_of_lt_of_le LQ.out bz1.size)
      replace BB := Lib.hid (BB.out.trans (bz1.mono BB.out.size))
      replace yA := Lib.hid (Nat.le_trans yA.out bz1.size)
      have SA : Hid (StV z1 z1.heap.size va s) := Lib.hid (hoz1.st Hs.out.lens.1 Hs.out.lens.2)
      clear hoz1 bz1
      go_wp2_with fail
      refine hK.out _ _ (HSS.out _ KP.out KQ.out) (fun hHeld => ?_)
      clear hK K
      try simp only [getElem_toArray, getElem_cons_zero, getElem_cons_succ, Act.put, setIfInBounds_toArray, set_cons_zero, set_cons_succ]
      refine wpAnyH_ready (rs := [3, 9]) (by kernel_rfl) (by simp) ?_
      refine AllReadyH.cons rfl (fun K hK => ?_) (AllReadyH.cons rfl (fun K hK => ?_) (AllReadyH.nil))
      · go_simp
        go_at_call 16
        have hti := to_op x z1
        unfold rqA at hti
        refine hti.mono ?_
        rintro e z2 ⟨rfl, bz2⟩
        clear hti
        replace BA := Lib.hid (BA.out.trans (bz2.mono BA.out.size))
        replace KP := Lib.hid ((bz2.block _ LP.out).trans KP.out)
        replace LP := Lib.hid (Nat.lt_of_lt_of_le LP.out bz2.size)
        replace KQ := Lib.hid ((bz2.block _ LQ.out).trans KQ.out)
        replace LQ := Lib.hid (Nat.lt_of_lt_of_le LQ.out bz2.size)
        replace BB := Lib.hid (BB.out.trans (bz2.mono BB.out.size))
        replace SA := Lib.hid (SA.out.later bz2 bz2.size)
        replace yA := Lib.hid (Nat.le_trans yA.out bz2.size)
        clear bz2
        go_wp2_with fail
        refine hK.out _ _ (HSS.out _ KP.out KQ.out) (fun hHeld => ?_)
        clear hK K
        try simp only [getElem_toArray, getElem_cons_zero, getElem_cons_succ, Act.put, setIfInBounds_toArray, set_cons_zero, set_cons_succ]
        refine wpAnyH_ready (rs := [4, 9]) (by kernel_rfl) (by simp) ?_
        refine AllReadyH.cons rfl (fun K hK => ?_) (AllReadyH.cons rfl (fun K hK => ?_) (AllReadyH.nil))
        · go_simp
          have hc := spec_apply s va x z2.heap.size z2 SA.out (Nat.le_refl _) (Hs.out.mono (by omega)) Hfit.out Hx.out
          rw [← Hr.out, ← Hrp.out, ← Hre.out] at hc
          unfold rqA at hc
          go_at_call 14
          refine hc.mono ?_
          rintro e z3 ⟨_, rfl, gho, bz3⟩
          clear hc
          clear SA
          obtain ⟨_, _, ggi, gci, ggt, gct, rfl, ghne, ⟨gai, rfl, gsai⟩, ⟨gat, rfl, gsat⟩, ggW, gtW⟩ := gho
          have gG := Lib.hid (ggW.base yA.out)
          have gH := Lib.hid (gtW.base yA.out)
          have gSI : Hid (NilOr gai ggi r.items.length gci) := Lib.hid gsai
          have gST : Hid (NilOr gat ggt r.talks.length gct) := Lib.hid gsat
          clear gsai gsat
          have yN : Hid (ggi ≠ ggt) := Lib.hid ghne
          replace BA := Lib.hid (BA.out.trans (bz3.mono BA.out.size))
          replace KP := Lib.hid ((bz3.block _ LP.out).trans KP.out)
          replace LP := Lib.hid (Nat.lt_of_lt_of_le LP.out bz3.size)
          replace KQ := Lib.hid ((bz3.block _ LQ.out).trans KQ.out)
          replace LQ := Lib.hid (Nat.lt_of_lt_of_le LQ.out bz3.size)
          replace BB := Lib.hid (BB.out.trans (bz3.mono BB.out.size))
          replace yA := Lib.hid (Nat.le_trans yA.out bz3.size)
          clear ggW gtW bz3 ghne
          go_wp2_with fail
          refine hK.out _ _ (HSS.out _ KP.out KQ.out) (fun hHeld => ?_)
          clear hK K
          try simp only [getElem_toArray, getElem_cons_zero, getElem_cons_succ, Act.put, setIfInBounds_toArray, set_cons_zero, set_cons_succ]
          refine tk0 5 ?_
          refine tk0 6 ?_
          refine tk0 7 ?_
          refine tk0 8 ?_
          refine wpAnyH_ready (rs := [9]) (by kernel_rfl) (by simp) ?_
          refine AllReadyH.cons rfl (fun K hK => ?_) (AllReadyH.nil)
          go_simp
          obtain ⟨z4, hz4⟩ : ∃ z, z = z3.alloc (.cells #[.slice none 0 0, .slice none 0 0] 27) := ⟨_, rfl⟩
          rw [← hz4]
          have bz4 : Below z3.heap.size z3 z4 := by rw [hz4]; exact (Below.refl _ _).alloc (Nat.le_refl _) _
          have sz4 : Hid (z4.heap.size = z3.heap.size + 1) := Lib.hid (by rw [hz4]; simp)
          have yB : Hid (w2.heap.size ≤ z3.heap.size) := yA
          have yE : Hid (ggi ≠ z3.heap.size ∧ ggt ≠ z3.heap.size) := Lib.hid ⟨by have := gG.out.2.2.2.2.1; omega, by have := gH.out.2.2.2.2.1; omega⟩
          replace BA := Lib.hid (BA.out.trans (bz4.mono BA.out.size))
          replace KP := Lib.hid ((bz4.block _ LP.out).trans KP.out)
          replace LP := Lib.hid (Nat.lt_of_lt_of_le LP.out bz4.size)
          replace KQ := Lib.hid ((bz4.block _ LQ.out).trans KQ.out)
          replace LQ := Lib.hid (Nat.lt_of_lt_of_le LQ.out bz4.size)
          replace gG := Lib.hid (gG.out.later bz4)
          replace gH := Lib.hid (gH.out.later bz4)
          replace BB := Lib.hid (BB.out.trans (bz4.mono BB.out.size))
          replace yA := Lib.hid (Nat.le_trans yA.out bz4.size)
          have KB : Hid (z4.heap[z3.heap.size]? = some (.cells #[.slice none 0 0, .slice none 0 0] 27 (0, 0))) := Lib.hid (by rw [hz4]; exact heap_new _ _)
          have LB : Hid (z3.heap.size < z4.heap.size) := Lib.hid (by have := sz4.out; omega)
          clear bz4 hz4
          refine hK.out _ _ (HSS.out _ KP.out KQ.out) (fun hHeld => ?_)
          clear hK K
          try simp only [getElem_toArray, getElem_cons_zero, getElem_cons_succ, Act.put, setIfInBounds_toArray, set_cons_zero, set_cons_succ]
          have dB0 := cell_of_row z4 _ 0 _ _ _ KB.out
          have zB0 := frozen_of_row z4 _ 0 _ _ KB.out
          have dB1 := cell_of_row z4 _ 1 _ _ _ KB.out
          have zB1 := frozen_of_row z4 _ 1 _ _ KB.out
          simp only [List.getElem?_toArray, List.getElem?_cons_zero, List.getElem?_cons_succ] at dB0 dB1
          refine wpAnyH_ready (rs := [10]) (by kernel_rfl) (by simp) ?_
          refine AllReadyH.cons rfl (fun K hK => ?_) (AllReadyH.nil)
          go_simp
          obtain ⟨Y, hY⟩ : ∃ Y, Y = (z4.setCell ⟨z3.heap.size, 0, none⟩ (.slice gai r.items.length gci)).setCell ⟨z3.heap.size, 1, none⟩ (.slice gat r.talks.length gct) := ⟨_, rfl⟩
          rw [← hY]
          have f1 := heap_setCell_same _ (z3.heap.size) 0 _ _ (.slice gai r.items.length gci) KB.out
          have f2 := heap_setCell_same _ (z3.heap.size) 1 _ _ (.slice gat r.talks.length gct) f1
          rw [← hY] at f2
          have gY : z4.grownBy Y (some (z3.heap.size)) := by rw [hY]; exact (grown_set _ ⟨z3.heap.size, 0, none⟩ _).trans (grown_set _ ⟨z3.heap.size, 1, none⟩ _)
          clear dB0 dB1 zB0 zB1 hY f1
          simp only [List.setIfInBounds_toArray, List.set_cons_zero, List.set_cons_succ] at f2
          have F2 := Lib.hid f2
          replace BA := Lib.hid (BA.out.grown gY BA.out.size (fun k hk => by cases hk; exact yB.out))
          have LY : Hid (z3.heap.size < Y.heap.size) := Lib.hid (Nat.lt_of_lt_of_le LB.out gY.size)
          replace gG := Lib.hid (gG.out.grown gY (by have := yE.out; omega))
          replace gH := Lib.hid (gH.out.grown gY (by have := yE.out; omega))
          have KPy := Lib.hid ((gY.block _ LP.out (by simp; have := yB.out; have := LAP.out; omega)).trans KP.out)
          have KQy := Lib.hid ((gY.block _ LQ.out (by simp; have := yB.out; have := LAQ.out; omega)).trans KQ.out)
          refine hK.out _ _ (HSS.out _ KPy.out KQy.out) (fun hHeld => ?_)
          clear hK K gY f2
          try simp only [getElem_toArray, getElem_cons_zero, getElem_cons_succ, Act.put, setIfInBounds_toArray, set_cons_zero, set_cons_succ]
          refine tk0 11 ?_
          refine tk0 12 ?_
          refine wpAnyH_done (by kernel_rfl) ?_ _
          clear hHeld
          go_wp2_with fail
          go_meet
          exact ⟨z3.heap.size, ggi, gci, ggt, gct, _, _, rfl, rfl, rfl, F2, gG, gH, BA, Lib.hid ⟨yB.out, LY.out, fun h => yE.out.1 h.symm, fun h => yE.out.2 h.symm, yN.out⟩, gSI, gST⟩
        · go_simp
          obtain ⟨z5, hz5⟩ : ∃ z, z = z2.alloc (.cells #[.slice none 0 0, .slice none 0 0] 27) := ⟨_, rfl⟩
          rw [← hz5]
          have bz5 : Below z2.heap.size z2 z5 := by rw [hz5]; exact (Below.refl _ _).alloc (Nat.le_refl _) _
          have sz5 : Hid (z5.heap.size = z2.heap.size + 1) := Lib.hid (by rw [hz5]; simp)
          have yB : Hid (w2.heap.size ≤ z2.heap.size) := yA
          replace BA := Lib.hid (BA.out.trans (bz5.mono BA.out.size))
          replace KP := Lib.hid ((bz5.block _ LP.out).trans KP.out)
          replace LP := Lib.hid (Nat.lt_of_lt_of_le LP.out bz5.size)
          replace KQ := Lib.hid ((bz5.block _ LQ.out).trans KQ.out)
          replace LQ := Lib.hid (Nat.lt_of_lt_of_le LQ.out bz5.size)
          replace BB := Lib.hid (BB.out.trans (bz5.mono BB.out.size))
          replace SA := Lib.hid (SA.out.later bz5 bz5.size)
          replace yA := Lib.hid (Nat.le_trans yA.out bz5.size)
          have KB : Hid (z5.heap[z2.heap.size]? = some (.cells #[.slice none 0 0, .slice none 0 0] 27 (0, 0))) := Lib.hid (by rw [hz5]; exact heap_new _ _)
          have LB : Hid (z2.heap.size < z5.heap.size) := Lib.hid (by have := sz5.out; omega)
          clear bz5 hz5
          refine hK.out _ _ (HSS.out _ KP.out KQ.out) (fun hHeld => ?_)
          clear hK K
          try simp only [getElem_toArray, getElem_cons_zero, getElem_cons_succ, Act.put, setIfInBounds_toArray, set_cons_zero, set_cons_succ]
          refine wpAnyH_ready (rs := [4]) (by kernel_rfl) (by simp) ?_
          refine AllReadyH.cons rfl (fun K hK => ?_) (AllReadyH.nil)
          go_simp
          have hc := spec_apply s va x z5.heap.size z5 SA.out (Nat.le_refl _) (Hs.out.mono (by omega)) Hfit.out Hx.out
          rw [← Hr.out, ← Hrp.out, ← Hre.out] at hc
          unfold rqA at hc
          go_at_call 14
          refine hc.mono ?_
          rintro e z6 ⟨_, rfl, gho, bz6⟩
          clear hc
          clear SA
          obtain ⟨_, _, ggi, gci, ggt, gct, rfl, ghne, ⟨gai, rfl, gsai⟩, ⟨gat, rfl, gsat⟩, ggW, gtW⟩ := gho
          have gG := Lib.hid (ggW.base yA.out)
          have gH := Lib.hid (gtW.base yA.out)
          have yE : Hid (ggi ≠ z2.heap.size ∧ ggt ≠ z2.heap.size) := Lib.hid ⟨by have := ggW.2.2.2.1; have := LB.out; omega, by have := gtW.2.2.2.1; have := LB.out; omega⟩
          have gSI : Hid (NilOr gai ggi r.items.length gci) := Lib.hid gsai
          have gST : Hid (NilOr gat ggt r.talks.length gct) := Lib.hid gsat
          clear gsai gsat
          have yN : Hid (ggi ≠ ggt) := Lib.hid ghne
          replace BA := Lib.hid (BA.out.trans (bz6.mono BA.out.size))
          replace KP := Lib.hid ((bz6.block _ LP.out).trans KP.out)
          replace LP := Lib.hid (Nat.lt_of_lt_of_le LP.out bz6.size)
          replace KQ := Lib.hid ((bz6.block _ LQ.out).trans KQ.out)
          replace LQ := Lib.hid (Nat.lt_of_lt_of_le LQ.out bz6.size)
          replace KB := Lib.hid ((bz6.block _ LB.out).trans KB.out)
          replace LB := Lib.hid (Nat.lt_of_lt_of_le LB.out bz6.size)
          replace BB := Lib.hid (BB.out.trans (bz6.mono BB.out.size))
          replace yA := Lib.hid (Nat.le_trans yA.out bz6.size)
          clear ggW gtW bz6 ghne
          go_wp2_with fail
          refine hK.out _ _ (HSS.out _ KP.out KQ.out) (fun hHeld => ?_)
          clear hK K
          try simp only [getElem_toArray, getElem_cons_zero, getElem_cons_succ, Act.put, setIfInBounds_toArray, set_cons_zero, set_cons_succ]
          refine tk0 5 ?_
          refine tk0 6 ?_
          refine tk0 7 ?_
          refine tk0 8 ?_
          have dB0 := cell_of_row z6 _ 0 _ _ _ KB.out
          have zB0 := frozen_of_row z6 _ 0 _ _ KB.out
          have dB1 := cell_of_row z6 _ 1 _ _ _ KB.out
          have zB1 := frozen_of_row z6 _ 1 _ _ KB.out
          simp only [List.getElem?_toArray, List.getElem?_cons_zero, List.getElem?_cons_succ] at dB0 dB1
          refine wpAnyH_ready (rs := [10]) (by kernel_rfl) (by simp) ?_
          refine AllReadyH.cons rfl (fun K hK => ?_) (AllReadyH.nil)
          go_simp
          obtain ⟨Y, hY⟩ : ∃ Y, Y = (z6.setCell ⟨z2.heap.size, 0, none⟩ (.slice gai r.items.length gci)).setCell ⟨z2.heap.size, 1, none⟩ (.slice gat r.talks.length gct) := ⟨_, rfl⟩
          rw [← hY]
          have f1 := heap_setCell_same _ (z2.heap.size) 0 _ _ (.slice gai r.items.length gci) KB.out
          have f2 := heap_setCell_same _ (z2.heap.size) 1 _ _ (.slice gat r.talks.length gct) f1
          rw [← hY] at f2
          have gY : z6.grownBy Y (some (z2.heap.size)) := by rw [hY]; exact (grown_set _ ⟨z2.heap.size, 0, none⟩ _).trans (grown_set _ ⟨z2.heap.size, 1, none⟩ _)
          clear dB0 dB1 zB0 zB1 hY f1
          simp only [List.setIfInBounds_toArray, List.set_cons_zero, List.set_cons_succ] at f2
          have F2 := Lib.hid f2
          replace BA := Lib.hid (BA.out.grown gY BA.out.size (fun k hk => by cases hk; exact yB.out))
          have LY : Hid (z2.heap.size < Y.heap.size) := Lib.hid (Nat.lt_of_lt_of_le LB.out gY.size)
          replace gG := Lib.hid (gG.out.grown gY (by have := yE.out; omega))
          replace gH := Lib.hid (gH.out.grown gY (by have := yE.out; omega))
          have KPy := Lib.hid ((gY.block _ LP.out (by simp; have := yB.out; have := LAP.out; omega)).trans KP.out)
          have KQy := Lib.hid ((gY.block _ LQ.out (by simp; have := yB.out; have := LAQ.out; omega)).trans KQ.out)
          refine hK.out _ _ (HSS.out _ KPy.out KQy.out) (fun hHeld => ?_)
          clear hK K gY f2
          try simp only [getElem_toArray, getElem_cons_zero, getElem_cons_succ, Act.put, setIfInBounds_toArray, set_cons_zero, set_cons_succ]
          refine tk0 11 ?_
          refine tk0 12 ?_
          refine wpAnyH_done (by kernel_rfl) ?_ _
          clear hHeld
          go_wp2_with fail
          go_meet
          exact ⟨z2.heap.size, ggi, gci, ggt, gct, _, _, rfl, rfl, rfl, F2, gG, gH, BA, Lib.hid ⟨yB.out, LY.out, fun h => yE.out.1 h.symm, fun h => yE.out.2 h.symm, yN.out⟩, gSI, gST⟩
      · go_simp
        obtain ⟨z7, hz7⟩ : ∃ z, z = z1.alloc (.cells #[.slice none 0 0, .slice none 0 0] 27) := ⟨_, rfl⟩
        rw [← hz7]
        have bz7 : Below z1.heap.size z1 z7 := by rw [hz7]; exact (Below.refl _ _).alloc (Nat.le_refl _) _
        have sz7 : Hid (z7.heap.size = z1.heap.size + 1) := Lib.hid (by rw [hz7]; simp)
        have yB : Hid (w2.heap.size ≤ z1.heap.size) := yA
        replace BA := Lib.hid (BA.out.trans (bz7.mono BA.out.size))
        replace KP := Lib.hid ((bz7.block _ LP.out).trans KP.out)
        replace LP := Lib.hid (Nat.lt_of_lt_of_le LP.out bz7.size)
        replace KQ := Lib.hid ((bz7.block _ LQ.out).trans KQ.out)
        replace LQ := Lib.hid (Nat.lt_of_lt_of_le LQ.out bz7.size)
        replace BB := Lib.hid (BB.out.trans (bz7.mono BB.out.size))
        replace SA := Lib.hid (SA.out.later bz7 bz7.size)
        replace yA := Lib.hid (Nat.le_trans yA.out bz7.size)
        have KB : Hid (z7.heap[z1.heap.size]? = some (.cells #[.slice none 0 0, .slice none 0 0] 27 (0, 0))) := Lib.hid (by rw [hz7]; exact heap_new _ _)
        have LB : Hid (z1.heap.size < z7.heap.size) := Lib.hid (by have := sz7.out; omega)
        clear bz7 hz7
        refine hK.out _ _ (HSS.out _ KP.out KQ.out) (fun hHeld => ?_)
        clear hK K
        try simp only [getElem_toArray, getElem_cons_zero, getElem_cons_succ, Act.put, setIfInBounds_toArray, set_cons_zero, set_cons_succ]
        refine wpAnyH_ready (rs := [3]) (by kernel_rfl) (by simp) ?_
        refine AllReadyH.cons rfl (fun K hK => ?_) (AllReadyH.nil)
        go_simp
        go_at_call 16
        have hti := to_op x z7
        unfold rqA at hti
        refine hti.mono ?_
        rintro e z8 ⟨rfl, bz8⟩
        clear hti
        replace BA := Lib.hid (BA.out.trans (bz8.mono BA.out.size))
        replace KP := Lib.hid ((bz8.block _ LP.out).trans KP.out)
        replace LP := Lib.hid (Nat.lt_of_lt_of_le LP.out bz8.size)
        replace KQ := Lib.hid ((bz8.block _ LQ.out).trans KQ.out)
        replace LQ := Lib.hid (Nat.lt_of_lt_of_le LQ.out bz8.size)
        replace KB := Lib.hid ((bz8.block _ LB.out).trans KB.out)
        replace LB := Lib.hid (Nat.lt_of_lt_of_le LB.out bz8.size)
        replace BB := Lib.hid (BB.out.trans (bz8.mono BB.out.size))
        replace SA := Lib.hid (SA.out.later bz8 bz8.size)
        replace yA := Lib.hid (Nat.le_trans yA.out bz8.size)
        clear bz8
        go_wp2_with fail
        refine hK.out _ _ (HSS.out _ KP.out KQ.out) (fun hHeld => ?_)
        clear hK K
        try simp only [getElem_toArray, getElem_cons_zero, getElem_cons_succ, Act.put, setIfInBounds_toArray, set_cons_zero, set_cons_succ]
        refine wpAnyH_ready (rs := [4]) (by kernel_rfl) (by simp) ?_
        refine AllReadyH.cons rfl (fun K hK => ?_) (AllReadyH.nil)
        go_simp
        have hc := spec_apply s va x z8.heap.size z8 SA.out (Nat.le_refl _) (Hs.out.mono (by omega)) Hfit.out Hx.out
        rw [← Hr.out, ← Hrp.out, ← Hre.out] at hc
        unfold rqA at hc
        go_at_call 14
        refine hc.mono ?_
        rintro e z9 ⟨_, rfl, gho, bz9⟩
        clear hc
        clear SA
        obtain ⟨_, _, ggi, gci, ggt, gct, rfl, ghne, ⟨gai, rfl, gsai⟩, ⟨gat, rfl, gsat⟩, ggW, gtW⟩ := gho
        have gG := Lib.hid (ggW.base yA.out)
        have gH := Lib.hid (gtW.base yA.out)
        have yE : Hid (ggi ≠ z1.heap.size ∧ ggt ≠ z1.heap.size) := Lib.hid ⟨by have := ggW.2.2.2.1; have := LB.out; omega, by have := gtW.2.2.2.1; have := LB.out; omega⟩
        have gSI : Hid (NilOr gai ggi r.items.length gci) := Lib.hid gsai
        have gST : Hid (NilOr gat ggt r.talks.length gct) := Lib.hid gsat
        clear gsai gsat
        have yN : Hid (ggi ≠ ggt) := Lib.hid ghne
        replace BA := Lib.hid (BA.out.trans (bz9.mono BA.out.size))
        replace KP := Lib.hid ((bz9.block _ LP.out).trans KP.out)
        replace LP := Lib.hid (Nat.lt_of_lt_of_le LP.out bz9.size)
        replace KQ := Lib.hid ((bz9.block _ LQ.out).trans KQ.out)
        replace LQ := Lib.hid (Nat.lt_of_lt_of_le LQ.out bz9.size)
        replace KB := Lib.hid ((bz9.block _ LB.out).trans KB.out)
        replace LB := Lib.hid (Nat.lt_of_lt_of_le LB.out bz9.size)
        replace BB := Lib.hid (BB.out.trans (bz9.mono BB.out.size))
        replace yA := Lib.hid (Nat.le_trans yA.out bz9.size)
        clear ggW gtW bz9 ghne
        go_wp2_with fail
        refine hK.out _ _ (HSS.out _ KP.out KQ.out) (fun hHeld => ?_)
        clear hK K
        try simp only [getElem_toArray, getElem_cons_zero, getElem_cons_succ, Act.put, setIfInBounds_toArray, set_cons_zero, set_cons_succ]
        refine tk0 5 ?_
        refine tk0 6 ?_
        refine tk0 7 ?_
        refine tk0 8 ?_
        have dB0 := cell_of_row z9 _ 0 _ _ _ KB.out
        have zB0 := frozen_of_row z9 _ 0 _ _ KB.out
        have dB1 := cell_of_row z9 _ 1 _ _ _ KB.out
        have zB1 := frozen_of_row z9 _ 1 _ _ KB.out
        simp only [List.getElem?_toArray, List.getElem?_cons_zero, List.getElem?_cons_succ] at dB0 dB1
        refine wpAnyH_ready (rs := [10]) (by kernel_rfl) (by simp) ?_
        refine AllReadyH.cons rfl (fun K hK => ?_) (AllReadyH.nil)
        go_simp
        obtain ⟨Y, hY⟩ : ∃ Y, Y = (z9.setCell ⟨z1.heap.size, 0, none⟩ (.slice gai r.items.length gci)).setCell ⟨z1.heap.size, 1, none⟩ (.slice gat r.talks.length gct) := ⟨_, rfl⟩
        rw [← hY]
        have f1 := heap_setCell_same _ (z1.heap.size) 0 _ _ (.slice gai r.items.length gci) KB.out
        have f2 := heap_setCell_same _ (z1.heap.size) 1 _ _ (.slice gat r.talks.length gct) f1
        rw [← hY] at f2
        have gY : z9.grownBy Y (some (z1.heap.size)) := by rw [hY]; exact (grown_set _ ⟨z1.heap.size, 0, none⟩ _).trans (grown_set _ ⟨z1.heap.size, 1, none⟩ _)
        clear dB0 dB1 zB0 zB1 hY f1
        simp only [List.setIfInBounds_toArray, List.set_cons_zero, List.set_cons_succ] at f2
        have F2 := Lib.hid f2
        replace BA := Lib.hid (BA.out.grown gY BA.out.size (fun k hk => by cases hk; exact yB.out))
        have LY : Hid (z1.heap.size < Y.heap.size) := Lib.hid (Nat.lt_of_lt_of_le LB.out gY.size)
        replace gG := Lib.hid (gG.out.grown gY (by have := yE.out; omega))
        replace gH := Lib.hid (gH.out.grown gY (by have := yE.out; omega))
        have KPy := Lib.hid ((gY.block _ LP.out (by simp; have := yB.out; have := LAP.out; omega)).trans KP.out)
        have KQy := Lib.hid ((gY.block _ LQ.out (by simp; have := yB.out; have := LAQ.out; omega)).trans KQ.out)
        refine hK.out _ _ (HSS.out _ KPy.out KQy.out) (fun hHeld => ?_)
        clear hK K gY f2
        try simp only [getElem_toArray, getElem_cons_zero, getElem_cons_succ, Act.put, setIfInBounds_toArray, set_cons_zero, set_cons_succ]
        refine tk0 11 ?_
        refine tk0 12 ?_
        refine wpAnyH_done (by kernel_rfl) ?_ _
        clear hHeld
        go_wp2_with fail
        go_meet
        exact ⟨z1.heap.size, ggi, gci, ggt, gct, _, _, rfl, rfl, rfl, F2, gG, gH, BA, Lib.hid ⟨yB.out, LY.out, fun h => yE.out.1 h.symm, fun h => yE.out.2 h.symm, yN.out⟩, gSI, gST⟩
    · go_simp
      obtain ⟨z10, hz10⟩ : ∃ z, z = zD.alloc (.cells #[.slice none 0 0, .slice none 0 0] 27) := ⟨_, rfl⟩
      rw [← hz10]
      have bz10 : Below zD.heap.size zD z10 := by rw [hz10]; exact (Below.refl _ _).alloc (Nat.le_refl _) _
      have sz10 : Hid (z10.heap.size = zD.heap.size + 1) := Lib.hid (by rw [hz10]; simp)
      have yB : Hid (w2.heap.size ≤ zD.heap.size) := yA
      replace BA := Lib.hid (BA.out.trans (bz10.mono BA.out.size))
      replace KP := Lib.hid ((bz10.block _ LP.out).trans KP.out)
      replace LP := Lib.hid (Nat.lt_of_lt_of_le LP.out bz10.size)
      replace KQ := Lib.hid ((bz10.block _ LQ.out).trans KQ.out)
      replace LQ := Lib.hid (Nat.lt_of_lt_of_le LQ.out bz10.size)
      replace BB := Lib.hid (BB.out.trans (bz10.mono BB.out.size))
      replace yA := Lib.hid (Nat.le_trans yA.out bz10.size)
      have KB : Hid (z10.heap[zD.heap.size]? = some (.cells #[.slice none 0 0, .slice none 0 0] 27 (0, 0))) := Lib.hid (by rw [hz10]; exact heap_new _ _)
      have LB : Hid (zD.heap.size < z10.heap.size) := Lib.hid (by have := sz10.out; omega)
      clear bz10 hz10
      refine hK.out _ _ (HSS.out _ KP.out KQ.out) (fun hHeld => ?_)
      clear hK K
      try simp only [getElem_toArray, getElem_cons_zero, getElem_cons_succ, Act.put, setIfInBounds_toArray, set_cons_zero, set_cons_succ]
      refine wpAnyH_ready (rs := [1]) (by kernel_rfl) (by simp) ?_
      refine AllReadyH.cons rfl (fun K hK => ?_) (AllReadyH.nil)
      go_simp
      go_at_call 15
      refine (to_state s _ w.heap.size z10 (HR.out.later BB.out (Nat.le_refl _)) BB.out.size Hs.out).mono ?_
      rintro e z11 ⟨va, rfl, hoz11, bz11⟩
      replace BA := Lib.hid (BA.out.trans (bz11.mono BA.out.size))
      replace KP := Lib.hid ((bz11.block _ LP.out).trans KP.out)
      replace LP := Lib.hid (Nat.lt_of_lt_of_le LP.out bz11.size)
      replace KQ := Lib.hid ((bz11.block _ LQ.out).trans KQ.out)
      replace LQ := Lib.hid (Nat.lt_of_lt_of_le LQ.out bz11.size)
      replace KB := Lib.hid ((bz11.block _ LB.out).trans KB.out)
      replace LB := Lib.hid (Nat.lt_of_lt_of_le LB.out bz11.size)
      replace BB := Lib.hid (BB.out.trans (bz11.mono BB.out.size))
      replace yA := Lib.hid (Nat.le_trans yA.out bz11.size)
      have SA : Hid (StV z11 z11.heap.size va s) := Lib.hid (hoz11.st Hs.out.lens.1 Hs.out.lens.2)
      clear hoz11 bz11
      go_wp2_with fail
      refine hK.out _ _ (HSS.out _ KP.out KQ.out) (fun hHeld => ?_)
      clear hK K
      try simp only [getElem_toArray, getElem_cons_zero, getElem_cons_succ, Act.put, setIfInBounds_toArray, set_cons_zero, set_cons_succ]
      refine wpAnyH_ready (rs := [3]) (by kernel_rfl) (by simp) ?_
      refine AllReadyH.cons rfl (fun K hK => ?_) (AllReadyH.nil)
      go_simp
      go_at_call 16
      have hti := to_op x z11
      unfold rqA at hti
      refine hti.mono ?_
      rintro e z12 ⟨rfl, bz12⟩
      clear hti
      replace BA := Lib.hid (BA.out.trans (bz12.mono BA.out.size))
      replace KP := Lib.hid ((bz12.block _ LP.out).trans KP.out)
      replace LP := Lib.hid (Nat.lt_of_lt_of_le LP.out bz12.size)
      replace KQ := Lib.hid ((bz12.block _ LQ.out).trans KQ.out)
      replace LQ := Lib.hid (Nat.lt_of_lt_of_le LQ.out bz12.size)
      replace KB := Lib.hid ((bz12.block _ LB.out).trans KB.out)
      replace LB := Lib.hid (Nat.lt_of_lt_of_le LB.out bz12.size)
      replace BB := Lib.hid (BB.out.trans (bz12.mono BB.out.size))
      replace SA := Lib.hid (SA.out.later bz12 bz12.size)
      replace yA := Lib.hid (Nat.le_trans yA.out bz12.size)
      clear bz12
      go_wp2_with fail
      refine hK.out _ _ (HSS.out _ KP.out KQ.out) (fun hHeld => ?_)
      clear hK K
      try simp only [getElem_toArray, getElem_cons_zero, getElem_cons_succ, Act.put, setIfInBounds_toArray, set_cons_zero, set_cons_succ]
      refine wpAnyH_ready (rs := [4]) (by kernel_rfl) (by simp) ?_
      refine AllReadyH.cons rfl (fun K hK => ?_) (AllReadyH.nil)
      go_simp
      have hc := spec_apply s va x z12.heap.size z12 SA.out (Nat.le_refl _) (Hs.out.mono (by omega)) Hfit.out Hx.out
      rw [← Hr.out, ← Hrp.out, ← Hre.out] at hc
      unfold rqA at hc
      go_at_call 14
      refine hc.mono ?_
      rintro e z13 ⟨_, rfl, gho, bz13⟩
      clear hc
      clear SA
      obtain ⟨_, _, ggi, gci, ggt, gct, rfl, ghne, ⟨gai, rfl, gsai⟩, ⟨gat, rfl, gsat⟩, ggW, gtW⟩ := gho
      have gG := Lib.hid (ggW.base yA.out)
      have gH := Lib.hid (gtW.base yA.out)
      have yE : Hid (ggi ≠ zD.heap.size ∧ ggt ≠ zD.heap.size) := Lib.hid ⟨by have := ggW.2.2.2.1; have := LB.out; omega, by have := gtW.2.2.2.1; have := LB.out; omega⟩
      have gSI : Hid (NilOr gai ggi r.items.length gci) := Lib.hid gsai
      have gST : Hid (NilOr gat ggt r.talks.length gct) := Lib.hid gsat
      clear gsai gsat
      have yN : Hid (ggi ≠ ggt) := Lib.hid ghne
      replace BA := Lib.hid (BA.out.trans (bz13.mono BA.out.size))
      replace KP := Lib.hid ((bz13.block _ LP.out).trans KP.out)
      replace LP := Lib.hid (Nat.lt_of_lt_of_le LP.out bz13.size)
      replace KQ := Lib.hid ((bz13.block _ LQ.out).trans KQ.out)
      replace LQ := Lib.hid (Nat.lt_of_lt_of_le LQ.out bz13.size)
      replace KB := Lib.hid ((bz13.block _ LB.out).trans KB.out)
      replace LB := Lib.hid (Nat.lt_of_lt_of_le LB.out bz13.size)
      replace BB := Lib.hid (BB.out.trans (bz13.mono BB.out.size))
      replace yA := Lib.hid (Nat.le_trans yA.out bz13.size)
      clear ggW gtW bz13 ghne
      go_wp2_with fail
      refine hK.out _ _ (HSS.out _ KP.out KQ.out) (fun hHeld => ?_)
      clear hK K
      try simp only [getElem_toArray, getElem_cons_zero, getElem_cons_succ, Act.put, setIfInBounds_toArray, set_cons_zero, set_cons_succ]
      refine tk0 5 ?_
      refine tk0 6 ?_
      refine tk0 7 ?_
      refine tk0 8 ?_
      have dB0 := cell_of_row z13 _ 0 _ _ _ KB.out
      have zB0 := frozen_of_row z13 _ 0 _ _ KB.out
      have dB1 := cell_of_row z13 _ 1 _ _ _ KB.out
      have zB1 := frozen_of_row z13 _ 1 _ _ KB.out
      simp only [List.getElem?_toArray, List.getElem?_cons_zero, List.getElem?_cons_succ] at dB0 dB1
      refine wpAnyH_ready (rs := [10]) (by kernel_rfl) (by simp) ?_
      refine AllReadyH.cons rfl (fun K hK => ?_) (AllReadyH.nil)
      go_simp
      obtain ⟨Y, hY⟩ : ∃ Y, Y = (z13.setCell ⟨zD.heap.size, 0, none⟩ (.slice gai r.items.length gci)).setCell ⟨zD.heap.size, 1, none⟩ (.slice gat r.talks.length gct) := ⟨_, rfl⟩
      rw [← hY]
      have f1 := heap_setCell_same _ (zD.heap.size) 0 _ _ (.slice gai r.items.length gci) KB.out
      have f2 := heap_setCell_same _ (zD.heap.size) 1 _ _ (.slice gat r.talks.length gct) f1
      rw [← hY] at f2
      have gY : z13.grownBy Y (some (zD.heap.size)) := by rw [hY]; exact (grown_set _ ⟨zD.heap.size, 0, none⟩ _).trans (grown_set _ ⟨zD.heap.size, 1, none⟩ _)
      clear dB0 dB1 zB0 zB1 hY f1
      simp only [List.setIfInBounds_toArray, List.set_cons_zero, List.set_cons_succ] at f2
      have F2 := Lib.hid f2
      replace BA := Lib.hid (BA.out.grown gY BA.out.size (fun k hk => by cases hk; exact yB.out))
      have LY : Hid (zD.heap.size < Y.heap.size) := Lib.hid (Nat.lt_of_lt_of_le LB.out gY.size)
      replace gG := Lib.hid (gG.out.grown gY (by have := yE.out; omega))
      replace gH := Lib.hid (gH.out.grown gY (by have := yE.out; omega))
      have KPy := Lib.hid ((gY.block _ LP.out (by simp; have := yB.out; have := LAP.out; omega)).trans KP.out)
      have KQy := Lib.hid ((gY.block _ LQ.out (by simp; have := yB.out; have := LAQ.out; omega)).trans KQ.out)
      refine hK.out _ _ (HSS.out _ KPy.out KQy.out) (fun hHeld => ?_)
      clear hK K gY f2
      try simp only [getElem_toArray, getElem_cons_zero, getElem_cons_succ, Act.put, setIfInBounds_toArray, set_cons_zero, set_cons_succ]
      refine tk0 11 ?_
      refine tk0 12 ?_
      refine wpAnyH_done (by kernel_rfl) ?_ _
      clear hHeld
      go_wp2_with fail
      go_meet
      exact ⟨zD.heap.size, ggi, gci, ggt, gct, _, _, rfl, rfl, rfl, F2, gG, gH, BA, Lib.hid ⟨yB.out, LY.out, fun h => yE.out.1 h.symm, fun h => yE.out.2 h.symm, yN.out⟩, gSI, gST⟩
  case rest =>
    obtain ⟨gb, ggi, gci, ggt, gct, gai, gat, rfl, rfl, rfl, Kg, gG, gH, bA, Ng, gSI, gST⟩ := hcut
    obtain ⟨wg, rfl⟩ : ∃ z, z = wc := ⟨_, rfl⟩
    have ywg : Hid (w2.heap.size ≤ wg.heap.size) := Lib.hid bA.out.size
    replace KP := Lib.hid ((bA.out.block _ LP.out).trans KP.out)
    replace LP := Lib.hid (Nat.lt_of_lt_of_le LP.out bA.out.size)
    replace KQ := Lib.hid ((bA.out.block _ LQ.out).trans KQ.out)
    replace LQ := Lib.hid (Nat.lt_of_lt_of_le LQ.out bA.out.size)
    replace BB := Lib.hid (BB.out.trans (bA.out.mono BB.out.size))
    have Mg : Hid (ggi < wg.heap.size ∧ ggt < wg.heap.size ∧ w2.heap.size ≤ ggi ∧ w2.heap.size ≤ ggt) := Lib.hid ⟨gG.out.2.2.2.2.1, gH.out.2.2.2.2.1, gG.out.2.2.2.1, gH.out.2.2.2.1⟩
    have Lg : Hid (gb < wg.heap.size) := Lib.hid Ng.out.2.1
    clear bA
    have hc3 := to_state s _ w.heap.size wg (HR.out.later BB.out (Nat.le_refl _)) BB.out.size Hs.out
    have fP0 := cell_of_row wg _ 0 _ _ _ KP.out
    have fP1 := cell_of_row wg _ 1 _ _ _ KP.out
    simp only [List.getElem?_toArray, List.getElem?_cons_zero, List.getElem?_cons_succ] at fP0 fP1
    go_wp2_with (go_at_call 15; refine hc3.mono ?_; rintro e w4 ⟨v4, rfl, ho4, hb4⟩; refine Hid.out ?_)
    refine Lib.hid ?_
    obtain ⟨xi, xt, rfl, hne4, gX, tX⟩ := (ho4.c Hs.out.lens.1 Hs.out.lens.2)
    have N4a : Hid (wg.heap.size ≤ w4.heap.size) := Lib.hid hb4.size
    clear fP0 fP1
    replace KP := Lib.hid ((hb4.block _ LP.out).trans KP.out)
    replace LP := Lib.hid (Nat.lt_of_lt_of_le LP.out hb4.size)
    replace KQ := Lib.hid ((hb4.block _ LQ.out).trans KQ.out)
    replace LQ := Lib.hid (Nat.lt_of_lt_of_le LQ.out hb4.size)
    replace Kg := Lib.hid ((hb4.block _ Lg.out).trans Kg.out)
    replace Lg := Lib.hid (Nat.lt_of_lt_of_le Lg.out hb4.size)
    replace gG := Lib.hid (gG.out.later hb4)
    replace gH := Lib.hid (gH.out.later hb4)
    replace BB := Lib.hid (BB.out.trans (hb4.mono BB.out.size))
    have GX := Lib.hid gX
    have TX := Lib.hid tX
    clear gX tX hc3 ho4 hb4
    have N4 : Hid (wg.heap.size ≤ xi ∧ wg.heap.size ≤ xt ∧ xi < w4.heap.size ∧ xt < w4.heap.size ∧ xi ≠ xt) := Lib.hid ⟨GX.out.2.2.2.1, TX.out.2.2.2.1, GX.out.2.2.2.2.1, TX.out.2.2.2.2.1, hne4⟩
    clear hne4
    obtain ⟨X2, hX2⟩ : ∃ x, x = w4.alloc (.cells #[.slice (some ⟨xi, 0, none⟩) s.items.length s.items.length, .slice (some ⟨xt, 0, none⟩) s.talks.length s.talks.length] 27) := ⟨_, rfl⟩
    have bX2 : Below w4.heap.size w4 X2 := by rw [hX2]; exact (Below.refl _ _).alloc (Nat.le_refl _) _
    have sX2 : Hid (X2.heap.size = w4.heap.size + 1) := Lib.hid (by rw [hX2]; simp)
    replace KP := Lib.hid ((bX2.block _ LP.out).trans KP.out)
    replace LP := Lib.hid (Nat.lt_of_lt_of_le LP.out bX2.size)
    replace KQ := Lib.hid ((bX2.block _ LQ.out).trans KQ.out)
    replace LQ := Lib.hid (Nat.lt_of_lt_of_le LQ.out bX2.size)
    replace Kg := Lib.hid ((bX2.block _ Lg.out).trans Kg.out)
    replace Lg := Lib.hid (Nat.lt_of_lt_of_le Lg.out bX2.size)
    replace gG := Lib.hid (gG.out.later bX2)
    replace gH := Lib.hid (gH.out.later bX2)
    replace GX := Lib.hid (GX.out.later bX2)
    replace TX := Lib.hid (TX.out.later bX2)
    replace BB := Lib.hid (BB.out.trans (bX2.mono BB.out.size))
    have KX : Hid (X2.heap[w4.heap.size]? = some (.cells #[.slice (some ⟨xi, 0, none⟩) s.items.length s.items.length, .slice (some ⟨xt, 0, none⟩) s.talks.length s.talks.length] 27 (0, 0))) := Lib.hid (by rw [hX2]; exact heap_new _ _)
    have LX : Hid (w4.heap.size < X2.heap.size) := Lib.hid (by have := sX2.out; omega)
    clear bX2
    have N5 : Hid (w4.heap.size < X2.heap.size) := LX
    go_wp2_with fail
    rw [← hX2]
    clear hX2
    go_wp2_with fail
    go_cut [10, 11, 12] (fun b0 b1 b2 wx => ∃ (kb kgi kci kgt kct : Nat) (kai kat : Option Addr), b0 = .pointer (some ⟨kb, 0, none⟩) ∧ b1 = .string rp ∧ b2 = .int .i64 re ∧ Hid (wx.heap[kb]? = some (.cells #[.slice kai r.items.length kci, .slice kat r.talks.length kct] 27 (0, 0))) ∧ Hid (Got wx X2.heap.size 65 2 kgi r.items.length kci (r.items.flatMap itC)) ∧ Hid (Got wx X2.heap.size 67 3 kgt r.talks.length kct (r.talks.flatMap tkC)) ∧ Hid (Below X2.heap.size X2 wx) ∧ Hid (X2.heap.size ≤ kb ∧ kb < wx.heap.size ∧ kb ≠ kgi ∧ kb ≠ kgt ∧ kgi ≠ kgt) ∧ Hid (NilOr kai kgi r.items.length kci) ∧ Hid (NilOr kat kgt r.talks.length kct))
    case first =>
      have HSS : Hid (∀ w' : World, w'.heap[w4.heap.size]? = some (.cells #[.slice (some ⟨xi, 0, none⟩) s.items.length s.items.length, .slice (some ⟨xt, 0, none⟩) s.talks.length s.talks.length] 27 (0, 0)) → w'.heap[w.heap.size + 1]? = some (.cells #[.string x.c, .int .i64 x.q, .int .i64 x.n, .string x.k, .string x.v] 41 (0, 0)) → (w'.cell? ⟨w4.heap.size, 0, none⟩ = some (.slice (some ⟨xi, 0, none⟩) s.items.length s.items.length) ∧ w'.cell? ⟨w4.heap.size, 1, none⟩ = some (.slice (some ⟨xt, 0, none⟩) s.talks.length s.talks.length)) ∧ w'.cell? ⟨w.heap.size + 1, 0, none⟩ = some (.string x.c) ∧ w'.cell? ⟨w.heap.size + 1, 1, none⟩ = some (.int .i64 x.q) ∧ w'.cell? ⟨w.heap.size + 1, 2, none⟩ = some (.int .i64 x.n) ∧ w'.cell? ⟨w.heap.size + 1, 3, none⟩ = some (.string x.k) ∧ w'.cell? ⟨w.heap.size + 1, 4, none⟩ = some (.string x.v)) := Lib.hid (fun w' j0 j1 => ⟨⟨by simpa using cell_of_row w' _ 0 _ _ _ j0, by simpa using cell_of_row w' _ 1 _ _ _ j0⟩, by simpa using cell_of_row w' _ 0 _ _ _ j1, by simpa using cell_of_row w' _ 1 _ _ _ j1, by simpa using cell_of_row w' _ 2 _ _ _ j1, by simpa using cell_of_row w' _ 3 _ _ _ j1, by simpa using cell_of_row w' _ 4 _ _ _ j1⟩)
      have LAX : Hid (w4.heap.size < X2.heap.size) := LX
      have LAQ : Hid (w.heap.size + 1 < X2.heap.size) := LQ
      refine wp_region_held_drew (S := (fun w' => (w'.cell? ⟨w4.heap.size, 0, none⟩ = some (.slice (some ⟨xi, 0, none⟩) s.items.length s.items.length) ∧ w'.cell? ⟨w4.heap.size, 1, none⟩ = some (.slice (some ⟨xt, 0, none⟩) s.talks.length s.talks.length)) ∧ w'.cell? ⟨w.heap.size + 1, 0, none⟩ = some (.string x.c) ∧ w'.cell? ⟨w.heap.size + 1, 1, none⟩ = some (.int .i64 x.q) ∧ w'.cell? ⟨w.heap.size + 1, 2, none⟩ = some (.int .i64 x.n) ∧ w'.cell? ⟨w.heap.size + 1, 3, none⟩ = some (.string x.k) ∧ w'.cell? ⟨w.heap.size + 1, 4, none⟩ = some (.string x.v))) (by kernel_rfl) (HSS.out X2.drew KX.out KQ.out) (fun hHeld => ?_)
      obtain ⟨zD, hzD⟩ : ∃ z, z = X2.drew := ⟨_, rfl⟩
      rw [← hzD] at hHeld ⊢
      have bzD : Below X2.heap.size X2 zD := by rw [hzD]; exact (Below.refl _ _).drew
      have BA : Hid (Below X2.heap.size X2 zD) := Lib.hid bzD
      have yA : Hid (X2.heap.size ≤ X2.heap.size) := Lib.hid (Nat.le_refl _)
      replace KP := Lib.hid ((bzD.block _ LP.out).trans KP.out)
      replace LP := Lib.hid (Nat.lt_of_lt_of_le LP.out bzD.size)
      replace KQ := Lib.hid ((bzD.block _ LQ.out).trans KQ.out)
      replace LQ := Lib.hid (Nat.lt_of_lt_of_le LQ.out bzD.size)
      replace Kg := Lib.hid ((bzD.block _ Lg.out).trans Kg.out)
      replace Lg := Lib.hid (Nat.lt_of_lt_of_le Lg.out bzD.size)
      replace KX := Lib.hid ((bzD.block _ LX.out).trans KX.out)
      replace LX := Lib.hid (Nat.lt_of_lt_of_le LX.out bzD.size)
      replace gG := Lib.hid (gG.out.later bzD)
      replace gH := Lib.hid (gH.out.later bzD)
      replace GX := Lib.hid (GX.out.later bzD)
      replace TX := Lib.hid (TX.out.later bzD)
      replace BB := Lib.hid (BB.out.trans (bzD.mono BB.out.size))
      replace yA := Lib.hid (Nat.le_trans yA.out bzD.size)
      clear bzD hzD
      refine tk 0 (v := ?_) ?_ ?_; rotate_left
      · refine Or.inl ⟨by rfl, ?_⟩; intro w hSw; obtain ⟨⟨hS0, hS1⟩, hS2, hS3, hS4, hS5, hS6⟩ := hSw; go_simp; first | done | with_reducible rfl
      refine tk 1 (v := ?_) ?_ ?_; rotate_left
      · refine Or.inl ⟨by rfl, ?_⟩; intro w hSw; obtain ⟨⟨hS0, hS1⟩, hS2, hS3, hS4, hS5, hS6⟩ := hSw; go_simp; first | done | with_reducible rfl
      refine wpAnyH_ready (rs := [2, 8]) (by kernel_rfl) (by simp) ?_
      refine AllReadyH.cons rfl (fun K hK => ?_) (AllReadyH.cons rfl (fun K hK => ?_) (AllReadyH.nil))
      · go_simp
        go_at_call 16
        have hti := to_op x zD
        unfold rqA at hti
        refine hti.mono ?_
        rintro e z14 ⟨rfl, bz14⟩
        clear hti
        replace BA := Lib.hid (BA.out.trans (bz14.mono BA.out.size))
        replace KP := Lib.hid ((bz14.block _ LP.out).trans KP.out)
        replace LP := Lib.hid (Nat.lt_of_lt_of_le LP.out bz14.size)
        replace KQ := Lib.hid ((bz14.block _ LQ.out).trans KQ.out)
        replace LQ := Lib.hid (Nat.lt_of_lt_of_le LQ.out bz14.size)
        replace Kg := Lib.hid ((bz14.block _ Lg.out).trans Kg.out)
        replace Lg := Lib.hid (Nat.lt_of_lt_of_le Lg.out bz14.size)
        replace KX := Lib.hid ((bz14.block _ LX.out).trans KX.out)
        replace LX := Lib.hid (Nat.lt_of_lt_of_le LX.out bz14.size)
        replace gG := Lib.hid (gG.out.later bz14)
        replace gH := Lib.hid (gH.out.later bz14)
        replace GX := Lib.hid (GX.out.later bz14)
        replace TX := Lib.hid (TX.out.later bz14)
        replace BB := Lib.hid (BB.out.trans (bz14.mono BB.out.size))
        replace yA := Lib.hid (Nat.le_trans yA.out bz14.size)
        clear bz14
        go_wp2_with fail
        refine hK.out _ _ (HSS.out _ KX.out KQ.out) (fun hHeld => ?_)
        clear hK K
        try simp only [getElem_toArray, getElem_cons_zero, getElem_cons_succ, Act.put, setIfInBounds_toArray, set_cons_zero, set_cons_succ]
        refine wpAnyH_ready (rs := [3, 8]) (by kernel_rfl) (by simp) ?_
        refine AllReadyH.cons rfl (fun K hK => ?_) (AllReadyH.cons rfl (fun K hK => ?_) (AllReadyH.nil))
        · go_simp
          have hc := impl_apply s _ x z14.heap.size z14 (st_parts GX.out TX.out) (Nat.le_refl _) Hfew.out Hfit.out Hx.out (HE.out.on BB.out)
          rw [← Hr.out, ← Hrp.out, ← Hre.out] at hc
          unfold rqA at hc
          go_at_call 17
          refine hc.mono ?_
          rintro e z15 ⟨_, rfl, kho, bz15⟩
          clear hc
          obtain ⟨_, _, kgi, kci, kgt, kct, rfl, khne, ⟨kai, rfl, ksai⟩, ⟨kat, rfl, ksat⟩, kgW, ktW⟩ := kho
          have kG := Lib.hid (kgW.base yA.out)
          have kH := Lib.hid (ktW.base yA.out)
          have kSI : Hid (NilOr kai kgi r.items.length kci) := Lib.hid ksai
          have kST : Hid (NilOr kat kgt r.talks.length kct) := Lib.hid ksat
          clear ksai ksat
          have yN : Hid (kgi ≠ kgt) := Lib.hid khne
          replace BA := Lib.hid (BA.out.trans (bz15.mono BA.out.size))
          replace KP := Lib.hid ((bz15.block _ LP.out).trans KP.out)
          replace LP := Lib.hid (Nat.lt_of_lt_of_le LP.out bz15.size)
          replace KQ := Lib.hid ((bz15.block _ LQ.out).trans KQ.out)
          replace LQ := Lib.hid (Nat.lt_of_lt_of_le LQ.out bz15.size)
          replace Kg := Lib.hid ((bz15.block _ Lg.out).trans Kg.out)
          replace Lg := Lib.hid (Nat.lt_of_lt_of_le Lg.out bz15.size)
          replace KX := Lib.hid ((bz15.block _ LX.out).trans KX.out)
          replace LX := Lib.hid (Nat.lt_of_lt_of_le LX.out bz15.size)
          replace gG := Lib.hid (gG.out.later bz15)
          replace gH := Lib.hid (gH.out.later bz15)
          replace GX := Lib.hid (GX.out.later bz15)
          replace TX := Lib.hid (TX.out.later bz15)
          replace BB := Lib.hid (BB.out.trans (bz15.mono BB.out.size))
          replace yA := Lib.hid (Nat.le_trans yA.out bz15.size)
          clear kgW ktW bz15 khne
          go_wp2_with fail
          refine hK.out _ _ (HSS.out _ KX.out KQ.out) (fun hHeld => ?_)
          clear hK K
          try simp only [getElem_toArray, getElem_cons_zero, getElem_cons_succ, Act.put, setIfInBounds_toArray, set_cons_zero, set_cons_succ]
          refine tk0 4 ?_
          refine tk0 5 ?_
          refine tk0 6 ?_
          refine tk0 7 ?_
          refine wpAnyH_ready (rs := [8]) (by kernel_rfl) (by simp) ?_
          refine AllReadyH.cons rfl (fun K hK => ?_) (AllReadyH.nil)
          go_simp
          obtain ⟨z16, hz16⟩ : ∃ z, z = z15.alloc (.cells #[.slice none 0 0, .slice none 0 0] 27) := ⟨_, rfl⟩
          rw [← hz16]
          have bz16 : Below z15.heap.size z15 z16 := by rw [hz16]; exact (Below.refl _ _).alloc (Nat.le_refl _) _
          have sz16 : Hid (z16.heap.size = z15.heap.size + 1) := Lib.hid (by rw [hz16]; simp)
          have yB : Hid (X2.heap.size ≤ z15.heap.size) := yA
          have yE : Hid (kgi ≠ z15.heap.size ∧ kgt ≠ z15.heap.size) := Lib.hid ⟨by have := kG.out.2.2.2.2.1; omega, by have := kH.out.2.2.2.2.1; omega⟩
          replace BA := Lib.hid (BA.out.trans (bz16.mono BA.out.size))
          replace KP := Lib.hid ((bz16.block _ LP.out).trans KP.out)
          replace LP := Lib.hid (Nat.lt_of_lt_of_le LP.out bz16.size)
          replace KQ := Lib.hid ((bz16.block _ LQ.out).trans KQ.out)
          replace LQ := Lib.hid (Nat.lt_of_lt_of_le LQ.out bz16.size)
          replace Kg := Lib.hid ((bz16.block _ Lg.out).trans Kg.out)
          replace Lg := Lib.hid (Nat.lt_of_lt_of_le Lg.out bz16.size)
          replace KX := Lib.hid ((bz16.block _ LX.out).trans KX.out)
          replace LX := Lib.hid (Nat.lt_of_lt_of_le LX.out bz16.size)
          replace gG := Lib.hid (gG.out.later bz16)
          replace gH := Lib.hid (gH.out.later bz16)
          replace GX := Lib.hid (GX.out.later bz16)
          replace TX := Lib.hid (TX.out.later bz16)
          replace kG := Lib.hid (kG.out.later bz16)
          replace kH := Lib.hid (kH.out.later bz16)
          replace BB := Lib.hid (BB.out.trans (bz16.mono BB.out.size))
          replace yA := Lib.hid (Nat.le_trans yA.out bz16.size)
          have KB : Hid (z16.heap[z15.heap.size]? = some (.cells #[.slice none 0 0, .slice none 0 0] 27 (0, 0))) := Lib.hid (by rw [hz16]; exact heap_new _ _)
          have LB : Hid (z15.heap.size < z16.heap.size) := Lib.hid (by have := sz16.out; omega)
          clear bz16 hz16
          refine hK.out _ _ (HSS.out _ KX.out KQ.out) (fun hHeld => ?_)
          clear hK K
          try simp only [getElem_toArray, getElem_cons_zero, getElem_cons_succ, Act.put, setIfInBounds_toArray, set_cons_zero, set_cons_succ]
          have dB0 := cell_of_row z16 _ 0 _ _ _ KB.out
          have zB0 := frozen_of_row z16 _ 0 _ _ KB.out
          have dB1 := cell_of_row z16 _ 1 _ _ _ KB.out
          have zB1 := frozen_of_row z16 _ 1 _ _ KB.out
          simp only [List.getElem?_toArray, List.getElem?_cons_zero, List.getElem?_cons_succ] at dB0 dB1
          refine wpAnyH_ready (rs := [9]) (by kernel_rfl) (by simp) ?_
          refine AllReadyH.cons rfl (fun K hK => ?_) (AllReadyH.nil)
          go_simp
          obtain ⟨Y, hY⟩ : ∃ Y, Y = (z16.setCell ⟨z15.heap.size, 0, none⟩ (.slice kai r.items.length kci)).setCell ⟨z15.heap.size, 1, none⟩ (.slice kat r.talks.length kct) := ⟨_, rfl⟩
          rw [← hY]
          have f1 := heap_setCell_same _ (z15.heap.size) 0 _ _ (.slice kai r.items.length kci) KB.out
          have f2 := heap_setCell_same _ (z15.heap.size) 1 _ _ (.slice kat r.talks.length kct) f1
          rw [← hY] at f2
          have gY : z16.grownBy Y (some (z15.heap.size)) := by rw [hY]; exact (grown_set _ ⟨z15.heap.size, 0, none⟩ _).trans (grown_set _ ⟨z15.heap.size, 1, none⟩ _)
          clear dB0 dB1 zB0 zB1 hY f1
          simp only [List.setIfInBounds_toArray, List.set_cons_zero, List.set_cons_succ] at f2
          have F2 := Lib.hid f2
          replace BA := Lib.hid (BA.out.grown gY BA.out.size (fun k hk => by cases hk; exact yB.out))
          have LY : Hid (z15.heap.size < Y.heap.size) := Lib.hid (Nat.lt_of_lt_of_le LB.out gY.size)
          replace kG := Lib.hid (kG.out.grown gY (by have := yE.out; omega))
          replace kH := Lib.hid (kH.out.grown gY (by have := yE.out; omega))
          have KXy := Lib.hid ((gY.block _ LX.out (by simp; have := yB.out; have := LAX.out; omega)).trans KX.out)
          have KQy := Lib.hid ((gY.block _ LQ.out (by simp; have := yB.out; have := LAQ.out; omega)).trans KQ.out)
          refine hK.out _ _ (HSS.out _ KXy.out KQy.out) (fun hHeld => ?_)
          clear hK K gY f2
          try simp only [getElem_toArray, getElem_cons_zero, getElem_cons_succ, Act.put, setIfInBounds_toArray, set_cons_zero, set_cons_succ]
          refine tk0 10 ?_
          refine tk0 11 ?_
          refine wpAnyH_done (by kernel_rfl) ?_ _
          clear hHeld
          go_wp2_with fail
          go_meet
          exact ⟨z15.heap.size, kgi, kci, kgt, kct, _, _, rfl, rfl, rfl, F2, kG, kH, BA, Lib.hid ⟨yB.out, LY.out, fun h => yE.out.1 h.symm, fun h => yE.out.2 h.symm, yN.out⟩, kSI, kST⟩
        · go_simp
          obtain ⟨z17, hz17⟩ : ∃ z, z = z14.alloc (.cells #[.slice none 0 0, .slice none 0 0] 27) := ⟨_, rfl⟩
          rw [← hz17]
          have bz17 : Below z14.heap.size z14 z17 := by rw [hz17]; exact (Below.refl _ _).alloc (Nat.le_refl _) _
          have sz17 : Hid (z17.heap.size = z14.heap.size + 1) := Lib.hid (by rw [hz17]; simp)
          have yB : Hid (X2.heap.size ≤ z14.heap.size) := yA
          replace BA := Lib.hid (BA.out.trans (bz17.mono BA.out.size))
          replace KP := Lib.hid ((bz17.block _ LP.out).trans KP.out)
          replace LP := Lib.hid (Nat.lt_of_lt_of_le LP.out bz17.size)
          replace KQ := Lib.hid ((bz17.block _ LQ.out).trans KQ.out)
          replace LQ := Lib.hid (Nat.lt_of_lt_of_le LQ.out bz17.size)
          replace Kg := Lib.hid ((bz17.block _ Lg.out).trans Kg.out)
          replace Lg := Lib.hid (Nat.lt_of_lt_of_le Lg.out bz17.size)
          replace KX := Lib.hid ((bz17.block _ LX.out).trans KX.out)
          replace LX := Lib.hid (Nat.lt_of_lt_of_le LX.out bz17.size)
          replace gG := Lib.hid (gG.out.later bz17)
          replace gH := Lib.hid (gH.out.later bz17)
          replace GX := Lib.hid (GX.out.later bz17)
          replace TX := Lib.hid (TX.out.later bz17)
          replace BB := Lib.hid (BB.out.trans (bz17.mono BB.out.size))
          replace yA := Lib.hid (Nat.le_trans yA.out bz17.size)
          have KB : Hid (z17.heap[z14.heap.size]? = some (.cells #[.slice none 0 0, .slice none 0 0] 27 (0, 0))) := Lib.hid (by rw [hz17]; exact heap_new _ _)
          have LB : Hid (z14.heap.size < z17.heap.size) := Lib.hid (by have := sz17.out; omega)
          clear bz17 hz17
          refine hK.out _ _ (HSS.out _ KX.out KQ.out) (fun hHeld => ?_)
          clear hK K
          try simp only [getElem_toArray, getElem_cons_zero, getElem_cons_succ, Act.put, setIfInBounds_toArray, set_cons_zero, set_cons_succ]
          refine wpAnyH_ready (rs := [3]) (by kernel_rfl) (by simp) ?_
          refine AllReadyH.cons rfl (fun K hK => ?_) (AllReadyH.nil)
          go_simp
          have hc := impl_apply s _ x z17.heap.size z17 (st_parts GX.out TX.out) (Nat.le_refl _) Hfew.out Hfit.out Hx.out (HE.out.on BB.out)
          rw [← Hr.out, ← Hrp.out, ← Hre.out] at hc
          unfold rqA at hc
          go_at_call 17
          refine hc.mono ?_
          rintro e z18 ⟨_, rfl, kho, bz18⟩
          clear hc
          obtain ⟨_, _, kgi, kci, kgt, kct, rfl, khne, ⟨kai, rfl, ksai⟩, ⟨kat, rfl, ksat⟩, kgW, ktW⟩ := kho
          have kG := Lib.hid (kgW.base yA.out)
          have kH := Lib.hid (ktW.base yA.out)
          have yE : Hid (kgi ≠ z14.heap.size ∧ kgt ≠ z14.heap.size) := Lib.hid ⟨by have := kgW.2.2.2.1; have := LB.out; omega, by have := ktW.2.2.2.1; have := LB.out; omega⟩
          have kSI : Hid (NilOr kai kgi r.items.length kci) := Lib.hid ksai
          have kST : Hid (NilOr kat kgt r.talks.length kct) := Lib.hid ksat
          clear ksai ksat
          have yN : Hid (kgi ≠ kgt) := Lib.hid khne
          replace BA := Lib.hid (BA.out.trans (bz18.mono BA.out.size))
          replace KP := Lib.hid ((bz18.block _ LP.out).trans KP.out)
          replace LP := Lib.hid (Nat.lt_of_lt_of_le LP.out bz18.size)
          replace KQ := Lib.hid ((bz18.block _ LQ.out).trans KQ.out)
          replace LQ := Lib.hid (Nat.lt_of_lt_of_le LQ.out bz18.size)
          replace Kg := Lib.hid ((bz18.block _ Lg.out).trans Kg.out)
          replace Lg := Lib.hid (Nat.lt_of_lt_of_le Lg.out bz18.size)
          replace KX := Lib.hid ((bz18.block _ LX.out).trans KX.out)
          replace LX := Lib.hid (Nat.lt_of_lt_of_le LX.out bz18.size)
          replace KB := Lib.hid ((bz18.block _ LB.out).trans KB.out)
          replace LB := Lib.hid (Nat.lt_of_lt_of_le LB.out bz18.size)
          replace gG := Lib.hid (gG.out.later bz18)
          replace gH := Lib.hid (gH.out.later bz18)
          replace GX := Lib.hid (GX.out.later bz18)
          replace TX := Lib.hid (TX.out.later bz18)
          replace BB := Lib.hid (BB.out.trans (bz18.mono BB.out.size))
          replace yA := Lib.hid (Nat.le_trans yA.out bz18.size)
          clear kgW ktW bz18 khne
          go_wp2_with fail
          refine hK.out _ _ (HSS.out _ KX.out KQ.out) (fun hHeld => ?_)
          clear hK K
          try simp only [getElem_toArray, getElem_cons_zero, getElem_cons_succ, Act.put, setIfInBounds_toArray, set_cons_zero, set_cons_succ]
          refine tk0 4 ?_
          refine tk0 5 ?_
          refine tk0 6 ?_
          refine tk0 7 ?_
          have dB0 := cell_of_row z18 _ 0 _ _ _ KB.out
          have zB0 := frozen_of_row z18 _ 0 _ _ KB.out
          have dB1 := cell_of_row z18 _ 1 _ _ _ KB.out
          have zB1 := frozen_of_row z18 _ 1 _ _ KB.out
          simp only [List.getElem?_toArray, List.getElem?_cons_zero, List.getElem?_cons_succ] at dB0 dB1
          refine wpAnyH_ready (rs := [9]) (by kernel_rfl) (by simp) ?_
          refine AllReadyH.cons rfl (fun K hK => ?_) (AllReadyH.nil)
          go_simp
          obtain ⟨Y, hY⟩ : ∃ Y, Y = (z18.setCell ⟨z14.heap.size, 0, none⟩ (.slice kai r.items.length kci)).setCell ⟨z14.heap.size, 1, none⟩ (.slice kat r.talks.length kct) := ⟨_, rfl⟩
          rw [← hY]
          have f1 := heap_setCell_same _ (z14.heap.size) 0 _ _ (.slice kai r.items.length kci) KB.out
          have f2 := heap_setCell_same _ (z14.heap.size) 1 _ _ (.slice kat r.talks.length kct) f1
          rw [← hY] at f2
          have gY : z18.grownBy Y (some (z14.heap.size)) := by rw [hY]; exact (grown_set _ ⟨z14.heap.size, 0, none⟩ _).trans (grown_set _ ⟨z14.heap.size, 1, none⟩ _)
          clear dB0 dB1 zB0 zB1 hY f1
          simp only [List.setIfInBounds_toArray, List.set_cons_zero, List.set_cons_succ] at f2
          have F2 := Lib.hid f2
          replace BA := Lib.hid (BA.out.grown gY BA.out.size (fun k hk => by cases hk; exact yB.out))
          have LY : Hid (z14.heap.size < Y.heap.size) := Lib.hid (Nat.lt_of_lt_of_le LB.out gY.size)
          replace kG := Lib.hid (kG.out.grown gY (by have := yE.out; omega))
          replace kH := Lib.hid (kH.out.grown gY (by have := yE.out; omega))
          have KXy := Lib.hid ((gY.block _ LX.out (by simp; have := yB.out; have := LAX.out; omega)).trans KX.out)
          have KQy := Lib.hid ((gY.block _ LQ.out (by simp; have := yB.out; have := LAQ.out; omega)).trans KQ.out)
          refine hK.out _ _ (HSS.out _ KXy.out KQy.out) (fun hHeld => ?_)
          clear hK K gY f2
          try simp only [getElem_toArray, getElem_cons_zero, getElem_cons_succ, Act.put, setIfInBounds_toArray, set_cons_zero, set_cons_succ]
          refine tk0 10 ?_
          refine tk0 11 ?_
          refine wpAnyH_done (by kernel_rfl) ?_ _
          clear hHeld
          go_wp2_with fail
          go_meet
          exact ⟨z14.heap.size, kgi, kci, kgt, kct, _, _, rfl, rfl, rfl, F2, kG, kH, BA, Lib.hid ⟨yB.out, LY.out, fun h => yE.out.1 h.symm, fun h => yE.out.2 h.symm, yN.out⟩, kSI, kST⟩
      · go_simp
        obtain ⟨z19, hz19⟩ : ∃ z, z = zD.alloc (.cells #[.slice none 0 0, .slice none 0 0] 27) := ⟨_, rfl⟩
        rw [← hz19]
        have bz19 : Below zD.heap.size zD z19 := by rw [hz19]; exact (Below.refl _ _).alloc (Nat.le_refl _) _
        have sz19 : Hid (z19.heap.size = zD.heap.size + 1) := Lib.hid (by rw [hz19]; simp)
        have yB : Hid (X2.heap.size ≤ zD.heap.size) := yA
        replace BA := Lib.hid (BA.out.trans (bz19.mono BA.out.size))
        replace KP := Lib.hid ((bz19.block _ LP.out).trans KP.out)
        replace LP := Lib.hid (Nat.lt_of_lt_of_le LP.out bz19.size)
        replace KQ := Lib.hid ((bz19.block _ LQ.out).trans KQ.out)
        replace LQ := Lib.hid (Nat.lt_of_lt_of_le LQ.out bz19.size)
        replace Kg := Lib.hid ((bz19.block _ Lg.out).trans Kg.out)
        replace Lg := Lib.hid (Nat.lt_of_lt_of_le Lg.out bz19.size)
        replace KX := Lib.hid ((bz19.block _ LX.out).trans KX.out)
        replace LX := Lib.hid (Nat.lt_of_lt_of_le LX.out bz19.size)
        replace gG := Lib.hid (gG.out.later bz19)
        replace gH := Lib.hid (gH.out.later bz19)
        replace GX := Lib.hid (GX.out.later bz19)
        replace TX := Lib.hid (TX.out.later bz19)
        replace BB := Lib.hid (BB.out.trans (bz19.mono BB.out.size))
        replace yA := Lib.hid (Nat.le_trans yA.out bz19.size)
        have KB : Hid (z19.heap[zD.heap.size]? = some (.cells #[.slice none 0 0, .slice none 0 0] 27 (0, 0))) := Lib.hid (by rw [hz19]; exact heap_new _ _)
        have LB : Hid (zD.heap.size < z19.heap.size) := Lib.hid (by have := sz19.out; omega)
        clear bz19 hz19
        refine hK.out _ _ (HSS.out _ KX.out KQ.out) (fun hHeld => ?_)
        clear hK K
        try simp only [getElem_toArray, getElem_cons_zero, getElem_cons_succ, Act.put, setIfInBounds_toArray, set_cons_zero, set_cons_succ]
        refine wpAnyH_ready (rs := [2]) (by kernel_rfl) (by simp) ?_
        refine AllReadyH.cons rfl (fun K hK => ?_) (AllReadyH.nil)
        go_simp
        go_at_call 16
        have hti := to_op x z19
        unfold rqA at hti
        refine hti.mono ?_
        rintro e z20 ⟨rfl, bz20⟩
        clear hti
        replace BA := Lib.hid (BA.out.trans (bz20.mono BA.out.size))
        replace KP := Lib.hid ((bz20.block _ LP.out).trans KP.out)
        replace LP := Lib.hid (Nat.lt_of_lt_of_le LP.out bz20.size)
        replace KQ := Lib.hid ((bz20.block _ LQ.out).trans KQ.out)
        replace LQ := Lib.hid (Nat.lt_of_lt_of_le LQ.out bz20.size)
        replace Kg := Lib.hid ((bz20.block _ Lg.out).trans Kg.out)
        replace Lg := Lib.hid (Nat.lt_of_lt_of_le Lg.out bz20.size)
        replace KX := Lib.hid ((bz20.block _ LX.out).trans KX.out)
        replace LX := Lib.hid (Nat.lt_of_lt_of_le LX.out bz20.size)
        replace KB := Lib.hid ((bz20.block _ LB.out).trans KB.out)
        replace LB := Lib.hid (Nat.lt_of_lt_of_le LB.out bz20.size)
        replace gG := Lib.hid (gG.out.later bz20)
        replace gH := Lib.hid (gH.out.later bz20)
        replace GX := Lib.hid (GX.out.later bz20)
        replace TX := Lib.hid (TX.out.later bz20)
        replace BB := Lib.hid (BB.out.trans (bz20.mono BB.out.size))
        replace yA := Lib.hid (Nat.le_trans yA.out bz20.size)
        clear bz20
        go_wp2_with fail
        refine hK.out _ _ (HSS.out _ KX.out KQ.out) (fun hHeld => ?_)
        clear hK K
        try simp only [getElem_toArray, getElem_cons_zero, getElem_cons_succ, Act.put, setIfInBounds_toArray, set_cons_zero, set_cons_succ]
        refine wpAnyH_ready (rs := [3]) (by kernel_rfl) (by simp) ?_
        refine AllReadyH.cons rfl (fun K hK => ?_) (AllReadyH.nil)
        go_simp
        have hc := impl_apply s _ x z20.heap.size z20 (st_parts GX.out TX.out) (Nat.le_refl _) Hfew.out Hfit.out Hx.out (HE.out.on BB.out)
        rw [← Hr.out, ← Hrp.out, ← Hre.out] at hc
        unfold rqA at hc
        go_at_call 17
        refine hc.mono ?_
        rintro e z21 ⟨_, rfl, kho, bz21⟩
        clear hc
        obtain ⟨_, _, kgi, kci, kgt, kct, rfl, khne, ⟨kai, rfl, ksai⟩, ⟨kat, rfl, ksat⟩, kgW, ktW⟩ := kho
        have kG := Lib.hid (kgW.base yA.out)
        have kH := Lib.hid (ktW.base yA.out)
        have yE : Hid (kgi ≠ zD.heap.size ∧ kgt ≠ zD.heap.size) := Lib.hid ⟨by have := kgW.2.2.2.1; have := LB.out; omega, by have := ktW.2.2.2.1; have := LB.out; omega⟩
        have kSI : Hid (NilOr kai kgi r.items.length kci) := Lib.hid ksai
        have kST : Hid (NilOr kat kgt r.talks.length kct) := Lib.hid ksat
        clear ksai ksat
        have yN : Hid (kgi ≠ kgt) := Lib.hid khne
        replace BA := Lib.hid (BA.out.trans (bz21.mono BA.out.size))
        replace KP := Lib.hid ((bz21.block _ LP.out).trans KP.out)
        replace LP := Lib.hid (Nat.lt_of_lt_of_le LP.out bz21.size)
        replace KQ := Lib.hid ((bz21.block _ LQ.out).trans KQ.out)
        replace LQ := Lib.hid (Nat.lt_of_lt_of_le LQ.out bz21.size)
        replace Kg := Lib.hid ((bz21.block _ Lg.out).trans Kg.out)
        replace Lg := Lib.hid (Nat.lt_of_lt_of_le Lg.out bz21.size)
        replace KX := Lib.hid ((bz21.block _ LX.out).trans KX.out)
        replace LX := Lib.hid (Nat.lt_of_lt_of_le LX.out bz21.size)
        replace KB := Lib.hid ((bz21.block _ LB.out).trans KB.out)
        replace LB := Lib.hid (Nat.lt_of_lt_of_le LB.out bz21.size)
        replace gG := Lib.hid (gG.out.later bz21)
        replace gH := Lib.hid (gH.out.later bz21)
        replace GX := Lib.hid (GX.out.later bz21)
        replace TX := Lib.hid (TX.out.later bz21)
        replace BB := Lib.hid (BB.out.trans (bz21.mono BB.out.size))
        replace yA := Lib.hid (Nat.le_trans yA.out bz21.size)
        clear kgW ktW bz21 khne
        go_wp2_with fail
        refine hK.out _ _ (HSS.out _ KX.out KQ.out) (fun hHeld => ?_)
        clear hK K
        try simp only [getElem_toArray, getElem_cons_zero, getElem_cons_succ, Act.put, setIfInBounds_toArray, set_cons_zero, set_cons_succ]
        refine tk0 4 ?_
        refine tk0 5 ?_
        refine tk0 6 ?_
        refine tk0 7 ?_
        have dB0 := cell_of_row z21 _ 0 _ _ _ KB.out
        have zB0 := frozen_of_row z21 _ 0 _ _ KB.out
        have dB1 := cell_of_row z21 _ 1 _ _ _ KB.out
        have zB1 := frozen_of_row z21 _ 1 _ _ KB.out
        simp only [List.getElem?_toArray, List.getElem?_cons_zero, List.getElem?_cons_succ] at dB0 dB1
        refine wpAnyH_ready (rs := [9]) (by kernel_rfl) (by simp) ?_
        refine AllReadyH.cons rfl (fun K hK => ?_) (AllReadyH.nil)
        go_simp
        obtain ⟨Y, hY⟩ : ∃ Y, Y = (z21.setCell ⟨zD.heap.size, 0, none⟩ (.slice kai r.items.length kci)).setCell ⟨zD.heap.size, 1, none⟩ (.slice kat r.talks.length kct) := ⟨_, rfl⟩
        rw [← hY]
        have f1 := heap_setCell_same _ (zD.heap.size) 0 _ _ (.slice kai r.items.length kci) KB.out
        have f2 := heap_setCell_same _ (zD.heap.size) 1 _ _ (.slice kat r.talks.length kct) f1
        rw [← hY] at f2
        have gY : z21.grownBy Y (some (zD.heap.size)) := by rw [hY]; exact (grown_set _ ⟨zD.heap.size, 0, none⟩ _).trans (grown_set _ ⟨zD.heap.size, 1, none⟩ _)
        clear dB0 dB1 zB0 zB1 hY f1
        simp only [List.setIfInBounds_toArray, List.set_cons_zero, List.set_cons_succ] at f2
        have F2 := Lib.hid f2
        replace BA := Lib.hid (BA.out.grown gY BA.out.size (fun k hk => by cases hk; exact yB.out))
        have LY : Hid (zD.heap.size < Y.heap.size) := Lib.hid (Nat.lt_of_lt_of_le LB.out gY.size)
        replace kG := Lib.hid (kG.out.grown gY (by have := yE.out; omega))
        replace kH := Lib.hid (kH.out.grown gY (by have := yE.out; omega))
        have KXy := Lib.hid ((gY.block _ LX.out (by simp; have := yB.out; have := LAX.out; omega)).trans KX.out)
        have KQy := Lib.hid ((gY.block _ LQ.out (by simp; have := yB.out; have := LAQ.out; omega)).trans KQ.out)
        refine hK.out _ _ (HSS.out _ KXy.out KQy.out) (fun hHeld => ?_)
        clear hK K gY f2
        try simp only [getElem_toArray, getElem_cons_zero, getElem_cons_succ, Act.put, setIfInBounds_toArray, set_cons_zero, set_cons_succ]
        refine tk0 10 ?_
        refine tk0 11 ?_
        refine wpAnyH_done (by kernel_rfl) ?_ _
        clear hHeld
        go_wp2_with fail
        go_meet
        exact ⟨zD.heap.size, kgi, kci, kgt, kct, _, _, rfl, rfl, rfl, F2, kG, kH, BA, Lib.hid ⟨yB.out, LY.out, fun h => yE.out.1 h.symm, fun h => yE.out.2 h.symm, yN.out⟩, kSI, kST⟩
    case rest =>
      obtain ⟨kb, kgi, kci, kgt, kct, kai, kat, rfl, rfl, rfl, Kk, kG, kH, bA, Nk, kSI, kST⟩ := hcut
      obtain ⟨wk, rfl⟩ : ∃ z, z = wc := ⟨_, rfl⟩
      have ywk : Hid (X2.heap.size ≤ wk.heap.size) := Lib.hid bA.out.size
      replace KP := Lib.hid ((bA.out.block _ LP.out).trans KP.out)
      replace LP := Lib.hid (Nat.lt_of_lt_of_le LP.out bA.out.size)
      replace KQ := Lib.hid ((bA.out.block _ LQ.out).trans KQ.out)
      replace LQ := Lib.hid (Nat.lt_of_lt_of_le LQ.out bA.out.size)
      replace Kg := Lib.hid ((bA.out.block _ Lg.out).trans Kg.out)
      replace Lg := Lib.hid (Nat.lt_of_lt_of_le Lg.out bA.out.size)
      replace KX := Lib.hid ((bA.out.block _ LX.out).trans KX.out)
      replace LX := Lib.hid (Nat.lt_of_lt_of_le LX.out bA.out.size)
      replace gG := Lib.hid (gG.out.later bA.out)
      replace gH := Lib.hid (gH.out.later bA.out)
      replace GX := Lib.hid (GX.out.later bA.out)
      replace TX := Lib.hid (TX.out.later bA.out)
      replace BB := Lib.hid (BB.out.trans (bA.out.mono BB.out.size))
      have Mk : Hid (kgi < wk.heap.size ∧ kgt < wk.heap.size ∧ X2.heap.size ≤ kgi ∧ X2.heap.size ≤ kgt) := Lib.hid ⟨kG.out.2.2.2.2.1, kH.out.2.2.2.2.1, kG.out.2.2.2.1, kH.out.2.2.2.1⟩
      have Lk : Hid (kb < wk.heap.size) := Lib.hid Nk.out.2.1
      clear bA
      have ORD : Hid (w.heap.size + 1 < w2.heap.size ∧ w2.heap.size ≤ gb ∧ w2.heap.size ≤ ggi ∧ w2.heap.size ≤ ggt ∧ gb < wg.heap.size ∧ ggi < wg.heap.size ∧ ggt < wg.heap.size ∧ wg.heap.size ≤ xi ∧ wg.heap.size ≤ xt ∧ xi < w4.heap.size ∧ xt < w4.heap.size ∧ xi ≠ xt ∧ w4.heap.size < X2.heap.size ∧ X2.heap.size ≤ kb ∧ X2.heap.size ≤ kgi ∧ X2.heap.size ≤ kgt ∧ kb ≠ kgi ∧ kb ≠ kgt ∧ kgi ≠ kgt ∧ kb < wk.heap.size) := Lib.hid (by
        have h1 := Ng.out; have h2 := Mg.out; have h3 := N4.out; have h4 := N5.out; have h5 := Nk.out; have h6 := Mk.out; have h7 := HWlt.out; have h8 := yW2.out
        omega)
      clear Ng Mg N4 N5 N4a Nk Mk yW yW2 HWlt ywg ywk hneg hneg2 hq0 hr0 hr1 hr3 hr4
      have KW := Kg
      have LW := Lg
      have KG := Kk
      have LG := Lk
      have GW := gG
      have TW := gH
      have GG := kG
      have TG := kH
      clear Kg Lg Kk Lk gG gH kG kH
      have hc5 := eq_state r _ _ wk.heap.size wk (rd_parts kSI.out kST.out GG.out TG.out) (rd_parts gSI.out gST.out GW.out TW.out) (Nat.le_refl _)
      have fG0 := cell_of_row wk _ 0 _ _ _ KG.out
      have fG1 := cell_of_row wk _ 1 _ _ _ KG.out
      simp only [List.getElem?_toArray, List.getElem?_cons_zero, List.getElem?_cons_succ] at fG0 fG1
      have fW0 := cell_of_row wk _ 0 _ _ _ KW.out
      have fW1 := cell_of_row wk _ 1 _ _ _ KW.out
      simp only [List.getElem?_toArray, List.getElem?_cons_zero, List.getElem?_cons_succ] at fW0 fW1
      go_wp2_with (go_at_call 18; refine hc5.mono ?_; rintro e w6 ⟨rfl, hb⟩; refine Hid.out ?_)
      refine Lib.hid ?_
      clear fG0 fG1 fW0 fW1
      replace KP := Lib.hid ((hb.block _ LP.out).trans KP.out)
      replace LP := Lib.hid (Nat.lt_of_lt_of_le LP.out hb.size)
      replace KQ := Lib.hid ((hb.block _ LQ.out).trans KQ.out)
      replace LQ := Lib.hid (Nat.lt_of_lt_of_le LQ.out hb.size)
      replace KW := Lib.hid ((hb.block _ LW.out).trans KW.out)
      replace LW := Lib.hid (Nat.lt_of_lt_of_le LW.out hb.size)
      replace KX := Lib.hid ((hb.block _ LX.out).trans KX.out)
      replace LX := Lib.hid (Nat.lt_of_lt_of_le LX.out hb.size)
      replace KG := Lib.hid ((hb.block _ LG.out).trans KG.out)
      replace LG := Lib.hid (Nat.lt_of_lt_of_le LG.out hb.size)
      replace GW := Lib.hid (GW.out.later hb)
      replace TW := Lib.hid (TW.out.later hb)
      replace GX := Lib.hid (GX.out.later hb)
      replace TX := Lib.hid (TX.out.later hb)
      replace GG := Lib.hid (GG.out.later hb)
      replace TG := Lib.hid (TG.out.later hb)
      replace BB := Lib.hid (BB.out.trans (hb.mono BB.out.size))
      clear hc5 hb
      have fX0 := cell_of_row w6 _ 0 _ _ _ KX.out
      have fX1 := cell_of_row w6 _ 1 _ _ _ KX.out
      simp only [List.getElem?_toArray, List.getElem?_cons_zero, List.getElem?_cons_succ] at fX0 fX1
      have fP0 := cell_of_row w6 _ 0 _ _ _ KP.out
      have fP1 := cell_of_row w6 _ 1 _ _ _ KP.out
      simp only [List.getElem?_toArray, List.getElem?_cons_zero, List.getElem?_cons_succ] at fP0 fP1
      go_wp2_with fail
      have b6 : Below w6.heap.size w6 w6.drew := (Below.refl _ _).drew
      refine wp_region_held_drew (S := (fun w' => w'.cell? ⟨w4.heap.size, 0, none⟩ = some (.slice (some ⟨xi, 0, none⟩) s.items.length s.items.length) ∧ w'.cell? ⟨w4.heap.size, 1, none⟩ = some (.slice (some ⟨xt, 0, none⟩) s.talks.length s.talks.length) ∧ w'.cell? ⟨w.heap.size, 0, none⟩ = some vi ∧ w'.cell? ⟨w.heap.size, 1, none⟩ = some vt)) (by kernel_rfl) ⟨fX0, fX1, fP0, fP1⟩ (fun hHeld => ?_)
      refine tk 0 (v := ?_) ?_ ?_; rotate_left
      · refine Or.inl ⟨by rfl, ?_⟩; intro w hSw; obtain ⟨hS0, hS1, hS2, hS3⟩ := hSw; go_simp; first | done | with_reducible rfl
      refine tk 1 (v := ?_) ?_ ?_; rotate_left
      · refine Or.inl ⟨by rfl, ?_⟩; intro w hSw; obtain ⟨hS0, hS1, hS2, hS3⟩ := hSw; go_simp; first | done | with_reducible rfl
      refine wpAnyH_ready (rs := [2]) (by kernel_rfl) (by simp) ?_
      refine AllReadyH.cons rfl (fun K hK => ?_) AllReadyH.nil
      go_simp
      go_at_call 15
      refine (to_state s _ w.heap.size _ (HR.out.later (BB.out.trans (b6.mono BB.out.size)) (Nat.le_refl _)) (Nat.le_trans BB.out.size b6.size) Hs.out).mono ?_
      rintro e w7 ⟨v7, rfl, ho7, hb7⟩
      have hb7' := b6.trans hb7
      replace KP := Lib.hid ((hb7'.block _ LP.out).trans KP.out)
      replace LP := Lib.hid (Nat.lt_of_lt_of_le LP.out hb7'.size)
      replace KQ := Lib.hid ((hb7'.block _ LQ.out).trans KQ.out)
      replace LQ := Lib.hid (Nat.lt_of_lt_of_le LQ.out hb7'.size)
      replace KW := Lib.hid ((hb7'.block _ LW.out).trans KW.out)
      replace LW := Lib.hid (Nat.lt_of_lt_of_le LW.out hb7'.size)
      replace KX := Lib.hid ((hb7'.block _ LX.out).trans KX.out)
      replace LX := Lib.hid (Nat.lt_of_lt_of_le LX.out hb7'.size)
      replace KG := Lib.hid ((hb7'.block _ LG.out).trans KG.out)
      replace LG := Lib.hid (Nat.lt_of_lt_of_le LG.out hb7'.size)
      replace GW := Lib.hid (GW.out.later hb7')
      replace TW := Lib.hid (TW.out.later hb7')
      replace GX := Lib.hid (GX.out.later hb7')
      replace TX := Lib.hid (TX.out.later hb7')
      replace GG := Lib.hid (GG.out.later hb7')
      replace TG := Lib.hid (TG.out.later hb7')
      replace BB := Lib.hid (BB.out.trans (hb7'.mono BB.out.size))
      have ST7 := Lib.hid (ho7.st Hs.out.lens.1 Hs.out.lens.2)
      have S7 : Hid (w7.cell? ⟨w4.heap.size, 0, none⟩ = some (.slice (some ⟨xi, 0, none⟩) s.items.length s.items.length) ∧ w7.cell? ⟨w4.heap.size, 1, none⟩ = some (.slice (some ⟨xt, 0, none⟩) s.talks.length s.talks.length) ∧ w7.cell? ⟨w.heap.size, 0, none⟩ = some vi ∧ w7.cell? ⟨w.heap.size, 1, none⟩ = some vt) := Lib.hid ⟨by simpa using cell_of_row w7 _ 0 _ _ _ KX.out, by simpa using cell_of_row w7 _ 1 _ _ _ KX.out, by simpa using cell_of_row w7 _ 0 _ _ _ KP.out, by simpa using cell_of_row w7 _ 1 _ _ _ KP.out⟩
      clear ho7 hb7 hb7'
      go_wp2_with fail
      refine hK.out _ _ (S7.out) (fun hHeld => ?_)
      clear hK K
      try simp only [getElem_toArray, getElem_cons_zero, getElem_cons_succ, Act.put, setIfInBounds_toArray, set_cons_zero, set_cons_succ]
      refine wpAnyH_ready (rs := [3]) (by kernel_rfl) (by simp) ?_
      refine AllReadyH.cons rfl (fun K hK => ?_) AllReadyH.nil
      go_simp
      go_at_call 18
      refine (eq_state s _ _ w7.heap.size w7 (rd_parts (.inl rfl) (.inl rfl) GX.out TX.out) ST7.out.rd (Nat.le_refl _)).mono ?_
      rintro e w8 ⟨rfl, hb8⟩
      replace KP := Lib.hid ((hb8.block _ LP.out).trans KP.out)
      replace LP := Lib.hid (Nat.lt_of_lt_of_le LP.out hb8.size)
      replace KQ := Lib.hid ((hb8.block _ LQ.out).trans KQ.out)
      replace LQ := Lib.hid (Nat.lt_of_lt_of_le LQ.out hb8.size)
      replace KW := Lib.hid ((hb8.block _ LW.out).trans KW.out)
      replace LW := Lib.hid (Nat.lt_of_lt_of_le LW.out hb8.size)
      replace KX := Lib.hid ((hb8.block _ LX.out).trans KX.out)
      replace LX := Lib.hid (Nat.lt_of_lt_of_le LX.out hb8.size)
      replace KG := Lib.hid ((hb8.block _ LG.out).trans KG.out)
      replace LG := Lib.hid (Nat.lt_of_lt_of_le LG.out hb8.size)
      replace GW := Lib.hid (GW.out.later hb8)
      replace TW := Lib.hid (TW.out.later hb8)
      replace GX := Lib.hid (GX.out.later hb8)
      replace TX := Lib.hid (TX.out.later hb8)
      replace GG := Lib.hid (GG.out.later hb8)
      replace TG := Lib.hid (TG.out.later hb8)
      replace BB := Lib.hid (BB.out.trans (hb8.mono BB.out.size))
      have S8 : Hid (w8.cell? ⟨w4.heap.size, 0, none⟩ = some (.slice (some ⟨xi, 0, none⟩) s.items.length s.items.length) ∧ w8.cell? ⟨w4.heap.size, 1, none⟩ = some (.slice (some ⟨xt, 0, none⟩) s.talks.length s.talks.length) ∧ w8.cell? ⟨w.heap.size, 0, none⟩ = some vi ∧ w8.cell? ⟨w.heap.size, 1, none⟩ = some vt) := Lib.hid ⟨by simpa using cell_of_row w8 _ 0 _ _ _ KX.out, by simpa using cell_of_row w8 _ 1 _ _ _ KX.out, by simpa using cell_of_row w8 _ 0 _ _ _ KP.out, by simpa using cell_of_row w8 _ 1 _ _ _ KP.out⟩
      clear hb8
      go_wp2_with fail
      refine hK.out _ _ (S8.out) (fun hHeld => ?_)
      clear hK K
      try simp only [getElem_toArray, getElem_cons_zero, getElem_cons_succ, Act.put, setIfInBounds_toArray, set_cons_zero, set_cons_succ]
      refine tk0 4 ?_
      refine wpAnyH_done (by kernel_rfl) ?_ _
      clear fX0 fX1 fP0 fP1
      clear hHeld S7 S8 ST7 b6
      have hms : 1 + 2 * s.items.length + 3 * s.talks.length ≤ 9223372036854775807 := by have := Hs.out; unfold Small at this; omega
      have hc9 := mark_stateN s.items.length s.talks.length 1 xi s.items.length xt s.talks.length wg.heap.size (some ⟨xi, 0, none⟩) (some ⟨xt, 0, none⟩) _ _ w8 (by omega) hms (by have := ORD.out; omega) (.inl rfl) (.inl rfl) GX.out TX.out
      obtain ⟨ms, hmS⟩ : ∃ m, m = 1 + 2 * s.items.length + 3 * s.talks.length := ⟨_, rfl⟩
      rw [← hmS] at hc9 hms
      clear hmS
      have fX0 := cell_of_row w8 _ 0 _ _ _ KX.out
      have fX1 := cell_of_row w8 _ 1 _ _ _ KX.out
      simp only [List.getElem?_toArray, List.getElem?_cons_zero, List.getElem?_cons_succ] at fX0 fX1
      go_wp2_with (go_at_call 19; refine hc9.mono ?_; rintro e w9 ⟨rfl, gX9, tX9, ho9⟩; refine Hid.out ?_)
      refine Lib.hid ?_
      clear fX0 fX1
      clear gX9 tX9 hc9 GX TX
      replace KP := Lib.hid ((ho9.block LP.out (by have := ORD.out; omega) (by have := ORD.out; omega)).trans KP.out)
      replace LP := Lib.hid (Nat.lt_of_lt_of_le LP.out ho9.size)
      replace KQ := Lib.hid ((ho9.block LQ.out (by have := ORD.out; omega) (by have := ORD.out; omega)).trans KQ.out)
      replace LQ := Lib.hid (Nat.lt_of_lt_of_le LQ.out ho9.size)
      replace KW := Lib.hid ((ho9.block LW.out (by have := ORD.out; omega) (by have := ORD.out; omega)).trans KW.out)
      replace LW := Lib.hid (Nat.lt_of_lt_of_le LW.out ho9.size)
      replace KX := Lib.hid ((ho9.block LX.out (by have := ORD.out; omega) (by have := ORD.out; omega)).trans KX.out)
      replace LX := Lib.hid (Nat.lt_of_lt_of_le LX.out ho9.size)
      replace KG := Lib.hid ((ho9.block LG.out (by have := ORD.out; omega) (by have := ORD.out; omega)).trans KG.out)
      replace LG := Lib.hid (Nat.lt_of_lt_of_le LG.out ho9.size)
      replace GW := Lib.hid (GW.out.off ho9 (by have := ORD.out; omega) (by have := ORD.out; omega))
      replace TW := Lib.hid (TW.out.off ho9 (by have := ORD.out; omega) (by have := ORD.out; omega))
      replace GG := Lib.hid (GG.out.off ho9 (by have := ORD.out; omega) (by have := ORD.out; omega))
      replace TG := Lib.hid (TG.out.off ho9 (by have := ORD.out; omega) (by have := ORD.out; omega))
      replace BB := Lib.hid (BB.out.trans (ho9.below (by have := ORD.out; omega) (by have := ORD.out; omega) BB.out.size))
      clear ho9
      have hc10 := eq_state r _ _ w9.heap.size w9 (rd_parts kSI.out kST.out GG.out TG.out) (rd_parts gSI.out gST.out GW.out TW.out) (Nat.le_refl _)
      have fG0 := cell_of_row w9 _ 0 _ _ _ KG.out
      have fG1 := cell_of_row w9 _ 1 _ _ _ KG.out
      simp only [List.getElem?_toArray, List.getElem?_cons_zero, List.getElem?_cons_succ] at fG0 fG1
      have fW0 := cell_of_row w9 _ 0 _ _ _ KW.out
      have fW1 := cell_of_row w9 _ 1 _ _ _ KW.out
      simp only [List.getElem?_toArray, List.getElem?_cons_zero, List.getElem?_cons_succ] at fW0 fW1
      go_wp2_with (go_at_call 18; refine hc10.mono ?_; rintro e w10 ⟨rfl, hb⟩; refine Hid.out ?_)
      refine Lib.hid ?_
      clear fG0 fG1 fW0 fW1
      replace KP := Lib.hid ((hb.block _ LP.out).trans KP.out)
      replace LP := Lib.hid (Nat.lt_of_lt_of_le LP.out hb.size)
      replace KQ := Lib.hid ((hb.block _ LQ.out).trans KQ.out)
      replace LQ := Lib.hid (Nat.lt_of_lt_of_le LQ.out hb.size)
      replace KW := Lib.hid ((hb.block _ LW.out).trans KW.out)
      replace LW := Lib.hid (Nat.lt_of_lt_of_le LW.out hb.size)
      replace KX := Lib.hid ((hb.block _ LX.out).trans KX.out)
      replace LX := Lib.hid (Nat.lt_of_lt_of_le LX.out hb.size)
      replace KG := Lib.hid ((hb.block _ LG.out).trans KG.out)
      replace LG := Lib.hid (Nat.lt_of_lt_of_le LG.out hb.size)
      replace GW := Lib.hid (GW.out.later hb)
      replace TW := Lib.hid (TW.out.later hb)
      replace GG := Lib.hid (GG.out.later hb)
      replace TG := Lib.hid (TG.out.later hb)
      replace BB := Lib.hid (BB.out.trans (hb.mono BB.out.size))
      clear hc10 hb
      clear hms
      have hmr : 1 + 2 * r.items.length + 3 * r.talks.length ≤ 9223372036854775807 := by have := Hsr.out; omega
      have hc11 := mark_stateN r.items.length r.talks.length 1 kgi kci kgt kct X2.heap.size kai kat _ _ w10 (by omega) hmr (by have := ORD.out; omega) kSI.out kST.out GG.out TG.out
      obtain ⟨mr, hmR⟩ : ∃ m, m = 1 + 2 * r.items.length + 3 * r.talks.length := ⟨_, rfl⟩
      have HmR := Lib.hid hmR
      rw [← hmR] at hc11 hmr
      clear hmR
      have fG0 := cell_of_row w10 _ 0 _ _ _ KG.out
      have fG1 := cell_of_row w10 _ 1 _ _ _ KG.out
      simp only [List.getElem?_toArray, List.getElem?_cons_zero, List.getElem?_cons_succ] at fG0 fG1
      go_wp2_with (go_at_call 19; refine hc11.mono ?_; rintro e w11 ⟨rfl, gG11, tG11, ho11⟩; refine Hid.out ?_)
      refine Lib.hid ?_
      clear fG0 fG1
      clear hc11 GG TG
      replace KP := Lib.hid ((ho11.block LP.out (by have := ORD.out; omega) (by have := ORD.out; omega)).trans KP.out)
      replace LP := Lib.hid (Nat.lt_of_lt_of_le LP.out ho11.size)
      replace KQ := Lib.hid ((ho11.block LQ.out (by have := ORD.out; omega) (by have := ORD.out; omega)).trans KQ.out)
      replace LQ := Lib.hid (Nat.lt_of_lt_of_le LQ.out ho11.size)
      replace KW := Lib.hid ((ho11.block LW.out (by have := ORD.out; omega) (by have := ORD.out; omega)).trans KW.out)
      replace LW := Lib.hid (Nat.lt_of_lt_of_le LW.out ho11.size)
      replace KX := Lib.hid ((ho11.block LX.out (by have := ORD.out; omega) (by have := ORD.out; omega)).trans KX.out)
      replace LX := Lib.hid (Nat.lt_of_lt_of_le LX.out ho11.size)
      replace KG := Lib.hid ((ho11.block LG.out (by have := ORD.out; omega) (by have := ORD.out; omega)).trans KG.out)
      replace LG := Lib.hid (Nat.lt_of_lt_of_le LG.out ho11.size)
      replace GW := Lib.hid (GW.out.off ho11 (by have := ORD.out; omega) (by have := ORD.out; omega))
      replace TW := Lib.hid (TW.out.off ho11 (by have := ORD.out; omega) (by have := ORD.out; omega))
      replace BB := Lib.hid (BB.out.trans (ho11.below (by have := ORD.out; omega) (by have := ORD.out; omega) BB.out.size))
      have GG := Lib.hid gG11
      have TG := Lib.hid tG11
      clear gG11 tG11 ho11
      have hc12 := held_stateN r.items.length r.talks.length 1 kgi kci kgt kct X2.heap.size kai kat w11 (by omega) (by have := HmR.out; omega) kSI.out kST.out GG.out TG.out
      rw [← HmR.out] at hc12
      have fG0 := cell_of_row w11 _ 0 _ _ _ KG.out
      have fG1 := cell_of_row w11 _ 1 _ _ _ KG.out
      simp only [List.getElem?_toArray, List.getElem?_cons_zero, List.getElem?_cons_succ] at fG0 fG1
      go_wp2_with (go_at_call 20; refine hc12.mono ?_; rintro e w12 ⟨rfl, hb⟩; refine Hid.out ?_)
      refine Lib.hid ?_
      clear fG0 fG1
      replace KP := Lib.hid ((hb.block _ LP.out).trans KP.out)
      replace LP := Lib.hid (Nat.lt_of_lt_of_le LP.out hb.size)
      replace KQ := Lib.hid ((hb.block _ LQ.out).trans KQ.out)
      replace LQ := Lib.hid (Nat.lt_of_lt_of_le LQ.out hb.size)
      replace KW := Lib.hid ((hb.block _ LW.out).trans KW.out)
      replace LW := Lib.hid (Nat.lt_of_lt_of_le LW.out hb.size)
      replace KX := Lib.hid ((hb.block _ LX.out).trans KX.out)
      replace LX := Lib.hid (Nat.lt_of_lt_of_le LX.out hb.size)
      replace KG := Lib.hid ((hb.block _ LG.out).trans KG.out)
      replace LG := Lib.hid (Nat.lt_of_lt_of_le LG.out hb.size)
      replace GW := Lib.hid (GW.out.later hb)
      replace TW := Lib.hid (TW.out.later hb)
      replace GG := Lib.hid (GG.out.later hb)
      replace TG := Lib.hid (TG.out.later hb)
      replace BB := Lib.hid (BB.out.trans (hb.mono BB.out.size))
      clear hc12 hb
      go_wp2_with fail
      go_cut [16, 17, 18] (fun b0 b1 b2 wx => ∃ (hb hgi hci hgt hct : Nat) (hai hat : Option Addr), b0 = .pointer (some ⟨hb, 0, none⟩) ∧ b1 = .string rp ∧ b2 = .int .i64 re ∧ Hid (wx.heap[hb]? = some (.cells #[.slice hai r.items.length hci, .slice hat r.talks.length hct] 27 (0, 0))) ∧ Hid (Got wx w12.heap.size 65 2 hgi r.items.length hci (r.items.flatMap itC)) ∧ Hid (Got wx w12.heap.size 67 3 hgt r.talks.length hct (r.talks.flatMap tkC)) ∧ Hid (Below w12.heap.size w12 wx) ∧ Hid (w12.heap.size ≤ hb ∧ hb < wx.heap.size ∧ hb ≠ hgi ∧ hb ≠ hgt ∧ hgi ≠ hgt) ∧ Hid (NilOr hai hgi r.items.length hci) ∧ Hid (NilOr hat hgt r.talks.length hct))
      case first =>
        have HSS : Hid (∀ w' : World, w'.heap[w.heap.size]? = some (.cells #[vi, vt] 39 (0, 0)) → w'.heap[w.heap.size + 1]? = some (.cells #[.string x.c, .int .i64 x.q, .int .i64 x.n, .string x.k, .string x.v] 41 (0, 0)) → (w'.cell? ⟨w.heap.size, 0, none⟩ = some (vi) ∧ w'.cell? ⟨w.heap.size, 1, none⟩ = some (vt)) ∧ w'.cell? ⟨w.heap.size + 1, 0, none⟩ = some (.string x.c) ∧ w'.cell? ⟨w.heap.size + 1, 1, none⟩ = some (.int .i64 x.q) ∧ w'.cell? ⟨w.heap.size + 1, 2, none⟩ = some (.int .i64 x.n) ∧ w'.cell? ⟨w.heap.size + 1, 3, none⟩ = some (.string x.k) ∧ w'.cell? ⟨w.heap.size + 1, 4, none⟩ = some (.string x.v)) := Lib.hid (fun w' j0 j1 => ⟨⟨by simpa using cell_of_row w' _ 0 _ _ _ j0, by simpa using cell_of_row w' _ 1 _ _ _ j0⟩, by simpa using cell_of_row w' _ 0 _ _ _ j1, by simpa using cell_of_row w' _ 1 _ _ _ j1, by simpa using cell_of_row w' _ 2 _ _ _ j1, by simpa using cell_of_row w' _ 3 _ _ _ j1, by simpa using cell_of_row w' _ 4 _ _ _ j1⟩)
        have LAP : Hid (w.heap.size < w12.heap.size) := LP
        have LAQ : Hid (w.heap.size + 1 < w12.heap.size) := LQ
        refine wp_region_held_drew (S := (fun w' => (w'.cell? ⟨w.heap.size, 0, none⟩ = some (vi) ∧ w'.cell? ⟨w.heap.size, 1, none⟩ = some (vt)) ∧ w'.cell? ⟨w.heap.size + 1, 0, none⟩ = some (.string x.c) ∧ w'.cell? ⟨w.heap.size + 1, 1, none⟩ = some (.int .i64 x.q) ∧ w'.cell? ⟨w.heap.size + 1, 2, none⟩ = some (.int .i64 x.n) ∧ w'.cell? ⟨w.heap.size + 1, 3, none⟩ = some (.string x.k) ∧ w'.cell? ⟨w.heap.size + 1, 4, none⟩ = some (.string x.v))) (by kernel_rfl) (HSS.out w12.drew KP.out KQ.out) (fun hHeld => ?_)
        obtain ⟨zD, hzD⟩ : ∃ z, z = w12.drew := ⟨_, rfl⟩
        rw [← hzD] at hHeld ⊢
        have bzD : Below w12.heap.size w12 zD := by rw [hzD]; exact (Below.refl _ _).drew
        have BA : Hid (Below w12.heap.size w12 zD) := Lib.hid bzD
        have yA : Hid (w12.heap.size ≤ w12.heap.size) := Lib.hid (Nat.le_refl _)
        replace KP := Lib.hid ((bzD.block _ LP.out).trans KP.out)
        replace LP := Lib.hid (Nat.lt_of_lt_of_le LP.out bzD.size)
        replace KQ := Lib.hid ((bzD.block _ LQ.out).trans KQ.out)
        replace LQ := Lib.hid (Nat.lt_of_lt_of_le LQ.out bzD.size)
        replace KW := Lib.hid ((bzD.block _ LW.out).trans KW.out)
        replace LW := Lib.hid (Nat.lt_of_lt_of_le LW.out bzD.size)
        replace KX := Lib.hid ((bzD.block _ LX.out).trans KX.out)
        replace LX := Lib.hid (Nat.lt_of_lt_of_le LX.out bzD.size)
        replace KG := Lib.hid ((bzD.block _ LG.out).trans KG.out)
        replace LG := Lib.hid (Nat.lt_of_lt_of_le LG.out bzD.size)
        replace GW := Lib.hid (GW.out.later bzD)
        replace TW := Lib.hid (TW.out.later bzD)
        replace GG := Lib.hid (GG.out.later bzD)
        replace TG := Lib.hid (TG.out.later bzD)
        replace BB := Lib.hid (BB.out.trans (bzD.mono BB.out.size))
        replace yA := Lib.hid (Nat.le_trans yA.out bzD.size)
        clear bzD hzD
        refine tk 0 (v := ?_) ?_ ?_; rotate_left
        · refine Or.inl ⟨by rfl, ?_⟩; intro w hSw; obtain ⟨⟨hS0, hS1⟩, hS2, hS3, hS4, hS5, hS6⟩ := hSw; go_simp; first | done | with_reducible rfl
        refine tk 2 (v := ?_) ?_ ?_; rotate_left
        · refine Or.inl ⟨by rfl, ?_⟩; intro w hSw; obtain ⟨⟨hS0, hS1⟩, hS2, hS3, hS4, hS5, hS6⟩ := hSw; go_simp; first | done | with_reducible rfl
        refine wpAnyH_ready (rs := [1, 9]) (by kernel_rfl) (by simp) ?_
        refine AllReadyH.cons rfl (fun K hK => ?_) (AllReadyH.cons rfl (fun K hK => ?_) (AllReadyH.nil))
        · go_simp
          go_at_call 15
          refine (to_state s _ w.heap.size zD (HR.out.later BB.out (Nat.le_refl _)) BB.out.size Hs.out).mono ?_
          rintro e z22 ⟨va, rfl, hoz22, bz22⟩
          replace BA := Lib.hid (BA.out.trans (bz22.mono BA.out.size))
          replace KP := Lib.hid ((bz22.block _ LP.out).trans KP.out)
          replace LP := Lib.hid (Nat.lt_of_lt_of_le LP.out bz22.size)
          replace KQ := Lib.hid ((bz22.block _ LQ.out).trans KQ.out)
          replace LQ := Lib.hid (Nat.lt_of_lt_of_le LQ.out bz22.size)
          replace KW := Lib.hid ((bz22.block _ LW.out).trans KW.out)
          replace LW := Lib.hid (Nat.lt_of_lt_of_le LW.out bz22.size)
          replace KX := Lib.hid ((bz22.block _ LX.out).trans KX.out)
          replace LX := Lib.hid (Nat.lt_of_lt_of_le LX.out bz22.size)
          replace KG := Lib.hid ((bz22.block _ LG.out).trans KG.out)
          replace LG := Lib.hid (Nat.lt_of_lt_of_le LG.out bz22.size)
          replace GW := Lib.hid (GW.out.later bz22)
          replace TW := Lib.hid (TW.out.later bz22)
          replace GG := Lib.hid (GG.out.later bz22)
          replace TG := Lib.hid (TG.out.later bz22)
          replace BB := Lib.hid (BB.out.trans (bz22.mono BB.out.size))
          replace yA := Lib.hid (Nat.le_trans yA.out bz22.size)
          have SA : Hid (StV z22 z22.heap.size va s) := Lib.hid (hoz22.st Hs.out.lens.1 Hs.out.lens.2)
          clear hoz22 bz22
          go_wp2_with fail
          refine hK.out _ _ (HSS.out _ KP.out KQ.out) (fun hHeld => ?_)
          clear hK K
          try simp only [getElem_toArray, getElem_cons_zero, getElem_cons_succ, Act.put, setIfInBounds_toArray, set_cons_zero, set_cons_succ]
          refine wpAnyH_ready (rs := [3, 9]) (by kernel_rfl) (by simp) ?_
          refine AllReadyH.cons rfl (fun K hK => ?_) (AllReadyH.cons rfl (fun K hK => ?_) (AllReadyH.nil))
          · go_simp
            go_at_call 16
            have hti := to_op x z22
            unfold rqA at hti
            refine hti.mono ?_
            rintro e z23 ⟨rfl, bz23⟩
            clear hti
            replace BA := Lib.hid (BA.out.trans (bz23.mono BA.out.size))
            replace KP := Lib.hid ((bz23.block _ LP.out).trans KP.out)
            replace LP := Lib.hid (Nat.lt_of_lt_of_le LP.out bz23.size)
            replace KQ := Lib.hid ((bz23.block _ LQ.out).trans KQ.out)
            replace LQ := Lib.hid (Nat.lt_of_lt_of_le LQ.out bz23.size)
            replace KW := Lib.hid ((bz23.block _ LW.out).trans KW.out)
            replace LW := Lib.hid (Nat.lt_of_lt_of_le LW.out bz23.size)
            replace KX := Lib.hid ((bz23.block _ LX.out).trans KX.out)
            replace LX := Lib.hid (Nat.lt_of_lt_of_le LX.out bz23.size)
            replace KG := Lib.hid ((bz23.block _ LG.out).trans KG.out)
            replace LG := Lib.hid (Nat.lt_of_lt_of_le LG.out bz23.size)
            replace GW := Lib.hid (GW.out.later bz23)
            replace TW := Lib.hid (TW.out.later bz23)
            replace GG := Lib.hid (GG.out.later bz23)
            replace TG := Lib.hid (TG.out.later bz23)
            replace BB := Lib.hid (BB.out.trans (bz23.mono BB.out.size))
            replace SA := Lib.hid (SA.out.later bz23 bz23.size)
            replace yA := Lib.hid (Nat.le_trans yA.out bz23.size)
            clear bz23
            go_wp2_with fail
            refine hK.out _ _ (HSS.out _ KP.out KQ.out) (fun hHeld => ?_)
            clear hK K
            try simp only [getElem_toArray, getElem_cons_zero, getElem_cons_succ, Act.put, setIfInBounds_toArray, set_cons_zero, set_cons_succ]
            refine wpAnyH_ready (rs := [4, 9]) (by kernel_rfl) (by simp) ?_
            refine AllReadyH.cons rfl (fun K hK => ?_) (AllReadyH.cons rfl (fun K hK => ?_) (AllReadyH.nil))
            · go_simp
              have hc := impl_apply s va x z23.heap.size z23 SA.out (Nat.le_refl _) Hfew.out Hfit.out Hx.out (HE.out.on BB.out)
              rw [← Hr.out, ← Hrp.out, ← Hre.out] at hc
              unfold rqA at hc
              go_at_call 17
              refine hc.mono ?_
              rintro e z24 ⟨_, rfl, hho, bz24⟩
              clear hc
              clear SA
              obtain ⟨_, _, hgi, hci, hgt, hct, rfl, hhne, ⟨hai, rfl, hsai⟩, ⟨hat, rfl, hsat⟩, hgW, htW⟩ := hho
              have hG := Lib.hid (hgW.base yA.out)
              have hH := Lib.hid (htW.base yA.out)
              have hSI : Hid (NilOr hai hgi r.items.length hci) := Lib.hid hsai
              have hST : Hid (NilOr hat hgt r.talks.length hct) := Lib.hid hsat
              clear hsai hsat
              have yN : Hid (hgi ≠ hgt) := Lib.hid hhne
              replace BA := Lib.hid (BA.out.trans (bz24.mono BA.out.size))
              replace KP := Lib.hid ((bz24.block _ LP.out).trans KP.out)
              replace LP := Lib.hid (Nat.lt_of_lt_of_le LP.out bz24.size)
              replace KQ := Lib.hid ((bz24.block _ LQ.out).trans KQ.out)
              replace LQ := Lib.hid (Nat.lt_of_lt_of_le LQ.out bz24.size)
              replace KW := Lib.hid ((bz24.block _ LW.out).trans KW.out)
              replace LW := Lib.hid (Nat.lt_of_lt_of_le LW.out bz24.size)
              replace KX := Lib.hid ((bz24.block _ LX.out).trans KX.out)
              replace LX := Lib.hid (Nat.lt_of_lt_of_le LX.out bz24.size)
              replace KG := Lib.hid ((bz24.block _ LG.out).trans KG.out)
              replace LG := Lib.hid (Nat.lt_of_lt_of_le LG.out bz24.size)
              replace GW := Lib.hid (GW.out.later bz24)
              replace TW := Lib.hid (TW.out.later bz24)
              replace GG := Lib.hid (GG.out.later bz24)
              replace TG := Lib.hid (TG.out.later bz24)
              replace BB := Lib.hid (BB.out.trans (bz24.mono BB.out.size))
              replace yA := Lib.hid (Nat.le_trans yA.out bz24.size)
              clear hgW htW bz24 hhne
              go_wp2_with fail
              refine hK.out _ _ (HSS.out _ KP.out KQ.out) (fun hHeld => ?_)
              clear hK K
              try simp only [getElem_toArray, getElem_cons_zero, getElem_cons_succ, Act.put, setIfInBounds_toArray, set_cons_zero, set_cons_succ]
              refine tk0 5 ?_
              refine tk0 6 ?_
              refine tk0 7 ?_
              refine tk0 8 ?_
              refine wpAnyH_ready (rs := [9]) (by kernel_rfl) (by simp) ?_
              refine AllReadyH.cons rfl (fun K hK => ?_) (AllReadyH.nil)
              go_simp
              obtain ⟨z25, hz25⟩ : ∃ z, z = z24.alloc (.cells #[.slice none 0 0, .slice none 0 0] 27) := ⟨_, rfl⟩
              rw [← hz25]
              have bz25 : Below z24.heap.size z24 z25 := by rw [hz25]; exact (Below.refl _ _).alloc (Nat.le_refl _) _
              have sz25 : Hid (z25.heap.size = z24.heap.size + 1) := Lib.hid (by rw [hz25]; simp)
              have yB : Hid (w12.heap.size ≤ z24.heap.size) := yA
              have yE : Hid (hgi ≠ z24.heap.size ∧ hgt ≠ z24.heap.size) := Lib.hid ⟨by have := hG.out.2.2.2.2.1; omega, by have := hH.out.2.2.2.2.1; omega⟩
              replace BA := Lib.hid (BA.out.trans (bz25.mono BA.out.size))
              replace KP := Lib.hid ((bz25.block _ LP.out).trans KP.out)
              replace LP := Lib.hid (Nat.lt_of_lt_of_le LP.out bz25.size)
              replace KQ := Lib.hid ((bz25.block _ LQ.out).trans KQ.out)
              replace LQ := Lib.hid (Nat.lt_of_lt_of_le LQ.out bz25.size)
              replace KW := Lib.hid ((bz25.block _ LW.out).trans KW.out)
              replace LW := Lib.hid (Nat.lt_of_lt_of_le LW.out bz25.size)
              replace KX := Lib.hid ((bz25.block _ LX.out).trans KX.out)
              replace LX := Lib.hid (Nat.lt_of_lt_of_le LX.out bz25.size)
              replace KG := Lib.hid ((bz25.block _ LG.out).trans KG.out)
              replace LG := Lib.hid (Nat.lt_of_lt_of_le LG.out bz25.size)
              replace GW := Lib.hid (GW.out.later bz25)
              replace TW := Lib.hid (TW.out.later bz25)
              replace GG := Lib.hid (GG.out.later bz25)
              replace TG := Lib.hid (TG.out.later bz25)
              replace hG := Lib.hid (hG.out.later bz25)
              replace hH := Lib.hid (hH.out.later bz25)
              replace BB := Lib.hid (BB.out.trans (bz25.mono BB.out.size))
              replace yA := Lib.hid (Nat.le_trans yA.out bz25.size)
              have KB : Hid (z25.heap[z24.heap.size]? = some (.cells #[.slice none 0 0, .slice none 0 0] 27 (0, 0))) := Lib.hid (by rw [hz25]; exact heap_new _ _)
              have LB : Hid (z24.heap.size < z25.heap.size) := Lib.hid (by have := sz25.out; omega)
              clear bz25 hz25
              refine hK.out _ _ (HSS.out _ KP.out KQ.out) (fun hHeld => ?_)
              clear hK K
              try simp only [getElem_toArray, getElem_cons_zero, getElem_cons_succ, Act.put, setIfInBounds_toArray, set_cons_zero, set_cons_succ]
              have dB0 := cell_of_row z25 _ 0 _ _ _ KB.out
              have zB0 := frozen_of_row z25 _ 0 _ _ KB.out
              have dB1 := cell_of_row z25 _ 1 _ _ _ KB.out
              have zB1 := frozen_of_row z25 _ 1 _ _ KB.out
              simp only [List.getElem?_toArray, List.getElem?_cons_zero, List.getElem?_cons_succ] at dB0 dB1
              refine wpAnyH_ready (rs := [10]) (by kernel_rfl) (by simp) ?_
              refine AllReadyH.cons rfl (fun K hK => ?_) (AllReadyH.nil)
              go_simp
              obtain ⟨Y, hY⟩ : ∃ Y, Y = (z25.setCell ⟨z24.heap.size, 0, none⟩ (.slice hai r.items.length hci)).setCell ⟨z24.heap.size, 1, none⟩ (.slice hat r.talks.length hct) := ⟨_, rfl⟩
              rw [← hY]
              have f1 := heap_setCell_same _ (z24.heap.size) 0 _ _ (.slice hai r.items.length hci) KB.out
              have f2 := heap_setCell_same _ (z24.heap.size) 1 _ _ (.slice hat r.talks.length hct) f1
              rw [← hY] at f2
              have gY : z25.grownBy Y (some (z24.heap.size)) := by rw [hY]; exact (grown_set _ ⟨z24.heap.size, 0, none⟩ _).trans (grown_set _ ⟨z24.heap.size, 1, none⟩ _)
              clear dB0 dB1 zB0 zB1 hY f1
              simp only [List.setIfInBounds_toArray, List.set_cons_zero, List.set_cons_succ] at f2
              have F2 := Lib.hid f2
              replace BA := Lib.hid (BA.out.grown gY BA.out.size (fun k hk => by cases hk; exact yB.out))
              have LY : Hid (z24.heap.size < Y.heap.size) := Lib.hid (Nat.lt_of_lt_of_le LB.out gY.size)
              replace hG := Lib.hid (hG.out.grown gY (by have := yE.out; omega))
              replace hH := Lib.hid (hH.out.grown gY (by have := yE.out; omega))
              have KPy := Lib.hid ((gY.block _ LP.out (by simp; have := yB.out; have := LAP.out; omega)).trans KP.out)
              have KQy := Lib.hid ((gY.block _ LQ.out (by simp; have := yB.out; have := LAQ.out; omega)).trans KQ.out)
              refine hK.out _ _ (HSS.out _ KPy.out KQy.out) (fun hHeld => ?_)
              clear hK K gY f2
              try simp only [getElem_toArray, getElem_cons_zero, getElem_cons_succ, Act.put, setIfInBounds_toArray, set_cons_zero, set_cons_succ]
              refine tk0 11 ?_
              refine tk0 12 ?_
              refine wpAnyH_done (by kernel_rfl) ?_ _
              clear hHeld
              go_wp2_with fail
              go_meet
              exact ⟨z24.heap.size, hgi, hci, hgt, hct, _, _, rfl, rfl, rfl, F2, hG, hH, BA, Lib.hid ⟨yB.out, LY.out, fun h => yE.out.1 h.symm, fun h => yE.out.2 h.symm, yN.out⟩, hSI, hST⟩
            · go_simp
              obtain ⟨z26, hz26⟩ : ∃ z, z = z23.alloc (.cells #[.slice none 0 0, .slice none 0 0] 27) := ⟨_, rfl⟩
              rw [← hz26]
              have bz26 : Below z23.heap.size z23 z26 := by rw [hz26]; exact (Below.refl _ _).alloc (Nat.le_refl _) _
              have sz26 : Hid (z26.heap.size = z23.heap.size + 1) := Lib.hid (by rw [hz26]; simp)
              have yB : Hid (w12.heap.size ≤ z23.heap.size) := yA
              replace BA := Lib.hid (BA.out.trans (bz26.mono BA.out.size))
              replace KP := Lib.hid ((bz26.block _ LP.out).trans KP.out)
              replace LP := Lib.hid (Nat.lt_of_lt_of_le LP.out bz26.size)
              replace KQ := Lib.hid ((bz26.block _ LQ.out).trans KQ.out)
              replace LQ := Lib.hid (Nat.lt_of_lt_of_le LQ.out bz26.size)
              replace KW := Lib.hid ((bz26.block _ LW.out).trans KW.out)
              replace LW := Lib.hid (Nat.lt_of_lt_of_le LW.out bz26.size)
              replace KX := Lib.hid ((bz26.block _ LX.out).trans KX.out)
              replace LX := Lib.hid (Nat.lt_of_lt_of_le LX.out bz26.size)
              replace KG := Lib.hid ((bz26.block _ LG.out).trans KG.out)
              replace LG := Lib.hid (Nat.lt_of_lt_of_le LG.out bz26.size)
              replace GW := Lib.hid (GW.out.later bz26)
              replace TW := Lib.hid (TW.out.later bz26)
              replace GG := Lib.hid (GG.out.later bz26)
              replace TG := Lib.hid (TG.out.later bz26)
              replace BB := Lib.hid (BB.out.trans (bz26.mono BB.out.size))
              replace SA := Lib.hid (SA.out.later bz26 bz26.size)
              replace yA := Lib.hid (Nat.le_trans yA.out bz26.size)
              have KB : Hid (z26.heap[z23.heap.size]? = some (.cells #[.slice none 0 0, .slice none 0 0] 27 (0, 0))) := Lib.hid (by rw [hz26]; exact heap_new _ _)
              have LB : Hid (z23.heap.size < z26.heap.size) := Lib.hid (by have := sz26.out; omega)
              clear bz26 hz26
              refine hK.out _ _ (HSS.out _ KP.out KQ.out) (fun hHeld => ?_)
              clear hK K
              try simp only [getElem_toArray, getElem_cons_zero, getElem_cons_succ, Act.put, setIfInBounds_toArray, set_cons_zero, set_cons_succ]
              refine wpAnyH_ready (rs := [4]) (by kernel_rfl) (by simp) ?_
              refine AllReadyH.cons rfl (fun K hK => ?_) (AllReadyH.nil)
              go_simp
              have hc := impl_apply s va x z26.heap.size z26 SA.out (Nat.le_refl _) Hfew.out Hfit.out Hx.out (HE.out.on BB.out)
              rw [← Hr.out, ← Hrp.out, ← Hre.out] at hc
              unfold rqA at hc
              go_at_call 17
              refine hc.mono ?_
              rintro e z27 ⟨_, rfl, hho, bz27⟩
              clear hc
              clear SA
              obtain ⟨_, _, hgi, hci, hgt, hct, rfl, hhne, ⟨hai, rfl, hsai⟩, ⟨hat, rfl, hsat⟩, hgW, htW⟩ := hho
              have hG := Lib.hid (hgW.base yA.out)
              have hH := Lib.hid (htW.base yA.out)
              have yE : Hid (hgi ≠ z23.heap.size ∧ hgt ≠ z23.heap.size) := Lib.hid ⟨by have := hgW.2.2.2.1; have := LB.out; omega, by have := htW.2.2.2.1; have := LB.out; omega⟩
              have hSI : Hid (NilOr hai hgi r.items.length hci) := Lib.hid hsai
              have hST : Hid (NilOr hat hgt r.talks.length hct) := Lib.hid hsat
              clear hsai hsat
              have yN : Hid (hgi ≠ hgt) := Lib.hid hhne
              replace BA := Lib.hid (BA.out.trans (bz27.mono BA.out.size))
              replace KP := Lib.hid ((bz27.block _ LP.out).trans KP.out)
              replace LP := Lib.hid (Nat.lt_of_lt_of_le LP.out bz27.size)
              replace KQ := Lib.hid ((bz27.block _ LQ.out).trans KQ.out)
              replace LQ := Lib.hid (Nat.lt_of_lt_of_le LQ.out bz27.size)
              replace KW := Lib.hid ((bz27.block _ LW.out).trans KW.out)
              replace LW := Lib.hid (Nat.lt_of_lt_of_le LW.out bz27.size)
              replace KX := Lib.hid ((bz27.block _ LX.out).trans KX.out)
              replace LX := Lib.hid (Nat.lt_of_lt_of_le LX.out bz27.size)
              replace KG := Lib.hid ((bz27.block _ LG.out).trans KG.out)
              replace LG := Lib.hid (Nat.lt_of_lt_of_le LG.out bz27.size)
              replace KB := Lib.hid ((bz27.block _ LB.out).trans KB.out)
              replace LB := Lib.hid (Nat.lt_of_lt_of_le LB.out bz27.size)
              replace GW := Lib.hid (GW.out.later bz27)
              replace TW := Lib.hid (TW.out.later bz27)
              replace GG := Lib.hid (GG.out.later bz27)
              replace TG := Lib.hid (TG.out.later bz27)
              replace BB := Lib.hid (BB.out.trans (bz27.mono BB.out.size))
              replace yA := Lib.hid (Nat.le_trans yA.out bz27.size)
              clear hgW htW bz27 hhne
              go_wp2_with fail
              refine hK.out _ _ (HSS.out _ KP.out KQ.out) (fun hHeld => ?_)
              clear hK K
              try simp only [getElem_toArray, getElem_cons_zero, getElem_cons_succ, Act.put, setIfInBounds_toArray, set_cons_zero, set_cons_succ]
              refine tk0 5 ?_
              refine tk0 6 ?_
              refine tk0 7 ?_
              refine tk0 8 ?_
              have dB0 := cell_of_row z27 _ 0 _ _ _ KB.out
              have zB0 := frozen_of_row z27 _ 0 _ _ KB.out
              have dB1 := cell_of_row z27 _ 1 _ _ _ KB.out
              have zB1 := frozen_of_row z27 _ 1 _ _ KB.out
              simp only [List.getElem?_toArray, List.getElem?_cons_zero, List.getElem?_cons_succ] at dB0 dB1
              refine wpAnyH_ready (rs := [10]) (by kernel_rfl) (by simp) ?_
              refine AllReadyH.cons rfl (fun K hK => ?_) (AllReadyH.nil)
              go_simp
              obtain ⟨Y, hY⟩ : ∃ Y, Y = (z27.setCell ⟨z23.heap.size, 0, none⟩ (.slice hai r.items.length hci)).setCell ⟨z23.heap.size, 1, none⟩ (.slice hat r.talks.length hct) := ⟨_, rfl⟩
              rw [← hY]
              have f1 := heap_setCell_same _ (z23.heap.size) 0 _ _ (.slice hai r.items.length hci) KB.out
              have f2 := heap_setCell_same _ (z23.heap.size) 1 _ _ (.slice hat r.talks.length hct) f1
              rw [← hY] at f2
              have gY : z27.grownBy Y (some (z23.heap.size)) := by rw [hY]; exact (grown_set _ ⟨z23.heap.size, 0, none⟩ _).trans (grown_set _ ⟨z23.heap.size, 1, none⟩ _)
              clear dB0 dB1 zB0 zB1 hY f1
              simp only [List.setIfInBounds_toArray, List.set_cons_zero, List.set_cons_succ] at f2
              have F2 := Lib.hid f2
              replace BA := Lib.hid (BA.out.grown gY BA.out.size (fun k hk => by cases hk; exact yB.out))
              have LY : Hid (z23.heap.size < Y.heap.size) := Lib.hid (Nat.lt_of_lt_of_le LB.out gY.size)
              replace hG := Lib.hid (hG.out.grown gY (by have := yE.out; omega))
              replace hH := Lib.hid (hH.out.grown gY (by have := yE.out; omega))
              have KPy := Lib.hid ((gY.block _ LP.out (by simp; have := yB.out; have := LAP.out; omega)).trans KP.out)
              have KQy := Lib.hid ((gY.block _ LQ.out (by simp; have := yB.out; have := LAQ.out; omega)).trans KQ.out)
              refine hK.out _ _ (HSS.out _ KPy.out KQy.out) (fun hHeld => ?_)
              clear hK K gY f2
              try simp only [getElem_toArray, getElem_cons_zero, getElem_cons_succ, Act.put, setIfInBounds_toArray, set_cons_zero, set_cons_succ]
              refine tk0 11 ?_
              refine tk0 12 ?_
              refine wpAnyH_done (by kernel_rfl) ?_ _
              clear hHeld
              go_wp2_with fail
              go_meet
              exact ⟨z23.heap.size, hgi, hci, hgt, hct, _, _, rfl, rfl, rfl, F2, hG, hH, BA, Lib.hid ⟨yB.out, LY.out, fun h => yE.out.1 h.symm, fun h => yE.out.2 h.symm, yN.out⟩, hSI, hST⟩
          · go_simp
            obtain ⟨z28, hz28⟩ : ∃ z, z = z22.alloc (.cells #[.slice none 0 0, .slice none 0 0] 27) := ⟨_, rfl⟩
            rw [← hz28]
            have bz28 : Below z22.heap.size z22 z28 := by rw [hz28]; exact (Below.refl _ _).alloc (Nat.le_refl _) _
            have sz28 : Hid (z28.heap.size = z22.heap.size + 1) := Lib.hid (by rw [hz28]; simp)
            have yB : Hid (w12.heap.size ≤ z22.heap.size) := yA
            replace BA := Lib.hid (BA.out.trans (bz28.mono BA.out.size))
            replace KP := Lib.hid ((bz28.block _ LP.out).trans KP.out)
            replace LP := Lib.hid (Nat.lt_of_lt_of_le LP.out bz28.size)
            replace KQ := Lib.hid ((bz28.block _ LQ.out).trans KQ.out)
            replace LQ := Lib.hid (Nat.lt_of_lt_of_le LQ.out bz28.size)
            replace KW := Lib.hid ((bz28.block _ LW.out).trans KW.out)
            replace LW := Lib.hid (Nat.lt_of_lt_of_le LW.out bz28.size)
            replace KX := Lib.hid ((bz28.block _ LX.out).trans KX.out)
            replace LX := Lib.hid (Nat.lt_of_lt_of_le LX.out bz28.size)
            replace KG := Lib.hid ((bz28.block _ LG.out).trans KG.out)
            replace LG := Lib.hid (Nat.lt_of_lt_of_le LG.out bz28.size)
            replace GW := Lib.hid (GW.out.later bz28)
            replace TW := Lib.hid (TW.out.later bz28)
            replace GG := Lib.hid (GG.out.later bz28)
            replace TG := Lib.hid (TG.out.later bz28)
            replace BB := Lib.hid (BB.out.trans (bz28.mono BB.out.size))
            replace SA := Lib.hid (SA.out.later bz28 bz28.size)
            replace yA := Lib.hid (Nat.le_trans yA.out bz28.size)
            have KB : Hid (z28.heap[z22.heap.size]? = some (.cells #[.slice none 0 0, .slice none 0 0] 27 (0, 0))) := Lib.hid (by rw [hz28]; exact heap_new _ _)
            have LB : Hid (z22.heap.size < z28.heap.size) := Lib.hid (by have := sz28.out; omega)
            clear bz28 hz28
            refine hK.out _ _ (HSS.out _ KP.out KQ.out) (fun hHeld => ?_)
            clear hK K
            try simp only [getElem_toArray, getElem_cons_zero, getElem_cons_succ, Act.put, setIfInBounds_toArray, set_cons_zero, set_cons_succ]
            refine wpAnyH_ready (rs := [3]) (by kernel_rfl) (by simp) ?_
            refine AllReadyH.cons rfl (fun K hK => ?_) (AllReadyH.nil)
            go_simp
            go_at_call 16
            have hti := to_op x z28
            unfold rqA at hti
            refine hti.mono ?_
            rintro e z29 ⟨rfl, bz29⟩
            clear hti
            replace BA := Lib.hid (BA.out.trans (bz29.mono BA.out.size))
            replace KP := Lib.hid ((bz29.block _ LP.out).trans KP.out)
            replace LP := Lib.hid (Nat.lt_of_lt_of_le LP.out bz29.size)
            replace KQ := Lib.hid ((bz29.block _ LQ.out).trans KQ.out)
            replace LQ := Lib.hid (Nat.lt_of_lt_of_le LQ.out bz29.size)
            replace KW := Lib.hid ((bz29.block _ LW.out).trans KW.out)
            replace LW := Lib.hid (Nat.lt_of_lt_of_le LW.out bz29.size)
            replace KX := Lib.hid ((bz29.block _ LX.out).trans KX.out)
            replace LX := Lib.hid (Nat.lt_of_lt_of_le LX.out bz29.size)
            replace KG := Lib.hid ((bz29.block _ LG.out).trans KG.out)
            replace LG := Lib.hid (Nat.lt_of_lt_of_le LG.out bz29.size)
            replace KB := Lib.hid ((bz29.block _ LB.out).trans KB.out)
            replace LB := Lib.hid (Nat.lt_of_lt_of_le LB.out bz29.size)
            replace GW := Lib.hid (GW.out.later bz29)
            replace TW := Lib.hid (TW.out.later bz29)
            replace GG := Lib.hid (GG.out.later bz29)
            replace TG := Lib.hid (TG.out.later bz29)
            replace BB := Lib.hid (BB.out.trans (bz29.mono BB.out.size))
            replace SA := Lib.hid (SA.out.later bz29 bz29.size)
            replace yA := Lib.hid (Nat.le_trans yA.out bz29.size)
            clear bz29
            go_wp2_with fail
            refine hK.out _ _ (HSS.out _ KP.out KQ.out) (fun hHeld => ?_)
            clear hK K
            try simp only [getElem_toArray, getElem_cons_zero, getElem_cons_succ, Act.put, setIfInBounds_toArray, set_cons_zero, set_cons_succ]
            refine wpAnyH_ready (rs := [4]) (by kernel_rfl) (by simp) ?_
            refine AllReadyH.cons rfl (fun K hK => ?_) (AllReadyH.nil)
            go_simp
            have hc := impl_apply s va x z29.heap.size z29 SA.out (Nat.le_refl _) Hfew.out Hfit.out Hx.out (HE.out.on BB.out)
            rw [← Hr.out, ← Hrp.out, ← Hre.out] at hc
            unfold rqA at hc
            go_at_call 17
            refine hc.mono ?_
            rintro e z30 ⟨_, rfl, hho, bz30⟩
            clear hc
            clear SA
            obtain ⟨_, _, hgi, hci, hgt, hct, rfl, hhne, ⟨hai, rfl, hsai⟩, ⟨hat, rfl, hsat⟩, hgW, htW⟩ := hho
            have hG := Lib.hid (hgW.base yA.out)
            have hH := Lib.hid (htW.base yA.out)
            have yE : Hid (hgi ≠ z22.heap.size ∧ hgt ≠ z22.heap.size) := Lib.hid ⟨by have := hgW.2.2.2.1; have := LB.out; omega, by have := htW.2.2.2.1; have := LB.out; omega⟩
            have hSI : Hid (NilOr hai hgi r.items.length hci) := Lib.hid hsai
            have hST : Hid (NilOr hat hgt r.talks.length hct) := Lib.hid hsat
            clear hsai hsat
            have yN : Hid (hgi ≠ hgt) := Lib.hid hhne
            replace BA := Lib.hid (BA.out.trans (bz30.mono BA.out.size))
            replace KP := Lib.hid ((bz30.block _ LP.out).trans KP.out)
            replace LP := Lib.hid (Nat.lt_of_lt_of_le LP.out bz30.size)
            replace KQ := Lib.hid ((bz30.block _ LQ.out).trans KQ.out)
            replace LQ := Lib.hid (Nat.lt_of_lt_of_le LQ.out bz30.size)
            replace KW := Lib.hid ((bz30.block _ LW.out).trans KW.out)
            replace LW := Lib.hid (Nat.lt_of_lt_of_le LW.out bz30.size)
            replace KX := Lib.hid ((bz30.block _ LX.out).trans KX.out)
            replace LX := Lib.hid (Nat.lt_of_lt_of_le LX.out bz30.size)
            replace KG := Lib.hid ((bz30.block _ LG.out).trans KG.out)
            replace LG := Lib.hid (Nat.lt_of_lt_of_le LG.out bz30.size)
            replace KB := Lib.hid ((bz30.block _ LB.out).trans KB.out)
            replace LB := Lib.hid (Nat.lt_of_lt_of_le LB.out bz30.size)
            replace GW := Lib.hid (GW.out.later bz30)
            replace TW := Lib.hid (TW.out.later bz30)
            replace GG := Lib.hid (GG.out.later bz30)
            replace TG := Lib.hid (TG.out.later bz30)
            replace BB := Lib.hid (BB.out.trans (bz30.mono BB.out.size))
            replace yA := Lib.hid (Nat.le_trans yA.out bz30.size)
            clear hgW htW bz30 hhne
            go_wp2_with fail
            refine hK.out _ _ (HSS.out _ KP.out KQ.out) (fun hHeld => ?_)
            clear hK K
            try simp only [getElem_toArray, getElem_cons_zero, getElem_cons_succ, Act.put, setIfInBounds_toArray, set_cons_zero, set_cons_succ]
            refine tk0 5 ?_
            refine tk0 6 ?_
            refine tk0 7 ?_
            refine tk0 8 ?_
            have dB0 := cell_of_row z30 _ 0 _ _ _ KB.out
            have zB0 := frozen_of_row z30 _ 0 _ _ KB.out
            have dB1 := cell_of_row z30 _ 1 _ _ _ KB.out
            have zB1 := frozen_of_row z30 _ 1 _ _ KB.out
            simp only [List.getElem?_toArray, List.getElem?_cons_zero, List.getElem?_cons_succ] at dB0 dB1
            refine wpAnyH_ready (rs := [10]) (by kernel_rfl) (by simp) ?_
            refine AllReadyH.cons rfl (fun K hK => ?_) (AllReadyH.nil)
            go_simp
            obtain ⟨Y, hY⟩ : ∃ Y, Y = (z30.setCell ⟨z22.heap.size, 0, none⟩ (.slice hai r.items.length hci)).setCell ⟨z22.heap.size, 1, none⟩ (.slice hat r.talks.length hct) := ⟨_, rfl⟩
            rw [← hY]
            have f1 := heap_setCell_same _ (z22.heap.size) 0 _ _ (.slice hai r.items.length hci) KB.out
            have f2 := heap_setCell_same _ (z22.heap.size) 1 _ _ (.slice hat r.talks.length hct) f1
            rw [← hY] at f2
            have gY : z30.grownBy Y (some (z22.heap.size)) := by rw [hY]; exact (grown_set _ ⟨z22.heap.size, 0, none⟩ _).trans (grown_set _ ⟨z22.heap.size, 1, none⟩ _)
            clear dB0 dB1 zB0 zB1 hY f1
            simp only [List.setIfInBounds_toArray, List.set_cons_zero, List.set_cons_succ] at f2
            have F2 := Lib.hid f2
            replace BA := Lib.hid (BA.out.grown gY BA.out.size (fun k hk => by cases hk; exact yB.out))
            have LY : Hid (z22.heap.size < Y.heap.size) := Lib.hid (Nat.lt_of_lt_of_le LB.out gY.size)
            replace hG := Lib.hid (hG.out.grown gY (by have := yE.out; omega))
            replace hH := Lib.hid (hH.out.grown gY (by have := yE.out; omega))
            have KPy := Lib.hid ((gY.block _ LP.out (by simp; have := yB.out; have := LAP.out; omega)).trans KP.out)
            have KQy := Lib.hid ((gY.block _ LQ.out (by simp; have := yB.out; have := LAQ.out; omega)).trans KQ.out)
            refine hK.out _ _ (HSS.out _ KPy.out KQy.out) (fun hHeld => ?_)
            clear hK K gY f2
            try simp only [getElem_toArray, getElem_cons_zero, getElem_cons_succ, Act.put, setIfInBounds_toArray, set_cons_zero, set_cons_succ]
            refine tk0 11 ?_
            refine tk0 12 ?_
            refine wpAnyH_done (by kernel_rfl) ?_ _
            clear hHeld
            go_wp2_with fail
            go_meet
            exact ⟨z22.heap.size, hgi, hci, hgt, hct, _, _, rfl, rfl, rfl, F2, hG, hH, BA, Lib.hid ⟨yB.out, LY.out, fun h => yE.out.1 h.symm, fun h => yE.out.2 h.symm, yN.out⟩, hSI, hST⟩
        · go_simp
          obtain ⟨z31, hz31⟩ : ∃ z, z = zD.alloc (.cells #[.slice none 0 0, .slice none 0 0] 27) := ⟨_, rfl⟩
          rw [← hz31]
          have bz31 : Below zD.heap.size zD z31 := by rw [hz31]; exact (Below.refl _ _).alloc (Nat.le_refl _) _
          have sz31 : Hid (z31.heap.size = zD.heap.size + 1) := Lib.hid (by rw [hz31]; simp)
          have yB : Hid (w12.heap.size ≤ zD.heap.size) := yA
          replace BA := Lib.hid (BA.out.trans (bz31.mono BA.out.size))
          replace KP := Lib.hid ((bz31.block _ LP.out).trans KP.out)
          replace LP := Lib.hid (Nat.lt_of_lt_of_le LP.out bz31.size)
          replace KQ := Lib.hid ((bz31.block _ LQ.out).trans KQ.out)
          replace LQ := Lib.hid (Nat.lt_of_lt_of_le LQ.out bz31.size)
          replace KW := Lib.hid ((bz31.block _ LW.out).trans KW.out)
          replace LW := Lib.hid (Nat.lt_of_lt_of_le LW.out bz31.size)
          replace KX := Lib.hid ((bz31.block _ LX.out).trans KX.out)
          replace LX := Lib.hid (Nat.lt_of_lt_of_le LX.out bz31.size)
          replace KG := Lib.hid ((bz31.block _ LG.out).trans KG.out)
          replace LG := Lib.hid (Nat.lt_of_lt_of_le LG.out bz31.size)
          replace GW := Lib.hid (GW.out.later bz31)
          replace TW := Lib.hid (TW.out.later bz31)
          replace GG := Lib.hid (GG.out.later bz31)
          replace TG := Lib.hid (TG.out.later bz31)
          replace BB := Lib.hid (BB.out.trans (bz31.mono BB.out.size))
          replace yA := Lib.hid (Nat.le_trans yA.out bz31.size)
          have KB : Hid (z31.heap[zD.heap.size]? = some (.cells #[.slice none 0 0, .slice none 0 0] 27 (0, 0))) := Lib.hid (by rw [hz31]; exact heap_new _ _)
          have LB : Hid (zD.heap.size < z31.heap.size) := Lib.hid (by have := sz31.out; omega)
          clear bz31 hz31
          refine hK.out _ _ (HSS.out _ KP.out KQ.out) (fun hHeld => ?_)
          clear hK K
          try simp only [getElem_toArray, getElem_cons_zero, getElem_cons_succ, Act.put, setIfInBounds_toArray, set_cons_zero, set_cons_succ]
          refine wpAnyH_ready (rs := [1]) (by kernel_rfl) (by simp) ?_
          refine AllReadyH.cons rfl (fun K hK => ?_) (AllReadyH.nil)
          go_simp
          go_at_call 15
          refine (to_state s _ w.heap.size z31 (HR.out.later BB.out (Nat.le_refl _)) BB.out.size Hs.out).mono ?_
          rintro e z32 ⟨va, rfl, hoz32, bz32⟩
          replace BA := Lib.hid (BA.out.trans (bz32.mono BA.out.size))
          replace KP := Lib.hid ((bz32.block _ LP.out).trans KP.out)
          replace LP := Lib.hid (Nat.lt_of_lt_of_le LP.out bz32.size)
          replace KQ := Lib.hid ((bz32.block _ LQ.out).trans KQ.out)
          replace LQ := Lib.hid (Nat.lt_of_lt_of_le LQ.out bz32.size)
          replace KW := Lib.hid ((bz32.block _ LW.out).trans KW.out)
          replace LW := Lib.hid (Nat.lt_of_lt_of_le LW.out bz32.size)
          replace KX := Lib.hid ((bz32.block _ LX.out).trans KX.out)
          replace LX := Lib.hid (Nat.lt_of_lt_of_le LX.out bz32.size)
          replace KG := Lib.hid ((bz32.block _ LG.out).trans KG.out)
          replace LG := Lib.hid (Nat.lt_of_lt_of_le LG.out bz32.size)
          replace KB := Lib.hid ((bz32.block _ LB.out).trans KB.out)
          replace LB := Lib.hid (Nat.lt_of_lt_of_le LB.out bz32.size)
          replace GW := Lib.hid (GW.out.later bz32)
          replace TW := Lib.hid (TW.out.later bz32)
          replace GG := Lib.hid (GG.out.later bz32)
          replace TG := Lib.hid (TG.out.later bz32)
          replace BB := Lib.hid (BB.out.trans (bz32.mono BB.out.size))
          replace yA := Lib.hid (Nat.le_trans yA.out bz32.size)
          have SA : Hid (StV z32 z32.heap.size va s) := Lib.hid (hoz32.st Hs.out.lens.1 Hs.out.lens.2)
          clear hoz32 bz32
          go_wp2_with fail
          refine hK.out _ _ (HSS.out _ KP.out KQ.out) (fun hHeld => ?_)
          clear hK K
          try simp only [getElem_toArray, getElem_cons_zero, getElem_cons_succ, Act.put, setIfInBounds_toArray, set_cons_zero, set_cons_succ]
          refine wpAnyH_ready (rs := [3]) (by kernel_rfl) (by simp) ?_
          refine AllReadyH.cons rfl (fun K hK => ?_) (AllReadyH.nil)
          go_simp
          go_at_call 16
          have hti := to_op x z32
          unfold rqA at hti
          refine hti.mono ?_
          rintro e z33 ⟨rfl, bz33⟩
          clear hti
          replace BA := Lib.hid (BA.out.trans (bz33.mono BA.out.size))
          replace KP := Lib.hid ((bz33.block _ LP.out).trans KP.out)
          replace LP := Lib.hid (Nat.lt_of_lt_of_le LP.out bz33.size)
          replace KQ := Lib.hid ((bz33.block _ LQ.out).trans KQ.out)
          replace LQ := Lib.hid (Nat.lt_of_lt_of_le LQ.out bz33.size)
          replace KW := Lib.hid ((bz33.block _ LW.out).trans KW.out)
          replace LW := Lib.hid (Nat.lt_of_lt_of_le LW.out bz33.size)
          replace KX := Lib.hid ((bz33.block _ LX.out).trans KX.out)
          replace LX := Lib.hid (Nat.lt_of_lt_of_le LX.out bz33.size)
          replace KG := Lib.hid ((bz33.block _ LG.out).trans KG.out)
          replace LG := Lib.hid (Nat.lt_of_lt_of_le LG.out bz33.size)
          replace KB := Lib.hid ((bz33.block _ LB.out).trans KB.out)
          replace LB := Lib.hid (Nat.lt_of_lt_of_le LB.out bz33.size)
          replace GW := Lib.hid (GW.out.later bz33)
          replace TW := Lib.hid (TW.out.later bz33)
          replace GG := Lib.hid (GG.out.later bz33)
          replace TG := Lib.hid (TG.out.later bz33)
          replace BB := Lib.hid (BB.out.trans (bz33.mono BB.out.size))
          replace SA := Lib.hid (SA.out.later bz33 bz33.size)
          replace yA := Lib.hid (Nat.le_trans yA.out bz33.size)
          clear bz33
          go_wp2_with fail
          refine hK.out _ _ (HSS.out _ KP.out KQ.out) (fun hHeld => ?_)
          clear hK K
          try simp only [getElem_toArray, getElem_cons_zero, getElem_cons_succ, Act.put, setIfInBounds_toArray, set_cons_zero, set_cons_succ]
          refine wpAnyH_ready (rs := [4]) (by kernel_rfl) (by simp) ?_
          refine AllReadyH.cons rfl (fun K hK => ?_) (AllReadyH.nil)
          go_simp
          have hc := impl_apply s va x z33.heap.size z33 SA.out (Nat.le_refl _) Hfew.out Hfit.out Hx.out (HE.out.on BB.out)
          rw [← Hr.out, ← Hrp.out, ← Hre.out] at hc
          unfold rqA at hc
          go_at_call 17
          refine hc.mono ?_
          rintro e z34 ⟨_, rfl, hho, bz34⟩
          clear hc
          clear SA
          obtain ⟨_, _, hgi, hci, hgt, hct, rfl, hhne, ⟨hai, rfl, hsai⟩, ⟨hat, rfl, hsat⟩, hgW, htW⟩ := hho
          have hG := Lib.hid (hgW.base yA.out)
          have hH := Lib.hid (htW.base yA.out)
          have yE : Hid (hgi ≠ zD.heap.size ∧ hgt ≠ zD.heap.size) := Lib.hid ⟨by have := hgW.2.2.2.1; have := LB.out; omega, by have := htW.2.2.2.1; have := LB.out; omega⟩
          have hSI : Hid (NilOr hai hgi r.items.length hci) := Lib.hid hsai
          have hST : Hid (NilOr hat hgt r.talks.length hct) := Lib.hid hsat
          clear hsai hsat
          have yN : Hid (hgi ≠ hgt) := Lib.hid hhne
          replace BA := Lib.hid (BA.out.trans (bz34.mono BA.out.size))
          replace KP := Lib.hid ((bz34.block _ LP.out).trans KP.out)
          replace LP := Lib.hid (Nat.lt_of_lt_of_le LP.out bz34.size)
          replace KQ := Lib.hid ((bz34.block _ LQ.out).trans KQ.out)
          replace LQ := Lib.hid (Nat.lt_of_lt_of_le LQ.out bz34.size)
          replace KW := Lib.hid ((bz34.block _ LW.out).trans KW.out)
          replace LW := Lib.hid (Nat.lt_of_lt_of_le LW.out bz34.size)
          replace KX := Lib.hid ((bz34.block _ LX.out).trans KX.out)
          replace LX := Lib.hid (Nat.lt_of_lt_of_le LX.out bz34.size)
          replace KG := Lib.hid ((bz34.block _ LG.out).trans KG.out)
          replace LG := Lib.hid (Nat.lt_of_lt_of_le LG.out bz34.size)
          replace KB := Lib.hid ((bz34.block _ LB.out).trans KB.out)
          replace LB := Lib.hid (Nat.lt_of_lt_of_le LB.out bz34.size)
          replace GW := Lib.hid (GW.out.later bz34)
          replace TW := Lib.hid (TW.out.later bz34)
          replace GG := Lib.hid (GG.out.later bz34)
          replace TG := Lib.hid (TG.out.later bz34)
          replace BB := Lib.hid (BB.out.trans (bz34.mono BB.out.size))
          replace yA := Lib.hid (Nat.le_trans yA.out bz34.size)
          clear hgW htW bz34 hhne
          go_wp2_with fail
          refine hK.out _ _ (HSS.out _ KP.out KQ.out) (fun hHeld => ?_)
          clear hK K
          try simp only [getElem_toArray, getElem_cons_zero, getElem_cons_succ, Act.put, setIfInBounds_toArray, set_cons_zero, set_cons_succ]
          refine tk0 5 ?_
          refine tk0 6 ?_
          refine tk0 7 ?_
          refine tk0 8 ?_
          have dB0 := cell_of_row z34 _ 0 _ _ _ KB.out
          have zB0 := frozen_of_row z34 _ 0 _ _ KB.out
          have dB1 := cell_of_row z34 _ 1 _ _ _ KB.out
          have zB1 := frozen_of_row z34 _ 1 _ _ KB.out
          simp only [List.getElem?_toArray, List.getElem?_cons_zero, List.getElem?_cons_succ] at dB0 dB1
          refine wpAnyH_ready (rs := [10]) (by kernel_rfl) (by simp) ?_
          refine AllReadyH.cons rfl (fun K hK => ?_) (AllReadyH.nil)
          go_simp
          obtain ⟨Y, hY⟩ : ∃ Y, Y = (z34.setCell ⟨zD.heap.size, 0, none⟩ (.slice hai r.items.length hci)).setCell ⟨zD.heap.size, 1, none⟩ (.slice hat r.talks.length hct) := ⟨_, rfl⟩
          rw [← hY]
          have f1 := heap_setCell_same _ (zD.heap.size) 0 _ _ (.slice hai r.items.length hci) KB.out
          have f2 := heap_setCell_same _ (zD.heap.size) 1 _ _ (.slice hat r.talks.length hct) f1
          rw [← hY] at f2
          have gY : z34.grownBy Y (some (zD.heap.size)) := by rw [hY]; exact (grown_set _ ⟨zD.heap.size, 0, none⟩ _).trans (grown_set _ ⟨zD.heap.size, 1, none⟩ _)
          clear dB0 dB1 zB0 zB1 hY f1
          simp only [List.setIfInBounds_toArray, List.set_cons_zero, List.set_cons_succ] at f2
          have F2 := Lib.hid f2
          replace BA := Lib.hid (BA.out.grown gY BA.out.size (fun k hk => by cases hk; exact yB.out))
          have LY : Hid (zD.heap.size < Y.heap.size) := Lib.hid (Nat.lt_of_lt_of_le LB.out gY.size)
          replace hG := Lib.hid (hG.out.grown gY (by have := yE.out; omega))
          replace hH := Lib.hid (hH.out.grown gY (by have := yE.out; omega))
          have KPy := Lib.hid ((gY.block _ LP.out (by simp; have := yB.out; have := LAP.out; omega)).trans KP.out)
          have KQy := Lib.hid ((gY.block _ LQ.out (by simp; have := yB.out; have := LAQ.out; omega)).trans KQ.out)
          refine hK.out _ _ (HSS.out _ KPy.out KQy.out) (fun hHeld => ?_)
          clear hK K gY f2
          try simp only [getElem_toArray, getElem_cons_zero, getElem_cons_succ, Act.put, setIfInBounds_toArray, set_cons_zero, set_cons_succ]
          refine tk0 11 ?_
          refine tk0 12 ?_
          refine wpAnyH_done (by kernel_rfl) ?_ _
          clear hHeld
          go_wp2_with fail
          go_meet
          exact ⟨zD.heap.size, hgi, hci, hgt, hct, _, _, rfl, rfl, rfl, F2, hG, hH, BA, Lib.hid ⟨yB.out, LY.out, fun h => yE.out.1 h.symm, fun h => yE.out.2 h.symm, yN.out⟩, hSI, hST⟩
      case rest =>
        obtain ⟨hb, hgi, hci, hgt, hct, hai, hat, rfl, rfl, rfl, Kh, hG, hH, bA, Nh, hSI, hST⟩ := hcut
        obtain ⟨wh, rfl⟩ : ∃ z, z = wc := ⟨_, rfl⟩
        have ywh : Hid (w12.heap.size ≤ wh.heap.size) := Lib.hid bA.out.size
        replace KP := Lib.hid ((bA.out.block _ LP.out).trans KP.out)
        replace LP := Lib.hid (Nat.lt_of_lt_of_le LP.out bA.out.size)
        replace KQ := Lib.hid ((bA.out.block _ LQ.out).trans KQ.out)
        replace LQ := Lib.hid (Nat.lt_of_lt_of_le LQ.out bA.out.size)
        replace KW := Lib.hid ((bA.out.block _ LW.out).trans KW.out)
        replace LW := Lib.hid (Nat.lt_of_lt_of_le LW.out bA.out.size)
        replace KX := Lib.hid ((bA.out.block _ LX.out).trans KX.out)
        replace LX := Lib.hid (Nat.lt_of_lt_of_le LX.out bA.out.size)
        replace KG := Lib.hid ((bA.out.block _ LG.out).trans KG.out)
        replace LG := Lib.hid (Nat.lt_of_lt_of_le LG.out bA.out.size)
        replace GW := Lib.hid (GW.out.later bA.out)
        replace TW := Lib.hid (TW.out.later bA.out)
        replace GG := Lib.hid (GG.out.later bA.out)
        replace TG := Lib.hid (TG.out.later bA.out)
        replace BB := Lib.hid (BB.out.trans (bA.out.mono BB.out.size))
        have Mh : Hid (hgi < wh.heap.size ∧ hgt < wh.heap.size ∧ w12.heap.size ≤ hgi ∧ w12.heap.size ≤ hgt) := Lib.hid ⟨hG.out.2.2.2.2.1, hH.out.2.2.2.2.1, hG.out.2.2.2.1, hH.out.2.2.2.1⟩
        have Lh : Hid (hb < wh.heap.size) := Lib.hid Nh.out.2.1
        clear bA
        have KH := Kh
        have LH := Lh
        clear Kh Lh Nh Mh
        have hc15 := eq_state r _ _ wh.heap.size wh (rd_parts hSI.out hST.out hG.out hH.out) (rd_parts gSI.out gST.out GW.out TW.out) (Nat.le_refl _)
        have fH0 := cell_of_row wh _ 0 _ _ _ KH.out
        have fH1 := cell_of_row wh _ 1 _ _ _ KH.out
        simp only [List.getElem?_toArray, List.getElem?_cons_zero, List.getElem?_cons_succ] at fH0 fH1
        have fW0 := cell_of_row wh _ 0 _ _ _ KW.out
        have fW1 := cell_of_row wh _ 1 _ _ _ KW.out
        simp only [List.getElem?_toArray, List.getElem?_cons_zero, List.getElem?_cons_succ] at fW0 fW1
        go_wp2_with (go_at_call 18; refine hc15.mono ?_; rintro e w15 ⟨rfl, hb⟩; refine Hid.out ?_)
        refine Lib.hid ?_
        clear fH0 fH1 fW0 fW1
        replace KP := Lib.hid ((hb.block _ LP.out).trans KP.out)
        replace LP := Lib.hid (Nat.lt_of_lt_of_le LP.out hb.size)
        replace KQ := Lib.hid ((hb.block _ LQ.out).trans KQ.out)
        replace LQ := Lib.hid (Nat.lt_of_lt_of_le LQ.out hb.size)
        replace KW := Lib.hid ((hb.block _ LW.out).trans KW.out)
        replace LW := Lib.hid (Nat.lt_of_lt_of_le LW.out hb.size)
        replace KX := Lib.hid ((hb.block _ LX.out).trans KX.out)
        replace LX := Lib.hid (Nat.lt_of_lt_of_le LX.out hb.size)
        replace KG := Lib.hid ((hb.block _ LG.out).trans KG.out)
        replace LG := Lib.hid (Nat.lt_of_lt_of_le LG.out hb.size)
        replace KH := Lib.hid ((hb.block _ LH.out).trans KH.out)
        replace LH := Lib.hid (Nat.lt_of_lt_of_le LH.out hb.size)
        replace GW := Lib.hid (GW.out.later hb)
        replace TW := Lib.hid (TW.out.later hb)
        replace GG := Lib.hid (GG.out.later hb)
        replace TG := Lib.hid (TG.out.later hb)
        replace hG := Lib.hid (hG.out.later hb)
        replace hH := Lib.hid (hH.out.later hb)
        replace BB := Lib.hid (BB.out.trans (hb.mono BB.out.size))
        clear hc15 hb
        have hc16 := held_stateN r.items.length r.talks.length 1 kgi kci kgt kct X2.heap.size kai kat w15 (by omega) (by have := HmR.out; omega) kSI.out kST.out GG.out TG.out
        rw [← HmR.out] at hc16
        have fG0 := cell_of_row w15 _ 0 _ _ _ KG.out
        have fG1 := cell_of_row w15 _ 1 _ _ _ KG.out
        simp only [List.getElem?_toArray, List.getElem?_cons_zero, List.getElem?_cons_succ] at fG0 fG1
        go_wp2_with (go_at_call 20; refine hc16.mono ?_; rintro e w16 ⟨rfl, hb⟩; refine Hid.out ?_)
        refine Lib.hid ?_
        clear fG0 fG1
        replace KP := Lib.hid ((hb.block _ LP.out).trans KP.out)
        replace LP := Lib.hid (Nat.lt_of_lt_of_le LP.out hb.size)
        replace KQ := Lib.hid ((hb.block _ LQ.out).trans KQ.out)
        replace LQ := Lib.hid (Nat.lt_of_lt_of_le LQ.out hb.size)
        replace KW := Lib.hid ((hb.block _ LW.out).trans KW.out)
        replace LW := Lib.hid (Nat.lt_of_lt_of_le LW.out hb.size)
        replace KX := Lib.hid ((hb.block _ LX.out).trans KX.out)
        replace LX := Lib.hid (Nat.lt_of_lt_of_le LX.out hb.size)
        replace KG := Lib.hid ((hb.block _ LG.out).trans KG.out)
        replace LG := Lib.hid (Nat.lt_of_lt_of_le LG.out hb.size)
        replace KH := Lib.hid ((hb.block _ LH.out).trans KH.out)
        replace LH := Lib.hid (Nat.lt_of_lt_of_le LH.out hb.size)
        replace GW := Lib.hid (GW.out.later hb)
        replace TW := Lib.hid (TW.out.later hb)
        replace GG := Lib.hid (GG.out.later hb)
        replace TG := Lib.hid (TG.out.later hb)
        replace hG := Lib.hid (hG.out.later hb)
        replace hH := Lib.hid (hH.out.later hb)
        replace BB := Lib.hid (BB.out.trans (hb.mono BB.out.size))
        clear hc16 hb
        go_wp2_with fail
        go_ret
        exact ⟨rfl, BB.out⟩
end Go.Proofs.YtclcaflkopnbpaaGreatDoor
