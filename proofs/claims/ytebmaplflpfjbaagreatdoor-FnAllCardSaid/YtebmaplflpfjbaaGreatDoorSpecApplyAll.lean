/- What spec.ApplyAll answers: 'apA'. Condition: a state and operations that can be read, not too great. -/
import Derived.Test.YtebmaplflpfjbaaGreatDoorBaseA
import Derived.Test.YtebmaplflpfjbaaGreatDoorApplyAllPlain
import Derived.Test.YtebmaplflpfjbaaGreatDoorSpecApply
import Derived.Test.YtebmaplflpfjbaaGreatDoorImplStep
import Derived.Deep.RegionHeld
import Derived.Deep.CutBlock
import Derived.Deep.DeepCutAuto
namespace Go.Proofs.YtebmaplflpfjbaaGreatDoor
open Go.RowKit List
set_option linter.unusedVariables false
set_option linter.unusedSimpArgs false

theorem infoStr : (Tryz.prog.info? 9).map (fun i => (i.zero, i.size, i.bytes)) = some (some (.string ⟨#[]⟩), 1, 16) := by kernel_rfl
theorem cell_one_of {w : World} {b : Nat} {t : TypeId} {v : Value} (h : w.heap[b]? = some (.cells #[v] t (0, 0))) : ∀ (j : Nat) (u : Value), [v][j]? = some u → w.cell? ((⟨b, 0, none⟩ : Addr).add j) = some u := by
  intro j u hj
  match j with
  | 0 =>
    simp at hj
    subst hj
    rw [add_flat]
    simpa using cell_of_row w b 0 _ _ _ h
  | j + 1 => simp at hj
theorem StTx.start {W w1 X : World} {base : Nat} {v out : Value} {s : St} {rs : List ByteArray} (ho : OwnN w1 W.heap.size v s) (ht : Texts w1 base out rs) (hX : Below w1.heap.size w1 X) (hlt : ∀ k, out.ownBlock = some k → k < W.heap.size) (hB : base ≤ W.heap.size) (hs : W.heap.size ≤ w1.heap.size) : StTx X base w1.heap.size v s out rs := by
  obtain ⟨vi, vt, gi, ci, gt, ct, h0, h1, h2, h3, h4, h5⟩ := ho
  have i1 := h4.2.2.2.1
  have i2 := h4.2.2.2.2.1
  have t1 := h5.2.2.2.1
  have t2 := h5.2.2.2.2.1
  refine ⟨⟨vi, vt, gi, ci, gt, ct, h0, h1, h2, h3, (h4.base hB).later hX, (h5.base hB).later hX, by omega, by omega, fun e => ?_, fun e => ?_⟩, fun e => ?_, ht.later hX⟩
  · have := hlt _ e; omega
  · have := hlt _ e; omega
  · have := hlt _ e; omega
set_option maxRecDepth 100000 in
set_option maxHeartbeats 8000000 in
theorem spec_applyAll (s : St) (v va : Value) (xs : List Rq) (B : Nat) (w : World) (hs : StV w B v s) (hr : Raw w B va xs.length (xs.flatMap rqC)) (hB : B ≤ w.heap.size) (hk : KeepS s) (hf : ∀ x ∈ xs, FitRq x) (hl : xs.length ≤ 1048576) :
    Calls Tryz.prog 7 #[v, va] w fun e w' => ∃ v' vr, e = .returned (.tuple #[v', vr]) ∧ OwnN w' w.heap.size v' (apA s xs).1 ∧ Texts w' w.heap.size vr (apA s xs).2 ∧ Below w.heap.size w w' := by
  have HS := Lib.hid hs
  have HKE := Lib.hid hk
  have HF := Lib.hid hf
  obtain ⟨vi, vt, rfl, hri, hrt⟩ := hs
  obtain ⟨la, lcap, rfl, hn1, hn2, hn3, hn4⟩ := hr
  have HL := Lib.hid hn4
  unfold maxLen at hn2
  clear hri hrt hn3 hn4 hf
  obtain ⟨W, hW⟩ : ∃ W, W = ((w.alloc (.cells #[vi, vt] 27)).alloc (.cells #[.slice none 0 0, .slice none 0 0] 27)).alloc (.cells #[] 9) := ⟨_, rfl⟩
  have hbW : Below w.heap.size w W := by rw [hW]; exact (((Below.refl _ _).alloc (Nat.le_refl _) _).alloc (by simp) _).alloc (by simp; omega) _
  have hWs : W.heap.size = w.heap.size + 3 := by rw [hW]; simp
  have KP : Hid (W.heap[w.heap.size]? = some (.cells #[vi, vt] 27 (0, 0))) := Lib.hid (by rw [hW, Below.heap_alloc _ _ _ (by simp; omega), Below.heap_alloc _ _ _ (by simp)]; exact heap_new _ _)
  have KR : Hid (W.heap[w.heap.size + 1]? = some (.cells #[.slice none 0 0, .slice none 0 0] 27 (0, 0))) := Lib.hid (by rw [hW, Below.heap_alloc _ _ _ (by simp)]; simpa using heap_new (w.alloc (.cells #[vi, vt] 27)) (.cells #[.slice none 0 0, .slice none 0 0] 27))
  have HT0 : Hid (Texts W (w.heap.size + 2) (.slice (some ⟨w.heap.size + 2, 0, none⟩) 0 0) []) := Lib.hid (by rw [hW]; simpa using Texts.empty ((w.alloc (.cells #[vi, vt] 27)).alloc (.cells #[.slice none 0 0, .slice none 0 0] 27)) (w.heap.size + 2) (by simp))
  have LP : Hid (w.heap.size < W.heap.size) := Lib.hid (by omega)
  have LR : Hid (w.heap.size + 1 < W.heap.size) := Lib.hid (by omega)
  have HWs := Lib.hid hWs
  have BB := Lib.hid hbW
  have hc0 := spec_copy s _ B W (HS.out.rd.later (hbW.mono hB) (Nat.le_refl _)) (Nat.le_trans hB hbW.size) HKE.out.few
  rw [hW] at hc0
  clear hbW hWs hk
  have fP0 := tcr KP 0
  have fP1 := tcr KP 1
  rw [hW] at fP0 fP1
  go_enter Tryz.func7, Tryz.ntmps7
  go_wp2_with (go_at_call 16; refine hc0.mono ?_; rintro e w1 ⟨v1, rfl, ho1, hb1⟩; refine Hid.out ?_)
  refine Lib.hid ?_
  rw [← hW] at ho1 hb1
  have S1 := Lib.hid ho1.n
  obtain ⟨a0, n0, c0, a1, n1, c1, rfl⟩ := ho1.n.two'
  clear hc0 hW ho1
  clear fP0 fP1
  have HsW := Lib.hid hb1.size
  have HT1 := Lib.hid (HT0.out.later hb1)
  clear HT0
  replace KP := tkb hb1 LP KP
  replace LP := tlz LP hb1.size
  replace KR := tkb hb1 LR KR
  replace LR := tlz LR hb1.size
  replace BB := tbt BB hb1
  clear hb1
  obtain ⟨X, hX⟩ : ∃ x, x = w1.alloc (.cells #[.slice a0 n0 c0, .slice a1 n1 c1] 27) := ⟨_, rfl⟩
  have bX : Below w1.heap.size w1 X := by rw [hX]; exact (Below.refl _ _).alloc (Nat.le_refl _) _
  have sX : Hid (X.heap.size = w1.heap.size + 1) := Lib.hid (by rw [hX]; simp)
  replace KP := tkb bX LP KP
  replace LP := tlz LP bX.size
  replace KR := tkb bX LR KR
  replace LR := tlz LR bX.size
  replace BB := tbt BB bX
  have KN : Hid (X.heap[w1.heap.size]? = some (.cells #[.slice a0 n0 c0, .slice a1 n1 c1] 27 (0, 0))) := Lib.hid (by rw [hX]; exact heap_new _ _)
  have LN : Hid (w1.heap.size < X.heap.size) := Lib.hid (by have := sX.out; omega)
  clear bX
  have HT2 : Hid (StTx X (w.heap.size + 2) w1.heap.size (.agg #[.slice a0 n0 c0, .slice a1 n1 c1]) s (.slice (some ⟨w.heap.size + 2, 0, none⟩) 0 0) []) := Lib.hid (StTx.start S1.out HT1.out (by rw [hX]; exact (Below.refl _ _).alloc (Nat.le_refl _) _) (fun k hk => by cases hk; have := HWs.out; show w.heap.size + 2 < _; omega) (by have := HWs.out; omega) HsW.out)
  obtain ⟨nb, hnb⟩ : ∃ n, n = w1.heap.size := ⟨_, rfl⟩
  rw [← hnb] at HT2 KN LN
  have NB2 : Hid (w.heap.size + 2 < nb) := Lib.hid (by have := HsW.out; have := HWs.out; omega)
  clear S1 HT1
  have HX := Lib.hid hX
  clear hX
  go_wp2_with fail
  rw [← HX.out, ← hnb]
  clear HX hnb sX HsW
  have BX0 : Hid (Below (w.heap.size + 2) X X) := Lib.hid (Below.refl _ _)
  go_loopw [6, 8] (fun out i wr => ∃ (k : Nat) (ov : Value), k ≤ xs.length ∧ i = .int .i64 k ∧ ov = out ∧ ∃ (a0 : Option Addr) (n0 c0 : Nat) (a1 : Option Addr) (n1 c1 : Nat), Hid (wr.heap[nb]? = some (.cells #[.slice a0 n0 c0, .slice a1 n1 c1] 27 (0, 0))) ∧ Hid (StTx wr (w.heap.size + 2) nb (.agg #[.slice a0 n0 c0, .slice a1 n1 c1]) (apA s (xs.take k)).1 out (apA s (xs.take k)).2) ∧ Hid (Below (w.heap.size + 2) X wr)) (fun _ i _ => xs.length - (intOf i).toNat)
  case atStart => exact ⟨0, _, Nat.zero_le _, rfl, rfl, a0, n0, c0, a1, n1, c1, KN, HT2, BX0⟩
  case round =>
    clear KN HT2 BX0
    obtain ⟨k, ov, hk, rfl, rfl, a0, n0, c0, a1, n1, c1, KN, STX, BW⟩ := hrel
    have LPr := Lib.hid (Nat.lt_of_lt_of_le LP.out BW.out.size)
    have LRr := Lib.hid (Nat.lt_of_lt_of_le LR.out BW.out.size)
    have KPr := Lib.hid ((BW.out.block _ (by omega)).trans KP.out)
    have KRr := Lib.hid ((BW.out.block _ (by omega)).trans KR.out)
    have LNr := Lib.hid (Nat.lt_of_lt_of_le LN.out BW.out.size)
    have BBr : Hid (Below w.heap.size w wr) := Lib.hid (BB.out.trans (BW.out.mono (by omega)))
    clear KP KR LP LR LN
    have KP := KPr
    have KR := KRr
    have LP := LPr
    have LR := LRr
    have LN := LNr
    clear KPr KRr LPr LRr LNr
    by_cases hlt : k < xs.length
    · obtain ⟨g, o, rfl, hgB, hAt⟩ := HL.out (by omega)
      obtain ⟨x, hx⟩ : ∃ x, x = xs[k] := ⟨_, rfl⟩
      have Hxk : Hid (xs[k] = x) := Lib.hid hx.symm
      have Hfx : Hid (FitRq x) := Lib.hid (by rw [hx]; exact HF.out _ (List.getElem_mem hlt))
      have hop := hAt.op k hlt
      rw [← hx] at hop
      have HOP : Hid (∀ w', Below w.heap.size w w' → w'.cell? ⟨g, o + k * 5, none⟩ = some (.string x.c) ∧ w'.cell? ⟨g, o + k * 5 + 1, none⟩ = some (.int .i64 x.q) ∧ w'.cell? ⟨g, o + k * 5 + 2, none⟩ = some (.int .i64 x.n) ∧ w'.cell? ⟨g, o + k * 5 + 3, none⟩ = some (.string x.k) ∧ w'.cell? ⟨g, o + k * 5 + 4, none⟩ = some (.string x.v)) := Lib.hid (fun w' h => by
        have hg : g < w.heap.size := Nat.lt_of_lt_of_le hgB hB
        rw [h.cell (p := ⟨g, o + k * 5, none⟩) hg, h.cell (p := ⟨g, o + k * 5 + 1, none⟩) hg, h.cell (p := ⟨g, o + k * 5 + 2, none⟩) hg, h.cell (p := ⟨g, o + k * 5 + 3, none⟩) hg, h.cell (p := ⟨g, o + k * 5 + 4, none⟩) hg]
        exact hop)
      clear hop hAt hx
      obtain ⟨sk, hsk⟩ : ∃ z, z = (apA s (xs.take k)).1 := ⟨_, rfl⟩
      obtain ⟨rk, hrk⟩ : ∃ z, z = (apA s (xs.take k)).2 := ⟨_, rfl⟩
      rw [← hsk, ← hrk] at STX
      have Hkeep : Hid (KeepS sk) := Lib.hid (by rw [hsk]; exact apA_keep _ HKE.out)
      have hnx := apA_take s xs k hlt
      rw [← hsk, ← hrk, Hxk.out] at hnx
      have HNX := Lib.hid hnx
      have hrl : rk.length = k := by rw [hrk, apA_len, List.length_take]; omega
      have HRL := Lib.hid hrl
      clear hnx hrl hsk hrk
      have hkl : (k : Int) < (xs.length : Int) := by omega
      have HSS : Hid (∀ w' : World, w'.heap[nb]? = some (.cells #[.slice a0 n0 c0, .slice a1 n1 c1] 27 (0, 0)) → Below w.heap.size w w' → (w'.cell? ⟨nb, 0, none⟩ = some (.slice a0 n0 c0) ∧ w'.cell? ⟨nb, 1, none⟩ = some (.slice a1 n1 c1)) ∧ w'.cell? ⟨g, o + k * 5, none⟩ = some (.string x.c) ∧ w'.cell? ⟨g, o + k * 5 + 1, none⟩ = some (.int .i64 x.q) ∧ w'.cell? ⟨g, o + k * 5 + 2, none⟩ = some (.int .i64 x.n) ∧ w'.cell? ⟨g, o + k * 5 + 3, none⟩ = some (.string x.k) ∧ w'.cell? ⟨g, o + k * 5 + 4, none⟩ = some (.string x.v)) := Lib.hid (fun w' k0 k1 => ⟨⟨by simpa using cell_of_row w' _ 0 _ _ _ k0, by simpa using cell_of_row w' _ 1 _ _ _ k0⟩, HOP.out w' k1⟩)
      obtain ⟨R, hR⟩ : ∃ R, R = ap sk x := ⟨_, rfl⟩
      have HR := Lib.hid hR
      clear hR
      go_wp2_with fail
      go_cut [9, 10] (fun m r wx => ∃ (mb : Nat) (b0 : Option Addr) (d0 e0 : Nat) (b1 : Option Addr) (d1 e1 : Nat), m = .pointer (some ⟨mb, 0, none⟩) ∧ r = .string R.2.1 ∧ Hid (wx.heap[mb]? = some (.cells #[.slice b0 d0 e0, .slice b1 d1 e1] 27 (0, 0))) ∧ Hid (StTx wx (w.heap.size + 2) nb (.agg #[.slice b0 d0 e0, .slice b1 d1 e1]) R.1 ov rk) ∧ Hid (Below wr.heap.size wr wx) ∧ Hid (nb < mb ∧ mb < wx.heap.size))
      case first =>
        clear KP KR LP LR
        refine wp_region_held_drew (S := (fun w' => (w'.cell? ⟨nb, 0, none⟩ = some (.slice a0 n0 c0) ∧ w'.cell? ⟨nb, 1, none⟩ = some (.slice a1 n1 c1)) ∧ w'.cell? ⟨g, o + k * 5, none⟩ = some (.string x.c) ∧ w'.cell? ⟨g, o + k * 5 + 1, none⟩ = some (.int .i64 x.q) ∧ w'.cell? ⟨g, o + k * 5 + 2, none⟩ = some (.int .i64 x.n) ∧ w'.cell? ⟨g, o + k * 5 + 3, none⟩ = some (.string x.k) ∧ w'.cell? ⟨g, o + k * 5 + 4, none⟩ = some (.string x.v))) (by kernel_rfl) (HSS.out _ KN.out (BBr.out.trans ((Below.refl wr.heap.size wr).drew.mono BBr.out.size))) (fun hHeld => ?_)
        obtain ⟨zD, hzD⟩ : ∃ z, z = wr.drew := ⟨_, rfl⟩
        rw [← hzD] at hHeld ⊢
        have bzD : Below wr.heap.size wr zD := by rw [hzD]; exact (Below.refl _ _).drew
        have BA : Hid (Below wr.heap.size wr zD) := Lib.hid bzD
        have BD : Hid (Below zD.heap.size zD zD) := Lib.hid (Below.refl _ _)
        have STD := Lib.hid (STX.out.later bzD)
        have BB := BBr
        replace KN := tkb bzD LN KN
        replace LN := tlz LN bzD.size
        replace BB := tbt BB bzD
        clear bzD hzD
        have LN0 : Hid (nb < zD.heap.size) := LN
        have NZ : Hid (w.heap.size + 2 ≤ zD.heap.size) := Lib.hid (by have := LN0.out; have := NB2.out; omega)
        refine tk 0 (v := ?_) ?_ ?_; rotate_left
        · refine Or.inl ⟨by rfl, ?_⟩; intro w hSw; obtain ⟨⟨gN0, gN1⟩, g0, g1, g2, g3, g4⟩ := hSw; go_simp; first | done | with_reducible rfl
        refine tk0 1 ?_
        refine tk0 2 ?_
        refine tk0 3 ?_
        refine tk 4 (v := ?_) ?_ ?_; rotate_left
        · refine Or.inl ⟨by rfl, ?_⟩; intro w hSw; obtain ⟨⟨gN0, gN1⟩, g0, g1, g2, g3, g4⟩ := hSw; go_simp; first | done | with_reducible rfl
        have ZA : Hid (wr.heap.size ≤ zD.heap.size) := Lib.hid BA.out.size
        refine rd2 5 10 (fun K hK => ?_) (fun K hK => ?_)
        · have hc := spec_apply sk _ x zD.heap.size zD (STD.out.own.later BD.out).st (Nat.le_refl _) Hkeep.out.1 Hkeep.out.2 Hfx.out
          rw [← HR.out] at hc
          unfold rqA at hc
          go_simp
          go_at_call 17
          refine hc.mono ?_
          rintro e wk ⟨v2, rfl, ho, hbk⟩
          have S2 := Lib.hid ho
          obtain ⟨b0, d0, e0, b1, d1, e1, rfl⟩ := ho.two'
          have HVS : Hid (zD.heap.size ≤ zD.heap.size) := Lib.hid BD.out.size
          replace KN := tkb hbk LN KN
          replace LN := tlz LN hbk.size
          replace BB := tbt BB hbk
          replace BA := tbt BA hbk
          replace BD := tbt BD hbk
          clear ho hbk hc
          go_wp2_with fail
          refine hK.out _ _ (HSS.out _ KN.out BB.out) (fun hHeld => ?_)
          clear hK K
          refine tk0 6 ?_
          refine tk0 7 ?_
          refine tk0 8 ?_
          refine tk0 9 ?_
          refine rd1 10 (fun K hK => ?_)
          have S2w := S2
          have SB : Hid (Below wk.heap.size wk wk) := Lib.hid (Below.refl _ _)
          go_simp
          obtain ⟨V, hV⟩ : ∃ V, V = wk.alloc (.cells #[.slice none 0 0, .slice none 0 0] 27) := ⟨_, rfl⟩
          rw [← hV]
          have bV : Below wk.heap.size wk V := by rw [hV]; exact (Below.refl _ _).alloc (Nat.le_refl _) _
          have KM : Hid (V.heap[wk.heap.size]? = some (.cells #[.slice none 0 0, .slice none 0 0] 27 (0, 0))) := Lib.hid (by rw [hV]; exact heap_new _ _)
          have LM : Hid (wk.heap.size < V.heap.size) := Lib.hid (by rw [hV]; simp)
          have NM : Hid (zD.heap.size ≤ wk.heap.size) := Lib.hid BD.out.size
          replace KN := tkb bV LN KN
          replace LN := tlz LN bV.size
          replace BB := tbt BB bV
          replace BA := tbt BA bV
          replace BD := tbt BD bV
          replace SB := tbt SB bV
          clear bV hV
          refine hK.out _ _ (HSS.out _ KN.out BB.out) (fun hHeld => ?_)
          clear hK K
          try simp only [getElem_toArray, getElem_cons_zero, getElem_cons_succ, Act.put, setIfInBounds_toArray, set_cons_zero, set_cons_succ]
          have fM0 := tcr KM 0
          have fM1 := tcr KM 1
          have zM0 := tfr KM 0
          have zM1 := tfr KM 1
          refine rd1 11 (fun K hK => ?_)
          go_simp
          obtain ⟨Y, hY⟩ : ∃ Y, Y = (V.setCell ⟨wk.heap.size, 0, none⟩ (.slice b0 d0 e0)).setCell ⟨wk.heap.size, 1, none⟩ (.slice b1 d1 e1) := ⟨_, rfl⟩
          rw [← hY]
          have r0 := heap_setCell_same _ (wk.heap.size) 0 _ _ (.slice b0 d0 e0) KM.out
          have r1 := heap_setCell_same _ (wk.heap.size) 1 _ _ (.slice b1 d1 e1) r0
          rw [← hY] at r1
          simp only [List.setIfInBounds_toArray, List.set_cons_zero, List.set_cons_succ] at r1
          have R1 := Lib.hid r1
          have gY : V.grownBy Y (some (wk.heap.size)) := by rw [hY]; exact (grown_set _ ⟨wk.heap.size, 0, none⟩ _).trans (grown_set _ ⟨wk.heap.size, 1, none⟩ _)
          clear fM0 fM1
          clear zM0 zM1
          have KNY := Lib.hid ((gY.block _ LN.out (fun e => by have := NM.out; have := LN0.out; simp only [Option.some.injEq] at e; omega)).trans KN.out)
          have BBY : Below w.heap.size w Y := BB.out.grown gY BB.out.size (fun k hk => by cases hk; have := NM.out; have := NZ.out; omega)
          have BAY : Hid (Below wr.heap.size wr Y) := Lib.hid (BA.out.grown gY BA.out.size (fun k hk => by cases hk; have := NM.out; have := ZA.out; omega))
          have BDY : Below zD.heap.size zD Y := BD.out.grown gY BD.out.size (fun k hk => by cases hk; exact NM.out)
          have SY : OwnN Y zD.heap.size (.agg #[.slice b0 d0 e0, .slice b1 d1 e1]) R.1 := ((S2w.out.later (SB.out.grown gY SB.out.size (fun k hk => by cases hk; exact Nat.le_refl _))).base HVS.out)
          have HSTY := Lib.hid (STD.out.next BDY SY LN0.out NZ.out)
          have LMY : Hid (nb < wk.heap.size ∧ wk.heap.size < Y.heap.size) := Lib.hid ⟨by have := NM.out; have := LN0.out; omega, Nat.lt_of_lt_of_le LM.out gY.size⟩
          clear r0 r1 hY SY BDY
          refine hK.out _ _ (HSS.out _ KNY.out BBY) (fun hHeld => ?_)
          clear hK K gY
          try simp only [getElem_toArray, getElem_cons_zero, getElem_cons_succ, Act.put, setIfInBounds_toArray, set_cons_zero, set_cons_succ]
          refine tk0 12 ?_
          refine tk0 13 ?_
          refine wpAnyH_done (by kernel_rfl) ?_ _
          clear hHeld HSS
          go_wp2_with fail
          go_meet
          exact ⟨wk.heap.size, b0, d0, e0, b1, d1, e1, rfl, rfl, R1, HSTY, BAY, LMY⟩
        · go_simp
          obtain ⟨V, hV⟩ : ∃ V, V = zD.alloc (.cells #[.slice none 0 0, .slice none 0 0] 27) := ⟨_, rfl⟩
          rw [← hV]
          have bV : Below zD.heap.size zD V := by rw [hV]; exact (Below.refl _ _).alloc (Nat.le_refl _) _
          have KM : Hid (V.heap[zD.heap.size]? = some (.cells #[.slice none 0 0, .slice none 0 0] 27 (0, 0))) := Lib.hid (by rw [hV]; exact heap_new _ _)
          have LM : Hid (zD.heap.size < V.heap.size) := Lib.hid (by rw [hV]; simp)
          have NM : Hid (zD.heap.size ≤ zD.heap.size) := Lib.hid BD.out.size
          replace KN := tkb bV LN KN
          replace LN := tlz LN bV.size
          replace BB := tbt BB bV
          replace BA := tbt BA bV
          replace BD := tbt BD bV
          clear bV hV
          refine hK.out _ _ (HSS.out _ KN.out BB.out) (fun hHeld => ?_)
          clear hK K
          try simp only [getElem_toArray, getElem_cons_zero, getElem_cons_succ, Act.put, setIfInBounds_toArray, set_cons_zero, set_cons_succ]
          refine rd1 5 (fun K hK => ?_)
          have LMV : Hid (zD.heap.size < V.heap.size) := LM
          have hc := spec_apply sk _ x V.heap.size V (STD.out.own.later BD.out).st (Nat.le_refl _) Hkeep.out.1 Hkeep.out.2 Hfx.out
          rw [← HR.out] at hc
          unfold rqA at hc
          go_simp
          go_at_call 17
          refine hc.mono ?_
          rintro e wk ⟨v2, rfl, ho, hbk⟩
          have S2 := Lib.hid ho
          obtain ⟨b0, d0, e0, b1, d1, e1, rfl⟩ := ho.two'
          have HVS : Hid (zD.heap.size ≤ V.heap.size) := Lib.hid BD.out.size
          replace KN := tkb hbk LN KN
          replace LN := tlz LN hbk.size
          replace KM := tkb hbk LM KM
          replace LM := tlz LM hbk.size
          replace BB := tbt BB hbk
          replace BA := tbt BA hbk
          replace BD := tbt BD hbk
          clear ho hbk hc
          go_wp2_with fail
          refine hK.out _ _ (HSS.out _ KN.out BB.out) (fun hHeld => ?_)
          clear hK K
          refine tk0 6 ?_
          refine tk0 7 ?_
          refine tk0 8 ?_
          refine tk0 9 ?_
          have fM0 := tcr KM 0
          have fM1 := tcr KM 1
          have zM0 := tfr KM 0
          have zM1 := tfr KM 1
          refine rd1 11 (fun K hK => ?_)
          go_simp
          obtain ⟨Y, hY⟩ : ∃ Y, Y = (wk.setCell ⟨zD.heap.size, 0, none⟩ (.slice b0 d0 e0)).setCell ⟨zD.heap.size, 1, none⟩ (.slice b1 d1 e1) := ⟨_, rfl⟩
          rw [← hY]
          have r0 := heap_setCell_same _ (zD.heap.size) 0 _ _ (.slice b0 d0 e0) KM.out
          have r1 := heap_setCell_same _ (zD.heap.size) 1 _ _ (.slice b1 d1 e1) r0
          rw [← hY] at r1
          simp only [List.setIfInBounds_toArray, List.set_cons_zero, List.set_cons_succ] at r1
          have R1 := Lib.hid r1
          have gY : wk.grownBy Y (some (zD.heap.size)) := by rw [hY]; exact (grown_set _ ⟨zD.heap.size, 0, none⟩ _).trans (grown_set _ ⟨zD.heap.size, 1, none⟩ _)
          clear fM0 fM1
          clear zM0 zM1
          have KNY := Lib.hid ((gY.block _ LN.out (fun e => by have := NM.out; have := LN0.out; simp only [Option.some.injEq] at e; omega)).trans KN.out)
          have BBY : Below w.heap.size w Y := BB.out.grown gY BB.out.size (fun k hk => by cases hk; have := NM.out; have := NZ.out; omega)
          have BAY : Hid (Below wr.heap.size wr Y) := Lib.hid (BA.out.grown gY BA.out.size (fun k hk => by cases hk; have := NM.out; have := ZA.out; omega))
          have BDY : Below zD.heap.size zD Y := BD.out.grown gY BD.out.size (fun k hk => by cases hk; exact NM.out)
          have SY : OwnN Y zD.heap.size (.agg #[.slice b0 d0 e0, .slice b1 d1 e1]) R.1 := ((S2.out.kept gY (Nat.lt_of_lt_of_le LMV.out (Nat.le_refl _))).base HVS.out)
          have HSTY := Lib.hid (STD.out.next BDY SY LN0.out NZ.out)
          have LMY : Hid (nb < zD.heap.size ∧ zD.heap.size < Y.heap.size) := Lib.hid ⟨by have := NM.out; have := LN0.out; omega, Nat.lt_of_lt_of_le LM.out gY.size⟩
          clear r0 r1 hY SY BDY
          refine hK.out _ _ (HSS.out _ KNY.out BBY) (fun hHeld => ?_)
          clear hK K gY
          try simp only [getElem_toArray, getElem_cons_zero, getElem_cons_succ, Act.put, setIfInBounds_toArray, set_cons_zero, set_cons_succ]
          refine tk0 12 ?_
          refine tk0 13 ?_
          refine wpAnyH_done (by kernel_rfl) ?_ _
          clear hHeld HSS
          go_wp2_with fail
          go_meet
          exact ⟨zD.heap.size, b0, d0, e0, b1, d1, e1, rfl, rfl, R1, HSTY, BAY, LMY⟩
      case rest =>
        obtain ⟨mb, b0, d0, e0, b1, d1, e1, rfl, rfl, KM, ST2, bA, NM⟩ := hcut
        obtain ⟨w5, rfl⟩ : ∃ z, z = wc := ⟨_, rfl⟩
        clear HSS HOP
        have KN5 := Lib.hid ((bA.out.block _ LN.out).trans KN.out)
        have LN5 := Lib.hid (Nat.lt_of_lt_of_le LN.out bA.out.size)
        have BW5 : Hid (Below (w.heap.size + 2) X w5) := Lib.hid (BW.out.trans (bA.out.mono (by have := LN.out; have := NB2.out; omega)))
        clear KN LN BW STX KP KR LP LR BBr BB
        have KN := KN5
        have LN := LN5
        clear KN5 LN5
        have fN0 := tcr KN 0
        have fN1 := tcr KN 1
        have fM0 := tcr KM 0
        have fM1 := tcr KM 1
        have zN0 := tfr KN 0
        have zN1 := tfr KN 1
        have gN : w5.grownBy ((w5.setCell ⟨nb, 0, none⟩ (.slice b0 d0 e0)).setCell ⟨nb, 1, none⟩ (.slice b1 d1 e1)) (some nb) := (grown_set _ ⟨nb, 0, none⟩ _).trans (grown_set _ ⟨nb, 1, none⟩ _)
        have ST3 := Lib.hid (ST2.out.set gN)
        have r0 := heap_setCell_same _ nb 0 _ _ (.slice b0 d0 e0) KN.out
        have r1 := heap_setCell_same _ nb 1 _ _ (.slice b1 d1 e1) r0
        simp only [List.setIfInBounds_toArray, List.set_cons_zero, List.set_cons_succ] at r1
        have R1 := Lib.hid r1
        have BW6 : Hid (Below (w.heap.size + 2) X ((w5.setCell ⟨nb, 0, none⟩ (.slice b0 d0 e0)).setCell ⟨nb, 1, none⟩ (.slice b1 d1 e1))) := Lib.hid (BW5.out.grown gN (by have := LN.out; have := NB2.out; omega) (fun k hk => by cases hk; have := NB2.out; omega))
        have LN6 : Hid (nb < ((w5.setCell ⟨nb, 0, none⟩ (.slice b0 d0 e0)).setCell ⟨nb, 1, none⟩ (.slice b1 d1 e1)).heap.size) := Lib.hid (by simpa using LN.out)
        clear r0 r1 gN
        obtain ⟨i0, hi, hz0, hz1, hz2⟩ := info_parts infoStr
        have hrow := ST3.out.2.2
        have Hrow := Lib.hid hrow
        have hsz6 : w.heap.size + 2 ≤ ((w5.setCell ⟨nb, 0, none⟩ (.slice b0 d0 e0)).setCell ⟨nb, 1, none⟩ (.slice b1 d1 e1)).heap.size := by have := LN6.out; have := NB2.out; omega
        have HS6 := Lib.hid hsz6
        clear hrow hsz6
        have HNEW : Hid ((((w5.setCell ⟨nb, 0, none⟩ (.slice b0 d0 e0)).setCell ⟨nb, 1, none⟩ (.slice b1 d1 e1)).alloc (.cells #[.string R.2.1] 9)).heap[w5.heap.size]? = some (.cells #[.string R.2.1] 9 (0, 0))) := Lib.hid (by simpa using heap_new ((w5.setCell ⟨nb, 0, none⟩ (.slice b0 d0 e0)).setCell ⟨nb, 1, none⟩ (.slice b1 d1 e1)) (.cells #[.string R.2.1] 9))
        go_wp2_with (at_builtin; refine Go.wpList_append_own_at _ rfl _ _ 31 rfl (w.heap.size + 2) 9 i0 (.string ⟨#[]⟩) 1 16 Tryz.underlying31 hi hz0 hz1 hz2 rfl (by decide) _ _ _ rfl (World.ownsRow.alloc Hrow.out _) ⟨_, 0, none⟩ 1 1 [.string R.2.1] rfl rfl (cell_one_of HNEW.out) (by simp [Value.oneCell']) (by unfold maxLen; have := HRL.out; omega) (by have := HRL.out; omega) (by have := HS6.out; simp at this ⊢; omega) ?_; intro v' w9 hown' hgrow hnil hat; refine Hid.out ?_)
        refine Lib.hid ?_
        clear fN0 fN1 fM0 fM1
        clear zN0 zN1
        have hgrow2 : (((w5.setCell ⟨nb, 0, none⟩ (.slice b0 d0 e0)).setCell ⟨nb, 1, none⟩ (.slice b1 d1 e1)).alloc (.cells #[.string R.2.1] 9)).grownBy w9 ov.ownBlock := hgrow
        have hat2 : v'.ownBlock = ov.ownBlock ∨ v'.ownBlock = some (((w5.setCell ⟨nb, 0, none⟩ (.slice b0 d0 e0)).setCell ⟨nb, 1, none⟩ (.slice b1 d1 e1)).alloc (.cells #[.string R.2.1] 9)).heap.size := hat
        have hZs : nb < (((w5.setCell ⟨nb, 0, none⟩ (.slice b0 d0 e0)).setCell ⟨nb, 1, none⟩ (.slice b1 d1 e1)).alloc (.cells #[.string R.2.1] 9)).heap.size := by have := LN6.out; simp at this ⊢; omega
        have STZ : StTx (((w5.setCell ⟨nb, 0, none⟩ (.slice b0 d0 e0)).setCell ⟨nb, 1, none⟩ (.slice b1 d1 e1)).alloc (.cells #[.string R.2.1] 9)) (w.heap.size + 2) nb (.agg #[.slice b0 d0 e0, .slice b1 d1 e1]) R.1 ov rk := ST3.out.later ((Below.refl _ _).alloc (Nat.le_refl _) _)
        have ST9 : Hid (StTx w9 (w.heap.size + 2) nb (.agg #[.slice b0 d0 e0, .slice b1 d1 e1]) R.1 v' (rk ++ [R.2.1])) := Lib.hid (STZ.grow hgrow2 (Texts.snoc hown') (fun k hk => by
          rcases hat2 with h | h
          · exact .inl (h ▸ hk)
          · rw [h] at hk; cases hk; exact .inr (Nat.le_refl _)) hZs)
        have KN9 : Hid (w9.heap[nb]? = some (.cells #[.slice b0 d0 e0, .slice b1 d1 e1] 27 (0, 0))) := Lib.hid ((hgrow2.block nb hZs (by first | exact ST3.out.2.1 | exact fun e => ST3.out.2.1 e.symm)).trans (by rw [Below.heap_alloc _ _ _ LN6.out]; exact R1.out))
        have BW9 : Hid (Below (w.heap.size + 2) X w9) := Lib.hid ((BW6.out.alloc HS6.out _).grown hgrow2 (by have := hZs; have := NB2.out; omega) (fun k hk => Texts.own ST3.out.2.2 k hk))
        clear hown' hgrow hnil hat hgrow2 hat2 STZ hZs
        go_wp2_with fail
        go_roundw
        case rel => exact ⟨k + 1, _, by omega, by go_num, rfl, b0, d0, e0, b1, d1, e1, KN9, Lib.hid (by rw [HNX.out, ← HR.out]; exact ST9.out), BW9⟩
        case measure => simp [intOf]; omega
    · obtain rfl : k = xs.length := by omega
      rw [List.take_length] at STX
      clear hlt hk
      have fR0 := tcr KR 0
      have fR1 := tcr KR 1
      have fN0 := tcr KN 0
      have fN1 := tcr KN 1
      have zR0 := tfr KR 0
      have zR1 := tfr KR 1
      go_wp2_with fail
      clear fR0 fR1 fN0 fN1
      clear zR0 zR1
      have f1 := heap_setCell_same _ (w.heap.size + 1) 0 _ _ (.slice a0 n0 c0) KR.out
      have f2 := heap_setCell_same _ (w.heap.size + 1) 1 _ _ (.slice a1 n1 c1) f1
      obtain ⟨j0, q1, q2, q3, q4⟩ := info_parts infoSt
      have g1 := (grown_set wr ⟨w.heap.size + 1, 0, none⟩ (.slice a0 n0 c0)).trans (grown_set _ ⟨w.heap.size + 1, 1, none⟩ (.slice a1 n1 c1))
      refine bodyPost_ret (results_cell_row2 (P := Tryz.prog) rfl _ _ (w.heap.size + 1) _ _ (0, 0) _ _ rfl rfl f2 Tryz.underlying27 rfl (by rw [q1]; simp [q3])) rfl ⟨.agg #[.slice a0 n0 c0, .slice a1 n1 c1], ov, rfl, ?_, ?_, ?_⟩
      · exact (STX.out.own.kept g1 (by show w.heap.size + 1 < _; omega)).base (by omega)
      · exact owns_base (texts_kept STX.out.2.2 g1 (.inr (fun e => by have := Texts.own STX.out.2.2 _ e; revert this; show ¬ w.heap.size + 2 ≤ w.heap.size + 1; omega))) (by omega)
      · exact (BBr.out.setCell (p := ⟨w.heap.size + 1, 0, none⟩) (by simp) _).setCell (p := ⟨w.heap.size + 1, 1, none⟩) (by simp) _
end Go.Proofs.YtebmaplflpfjbaaGreatDoor
