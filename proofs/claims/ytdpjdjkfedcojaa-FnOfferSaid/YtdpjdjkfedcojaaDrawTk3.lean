/- A drawn Taker with a text that is offered: DrawOffer. Condition: a code of at most 2^20 bytes. -/
import Derived.Test.YtdpjdjkfedcojaaBaseA
import Derived.Test.YtdpjdjkfedcojaaDrawTk2
namespace Go.Proofs.Ytdpjdjkfedcojaa
open Go.RowKit
set_option linter.unusedVariables false
set_option linter.unusedSimpArgs false

set_option maxRecDepth 100000 in
set_option maxHeartbeats 8000000 in
theorem drawOffer_any (a : Option Addr) (len cap : Nat) (zs : List Int) (w : World) (hr : Row8 w w.heap.size a len cap zs) (hl : len ≤ 1048576) :
    Calls Try.prog 10 #[.slice a len cap] w fun e w' => ∃ (t : Tkr) (s : ByteArray), e = .returned (.tuple #[.agg #[.int .i64 t.of, .int .i64 t.nx, .int .i64 t.ch, .string t.b], .string s]) ∧ FitTkr t ∧ t.b.size ≤ 120000 ∧ s.size ≤ 1000 ∧ Below w.heap.size w w' := by
  obtain ⟨W0, hW0⟩ : ∃ W, W = w.alloc (.cells #[.int .i64 0, .int .i64 0, .int .i64 0, .string ⟨#[]⟩] 25) := ⟨_, rfl⟩
  have bW : Below w.heap.size w W0 := by rw [hW0]; exact (Below.refl _ _).alloc (Nat.le_refl _) _
  have KR : Hid (W0.heap[w.heap.size]? = some (.cells #[.int .i64 0, .int .i64 0, .int .i64 0, .string ⟨#[]⟩] 25 (0, 0))) := Lib.hid (by rw [hW0]; exact heap_new _ _)
  have LR : Hid (w.heap.size < W0.heap.size) := Lib.hid (by rw [hW0]; simp)
  have hc := new_any a len cap zs W0 (hr.later bW) hl
  rw [hW0] at hc
  have BB := Lib.hid bW
  clear hr bW
  go_enter Try.func10, Try.ntmps10
  go_wp2_with (go_at_call 30; refine hc.mono ?_; rintro e w1 ⟨rfl, cu, hb⟩; refine Hid.out ?_)
  refine Lib.hid ?_
  have hWs : W0.heap.size = w.heap.size + 1 := by rw [hW0]; simp
  rw [← hW0] at cu hb
  rw [hWs] at cu
  clear hc hW0 hWs
  have HN : Hid (w.heap.size + 1 < w1.heap.size) := Lib.hid cu.lt
  replace KR := tkb hb LR KR
  replace LR := tlz LR hb.size
  replace BB := tbt BB hb
  have CU := Lib.hid cu
  clear hb cu
  have hc := make8_any _ _ _ CU.out
  go_wp2_with (go_at_call 31; refine hc.mono ?_; rintro e w2 ⟨t, v, E, rfl, hok, ⟨base, hbase, hT⟩, hEm, hEl, cu, gr⟩; refine Hid.out ?_)
  refine Lib.hid ?_
  have HW1 : Hid (w1.heap.size ≤ w2.heap.size) := Lib.hid gr.size
  obtain ⟨hfit, hbz, hnx⟩ := tk_fit hok
  obtain ⟨vo, vn, vc, vb⟩ := t
  dsimp only at hfit hbz hnx hok
  have HF := Lib.hid hfit
  have HBZ := Lib.hid hbz
  have HT := Lib.hid hT
  have HBS := Lib.hid hbase
  have Hmem := Lib.hid hEm
  obtain ⟨ea, ec, rfl, _⟩ := texts_rawK hT
  clear hfit hbz hok hT hbase hEm
  replace KR := tkg gr LR KR (fun e => by have e2 := Option.some.inj e; have h1 := HN.out; omega)
  replace LR := tlz LR gr.size
  replace BB := Lib.hid (BB.out.grown gr BB.out.size (fun j e => by have := HN.out; cases e; omega))
  replace CU := Lib.hid cu
  clear gr cu hc  
  obtain ⟨X2, hX2⟩ : ∃ z, z = w2.alloc (.cells #[.int .i64 vo, .int .i64 vn, .int .i64 vc, .string vb] 25) := ⟨_, rfl⟩
  have hb : Below w2.heap.size w2 X2 := by rw [hX2]; exact (Below.refl _ _).alloc (Nat.le_refl _) _
  replace KR := tkb hb LR KR
  replace LR := tlz LR hb.size
  replace HT := Lib.hid (sp_later HT.out hb)
  replace BB := tbt BB hb
  replace CU := Lib.hid (CU.out.kept (hb.mono (by have := CU.out.le; have := CU.out.lt; omega)) (hb.block _ CU.out.lt))
  have KT : Hid (X2.heap[w2.heap.size]? = some (.cells #[.int .i64 vo, .int .i64 vn, .int .i64 vc, .string vb] 25 (0, 0))) := Lib.hid (by rw [hX2]; exact heap_new _ _)
  have LT : Hid (w2.heap.size < X2.heap.size) := Lib.hid (by rw [hX2]; simp)
  clear hb
  have LT5 : Hid (w.heap.size + 1 < w2.heap.size) := Lib.hid (by have := HN.out; have := HW1.out; omega)
  obtain ⟨kk, hkk⟩ : ∃ kk : Nat, vn = (kk : Int) + 1 := ⟨(vn - 1).toNat, by omega⟩
  have HKK := Lib.hid hkk
  have hwn : IntKind.i64.wrap (vn - 1) = (kk : Int) := by rw [IntKind.wrap_i64] <;> omega
  have hvn := hnx
  clear hnx hkk
  have hc := below_any 4 (by omega) _ _ _ CU.out
  rw [hX2] at hc  
  go_wp2_with (go_at_call 32; refine hc.mono ?_; rintro e w3 ⟨x, ⟨hx0, hx1, _⟩, rfl, cu, gr⟩; refine Hid.out ?_)
  refine Lib.hid ?_
  rw [← hX2] at gr
  have hx1 := hx1 (by omega)
  have Hx : Hid (0 ≤ x ∧ x < 4) := Lib.hid ⟨hx0, hx1⟩
  clear hx0 hx1
  replace KR := tkg gr LR KR (fun e => by have e2 := Option.some.inj e; have h1 := HN.out; have h9 := LT5.out; omega)
  replace LR := tlz LR gr.size
  replace KT := tkg gr LT KT (fun e => by have e2 := Option.some.inj e; have h1 := HN.out; have h9 := LT5.out; omega)
  replace LT := tlz LT gr.size
  replace HT := Lib.hid (texts_kept HT.out gr HBS.out)
  replace BB := Lib.hid (BB.out.grown gr BB.out.size (fun j e => by have := HN.out; cases e; omega))
  replace CU := Lib.hid cu
  clear gr cu hc  
  clear hX2
  have hx := Hx.out
  clear Hx
  rcases (show x = 0 ∨ x = 1 ∨ 2 ≤ x by omega) with rfl | rfl | hx2
  · have hc := piece_lit _ _ _ CU.out
    go_wp2_with (go_at_call 34; refine hc.mono ?_; rintro e w4 ⟨pn, po, pb, pch, hok, rfl, cu, gr⟩; refine Hid.out ?_)
    refine Lib.hid ?_
    have hp := hok
    clear hok
    replace KR := tkg gr LR KR (fun e => by have e2 := Option.some.inj e; have h1 := HN.out; have h9 := LT5.out; omega)
    replace LR := tlz LR gr.size
    replace KT := tkg gr LT KT (fun e => by have e2 := Option.some.inj e; have h1 := HN.out; have h9 := LT5.out; omega)
    replace LT := tlz LT gr.size
    replace HT := Lib.hid (texts_kept HT.out gr HBS.out)
    replace BB := Lib.hid (BB.out.grown gr BB.out.size (fun j e => by have := HN.out; cases e; omega))
    replace CU := Lib.hid cu
    clear gr cu hc  
    have hc := spec_putPiece ⟨pn, po, pb, pch⟩ w4 (by obtain ⟨h1, h2, h3, h4⟩ := pc_in hp; exact ⟨by omega, by omega, by unfold maxLen; omega, by omega⟩)
    unfold pcV at hc
    dsimp only at hc
    have hz4 := pc_le ⟨pn, po, pb, pch⟩
    obtain ⟨S, hS⟩ : ∃ S, S = pcB ⟨pn, po, pb, pch⟩ := ⟨_, rfl⟩
    rw [← hS] at hc hz4
    clear hS hp
    go_wp2_with (go_at_call 33; refine hc.mono ?_; rintro e w5 ⟨rfl, hb⟩; refine Hid.out ?_)
    refine Lib.hid ?_
    replace KR := tkb hb LR KR
    replace LR := tlz LR hb.size
    replace KT := tkb hb LT KT
    replace LT := tlz LT hb.size
    replace HT := Lib.hid (sp_later HT.out hb)
    replace BB := tbt BB hb
    replace CU := Lib.hid (CU.out.kept (hb.mono (by have := CU.out.le; have := CU.out.lt; omega)) (hb.block _ CU.out.lt))
    clear hb hc  
    have hc := once_any 8 (by omega) _ _ _ CU.out
    have fT0 := tcr KT 0
    have fT1 := tcr KT 1
    have fT2 := tcr KT 2
    have fT3 := tcr KT 3
    go_wp2_with (go_at_call 36; refine hc.mono ?_; rintro e u5 ⟨bo, rfl, cu, gr⟩; refine Hid.out ?_)
    refine Lib.hid ?_
    replace KR := tkg gr LR KR (fun e => by have e2 := Option.some.inj e; have h1 := HN.out; have h9 := LT5.out; omega)
    replace LR := tlz LR gr.size
    replace KT := tkg gr LT KT (fun e => by have e2 := Option.some.inj e; have h1 := HN.out; have h9 := LT5.out; omega)
    replace LT := tlz LT gr.size
    replace HT := Lib.hid (texts_kept HT.out gr HBS.out)
    replace BB := Lib.hid (BB.out.grown gr BB.out.size (fun j e => by have := HN.out; cases e; omega))
    replace CU := Lib.hid cu
    clear gr cu hc fT0 fT1 fT2 fT3 
    cases bo
    · have f0 := tcr KT 0
      have f1 := tcr KT 1
      have f2 := tcr KT 2
      have f3 := tcr KT 3
      have g0 := tcr KR 0
      have g1 := tcr KR 1
      have g2 := tcr KR 2
      have g3 := tcr KR 3
      have z0 := tfr KR 0
      have z1 := tfr KR 1
      have z2 := tfr KR 2
      have z3 := tfr KR 3
      go_wp2_with fail
      obtain ⟨j0, q1, q2, q3, q4⟩ := info_parts infoTkr
      have hn := HN.out
      refine bodyPost_ret (results_cell_row2 (P := Try.prog) rfl _ _ w.heap.size _ _ (0, 0) _ (.string S) rfl rfl (storeT KR.out) Try.underlying25 rfl (by rw [q1]; simp [q3])) rfl ⟨⟨vo, vn, vc, vb⟩, S, rfl, HF.out, HBZ.out, by omega, below4 BB.out (Nat.le_refl _)⟩
    · have hc := odd8_any _ _ _ CU.out
      go_wp2_with (go_at_call 37; refine hc.mono ?_; rintro e u6 ⟨t, rfl, hf, hbz, cu, gr⟩; refine Hid.out ?_)
      refine Lib.hid ?_
      obtain ⟨yo, yn, yc, yb⟩ := t
      have HF2 := Lib.hid hf
      have HZ2 := Lib.hid hbz
      clear hf hbz
      replace KR := tkg gr LR KR (fun e => by have e2 := Option.some.inj e; have h1 := HN.out; have h9 := LT5.out; omega)
      replace LR := tlz LR gr.size
      replace KT := tkg gr LT KT (fun e => by have e2 := Option.some.inj e; have h1 := HN.out; have h9 := LT5.out; omega)
      replace LT := tlz LT gr.size
      replace HT := Lib.hid (texts_kept HT.out gr HBS.out)
      replace BB := Lib.hid (BB.out.grown gr BB.out.size (fun j e => by have := HN.out; cases e; omega))
      replace CU := Lib.hid cu
      clear gr cu hc  
      have f0 := tcr KT 0
      have f1 := tcr KT 1
      have f2 := tcr KT 2
      have f3 := tcr KT 3
      have y0 := tfr KT 0
      have y1 := tfr KT 1
      have y2 := tfr KT 2
      have y3 := tfr KT 3
      obtain ⟨Y, hY⟩ : ∃ Y, Y = (((u6.setCell ⟨w2.heap.size, 0, none⟩ (.int .i64 yo)).setCell ⟨w2.heap.size, 1, none⟩ (.int .i64 yn)).setCell ⟨w2.heap.size, 2, none⟩ (.int .i64 yc)).setCell ⟨w2.heap.size, 3, none⟩ (.string yb) := ⟨_, rfl⟩
      have KY : Hid (Y.heap[w2.heap.size]? = some (.cells #[.int .i64 yo, .int .i64 yn, .int .i64 yc, .string yb] 25 (0, 0))) := Lib.hid (by rw [hY]; exact storeT KT.out)
      have gY : u6.grownBy Y (some (w2.heap.size)) := by rw [hY]; exact (((grown_set _ ⟨w2.heap.size, 0, none⟩ _).trans (grown_set _ ⟨w2.heap.size, 1, none⟩ _)).trans (grown_set _ ⟨w2.heap.size, 2, none⟩ _)).trans (grown_set _ ⟨w2.heap.size, 3, none⟩ _)
      have h5 := LT5.out
      replace KR := tkg gY LR KR (fun e => by have e2 := Option.some.inj e; omega)
      replace BB := Lib.hid (BB.out.grown gY BB.out.size (fun j e => by cases e; omega))
      clear gY
      have k0 := tcr KY 0
      have k1 := tcr KY 1
      have k2 := tcr KY 2
      have k3 := tcr KY 3
      have g0 := tcr KR 0
      have g1 := tcr KR 1
      have g2 := tcr KR 2
      have g3 := tcr KR 3
      have z0 := tfr KR 0
      have z1 := tfr KR 1
      have z2 := tfr KR 2
      have z3 := tfr KR 3
      rw [hY] at k0 k1 k2 k3 g0 g1 g2 g3 z0 z1 z2 z3
      go_wp2_with fail
      rw [← hY]
      obtain ⟨j0, q1, q2, q3, q4⟩ := info_parts infoTkr
      have hn := HN.out
      refine bodyPost_ret (results_cell_row2 (P := Try.prog) rfl _ _ w.heap.size _ _ (0, 0) _ (.string S) rfl rfl (storeT KR.out) Try.underlying25 rfl (by rw [q1]; simp [q3])) rfl ⟨⟨yo, yn, yc, yb⟩, S, rfl, HF2.out, HZ2.out, by omega, below4 BB.out (Nat.le_refl _)⟩
  · by_cases hle : vn ≤ (E.length : Int)
    · have dle : decide (vn ≤ (E.length : Int)) = true := decide_eq_true hle
      have hkE : kk < E.length := by have := HKK.out; omega
      have b0 : (0 : Int) ≤ (kk : Int) := by omega
      have b1 : (kk : Int) < (E.length : Int) := by omega
      obtain ⟨ga, capa, hv, hgot⟩ := sp_got HT.out (by omega)
      obtain ⟨e1, e2⟩ : ea = some ⟨ga, 0, none⟩ ∧ ec = capa := by injection hv with e1 _ e2; exact ⟨e1, e2⟩
      obtain ⟨xa, hxa⟩ : ∃ x, x = E[kk]'(hkE) := ⟨_, rfl⟩
      have zsa : xa.size ≤ 215 := by rw [hxa]; exact Hmem.out _ (List.getElem_mem _)
      have la := (sp_cell hgot kk (hkE)).1
      rw [← hxa] at la
      subst e1 e2
      clear hv hgot hxa
      have hc := bent_any xa 215 (by omega) (by omega) _ _ _ CU.out
      have fT0 := tcr KT 0
      have fT1 := tcr KT 1
      have fT2 := tcr KT 2
      have fT3 := tcr KT 3
      go_wp2_with (go_at_call 35; refine hc.mono ?_; rintro e w4 ⟨u, hu, rfl, cu, gr⟩; refine Hid.out ?_)
      refine Lib.hid ?_
      replace KR := tkg gr LR KR (fun e => by have e2 := Option.some.inj e; have h1 := HN.out; have h9 := LT5.out; omega)
      replace LR := tlz LR gr.size
      replace KT := tkg gr LT KT (fun e => by have e2 := Option.some.inj e; have h1 := HN.out; have h9 := LT5.out; omega)
      replace LT := tlz LT gr.size
      replace HT := Lib.hid (texts_kept HT.out gr HBS.out)
      replace BB := Lib.hid (BB.out.grown gr BB.out.size (fun j e => by have := HN.out; cases e; omega))
      replace CU := Lib.hid cu
      clear gr cu hc fT0 fT1 fT2 fT3 
      have hc := once_any 8 (by omega) _ _ _ CU.out
      have fT0 := tcr KT 0
      have fT1 := tcr KT 1
      have fT2 := tcr KT 2
      have fT3 := tcr KT 3
      go_wp2_with (go_at_call 36; refine hc.mono ?_; rintro e u7 ⟨bo, rfl, cu, gr⟩; refine Hid.out ?_)
      refine Lib.hid ?_
      replace KR := tkg gr LR KR (fun e => by have e2 := Option.some.inj e; have h1 := HN.out; have h9 := LT5.out; omega)
      replace LR := tlz LR gr.size
      replace KT := tkg gr LT KT (fun e => by have e2 := Option.some.inj e; have h1 := HN.out; have h9 := LT5.out; omega)
      replace LT := tlz LT gr.size
      replace HT := Lib.hid (texts_kept HT.out gr HBS.out)
      replace BB := Lib.hid (BB.out.grown gr BB.out.size (fun j e => by have := HN.out; cases e; omega))
      replace CU := Lib.hid cu
      clear gr cu hc fT0 fT1 fT2 fT3 
      cases bo
      · have f0 := tcr KT 0
        have f1 := tcr KT 1
        have f2 := tcr KT 2
        have f3 := tcr KT 3
        have g0 := tcr KR 0
        have g1 := tcr KR 1
        have g2 := tcr KR 2
        have g3 := tcr KR 3
        have z0 := tfr KR 0
        have z1 := tfr KR 1
        have z2 := tfr KR 2
        have z3 := tfr KR 3
        go_wp2_with fail
        obtain ⟨j0, q1, q2, q3, q4⟩ := info_parts infoTkr
        have hn := HN.out
        refine bodyPost_ret (results_cell_row2 (P := Try.prog) rfl _ _ w.heap.size _ _ (0, 0) _ (.string u) rfl rfl (storeT KR.out) Try.underlying25 rfl (by rw [q1]; simp [q3])) rfl ⟨⟨vo, vn, vc, vb⟩, u, rfl, HF.out, HBZ.out, by omega, below4 BB.out (Nat.le_refl _)⟩
      · have hc := odd8_any _ _ _ CU.out
        go_wp2_with (go_at_call 37; refine hc.mono ?_; rintro e u8 ⟨t, rfl, hf, hbz, cu, gr⟩; refine Hid.out ?_)
        refine Lib.hid ?_
        obtain ⟨yo, yn, yc, yb⟩ := t
        have HF2 := Lib.hid hf
        have HZ2 := Lib.hid hbz
        clear hf hbz
        replace KR := tkg gr LR KR (fun e => by have e2 := Option.some.inj e; have h1 := HN.out; have h9 := LT5.out; omega)
        replace LR := tlz LR gr.size
        replace KT := tkg gr LT KT (fun e => by have e2 := Option.some.inj e; have h1 := HN.out; have h9 := LT5.out; omega)
        replace LT := tlz LT gr.size
        replace HT := Lib.hid (texts_kept HT.out gr HBS.out)
        replace BB := Lib.hid (BB.out.grown gr BB.out.size (fun j e => by have := HN.out; cases e; omega))
        replace CU := Lib.hid cu
        clear gr cu hc  
        have f0 := tcr KT 0
        have f1 := tcr KT 1
        have f2 := tcr KT 2
        have f3 := tcr KT 3
        have y0 := tfr KT 0
        have y1 := tfr KT 1
        have y2 := tfr KT 2
        have y3 := tfr KT 3
        obtain ⟨Y, hY⟩ : ∃ Y, Y = (((u8.setCell ⟨w2.heap.size, 0, none⟩ (.int .i64 yo)).setCell ⟨w2.heap.size, 1, none⟩ (.int .i64 yn)).setCell ⟨w2.heap.size, 2, none⟩ (.int .i64 yc)).setCell ⟨w2.heap.size, 3, none⟩ (.string yb) := ⟨_, rfl⟩
        have KY : Hid (Y.heap[w2.heap.size]? = some (.cells #[.int .i64 yo, .int .i64 yn, .int .i64 yc, .string yb] 25 (0, 0))) := Lib.hid (by rw [hY]; exact storeT KT.out)
        have gY : u8.grownBy Y (some (w2.heap.size)) := by rw [hY]; exact (((grown_set _ ⟨w2.heap.size, 0, none⟩ _).trans (grown_set _ ⟨w2.heap.size, 1, none⟩ _)).trans (grown_set _ ⟨w2.heap.size, 2, none⟩ _)).trans (grown_set _ ⟨w2.heap.size, 3, none⟩ _)
        have h5 := LT5.out
        replace KR := tkg gY LR KR (fun e => by have e2 := Option.some.inj e; omega)
        replace BB := Lib.hid (BB.out.grown gY BB.out.size (fun j e => by cases e; omega))
        clear gY
        have k0 := tcr KY 0
        have k1 := tcr KY 1
        have k2 := tcr KY 2
        have k3 := tcr KY 3
        have g0 := tcr KR 0
        have g1 := tcr KR 1
        have g2 := tcr KR 2
        have g3 := tcr KR 3
        have z0 := tfr KR 0
        have z1 := tfr KR 1
        have z2 := tfr KR 2
        have z3 := tfr KR 3
        rw [hY] at k0 k1 k2 k3 g0 g1 g2 g3 z0 z1 z2 z3
        go_wp2_with fail
        rw [← hY]
        obtain ⟨j0, q1, q2, q3, q4⟩ := info_parts infoTkr
        have hn := HN.out
        refine bodyPost_ret (results_cell_row2 (P := Try.prog) rfl _ _ w.heap.size _ _ (0, 0) _ (.string u) rfl rfl (storeT KR.out) Try.underlying25 rfl (by rw [q1]; simp [q3])) rfl ⟨⟨yo, yn, yc, yb⟩, u, rfl, HF2.out, HZ2.out, by omega, below4 BB.out (Nat.le_refl _)⟩
    · have dle : decide (vn ≤ (E.length : Int)) = false := by rw [decide_eq_false_iff_not]; exact hle
      have hc := once_any 8 (by omega) _ _ _ CU.out
      have fT0 := tcr KT 0
      have fT1 := tcr KT 1
      have fT2 := tcr KT 2
      have fT3 := tcr KT 3
      go_wp2_with (go_at_call 36; refine hc.mono ?_; rintro e u9 ⟨bo, rfl, cu, gr⟩; refine Hid.out ?_)
      refine Lib.hid ?_
      replace KR := tkg gr LR KR (fun e => by have e2 := Option.some.inj e; have h1 := HN.out; have h9 := LT5.out; omega)
      replace LR := tlz LR gr.size
      replace KT := tkg gr LT KT (fun e => by have e2 := Option.some.inj e; have h1 := HN.out; have h9 := LT5.out; omega)
      replace LT := tlz LT gr.size
      replace HT := Lib.hid (texts_kept HT.out gr HBS.out)
      replace BB := Lib.hid (BB.out.grown gr BB.out.size (fun j e => by have := HN.out; cases e; omega))
      replace CU := Lib.hid cu
      clear gr cu hc fT0 fT1 fT2 fT3 
      cases bo
      · have f0 := tcr KT 0
        have f1 := tcr KT 1
        have f2 := tcr KT 2
        have f3 := tcr KT 3
        have g0 := tcr KR 0
        have g1 := tcr KR 1
        have g2 := tcr KR 2
        have g3 := tcr KR 3
        have z0 := tfr KR 0
        have z1 := tfr KR 1
        have z2 := tfr KR 2
        have z3 := tfr KR 3
        go_wp2_with fail
        obtain ⟨j0, q1, q2, q3, q4⟩ := info_parts infoTkr
        have hn := HN.out
        refine bodyPost_ret (results_cell_row2 (P := Try.prog) rfl _ _ w.heap.size _ _ (0, 0) _ (.string ⟨#[]⟩) rfl rfl (storeT KR.out) Try.underlying25 rfl (by rw [q1]; simp [q3])) rfl ⟨⟨vo, vn, vc, vb⟩, ⟨#[]⟩, rfl, HF.out, HBZ.out, by decide, below4 BB.out (Nat.le_refl _)⟩
      · have hc := odd8_any _ _ _ CU.out
        go_wp2_with (go_at_call 37; refine hc.mono ?_; rintro e u10 ⟨t, rfl, hf, hbz, cu, gr⟩; refine Hid.out ?_)
        refine Lib.hid ?_
        obtain ⟨yo, yn, yc, yb⟩ := t
        have HF2 := Lib.hid hf
        have HZ2 := Lib.hid hbz
        clear hf hbz
        replace KR := tkg gr LR KR (fun e => by have e2 := Option.some.inj e; have h1 := HN.out; have h9 := LT5.out; omega)
        replace LR := tlz LR gr.size
        replace KT := tkg gr LT KT (fun e => by have e2 := Option.some.inj e; have h1 := HN.out; have h9 := LT5.out; omega)
        replace LT := tlz LT gr.size
        replace HT := Lib.hid (texts_kept HT.out gr HBS.out)
        replace BB := Lib.hid (BB.out.grown gr BB.out.size (fun j e => by have := HN.out; cases e; omega))
        replace CU := Lib.hid cu
        clear gr cu hc  
        have f0 := tcr KT 0
        have f1 := tcr KT 1
        have f2 := tcr KT 2
        have f3 := tcr KT 3
        have y0 := tfr KT 0
        have y1 := tfr KT 1
        have y2 := tfr KT 2
        have y3 := tfr KT 3
        obtain ⟨Y, hY⟩ : ∃ Y, Y = (((u10.setCell ⟨w2.heap.size, 0, none⟩ (.int .i64 yo)).setCell ⟨w2.heap.size, 1, none⟩ (.int .i64 yn)).setCell ⟨w2.heap.size, 2, none⟩ (.int .i64 yc)).setCell ⟨w2.heap.size, 3, none⟩ (.string yb) := ⟨_, rfl⟩
        have KY : Hid (Y.heap[w2.heap.size]? = some (.cells #[.int .i64 yo, .int .i64 yn, .int .i64 yc, .string yb] 25 (0, 0))) := Lib.hid (by rw [hY]; exact storeT KT.out)
        have gY : u10.grownBy Y (some (w2.heap.size)) := by rw [hY]; exact (((grown_set _ ⟨w2.heap.size, 0, none⟩ _).trans (grown_set _ ⟨w2.heap.size, 1, none⟩ _)).trans (grown_set _ ⟨w2.heap.size, 2, none⟩ _)).trans (grown_set _ ⟨w2.heap.size, 3, none⟩ _)
        have h5 := LT5.out
        replace KR := tkg gY LR KR (fun e => by have e2 := Option.some.inj e; omega)
        replace BB := Lib.hid (BB.out.grown gY BB.out.size (fun j e => by cases e; omega))
        clear gY
        have k0 := tcr KY 0
        have k1 := tcr KY 1
        have k2 := tcr KY 2
        have k3 := tcr KY 3
        have g0 := tcr KR 0
        have g1 := tcr KR 1
        have g2 := tcr KR 2
        have g3 := tcr KR 3
        have z0 := tfr KR 0
        have z1 := tfr KR 1
        have z2 := tfr KR 2
        have z3 := tfr KR 3
        rw [hY] at k0 k1 k2 k3 g0 g1 g2 g3 z0 z1 z2 z3
        go_wp2_with fail
        rw [← hY]
        obtain ⟨j0, q1, q2, q3, q4⟩ := info_parts infoTkr
        have hn := HN.out
        refine bodyPost_ret (results_cell_row2 (P := Try.prog) rfl _ _ w.heap.size _ _ (0, 0) _ (.string ⟨#[]⟩) rfl rfl (storeT KR.out) Try.underlying25 rfl (by rw [q1]; simp [q3])) rfl ⟨⟨yo, yn, yc, yb⟩, ⟨#[]⟩, rfl, HF2.out, HZ2.out, by decide, below4 BB.out (Nat.le_refl _)⟩
  · have d0 : (x == 0) = false := by rw [beq_eq_false_iff_ne]; omega
    have d1 : (x == 1) = false := by rw [beq_eq_false_iff_ne]; omega
    by_cases h0 : E.length = 0
    · have dl : decide (0 < (E.length : Int)) = false := by rw [decide_eq_false_iff_not]; omega
      have hle : ¬ vn ≤ (E.length : Int) := by omega
      have dle : decide (vn ≤ (E.length : Int)) = false := by rw [decide_eq_false_iff_not]; exact hle
      have hc := once_any 8 (by omega) _ _ _ CU.out
      have fT0 := tcr KT 0
      have fT1 := tcr KT 1
      have fT2 := tcr KT 2
      have fT3 := tcr KT 3
      go_wp2_with (go_at_call 36; refine hc.mono ?_; rintro e u11 ⟨bo, rfl, cu, gr⟩; refine Hid.out ?_)
      refine Lib.hid ?_
      replace KR := tkg gr LR KR (fun e => by have e2 := Option.some.inj e; have h1 := HN.out; have h9 := LT5.out; omega)
      replace LR := tlz LR gr.size
      replace KT := tkg gr LT KT (fun e => by have e2 := Option.some.inj e; have h1 := HN.out; have h9 := LT5.out; omega)
      replace LT := tlz LT gr.size
      replace HT := Lib.hid (texts_kept HT.out gr HBS.out)
      replace BB := Lib.hid (BB.out.grown gr BB.out.size (fun j e => by have := HN.out; cases e; omega))
      replace CU := Lib.hid cu
      clear gr cu hc fT0 fT1 fT2 fT3 
      cases bo
      · have f0 := tcr KT 0
        have f1 := tcr KT 1
        have f2 := tcr KT 2
        have f3 := tcr KT 3
        have g0 := tcr KR 0
        have g1 := tcr KR 1
        have g2 := tcr KR 2
        have g3 := tcr KR 3
        have z0 := tfr KR 0
        have z1 := tfr KR 1
        have z2 := tfr KR 2
        have z3 := tfr KR 3
        go_wp2_with fail
        obtain ⟨j0, q1, q2, q3, q4⟩ := info_parts infoTkr
        have hn := HN.out
        refine bodyPost_ret (results_cell_row2 (P := Try.prog) rfl _ _ w.heap.size _ _ (0, 0) _ (.string ⟨#[]⟩) rfl rfl (storeT KR.out) Try.underlying25 rfl (by rw [q1]; simp [q3])) rfl ⟨⟨vo, vn, vc, vb⟩, ⟨#[]⟩, rfl, HF.out, HBZ.out, by decide, below4 BB.out (Nat.le_refl _)⟩
      · have hc := odd8_any _ _ _ CU.out
        go_wp2_with (go_at_call 37; refine hc.mono ?_; rintro e u12 ⟨t, rfl, hf, hbz, cu, gr⟩; refine Hid.out ?_)
        refine Lib.hid ?_
        obtain ⟨yo, yn, yc, yb⟩ := t
        have HF2 := Lib.hid hf
        have HZ2 := Lib.hid hbz
        clear hf hbz
        replace KR := tkg gr LR KR (fun e => by have e2 := Option.some.inj e; have h1 := HN.out; have h9 := LT5.out; omega)
        replace LR := tlz LR gr.size
        replace KT := tkg gr LT KT (fun e => by have e2 := Option.some.inj e; have h1 := HN.out; have h9 := LT5.out; omega)
        replace LT := tlz LT gr.size
        replace HT := Lib.hid (texts_kept HT.out gr HBS.out)
        replace BB := Lib.hid (BB.out.grown gr BB.out.size (fun j e => by have := HN.out; cases e; omega))
        replace CU := Lib.hid cu
        clear gr cu hc  
        have f0 := tcr KT 0
        have f1 := tcr KT 1
        have f2 := tcr KT 2
        have f3 := tcr KT 3
        have y0 := tfr KT 0
        have y1 := tfr KT 1
        have y2 := tfr KT 2
        have y3 := tfr KT 3
        obtain ⟨Y, hY⟩ : ∃ Y, Y = (((u12.setCell ⟨w2.heap.size, 0, none⟩ (.int .i64 yo)).setCell ⟨w2.heap.size, 1, none⟩ (.int .i64 yn)).setCell ⟨w2.heap.size, 2, none⟩ (.int .i64 yc)).setCell ⟨w2.heap.size, 3, none⟩ (.string yb) := ⟨_, rfl⟩
        have KY : Hid (Y.heap[w2.heap.size]? = some (.cells #[.int .i64 yo, .int .i64 yn, .int .i64 yc, .string yb] 25 (0, 0))) := Lib.hid (by rw [hY]; exact storeT KT.out)
        have gY : u12.grownBy Y (some (w2.heap.size)) := by rw [hY]; exact (((grown_set _ ⟨w2.heap.size, 0, none⟩ _).trans (grown_set _ ⟨w2.heap.size, 1, none⟩ _)).trans (grown_set _ ⟨w2.heap.size, 2, none⟩ _)).trans (grown_set _ ⟨w2.heap.size, 3, none⟩ _)
        have h5 := LT5.out
        replace KR := tkg gY LR KR (fun e => by have e2 := Option.some.inj e; omega)
        replace BB := Lib.hid (BB.out.grown gY BB.out.size (fun j e => by cases e; omega))
        clear gY
        have k0 := tcr KY 0
        have k1 := tcr KY 1
        have k2 := tcr KY 2
        have k3 := tcr KY 3
        have g0 := tcr KR 0
        have g1 := tcr KR 1
        have g2 := tcr KR 2
        have g3 := tcr KR 3
        have z0 := tfr KR 0
        have z1 := tfr KR 1
        have z2 := tfr KR 2
        have z3 := tfr KR 3
        rw [hY] at k0 k1 k2 k3 g0 g1 g2 g3 z0 z1 z2 z3
        go_wp2_with fail
        rw [← hY]
        obtain ⟨j0, q1, q2, q3, q4⟩ := info_parts infoTkr
        have hn := HN.out
        refine bodyPost_ret (results_cell_row2 (P := Try.prog) rfl _ _ w.heap.size _ _ (0, 0) _ (.string ⟨#[]⟩) rfl rfl (storeT KR.out) Try.underlying25 rfl (by rw [q1]; simp [q3])) rfl ⟨⟨yo, yn, yc, yb⟩, ⟨#[]⟩, rfl, HF2.out, HZ2.out, by decide, below4 BB.out (Nat.le_refl _)⟩
    have dl : decide (0 < (E.length : Int)) = true := by rw [decide_eq_true_iff]; omega
    have hc := below_any (E.length : Int) (by omega) _ _ _ CU.out
    go_wp2_with (go_at_call 32; refine hc.mono ?_; rintro e w4 ⟨z, ⟨hx0, hx1, _⟩, rfl, cu, gr⟩; refine Hid.out ?_)
    refine Lib.hid ?_
    have hx1 := hx1 (by omega)
    have Hz : Hid (0 ≤ z ∧ z < (E.length : Int)) := Lib.hid ⟨hx0, hx1⟩
    clear hx0 hx1
    replace KR := tkg gr LR KR (fun e => by have e2 := Option.some.inj e; have h1 := HN.out; have h9 := LT5.out; omega)
    replace LR := tlz LR gr.size
    replace KT := tkg gr LT KT (fun e => by have e2 := Option.some.inj e; have h1 := HN.out; have h9 := LT5.out; omega)
    replace LT := tlz LT gr.size
    replace HT := Lib.hid (texts_kept HT.out gr HBS.out)
    replace BB := Lib.hid (BB.out.grown gr BB.out.size (fun j e => by have := HN.out; cases e; omega))
    replace CU := Lib.hid cu
    clear gr cu hc  
    have hz := Hz.out
    obtain ⟨m, rfl⟩ := Int.eq_ofNat_of_zero_le hz.1
    have hm : m < E.length := by omega
    have m0 : (0 : Int) ≤ (m : Int) := by omega
    have m1 : (m : Int) < (E.length : Int) := by omega
    clear Hz hz
    obtain ⟨gb, capb, hv, hgot⟩ := sp_got HT.out (by omega)
    obtain ⟨e1, e2⟩ : ea = some ⟨gb, 0, none⟩ ∧ ec = capb := by injection hv with e1 _ e2; exact ⟨e1, e2⟩
    obtain ⟨xb, hxb⟩ : ∃ x, x = E[m]'(hm) := ⟨_, rfl⟩
    have zsb : xb.size ≤ 215 := by rw [hxb]; exact Hmem.out _ (List.getElem_mem _)
    have lb := (sp_cell hgot m (hm)).1
    rw [← hxb] at lb
    subst e1 e2
    clear hv hgot hxb
    by_cases hle : vn ≤ (E.length : Int)
    · have dle : decide (vn ≤ (E.length : Int)) = true := decide_eq_true hle
      have hkE : kk < E.length := by have := HKK.out; omega
      have b0 : (0 : Int) ≤ (kk : Int) := by omega
      have b1 : (kk : Int) < (E.length : Int) := by omega
      have hc := once_any 2 (by omega) _ _ _ CU.out
      have fT0 := tcr KT 0
      have fT1 := tcr KT 1
      have fT2 := tcr KT 2
      have fT3 := tcr KT 3
      go_wp2_with (go_at_call 36; refine hc.mono ?_; rintro e w5 ⟨b2, rfl, cu, gr⟩; refine Hid.out ?_)
      refine Lib.hid ?_
      replace KR := tkg gr LR KR (fun e => by have e2 := Option.some.inj e; have h1 := HN.out; have h9 := LT5.out; omega)
      replace LR := tlz LR gr.size
      replace KT := tkg gr LT KT (fun e => by have e2 := Option.some.inj e; have h1 := HN.out; have h9 := LT5.out; omega)
      replace LT := tlz LT gr.size
      replace HT := Lib.hid (texts_kept HT.out gr HBS.out)
      replace BB := Lib.hid (BB.out.grown gr BB.out.size (fun j e => by have := HN.out; cases e; omega))
      replace CU := Lib.hid cu
      clear gr cu hc fT0 fT1 fT2 fT3 
      cases b2
      · have hc := once_any 8 (by omega) _ _ _ CU.out
        have fT0 := tcr KT 0
        have fT1 := tcr KT 1
        have fT2 := tcr KT 2
        have fT3 := tcr KT 3
        go_wp2_with (go_at_call 36; refine hc.mono ?_; rintro e u13 ⟨bo, rfl, cu, gr⟩; refine Hid.out ?_)
        refine Lib.hid ?_
        replace KR := tkg gr LR KR (fun e => by have e2 := Option.some.inj e; have h1 := HN.out; have h9 := LT5.out; omega)
        replace LR := tlz LR gr.size
        replace KT := tkg gr LT KT (fun e => by have e2 := Option.some.inj e; have h1 := HN.out; have h9 := LT5.out; omega)
        replace LT := tlz LT gr.size
        replace HT := Lib.hid (texts_kept HT.out gr HBS.out)
        replace BB := Lib.hid (BB.out.grown gr BB.out.size (fun j e => by have := HN.out; cases e; omega))
        replace CU := Lib.hid cu
        clear gr cu hc fT0 fT1 fT2 fT3 
        cases bo
        · have f0 := tcr KT 0
          have f1 := tcr KT 1
          have f2 := tcr KT 2
          have f3 := tcr KT 3
          have g0 := tcr KR 0
          have g1 := tcr KR 1
          have g2 := tcr KR 2
          have g3 := tcr KR 3
          have z0 := tfr KR 0
          have z1 := tfr KR 1
          have z2 := tfr KR 2
          have z3 := tfr KR 3
          go_wp2_with fail
          obtain ⟨j0, q1, q2, q3, q4⟩ := info_parts infoTkr
          have hn := HN.out
          refine bodyPost_ret (results_cell_row2 (P := Try.prog) rfl _ _ w.heap.size _ _ (0, 0) _ (.string xb) rfl rfl (storeT KR.out) Try.underlying25 rfl (by rw [q1]; simp [q3])) rfl ⟨⟨vo, vn, vc, vb⟩, xb, rfl, HF.out, HBZ.out, by omega, below4 BB.out (Nat.le_refl _)⟩
        · have hc := odd8_any _ _ _ CU.out
          go_wp2_with (go_at_call 37; refine hc.mono ?_; rintro e u14 ⟨t, rfl, hf, hbz, cu, gr⟩; refine Hid.out ?_)
          refine Lib.hid ?_
          obtain ⟨yo, yn, yc, yb⟩ := t
          have HF2 := Lib.hid hf
          have HZ2 := Lib.hid hbz
          clear hf hbz
          replace KR := tkg gr LR KR (fun e => by have e2 := Option.some.inj e; have h1 := HN.out; have h9 := LT5.out; omega)
          replace LR := tlz LR gr.size
          replace KT := tkg gr LT KT (fun e => by have e2 := Option.some.inj e; have h1 := HN.out; have h9 := LT5.out; omega)
          replace LT := tlz LT gr.size
          replace HT := Lib.hid (texts_kept HT.out gr HBS.out)
          replace BB := Lib.hid (BB.out.grown gr BB.out.size (fun j e => by have := HN.out; cases e; omega))
          replace CU := Lib.hid cu
          clear gr cu hc  
          have f0 := tcr KT 0
          have f1 := tcr KT 1
          have f2 := tcr KT 2
          have f3 := tcr KT 3
          have y0 := tfr KT 0
          have y1 := tfr KT 1
          have y2 := tfr KT 2
          have y3 := tfr KT 3
          obtain ⟨Y, hY⟩ : ∃ Y, Y = (((u14.setCell ⟨w2.heap.size, 0, none⟩ (.int .i64 yo)).setCell ⟨w2.heap.size, 1, none⟩ (.int .i64 yn)).setCell ⟨w2.heap.size, 2, none⟩ (.int .i64 yc)).setCell ⟨w2.heap.size, 3, none⟩ (.string yb) := ⟨_, rfl⟩
          have KY : Hid (Y.heap[w2.heap.size]? = some (.cells #[.int .i64 yo, .int .i64 yn, .int .i64 yc, .string yb] 25 (0, 0))) := Lib.hid (by rw [hY]; exact storeT KT.out)
          have gY : u14.grownBy Y (some (w2.heap.size)) := by rw [hY]; exact (((grown_set _ ⟨w2.heap.size, 0, none⟩ _).trans (grown_set _ ⟨w2.heap.size, 1, none⟩ _)).trans (grown_set _ ⟨w2.heap.size, 2, none⟩ _)).trans (grown_set _ ⟨w2.heap.size, 3, none⟩ _)
          have h5 := LT5.out
          replace KR := tkg gY LR KR (fun e => by have e2 := Option.some.inj e; omega)
          replace BB := Lib.hid (BB.out.grown gY BB.out.size (fun j e => by cases e; omega))
          clear gY
          have k0 := tcr KY 0
          have k1 := tcr KY 1
          have k2 := tcr KY 2
          have k3 := tcr KY 3
          have g0 := tcr KR 0
          have g1 := tcr KR 1
          have g2 := tcr KR 2
          have g3 := tcr KR 3
          have z0 := tfr KR 0
          have z1 := tfr KR 1
          have z2 := tfr KR 2
          have z3 := tfr KR 3
          rw [hY] at k0 k1 k2 k3 g0 g1 g2 g3 z0 z1 z2 z3
          go_wp2_with fail
          rw [← hY]
          obtain ⟨j0, q1, q2, q3, q4⟩ := info_parts infoTkr
          have hn := HN.out
          refine bodyPost_ret (results_cell_row2 (P := Try.prog) rfl _ _ w.heap.size _ _ (0, 0) _ (.string xb) rfl rfl (storeT KR.out) Try.underlying25 rfl (by rw [q1]; simp [q3])) rfl ⟨⟨yo, yn, yc, yb⟩, xb, rfl, HF2.out, HZ2.out, by omega, below4 BB.out (Nat.le_refl _)⟩
      · obtain ⟨ga, capa, hv, hgot⟩ := sp_got HT.out (by omega)
        obtain ⟨e1, e2⟩ : gb = ga ∧ ec = capa := by simpa using hv
        obtain ⟨xa, hxa⟩ : ∃ x, x = E[kk]'(hkE) := ⟨_, rfl⟩
        have zsa : xa.size ≤ 215 := by rw [hxa]; exact Hmem.out _ (List.getElem_mem _)
        have la := (sp_cell hgot kk (hkE)).1
        rw [← hxa] at la
        subst e1 e2
        clear hv hgot hxa
        have hc := once_any 8 (by omega) _ _ _ CU.out
        have fT0 := tcr KT 0
        have fT1 := tcr KT 1
        have fT2 := tcr KT 2
        have fT3 := tcr KT 3
        go_wp2_with (go_at_call 36; refine hc.mono ?_; rintro e u15 ⟨bo, rfl, cu, gr⟩; refine Hid.out ?_)
        refine Lib.hid ?_
        replace KR := tkg gr LR KR (fun e => by have e2 := Option.some.inj e; have h1 := HN.out; have h9 := LT5.out; omega)
        replace LR := tlz LR gr.size
        replace KT := tkg gr LT KT (fun e => by have e2 := Option.some.inj e; have h1 := HN.out; have h9 := LT5.out; omega)
        replace LT := tlz LT gr.size
        replace HT := Lib.hid (texts_kept HT.out gr HBS.out)
        replace BB := Lib.hid (BB.out.grown gr BB.out.size (fun j e => by have := HN.out; cases e; omega))
        replace CU := Lib.hid cu
        clear gr cu hc fT0 fT1 fT2 fT3 
        cases bo
        · have f0 := tcr KT 0
          have f1 := tcr KT 1
          have f2 := tcr KT 2
          have f3 := tcr KT 3
          have g0 := tcr KR 0
          have g1 := tcr KR 1
          have g2 := tcr KR 2
          have g3 := tcr KR 3
          have z0 := tfr KR 0
          have z1 := tfr KR 1
          have z2 := tfr KR 2
          have z3 := tfr KR 3
          go_wp2_with fail
          obtain ⟨j0, q1, q2, q3, q4⟩ := info_parts infoTkr
          have hn := HN.out
          refine bodyPost_ret (results_cell_row2 (P := Try.prog) rfl _ _ w.heap.size _ _ (0, 0) _ (.string xa) rfl rfl (storeT KR.out) Try.underlying25 rfl (by rw [q1]; simp [q3])) rfl ⟨⟨vo, vn, vc, vb⟩, xa, rfl, HF.out, HBZ.out, by omega, below4 BB.out (Nat.le_refl _)⟩
        · have hc := odd8_any _ _ _ CU.out
          go_wp2_with (go_at_call 37; refine hc.mono ?_; rintro e u16 ⟨t, rfl, hf, hbz, cu, gr⟩; refine Hid.out ?_)
          refine Lib.hid ?_
          obtain ⟨yo, yn, yc, yb⟩ := t
          have HF2 := Lib.hid hf
          have HZ2 := Lib.hid hbz
          clear hf hbz
          replace KR := tkg gr LR KR (fun e => by have e2 := Option.some.inj e; have h1 := HN.out; have h9 := LT5.out; omega)
          replace LR := tlz LR gr.size
          replace KT := tkg gr LT KT (fun e => by have e2 := Option.some.inj e; have h1 := HN.out; have h9 := LT5.out; omega)
          replace LT := tlz LT gr.size
          replace HT := Lib.hid (texts_kept HT.out gr HBS.out)
          replace BB := Lib.hid (BB.out.grown gr BB.out.size (fun j e => by have := HN.out; cases e; omega))
          replace CU := Lib.hid cu
          clear gr cu hc  
          have f0 := tcr KT 0
          have f1 := tcr KT 1
          have f2 := tcr KT 2
          have f3 := tcr KT 3
          have y0 := tfr KT 0
          have y1 := tfr KT 1
          have y2 := tfr KT 2
          have y3 := tfr KT 3
          obtain ⟨Y, hY⟩ : ∃ Y, Y = (((u16.setCell ⟨w2.heap.size, 0, none⟩ (.int .i64 yo)).setCell ⟨w2.heap.size, 1, none⟩ (.int .i64 yn)).setCell ⟨w2.heap.size, 2, none⟩ (.int .i64 yc)).setCell ⟨w2.heap.size, 3, none⟩ (.string yb) := ⟨_, rfl⟩
          have KY : Hid (Y.heap[w2.heap.size]? = some (.cells #[.int .i64 yo, .int .i64 yn, .int .i64 yc, .string yb] 25 (0, 0))) := Lib.hid (by rw [hY]; exact storeT KT.out)
          have gY : u16.grownBy Y (some (w2.heap.size)) := by rw [hY]; exact (((grown_set _ ⟨w2.heap.size, 0, none⟩ _).trans (grown_set _ ⟨w2.heap.size, 1, none⟩ _)).trans (grown_set _ ⟨w2.heap.size, 2, none⟩ _)).trans (grown_set _ ⟨w2.heap.size, 3, none⟩ _)
          have h5 := LT5.out
          replace KR := tkg gY LR KR (fun e => by have e2 := Option.some.inj e; omega)
          replace BB := Lib.hid (BB.out.grown gY BB.out.size (fun j e => by cases e; omega))
          clear gY
          have k0 := tcr KY 0
          have k1 := tcr KY 1
          have k2 := tcr KY 2
          have k3 := tcr KY 3
          have g0 := tcr KR 0
          have g1 := tcr KR 1
          have g2 := tcr KR 2
          have g3 := tcr KR 3
          have z0 := tfr KR 0
          have z1 := tfr KR 1
          have z2 := tfr KR 2
          have z3 := tfr KR 3
          rw [hY] at k0 k1 k2 k3 g0 g1 g2 g3 z0 z1 z2 z3
          go_wp2_with fail
          rw [← hY]
          obtain ⟨j0, q1, q2, q3, q4⟩ := info_parts infoTkr
          have hn := HN.out
          refine bodyPost_ret (results_cell_row2 (P := Try.prog) rfl _ _ w.heap.size _ _ (0, 0) _ (.string xa) rfl rfl (storeT KR.out) Try.underlying25 rfl (by rw [q1]; simp [q3])) rfl ⟨⟨yo, yn, yc, yb⟩, xa, rfl, HF2.out, HZ2.out, by omega, below4 BB.out (Nat.le_refl _)⟩
    · have dle : decide (vn ≤ (E.length : Int)) = false := by rw [decide_eq_false_iff_not]; exact hle
      have hc := once_any 8 (by omega) _ _ _ CU.out
      have fT0 := tcr KT 0
      have fT1 := tcr KT 1
      have fT2 := tcr KT 2
      have fT3 := tcr KT 3
      go_wp2_with (go_at_call 36; refine hc.mono ?_; rintro e u17 ⟨bo, rfl, cu, gr⟩; refine Hid.out ?_)
      refine Lib.hid ?_
      replace KR := tkg gr LR KR (fun e => by have e2 := Option.some.inj e; have h1 := HN.out; have h9 := LT5.out; omega)
      replace LR := tlz LR gr.size
      replace KT := tkg gr LT KT (fun e => by have e2 := Option.some.inj e; have h1 := HN.out; have h9 := LT5.out; omega)
      replace LT := tlz LT gr.size
      replace HT := Lib.hid (texts_kept HT.out gr HBS.out)
      replace BB := Lib.hid (BB.out.grown gr BB.out.size (fun j e => by have := HN.out; cases e; omega))
      replace CU := Lib.hid cu
      clear gr cu hc fT0 fT1 fT2 fT3 
      cases bo
      · have f0 := tcr KT 0
        have f1 := tcr KT 1
        have f2 := tcr KT 2
        have f3 := tcr KT 3
        have g0 := tcr KR 0
        have g1 := tcr KR 1
        have g2 := tcr KR 2
        have g3 := tcr KR 3
        have z0 := tfr KR 0
        have z1 := tfr KR 1
        have z2 := tfr KR 2
        have z3 := tfr KR 3
        go_wp2_with fail
        obtain ⟨j0, q1, q2, q3, q4⟩ := info_parts infoTkr
        have hn := HN.out
        refine bodyPost_ret (results_cell_row2 (P := Try.prog) rfl _ _ w.heap.size _ _ (0, 0) _ (.string xb) rfl rfl (storeT KR.out) Try.underlying25 rfl (by rw [q1]; simp [q3])) rfl ⟨⟨vo, vn, vc, vb⟩, xb, rfl, HF.out, HBZ.out, by omega, below4 BB.out (Nat.le_refl _)⟩
      · have hc := odd8_any _ _ _ CU.out
        go_wp2_with (go_at_call 37; refine hc.mono ?_; rintro e u18 ⟨t, rfl, hf, hbz, cu, gr⟩; refine Hid.out ?_)
        refine Lib.hid ?_
        obtain ⟨yo, yn, yc, yb⟩ := t
        have HF2 := Lib.hid hf
        have HZ2 := Lib.hid hbz
        clear hf hbz
        replace KR := tkg gr LR KR (fun e => by have e2 := Option.some.inj e; have h1 := HN.out; have h9 := LT5.out; omega)
        replace LR := tlz LR gr.size
        replace KT := tkg gr LT KT (fun e => by have e2 := Option.some.inj e; have h1 := HN.out; have h9 := LT5.out; omega)
        replace LT := tlz LT gr.size
        replace HT := Lib.hid (texts_kept HT.out gr HBS.out)
        replace BB := Lib.hid (BB.out.grown gr BB.out.size (fun j e => by have := HN.out; cases e; omega))
        replace CU := Lib.hid cu
        clear gr cu hc  
        have f0 := tcr KT 0
        have f1 := tcr KT 1
        have f2 := tcr KT 2
        have f3 := tcr KT 3
        have y0 := tfr KT 0
        have y1 := tfr KT 1
        have y2 := tfr KT 2
        have y3 := tfr KT 3
        obtain ⟨Y, hY⟩ : ∃ Y, Y = (((u18.setCell ⟨w2.heap.size, 0, none⟩ (.int .i64 yo)).setCell ⟨w2.heap.size, 1, none⟩ (.int .i64 yn)).setCell ⟨w2.heap.size, 2, none⟩ (.int .i64 yc)).setCell ⟨w2.heap.size, 3, none⟩ (.string yb) := ⟨_, rfl⟩
        have KY : Hid (Y.heap[w2.heap.size]? = some (.cells #[.int .i64 yo, .int .i64 yn, .int .i64 yc, .string yb] 25 (0, 0))) := Lib.hid (by rw [hY]; exact storeT KT.out)
        have gY : u18.grownBy Y (some (w2.heap.size)) := by rw [hY]; exact (((grown_set _ ⟨w2.heap.size, 0, none⟩ _).trans (grown_set _ ⟨w2.heap.size, 1, none⟩ _)).trans (grown_set _ ⟨w2.heap.size, 2, none⟩ _)).trans (grown_set _ ⟨w2.heap.size, 3, none⟩ _)
        have h5 := LT5.out
        replace KR := tkg gY LR KR (fun e => by have e2 := Option.some.inj e; omega)
        replace BB := Lib.hid (BB.out.grown gY BB.out.size (fun j e => by cases e; omega))
        clear gY
        have k0 := tcr KY 0
        have k1 := tcr KY 1
        have k2 := tcr KY 2
        have k3 := tcr KY 3
        have g0 := tcr KR 0
        have g1 := tcr KR 1
        have g2 := tcr KR 2
        have g3 := tcr KR 3
        have z0 := tfr KR 0
        have z1 := tfr KR 1
        have z2 := tfr KR 2
        have z3 := tfr KR 3
        rw [hY] at k0 k1 k2 k3 g0 g1 g2 g3 z0 z1 z2 z3
        go_wp2_with fail
        rw [← hY]
        obtain ⟨j0, q1, q2, q3, q4⟩ := info_parts infoTkr
        have hn := HN.out
        refine bodyPost_ret (results_cell_row2 (P := Try.prog) rfl _ _ w.heap.size _ _ (0, 0) _ (.string xb) rfl rfl (storeT KR.out) Try.underlying25 rfl (by rw [q1]; simp [q3])) rfl ⟨⟨yo, yn, yc, yb⟩, xb, rfl, HF2.out, HZ2.out, by omega, below4 BB.out (Nat.le_refl _)⟩
end Go.Proofs.Ytdpjdjkfedcojaa
