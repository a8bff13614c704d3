/- What the program's Decode answers. Condition: a text of at most 2^40 bytes. -/
import Derived.Test.YtdpjdjkfedcojaaGreatBaseA
import Derived.Test.YtdpjdjkfedcojaaGreatRdA
import Derived.Test.YtdpjdjkfedcojaaGreatImplEnc
namespace Go.Proofs.YtdpjdjkfedcojaaGreat
open Go.RowKit
set_option linter.unusedVariables false
set_option linter.unusedSimpArgs false

theorem own_put {w : World} {base b : Nat} {v : Value} {s : St} (h : OwnN w (base + 1) v s) (hb : b ≤ base) (x y : Value) : OwnN ((w.setCell ⟨b, 0, none⟩ x).setCell ⟨b, 1, none⟩ y) base v s :=
  (h.kept ((grown_set w ⟨b, 0, none⟩ x).trans (grown_set _ ⟨b, 1, none⟩ y)) (show b < base + 1 by omega)).base (by omega)
theorem got_nil {w w' : World} {base e size g n cap : Nat} {cs : List Value} (h : Got w base e size g n cap cs) (h0 : n = 0) (h1 : cap = 0) (hs : w.heap.size ≤ w'.heap.size) : Got w' base e size g n cap cs := by
  obtain ⟨a, b, c, d, e, _⟩ := h
  exact ⟨a, b, c, d, Nat.lt_of_lt_of_le e hs, .inl ⟨h0, h1⟩⟩
/-- Where the row lies; a spare block where it is nil. -/
def Lies (a : Option Addr) (g n cap base d : Nat) : Prop := (a = some ⟨g, 0, none⟩ ∧ base ≤ g) ∨ (a = none ∧ n = 0 ∧ cap = 0 ∧ g = d)
theorem Lies.nilOr {a : Option Addr} {g n cap base d : Nat} (h : Lies a g n cap base d) : a = some ⟨g, 0, none⟩ ∨ (a = none ∧ n = 0 ∧ cap = 0) := h.imp And.left (fun h => ⟨h.1, h.2.1, h.2.2.1⟩)
theorem Lies.got {w w' : World} {a : Option Addr} {e size g n cap base lo d b : Nat} {cs : List Value} (h : Lies a g n cap base d) (hg : Got w lo e size g n cap cs) (hw : w.grownBy w' (some b)) (hb : b < base) : Got w' lo e size g n cap cs := by
  rcases h with ⟨_, h⟩ | ⟨_, h0, h1, _⟩
  · exact hg.grown hw (by omega)
  · exact got_nil hg h0 h1 hw.size
theorem RowN.own {w : World} {base base' e size n d : Nat} {v : Value} {cs : List Value} (h : RowN w base e size v n cs) (hd : base' ≤ d ∧ d < w.heap.size) (hb : base' ≤ base) :
    ∃ a g cap, v = .slice a n cap ∧ Lies a g n cap base d ∧ Got w base' e size g n cap cs := by
  rcases h with ⟨h0, h1, h2⟩ | ⟨_, g, cap, h1, h2⟩
  · subst h0
    subst h1
    exact ⟨none, d, 0, h2, .inr ⟨rfl, rfl, rfl, rfl⟩, ⟨by simp, Nat.le_refl _, Nat.zero_le _, hd.1, hd.2, .inl ⟨rfl, rfl⟩⟩⟩
  · exact ⟨_, g, cap, h1, .inl ⟨rfl, h2.2.2.2.1⟩, h2.base hb⟩
set_option maxRecDepth 100000 in
set_option maxHeartbeats 8000000 in
theorem impl_decode (t : ByteArray) (w : World) (ht : t.size ≤ 1099511627776) :
    Calls Tryz.prog 45 #[.string t] w fun e w' => ∃ v, e = .returned (.tuple #[v, .int .i64 (decS t).2]) ∧ DecV w' w.heap.size v (decS t).1 ∧ Below w.heap.size w w' ∧ w.heap.size < w'.heap.size := by
  obtain ⟨v1, hv1⟩ : ∃ z, z = getN t 1 1 := ⟨_, rfl⟩
  have HV := Lib.hid hv1
  obtain ⟨W, hW⟩ : ∃ W, W = w.alloc (.cells #[.slice none 0 0, .slice none 0 0] 27) := ⟨_, rfl⟩
  have bW : Below w.heap.size w W := by rw [hW]; exact (Below.refl _ _).alloc (Nat.le_refl _) _
  have KR : Hid (W.heap[w.heap.size]? = some (.cells #[.slice none 0 0, .slice none 0 0] 27 (0, 0))) := Lib.hid (by rw [hW]; exact heap_new _ _)
  have hWs : W.heap.size = w.heap.size + 1 := by rw [hW]; simp
  have LR : Hid (w.heap.size < W.heap.size) := Lib.hid (by omega)
  have HWs := Lib.hid hWs
  have BB := Lib.hid bW
  have hc := impl_getNum t 1 1 (by omega) (by omega) W (by unfold maxLen; omega)
  rw [← hv1, hW] at hc
  clear hv1 bW hWs
  go_enter Tryz.func45, Tryz.ntmps45
  go_wp2_with (go_at_call 81; refine hc.mono ?_; rintro e w1 ⟨rfl, rfl⟩; refine Hid.out ?_)
  refine Lib.hid ?_
  rw [← hW]
  clear hc hW
  have hc := impl_versionOk v1 W
  cases hin : inB v1 1 3
  · rw [hin] at hc
    have HRES : Hid (decS t = (⟨[], []⟩, 0)) := Lib.hid (dec_bad (by rw [← HV.out]; exact hin))
    clear hin
    have fR0 := tcr KR 0
    have fR1 := tcr KR 1
    have zR0 := tfr KR 0
    have zR1 := tfr KR 1
    go_wp2_with (go_at_call 60; refine hc.mono ?_; rintro e w1 ⟨rfl, rfl⟩)
    have f1 := heap_setCell_same _ w.heap.size 0 _ _ (.slice none 0 0) KR.out
    have f2 := heap_setCell_same _ w.heap.size 1 _ _ (.slice none 0 0) f1
    obtain ⟨j0, q1, q2, q3, q4⟩ := info_parts infoSt
    refine bodyPost_ret (results_cell_row2 (P := Tryz.prog) rfl _ _ w.heap.size _ _ (0, 0) _ _ rfl rfl f2 Tryz.underlying27 rfl (by rw [q1]; simp [q3])) rfl ⟨.agg #[.slice none 0 0, .slice none 0 0], by rw [HRES.out]; rfl, ?_, ?_, by rw [World.size_setCell, World.size_setCell]; exact LR.out⟩
    · rw [HRES.out]
      exact .inl ⟨rfl, rfl⟩
    · exact (BB.out.setCell (p := ⟨w.heap.size, 0, none⟩) (Nat.le_refl _) _).setCell (p := ⟨w.heap.size, 1, none⟩) (Nat.le_refl _) _
  · rw [hin] at hc
    have Hin := Lib.hid hin
    have hvv := inB_true hin
    clear hin
    have hsz : 2 ≤ t.size := by have h := getN_in (s := t) (p := 1) (b := 1) (by rw [← HV.out]; omega); omega
    go_wp2_with (go_at_call 60; refine hc.mono ?_; rintro e w1 ⟨rfl, rfl⟩; refine Hid.out ?_)
    refine Lib.hid ?_
    clear hc
    obtain ⟨u, hu⟩ : ∃ u, u = t.extract 2 t.size := ⟨_, rfl⟩
    have hus : u.size ≤ 1099511627776 := by rw [hu, ByteArray.size_extract]; omega
    have HU := Lib.hid hu
    obtain ⟨X, hX⟩ : ∃ A, A = W.alloc (.cells #[.string u] 102) := ⟨_, rfl⟩
    have b1 : Below W.heap.size W X := by rw [hX]; exact (Below.refl _ _).alloc (Nat.le_refl _) _
    have s1 : X.heap.size = W.heap.size + 1 := by rw [hX]; simp
    have A0 : At1 X W.heap.size u := by rw [hX]; exact heap_new _ _
    replace KR := tkb b1 LR KR
    replace LR := tlz LR b1.size
    replace BB := tbt BB b1
    have hc := readRowsI u 40 W.heap.size X A0 hus (by omega)
    rw [show ((40 : Nat) : Int) = 40 from rfl] at hc
    obtain ⟨xs, hxs⟩ : ∃ z, z = (itemsR (cntR u 40) (restN u 2)).1 := ⟨_, rfl⟩
    obtain ⟨u2, hu2⟩ : ∃ z, z = (itemsR (cntR u 40) (restN u 2)).2 := ⟨_, rfl⟩
    rw [← hxs, ← hu2] at hc
    have hus2 : u2.size ≤ 1099511627776 := by have h := (itemsR_le (cntR u 40) (restN u 2)).2.1; have h2 := restN_size u 2; rw [← hu2] at h; omega
    have HXS := Lib.hid hxs
    have HU2 := Lib.hid hu2
    have HXs := Lib.hid s1
    rw [hX, hu] at hc
    clear hxs hu2 A0 b1 s1
    go_wp2_with (go_at_call 82; refine hc.mono ?_; rintro e w3 ⟨v0, rfl, hrow, a1, g1⟩; refine Hid.out ?_)
    refine Lib.hid ?_
    rw [← hu, ← hX] at hrow g1
    clear hc hX hu
    have hX1 := HXs.out
    have hW1 := HWs.out
    have g1s := g1.size
    obtain ⟨oa, gi, ci, rfl, hoa, hgot⟩ := hrow.own (base' := w.heap.size + 1) (d := W.heap.size) ⟨by omega, by omega⟩ (by omega)
    replace KR := tkg g1 LR KR (by simp; omega)
    replace LR := tlz LR g1.size
    replace BB := Lib.hid (BB.out.grown g1 BB.out.size (fun j e => by cases e; omega))
    have A1 := Lib.hid a1
    have Hoa := Lib.hid hoa
    have hgil := hgot.2.2.2.2.1
    obtain ⟨Y, hY⟩ : ∃ A, A = w3.alloc (.cells #[.slice oa xs.length ci, .slice none 0 0] 27) := ⟨_, rfl⟩
    have b2 : Below w3.heap.size w3 Y := by rw [hY]; exact (Below.refl _ _).alloc (Nat.le_refl _) _
    have s2 : Y.heap.size = w3.heap.size + 1 := by rw [hY]; simp
    have KX : Hid (Y.heap[w3.heap.size]? = some (.cells #[.slice oa xs.length ci, .slice none 0 0] 27 (0, 0))) := Lib.hid (by rw [hY]; exact heap_new _ _)
    have LX : Hid (w3.heap.size < Y.heap.size) := Lib.hid (by omega)
    replace KR := tkb b2 LR KR
    replace LR := tlz LR b2.size
    replace BB := tbt BB b2
    replace A1 := Lib.hid (A1.out.later b2)
    have GI := Lib.hid (hgot.later b2)
    have HN : Hid (gi < w3.heap.size ∧ w.heap.size + 1 < w3.heap.size ∧ W.heap.size < w3.heap.size ∧ Y.heap.size = w3.heap.size + 1) := Lib.hid ⟨hgil, by omega, by omega, s2⟩
    clear hrow a1 g1 hX1 hW1 g1s hoa hgot hgil b2 s2
    by_cases hv : 2 ≤ v1
    · have hge2 : decide (2 ≤ v1) = true := by simpa using hv
      have hc := readRowsT u2 20 W.heap.size Y A1.out hus2 (by omega)
      rw [show ((20 : Nat) : Int) = 20 from rfl] at hc
      obtain ⟨ts, hts⟩ : ∃ z, z = (talksR (cntR u2 20) (restN u2 2)).1 := ⟨_, rfl⟩
      rw [← hts] at hc
      have HTS := Lib.hid hts
      have HRAW : Hid (rawR t v1 = ⟨xs, ts⟩) := Lib.hid (by unfold rawR; rw [if_pos hv, ← HU.out]; unfold itemsI talksI; rw [← HXS.out, ← HU2.out, ← HTS.out])
      rw [hY] at hc
      clear hts hv
      go_wp2_with (go_at_call 84; refine hc.mono ?_; rintro e w5 ⟨v2, rfl, hrow, a1, g1⟩; refine Hid.out ?_)
      refine Lib.hid ?_
      rw [← hY] at hrow g1
      clear hc hY
      have hn := HN.out
      have hw1 := HWs.out
      have hx1 := HXs.out
      have g1s := g1.size
      obtain ⟨ob, gt, ct, rfl, hob, hgot⟩ := hrow.own (base' := w.heap.size + 1) (d := w3.heap.size) ⟨by omega, by omega⟩ (by omega)
      replace KR := tkg g1 LR KR (by simp; omega)
      replace LR := tlz LR g1.size
      replace KX := tkg g1 LX KX (by simp; omega)
      replace LX := tlz LX g1.size
      replace BB := Lib.hid (BB.out.grown g1 BB.out.size (fun j e => by cases e; omega))
      have zX1 := tfr KX 1
      have fX1 := tcr KX 1
      obtain ⟨Z, hZ⟩ : ∃ Z, Z = w5.setCell ⟨w3.heap.size, 1, none⟩ (.slice ob ts.length ct) := ⟨_, rfl⟩
      have gZ : w5.grownBy Z (some w3.heap.size) := by rw [hZ]; exact grown_set _ _ _
      have KZ : Hid (Z.heap[w3.heap.size]? = some (.cells #[.slice oa xs.length ci, .slice ob ts.length ct] 27 (0, 0))) := Lib.hid (by rw [hZ]; exact heap_setCell_same _ _ 1 _ _ _ KX.out)
      replace KR := tkg gZ LR KR (by simp; omega)
      replace LR := tlz LR gZ.size
      replace LX := tlz LX gZ.size
      replace BB := Lib.hid (BB.out.grown gZ BB.out.size (fun j e => by cases e; omega))
      have hgb : gi ≠ w3.heap.size := by omega
      have GI2 : Got Z (w.heap.size + 1) 45 2 gi xs.length ci (xs.flatMap itC) := (Hoa.out.got GI.out g1 (by omega)).grown gZ hgb
      have GT2 : Got Z (w.heap.size + 1) 65 3 gt ts.length ct (ts.flatMap tkC) := hob.got hgot gZ (by omega)
      have hne : gi ≠ gt := by rcases hob with ⟨_, h⟩ | ⟨_, _, _, h⟩ <;> omega
      have OS : Hid (OwnN Z (w.heap.size + 1) (.agg #[.slice oa xs.length ci, .slice ob ts.length ct]) ⟨xs, ts⟩) := Lib.hid ⟨_, _, gi, ci, gt, ct, rfl, hne, ⟨_, rfl, Hoa.out.nilOr⟩, ⟨_, rfl, hob.nilOr⟩, GI2, GT2⟩
      clear hrow a1 g1 g1s hgot gZ GI2 GT2 hn GI KX hw1 hx1 hgb hne hob
      have KX := KZ
      clear KZ
      obtain ⟨E, hE⟩ : ∃ E, E = fmtS ⟨xs, ts⟩ v1 := ⟨_, rfl⟩
      have HE := Lib.hid hE
      clear hE
      have hc := impl_encode ⟨xs, ts⟩ _ v1 _ Z OS.out.st (Nat.le_refl _) (by rw [← HRAW.out]; exact rawR_fits _ ht)
      rw [← HE.out] at hc
      have fX0 := tcr KX 0
      have fX1 := tcr KX 1
      rw [hZ] at hc fX0 fX1
      go_wp2_with (go_at_call 28; refine hc.mono ?_; rintro e w6 ⟨rfl, hb⟩; refine Hid.out ?_)
      refine Lib.hid ?_
      rw [← hZ] at hb
      replace KR := tkb hb LR KR
      replace LR := tlz LR hb.size
      replace KX := tkb hb LX KX
      replace OS := Lib.hid (OS.out.later hb)
      replace BB := tbt BB hb
      clear hc hb fX0 fX1 hZ
      by_cases hEt : E = t
      · have hqt := str_eq hEt
        have HRES : Hid (decS t = (⟨xs, ts⟩, v1)) := Lib.hid (by rw [← HRAW.out, HV.out]; exact decR_yes (by rw [← HV.out]; exact Hin.out) (by rw [← HV.out, HRAW.out, ← HE.out]; exact hEt))
        clear hEt
        have fR0 := tcr KR 0
        have fR1 := tcr KR 1
        have zR0 := tfr KR 0
        have zR1 := tfr KR 1
        have fX0 := tcr KX 0
        have fX1 := tcr KX 1
        go_wp2_with fail
        have f1 := heap_setCell_same _ w.heap.size 0 _ _ (.slice oa xs.length ci) KR.out
        have f2 := heap_setCell_same _ w.heap.size 1 _ _ (.slice ob ts.length ct) f1
        obtain ⟨j0, q1, q2, q3, q4⟩ := info_parts infoSt
        refine bodyPost_ret (results_cell_row2 (P := Tryz.prog) rfl _ _ w.heap.size _ _ (0, 0) _ _ rfl rfl f2 Tryz.underlying27 rfl (by rw [q1]; simp [q3])) rfl ⟨.agg #[.slice oa xs.length ci, .slice ob ts.length ct], by rw [HRES.out]; rfl, ?_, ?_, by rw [World.size_setCell, World.size_setCell]; exact LR.out⟩
        · rw [HRES.out]
          exact .inr (own_put OS.out (Nat.le_refl _) _ _)
        · exact (BB.out.setCell (p := ⟨w.heap.size, 0, none⟩) (Nat.le_refl _) _).setCell (p := ⟨w.heap.size, 1, none⟩) (Nat.le_refl _) _
      · have hqt := str_ne hEt
        have HRES : Hid (decS t = (⟨[], []⟩, 0)) := Lib.hid (decR_no (by rw [← HV.out, HRAW.out, ← HE.out]; exact hEt))
        clear hEt
        have fR0 := tcr KR 0
        have fR1 := tcr KR 1
        have zR0 := tfr KR 0
        have zR1 := tfr KR 1
        go_wp2_with (fail)
        have f1 := heap_setCell_same _ w.heap.size 0 _ _ (.slice none 0 0) KR.out
        have f2 := heap_setCell_same _ w.heap.size 1 _ _ (.slice none 0 0) f1
        obtain ⟨j0, q1, q2, q3, q4⟩ := info_parts infoSt
        refine bodyPost_ret (results_cell_row2 (P := Tryz.prog) rfl _ _ w.heap.size _ _ (0, 0) _ _ rfl rfl f2 Tryz.underlying27 rfl (by rw [q1]; simp [q3])) rfl ⟨.agg #[.slice none 0 0, .slice none 0 0], by rw [HRES.out]; rfl, ?_, ?_, by rw [World.size_setCell, World.size_setCell]; exact LR.out⟩
        · rw [HRES.out]
          exact .inl ⟨rfl, rfl⟩
        · exact (BB.out.setCell (p := ⟨w.heap.size, 0, none⟩) (Nat.le_refl _) _).setCell (p := ⟨w.heap.size, 1, none⟩) (Nat.le_refl _) _
    · have hge2 : decide (2 ≤ v1) = false := by simp; omega
      have HRAW : Hid (rawR t v1 = ⟨xs, []⟩) := Lib.hid (by unfold rawR; rw [if_neg hv, ← HU.out]; unfold itemsI; rw [← HXS.out])
      clear hv
      have hn := HN.out
      have OS : Hid (OwnN Y (w.heap.size + 1) (.agg #[.slice oa xs.length ci, .slice none 0 0]) ⟨xs, []⟩) := Lib.hid ⟨_, _, gi, ci, w3.heap.size, 0, rfl, by omega, ⟨_, rfl, Hoa.out.nilOr⟩, ⟨_, rfl, .inr ⟨rfl, rfl, rfl⟩⟩, GI.out, ⟨rfl, Nat.le_refl _, Nat.zero_le _, by omega, by omega, .inl ⟨rfl, rfl⟩⟩⟩
      clear hn GI
      obtain ⟨E, hE⟩ : ∃ E, E = fmtS ⟨xs, []⟩ v1 := ⟨_, rfl⟩
      have HE := Lib.hid hE
      clear hE
      have hc := impl_encode ⟨xs, []⟩ _ v1 _ Y OS.out.st (Nat.le_refl _) (by rw [← HRAW.out]; exact rawR_fits _ ht)
      rw [← HE.out] at hc
      have fX0 := tcr KX 0
      have fX1 := tcr KX 1
      rw [hY] at hc fX0 fX1
      go_wp2_with (go_at_call 28; refine hc.mono ?_; rintro e w6 ⟨rfl, hb⟩; refine Hid.out ?_)
      refine Lib.hid ?_
      rw [← hY] at hb
      replace KR := tkb hb LR KR
      replace LR := tlz LR hb.size
      replace KX := tkb hb LX KX
      replace OS := Lib.hid (OS.out.later hb)
      replace BB := tbt BB hb
      clear hc hb fX0 fX1 hY
      by_cases hEt : E = t
      · have hqt := str_eq hEt
        have HRES : Hid (decS t = (⟨xs, []⟩, v1)) := Lib.hid (by rw [← HRAW.out, HV.out]; exact decR_yes (by rw [← HV.out]; exact Hin.out) (by rw [← HV.out, HRAW.out, ← HE.out]; exact hEt))
        clear hEt
        have fR0 := tcr KR 0
        have fR1 := tcr KR 1
        have zR0 := tfr KR 0
        have zR1 := tfr KR 1
        have fX0 := tcr KX 0
        have fX1 := tcr KX 1
        go_wp2_with fail
        have f1 := heap_setCell_same _ w.heap.size 0 _ _ (.slice oa xs.length ci) KR.out
        have f2 := heap_setCell_same _ w.heap.size 1 _ _ (.slice none 0 0) f1
        obtain ⟨j0, q1, q2, q3, q4⟩ := info_parts infoSt
        refine bodyPost_ret (results_cell_row2 (P := Tryz.prog) rfl _ _ w.heap.size _ _ (0, 0) _ _ rfl rfl f2 Tryz.underlying27 rfl (by rw [q1]; simp [q3])) rfl ⟨.agg #[.slice oa xs.length ci, .slice none 0 0], by rw [HRES.out]; rfl, ?_, ?_, by rw [World.size_setCell, World.size_setCell]; exact LR.out⟩
        · rw [HRES.out]
          exact .inr (own_put OS.out (Nat.le_refl _) _ _)
        · exact (BB.out.setCell (p := ⟨w.heap.size, 0, none⟩) (Nat.le_refl _) _).setCell (p := ⟨w.heap.size, 1, none⟩) (Nat.le_refl _) _
      · have hqt := str_ne hEt
        have HRES : Hid (decS t = (⟨[], []⟩, 0)) := Lib.hid (decR_no (by rw [← HV.out, HRAW.out, ← HE.out]; exact hEt))
        clear hEt
        have fR0 := tcr KR 0
        have fR1 := tcr KR 1
        have zR0 := tfr KR 0
        have zR1 := tfr KR 1
        go_wp2_with (fail)
        have f1 := heap_setCell_same _ w.heap.size 0 _ _ (.slice none 0 0) KR.out
        have f2 := heap_setCell_same _ w.heap.size 1 _ _ (.slice none 0 0) f1
        obtain ⟨j0, q1, q2, q3, q4⟩ := info_parts infoSt
        refine bodyPost_ret (results_cell_row2 (P := Tryz.prog) rfl _ _ w.heap.size _ _ (0, 0) _ _ rfl rfl f2 Tryz.underlying27 rfl (by rw [q1]; simp [q3])) rfl ⟨.agg #[.slice none 0 0, .slice none 0 0], by rw [HRES.out]; rfl, ?_, ?_, by rw [World.size_setCell, World.size_setCell]; exact LR.out⟩
        · rw [HRES.out]
          exact .inl ⟨rfl, rfl⟩
        · exact (BB.out.setCell (p := ⟨w.heap.size, 0, none⟩) (Nat.le_refl _) _).setCell (p := ⟨w.heap.size, 1, none⟩) (Nat.le_refl _) _
end Go.Proofs.YtdpjdjkfedcojaaGreat
