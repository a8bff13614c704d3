/- The exact law of Taken: the program answers as its model; what it hands back is its own. Condition: none. -/
import Derived.Test.YtdpjdjkfedcojaaImplTaken
import Derived.Test.YtdpjdjkfedcojaaSpecTaken
import Derived.Test.YtdpjdjkfedcojaaExactDec
import Derived.Test.YtdpjdjkfedcojaaBaseA
namespace Go.Proofs.Ytdpjdjkfedcojaa
open Go.RowKit
set_option linter.unusedVariables false
set_option linter.unusedSimpArgs false

theorem to_taker_lt (t : Tkr) (w : World) : Calls Try.prog 26 #[tkrV t] w fun e w' => e = .returned (tkrV t) ∧ Below w.heap.size w w' ∧ w.heap.size < w'.heap.size := by
  unfold tkrV
  go_enter Try.func26, Try.ntmps26
  go_wp2
  refine bodyPost_ret (v := .agg #[.int .i64 t.of, .int .i64 t.nx, .int .i64 t.ch, .string t.b]) (by simp [results, Try.results26, go_sem]) rfl ⟨rfl, ?_, by simp; omega⟩
  exact (((Below.refl _ _).alloc (Nat.le_refl _) _).alloc (by simp) _).alloc (by simp; omega) _
theorem taken_len (t : Tkr) : (takenS t).1.items.length ≤ 40 ∧ (takenS t).1.talks.length ≤ 20 := by
  by_cases h : (takenS t).2 = true
  · obtain ⟨_, e, h0, _⟩ := taken_yes h
    rw [e]
    have h := ok_smI (dec_fmt h0).2.1
    exact ⟨h.2.2.1, h.2.2.2⟩
  · have hz : ∀ h0 : (decS t.b).2 = 0, (decS t.b).1 = ⟨[], []⟩ := fun h0 => dec_zero (fun h => h h0)
    unfold takenS at h ⊢
    split
    · exact ⟨Nat.zero_le _, Nat.zero_le _⟩
    · split
      · exact ⟨Nat.zero_le _, Nat.zero_le _⟩
      · split
        · exact ⟨Nat.zero_le _, Nat.zero_le _⟩
        · dsimp only
          by_cases h0 : (decS t.b).2 = 0
          · rw [hz h0]; exact ⟨Nat.zero_le _, Nat.zero_le _⟩
          · have h := ok_smI (dec_fmt h0).2.1
            exact ⟨h.2.2.1, h.2.2.2⟩
set_option maxRecDepth 100000 in
set_option maxHeartbeats 8000000 in
theorem law_takenX (t : Tkr) (w : World) (hf : FitTkr t) : Calls Try.prog 8 #[tkrV t] w fun e w' => e = .returned (.bool true) ∧ Below w.heap.size w w' := by
  have c0 := fun w => sz_taker t w hf.2.2.2
  have c1 := fun w => to_taker_lt t w
  have c2 := fun w h => spec_taken t w hf h
  have c3 := fun w h => impl_taken t w hf h
  have hlen := taken_len t
  obtain ⟨R, hR⟩ : ∃ x, x = (takenS t).1 := ⟨_, rfl⟩
  obtain ⟨q, hq⟩ : ∃ y, y = (takenS t).2 := ⟨_, rfl⟩
  rw [← hR, ← hq] at c2 c3
  rw [← hR] at hlen
  have Hlen := Lib.hid hlen
  clear hf hR hq hlen
  obtain ⟨o, n, c, b⟩ := t
  unfold tkrV at *
  dsimp only at *
  have BB : Hid (Below w.heap.size w w) := Lib.hid (Below.refl _ _)
  obtain ⟨X0, hX0⟩ : ∃ z, z = w.alloc (.cells #[.int .i64 o, .int .i64 n, .int .i64 c, .string b] 44) := ⟨_, rfl⟩
  have hb : Below w.heap.size w X0 := by rw [hX0]; exact (Below.refl _ _).alloc (Nat.le_refl _) _
  replace BB := tbt BB hb
  have KT : Hid (X0.heap[w.heap.size]? = some (.cells #[.int .i64 o, .int .i64 n, .int .i64 c, .string b] 44 (0, 0))) := Lib.hid (by rw [hX0]; exact heap_new _ _)
  have LT : Hid (w.heap.size < X0.heap.size) := Lib.hid (by rw [hX0]; simp)
  clear hb
  go_enter Try.func8, Try.ntmps8
  have hc := c0 X0
  rw [hX0] at hc 
  go_wp2_with (go_at_call 25; refine hc.mono ?_; rintro e w1 ⟨r, rfl, hr, hb⟩; refine Hid.out ?_)
  refine Lib.hid ?_
  rw [← hX0] at hb 
  clear hX0
  replace KT := tkb hb LT KT
  replace LT := tlz LT hb.size
  replace BB := tbt BB hb
  clear hc hb 
  clear c0
  by_cases hneg : r < 0
  · clear hr
    go_wp2_with fail
    go_ret
    exact ⟨rfl, BB.out⟩
  have hb2 := hr (by omega)
  clear hr
  replace c2 := fun w => c2 w (by omega)
  replace c3 := fun w => c3 w (by omega)
  have T1 : Hid (w.heap.size < w1.heap.size) := LT
  have B0 : Hid (Below w1.heap.size w1 w1) := Lib.hid (Below.refl _ _)
  have hc := c1 w1
  have fT0 := tcr KT 0
  have fT1 := tcr KT 1
  have fT2 := tcr KT 2
  have fT3 := tcr KT 3
  go_wp2_with (go_at_call 26; refine hc.mono ?_; rintro e w2 ⟨rfl, hb, hlt⟩; refine Hid.out ?_)
  refine Lib.hid ?_
  replace KT := tkb hb LT KT
  replace LT := tlz LT hb.size
  replace B0 := tbt B0 hb
  replace BB := tbt BB hb
  clear hc hb fT0 fT1 fT2 fT3
  have N0 : Hid (w1.heap.size < w2.heap.size) := Lib.hid hlt
  clear hlt
  have hc := c2 w2
  go_wp2_with (go_at_call 18; refine hc.mono ?_; rintro e w3 ⟨vW, rfl, hW, hb⟩; refine Hid.out ?_)
  refine Lib.hid ?_
  have S23 : Hid (w2.heap.size ≤ w3.heap.size) := Lib.hid hb.size
  replace KT := tkb hb LT KT
  replace LT := tlz LT hb.size
  replace B0 := tbt B0 hb
  replace BB := tbt BB hb
  clear hc hb 
  have Y3 : Hid (w1.heap.size < w3.heap.size) := Lib.hid (Nat.lt_of_lt_of_le N0.out S23.out)
  obtain ⟨aW, cW, bW, dW, rfl⟩ := hW.two
  have SW := Lib.hid hW.st.rd
  have B1 : Hid (Below w3.heap.size w3 w3) := Lib.hid (Below.refl _ _)
  clear hW
  obtain ⟨X1, hX1⟩ : ∃ z, z = w3.alloc (.cells #[.slice aW R.items.length cW, .slice bW R.talks.length dW] 35) := ⟨_, rfl⟩
  have hb : Below w3.heap.size w3 X1 := by rw [hX1]; exact (Below.refl _ _).alloc (Nat.le_refl _) _
  replace KT := tkb hb LT KT
  replace LT := tlz LT hb.size
  replace B0 := tbt B0 hb
  replace B1 := tbt B1 hb
  replace BB := tbt BB hb
  have KW : Hid (X1.heap[w3.heap.size]? = some (.cells #[.slice aW R.items.length cW, .slice bW R.talks.length dW] 35 (0, 0))) := Lib.hid (by rw [hX1]; exact heap_new _ _)
  have LW : Hid (w3.heap.size < X1.heap.size) := Lib.hid (by rw [hX1]; simp)
  clear hb
  have N1 := LW
  have hc := c1 X1
  have fT0 := tcr KT 0
  have fT1 := tcr KT 1
  have fT2 := tcr KT 2
  have fT3 := tcr KT 3
  rw [hX1] at hc fT0 fT1 fT2 fT3
  go_wp2_with (go_at_call 26; refine hc.mono ?_; rintro e w4 ⟨rfl, hb, hlt⟩; refine Hid.out ?_)
  refine Lib.hid ?_
  rw [← hX1] at hb hlt
  clear hX1
  replace KT := tkb hb LT KT
  replace LT := tlz LT hb.size
  replace KW := tkb hb LW KW
  replace LW := tlz LW hb.size
  replace B0 := tbt B0 hb
  replace B1 := tbt B1 hb
  replace BB := tbt BB hb
  clear hc hb fT0 fT1 fT2 fT3
  have N4 : Hid (X1.heap.size < w4.heap.size) := Lib.hid hlt
  clear hlt
  have Z4 : Hid (Below w4.heap.size w4 w4) := Lib.hid (Below.refl _ _)
  have hc := c3 w4
  go_wp2_with (go_at_call 17; refine hc.mono ?_; rintro e w5 ⟨vG, rfl, hG, hb⟩; refine Hid.out ?_)
  refine Lib.hid ?_
  replace KT := tkb hb LT KT
  replace LT := tlz LT hb.size
  replace KW := tkb hb LW KW
  replace LW := tlz LW hb.size
  replace B0 := tbt B0 hb
  replace B1 := tbt B1 hb
  replace Z4 := tbt Z4 hb
  replace BB := tbt BB hb
  clear hc hb 
  obtain ⟨ai, ci, at_, ct, rfl⟩ := hG.two
  have G := Lib.hid hG.st.rd
  have z0 := N0.out
  have z1 := N1.out
  have z4 := N4.out
  have z5 := Z4.out.size
  have y3 := Y3.out
  obtain ⟨gi, gt, cs, ds, hne, hai, hat, gI, gT, hpk⟩ := dec_pick (lo := w1.heap.size) (p := w1.heap.size) (q := X1.heap.size) hG (by omega) ⟨Nat.le_refl _, by omega⟩ ⟨by omega, by omega⟩ (by omega)
  have HAI := Lib.hid hai
  have HAT := Lib.hid hat
  have GI := Lib.hid gI
  have GT := Lib.hid gT
  have HNE := Lib.hid hne
  have HLT : Hid (gi < w5.heap.size ∧ gt < w5.heap.size ∧ w3.heap.size < w5.heap.size) := Lib.hid ⟨gI.2.2.2.2.1, gT.2.2.2.2.1, by omega⟩
  have HPK : Hid ((w4.heap.size ≤ gi ∧ w4.heap.size ≤ gt) ∨ (gi = w1.heap.size ∧ gt = X1.heap.size ∧ R = ⟨[], []⟩)) := Lib.hid hpk
  have HLO : Hid (w1.heap.size ≤ gi ∧ w1.heap.size ≤ gt) := Lib.hid ⟨gI.2.2.2.1, gT.2.2.2.1⟩
  have Z2 : Hid (w5.heap.size ≤ w5.heap.size) := Lib.hid (Nat.le_refl _)
  clear hG hne hai hat gI gT hpk z0 z1 z4 z5 y3 Z4
  obtain ⟨X2, hX2⟩ : ∃ z, z = w5.alloc (.cells #[.slice ai R.items.length ci, .slice at_ R.talks.length ct] 35) := ⟨_, rfl⟩
  have hb : Below w5.heap.size w5 X2 := by rw [hX2]; exact (Below.refl _ _).alloc (Nat.le_refl _) _
  replace KT := tkb hb LT KT
  replace LT := tlz LT hb.size
  replace KW := tkb hb LW KW
  replace LW := tlz LW hb.size
  replace B0 := tbt B0 hb
  replace B1 := tbt B1 hb
  replace GI := Lib.hid (GI.out.later hb)
  replace GT := Lib.hid (GT.out.later hb)
  replace G := Lib.hid (G.out.later hb hb.size)
  replace Z2 := Lib.hid (Nat.le_trans Z2.out hb.size)
  replace BB := tbt BB hb
  have KG : Hid (X2.heap[w5.heap.size]? = some (.cells #[.slice ai R.items.length ci, .slice at_ R.talks.length ct] 35 (0, 0))) := Lib.hid (by rw [hX2]; exact heap_new _ _)
  have LG : Hid (w5.heap.size < X2.heap.size) := Lib.hid (by rw [hX2]; simp)
  clear hb
  have hc := eq_state R _ _ X2.heap.size X2 G.out (SW.out.later B1.out B1.out.size) (Nat.le_refl _)
  have fG0 := tcr KG 0
  have fG1 := tcr KG 1
  have fW0 := tcr KW 0
  have fW1 := tcr KW 1
  rw [hX2] at hc fG0 fG1 fW0 fW1
  go_wp2_with (go_at_call 27; refine hc.mono ?_; rintro e w6 ⟨rfl, hb⟩; refine Hid.out ?_)
  refine Lib.hid ?_
  rw [← hX2] at hb 
  clear hX2
  replace KT := tkb hb LT KT
  replace LT := tlz LT hb.size
  replace KW := tkb hb LW KW
  replace LW := tlz LW hb.size
  replace KG := tkb hb LG KG
  replace LG := tlz LG hb.size
  replace B0 := tbt B0 hb
  replace B1 := tbt B1 hb
  replace GI := Lib.hid (GI.out.later hb)
  replace GT := Lib.hid (GT.out.later hb)
  replace G := Lib.hid (G.out.later hb hb.size)
  replace Z2 := Lib.hid (Nat.le_trans Z2.out hb.size)
  replace BB := tbt BB hb
  clear hc hb fG0 fG1 fW0 fW1
  have hqq : (q != q) = false := by simp
  have hnn := Hlen.out
  have hc := mark_stateN R.items.length R.talks.length 1 gi ci gt ct w1.heap.size ai at_ cs ds w6 (by omega) (by omega) HNE.out HAI.out HAT.out GI.out GT.out
  obtain ⟨ms, hmS⟩ : ∃ m, m = 1 + 2 * R.items.length + 3 * R.talks.length := ⟨_, rfl⟩
  rw [← hmS] at hc
  have HmS := Lib.hid hmS
  clear hmS hnn
  have fG0 := tcr KG 0
  have fG1 := tcr KG 1
  go_wp2_with (go_at_call 28; refine hc.mono ?_; rintro e w7 ⟨rfl, gX, tX, ho⟩; refine Hid.out ?_)
  refine Lib.hid ?_
  have GX := Lib.hid gX
  have TX := Lib.hid tX
  clear gX tX hc GI GT G hqq fG0 fG1
  have hlt := HLT.out
  have hpk := HPK.out
  have hlo := HLO.out
  have z1 := N1.out
  have z0 := N0.out
  have z4 := N4.out
  have t1 := T1.out
  have y3 := Y3.out
  have hs := ho.size
  obtain ⟨wo, go1, go2⟩ := id ho
  have hs1 := go1.size
  replace KT := Lib.hid ((ho.block LT.out (by omega) (by omega)).trans KT.out)
  replace LT := tlz LT hs
  replace KW := Lib.hid ((ho.block LW.out (by omega) (by omega)).trans KW.out)
  replace KG := Lib.hid ((ho.block LG.out (by omega) (by omega)).trans KG.out)
  replace LW := tlz LW hs
  replace LG := tlz LG hs
  have SW4 : Hid (Rd w7 w7.heap.size (.agg #[.slice aW R.items.length cW, .slice bW R.talks.length dW]) R) := Lib.hid (by
  rcases HPK.out with ⟨h1, h2⟩ | ⟨_, _, h⟩
  · exact SW.out.later ((B1.out.grown go1 B1.out.size (fun j e => by cases e; omega)).grown go2 (Nat.le_trans B1.out.size hs1) (fun j e => by cases e; omega)) (Nat.le_trans B1.out.size hs)
  · have h' := SW.out
    rw [h] at h' ⊢
    exact rd_none h')
  replace BB := Lib.hid ((BB.out.grown go1 BB.out.size (fun j e => by cases e; omega)).grown go2 (Nat.le_trans BB.out.size hs1) (fun j e => by cases e; omega))
  have B4 : Hid (Below w7.heap.size w7 w7) := Lib.hid (Below.refl _ _)
  clear hs go1 go2 hs1 ho wo hlt hpk hlo z1 z0 z4 t1 y3 HPK SW B1 B0 Z2
  have hm0 : decide ((ms : Int) < 0) = false := by simp
  have hmm : ((ms : Int) != (ms : Int)) = false := by simp
  have hc := held_stateN R.items.length R.talks.length 1 gi ci gt ct w1.heap.size ai at_ w7 (by omega) (by have := Hlen.out; omega) HAI.out HAT.out GX.out TX.out
  rw [← HmS.out] at hc
  have fG0 := tcr KG 0
  have fG1 := tcr KG 1
  go_wp2_with (go_at_call 29; refine hc.mono ?_; rintro e w8 ⟨rfl, hb⟩; refine Hid.out ?_)
  refine Lib.hid ?_
  replace KT := tkb hb LT KT
  replace LT := tlz LT hb.size
  replace KW := tkb hb LW KW
  replace LW := tlz LW hb.size
  replace KG := tkb hb LG KG
  replace LG := tlz LG hb.size
  replace GX := Lib.hid (GX.out.later hb)
  replace TX := Lib.hid (TX.out.later hb)
  replace B4 := tbt B4 hb
  replace BB := tbt BB hb
  clear hc hb fG0 fG1
  have hc := c1 w8
  have fT0 := tcr KT 0
  have fT1 := tcr KT 1
  have fT2 := tcr KT 2
  have fT3 := tcr KT 3
  go_wp2_with (go_at_call 26; refine hc.mono ?_; rintro e w9 ⟨rfl, hb, _⟩; refine Hid.out ?_)
  refine Lib.hid ?_
  replace KT := tkb hb LT KT
  replace LT := tlz LT hb.size
  replace KW := tkb hb LW KW
  replace LW := tlz LW hb.size
  replace KG := tkb hb LG KG
  replace LG := tlz LG hb.size
  replace GX := Lib.hid (GX.out.later hb)
  replace TX := Lib.hid (TX.out.later hb)
  replace B4 := tbt B4 hb
  replace BB := tbt BB hb
  clear hc hb fT0 fT1 fT2 fT3
  have hc := c3 w9
  go_wp2_with (go_at_call 17; refine hc.mono ?_; rintro e w10 ⟨vH, rfl, hH, hb⟩; refine Hid.out ?_)
  refine Lib.hid ?_
  replace KT := tkb hb LT KT
  replace LT := tlz LT hb.size
  replace KW := tkb hb LW KW
  replace LW := tlz LW hb.size
  replace KG := tkb hb LG KG
  replace LG := tlz LG hb.size
  replace GX := Lib.hid (GX.out.later hb)
  replace TX := Lib.hid (TX.out.later hb)
  replace B4 := tbt B4 hb
  replace BB := tbt BB hb
  clear hc hb 
  obtain ⟨ah, ch, bh, dh, rfl⟩ := hH.two
  have GH := Lib.hid hH.st.rd
  clear hH
  obtain ⟨X3, hX3⟩ : ∃ z, z = w10.alloc (.cells #[.slice ah R.items.length ch, .slice bh R.talks.length dh] 35) := ⟨_, rfl⟩
  have hb : Below w10.heap.size w10 X3 := by rw [hX3]; exact (Below.refl _ _).alloc (Nat.le_refl _) _
  replace KT := tkb hb LT KT
  replace LT := tlz LT hb.size
  replace KW := tkb hb LW KW
  replace LW := tlz LW hb.size
  replace KG := tkb hb LG KG
  replace LG := tlz LG hb.size
  replace GX := Lib.hid (GX.out.later hb)
  replace TX := Lib.hid (TX.out.later hb)
  replace B4 := tbt B4 hb
  replace GH := Lib.hid (GH.out.later hb hb.size)
  replace BB := tbt BB hb
  have KH : Hid (X3.heap[w10.heap.size]? = some (.cells #[.slice ah R.items.length ch, .slice bh R.talks.length dh] 35 (0, 0))) := Lib.hid (by rw [hX3]; exact heap_new _ _)
  have LH : Hid (w10.heap.size < X3.heap.size) := Lib.hid (by rw [hX3]; simp)
  clear hb
  have hc := eq_state R _ _ X3.heap.size X3 GH.out (SW4.out.later B4.out B4.out.size) (Nat.le_refl _)
  have fH0 := tcr KH 0
  have fH1 := tcr KH 1
  have fW0 := tcr KW 0
  have fW1 := tcr KW 1
  rw [hX3] at hc fH0 fH1 fW0 fW1
  go_wp2_with (go_at_call 27; refine hc.mono ?_; rintro e w11 ⟨rfl, hb⟩; refine Hid.out ?_)
  refine Lib.hid ?_
  rw [← hX3] at hb 
  clear hX3
  replace KT := tkb hb LT KT
  replace LT := tlz LT hb.size
  replace KW := tkb hb LW KW
  replace LW := tlz LW hb.size
  replace KG := tkb hb LG KG
  replace LG := tlz LG hb.size
  replace KH := tkb hb LH KH
  replace LH := tlz LH hb.size
  replace GX := Lib.hid (GX.out.later hb)
  replace TX := Lib.hid (TX.out.later hb)
  replace B4 := tbt B4 hb
  replace GH := Lib.hid (GH.out.later hb hb.size)
  replace BB := tbt BB hb
  clear hc hb fH0 fH1 fW0 fW1
  have hqq : (q != q) = false := by simp
  have hc := held_stateN R.items.length R.talks.length 1 gi ci gt ct w1.heap.size ai at_ w11 (by omega) (by have := Hlen.out; omega) HAI.out HAT.out GX.out TX.out
  rw [← HmS.out] at hc
  have fG0 := tcr KG 0
  have fG1 := tcr KG 1
  go_wp2_with (go_at_call 29; refine hc.mono ?_; rintro e w12 ⟨rfl, hb⟩; refine Hid.out ?_)
  refine Lib.hid ?_
  replace KT := tkb hb LT KT
  replace LT := tlz LT hb.size
  replace KW := tkb hb LW KW
  replace LW := tlz LW hb.size
  replace KG := tkb hb LG KG
  replace LG := tlz LG hb.size
  replace KH := tkb hb LH KH
  replace LH := tlz LH hb.size
  replace GX := Lib.hid (GX.out.later hb)
  replace TX := Lib.hid (TX.out.later hb)
  replace B4 := tbt B4 hb
  replace GH := Lib.hid (GH.out.later hb hb.size)
  replace BB := tbt BB hb
  clear hc hb fG0 fG1
  go_wp2_with fail
  go_ret
  exact ⟨rfl, BB.out⟩
end Go.Proofs.Ytdpjdjkfedcojaa
