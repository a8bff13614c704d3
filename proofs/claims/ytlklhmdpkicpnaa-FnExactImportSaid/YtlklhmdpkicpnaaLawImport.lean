/- The exact law of Import: the program answers as its model, keeps its argument, and its answer is its own. Condition: none beyond what the arguments may be. -/
import Derived.Test.YtlklhmdpkicpnaaBaseA
import Derived.Test.YtlklhmdpkicpnaaImplImport
import Derived.Test.YtlklhmdpkicpnaaRowTexts
import Derived.Test.YtlklhmdpkicpnaaLawCut
import Derived.Test.YtlklhmdpkicpnaaExactPlain
namespace Go.Proofs.Ytlklhmdpkicpnaa
open Go.RowKit
set_option linter.unusedVariables false
set_option linter.unusedSimpArgs false

theorem decV_two {w : World} {b : Nat} {v : Value} {s : St} (h : DecV w b v s) : ∃ a0 k0 a1 k1, v = .agg #[.slice a0 s.items.length k0, .slice a1 s.talks.length k1] := by
  rcases h with ⟨rfl, rfl⟩ | ⟨_, _, _, _, _, _, h, _, ⟨a0, rfl, _⟩, ⟨a1, rfl, _⟩, _⟩
  · exact ⟨none, 0, none, 0, rfl⟩
  · exact ⟨_, _, _, _, h⟩
/-- The rows that are marked: the state's own, or two spare blocks where there is no state. -/
theorem dec_pick2 {w : World} {base lo p q ci ct : Nat} {ai at_ : Option Addr} {s : St} (h : DecV w base (.agg #[.slice ai s.items.length ci, .slice at_ s.talks.length ct]) s) (hpq : p ≠ q) (hp : lo ≤ p ∧ p < w.heap.size) (hq : lo ≤ q ∧ q < w.heap.size) (hl : lo ≤ base) :
    ∃ gi gt cs ds, gi ≠ gt ∧ NilOr ai gi s.items.length ci ∧ NilOr at_ gt s.talks.length ct ∧ Got w lo 114 2 gi s.items.length ci cs ∧ Got w lo 116 3 gt s.talks.length ct ds ∧ ((base ≤ gi ∧ base ≤ gt) ∨ (gi = p ∧ gt = q ∧ s = ⟨[], []⟩ ∧ ct = 0)) := by
  rcases h with ⟨h, rfl⟩ | h
  · obtain ⟨⟨rfl, rfl⟩, rfl, rfl⟩ : (ai = none ∧ ci = 0) ∧ at_ = none ∧ ct = 0 := by simpa using h
    exact ⟨p, q, [], [], hpq, .inr ⟨rfl, rfl, rfl⟩, .inr ⟨rfl, rfl, rfl⟩, ⟨rfl, Nat.le_refl _, Nat.zero_le _, hp.1, hp.2, .inl ⟨rfl, rfl⟩⟩, ⟨rfl, Nat.le_refl _, Nat.zero_le _, hq.1, hq.2, .inl ⟨rfl, rfl⟩⟩, .inr ⟨rfl, rfl, rfl, rfl⟩⟩
  · obtain ⟨vi, vt, gi, ci', gt, ct', h0, h1, ⟨a, rfl, h2⟩, ⟨b, rfl, h3⟩, h4, h5⟩ := h
    obtain ⟨⟨rfl, rfl⟩, rfl, rfl⟩ : (ai = a ∧ ci = ci') ∧ at_ = b ∧ ct = ct' := by simpa using h0
    exact ⟨gi, gt, _, _, h1, h2, h3, h4.base hl, h5.base hl, .inl ⟨h4.2.2.2.1, h5.2.2.2.1⟩⟩
theorem rd_none2 {w w' : World} {B B' : Nat} {v : Value} (h : Rd w B v ⟨[], []⟩) : Rd w' B' v ⟨[], []⟩ := by
  obtain ⟨vi, vt, h0, ⟨a, c, a1, a2, a3, a4, _⟩, ⟨b, d, b1, b2, b3, b4, _⟩⟩ := h
  exact ⟨vi, vt, h0, ⟨a, c, a1, a2, a3, a4, fun h => absurd h (Nat.lt_irrefl _)⟩, ⟨b, d, b1, b2, b3, b4, fun h => absurd h (Nat.lt_irrefl _)⟩⟩
theorem raw_texts {w : World} {B : Nat} {v : Value} {xs : List ByteArray} (h : Texts w B v xs) : Raw w w.heap.size v xs.length (xs.map Value.string) := by
  obtain ⟨hl, ⟨rfl, h0⟩ | ⟨g, cap, cur, rfl, hg, hh, hc, hm, hs, ht⟩⟩ := id h
  · have hx : xs = [] := List.eq_nil_of_length_eq_zero h0
    subst hx
    exact ⟨none, 0, rfl, Nat.le_refl _, Nat.zero_le _, (fun _ => rfl), fun h => absurd h (Nat.lt_irrefl _)⟩
  · refine ⟨some ⟨g, 0, none⟩, cap, rfl, hc, hm, (fun h => by cases h), fun _ => ⟨g, 0, rfl, (Array.getElem?_eq_some_iff.1 hh).1, ?_⟩⟩
    intro j u hu
    have hj : j < xs.length := by have := (List.getElem?_eq_some_iff.1 hu).1; simpa using this
    rw [Nat.zero_add, World.ownsRow.cellAt h j (by omega)]
    exact hu
theorem import_small (xs : List ByteArray) : (importS xs).1.items.length ≤ 40 ∧ (importS xs).1.talks.length ≤ 20 := by
  have hd : ∀ t, (decS t).1.items.length ≤ 40 ∧ (decS t).1.talks.length ≤ 20 := fun t => by
    by_cases h0 : (decS t).2 ≠ 0
    · have h := ok_smI (dec_fmt h0).2.1; exact ⟨h.2.2.1, h.2.2.2⟩
    · rw [dec_zero h0]; exact ⟨Nat.zero_le _, Nat.zero_le _⟩
  have h0 : (([] : List It).length ≤ 40) ∧ (([] : List Tk).length ≤ 20) := ⟨Nat.zero_le _, Nat.zero_le _⟩
  unfold importS
  split
  · exact h0
  · split
    · exact h0
    · split
      · exact h0
      · exact hd _
set_option maxRecDepth 100000 in
set_option maxHeartbeats 8000000 in
theorem law_import (xs : List ByteArray) (v : Value) (w : World) (hr : RawX w w.heap.size v xs) : Calls Try.prog 16 #[v] w fun e w' => e = .returned (.bool true) ∧ Below w.heap.size w w' := by
  have Hlen := Lib.hid (import_small xs)
  obtain ⟨R, hR⟩ : ∃ x, x = (importS xs).1 := ⟨_, rfl⟩
  obtain ⟨q, hq⟩ : ∃ y, y = (importS xs).2 := ⟨_, rfl⟩
  rw [← hR] at Hlen
  have HR := Lib.hid hR
  have Hq := Lib.hid hq
  have BB : Hid (Below w.heap.size w w) := Lib.hid (Below.refl _ _)
  have RX := Lib.hid hr
  clear hR hq hr
  go_enter Try.func16, Try.ntmps16
  have hc := sz_texts xs v w.heap.size w RX.out
  go_wp2_with (go_at_call 54; refine hc.mono ?_; rintro e w0 ⟨r, rfl, hr, rfl⟩; refine Hid.out ?_)
  refine Lib.hid ?_
  clear hc
  by_cases hneg : r < 0
  · clear hr
    go_wp2_with fail
    go_ret
    exact ⟨rfl, BB.out⟩
  obtain ⟨hl, hx⟩ := hr (by omega)
  have Hx : Hid (∀ x ∈ xs, x.size ≤ 1099511627776) := Lib.hid (fun x h => by have := hx x h; omega)
  clear hr hx
  have hc := to_texts xs v w.heap.size w (RX.out.later BB.out) BB.out.size hl
  go_wp2_with (go_at_call 55; refine hc.mono ?_; rintro e w1 ⟨v1, rfl, hT1, ⟨g1, hv1⟩, hb⟩; subst hv1; refine Hid.out ?_)
  refine Lib.hid ?_
  replace BB := tbt BB hb
  clear hc hb 
  have H1 := World.ownsRow.lt hT1 g1 rfl
  have hc := spec_import xs _ w1 (by omega) Hx.out (raw_texts hT1)
  rw [← HR.out, ← Hq.out] at hc
  go_wp2_with (go_at_call 40; refine hc.mono ?_; rintro e w2 ⟨vW, rfl, hW, hb⟩; refine Hid.out ?_)
  refine Lib.hid ?_
  replace BB := tbt BB hb
  have hb2 := hb
  clear hc hb 
  have N2 : Hid (w.heap.size ≤ g1 ∧ g1 < w2.heap.size) := Lib.hid ⟨H1.1, Nat.lt_of_lt_of_le H1.2 hb2.size⟩
  obtain ⟨aW, cW, bW, dW, rfl⟩ := decV_two hW
  have SW := Lib.hid hW.st.rd
  have B2 : Hid (Below w2.heap.size w2 w2) := Lib.hid (Below.refl _ _)
  clear hW hT1 H1 hb2
  obtain ⟨X1, hX1⟩ : ∃ z, z = w2.alloc (.cells #[.slice aW R.items.length cW, .slice bW R.talks.length dW] 44) := ⟨_, rfl⟩
  have hb : Below w2.heap.size w2 X1 := by rw [hX1]; exact (Below.refl _ _).alloc (Nat.le_refl _) _
  replace B2 := tbt B2 hb
  replace BB := tbt BB hb
  have KW : Hid (X1.heap[w2.heap.size]? = some (.cells #[.slice aW R.items.length cW, .slice bW R.talks.length dW] 44 (0, 0))) := Lib.hid (by rw [hX1]; exact heap_new _ _)
  have LW : Hid (w2.heap.size < X1.heap.size) := Lib.hid (by rw [hX1]; simp)
  clear hb
  have N1 := LW
  have hc := to_texts xs v w.heap.size X1 (RX.out.later BB.out) BB.out.size hl
  rw [hX1] at hc 
  go_wp2_with (go_at_call 55; refine hc.mono ?_; rintro e w3 ⟨v3, rfl, hT3, ⟨g3, hv3⟩, hb⟩; subst hv3; refine Hid.out ?_)
  refine Lib.hid ?_
  rw [← hX1] at hb hT3
  clear hX1
  replace KW := tkb hb LW KW
  replace LW := tlz LW hb.size
  replace B2 := tbt B2 hb
  replace BB := tbt BB hb
  clear hc hb 
  have H3 := World.ownsRow.lt hT3 g3 rfl
  have N3 : Hid (w2.heap.size < g3 ∧ g3 < w3.heap.size) := Lib.hid ⟨Nat.lt_of_lt_of_le N1.out H3.1, H3.2⟩
  have TX := Lib.hid hT3
  clear hT3 H3
  have hc := impl_import xs _ w3 (by omega) Hx.out (raw_texts TX.out)
  rw [← HR.out, ← Hq.out] at hc
  go_wp2_with (go_at_call 37; refine hc.mono ?_; rintro e w4 ⟨vG, rfl, hG, hb⟩; refine Hid.out ?_)
  refine Lib.hid ?_
  replace KW := tkb hb LW KW
  replace LW := tlz LW hb.size
  replace B2 := tbt B2 hb
  replace TX := Lib.hid (TX.out.later hb)
  replace BB := tbt BB hb
  have hb4 := hb
  clear hc hb 
  obtain ⟨ai, ci, at_, ct, rfl⟩ := decV_two hG
  have n2 := N2.out
  have n3 := N3.out
  have n4 : w3.heap.size ≤ w4.heap.size := TX.out |> fun _ => hb4.size
  obtain ⟨gi, gt, cs, ds, hne, hai, hat, gI, gT, hpk⟩ := dec_pick2 (lo := w.heap.size) (p := g1) (q := g3) hG (by omega) ⟨by omega, by omega⟩ ⟨by omega, by omega⟩ (by omega)
  have HAI := Lib.hid hai
  have HAT := Lib.hid hat
  have GI := Lib.hid gI
  have GT := Lib.hid gT
  have HNE := Lib.hid hne
  have HG := Lib.hid hG
  have HLT : Hid (gi < w4.heap.size ∧ gt < w4.heap.size ∧ g3 < w4.heap.size) := Lib.hid ⟨gI.2.2.2.2.1, gT.2.2.2.2.1, by omega⟩
  have HPK := Lib.hid hpk
  have HLO : Hid (w.heap.size ≤ gi ∧ w.heap.size ≤ gt) := Lib.hid ⟨gI.2.2.2.1, gT.2.2.2.1⟩
  clear hG hne hai hat gI gT hpk n2 n3 n4 hb4
  obtain ⟨X2, hX2⟩ : ∃ z, z = w4.alloc (.cells #[.slice ai R.items.length ci, .slice at_ R.talks.length ct] 44) := ⟨_, rfl⟩
  have hb : Below w4.heap.size w4 X2 := by rw [hX2]; exact (Below.refl _ _).alloc (Nat.le_refl _) _
  replace KW := tkb hb LW KW
  replace LW := tlz LW hb.size
  replace B2 := tbt B2 hb
  replace TX := Lib.hid (TX.out.later hb)
  replace GI := Lib.hid (GI.out.later hb)
  replace GT := Lib.hid (GT.out.later hb)
  replace HG := Lib.hid (HG.out.later hb)
  replace BB := tbt BB hb
  have KG : Hid (X2.heap[w4.heap.size]? = some (.cells #[.slice ai R.items.length ci, .slice at_ R.talks.length ct] 44 (0, 0))) := Lib.hid (by rw [hX2]; exact heap_new _ _)
  have LG : Hid (w4.heap.size < X2.heap.size) := Lib.hid (by rw [hX2]; simp)
  clear hb
  have hc := eq_state R _ _ X2.heap.size X2 HG.out.st.rd (SW.out.later B2.out B2.out.size) (Nat.le_refl _)
  have fG0 := tcr KG 0
  have fG1 := tcr KG 1
  have fW0 := tcr KW 0
  have fW1 := tcr KW 1
  rw [hX2] at hc fG0 fG1 fW0 fW1
  go_wp2_with (go_at_call 52; refine hc.mono ?_; rintro e w5 ⟨rfl, hb⟩; refine Hid.out ?_)
  refine Lib.hid ?_
  rw [← hX2] at hb 
  clear hX2
  replace KW := tkb hb LW KW
  replace LW := tlz LW hb.size
  replace KG := tkb hb LG KG
  replace LG := tlz LG hb.size
  replace B2 := tbt B2 hb
  replace TX := Lib.hid (TX.out.later hb)
  replace GI := Lib.hid (GI.out.later hb)
  replace GT := Lib.hid (GT.out.later hb)
  replace HG := Lib.hid (HG.out.later hb)
  replace BB := tbt BB hb
  clear hc hb fG0 fG1 fW0 fW1
  have hqq : (q != q) = false := by simp
  have hc := to_texts xs v w.heap.size w5 (RX.out.later BB.out) BB.out.size hl
  go_wp2_with (go_at_call 55; refine hc.mono ?_; rintro e w6 ⟨v6, rfl, hT6, -, hb⟩; refine Hid.out ?_)
  refine Lib.hid ?_
  replace KW := tkb hb LW KW
  replace LW := tlz LW hb.size
  replace KG := tkb hb LG KG
  replace LG := tlz LG hb.size
  replace B2 := tbt B2 hb
  replace TX := Lib.hid (TX.out.later hb)
  replace GI := Lib.hid (GI.out.later hb)
  replace GT := Lib.hid (GT.out.later hb)
  replace HG := Lib.hid (HG.out.later hb)
  replace BB := tbt BB hb
  clear hc hb 
  have hc := eq_same _ _ _ _ xs w6 TX.out hT6
  go_wp2_with (go_at_call 47; refine hc.mono ?_; rintro e w7 ⟨rfl, nn, hnn⟩; have hb : Below w6.heap.size w6 w7 := (by rw [hnn]; exact below_draws _ _ _); clear hnn; refine Hid.out ?_)
  refine Lib.hid ?_
  replace KW := tkb hb LW KW
  replace LW := tlz LW hb.size
  replace KG := tkb hb LG KG
  replace LG := tlz LG hb.size
  replace B2 := tbt B2 hb
  replace TX := Lib.hid (TX.out.later hb)
  replace GI := Lib.hid (GI.out.later hb)
  replace GT := Lib.hid (GT.out.later hb)
  replace HG := Lib.hid (HG.out.later hb)
  replace BB := tbt BB hb
  clear hc hb 
  clear hT6 hqq
  have hc := mark_row _ _ xs 1 (by omega) (by omega) w7 TX.out
  obtain ⟨T, hT⟩ : ∃ T, T = 1 + xs.length := ⟨_, rfl⟩
  rw [← hT] at hc
  clear hT
  go_wp2_with (go_at_call 48; refine hc.mono ?_; rintro e w8 ⟨rfl, -, hgr⟩; refine Hid.out ?_)
  refine Lib.hid ?_
  replace hgr : w7.grownBy w8 (some g3) := hgr
  clear hc TX
  have n2 := N2.out
  have n3 := N3.out
  have nl := HLT.out
  replace KW := tkg hgr LW KW (by simp; omega)
  replace KG := tkg hgr LG KG (by simp; omega)
  replace LW := tlz LW hgr.size
  replace LG := tlz LG hgr.size
  replace B2 := Lib.hid (B2.out.grown hgr B2.out.size (fun j e => by cases e; omega))
  replace BB := Lib.hid (BB.out.grown hgr BB.out.size (fun j e => by cases e; omega))
  replace HG : Hid (DecV w8 w3.heap.size (.agg #[.slice ai R.items.length ci, .slice at_ R.talks.length ct]) R) := Lib.hid (HG.out.imp id (fun h => h.kept hgr (by omega)))
  replace GI := Lib.hid (GI.out.grown hgr (by rcases HPK.out with ⟨h, _⟩ | ⟨h, _⟩ <;> omega))
  replace GT : Hid (Got w8 w.heap.size 116 3 gt R.talks.length ct ds) := Lib.hid (by
    rcases HPK.out with ⟨_, h⟩ | ⟨_, _, h, hc⟩
    · exact GT.out.grown hgr (by omega)
    · exact got_nil GT.out (by rw [h]; rfl) hc hgr.size)
  clear hgr n2 n3 nl
  have hT0 : decide ((T : Int) < 0) = false := by simp
  have hqq : (q != q) = false := by simp
  have hc := eq_state R _ _ w8.heap.size w8 HG.out.st.rd (SW.out.later B2.out B2.out.size) (Nat.le_refl _)
  have fG0 := tcr KG 0
  have fG1 := tcr KG 1
  have fW0 := tcr KW 0
  have fW1 := tcr KW 1
  go_wp2_with (go_at_call 52; refine hc.mono ?_; rintro e w9 ⟨rfl, hb⟩; refine Hid.out ?_)
  refine Lib.hid ?_
  replace KW := tkb hb LW KW
  replace LW := tlz LW hb.size
  replace KG := tkb hb LG KG
  replace LG := tlz LG hb.size
  replace B2 := tbt B2 hb
  replace GI := Lib.hid (GI.out.later hb)
  replace GT := Lib.hid (GT.out.later hb)
  replace HG := Lib.hid (HG.out.later hb)
  replace BB := tbt BB hb
  clear hc hb fG0 fG1 fW0 fW1
  have hnn := Hlen.out
  have hc := mark_stateN R.items.length R.talks.length 1 gi ci gt ct w.heap.size ai at_ cs ds w9 (by omega) (by omega) HNE.out HAI.out HAT.out GI.out GT.out
  obtain ⟨ms, hmS⟩ : ∃ m, m = 1 + 2 * R.items.length + 3 * R.talks.length := ⟨_, rfl⟩
  rw [← hmS] at hc
  have HmS := Lib.hid hmS
  clear hmS hnn
  have fG0 := tcr KG 0
  have fG1 := tcr KG 1
  go_wp2_with (go_at_call 53; refine hc.mono ?_; rintro e w10 ⟨rfl, gX, tX, ho⟩; refine Hid.out ?_)
  refine Lib.hid ?_
  have GX := Lib.hid gX
  have TX := Lib.hid tX
  clear gX tX hc GI GT HG hqq hT0 fG0 fG1
  have hlt := HLT.out
  have hpk := HPK.out
  have hlo := HLO.out
  have n2 := N2.out
  have n3 := N3.out
  have hs := ho.size
  obtain ⟨wo, go1, go2⟩ := id ho
  have hs1 := go1.size
  replace KW := Lib.hid ((ho.block LW.out (by omega) (by omega)).trans KW.out)
  replace KG := Lib.hid ((ho.block LG.out (by omega) (by omega)).trans KG.out)
  replace LW := tlz LW hs
  replace LG := tlz LG hs
  have SW4 : Hid (Rd w10 w10.heap.size (.agg #[.slice aW R.items.length cW, .slice bW R.talks.length dW]) R) := Lib.hid (by
  rcases HPK.out with ⟨h1, h2⟩ | ⟨_, _, h, _⟩
  · exact SW.out.later ((B2.out.grown go1 B2.out.size (fun j e => by cases e; omega)).grown go2 (Nat.le_trans B2.out.size hs1) (fun j e => by cases e; omega)) (Nat.le_trans B2.out.size hs)
  · have h' := SW.out
    rw [h] at h' ⊢
    exact rd_none2 h')
  replace BB := Lib.hid ((BB.out.grown go1 BB.out.size (fun j e => by cases e; omega)).grown go2 (Nat.le_trans BB.out.size hs1) (fun j e => by cases e; omega))
  have B4 : Hid (Below w10.heap.size w10 w10) := Lib.hid (Below.refl _ _)
  clear hs go1 go2 hs1 ho wo hlt hpk hlo n2 n3 HPK SW B2
  have hm0 : decide ((ms : Int) < 0) = false := by simp
  have hmm : ((ms : Int) != (ms : Int)) = false := by simp
  have hc := held_stateN R.items.length R.talks.length 1 gi ci gt ct w.heap.size ai at_ w10 (by omega) (by have := Hlen.out; omega) HAI.out HAT.out GX.out TX.out
  rw [← HmS.out] at hc
  have fG0 := tcr KG 0
  have fG1 := tcr KG 1
  go_wp2_with (go_at_call 56; refine hc.mono ?_; rintro e w11 ⟨rfl, hb⟩; refine Hid.out ?_)
  refine Lib.hid ?_
  replace KW := tkb hb LW KW
  replace LW := tlz LW hb.size
  replace KG := tkb hb LG KG
  replace LG := tlz LG hb.size
  replace GX := Lib.hid (GX.out.later hb)
  replace TX := Lib.hid (TX.out.later hb)
  replace B4 := tbt B4 hb
  replace BB := tbt BB hb
  clear hc hb fG0 fG1
  have hc := to_texts xs v w.heap.size w11 (RX.out.later BB.out) BB.out.size hl
  go_wp2_with (go_at_call 55; refine hc.mono ?_; rintro e w12 ⟨v12, rfl, hT12, -, hb⟩; refine Hid.out ?_)
  refine Lib.hid ?_
  replace KW := tkb hb LW KW
  replace LW := tlz LW hb.size
  replace KG := tkb hb LG KG
  replace LG := tlz LG hb.size
  replace GX := Lib.hid (GX.out.later hb)
  replace TX := Lib.hid (TX.out.later hb)
  replace B4 := tbt B4 hb
  replace BB := tbt BB hb
  clear hc hb 
  have hc := impl_import xs _ w12 (by omega) Hx.out (raw_texts hT12)
  rw [← HR.out, ← Hq.out] at hc
  go_wp2_with (go_at_call 37; refine hc.mono ?_; rintro e w13 ⟨vH, rfl, hH, hb⟩; refine Hid.out ?_)
  refine Lib.hid ?_
  replace KW := tkb hb LW KW
  replace LW := tlz LW hb.size
  replace KG := tkb hb LG KG
  replace LG := tlz LG hb.size
  replace GX := Lib.hid (GX.out.later hb)
  replace TX := Lib.hid (TX.out.later hb)
  replace B4 := tbt B4 hb
  replace BB := tbt BB hb
  clear hc hb 
  obtain ⟨ah, ch, bh, dh, rfl⟩ := decV_two hH
  have GH := Lib.hid hH.st.rd
  clear hH hT12
  obtain ⟨X3, hX3⟩ : ∃ z, z = w13.alloc (.cells #[.slice ah R.items.length ch, .slice bh R.talks.length dh] 44) := ⟨_, rfl⟩
  have hb : Below w13.heap.size w13 X3 := by rw [hX3]; exact (Below.refl _ _).alloc (Nat.le_refl _) _
  replace KW := tkb hb LW KW
  replace LW := tlz LW hb.size
  replace KG := tkb hb LG KG
  replace LG := tlz LG hb.size
  replace GX := Lib.hid (GX.out.later hb)
  replace TX := Lib.hid (TX.out.later hb)
  replace B4 := tbt B4 hb
  replace GH := Lib.hid (GH.out.later hb hb.size)
  replace BB := tbt BB hb
  have KH : Hid (X3.heap[w13.heap.size]? = some (.cells #[.slice ah R.items.length ch, .slice bh R.talks.length dh] 44 (0, 0))) := Lib.hid (by rw [hX3]; exact heap_new _ _)
  have LH : Hid (w13.heap.size < X3.heap.size) := Lib.hid (by rw [hX3]; simp)
  clear hb
  have hc := eq_state R _ _ X3.heap.size X3 GH.out (SW4.out.later B4.out B4.out.size) (Nat.le_refl _)
  have fH0 := tcr KH 0
  have fH1 := tcr KH 1
  have fW0 := tcr KW 0
  have fW1 := tcr KW 1
  rw [hX3] at hc fH0 fH1 fW0 fW1
  go_wp2_with (go_at_call 52; refine hc.mono ?_; rintro e w14 ⟨rfl, hb⟩; refine Hid.out ?_)
  refine Lib.hid ?_
  rw [← hX3] at hb 
  clear hX3
  replace KW := tkb hb LW KW
  replace LW := tlz LW hb.size
  replace KG := tkb hb LG KG
  replace LG := tlz LG hb.size
  replace KH := tkb hb LH KH
  replace LH := tlz LH hb.size
  replace GX := Lib.hid (GX.out.later hb)
  replace TX := Lib.hid (TX.out.later hb)
  replace B4 := tbt B4 hb
  replace GH := Lib.hid (GH.out.later hb hb.size)
  replace BB := tbt BB hb
  clear hc hb fH0 fH1 fW0 fW1
  have hqq : (q != q) = false := by simp
  have hc := held_stateN R.items.length R.talks.length 1 gi ci gt ct w.heap.size ai at_ w14 (by omega) (by have := Hlen.out; omega) HAI.out HAT.out GX.out TX.out
  rw [← HmS.out] at hc
  have fG0 := tcr KG 0
  have fG1 := tcr KG 1
  go_wp2_with (go_at_call 56; refine hc.mono ?_; rintro e w15 ⟨rfl, hb⟩; refine Hid.out ?_)
  refine Lib.hid ?_
  replace KW := tkb hb LW KW
  replace LW := tlz LW hb.size
  replace KG := tkb hb LG KG
  replace LG := tlz LG hb.size
  replace KH := tkb hb LH KH
  replace LH := tlz LH hb.size
  replace GX := Lib.hid (GX.out.later hb)
  replace TX := Lib.hid (TX.out.later hb)
  replace B4 := tbt B4 hb
  replace GH := Lib.hid (GH.out.later hb hb.size)
  replace BB := tbt BB hb
  clear hc hb fG0 fG1
  go_wp2_with fail
  go_ret
  exact ⟨rfl, BB.out⟩
end Go.Proofs.Ytlklhmdpkicpnaa
