/- The exact laws of VersionOf, Upgrade and Decode: the program answers as its model; what Decode hands back is its own. Condition: none beyond what the arguments may be. -/
import Derived.Test.YtmmkiodnlmpbiaaBaseA
import Derived.Test.YtmmkiodnlmpbiaaVerUp
import Derived.Test.YtmmkiodnlmpbiaaExactPlain
namespace Go.Proofs.Ytmmkiodnlmpbiaa
open Go.RowKit
set_option linter.unusedVariables false
set_option linter.unusedSimpArgs false

set_option maxRecDepth 100000 in
set_option maxHeartbeats 4000000 in
theorem law_versionOf (t : ByteArray) (w : World) : Calls Try.prog 10 #[.string t] w fun e w' => e = .returned (.bool true) ∧ Below w.heap.size w w' := by
  by_cases hbig : 1048576 < t.size
  · have hd : decide (1048576 < (t.size : Int)) = true := by simp; omega
    go_enter Try.func10, Try.ntmps10
    go_wp2_with fail
    go_ret
    exact ⟨rfl, Below.refl _ _⟩
  have hd : decide (1048576 < (t.size : Int)) = false := by simp; omega
  have hbig' : ¬ 1048576 < (t.size : Int) := by omega
  have ht : t.size ≤ 1099511627776 := by omega
  obtain ⟨q, hq⟩ : ∃ q, q = (decS t).2 := ⟨_, rfl⟩
  have Hq := Lib.hid hq
  clear hq
  go_enter Try.func10, Try.ntmps10
  have hc := spec_versionOf t w ht
  rw [← Hq.out] at hc
  go_wp2_with (go_at_call 22; refine hc.mono ?_; rintro e w1 ⟨rfl, hb1⟩; refine Hid.out ?_)
  refine Lib.hid ?_
  clear hc
  have hc := impl_versionOf t w1 ht
  rw [← Hq.out] at hc
  go_wp2_with (go_at_call 18; refine hc.mono ?_; rintro e w2 ⟨rfl, hb2⟩; refine Hid.out ?_)
  refine Lib.hid ?_
  clear hc
  go_wp2_with fail
  go_ret
  exact ⟨rfl, hb1.trans (hb2.mono hb1.size)⟩
set_option maxRecDepth 100000 in
set_option maxHeartbeats 4000000 in
theorem law_upgrade (t : ByteArray) (n : Int) (w : World) : Calls Try.prog 9 #[.string t, .int .i64 n] w fun e w' => e = .returned (.bool true) ∧ Below w.heap.size w w' := by
  by_cases hbig : 1048576 < t.size
  · have hd : decide (1048576 < (t.size : Int)) = true := by simp; omega
    go_enter Try.func9, Try.ntmps9
    go_wp2_with fail
    go_ret
    exact ⟨rfl, Below.refl _ _⟩
  have hd : decide (1048576 < (t.size : Int)) = false := by simp; omega
  have hbig' : ¬ 1048576 < (t.size : Int) := by omega
  have ht : t.size ≤ 1099511627776 := by omega
  obtain ⟨x, hx⟩ : ∃ x, x = (upS t n).1 := ⟨_, rfl⟩
  obtain ⟨y, hy⟩ : ∃ y, y = (upS t n).2 := ⟨_, rfl⟩
  have Hx := Lib.hid hx
  have Hy := Lib.hid hy
  clear hx hy
  go_enter Try.func9, Try.ntmps9
  have hc := spec_upgrade t n w ht
  rw [← Hx.out, ← Hy.out] at hc
  go_wp2_with (go_at_call 26; refine hc.mono ?_; rintro e w1 ⟨rfl, hb1⟩; refine Hid.out ?_)
  refine Lib.hid ?_
  clear hc
  have hc := impl_upgrade t n w1 ht
  rw [← Hx.out, ← Hy.out] at hc
  go_wp2_with (go_at_call 25; refine hc.mono ?_; rintro e w2 ⟨rfl, hb2⟩; refine Hid.out ?_)
  refine Lib.hid ?_
  clear hc
  have hyy : (y != y) = false := by simp
  go_wp2_with fail
  go_ret
  exact ⟨rfl, hb1.trans (hb2.mono hb1.size)⟩
/-- The rows that are marked: the state's own, or two spare blocks where there is no state. -/
theorem dec_pick {w : World} {base lo p q ci ct : Nat} {ai at_ : Option Addr} {s : St} (h : DecV w base (.agg #[.slice ai s.items.length ci, .slice at_ s.talks.length ct]) s) (hpq : p ≠ q) (hp : lo ≤ p ∧ p < w.heap.size) (hq : lo ≤ q ∧ q < w.heap.size) (hl : lo ≤ base) :
    ∃ gi gt cs ds, gi ≠ gt ∧ NilOr ai gi s.items.length ci ∧ NilOr at_ gt s.talks.length ct ∧ Got w lo 60 2 gi s.items.length ci cs ∧ Got w lo 63 3 gt s.talks.length ct ds ∧ ((base ≤ gi ∧ base ≤ gt) ∨ (gi = p ∧ gt = q ∧ s = ⟨[], []⟩)) := by
  rcases h with ⟨h, rfl⟩ | h
  · obtain ⟨⟨rfl, rfl⟩, rfl, rfl⟩ : (ai = none ∧ ci = 0) ∧ at_ = none ∧ ct = 0 := by simpa using h
    exact ⟨p, q, [], [], hpq, .inr ⟨rfl, rfl, rfl⟩, .inr ⟨rfl, rfl, rfl⟩, ⟨rfl, Nat.le_refl _, Nat.zero_le _, hp.1, hp.2, .inl ⟨rfl, rfl⟩⟩, ⟨rfl, Nat.le_refl _, Nat.zero_le _, hq.1, hq.2, .inl ⟨rfl, rfl⟩⟩, .inr ⟨rfl, rfl, rfl⟩⟩
  · obtain ⟨vi, vt, gi, ci', gt, ct', h0, h1, ⟨a, rfl, h2⟩, ⟨b, rfl, h3⟩, h4, h5⟩ := h
    obtain ⟨⟨rfl, rfl⟩, rfl, rfl⟩ : (ai = a ∧ ci = ci') ∧ at_ = b ∧ ct = ct' := by simpa using h0
    exact ⟨gi, gt, _, _, h1, h2, h3, h4.base hl, h5.base hl, .inl ⟨h4.2.2.2.1, h5.2.2.2.1⟩⟩
theorem rd_none {w w' : World} {B B' : Nat} {v : Value} (h : Rd w B v ⟨[], []⟩) : Rd w' B' v ⟨[], []⟩ := by
  obtain ⟨vi, vt, h0, ⟨a, c, a1, a2, a3, a4, _⟩, ⟨b, d, b1, b2, b3, b4, _⟩⟩ := h
  exact ⟨vi, vt, h0, ⟨a, c, a1, a2, a3, a4, fun h => absurd h (Nat.lt_irrefl _)⟩, ⟨b, d, b1, b2, b3, b4, fun h => absurd h (Nat.lt_irrefl _)⟩⟩
set_option maxRecDepth 100000 in
set_option maxHeartbeats 8000000 in
theorem law_decode (t : ByteArray) (w : World) : Calls Try.prog 8 #[.string t] w fun e w' => e = .returned (.bool true) ∧ Below w.heap.size w w' := by
  by_cases hbig : 1048576 < t.size
  · have hd : decide (1048576 < (t.size : Int)) = true := by simp; omega
    go_enter Try.func8, Try.ntmps8
    go_wp2_with fail
    go_ret
    exact ⟨rfl, Below.refl _ _⟩
  have hd : decide (1048576 < (t.size : Int)) = false := by simp; omega
  have hbig' : ¬ 1048576 < (t.size : Int) := by omega
  have ht : t.size ≤ 1099511627776 := by omega
  obtain ⟨R, hR⟩ : ∃ x, x = (decS t).1 := ⟨_, rfl⟩
  obtain ⟨q, hq⟩ : ∃ y, y = (decS t).2 := ⟨_, rfl⟩
  have HR := Lib.hid hR
  have Hq := Lib.hid hq
  have Hlen : Hid (R.items.length ≤ 40 ∧ R.talks.length ≤ 20) := Lib.hid (by
    rw [hR]
    by_cases h0 : (decS t).2 ≠ 0
    · have h := ok_smI (dec_fmt h0).2.1; exact ⟨h.2.2.1, h.2.2.2⟩
    · rw [dec_zero h0]; exact ⟨Nat.zero_le _, Nat.zero_le _⟩)
  have BB : Hid (Below w.heap.size w w) := Lib.hid (Below.refl _ _)
  clear hR hq
  go_enter Try.func8, Try.ntmps8
  have hc := spec_decode t w ht
  rw [← HR.out, ← Hq.out] at hc
  go_wp2_with (go_at_call 20; refine hc.mono ?_; rintro e w1 ⟨vW, rfl, hW, hb, hlt⟩; refine Hid.out ?_)
  refine Lib.hid ?_
  replace BB := tbt BB hb
  clear hc hb 
  obtain ⟨aW, cW, bW, dW, rfl⟩ := hW.two
  have SW := Lib.hid hW.st.rd
  have N0 : Hid (w.heap.size < w1.heap.size) := Lib.hid hlt
  have B1 : Hid (Below w1.heap.size w1 w1) := Lib.hid (Below.refl _ _)
  clear hW hlt
  obtain ⟨X1, hX1⟩ : ∃ z, z = w1.alloc (.cells #[.slice aW R.items.length cW, .slice bW R.talks.length dW] 27) := ⟨_, rfl⟩
  have hb : Below w1.heap.size w1 X1 := by rw [hX1]; exact (Below.refl _ _).alloc (Nat.le_refl _) _
  replace B1 := tbt B1 hb
  replace BB := tbt BB hb
  have KW : Hid (X1.heap[w1.heap.size]? = some (.cells #[.slice aW R.items.length cW, .slice bW R.talks.length dW] 27 (0, 0))) := Lib.hid (by rw [hX1]; exact heap_new _ _)
  have LW : Hid (w1.heap.size < X1.heap.size) := Lib.hid (by rw [hX1]; simp)
  clear hb
  have N1 := LW
  have hc := impl_decode t X1 ht
  rw [← HR.out, ← Hq.out] at hc
  rw [hX1] at hc 
  go_wp2_with (go_at_call 16; refine hc.mono ?_; rintro e w2 ⟨vG, rfl, hG, hb, hlt⟩; refine Hid.out ?_)
  refine Lib.hid ?_
  rw [← hX1] at hb hG hlt
  clear hX1
  replace KW := tkb hb LW KW
  replace LW := tlz LW hb.size
  replace B1 := tbt B1 hb
  replace BB := tbt BB hb
  clear hc hb 
  obtain ⟨ai, ci, at_, ct, rfl⟩ := hG.two
  have G := Lib.hid hG.st.rd
  have z0 := N0.out
  have z1 := N1.out
  obtain ⟨gi, gt, cs, ds, hne, hai, hat, gI, gT, hpk⟩ := dec_pick (lo := w.heap.size) (p := w.heap.size) (q := X1.heap.size) hG (by omega) ⟨Nat.le_refl _, by omega⟩ ⟨by omega, hlt⟩ (by omega)
  have HAI := Lib.hid hai
  have HAT := Lib.hid hat
  have GI := Lib.hid gI
  have GT := Lib.hid gT
  have HNE := Lib.hid hne
  have HLT : Hid (gi < w2.heap.size ∧ gt < w2.heap.size ∧ w1.heap.size < w2.heap.size) := Lib.hid ⟨gI.2.2.2.2.1, gT.2.2.2.2.1, by omega⟩
  have HPK : Hid ((X1.heap.size ≤ gi ∧ X1.heap.size ≤ gt) ∨ (gi = w.heap.size ∧ gt = X1.heap.size ∧ R = ⟨[], []⟩)) := Lib.hid hpk
  have HLO : Hid (w.heap.size ≤ gi ∧ w.heap.size ≤ gt) := Lib.hid ⟨gI.2.2.2.1, gT.2.2.2.1⟩
  have Z2 : Hid (w2.heap.size ≤ w2.heap.size) := Lib.hid (Nat.le_refl _)
  clear hG hlt hne hai hat gI gT hpk z0 z1
  obtain ⟨X2, hX2⟩ : ∃ z, z = w2.alloc (.cells #[.slice ai R.items.length ci, .slice at_ R.talks.length ct] 27) := ⟨_, rfl⟩
  have hb : Below w2.heap.size w2 X2 := by rw [hX2]; exact (Below.refl _ _).alloc (Nat.le_refl _) _
  replace KW := tkb hb LW KW
  replace LW := tlz LW hb.size
  replace B1 := tbt B1 hb
  replace GI := Lib.hid (GI.out.later hb)
  replace GT := Lib.hid (GT.out.later hb)
  replace G := Lib.hid (G.out.later hb hb.size)
  replace Z2 := Lib.hid (Nat.le_trans Z2.out hb.size)
  replace BB := tbt BB hb
  have KG : Hid (X2.heap[w2.heap.size]? = some (.cells #[.slice ai R.items.length ci, .slice at_ R.talks.length ct] 27 (0, 0))) := Lib.hid (by rw [hX2]; exact heap_new _ _)
  have LG : Hid (w2.heap.size < X2.heap.size) := Lib.hid (by rw [hX2]; simp)
  clear hb
  have hc := eq_state R _ _ X2.heap.size X2 G.out (SW.out.later B1.out B1.out.size) (Nat.le_refl _)
  have fG0 := tcr KG 0
  have fG1 := tcr KG 1
  have fW0 := tcr KW 0
  have fW1 := tcr KW 1
  rw [hX2] at hc fG0 fG1 fW0 fW1
  go_wp2_with (go_at_call 30; refine hc.mono ?_; rintro e w3 ⟨rfl, hb⟩; refine Hid.out ?_)
  refine Lib.hid ?_
  rw [← hX2] at hb 
  clear hX2
  replace KW := tkb hb LW KW
  replace LW := tlz LW hb.size
  replace KG := tkb hb LG KG
  replace LG := tlz LG hb.size
  replace B1 := tbt B1 hb
  replace GI := Lib.hid (GI.out.later hb)
  replace GT := Lib.hid (GT.out.later hb)
  replace G := Lib.hid (G.out.later hb hb.size)
  replace Z2 := Lib.hid (Nat.le_trans Z2.out hb.size)
  replace BB := tbt BB hb
  clear hc hb fG0 fG1 fW0 fW1
  have hqq : (q != q) = false := by simp
  have hnn := Hlen.out
  have hc := mark_stateN R.items.length R.talks.length 1 gi ci gt ct w.heap.size ai at_ cs ds w3 (by omega) (by omega) HNE.out HAI.out HAT.out GI.out GT.out
  obtain ⟨ms, hmS⟩ : ∃ m, m = 1 + 2 * R.items.length + 3 * R.talks.length := ⟨_, rfl⟩
  rw [← hmS] at hc
  have HmS := Lib.hid hmS
  clear hmS hnn
  have fG0 := tcr KG 0
  have fG1 := tcr KG 1
  go_wp2_with (go_at_call 31; refine hc.mono ?_; rintro e w4 ⟨rfl, gX, tX, ho⟩; refine Hid.out ?_)
  refine Lib.hid ?_
  have GX := Lib.hid gX
  have TX := Lib.hid tX
  clear gX tX hc GI GT G hqq fG0 fG1
  have hlt := HLT.out
  have hpk := HPK.out
  have hlo := HLO.out
  have z1 := N1.out
  have z0 := N0.out
  have hs := ho.size
  obtain ⟨wo, go1, go2⟩ := id ho
  have hs1 := go1.size
  replace KW := Lib.hid ((ho.block LW.out (by omega) (by omega)).trans KW.out)
  replace KG := Lib.hid ((ho.block LG.out (by omega) (by omega)).trans KG.out)
  replace LW := tlz LW hs
  replace LG := tlz LG hs
  have SW4 : Hid (Rd w4 w4.heap.size (.agg #[.slice aW R.items.length cW, .slice bW R.talks.length dW]) R) := Lib.hid (by
  rcases HPK.out with ⟨h1, h2⟩ | ⟨_, _, h⟩
  · exact SW.out.later ((B1.out.grown go1 B1.out.size (fun j e => by cases e; omega)).grown go2 (Nat.le_trans B1.out.size hs1) (fun j e => by cases e; omega)) (Nat.le_trans B1.out.size hs)
  · have h' := SW.out
    rw [h] at h' ⊢
    exact rd_none h')
  replace BB := Lib.hid ((BB.out.grown go1 BB.out.size (fun j e => by cases e; omega)).grown go2 (Nat.le_trans BB.out.size hs1) (fun j e => by cases e; omega))
  have B4 : Hid (Below w4.heap.size w4 w4) := Lib.hid (Below.refl _ _)
  clear hs go1 go2 hs1 ho wo hlt hpk hlo z1 z0 HPK SW B1 Z2
  have hm0 : decide ((ms : Int) < 0) = false := by simp
  have hmm : ((ms : Int) != (ms : Int)) = false := by simp
  have hc := held_stateN R.items.length R.talks.length 1 gi ci gt ct w.heap.size ai at_ w4 (by omega) (by have := Hlen.out; omega) HAI.out HAT.out GX.out TX.out
  rw [← HmS.out] at hc
  have fG0 := tcr KG 0
  have fG1 := tcr KG 1
  go_wp2_with (go_at_call 32; refine hc.mono ?_; rintro e w5 ⟨rfl, hb⟩; refine Hid.out ?_)
  refine Lib.hid ?_
  replace KW := tkb hb LW KW
  replace LW := tlz LW hb.size
  replace KG := tkb hb LG KG
  replace LG := tlz LG hb.size
  replace GX := Lib.hid (GX.out.later hb)
  replace TX := Lib.hid (TX.out.later hb)
  replace B4 := tbt B4 hb
  replace BB := tbt BB hb
  clear hc hb fG0 fG1
  have hc := impl_decode t w5 ht
  rw [← HR.out, ← Hq.out] at hc
  go_wp2_with (go_at_call 16; refine hc.mono ?_; rintro e w6 ⟨vH, rfl, hH, hb, _⟩; refine Hid.out ?_)
  refine Lib.hid ?_
  replace KW := tkb hb LW KW
  replace LW := tlz LW hb.size
  replace KG := tkb hb LG KG
  replace LG := tlz LG hb.size
  replace GX := Lib.hid (GX.out.later hb)
  replace TX := Lib.hid (TX.out.later hb)
  replace B4 := tbt B4 hb
  replace BB := tbt BB hb
  clear hc hb 
  obtain ⟨ah, ch, bh, dh, rfl⟩ := hH.two
  have GH := Lib.hid hH.st.rd
  clear hH
  obtain ⟨X3, hX3⟩ : ∃ z, z = w6.alloc (.cells #[.slice ah R.items.length ch, .slice bh R.talks.length dh] 27) := ⟨_, rfl⟩
  have hb : Below w6.heap.size w6 X3 := by rw [hX3]; exact (Below.refl _ _).alloc (Nat.le_refl _) _
  replace KW := tkb hb LW KW
  replace LW := tlz LW hb.size
  replace KG := tkb hb LG KG
  replace LG := tlz LG hb.size
  replace GX := Lib.hid (GX.out.later hb)
  replace TX := Lib.hid (TX.out.later hb)
  replace B4 := tbt B4 hb
  replace GH := Lib.hid (GH.out.later hb hb.size)
  replace BB := tbt BB hb
  have KH : Hid (X3.heap[w6.heap.size]? = some (.cells #[.slice ah R.items.length ch, .slice bh R.talks.length dh] 27 (0, 0))) := Lib.hid (by rw [hX3]; exact heap_new _ _)
  have LH : Hid (w6.heap.size < X3.heap.size) := Lib.hid (by rw [hX3]; simp)
  clear hb
  have hc := eq_state R _ _ X3.heap.size X3 GH.out (SW4.out.later B4.out B4.out.size) (Nat.le_refl _)
  have fH0 := tcr KH 0
  have fH1 := tcr KH 1
  have fW0 := tcr KW 0
  have fW1 := tcr KW 1
  rw [hX3] at hc fH0 fH1 fW0 fW1
  go_wp2_with (go_at_call 30; refine hc.mono ?_; rintro e w7 ⟨rfl, hb⟩; refine Hid.out ?_)
  refine Lib.hid ?_
  rw [← hX3] at hb 
  clear hX3
  replace KW := tkb hb LW KW
  replace LW := tlz LW hb.size
  replace KG := tkb hb LG KG
  replace LG := tlz LG hb.size
  replace KH := tkb hb LH KH
  replace LH := tlz LH hb.size
  replace GX := Lib.hid (GX.out.later hb)
  replace TX := Lib.hid (TX.out.later hb)
  replace B4 := tbt B4 hb
  replace GH := Lib.hid (GH.out.later hb hb.size)
  replace BB := tbt BB hb
  clear hc hb fH0 fH1 fW0 fW1
  have hqq : (q != q) = false := by simp
  have hc := held_stateN R.items.length R.talks.length 1 gi ci gt ct w.heap.size ai at_ w7 (by omega) (by have := Hlen.out; omega) HAI.out HAT.out GX.out TX.out
  rw [← HmS.out] at hc
  have fG0 := tcr KG 0
  have fG1 := tcr KG 1
  go_wp2_with (go_at_call 32; refine hc.mono ?_; rintro e w8 ⟨rfl, hb⟩; refine Hid.out ?_)
  refine Lib.hid ?_
  replace KW := tkb hb LW KW
  replace LW := tlz LW hb.size
  replace KG := tkb hb LG KG
  replace LG := tlz LG hb.size
  replace KH := tkb hb LH KH
  replace LH := tlz LH hb.size
  replace GX := Lib.hid (GX.out.later hb)
  replace TX := Lib.hid (TX.out.later hb)
  replace B4 := tbt B4 hb
  replace GH := Lib.hid (GH.out.later hb hb.size)
  replace BB := tbt BB hb
  clear hc hb fG0 fG1
  go_wp2_with fail
  go_ret
  exact ⟨rfl, BB.out⟩
end Go.Proofs.Ytmmkiodnlmpbiaa
