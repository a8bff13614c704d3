/- The exact law of DropItem: the program answers as its model, keeps its argument, and its answer's memory is its own; given what the program's own function answers. Condition: what the program's own function answers. -/
import Derived.Test.YtkoohmibdaomkaaImplDrop
import Derived.Test.YtkoohmibdaomkaaMarkN
import Derived.Test.YtkoohmibdaomkaaExactState
namespace Go.Proofs.Ytkoohmibdaomkaa
open Go.RowKit
set_option linter.unusedVariables false

theorem rd_parts {w : World} {b1 b2 gi gt ci ct : Nat} {ai at_ : Option Addr} {s : St} (hi : NilOr ai gi s.items.length ci) (ht : NilOr at_ gt s.talks.length ct)
    (gI : Got w b1 29 2 gi s.items.length ci (s.items.flatMap itC)) (gT : Got w b2 41 3 gt s.talks.length ct (s.talks.flatMap tkC)) :
    Rd w w.heap.size (.agg #[.slice ai s.items.length ci, .slice at_ s.talks.length ct]) s :=
  ⟨_, _, rfl, raw_of_got gI ⟨ai, rfl, hi⟩, raw_of_got gT ⟨at_, rfl, ht⟩⟩
theorem row_of_got {w : World} {b e sz g n cap : Nat} {cs : List Value} (h : Got w b e sz g n cap cs) : Row w w.heap.size sz (.slice (some ⟨g, 0, none⟩) n cap) n cs := by
  obtain ⟨h1, h2, h3, h4, h5, h6⟩ := h
  refine ⟨h1, .inr ⟨g, 0, cap, rfl, h2, h3, ?_, fun j u hu => ?_⟩⟩
  · exact .inr h5
  · have hn : 0 < cs.length := by
      rcases Nat.eq_zero_or_pos cs.length with h | h
      · have : cs = [] := List.eq_nil_of_length_eq_zero h
        subst this; simp at hu
      · exact h
    rcases h6 with ⟨rfl, _⟩ | h6
    · rw [h1] at hn; omega
    · have := h6.cells (g := g) rfl j u hu
      rwa [add_flat] at this
theorem st_parts {w : World} {b1 b2 gi gt ci ct : Nat} {s : St} (gI : Got w b1 29 2 gi s.items.length ci (s.items.flatMap itC)) (gT : Got w b2 41 3 gt s.talks.length ct (s.talks.flatMap tkC)) :
    StV w w.heap.size (.agg #[.slice (some ⟨gi, 0, none⟩) s.items.length ci, .slice (some ⟨gt, 0, none⟩) s.talks.length ct]) s :=
  ⟨_, _, rfl, row_of_got gI, row_of_got gT⟩
theorem got_of_owns {w : World} {lo e sz n g : Nat} {cs : List Value} (h : w.ownsRow lo e sz (.slice (some ⟨g, 0, none⟩) n n) n cs) (hn : n ≤ maxLen) : Got w lo e sz g n n cs :=
  ⟨h.1, Nat.le_refl _, hn, (h.lt g rfl).1, (h.lt g rfl).2, .inr h⟩
theorem OwnS.c {w : World} {lo : Nat} {v : Value} {s : St} (h : OwnS w lo v s) (hi : s.items.length ≤ maxLen) (ht : s.talks.length ≤ maxLen) :
    ∃ g k, v = .agg #[.slice (some ⟨g, 0, none⟩) s.items.length s.items.length, .slice (some ⟨k, 0, none⟩) s.talks.length s.talks.length] ∧ g ≠ k ∧
      Got w lo 29 2 g s.items.length s.items.length (s.items.flatMap itC) ∧ Got w lo 41 3 k s.talks.length s.talks.length (s.talks.flatMap tkC) := by
  obtain ⟨g, k, h0, h1, h2, h3⟩ := h
  exact ⟨g, k, h0, h1, got_of_owns h2 hi, got_of_owns h3 ht⟩
theorem Off.size {w w' : World} {g h : Nat} (ho : Off w w' g h) : w.heap.size ≤ w'.heap.size := by
  obtain ⟨w1, a, b⟩ := ho
  exact Nat.le_trans a.size b.size
theorem Off.block {w w' : World} {g h : Nat} (ho : Off w w' g h) {j : Nat} (hj : j < w.heap.size) (hg : j ≠ g) (hh : j ≠ h) : w'.heap[j]? = w.heap[j]? := by
  obtain ⟨w1, a, b⟩ := ho
  exact (b.block j (Nat.lt_of_lt_of_le hj a.size) (by simp; omega)).trans (a.block j hj (by simp; omega))
theorem dropS_len (s : St) (key : ByteArray) : (dropS s key).items.length ≤ s.items.length ∧ (dropS s key).talks.length ≤ s.talks.length := by
  unfold dropS
  split
  · refine ⟨?_, Nat.le_refl _⟩
    simp only [List.length_append, List.length_take, List.length_drop]
    omega
  · exact ⟨Nat.le_refl _, Nat.le_refl _⟩

set_option maxRecDepth 100000 in
set_option maxHeartbeats 8000000 in
theorem law_dropItem (hI : ImplDropItem) (s : St) (v : Value) (key : ByteArray) (w : World) (hk : key.size ≤ maxLen) (hr : RawS w w.heap.size v s) :
    Calls Try.prog 12 #[v, .string key] w fun e w' => e = .returned (.bool true) ∧ Below w.heap.size w w' := by
  have hk' := hk
  unfold maxLen at hk'
  by_cases hbig : 1048576 < (key.size : Int)
  · obtain ⟨vi, vt, rfl, _⟩ := hr
    go_enter Try.func12, Try.ntmps12
    go_wp2_with fail
    go_ret
    exact ⟨rfl, (Below.refl _ _).alloc (Nat.le_refl _) _⟩
  have hfit := hr.fits
  obtain ⟨vi, vt, rfl, h1, h2, h3, h4⟩ := hr
  have HR : Hid (RawS w w.heap.size (.agg #[vi, vt]) s) := Lib.hid ⟨vi, vt, rfl, h1, h2, h3, h4⟩
  have Hfit := Lib.hid hfit
  clear hfit h1 h2 h3 h4
  obtain ⟨r, hr'⟩ : ∃ r, r = dropS s key := ⟨_, rfl⟩
  obtain ⟨W, hW⟩ : ∃ W, W = w.alloc (.cells #[vi, vt] 53) := ⟨_, rfl⟩
  have hbW : Below w.heap.size w W := by rw [hW]; exact (Below.refl _ _).alloc (Nat.le_refl _) _
  have hWs : W.heap.size = w.heap.size + 1 := by rw [hW]; simp
  have KP0 : Hid (W.heap[w.heap.size]? = some (.cells #[vi, vt] 53 (0, 0))) := Lib.hid (by rw [hW]; exact heap_new _ _)
  have LP0 : Hid (w.heap.size < W.heap.size) := Lib.hid (by omega)
  have HWlt := LP0
  have hc0 := sz_state s _ w.heap.size 1048576 W (HR.out.later hbW (Nat.le_refl _)) hbW.size (by omega)
  rw [hW] at hc0
  have Hr := Lib.hid hr'
  clear hWs hr'
  go_enter Try.func12, Try.ntmps12
  go_wp2_with (go_at_call 39; refine hc0.mono ?_; rintro e w1 ⟨q, rfl, hr0, hr1, hr2, hb1⟩; refine Hid.out ?_)
  refine Lib.hid ?_
  rw [← hW] at hb1
  have hB1 := hbW.trans (hb1.mono hbW.size)
  have Hb1 := Lib.hid hb1
  have HB1 := Lib.hid hB1
  clear hc0 hW hb1 hbW hB1
  by_cases hneg : q < 0
  · clear hr2
    go_wp2_with fail
    go_ret
    exact ⟨rfl, HB1.out⟩
  have Hs := Lib.hid (hr2 (by omega))
  clear hr2
  have Hfew : Hid (Few s) := Lib.hid (by have := Hs.out; unfold Small at this; unfold Few; omega)
  have Hsr : Hid (r.items.length ≤ 1048576 ∧ r.talks.length ≤ 1048576) := Lib.hid (by have := Hs.out; unfold Small at this; have := dropS_len s key; rw [← Hr.out] at this; omega)
  have NW1 : Hid (W.heap.size ≤ w1.heap.size) := Lib.hid Hb1.out.size
  have BB := HB1
  have KP : Hid (w1.heap[w.heap.size]? = some (.cells #[vi, vt] 53 (0, 0))) := Lib.hid ((Hb1.out.block _ LP0.out).trans KP0.out)
  have LP : Hid (w.heap.size < w1.heap.size) := Lib.hid (Nat.lt_of_lt_of_le LP0.out Hb1.out.size)
  clear KP0 LP0 HB1 Hb1
  have hc1 := to_state s _ w.heap.size w1 (HR.out.later BB.out (Nat.le_refl _)) BB.out.size Hs.out
  have fP0 := cell_of_row w1 _ 0 _ _ _ KP.out
  have fP1 := cell_of_row w1 _ 1 _ _ _ KP.out
  simp only [List.getElem?_toArray, List.getElem?_cons_zero, List.getElem?_cons_succ] at fP0 fP1
  go_wp2_with (go_at_call 40; refine hc1.mono ?_; rintro e w2 ⟨v2, rfl, ho2, hb2⟩; refine Hid.out ?_)
  refine Lib.hid ?_
  clear fP0 fP1
  have st2 := ho2.st Hs.out.lens.1 Hs.out.lens.2
  have hb2' := hb2
  have NS2 : Hid (w1.heap.size ≤ w2.heap.size) := Lib.hid hb2.size
  replace KP := Lib.hid ((hb2'.block _ LP.out).trans KP.out)
  replace LP := Lib.hid (Nat.lt_of_lt_of_le LP.out hb2'.size)
  replace BB := Lib.hid (BB.out.trans (hb2'.mono BB.out.size))
  have hc2 := spec_drop s v2 w2.heap.size key w2 st2 (Nat.le_refl _) Hfew.out Hfit.out
  rw [← Hr.out] at hc2
  clear hc1 ho2 hb2 hb2' st2
  go_wp2_with (go_at_call 27; refine hc2.mono ?_; rintro e w3 ⟨v3, rfl, ho3, hb3⟩; refine Hid.out ?_)
  refine Lib.hid ?_
  obtain ⟨gi, ci, gt, ct, rfl, hne3, gW, tW⟩ := ho3
  have GW := Lib.hid gW
  have TW := Lib.hid tW
  clear gW tW hc2
  have NW2 : Hid (W.heap.size ≤ w2.heap.size) := Lib.hid (Nat.le_trans NW1.out NS2.out)
  have NW3 : Hid (W.heap.size ≤ w3.heap.size) := Lib.hid (Nat.le_trans NW2.out hb3.size)
  replace KP := Lib.hid ((hb3.block _ LP.out).trans KP.out)
  replace LP := Lib.hid (Nat.lt_of_lt_of_le LP.out hb3.size)
  replace BB := Lib.hid (BB.out.trans (hb3.mono BB.out.size))
  clear hb3
  obtain ⟨X1, hX1⟩ : ∃ x, x = w3.alloc (.cells #[.slice (some ⟨gi, 0, none⟩) r.items.length ci, .slice (some ⟨gt, 0, none⟩) r.talks.length ct] 27) := ⟨_, rfl⟩
  have bX1 : Below w3.heap.size w3 X1 := by rw [hX1]; exact (Below.refl _ _).alloc (Nat.le_refl _) _
  have sX1 : Hid (X1.heap.size = w3.heap.size + 1) := Lib.hid (by rw [hX1]; simp)
  replace KP := Lib.hid ((bX1.block _ LP.out).trans KP.out)
  replace LP := Lib.hid (Nat.lt_of_lt_of_le LP.out bX1.size)
  replace GW := Lib.hid (GW.out.later bX1)
  replace TW := Lib.hid (TW.out.later bX1)
  replace BB := Lib.hid (BB.out.trans (bX1.mono BB.out.size))
  have KW : Hid (X1.heap[w3.heap.size]? = some (.cells #[.slice (some ⟨gi, 0, none⟩) r.items.length ci, .slice (some ⟨gt, 0, none⟩) r.talks.length ct] 27 (0, 0))) := Lib.hid (by rw [hX1]; exact heap_new _ _)
  have LW : Hid (w3.heap.size < X1.heap.size) := Lib.hid (by have := sX1.out; omega)
  clear bX1
  have hc3 := to_state s _ w.heap.size X1 (HR.out.later BB.out (Nat.le_refl _)) BB.out.size Hs.out
  have fP0 := cell_of_row X1 _ 0 _ _ _ KP.out
  have fP1 := cell_of_row X1 _ 1 _ _ _ KP.out
  simp only [List.getElem?_toArray, List.getElem?_cons_zero, List.getElem?_cons_succ] at fP0 fP1
  rw [hX1] at hc3 fP0 fP1
  go_wp2_with (go_at_call 40; refine hc3.mono ?_; rintro e w4 ⟨v4, rfl, ho4, hb4⟩; refine Hid.out ?_)
  refine Lib.hid ?_
  rw [← hX1] at ho4 hb4
  have N1 : Hid (gi < X1.heap.size ∧ gt < X1.heap.size) := Lib.hid ⟨GW.out.2.2.2.2.1, TW.out.2.2.2.2.1⟩
  have N2 : Hid (w3.heap.size < X1.heap.size) := LW
  obtain ⟨xi, xt, rfl, hne4, gX, tX⟩ := (ho4.c Hs.out.lens.1 Hs.out.lens.2)
  clear fP0 fP1
  replace KP := Lib.hid ((hb4.block _ LP.out).trans KP.out)
  replace LP := Lib.hid (Nat.lt_of_lt_of_le LP.out hb4.size)
  replace KW := Lib.hid ((hb4.block _ LW.out).trans KW.out)
  replace LW := Lib.hid (Nat.lt_of_lt_of_le LW.out hb4.size)
  replace GW := Lib.hid (GW.out.later hb4)
  replace TW := Lib.hid (TW.out.later hb4)
  replace BB := Lib.hid (BB.out.trans (hb4.mono BB.out.size))
  have GX := Lib.hid gX
  have TX := Lib.hid tX
  clear gX tX hc3 ho4 hb4 hX1
  have N4a : Hid (xi < w4.heap.size ∧ xt < w4.heap.size) := Lib.hid ⟨GX.out.2.2.2.2.1, TX.out.2.2.2.2.1⟩
  obtain ⟨X2, hX2⟩ : ∃ x, x = w4.alloc (.cells #[.slice (some ⟨xi, 0, none⟩) s.items.length s.items.length, .slice (some ⟨xt, 0, none⟩) s.talks.length s.talks.length] 27) := ⟨_, rfl⟩
  have bX2 : Below w4.heap.size w4 X2 := by rw [hX2]; exact (Below.refl _ _).alloc (Nat.le_refl _) _
  have sX2 : Hid (X2.heap.size = w4.heap.size + 1) := Lib.hid (by rw [hX2]; simp)
  replace KP := Lib.hid ((bX2.block _ LP.out).trans KP.out)
  replace LP := Lib.hid (Nat.lt_of_lt_of_le LP.out bX2.size)
  replace KW := Lib.hid ((bX2.block _ LW.out).trans KW.out)
  replace LW := Lib.hid (Nat.lt_of_lt_of_le LW.out bX2.size)
  replace GW := Lib.hid (GW.out.later bX2)
  replace TW := Lib.hid (TW.out.later bX2)
  replace GX := Lib.hid (GX.out.later bX2)
  replace TX := Lib.hid (TX.out.later bX2)
  replace BB := Lib.hid (BB.out.trans (bX2.mono BB.out.size))
  have KX : Hid (X2.heap[w4.heap.size]? = some (.cells #[.slice (some ⟨xi, 0, none⟩) s.items.length s.items.length, .slice (some ⟨xt, 0, none⟩) s.talks.length s.talks.length] 27 (0, 0))) := Lib.hid (by rw [hX2]; exact heap_new _ _)
  have LX : Hid (w4.heap.size < X2.heap.size) := Lib.hid (by have := sX2.out; omega)
  clear bX2
  have N4 : Hid (w4.heap.size < X2.heap.size ∧ xi < w4.heap.size ∧ xt < w4.heap.size ∧ w.heap.size < W.heap.size ∧ W.heap.size ≤ w3.heap.size) := Lib.hid ⟨LX.out, N4a.out.1, N4a.out.2, HWlt.out, NW3.out⟩
  clear N4a
  have N3 : Hid (X1.heap.size ≤ xi ∧ X1.heap.size ≤ xt ∧ xi < X2.heap.size ∧ xt < X2.heap.size) := Lib.hid ⟨GX.out.2.2.2.1, TX.out.2.2.2.1, GX.out.2.2.2.2.1, TX.out.2.2.2.2.1⟩
  have hc4 := hI s _ X2.heap.size key X2 (st_parts GX.out TX.out) (Nat.le_refl _) Hfew.out Hfit.out hk
  rw [← Hr.out] at hc4
  have fX0 := cell_of_row X2 _ 0 _ _ _ KX.out
  have fX1 := cell_of_row X2 _ 1 _ _ _ KX.out
  simp only [List.getElem?_toArray, List.getElem?_cons_zero, List.getElem?_cons_succ] at fX0 fX1
  rw [hX2] at hc4 fX0 fX1
  go_wp2_with (go_at_call 23; refine hc4.mono ?_; rintro e w5 ⟨v5, rfl, ho5, hb5⟩; refine Hid.out ?_)
  refine Lib.hid ?_
  rw [← hX2] at ho5 hb5
  clear fX0 fX1
  replace KP := Lib.hid ((hb5.block _ LP.out).trans KP.out)
  replace LP := Lib.hid (Nat.lt_of_lt_of_le LP.out hb5.size)
  replace KW := Lib.hid ((hb5.block _ LW.out).trans KW.out)
  replace LW := Lib.hid (Nat.lt_of_lt_of_le LW.out hb5.size)
  replace KX := Lib.hid ((hb5.block _ LX.out).trans KX.out)
  replace LX := Lib.hid (Nat.lt_of_lt_of_le LX.out hb5.size)
  replace GW := Lib.hid (GW.out.later hb5)
  replace TW := Lib.hid (TW.out.later hb5)
  replace GX := Lib.hid (GX.out.later hb5)
  replace TX := Lib.hid (TX.out.later hb5)
  replace BB := Lib.hid (BB.out.trans (hb5.mono BB.out.size))
  obtain ⟨_, _, ki, di, kt, dt, rfl, hne5, ⟨ai, rfl, sai⟩, ⟨at_, rfl, sat⟩, gG, tG⟩ := ho5
  have SAI : Hid (NilOr ai ki r.items.length di) := Lib.hid sai
  have SAT : Hid (NilOr at_ kt r.talks.length dt) := Lib.hid sat
  have GG := Lib.hid gG
  have TG := Lib.hid tG
  clear gG tG sai sat hc4 hb5 hX2
  have N5 : Hid (X2.heap.size ≤ w5.heap.size) := Lib.hid (Nat.le_of_lt (Nat.lt_of_le_of_lt GG.out.2.2.2.1 GG.out.2.2.2.2.1))
  have N6 : Hid (ki < w5.heap.size ∧ kt < w5.heap.size) := Lib.hid ⟨GG.out.2.2.2.2.1, TG.out.2.2.2.2.1⟩
  have N7 : Hid (xi ≠ xt ∧ ki ≠ kt) := Lib.hid ⟨hne4, hne5⟩
  obtain ⟨X3, hX3⟩ : ∃ x, x = w5.alloc (.cells #[.slice ai r.items.length di, .slice at_ r.talks.length dt] 27) := ⟨_, rfl⟩
  have bX3 : Below w5.heap.size w5 X3 := by rw [hX3]; exact (Below.refl _ _).alloc (Nat.le_refl _) _
  have sX3 : Hid (X3.heap.size = w5.heap.size + 1) := Lib.hid (by rw [hX3]; simp)
  replace KP := Lib.hid ((bX3.block _ LP.out).trans KP.out)
  replace LP := Lib.hid (Nat.lt_of_lt_of_le LP.out bX3.size)
  replace KW := Lib.hid ((bX3.block _ LW.out).trans KW.out)
  replace LW := Lib.hid (Nat.lt_of_lt_of_le LW.out bX3.size)
  replace KX := Lib.hid ((bX3.block _ LX.out).trans KX.out)
  replace LX := Lib.hid (Nat.lt_of_lt_of_le LX.out bX3.size)
  replace GW := Lib.hid (GW.out.later bX3)
  replace TW := Lib.hid (TW.out.later bX3)
  replace GX := Lib.hid (GX.out.later bX3)
  replace TX := Lib.hid (TX.out.later bX3)
  replace GG := Lib.hid (GG.out.later bX3)
  replace TG := Lib.hid (TG.out.later bX3)
  replace BB := Lib.hid (BB.out.trans (bX3.mono BB.out.size))
  have KG : Hid (X3.heap[w5.heap.size]? = some (.cells #[.slice ai r.items.length di, .slice at_ r.talks.length dt] 27 (0, 0))) := Lib.hid (by rw [hX3]; exact heap_new _ _)
  have LG : Hid (w5.heap.size < X3.heap.size) := Lib.hid (by have := sX3.out; omega)
  clear bX3
  have ORD : Hid (w.heap.size < W.heap.size ∧ W.heap.size ≤ w3.heap.size ∧ w3.heap.size < X1.heap.size ∧ gi < X1.heap.size ∧ gt < X1.heap.size ∧ X1.heap.size ≤ w4.heap.size ∧ w4.heap.size < X2.heap.size ∧ X1.heap.size ≤ xi ∧ X1.heap.size ≤ xt ∧ xi < w4.heap.size ∧ xt < w4.heap.size ∧ X2.heap.size ≤ ki ∧ X2.heap.size ≤ kt ∧ ki < w5.heap.size ∧ kt < w5.heap.size ∧ X2.heap.size ≤ w5.heap.size ∧ xi ≠ xt ∧ ki ≠ kt) := Lib.hid (by
    have h1 := N1.out; have h2 := N2.out; have h3 := N3.out; have h4 := N4.out; have h5 := N5.out; have h6 := N6.out; have h7 := GG.out.2.2.2.1; have h8 := TG.out.2.2.2.1; have h9 := N7.out
    omega)
  clear N1 N2 N3 N4 N5 N6 N7 hne3 hne4 hne5
  have hc5 := eq_state r _ _ X3.heap.size X3 (rd_parts SAI.out SAT.out GG.out TG.out) (rd_parts (.inl rfl) (.inl rfl) GW.out TW.out) (Nat.le_refl _)
  have fG0 := cell_of_row X3 _ 0 _ _ _ KG.out
  have fG1 := cell_of_row X3 _ 1 _ _ _ KG.out
  simp only [List.getElem?_toArray, List.getElem?_cons_zero, List.getElem?_cons_succ] at fG0 fG1
  have fW0 := cell_of_row X3 _ 0 _ _ _ KW.out
  have fW1 := cell_of_row X3 _ 1 _ _ _ KW.out
  simp only [List.getElem?_toArray, List.getElem?_cons_zero, List.getElem?_cons_succ] at fW0 fW1
  rw [hX3] at hc5 fG0 fG1 fW0 fW1
  go_wp2_with (go_at_call 41; refine hc5.mono ?_; rintro e w6 ⟨rfl, hb6⟩; refine Hid.out ?_)
  refine Lib.hid ?_
  rw [← hX3] at hb6
  clear fG0 fG1 fW0 fW1
  replace KP := Lib.hid ((hb6.block _ LP.out).trans KP.out)
  replace LP := Lib.hid (Nat.lt_of_lt_of_le LP.out hb6.size)
  replace KW := Lib.hid ((hb6.block _ LW.out).trans KW.out)
  replace LW := Lib.hid (Nat.lt_of_lt_of_le LW.out hb6.size)
  replace KX := Lib.hid ((hb6.block _ LX.out).trans KX.out)
  replace LX := Lib.hid (Nat.lt_of_lt_of_le LX.out hb6.size)
  replace KG := Lib.hid ((hb6.block _ LG.out).trans KG.out)
  replace LG := Lib.hid (Nat.lt_of_lt_of_le LG.out hb6.size)
  replace GW := Lib.hid (GW.out.later hb6)
  replace TW := Lib.hid (TW.out.later hb6)
  replace GX := Lib.hid (GX.out.later hb6)
  replace TX := Lib.hid (TX.out.later hb6)
  replace GG := Lib.hid (GG.out.later hb6)
  replace TG := Lib.hid (TG.out.later hb6)
  replace BB := Lib.hid (BB.out.trans (hb6.mono BB.out.size))
  clear hc5 hb6 hX3
  have fX0 := cell_of_row w6 _ 0 _ _ _ KX.out
  have fX1 := cell_of_row w6 _ 1 _ _ _ KX.out
  simp only [List.getElem?_toArray, List.getElem?_cons_zero, List.getElem?_cons_succ] at fX0 fX1
  have fP0 := cell_of_row w6 _ 0 _ _ _ KP.out
  have fP1 := cell_of_row w6 _ 1 _ _ _ KP.out
  simp only [List.getElem?_toArray, List.getElem?_cons_zero, List.getElem?_cons_succ] at fP0 fP1
  go_wp2_with fail
  have b6 : Below w6.heap.size w6 w6.drew := (Below.refl _ _).drew
  refine wp_region_held_drew (S := (fun w' => w'.cell? ⟨w4.heap.size, 0, none⟩ = some (.slice (some ⟨xi, 0, none⟩) s.items.length s.items.length) ∧ w'.cell? ⟨w4.heap.size, 1, none⟩ = some (.slice (some ⟨xt, 0, none⟩) s.talks.length s.talks.length) ∧ w'.cell? ⟨w.heap.size, 0, none⟩ = some vi ∧ w'.cell? ⟨w.heap.size, 1, none⟩ = some vt)) (by kernel_rfl) ⟨fX0, fX1, fP0, fP1⟩ (fun hHeld => ?_)
  refine wpAnyH_take (i := 0) (v := ?_) rfl (by kernel_rfl) (by kernel_rfl) (by kernel_rfl) (fun _ _ _ h => h) ?_ (by assumption) ?_
  rotate_left
  · first | (refine Or.inl ⟨by rfl, ?_⟩; intro w hSw; obtain ⟨hS0, hS1, hS2, hS3⟩ := hSw; go_simp; done) | (refine Or.inl ⟨by rfl, ?_⟩; intro w hSw; obtain ⟨hS0, hS1, hS2, hS3⟩ := hSw; go_simp; with_reducible rfl)
  try simp only [List.getElem_toArray, List.getElem_cons_zero, Act.put, List.setIfInBounds_toArray, List.set_cons_zero, List.set_cons_succ]
  refine wpAnyH_take (i := 1) (v := ?_) rfl (by kernel_rfl) (by kernel_rfl) (by kernel_rfl) (fun _ _ _ h => h) ?_ (by assumption) ?_
  rotate_left
  · first | (refine Or.inl ⟨by rfl, ?_⟩; intro w hSw; obtain ⟨hS0, hS1, hS2, hS3⟩ := hSw; go_simp; done) | (refine Or.inl ⟨by rfl, ?_⟩; intro w hSw; obtain ⟨hS0, hS1, hS2, hS3⟩ := hSw; go_simp; with_reducible rfl)
  try simp only [List.getElem_toArray, List.getElem_cons_zero, List.getElem_cons_succ, Act.put, List.setIfInBounds_toArray, List.set_cons_zero, List.set_cons_succ]
  refine wpAnyH_ready (rs := [2]) (by kernel_rfl) (by simp) ?_
  refine AllReadyH.cons rfl (fun K hK => ?_) AllReadyH.nil
  go_simp
  go_at_call 40
  refine (to_state s _ w.heap.size _ (HR.out.later (BB.out.trans (b6.mono BB.out.size)) (Nat.le_refl _)) (Nat.le_trans BB.out.size b6.size) Hs.out).mono ?_
  rintro e w7 ⟨v7, rfl, ho7, hb7⟩
  have hb7' := b6.trans hb7
  replace KP := Lib.hid ((hb7'.block _ LP.out).trans KP.out)
  replace LP := Lib.hid (Nat.lt_of_lt_of_le LP.out hb7'.size)
  replace KW := Lib.hid ((hb7'.block _ LW.out).trans KW.out)
  replace LW := Lib.hid (Nat.lt_of_lt_of_le LW.out hb7'.size)
  replace KX := Lib.hid ((hb7'.block _ LX.out).trans KX.out)
  replace LX := Lib.hid (Nat.lt_of_lt_of_le LX.out hb7'.size)
  replace KG := Lib.hid ((hb7'.block _ LG.out).trans KG.out)
  replace LG := Lib.hid (Nat.lt_of_lt_of_le LG.out hb7'.size)
  replace GW := Lib.hid (GW.out.later hb7')
  replace TW := Lib.hid (TW.out.later hb7')
  replace GX := Lib.hid (GX.out.later hb7')
  replace TX := Lib.hid (TX.out.later hb7')
  replace GG := Lib.hid (GG.out.later hb7')
  replace TG := Lib.hid (TG.out.later hb7')
  replace BB := Lib.hid (BB.out.trans (hb7'.mono BB.out.size))
  have ST7 := Lib.hid (ho7.st Hs.out.lens.1 Hs.out.lens.2)
  have S7 : Hid (w7.cell? ⟨w4.heap.size, 0, none⟩ = some (.slice (some ⟨xi, 0, none⟩) s.items.length s.items.length) ∧ w7.cell? ⟨w4.heap.size, 1, none⟩ = some (.slice (some ⟨xt, 0, none⟩) s.talks.length s.talks.length) ∧ w7.cell? ⟨w.heap.size, 0, none⟩ = some vi ∧ w7.cell? ⟨w.heap.size, 1, none⟩ = some vt) := Lib.hid ⟨by simpa using cell_of_row w7 _ 0 _ _ _ KX.out, by simpa using cell_of_row w7 _ 1 _ _ _ KX.out, by simpa using cell_of_row w7 _ 0 _ _ _ KP.out, by simpa using cell_of_row w7 _ 1 _ _ _ KP.out⟩
  clear ho7 hb7 hb7'
  go_wp2_with fail
  refine hK.out _ _ (S7.out) (fun hHeld => ?_)
  clear hK K
  try simp only [List.getElem_toArray, List.getElem_cons_zero, List.getElem_cons_succ, Act.put, List.setIfInBounds_toArray, List.set_cons_zero, List.set_cons_succ]
  refine wpAnyH_ready (rs := [3]) (by kernel_rfl) (by simp) ?_
  refine AllReadyH.cons rfl (fun K hK => ?_) AllReadyH.nil
  go_simp
  go_at_call 41
  refine (eq_state s _ _ w7.heap.size w7 (rd_parts (.inl rfl) (.inl rfl) GX.out TX.out) ST7.out.rd (Nat.le_refl _)).mono ?_
  rintro e w8 ⟨rfl, hb8⟩
  replace KP := Lib.hid ((hb8.block _ LP.out).trans KP.out)
  replace LP := Lib.hid (Nat.lt_of_lt_of_le LP.out hb8.size)
  replace KW := Lib.hid ((hb8.block _ LW.out).trans KW.out)
  replace LW := Lib.hid (Nat.lt_of_lt_of_le LW.out hb8.size)
  replace KX := Lib.hid ((hb8.block _ LX.out).trans KX.out)
  replace LX := Lib.hid (Nat.lt_of_lt_of_le LX.out hb8.size)
  replace KG := Lib.hid ((hb8.block _ LG.out).trans KG.out)
  replace LG := Lib.hid (Nat.lt_of_lt_of_le LG.out hb8.size)
  replace GW := Lib.hid (GW.out.later hb8)
  replace TW := Lib.hid (TW.out.later hb8)
  replace GX := Lib.hid (GX.out.later hb8)
  replace TX := Lib.hid (TX.out.later hb8)
  replace GG := Lib.hid (GG.out.later hb8)
  replace TG := Lib.hid (TG.out.later hb8)
  replace BB := Lib.hid (BB.out.trans (hb8.mono BB.out.size))
  have S8 : Hid (w8.cell? ⟨w4.heap.size, 0, none⟩ = some (.slice (some ⟨xi, 0, none⟩) s.items.length s.items.length) ∧ w8.cell? ⟨w4.heap.size, 1, none⟩ = some (.slice (some ⟨xt, 0, none⟩) s.talks.length s.talks.length) ∧ w8.cell? ⟨w.heap.size, 0, none⟩ = some vi ∧ w8.cell? ⟨w.heap.size, 1, none⟩ = some vt) := Lib.hid ⟨by simpa using cell_of_row w8 _ 0 _ _ _ KX.out, by simpa using cell_of_row w8 _ 1 _ _ _ KX.out, by simpa using cell_of_row w8 _ 0 _ _ _ KP.out, by simpa using cell_of_row w8 _ 1 _ _ _ KP.out⟩
  clear hb8
  go_wp2_with fail
  refine hK.out _ _ (S8.out) (fun hHeld => ?_)
  clear hK K
  try simp only [List.getElem_toArray, List.getElem_cons_zero, List.getElem_cons_succ, Act.put, List.setIfInBounds_toArray, List.set_cons_zero, List.set_cons_succ]
  refine wpAnyH_take (i := 4) (v := ?_) rfl (by kernel_rfl) (by kernel_rfl) (by kernel_rfl) (fun _ _ _ h => h) ?_ (by assumption) ?_
  rotate_left
  · first | (refine Or.inl ⟨by rfl, ?_⟩; intro w hSw; go_simp; done) | (refine Or.inl ⟨by rfl, ?_⟩; intro w hSw; go_simp; with_reducible rfl)
  try simp only [List.getElem_toArray, List.getElem_cons_zero, List.getElem_cons_succ, Act.put, List.setIfInBounds_toArray, List.set_cons_zero, List.set_cons_succ]
  refine wpAnyH_done (by kernel_rfl) ?_ _
  clear fX0 fX1 fP0 fP1
  clear hHeld S7 S8 ST7 b6
  have hms : 1 + 2 * s.items.length + 3 * s.talks.length ≤ 9223372036854775807 := by have := Hs.out; unfold Small at this; omega
  have hc9 := mark_stateN s.items.length s.talks.length 1 xi s.items.length xt s.talks.length X1.heap.size (some ⟨xi, 0, none⟩) (some ⟨xt, 0, none⟩) _ _ w8 (by omega) hms (by have := ORD.out; omega) (.inl rfl) (.inl rfl) GX.out TX.out
  obtain ⟨ms, hmS⟩ : ∃ m, m = 1 + 2 * s.items.length + 3 * s.talks.length := ⟨_, rfl⟩
  rw [← hmS] at hc9 hms
  clear hmS
  have fX0 := cell_of_row w8 _ 0 _ _ _ KX.out
  have fX1 := cell_of_row w8 _ 1 _ _ _ KX.out
  simp only [List.getElem?_toArray, List.getElem?_cons_zero, List.getElem?_cons_succ] at fX0 fX1
  go_wp2_with (go_at_call 44; refine hc9.mono ?_; rintro e w9 ⟨rfl, gX9, tX9, ho9⟩; refine Hid.out ?_)
  refine Lib.hid ?_
  clear fX0 fX1
  clear gX9 tX9 hc9 GX TX
  replace KP := Lib.hid ((ho9.block LP.out (by have := ORD.out; omega) (by have := ORD.out; omega)).trans KP.out)
  replace LP := Lib.hid (Nat.lt_of_lt_of_le LP.out ho9.size)
  replace KW := Lib.hid ((ho9.block LW.out (by have := ORD.out; omega) (by have := ORD.out; omega)).trans KW.out)
  replace LW := Lib.hid (Nat.lt_of_lt_of_le LW.out ho9.size)
  replace KX := Lib.hid ((ho9.block LX.out (by have := ORD.out; omega) (by have := ORD.out; omega)).trans KX.out)
  replace LX := Lib.hid (Nat.lt_of_lt_of_le LX.out ho9.size)
  replace KG := Lib.hid ((ho9.block LG.out (by have := ORD.out; omega) (by have := ORD.out; omega)).trans KG.out)
  replace LG := Lib.hid (Nat.lt_of_lt_of_le LG.out ho9.size)
  replace GW := Lib.hid (GW.out.off ho9 (by have := ORD.out; omega) (by have := ORD.out; omega))
  replace TW := Lib.hid (TW.out.off ho9 (by have := ORD.out; omega) (by have := ORD.out; omega))
  replace GG := Lib.hid (GG.out.off ho9 (by have := ORD.out; omega) (by have := ORD.out; omega))
  replace TG := Lib.hid (TG.out.off ho9 (by have := ORD.out; omega) (by have := ORD.out; omega))
  replace BB := Lib.hid (BB.out.trans (ho9.below (by have := ORD.out; omega) (by have := ORD.out; omega) BB.out.size))
  clear ho9
  have hc10 := eq_state r _ _ w9.heap.size w9 (rd_parts SAI.out SAT.out GG.out TG.out) (rd_parts (.inl rfl) (.inl rfl) GW.out TW.out) (Nat.le_refl _)
  have fG0 := cell_of_row w9 _ 0 _ _ _ KG.out
  have fG1 := cell_of_row w9 _ 1 _ _ _ KG.out
  simp only [List.getElem?_toArray, List.getElem?_cons_zero, List.getElem?_cons_succ] at fG0 fG1
  have fW0 := cell_of_row w9 _ 0 _ _ _ KW.out
  have fW1 := cell_of_row w9 _ 1 _ _ _ KW.out
  simp only [List.getElem?_toArray, List.getElem?_cons_zero, List.getElem?_cons_succ] at fW0 fW1
  go_wp2_with (go_at_call 41; refine hc10.mono ?_; rintro e w10 ⟨rfl, hb10⟩; refine Hid.out ?_)
  refine Lib.hid ?_
  clear fG0 fG1 fW0 fW1
  replace KP := Lib.hid ((hb10.block _ LP.out).trans KP.out)
  replace LP := Lib.hid (Nat.lt_of_lt_of_le LP.out hb10.size)
  replace KW := Lib.hid ((hb10.block _ LW.out).trans KW.out)
  replace LW := Lib.hid (Nat.lt_of_lt_of_le LW.out hb10.size)
  replace KX := Lib.hid ((hb10.block _ LX.out).trans KX.out)
  replace LX := Lib.hid (Nat.lt_of_lt_of_le LX.out hb10.size)
  replace KG := Lib.hid ((hb10.block _ LG.out).trans KG.out)
  replace LG := Lib.hid (Nat.lt_of_lt_of_le LG.out hb10.size)
  replace GW := Lib.hid (GW.out.later hb10)
  replace TW := Lib.hid (TW.out.later hb10)
  replace GG := Lib.hid (GG.out.later hb10)
  replace TG := Lib.hid (TG.out.later hb10)
  replace BB := Lib.hid (BB.out.trans (hb10.mono BB.out.size))
  clear hc10 hb10 hms
  have hmr : 1 + 2 * r.items.length + 3 * r.talks.length ≤ 9223372036854775807 := by have := Hsr.out; omega
  have hc11 := mark_stateN r.items.length r.talks.length 1 ki di kt dt X2.heap.size ai at_ _ _ w10 (by omega) hmr (by have := ORD.out; omega) SAI.out SAT.out GG.out TG.out
  obtain ⟨mr, hmR⟩ : ∃ m, m = 1 + 2 * r.items.length + 3 * r.talks.length := ⟨_, rfl⟩
  have HmR := Lib.hid hmR
  rw [← hmR] at hc11 hmr
  clear hmR
  have fG0 := cell_of_row w10 _ 0 _ _ _ KG.out
  have fG1 := cell_of_row w10 _ 1 _ _ _ KG.out
  simp only [List.getElem?_toArray, List.getElem?_cons_zero, List.getElem?_cons_succ] at fG0 fG1
  go_wp2_with (go_at_call 44; refine hc11.mono ?_; rintro e w11 ⟨rfl, gG11, tG11, ho11⟩; refine Hid.out ?_)
  refine Lib.hid ?_
  clear fG0 fG1
  clear hc11 GG TG
  replace KP := Lib.hid ((ho11.block LP.out (by have := ORD.out; omega) (by have := ORD.out; omega)).trans KP.out)
  replace LP := Lib.hid (Nat.lt_of_lt_of_le LP.out ho11.size)
  replace KW := Lib.hid ((ho11.block LW.out (by have := ORD.out; omega) (by have := ORD.out; omega)).trans KW.out)
  replace LW := Lib.hid (Nat.lt_of_lt_of_le LW.out ho11.size)
  replace KX := Lib.hid ((ho11.block LX.out (by have := ORD.out; omega) (by have := ORD.out; omega)).trans KX.out)
  replace LX := Lib.hid (Nat.lt_of_lt_of_le LX.out ho11.size)
  replace KG := Lib.hid ((ho11.block LG.out (by have := ORD.out; omega) (by have := ORD.out; omega)).trans KG.out)
  replace LG := Lib.hid (Nat.lt_of_lt_of_le LG.out ho11.size)
  replace GW := Lib.hid (GW.out.off ho11 (by have := ORD.out; omega) (by have := ORD.out; omega))
  replace TW := Lib.hid (TW.out.off ho11 (by have := ORD.out; omega) (by have := ORD.out; omega))
  replace BB := Lib.hid (BB.out.trans (ho11.below (by have := ORD.out; omega) (by have := ORD.out; omega) BB.out.size))
  have GG := Lib.hid gG11
  have TG := Lib.hid tG11
  clear gG11 tG11 ho11
  have hc12 := held_stateN r.items.length r.talks.length 1 ki di kt dt X2.heap.size ai at_ w11 (by omega) (by have := HmR.out; omega) SAI.out SAT.out GG.out TG.out
  rw [← HmR.out] at hc12
  have fG0 := cell_of_row w11 _ 0 _ _ _ KG.out
  have fG1 := cell_of_row w11 _ 1 _ _ _ KG.out
  simp only [List.getElem?_toArray, List.getElem?_cons_zero, List.getElem?_cons_succ] at fG0 fG1
  go_wp2_with (go_at_call 45; refine hc12.mono ?_; rintro e w12 ⟨rfl, hb⟩; refine Hid.out ?_)
  refine Lib.hid ?_
  clear fG0 fG1
  replace KP := Lib.hid ((hb.block _ LP.out).trans KP.out)
  replace LP := Lib.hid (Nat.lt_of_lt_of_le LP.out hb.size)
  replace KW := Lib.hid ((hb.block _ LW.out).trans KW.out)
  replace LW := Lib.hid (Nat.lt_of_lt_of_le LW.out hb.size)
  replace KX := Lib.hid ((hb.block _ LX.out).trans KX.out)
  replace LX := Lib.hid (Nat.lt_of_lt_of_le LX.out hb.size)
  replace KG := Lib.hid ((hb.block _ LG.out).trans KG.out)
  replace LG := Lib.hid (Nat.lt_of_lt_of_le LG.out hb.size)
  replace GW := Lib.hid (GW.out.later hb)
  replace TW := Lib.hid (TW.out.later hb)
  replace GG := Lib.hid (GG.out.later hb)
  replace TG := Lib.hid (TG.out.later hb)
  replace BB := Lib.hid (BB.out.trans (hb.mono BB.out.size))
  clear hc12 hb
  have hc13 := to_state s _ w.heap.size w12 (HR.out.later BB.out (Nat.le_refl _)) BB.out.size Hs.out
  have fP0 := cell_of_row w12 _ 0 _ _ _ KP.out
  have fP1 := cell_of_row w12 _ 1 _ _ _ KP.out
  simp only [List.getElem?_toArray, List.getElem?_cons_zero, List.getElem?_cons_succ] at fP0 fP1
  go_wp2_with (go_at_call 40; refine hc13.mono ?_; rintro e w13 ⟨v13, rfl, ho13, hb13⟩; refine Hid.out ?_)
  refine Lib.hid ?_
  clear fP0 fP1
  have st13 := ho13.st Hs.out.lens.1 Hs.out.lens.2
  replace KP := Lib.hid ((hb13.block _ LP.out).trans KP.out)
  replace LP := Lib.hid (Nat.lt_of_lt_of_le LP.out hb13.size)
  replace KW := Lib.hid ((hb13.block _ LW.out).trans KW.out)
  replace LW := Lib.hid (Nat.lt_of_lt_of_le LW.out hb13.size)
  replace KX := Lib.hid ((hb13.block _ LX.out).trans KX.out)
  replace LX := Lib.hid (Nat.lt_of_lt_of_le LX.out hb13.size)
  replace KG := Lib.hid ((hb13.block _ LG.out).trans KG.out)
  replace LG := Lib.hid (Nat.lt_of_lt_of_le LG.out hb13.size)
  replace GW := Lib.hid (GW.out.later hb13)
  replace TW := Lib.hid (TW.out.later hb13)
  replace GG := Lib.hid (GG.out.later hb13)
  replace TG := Lib.hid (TG.out.later hb13)
  replace BB := Lib.hid (BB.out.trans (hb13.mono BB.out.size))
  have hc14 := hI s _ w13.heap.size key w13 (st13) (Nat.le_refl _) Hfew.out Hfit.out hk
  rw [← Hr.out] at hc14
  clear hc13 ho13 hb13 st13
  go_wp2_with (go_at_call 23; refine hc14.mono ?_; rintro e w14 ⟨v14, rfl, ho14, hb14⟩; refine Hid.out ?_)
  refine Lib.hid ?_
  replace KP := Lib.hid ((hb14.block _ LP.out).trans KP.out)
  replace LP := Lib.hid (Nat.lt_of_lt_of_le LP.out hb14.size)
  replace KW := Lib.hid ((hb14.block _ LW.out).trans KW.out)
  replace LW := Lib.hid (Nat.lt_of_lt_of_le LW.out hb14.size)
  replace KX := Lib.hid ((hb14.block _ LX.out).trans KX.out)
  replace LX := Lib.hid (Nat.lt_of_lt_of_le LX.out hb14.size)
  replace KG := Lib.hid ((hb14.block _ LG.out).trans KG.out)
  replace LG := Lib.hid (Nat.lt_of_lt_of_le LG.out hb14.size)
  replace GW := Lib.hid (GW.out.later hb14)
  replace TW := Lib.hid (TW.out.later hb14)
  replace GG := Lib.hid (GG.out.later hb14)
  replace TG := Lib.hid (TG.out.later hb14)
  replace BB := Lib.hid (BB.out.trans (hb14.mono BB.out.size))
  obtain ⟨_, _, li, ei, lt, et, rfl, _, ⟨bi, rfl, sbi⟩, ⟨bt, rfl, sbt⟩, gH, tH⟩ := ho14
  have SBI : Hid (NilOr bi li r.items.length ei) := Lib.hid sbi
  have SBT : Hid (NilOr bt lt r.talks.length et) := Lib.hid sbt
  have GH := Lib.hid gH
  have TH := Lib.hid tH
  clear gH tH sbi sbt hc14 hb14
  obtain ⟨X4, hX4⟩ : ∃ x, x = w14.alloc (.cells #[.slice bi r.items.length ei, .slice bt r.talks.length et] 27) := ⟨_, rfl⟩
  have bX4 : Below w14.heap.size w14 X4 := by rw [hX4]; exact (Below.refl _ _).alloc (Nat.le_refl _) _
  have sX4 : Hid (X4.heap.size = w14.heap.size + 1) := Lib.hid (by rw [hX4]; simp)
  replace KP := Lib.hid ((bX4.block _ LP.out).trans KP.out)
  replace LP := Lib.hid (Nat.lt_of_lt_of_le LP.out bX4.size)
  replace KW := Lib.hid ((bX4.block _ LW.out).trans KW.out)
  replace LW := Lib.hid (Nat.lt_of_lt_of_le LW.out bX4.size)
  replace KX := Lib.hid ((bX4.block _ LX.out).trans KX.out)
  replace LX := Lib.hid (Nat.lt_of_lt_of_le LX.out bX4.size)
  replace KG := Lib.hid ((bX4.block _ LG.out).trans KG.out)
  replace LG := Lib.hid (Nat.lt_of_lt_of_le LG.out bX4.size)
  replace GW := Lib.hid (GW.out.later bX4)
  replace TW := Lib.hid (TW.out.later bX4)
  replace GG := Lib.hid (GG.out.later bX4)
  replace TG := Lib.hid (TG.out.later bX4)
  replace GH := Lib.hid (GH.out.later bX4)
  replace TH := Lib.hid (TH.out.later bX4)
  replace BB := Lib.hid (BB.out.trans (bX4.mono BB.out.size))
  have KH : Hid (X4.heap[w14.heap.size]? = some (.cells #[.slice bi r.items.length ei, .slice bt r.talks.length et] 27 (0, 0))) := Lib.hid (by rw [hX4]; exact heap_new _ _)
  have LH : Hid (w14.heap.size < X4.heap.size) := Lib.hid (by have := sX4.out; omega)
  clear bX4
  have hc15 := eq_state r _ _ X4.heap.size X4 (rd_parts SBI.out SBT.out GH.out TH.out) (rd_parts (.inl rfl) (.inl rfl) GW.out TW.out) (Nat.le_refl _)
  have fH0 := cell_of_row X4 _ 0 _ _ _ KH.out
  have fH1 := cell_of_row X4 _ 1 _ _ _ KH.out
  simp only [List.getElem?_toArray, List.getElem?_cons_zero, List.getElem?_cons_succ] at fH0 fH1
  have fW0 := cell_of_row X4 _ 0 _ _ _ KW.out
  have fW1 := cell_of_row X4 _ 1 _ _ _ KW.out
  simp only [List.getElem?_toArray, List.getElem?_cons_zero, List.getElem?_cons_succ] at fW0 fW1
  rw [hX4] at hc15 fH0 fH1 fW0 fW1
  go_wp2_with (go_at_call 41; refine hc15.mono ?_; rintro e w15 ⟨rfl, hb15⟩; refine Hid.out ?_)
  refine Lib.hid ?_
  rw [← hX4] at hb15
  clear fH0 fH1 fW0 fW1
  replace KP := Lib.hid ((hb15.block _ LP.out).trans KP.out)
  replace LP := Lib.hid (Nat.lt_of_lt_of_le LP.out hb15.size)
  replace KW := Lib.hid ((hb15.block _ LW.out).trans KW.out)
  replace LW := Lib.hid (Nat.lt_of_lt_of_le LW.out hb15.size)
  replace KX := Lib.hid ((hb15.block _ LX.out).trans KX.out)
  replace LX := Lib.hid (Nat.lt_of_lt_of_le LX.out hb15.size)
  replace KG := Lib.hid ((hb15.block _ LG.out).trans KG.out)
  replace LG := Lib.hid (Nat.lt_of_lt_of_le LG.out hb15.size)
  replace KH := Lib.hid ((hb15.block _ LH.out).trans KH.out)
  replace LH := Lib.hid (Nat.lt_of_lt_of_le LH.out hb15.size)
  replace GW := Lib.hid (GW.out.later hb15)
  replace TW := Lib.hid (TW.out.later hb15)
  replace GG := Lib.hid (GG.out.later hb15)
  replace TG := Lib.hid (TG.out.later hb15)
  replace GH := Lib.hid (GH.out.later hb15)
  replace TH := Lib.hid (TH.out.later hb15)
  replace BB := Lib.hid (BB.out.trans (hb15.mono BB.out.size))
  clear hc15 hb15 hX4
  have hc16 := held_stateN r.items.length r.talks.length 1 ki di kt dt X2.heap.size ai at_ w15 (by omega) (by have := HmR.out; omega) SAI.out SAT.out GG.out TG.out
  rw [← HmR.out] at hc16
  have fG0 := cell_of_row w15 _ 0 _ _ _ KG.out
  have fG1 := cell_of_row w15 _ 1 _ _ _ KG.out
  simp only [List.getElem?_toArray, List.getElem?_cons_zero, List.getElem?_cons_succ] at fG0 fG1
  go_wp2_with (go_at_call 45; refine hc16.mono ?_; rintro e w16 ⟨rfl, hb⟩; refine Hid.out ?_)
  refine Lib.hid ?_
  clear fG0 fG1
  replace KP := Lib.hid ((hb.block _ LP.out).trans KP.out)
  replace LP := Lib.hid (Nat.lt_of_lt_of_le LP.out hb.size)
  replace KW := Lib.hid ((hb.block _ LW.out).trans KW.out)
  replace LW := Lib.hid (Nat.lt_of_lt_of_le LW.out hb.size)
  replace KX := Lib.hid ((hb.block _ LX.out).trans KX.out)
  replace LX := Lib.hid (Nat.lt_of_lt_of_le LX.out hb.size)
  replace KG := Lib.hid ((hb.block _ LG.out).trans KG.out)
  replace LG := Lib.hid (Nat.lt_of_lt_of_le LG.out hb.size)
  replace KH := Lib.hid ((hb.block _ LH.out).trans KH.out)
  replace LH := Lib.hid (Nat.lt_of_lt_of_le LH.out hb.size)
  replace GW := Lib.hid (GW.out.later hb)
  replace TW := Lib.hid (TW.out.later hb)
  replace GG := Lib.hid (GG.out.later hb)
  replace TG := Lib.hid (TG.out.later hb)
  replace GH := Lib.hid (GH.out.later hb)
  replace TH := Lib.hid (TH.out.later hb)
  replace BB := Lib.hid (BB.out.trans (hb.mono BB.out.size))
  clear hc16 hb
  go_wp2_with fail
  go_ret
  exact ⟨rfl, BB.out⟩
end Go.Proofs.Ytkoohmibdaomkaa
