/- The exact law of ApplyAll: the program answers as its model, keeps its arguments, and its answers' memory is its own. Condition: the variable errors.errorType holds the handle of the type error. -/
import Derived.Test.YtclcaflkopnbpaaGreatDoorBaseA
import Derived.Test.YtclcaflkopnbpaaGreatDoorImplApplyAll
import Derived.Test.YtclcaflkopnbpaaGreatDoorSpecApplyAll
import Derived.Test.YtclcaflkopnbpaaGreatDoorLawOps
import Derived.Test.YtclcaflkopnbpaaGreatDoorTexts
import Derived.Test.YtclcaflkopnbpaaGreatDoorExactPlain
namespace Go.Proofs.YtclcaflkopnbpaaGreatDoor
open Go.RowKit List
set_option linter.unusedVariables false
set_option linter.unusedSimpArgs false

theorem below_drewN (w : World) (n : Nat) : Below w.heap.size w (w.drewN n) := below_draws _ _ n
theorem eq_texts (B B' : Nat) (v v' : Value) (xs : List ByteArray) (w : World) (h : Texts w B v xs) (h' : Texts w B' v' xs) :
    Calls Tryz.prog 23 #[v, v'] w fun e w' => e = .returned (.bool true) ∧ Below w.heap.size w w' := by
  refine (eq_same B B' v v' xs w h h').mono ?_
  rintro e w' ⟨h1, n, rfl⟩
  exact ⟨h1, below_drewN w n⟩
theorem owns_turn {w w' : World} {lo e sz n : Nat} {v : Value} {cs : List Value} {r : Option Nat} {g c : Nat} (h : w.ownsRow lo e sz (.slice (some ⟨g, 0, none⟩) c n) c cs) (hg : w.grownBy w' r) (hne : r = some g → False) : w'.ownsRow lo e sz (.slice (some ⟨g, 0, none⟩) c n) c cs :=
  World.ownsRow.kept h hg (.inr (fun e => hne e.symm))
theorem owns_off {w w' : World} {lo e sz n : Nat} {cs : List Value} {g c a b : Nat} (h : w.ownsRow lo e sz (.slice (some ⟨g, 0, none⟩) c n) c cs) (ho : Off w w' a b) (h1 : g ≠ a) (h2 : g ≠ b) : w'.ownsRow lo e sz (.slice (some ⟨g, 0, none⟩) c n) c cs := by
  obtain ⟨w1, p, q⟩ := ho
  exact World.ownsRow.kept (World.ownsRow.kept h p (.inr (fun e => h1 (by simpa [Value.ownBlock] using e)))) q (.inr (fun e => h2 (by simpa [Value.ownBlock] using e)))
theorem texts_off {w w' : World} {base : Nat} {out : Value} {rs : List ByteArray} {a b : Nat} (h : Texts w base out rs) (ho : Off w w' a b) (h1 : out.ownBlock = some a → False) (h2 : out.ownBlock = some b → False) : Texts w' base out rs := by
  obtain ⟨w1, p, q⟩ := ho
  exact texts_kept (texts_kept h p (.inr h1)) q (.inr h2)
theorem texts_turn {w w' : World} {base : Nat} {out : Value} {rs : List ByteArray} {r : Option Nat} (h : Texts w base out rs) (hg : w.grownBy w' r) (hne : ∀ k, out.ownBlock = some k → r = some k → False) : Texts w' base out rs := by
  cases ho : out.ownBlock with
  | none => exact texts_kept h hg (.inl ho)
  | some k => exact texts_kept h hg (.inr (fun e => hne k ho (by rw [← e, ho])))
theorem got_turn {w w' : World} {base e size x n cap : Nat} {cs : List Value} {r : Option Nat} (h : Got w base e size x n cap cs) (hg : w.grownBy w' r) (hne : r = some x → False) : Got w' base e size x n cap cs := by
  cases r with
  | none => exact h.later ⟨hg.os, hg.tape, hg.output, hg.size, fun k hk => hg.block k hk (by simp)⟩
  | some g => exact h.grown hg (fun e => hne (by rw [e]))
set_option maxRecDepth 100000 in
set_option maxHeartbeats 32000000 in
theorem law_applyAll (s : St) (v va : Value) (xs : List Rq) (w : World) (hr : RawS w w.heap.size v s) (hra : Raw w w.heap.size va xs.length (xs.flatMap rqC)) (hf : ∀ x ∈ xs, FitRq x) (hE : ErrType w) :
    Calls Tryz.prog 5 #[v, va] w fun e w' => e = .returned (.bool true) ∧ Below w.heap.size w w' := by
  have hfit := hr.fits
  obtain ⟨vi, vt, rfl, h1, h2, h3, h4⟩ := hr
  have HR : Hid (RawS w w.heap.size (.agg #[vi, vt]) s) := Lib.hid ⟨vi, vt, rfl, h1, h2, h3, h4⟩
  have Hfit := Lib.hid hfit
  have HRL := Lib.hid hra
  have HF := Lib.hid hf
  clear hfit h1 h2 h3 h4 hra hf
  obtain ⟨r, hr'⟩ : ∃ r, r = (apA s xs).1 := ⟨_, rfl⟩
  obtain ⟨rs, hrs⟩ : ∃ b, b = (apA s xs).2 := ⟨_, rfl⟩
  have Hr := Lib.hid hr'
  have Hrs := Lib.hid hrs
  have HE := Lib.hid hE
  have Hrl : Hid (rs.length = xs.length) := Lib.hid (by rw [hrs, apA_len])
  obtain ⟨W, hW⟩ : ∃ W, W = w.alloc (.cells #[vi, vt] 39) := ⟨_, rfl⟩
  have hbW : Below w.heap.size w W := by rw [hW]; exact (Below.refl _ _).alloc (Nat.le_refl _) _
  have hWs : W.heap.size = w.heap.size + 1 := by rw [hW]; simp
  have KP : Hid (W.heap[w.heap.size]? = some (.cells #[vi, vt] 39 (0, 0))) := Lib.hid (by rw [hW]; exact heap_new _ _)
  have LP : Hid (w.heap.size < W.heap.size) := Lib.hid (by omega)
  have HWlt := LP
  have BB := Lib.hid hbW
  have hc0 := sz_state s _ w.heap.size 1048576 W (HR.out.later hbW (Nat.le_refl _)) hbW.size (by omega)
  rw [hW] at hc0
  clear hbW hWs hr' hrs hE
  go_enter Tryz.func5, Tryz.ntmps5
  go_wp2_with (go_at_call 12; refine hc0.mono ?_; rintro e w1 ⟨q, rfl, hr0, hr1, hr2, hb1⟩; refine Hid.out ?_)
  refine Lib.hid ?_
  rw [← hW] at hb1
  replace KP := Lib.hid ((hb1.block _ LP.out).trans KP.out)
  replace LP := Lib.hid (Nat.lt_of_lt_of_le LP.out hb1.size)
  replace BB := Lib.hid (BB.out.trans (hb1.mono BB.out.size))
  have yW : Hid (W.heap.size ≤ w1.heap.size) := Lib.hid hb1.size
  clear hc0 hW hb1
  by_cases hneg : q < 0
  · clear hr2
    go_wp2_with fail
    go_ret
    exact ⟨rfl, BB.out⟩
  have Hs := Lib.hid (hr2 (by omega))
  clear hr2
  have hq0 : ¬ q < 0 := hneg
  have hc1 := sz_ops xs _ w.heap.size q w1 (HRL.out.later BB.out (Nat.le_refl _)) HF.out BB.out.size ⟨by omega, by omega⟩
  go_wp2_with (go_at_call 21; refine hc1.mono ?_; rintro e w2 ⟨q2, rfl, hr3, hr4, hr5, hb2⟩; refine Hid.out ?_)
  refine Lib.hid ?_
  replace KP := Lib.hid ((hb2.block _ LP.out).trans KP.out)
  replace LP := Lib.hid (Nat.lt_of_lt_of_le LP.out hb2.size)
  replace BB := Lib.hid (BB.out.trans (hb2.mono BB.out.size))
  have yW2 : Hid (W.heap.size ≤ w2.heap.size) := Lib.hid (Nat.le_trans yW.out hb2.size)
  clear hc1 hb2
  by_cases hneg2 : q2 < 0
  · clear hr5
    go_wp2_with fail
    go_ret
    exact ⟨rfl, BB.out⟩
  have HL : Hid (xs.length ≤ 1048576) := Lib.hid (by have := (hr5 (by omega)).1; omega)
  clear hr5
  have Hkeep : Hid (KeepS s) := Lib.hid ⟨Hs.out.mono (by omega), Hfit.out⟩
  have Hsr : Hid (r.items.length ≤ 2097152 ∧ r.talks.length ≤ 2097152) := Lib.hid (by
    have h := (apA_keep xs Hkeep.out).1
    rw [← Hr.out] at h
    unfold Small at h
    omega)
  have hcA := to_state s _ w.heap.size w2 (HR.out.later BB.out (Nat.le_refl _)) BB.out.size Hs.out
  have fP0 := cell_of_row w2 _ 0 _ _ _ KP.out
  have fP1 := cell_of_row w2 _ 1 _ _ _ KP.out
  simp only [List.getElem?_toArray, List.getElem?_cons_zero, List.getElem?_cons_succ] at fP0 fP1
  go_wp2_with (go_at_call 15; refine hcA.mono ?_; rintro e wga ⟨vs, rfl, hoA, hbA⟩; refine Hid.out ?_)
  refine Lib.hid ?_
  clear fP0 fP1
  replace KP := Lib.hid ((hbA.block _ LP.out).trans KP.out)
  replace LP := Lib.hid (Nat.lt_of_lt_of_le LP.out hbA.size)
  replace BB := Lib.hid (BB.out.trans (hbA.mono BB.out.size))
  have SA : Hid (StV wga wga.heap.size vs s) := Lib.hid (hoA.st Hs.out.lens.1 Hs.out.lens.2)
  have s1 : Hid (w2.heap.size ≤ wga.heap.size) := Lib.hid hbA.size
  clear hcA hoA hbA
  have hcB := to_ops xs _ w.heap.size wga (HRL.out.later BB.out (Nat.le_refl _)) BB.out.size HL.out
  go_wp2_with (go_at_call 22; refine hcB.mono ?_; rintro e wgb ⟨_, rfl, hoB, ⟨goB, rfl⟩, hbB⟩; refine Hid.out ?_)
  refine Lib.hid ?_
  replace KP := Lib.hid ((hbB.block _ LP.out).trans KP.out)
  replace LP := Lib.hid (Nat.lt_of_lt_of_le LP.out hbB.size)
  replace BB := Lib.hid (BB.out.trans (hbB.mono BB.out.size))
  replace SA := Lib.hid (SA.out.later hbB hbB.size)
  have OA : Hid (Raw wgb wgb.heap.size (.slice (some ⟨goB, 0, none⟩) xs.length xs.length) xs.length (xs.flatMap rqC)) := Lib.hid (raw_of_row (row_of_owns hoB (by have := HL.out; unfold maxLen; omega)))
  have sg : Hid (w2.heap.size ≤ wgb.heap.size) := Lib.hid (Nat.le_trans s1.out hbB.size)
  clear hcB hoB hbB s1
  have hc := spec_applyAll s _ _ xs wgb.heap.size wgb SA.out OA.out (Nat.le_refl _) Hkeep.out HF.out HL.out
  rw [← Hr.out, ← Hrs.out] at hc
  go_wp2_with (go_at_call 9; refine hc.mono ?_; rintro e wgc ⟨vg, gvr, rfl, gho, gtx, hbC⟩; refine Hid.out ?_)
  refine Lib.hid ?_
  clear SA OA
  replace KP := Lib.hid ((hbC.block _ LP.out).trans KP.out)
  replace LP := Lib.hid (Nat.lt_of_lt_of_le LP.out hbC.size)
  replace BB := Lib.hid (BB.out.trans (hbC.mono BB.out.size))
  have tg : Hid (wgb.heap.size ≤ wgc.heap.size) := Lib.hid hbC.size
  clear hc hbC
  obtain ⟨_, _, ggi, gci, ggt, gct, rfl, ghne, ⟨gai, rfl, gsai⟩, ⟨gat, rfl, gsat⟩, ggW, gtW⟩ := gho
  have gG := Lib.hid ggW
  have gH := Lib.hid gtW
  have gT : Hid (Texts wgc wgb.heap.size gvr rs) := Lib.hid gtx
  have gSI : Hid (NilOr gai ggi r.items.length gci) := Lib.hid gsai
  have gST : Hid (NilOr gat ggt r.talks.length gct) := Lib.hid gsat
  have BgT : Hid (∀ k, gvr.ownBlock = some k → wgb.heap.size ≤ k ∧ k < wgc.heap.size) := Lib.hid (World.ownsRow.lt gT.out)
  have Mg : Hid (ggi < wgc.heap.size ∧ ggt < wgc.heap.size ∧ wgb.heap.size ≤ ggi ∧ wgb.heap.size ≤ ggt ∧ ggi ≠ ggt) := Lib.hid ⟨gG.out.2.2.2.2.1, gH.out.2.2.2.2.1, gG.out.2.2.2.1, gH.out.2.2.2.1, ghne⟩
  clear ggW gtW ghne gtx gsai gsat
  obtain ⟨Xg, hXg⟩ : ∃ x, x = wgc.alloc (.cells #[.slice gai r.items.length gci, .slice gat r.talks.length gct] 27) := ⟨_, rfl⟩
  have bXg : Below wgc.heap.size wgc Xg := by rw [hXg]; exact (Below.refl _ _).alloc (Nat.le_refl _) _
  have sXg : Hid (Xg.heap.size = wgc.heap.size + 1) := Lib.hid (by rw [hXg]; simp)
  replace KP := Lib.hid ((bXg.block _ LP.out).trans KP.out)
  replace LP := Lib.hid (Nat.lt_of_lt_of_le LP.out bXg.size)
  replace gG := Lib.hid (gG.out.later bXg)
  replace gH := Lib.hid (gH.out.later bXg)
  replace BB := Lib.hid (BB.out.trans (bXg.mono BB.out.size))
  replace gT := Lib.hid (gT.out.later bXg)
  have Kg : Hid (Xg.heap[wgc.heap.size]? = some (.cells #[.slice gai r.items.length gci, .slice gat r.talks.length gct] 27 (0, 0))) := Lib.hid (by rw [hXg]; exact heap_new _ _)
  have Lg : Hid (wgc.heap.size < Xg.heap.size) := Lib.hid (by have := sXg.out; omega)
  clear bXg
  have Ng : Hid (wgc.heap.size < Xg.heap.size) := Lg
  have fP0 := cell_of_row Xg _ 0 _ _ _ KP.out
  have fP1 := cell_of_row Xg _ 1 _ _ _ KP.out
  simp only [List.getElem?_toArray, List.getElem?_cons_zero, List.getElem?_cons_succ] at fP0 fP1
  rw [hXg] at fP0 fP1
  go_wp2_with fail
  rw [← hXg]
  clear fP0 fP1
  clear hXg
  have hc3 := to_state s _ w.heap.size Xg (HR.out.later BB.out (Nat.le_refl _)) BB.out.size Hs.out
  have fP0 := cell_of_row Xg _ 0 _ _ _ KP.out
  have fP1 := cell_of_row Xg _ 1 _ _ _ KP.out
  simp only [List.getElem?_toArray, List.getElem?_cons_zero, List.getElem?_cons_succ] at fP0 fP1
  go_wp2_with (go_at_call 15; refine hc3.mono ?_; rintro e w4 ⟨v4, rfl, ho4, hb4⟩; refine Hid.out ?_)
  refine Lib.hid ?_
  obtain ⟨xi, xt, rfl, hne4, gX, tX⟩ := (ho4.c Hs.out.lens.1 Hs.out.lens.2)
  have N4a : Hid (Xg.heap.size ≤ w4.heap.size) := Lib.hid hb4.size
  clear fP0 fP1
  replace KP := Lib.hid ((hb4.block _ LP.out).trans KP.out)
  replace LP := Lib.hid (Nat.lt_of_lt_of_le LP.out hb4.size)
  replace Kg := Lib.hid ((hb4.block _ Lg.out).trans Kg.out)
  replace Lg := Lib.hid (Nat.lt_of_lt_of_le Lg.out hb4.size)
  replace gG := Lib.hid (gG.out.later hb4)
  replace gH := Lib.hid (gH.out.later hb4)
  replace BB := Lib.hid (BB.out.trans (hb4.mono BB.out.size))
  replace gT := Lib.hid (gT.out.later hb4)
  have GX := Lib.hid gX
  have TX := Lib.hid tX
  clear gX tX hc3 ho4 hb4
  have N4 : Hid (Xg.heap.size ≤ xi ∧ Xg.heap.size ≤ xt ∧ xi < w4.heap.size ∧ xt < w4.heap.size ∧ xi ≠ xt) := Lib.hid ⟨GX.out.2.2.2.1, TX.out.2.2.2.1, GX.out.2.2.2.2.1, TX.out.2.2.2.2.1, hne4⟩
  clear hne4
  obtain ⟨X2, hX2⟩ : ∃ x, x = w4.alloc (.cells #[.slice (some ⟨xi, 0, none⟩) s.items.length s.items.length, .slice (some ⟨xt, 0, none⟩) s.talks.length s.talks.length] 27) := ⟨_, rfl⟩
  have bX2 : Below w4.heap.size w4 X2 := by rw [hX2]; exact (Below.refl _ _).alloc (Nat.le_refl _) _
  have sX2 : Hid (X2.heap.size = w4.heap.size + 1) := Lib.hid (by rw [hX2]; simp)
  replace KP := Lib.hid ((bX2.block _ LP.out).trans KP.out)
  replace LP := Lib.hid (Nat.lt_of_lt_of_le LP.out bX2.size)
  replace Kg := Lib.hid ((bX2.block _ Lg.out).trans Kg.out)
  replace Lg := Lib.hid (Nat.lt_of_lt_of_le Lg.out bX2.size)
  replace gG := Lib.hid (gG.out.later bX2)
  replace gH := Lib.hid (gH.out.later bX2)
  replace GX := Lib.hid (GX.out.later bX2)
  replace TX := Lib.hid (TX.out.later bX2)
  replace BB := Lib.hid (BB.out.trans (bX2.mono BB.out.size))
  replace gT := Lib.hid (gT.out.later bX2)
  have KX : Hid (X2.heap[w4.heap.size]? = some (.cells #[.slice (some ⟨xi, 0, none⟩) s.items.length s.items.length, .slice (some ⟨xt, 0, none⟩) s.talks.length s.talks.length] 27 (0, 0))) := Lib.hid (by rw [hX2]; exact heap_new _ _)
  have LX : Hid (w4.heap.size < X2.heap.size) := Lib.hid (by have := sX2.out; omega)
  clear bX2
  have N5 : Hid (w4.heap.size < X2.heap.size) := LX
  go_wp2_with fail
  rw [← hX2]
  clear hX2
  have hc4 := to_ops xs _ w.heap.size X2 (HRL.out.later BB.out (Nat.le_refl _)) BB.out.size HL.out
  go_wp2_with (go_at_call 22; refine hc4.mono ?_; rintro e w5 ⟨_, rfl, ho5, ⟨xo, rfl⟩, hb5⟩; refine Hid.out ?_)
  refine Lib.hid ?_
  replace KP := Lib.hid ((hb5.block _ LP.out).trans KP.out)
  replace LP := Lib.hid (Nat.lt_of_lt_of_le LP.out hb5.size)
  replace Kg := Lib.hid ((hb5.block _ Lg.out).trans Kg.out)
  replace Lg := Lib.hid (Nat.lt_of_lt_of_le Lg.out hb5.size)
  replace KX := Lib.hid ((hb5.block _ LX.out).trans KX.out)
  replace LX := Lib.hid (Nat.lt_of_lt_of_le LX.out hb5.size)
  replace gG := Lib.hid (gG.out.later hb5)
  replace gH := Lib.hid (gH.out.later hb5)
  replace GX := Lib.hid (GX.out.later hb5)
  replace TX := Lib.hid (TX.out.later hb5)
  replace BB := Lib.hid (BB.out.trans (hb5.mono BB.out.size))
  replace gT := Lib.hid (gT.out.later hb5)
  have XO := Lib.hid ho5
  have N6 : Hid (X2.heap.size ≤ xo ∧ xo < w5.heap.size) := Lib.hid (World.ownsRow.lt ho5 _ rfl)
  clear ho5 hc4 hb5
  have sk : Hid (w5.heap.size ≤ w5.heap.size) := Lib.hid (Nat.le_refl _)
  have fX0 := cell_of_row w5 _ 0 _ _ _ KX.out
  have fX1 := cell_of_row w5 _ 1 _ _ _ KX.out
  simp only [List.getElem?_toArray, List.getElem?_cons_zero, List.getElem?_cons_succ] at fX0 fX1
  have hc := impl_applyAll s _ _ xs w5.heap.size w5 (st_parts GX.out TX.out) (raw_of_row (row_of_owns XO.out (by have := HL.out; unfold maxLen; omega))) (Nat.le_refl _) Hkeep.out HF.out HL.out (HE.out.on BB.out)
  rw [← Hr.out, ← Hrs.out] at hc
  go_wp2_with (go_at_call 8; refine hc.mono ?_; rintro e wkc ⟨vk, kvr, nbk, rfl, kho, hbC⟩; refine Hid.out ?_)
  refine Lib.hid ?_
  clear fX0 fX1
  replace KP := Lib.hid ((hbC.block _ LP.out).trans KP.out)
  replace LP := Lib.hid (Nat.lt_of_lt_of_le LP.out hbC.size)
  replace Kg := Lib.hid ((hbC.block _ Lg.out).trans Kg.out)
  replace Lg := Lib.hid (Nat.lt_of_lt_of_le Lg.out hbC.size)
  replace KX := Lib.hid ((hbC.block _ LX.out).trans KX.out)
  replace LX := Lib.hid (Nat.lt_of_lt_of_le LX.out hbC.size)
  replace gG := Lib.hid (gG.out.later hbC)
  replace gH := Lib.hid (gH.out.later hbC)
  replace GX := Lib.hid (GX.out.later hbC)
  replace TX := Lib.hid (TX.out.later hbC)
  replace BB := Lib.hid (BB.out.trans (hbC.mono BB.out.size))
  replace gT := Lib.hid (gT.out.later hbC)
  replace XO := Lib.hid (owns_later XO.out hbC)
  have tk : Hid (w5.heap.size ≤ wkc.heap.size) := Lib.hid hbC.size
  clear hc hbC
  obtain ⟨⟨_, _, kgi, kci, kgt, kct, rfl, khne, ⟨kai, rfl, ksai⟩, ⟨kat, rfl, ksat⟩, kgW, ktW, _, _, kna, knb⟩, _, ktx⟩ := kho
  have kG := Lib.hid kgW
  have kH := Lib.hid ktW
  have kT : Hid (Texts wkc w5.heap.size kvr rs) := Lib.hid ktx
  have kSI : Hid (NilOr kai kgi r.items.length kci) := Lib.hid ksai
  have kST : Hid (NilOr kat kgt r.talks.length kct) := Lib.hid ksat
  have BkT : Hid (∀ k, kvr.ownBlock = some k → w5.heap.size ≤ k ∧ k < wkc.heap.size) := Lib.hid (World.ownsRow.lt kT.out)
  have Mk : Hid (kgi < wkc.heap.size ∧ kgt < wkc.heap.size ∧ w5.heap.size ≤ kgi ∧ w5.heap.size ≤ kgt ∧ kgi ≠ kgt) := Lib.hid ⟨kG.out.2.2.2.2.1, kH.out.2.2.2.2.1, kG.out.2.2.2.1, kH.out.2.2.2.1, khne⟩
  have kNA := Lib.hid (And.intro kna knb)
  clear kna knb
  clear kgW ktW khne ktx ksai ksat
  obtain ⟨Xk, hXk⟩ : ∃ x, x = wkc.alloc (.cells #[.slice kai r.items.length kci, .slice kat r.talks.length kct] 27) := ⟨_, rfl⟩
  have bXk : Below wkc.heap.size wkc Xk := by rw [hXk]; exact (Below.refl _ _).alloc (Nat.le_refl _) _
  have sXk : Hid (Xk.heap.size = wkc.heap.size + 1) := Lib.hid (by rw [hXk]; simp)
  replace KP := Lib.hid ((bXk.block _ LP.out).trans KP.out)
  replace LP := Lib.hid (Nat.lt_of_lt_of_le LP.out bXk.size)
  replace Kg := Lib.hid ((bXk.block _ Lg.out).trans Kg.out)
  replace Lg := Lib.hid (Nat.lt_of_lt_of_le Lg.out bXk.size)
  replace KX := Lib.hid ((bXk.block _ LX.out).trans KX.out)
  replace LX := Lib.hid (Nat.lt_of_lt_of_le LX.out bXk.size)
  replace gG := Lib.hid (gG.out.later bXk)
  replace gH := Lib.hid (gH.out.later bXk)
  replace GX := Lib.hid (GX.out.later bXk)
  replace TX := Lib.hid (TX.out.later bXk)
  replace kG := Lib.hid (kG.out.later bXk)
  replace kH := Lib.hid (kH.out.later bXk)
  replace BB := Lib.hid (BB.out.trans (bXk.mono BB.out.size))
  replace gT := Lib.hid (gT.out.later bXk)
  replace kT := Lib.hid (kT.out.later bXk)
  replace XO := Lib.hid (owns_later XO.out bXk)
  have Kk : Hid (Xk.heap[wkc.heap.size]? = some (.cells #[.slice kai r.items.length kci, .slice kat r.talks.length kct] 27 (0, 0))) := Lib.hid (by rw [hXk]; exact heap_new _ _)
  have Lk : Hid (wkc.heap.size < Xk.heap.size) := Lib.hid (by have := sXk.out; omega)
  clear bXk
  have Nk : Hid (wkc.heap.size < Xk.heap.size) := Lk
  have fk0 := cell_of_row Xk _ 0 _ _ _ Kk.out
  have fk1 := cell_of_row Xk _ 1 _ _ _ Kk.out
  simp only [List.getElem?_toArray, List.getElem?_cons_zero, List.getElem?_cons_succ] at fk0 fk1
  have fg0 := cell_of_row Xk _ 0 _ _ _ Kg.out
  have fg1 := cell_of_row Xk _ 1 _ _ _ Kg.out
  simp only [List.getElem?_toArray, List.getElem?_cons_zero, List.getElem?_cons_succ] at fg0 fg1
  rw [hXk] at fk0 fk1 fg0 fg1
  go_wp2_with fail
  rw [← hXk]
  clear fk0 fk1 fg0 fg1
  clear hXk
  have ORD : Hid (w.heap.size < w2.heap.size ∧ w2.heap.size ≤ wgb.heap.size ∧ wgb.heap.size ≤ ggi ∧ wgb.heap.size ≤ ggt ∧ ggi < wgc.heap.size ∧ ggt < wgc.heap.size ∧ wgb.heap.size ≤ wgc.heap.size ∧ wgc.heap.size < Xg.heap.size ∧ Xg.heap.size ≤ xi ∧ Xg.heap.size ≤ xt ∧ xi < w4.heap.size ∧ xt < w4.heap.size ∧ xi ≠ xt ∧ w4.heap.size < X2.heap.size ∧ X2.heap.size ≤ xo ∧ xo < w5.heap.size ∧ w5.heap.size ≤ wkc.heap.size ∧ w5.heap.size ≤ kgi ∧ w5.heap.size ≤ kgt ∧ kgi < wkc.heap.size ∧ kgt < wkc.heap.size ∧ kgi ≠ kgt ∧ wkc.heap.size < Xk.heap.size ∧ w.heap.size ≤ w5.heap.size) := Lib.hid (by
    have h1 := Ng.out; have h2 := Mg.out; have h3 := N4.out; have h4 := N5.out; have h5 := Nk.out; have h6 := Mk.out; have h7 := HWlt.out; have h8 := yW2.out; have h9 := N6.out; have h10 := sg.out; have h11 := tg.out; have h12 := tk.out
    omega)
  clear Ng Mg N4 N5 N6 N4a Nk Mk yW yW2 HWlt sg tg sk tk hneg hneg2 hq0 hr0 hr1 hr3 hr4
  have KW := Kg
  have LW := Lg
  have KG := Kk
  have LG := Lk
  have GW := gG
  have TW := gH
  have GG := kG
  have TG := kH
  clear Kg Lg Kk Lk gG gH kG kH
  have hc5 := eq_state r _ _ Xk.heap.size Xk (rd_parts kSI.out kST.out GG.out TG.out) (rd_parts gSI.out gST.out GW.out TW.out) (Nat.le_refl _)
  have fG0 := cell_of_row Xk _ 0 _ _ _ KG.out
  have fG1 := cell_of_row Xk _ 1 _ _ _ KG.out
  simp only [List.getElem?_toArray, List.getElem?_cons_zero, List.getElem?_cons_succ] at fG0 fG1
  have fW0 := cell_of_row Xk _ 0 _ _ _ KW.out
  have fW1 := cell_of_row Xk _ 1 _ _ _ KW.out
  simp only [List.getElem?_toArray, List.getElem?_cons_zero, List.getElem?_cons_succ] at fW0 fW1
  go_wp2_with (go_at_call 18; refine hc5.mono ?_; rintro e w6a ⟨rfl, hb⟩; refine Hid.out ?_)
  refine Lib.hid ?_
  clear fG0 fG1 fW0 fW1
  replace KP := Lib.hid ((hb.block _ LP.out).trans KP.out)
  replace LP := Lib.hid (Nat.lt_of_lt_of_le LP.out hb.size)
  replace KW := Lib.hid ((hb.block _ LW.out).trans KW.out)
  replace LW := Lib.hid (Nat.lt_of_lt_of_le LW.out hb.size)
  replace KX := Lib.hid ((hb.block _ LX.out).trans KX.out)
  replace LX := Lib.hid (Nat.lt_of_lt_of_le LX.out hb.size)
  replace KG := Lib.hid ((hb.block _ LG.out).trans KG.out)
  replace LG := Lib.hid (Nat.lt_of_lt_of_le LG.out hb.size)
  replace GW := Lib.hid (GW.out.later hb)
  replace TW := Lib.hid (TW.out.later hb)
  replace GX := Lib.hid (GX.out.later hb)
  replace TX := Lib.hid (TX.out.later hb)
  replace GG := Lib.hid (GG.out.later hb)
  replace TG := Lib.hid (TG.out.later hb)
  replace BB := Lib.hid (BB.out.trans (hb.mono BB.out.size))
  replace gT := Lib.hid (gT.out.later hb)
  replace kT := Lib.hid (kT.out.later hb)
  replace XO := Lib.hid (owns_later XO.out hb)
  clear hc5 hb
  have hc5 := eq_texts _ _ _ _ rs w6a kT.out gT.out
  go_wp2_with (go_at_call 23; refine hc5.mono ?_; rintro e w6 ⟨rfl, hb⟩; refine Hid.out ?_)
  refine Lib.hid ?_
  replace KP := Lib.hid ((hb.block _ LP.out).trans KP.out)
  replace LP := Lib.hid (Nat.lt_of_lt_of_le LP.out hb.size)
  replace KW := Lib.hid ((hb.block _ LW.out).trans KW.out)
  replace LW := Lib.hid (Nat.lt_of_lt_of_le LW.out hb.size)
  replace KX := Lib.hid ((hb.block _ LX.out).trans KX.out)
  replace LX := Lib.hid (Nat.lt_of_lt_of_le LX.out hb.size)
  replace KG := Lib.hid ((hb.block _ LG.out).trans KG.out)
  replace LG := Lib.hid (Nat.lt_of_lt_of_le LG.out hb.size)
  replace GW := Lib.hid (GW.out.later hb)
  replace TW := Lib.hid (TW.out.later hb)
  replace GX := Lib.hid (GX.out.later hb)
  replace TX := Lib.hid (TX.out.later hb)
  replace GG := Lib.hid (GG.out.later hb)
  replace TG := Lib.hid (TG.out.later hb)
  replace BB := Lib.hid (BB.out.trans (hb.mono BB.out.size))
  replace gT := Lib.hid (gT.out.later hb)
  replace kT := Lib.hid (kT.out.later hb)
  replace XO := Lib.hid (owns_later XO.out hb)
  clear hc5 hb
  have fX0 := cell_of_row w6 _ 0 _ _ _ KX.out
  have fX1 := cell_of_row w6 _ 1 _ _ _ KX.out
  simp only [List.getElem?_toArray, List.getElem?_cons_zero, List.getElem?_cons_succ] at fX0 fX1
  have fP0 := cell_of_row w6 _ 0 _ _ _ KP.out
  have fP1 := cell_of_row w6 _ 1 _ _ _ KP.out
  simp only [List.getElem?_toArray, List.getElem?_cons_zero, List.getElem?_cons_succ] at fP0 fP1
  go_wp2_with fail
  have b6 : Below w6.heap.size w6 w6.drew := (Below.refl _ _).drew
  refine wp_region_held_drew (S := (fun w' => w'.cell? ⟨w4.heap.size, 0, none⟩ = some (.slice (some ⟨xi, 0, none⟩) s.items.length s.items.length) ∧ w'.cell? ⟨w4.heap.size, 1, none⟩ = some (.slice (some ⟨xt, 0, none⟩) s.talks.length s.talks.length) ∧ w'.cell? ⟨w.heap.size, 0, none⟩ = some vi ∧ w'.cell? ⟨w.heap.size, 1, none⟩ = some vt)) (by kernel_rfl) ⟨fX0, fX1, fP0, fP1⟩ (fun hHeld => ?_)
  refine tk 0 (v := ?_) ?_ ?_; rotate_left
  · refine Or.inl ⟨by rfl, ?_⟩; intro w hSw; obtain ⟨hS0, hS1, hS2, hS3⟩ := hSw; go_simp; first | done | with_reducible rfl
  refine tk 1 (v := ?_) ?_ ?_; rotate_left
  · refine Or.inl ⟨by rfl, ?_⟩; intro w hSw; obtain ⟨hS0, hS1, hS2, hS3⟩ := hSw; go_simp; first | done | with_reducible rfl
  refine wpAnyH_ready (rs := [2]) (by kernel_rfl) (by simp) ?_
  refine AllReadyH.cons rfl (fun K hK => ?_) AllReadyH.nil
  go_simp
  go_at_call 15
  refine (to_state s _ w.heap.size _ (HR.out.later (BB.out.trans (b6.mono BB.out.size)) (Nat.le_refl _)) (Nat.le_trans BB.out.size b6.size) Hs.out).mono ?_
  rintro e w7 ⟨v7, rfl, ho7, hb7⟩
  have hb7' := b6.trans hb7
  replace KP := Lib.hid ((hb7'.block _ LP.out).trans KP.out)
  replace LP := Lib.hid (Nat.lt_of_lt_of_le LP.out hb7'.size)
  replace KW := Lib.hid ((hb7'.block _ LW.out).trans KW.out)
  replace LW := Lib.hid (Nat.lt_of_lt_of_le LW.out hb7'.size)
  replace KX := Lib.hid ((hb7'.block _ LX.out).trans KX.out)
  replace LX := Lib.hid (Nat.lt_of_lt_of_le LX.out hb7'.size)
  replace KG := Lib.hid ((hb7'.block _ LG.out).trans KG.out)
  replace LG := Lib.hid (Nat.lt_of_lt_of_le LG.out hb7'.size)
  replace GW := Lib.hid (GW.out.later hb7')
  replace TW := Lib.hid (TW.out.later hb7')
  replace GX := Lib.hid (GX.out.later hb7')
  replace TX := Lib.hid (TX.out.later hb7')
  replace GG := Lib.hid (GG.out.later hb7')
  replace TG := Lib.hid (TG.out.later hb7')
  replace BB := Lib.hid (BB.out.trans (hb7'.mono BB.out.size))
  replace gT := Lib.hid (gT.out.later hb7')
  replace kT := Lib.hid (kT.out.later hb7')
  replace XO := Lib.hid (owns_later XO.out hb7')
  have ST7 := Lib.hid (ho7.st Hs.out.lens.1 Hs.out.lens.2)
  have S7 : Hid (w7.cell? ⟨w4.heap.size, 0, none⟩ = some (.slice (some ⟨xi, 0, none⟩) s.items.length s.items.length) ∧ w7.cell? ⟨w4.heap.size, 1, none⟩ = some (.slice (some ⟨xt, 0, none⟩) s.talks.length s.talks.length) ∧ w7.cell? ⟨w.heap.size, 0, none⟩ = some vi ∧ w7.cell? ⟨w.heap.size, 1, none⟩ = some vt) := Lib.hid ⟨by simpa using cell_of_row w7 _ 0 _ _ _ KX.out, by simpa using cell_of_row w7 _ 1 _ _ _ KX.out, by simpa using cell_of_row w7 _ 0 _ _ _ KP.out, by simpa using cell_of_row w7 _ 1 _ _ _ KP.out⟩
  clear ho7 hb7 hb7'
  go_wp2_with fail
  refine hK.out _ _ (S7.out) (fun hHeld => ?_)
  clear hK K
  try simp only [getElem_toArray, getElem_cons_zero, getElem_cons_succ, Act.put, setIfInBounds_toArray, set_cons_zero, set_cons_succ]
  refine wpAnyH_ready (rs := [3]) (by kernel_rfl) (by simp) ?_
  refine AllReadyH.cons rfl (fun K hK => ?_) AllReadyH.nil
  go_simp
  go_at_call 18
  refine (eq_state s _ _ w7.heap.size w7 (rd_parts (.inl rfl) (.inl rfl) GX.out TX.out) ST7.out.rd (Nat.le_refl _)).mono ?_
  rintro e w8 ⟨rfl, hb8⟩
  replace KP := Lib.hid ((hb8.block _ LP.out).trans KP.out)
  replace LP := Lib.hid (Nat.lt_of_lt_of_le LP.out hb8.size)
  replace KW := Lib.hid ((hb8.block _ LW.out).trans KW.out)
  replace LW := Lib.hid (Nat.lt_of_lt_of_le LW.out hb8.size)
  replace KX := Lib.hid ((hb8.block _ LX.out).trans KX.out)
  replace LX := Lib.hid (Nat.lt_of_lt_of_le LX.out hb8.size)
  replace KG := Lib.hid ((hb8.block _ LG.out).trans KG.out)
  replace LG := Lib.hid (Nat.lt_of_lt_of_le LG.out hb8.size)
  replace GW := Lib.hid (GW.out.later hb8)
  replace TW := Lib.hid (TW.out.later hb8)
  replace GX := Lib.hid (GX.out.later hb8)
  replace TX := Lib.hid (TX.out.later hb8)
  replace GG := Lib.hid (GG.out.later hb8)
  replace TG := Lib.hid (TG.out.later hb8)
  replace BB := Lib.hid (BB.out.trans (hb8.mono BB.out.size))
  replace gT := Lib.hid (gT.out.later hb8)
  replace kT := Lib.hid (kT.out.later hb8)
  replace XO := Lib.hid (owns_later XO.out hb8)
  have S8 : Hid (w8.cell? ⟨w4.heap.size, 0, none⟩ = some (.slice (some ⟨xi, 0, none⟩) s.items.length s.items.length) ∧ w8.cell? ⟨w4.heap.size, 1, none⟩ = some (.slice (some ⟨xt, 0, none⟩) s.talks.length s.talks.length) ∧ w8.cell? ⟨w.heap.size, 0, none⟩ = some vi ∧ w8.cell? ⟨w.heap.size, 1, none⟩ = some vt) := Lib.hid ⟨by simpa using cell_of_row w8 _ 0 _ _ _ KX.out, by simpa using cell_of_row w8 _ 1 _ _ _ KX.out, by simpa using cell_of_row w8 _ 0 _ _ _ KP.out, by simpa using cell_of_row w8 _ 1 _ _ _ KP.out⟩
  clear hb8
  go_wp2_with fail
  refine hK.out _ _ (S8.out) (fun hHeld => ?_)
  clear hK K
  try simp only [getElem_toArray, getElem_cons_zero, getElem_cons_succ, Act.put, setIfInBounds_toArray, set_cons_zero, set_cons_succ]
  refine tk0 4 ?_
  refine wpAnyH_done (by kernel_rfl) ?_ _
  clear fX0 fX1 fP0 fP1
  clear hHeld S7 S8 ST7 b6
  have hc8 := to_ops xs _ w.heap.size w8 (HRL.out.later BB.out (Nat.le_refl _)) BB.out.size HL.out
  go_wp2_with (go_at_call 22; refine hc8.mono ?_; rintro e w8a ⟨_, rfl, ho8, ⟨xo8, rfl⟩, hb8⟩; refine Hid.out ?_)
  refine Lib.hid ?_
  replace KP := Lib.hid ((hb8.block _ LP.out).trans KP.out)
  replace LP := Lib.hid (Nat.lt_of_lt_of_le LP.out hb8.size)
  replace KW := Lib.hid ((hb8.block _ LW.out).trans KW.out)
  replace LW := Lib.hid (Nat.lt_of_lt_of_le LW.out hb8.size)
  replace KX := Lib.hid ((hb8.block _ LX.out).trans KX.out)
  replace LX := Lib.hid (Nat.lt_of_lt_of_le LX.out hb8.size)
  replace KG := Lib.hid ((hb8.block _ LG.out).trans KG.out)
  replace LG := Lib.hid (Nat.lt_of_lt_of_le LG.out hb8.size)
  replace GW := Lib.hid (GW.out.later hb8)
  replace TW := Lib.hid (TW.out.later hb8)
  replace GX := Lib.hid (GX.out.later hb8)
  replace TX := Lib.hid (TX.out.later hb8)
  replace GG := Lib.hid (GG.out.later hb8)
  replace TG := Lib.hid (TG.out.later hb8)
  replace BB := Lib.hid (BB.out.trans (hb8.mono BB.out.size))
  replace gT := Lib.hid (gT.out.later hb8)
  replace kT := Lib.hid (kT.out.later hb8)
  replace XO := Lib.hid (owns_later XO.out hb8)
  have O8 := Lib.hid ho8
  clear ho8 hc8 hb8
  have hc8 := eq_ops xs _ _ w8a.heap.size w8a (raw_of_row (row_of_owns XO.out (by have := HL.out; unfold maxLen; omega))) (raw_of_row (row_of_owns O8.out (by have := HL.out; unfold maxLen; omega))) (Nat.le_refl _)
  go_wp2_with (go_at_call 24; refine hc8.mono ?_; rintro e w8b ⟨rfl, hb8⟩; refine Hid.out ?_)
  refine Lib.hid ?_
  replace KP := Lib.hid ((hb8.block _ LP.out).trans KP.out)
  replace LP := Lib.hid (Nat.lt_of_lt_of_le LP.out hb8.size)
  replace KW := Lib.hid ((hb8.block _ LW.out).trans KW.out)
  replace LW := Lib.hid (Nat.lt_of_lt_of_le LW.out hb8.size)
  replace KX := Lib.hid ((hb8.block _ LX.out).trans KX.out)
  replace LX := Lib.hid (Nat.lt_of_lt_of_le LX.out hb8.size)
  replace KG := Lib.hid ((hb8.block _ LG.out).trans KG.out)
  replace LG := Lib.hid (Nat.lt_of_lt_of_le LG.out hb8.size)
  replace GW := Lib.hid (GW.out.later hb8)
  replace TW := Lib.hid (TW.out.later hb8)
  replace GX := Lib.hid (GX.out.later hb8)
  replace TX := Lib.hid (TX.out.later hb8)
  replace GG := Lib.hid (GG.out.later hb8)
  replace TG := Lib.hid (TG.out.later hb8)
  replace BB := Lib.hid (BB.out.trans (hb8.mono BB.out.size))
  replace gT := Lib.hid (gT.out.later hb8)
  replace kT := Lib.hid (kT.out.later hb8)
  replace XO := Lib.hid (owns_later XO.out hb8)
  clear hc8 hb8 O8
  have hms : 1 + 2 * s.items.length + 3 * s.talks.length ≤ 5242881 := by have := Hs.out; unfold Small at this; omega
  have hc9 := mark_stateN s.items.length s.talks.length 1 xi s.items.length xt s.talks.length Xg.heap.size (some ⟨xi, 0, none⟩) (some ⟨xt, 0, none⟩) _ _ w8b (by omega) (by omega) (by have := ORD.out; omega) (.inl rfl) (.inl rfl) GX.out TX.out
  obtain ⟨ms, hmS⟩ : ∃ m, m = 1 + 2 * s.items.length + 3 * s.talks.length := ⟨_, rfl⟩
  have hms1 : 0 < ms := by omega
  rw [← hmS] at hc9 hms
  clear hmS
  have fX0 := cell_of_row w8b _ 0 _ _ _ KX.out
  have fX1 := cell_of_row w8b _ 1 _ _ _ KX.out
  simp only [List.getElem?_toArray, List.getElem?_cons_zero, List.getElem?_cons_succ] at fX0 fX1
  go_wp2_with (go_at_call 19; refine hc9.mono ?_; rintro e w9 ⟨rfl, gX9, tX9, ho9⟩; refine Hid.out ?_)
  refine Lib.hid ?_
  clear fX0 fX1
  clear gX9 tX9 hc9 GX TX
  replace KP := Lib.hid ((ho9.block LP.out (by have := ORD.out; omega) (by have := ORD.out; omega)).trans KP.out)
  replace LP := Lib.hid (Nat.lt_of_lt_of_le LP.out ho9.size)
  replace KW := Lib.hid ((ho9.block LW.out (by have := ORD.out; omega) (by have := ORD.out; omega)).trans KW.out)
  replace LW := Lib.hid (Nat.lt_of_lt_of_le LW.out ho9.size)
  replace KX := Lib.hid ((ho9.block LX.out (by have := ORD.out; omega) (by have := ORD.out; omega)).trans KX.out)
  replace LX := Lib.hid (Nat.lt_of_lt_of_le LX.out ho9.size)
  replace KG := Lib.hid ((ho9.block LG.out (by have := ORD.out; omega) (by have := ORD.out; omega)).trans KG.out)
  replace LG := Lib.hid (Nat.lt_of_lt_of_le LG.out ho9.size)
  replace GW := Lib.hid (GW.out.off ho9 (by have := ORD.out; omega) (by have := ORD.out; omega))
  replace TW := Lib.hid (TW.out.off ho9 (by have := ORD.out; omega) (by have := ORD.out; omega))
  replace GG := Lib.hid (GG.out.off ho9 (by have := ORD.out; omega) (by have := ORD.out; omega))
  replace TG := Lib.hid (TG.out.off ho9 (by have := ORD.out; omega) (by have := ORD.out; omega))
  replace BB := Lib.hid (BB.out.trans (ho9.below (by have := ORD.out; omega) (by have := ORD.out; omega) BB.out.size))
  replace gT := Lib.hid (texts_off gT.out ho9 (fun e => by have := BgT.out _ e; have := ORD.out; omega) (fun e => by have := BgT.out _ e; have := ORD.out; omega))
  replace kT := Lib.hid (texts_off kT.out ho9 (fun e => by have := BkT.out _ e; have := ORD.out; omega) (fun e => by have := BkT.out _ e; have := ORD.out; omega))
  replace XO := Lib.hid (owns_off XO.out ho9 (by have := ORD.out; omega) (by have := ORD.out; omega))
  clear ho9
  have hc9 := mark_ops xs.length ms xo xs.length _ _ w9 hms1 (by have := HL.out; omega) (by have := HL.out; unfold maxLen; omega) (Nat.le_refl _) XO.out
  obtain ⟨mo, hmO⟩ : ∃ m, m = ms + 5 * xs.length := ⟨_, rfl⟩
  have hmo : mo ≤ 10485761 := by have := HL.out; omega
  rw [← hmO] at hc9
  clear hmO
  go_wp2_with (go_at_call 25; refine hc9.mono ?_; rintro e w9a ⟨rfl, hg9⟩; refine Hid.out ?_)
  refine Lib.hid ?_
  clear hc9 XO
  replace KP := Lib.hid ((hg9.block _ LP.out (fun e => by have e := e.symm; cases e; have := ORD.out; omega)).trans KP.out)
  replace LP := Lib.hid (Nat.lt_of_lt_of_le LP.out hg9.size)
  replace KW := Lib.hid ((hg9.block _ LW.out (fun e => by have e := e.symm; cases e; have := ORD.out; omega)).trans KW.out)
  replace LW := Lib.hid (Nat.lt_of_lt_of_le LW.out hg9.size)
  replace KX := Lib.hid ((hg9.block _ LX.out (fun e => by have e := e.symm; cases e; have := ORD.out; omega)).trans KX.out)
  replace LX := Lib.hid (Nat.lt_of_lt_of_le LX.out hg9.size)
  replace KG := Lib.hid ((hg9.block _ LG.out (fun e => by have e := e.symm; cases e; have := ORD.out; omega)).trans KG.out)
  replace LG := Lib.hid (Nat.lt_of_lt_of_le LG.out hg9.size)
  replace GW := Lib.hid (got_turn GW.out hg9 (fun e => by cases e; have := ORD.out; omega))
  replace TW := Lib.hid (got_turn TW.out hg9 (fun e => by cases e; have := ORD.out; omega))
  replace GG := Lib.hid (got_turn GG.out hg9 (fun e => by cases e; have := ORD.out; omega))
  replace TG := Lib.hid (got_turn TG.out hg9 (fun e => by cases e; have := ORD.out; omega))
  replace gT := Lib.hid (texts_turn gT.out hg9 (fun k e1 e => by have := (BgT.out k e1); cases e; have := ORD.out; omega))
  replace kT := Lib.hid (texts_turn kT.out hg9 (fun k e1 e => by have := (BkT.out k e1); cases e; have := ORD.out; omega))
  replace BB := Lib.hid (BB.out.grown hg9 BB.out.size (fun k e => by cases e; have := ORD.out; omega))
  clear hg9
  have hc10 := eq_state r _ _ w9a.heap.size w9a (rd_parts kSI.out kST.out GG.out TG.out) (rd_parts gSI.out gST.out GW.out TW.out) (Nat.le_refl _)
  have fG0 := cell_of_row w9a _ 0 _ _ _ KG.out
  have fG1 := cell_of_row w9a _ 1 _ _ _ KG.out
  simp only [List.getElem?_toArray, List.getElem?_cons_zero, List.getElem?_cons_succ] at fG0 fG1
  have fW0 := cell_of_row w9a _ 0 _ _ _ KW.out
  have fW1 := cell_of_row w9a _ 1 _ _ _ KW.out
  simp only [List.getElem?_toArray, List.getElem?_cons_zero, List.getElem?_cons_succ] at fW0 fW1
  go_wp2_with (go_at_call 18; refine hc10.mono ?_; rintro e w10a ⟨rfl, hb⟩; refine Hid.out ?_)
  refine Lib.hid ?_
  clear fG0 fG1 fW0 fW1
  replace KP := Lib.hid ((hb.block _ LP.out).trans KP.out)
  replace LP := Lib.hid (Nat.lt_of_lt_of_le LP.out hb.size)
  replace KW := Lib.hid ((hb.block _ LW.out).trans KW.out)
  replace LW := Lib.hid (Nat.lt_of_lt_of_le LW.out hb.size)
  replace KX := Lib.hid ((hb.block _ LX.out).trans KX.out)
  replace LX := Lib.hid (Nat.lt_of_lt_of_le LX.out hb.size)
  replace KG := Lib.hid ((hb.block _ LG.out).trans KG.out)
  replace LG := Lib.hid (Nat.lt_of_lt_of_le LG.out hb.size)
  replace GW := Lib.hid (GW.out.later hb)
  replace TW := Lib.hid (TW.out.later hb)
  replace GG := Lib.hid (GG.out.later hb)
  replace TG := Lib.hid (TG.out.later hb)
  replace BB := Lib.hid (BB.out.trans (hb.mono BB.out.size))
  replace gT := Lib.hid (gT.out.later hb)
  replace kT := Lib.hid (kT.out.later hb)
  clear hc10 hb
  have hc10 := eq_texts _ _ _ _ rs w10a kT.out gT.out
  go_wp2_with (go_at_call 23; refine hc10.mono ?_; rintro e w10 ⟨rfl, hb⟩; refine Hid.out ?_)
  refine Lib.hid ?_
  replace KP := Lib.hid ((hb.block _ LP.out).trans KP.out)
  replace LP := Lib.hid (Nat.lt_of_lt_of_le LP.out hb.size)
  replace KW := Lib.hid ((hb.block _ LW.out).trans KW.out)
  replace LW := Lib.hid (Nat.lt_of_lt_of_le LW.out hb.size)
  replace KX := Lib.hid ((hb.block _ LX.out).trans KX.out)
  replace LX := Lib.hid (Nat.lt_of_lt_of_le LX.out hb.size)
  replace KG := Lib.hid ((hb.block _ LG.out).trans KG.out)
  replace LG := Lib.hid (Nat.lt_of_lt_of_le LG.out hb.size)
  replace GW := Lib.hid (GW.out.later hb)
  replace TW := Lib.hid (TW.out.later hb)
  replace GG := Lib.hid (GG.out.later hb)
  replace TG := Lib.hid (TG.out.later hb)
  replace BB := Lib.hid (BB.out.trans (hb.mono BB.out.size))
  replace gT := Lib.hid (gT.out.later hb)
  replace kT := Lib.hid (kT.out.later hb)
  clear hc10 hb
  clear hms hms1 hmo
  have hmr : 1 + 2 * r.items.length + 3 * r.talks.length ≤ 10485761 := by have := Hsr.out; omega
  have hc11 := mark_stateN r.items.length r.talks.length 1 kgi kci kgt kct w5.heap.size kai kat _ _ w10 (by omega) (by omega) (by have := ORD.out; omega) kSI.out kST.out GG.out TG.out
  obtain ⟨mr, hmR⟩ : ∃ m, m = 1 + 2 * r.items.length + 3 * r.talks.length := ⟨_, rfl⟩
  have HmR := Lib.hid hmR
  have hmr1 : 0 < mr := by omega
  rw [← hmR] at hc11 hmr
  clear hmR
  have fG0 := cell_of_row w10 _ 0 _ _ _ KG.out
  have fG1 := cell_of_row w10 _ 1 _ _ _ KG.out
  simp only [List.getElem?_toArray, List.getElem?_cons_zero, List.getElem?_cons_succ] at fG0 fG1
  go_wp2_with (go_at_call 19; refine hc11.mono ?_; rintro e w11 ⟨rfl, gG11, tG11, ho11⟩; refine Hid.out ?_)
  refine Lib.hid ?_
  clear fG0 fG1
  clear hc11 GG TG
  replace KP := Lib.hid ((ho11.block LP.out (by have := ORD.out; omega) (by have := ORD.out; omega)).trans KP.out)
  replace LP := Lib.hid (Nat.lt_of_lt_of_le LP.out ho11.size)
  replace KW := Lib.hid ((ho11.block LW.out (by have := ORD.out; omega) (by have := ORD.out; omega)).trans KW.out)
  replace LW := Lib.hid (Nat.lt_of_lt_of_le LW.out ho11.size)
  replace KX := Lib.hid ((ho11.block LX.out (by have := ORD.out; omega) (by have := ORD.out; omega)).trans KX.out)
  replace LX := Lib.hid (Nat.lt_of_lt_of_le LX.out ho11.size)
  replace KG := Lib.hid ((ho11.block LG.out (by have := ORD.out; omega) (by have := ORD.out; omega)).trans KG.out)
  replace LG := Lib.hid (Nat.lt_of_lt_of_le LG.out ho11.size)
  replace GW := Lib.hid (GW.out.off ho11 (by have := ORD.out; omega) (by have := ORD.out; omega))
  replace TW := Lib.hid (TW.out.off ho11 (by have := ORD.out; omega) (by have := ORD.out; omega))
  replace BB := Lib.hid (BB.out.trans (ho11.below (by have := ORD.out; omega) (by have := ORD.out; omega) BB.out.size))
  replace gT := Lib.hid (texts_off gT.out ho11 (fun e => by have := BgT.out _ e; have := ORD.out; omega) (fun e => by have := BgT.out _ e; have := ORD.out; omega))
  replace kT := Lib.hid (texts_off kT.out ho11 (fun e => by first | exact kNA.out.1 e | exact kNA.out.2 e) (fun e => by first | exact kNA.out.1 e | exact kNA.out.2 e))
  have GG := Lib.hid gG11
  have TG := Lib.hid tG11
  clear gG11 tG11 ho11
  have hc11 := mark_row _ _ rs mr hmr1 (by have := HL.out; have := Hrl.out; omega) w11 kT.out
  obtain ⟨mm, hmM⟩ : ∃ m, m = mr + rs.length := ⟨_, rfl⟩
  have HmM := Lib.hid hmM
  rw [← hmM] at hc11
  clear hmM
  go_wp2_with (go_at_call 26; refine hc11.mono ?_; rintro e w11a ⟨rfl, kT11, hg11⟩; refine Hid.out ?_)
  refine Lib.hid ?_
  clear hc11
  replace KP := Lib.hid ((hg11.block _ LP.out (fun e => by have e := e.symm; first | exact kNA.out.1 e | exact kNA.out.2 e | (have := BkT.out _ e; have := ORD.out; omega))).trans KP.out)
  replace LP := Lib.hid (Nat.lt_of_lt_of_le LP.out hg11.size)
  replace KW := Lib.hid ((hg11.block _ LW.out (fun e => by have e := e.symm; first | exact kNA.out.1 e | exact kNA.out.2 e | (have := BkT.out _ e; have := ORD.out; omega))).trans KW.out)
  replace LW := Lib.hid (Nat.lt_of_lt_of_le LW.out hg11.size)
  replace KX := Lib.hid ((hg11.block _ LX.out (fun e => by have e := e.symm; first | exact kNA.out.1 e | exact kNA.out.2 e | (have := BkT.out _ e; have := ORD.out; omega))).trans KX.out)
  replace LX := Lib.hid (Nat.lt_of_lt_of_le LX.out hg11.size)
  replace KG := Lib.hid ((hg11.block _ LG.out (fun e => by have e := e.symm; first | exact kNA.out.1 e | exact kNA.out.2 e | (have := BkT.out _ e; have := ORD.out; omega))).trans KG.out)
  replace LG := Lib.hid (Nat.lt_of_lt_of_le LG.out hg11.size)
  replace GW := Lib.hid (got_turn GW.out hg11 (fun e => by first | exact kNA.out.1 e | exact kNA.out.2 e | (have := BkT.out _ e; have := ORD.out; omega)))
  replace TW := Lib.hid (got_turn TW.out hg11 (fun e => by first | exact kNA.out.1 e | exact kNA.out.2 e | (have := BkT.out _ e; have := ORD.out; omega)))
  replace GG := Lib.hid (got_turn GG.out hg11 (fun e => by first | exact kNA.out.1 e | exact kNA.out.2 e | (have := BkT.out _ e; have := ORD.out; omega)))
  replace TG := Lib.hid (got_turn TG.out hg11 (fun e => by first | exact kNA.out.1 e | exact kNA.out.2 e | (have := BkT.out _ e; have := ORD.out; omega)))
  replace gT := Lib.hid (texts_turn gT.out hg11 (fun k e1 e => by have := (BgT.out k e1); first | exact kNA.out.1 e | exact kNA.out.2 e | (have := BkT.out _ e; have := ORD.out; omega)))
  replace BB := Lib.hid (BB.out.grown hg11 BB.out.size (fun k e => by first | exact kNA.out.1 e | exact kNA.out.2 e | (have := BkT.out _ e; have := ORD.out; omega)))
  replace kT := Lib.hid kT11
  clear kT11 hg11
  have hc12 := held_stateN r.items.length r.talks.length 1 kgi kci kgt kct w5.heap.size kai kat w11a (by omega) (by have := HmR.out; omega) kSI.out kST.out GG.out TG.out
  rw [← HmR.out] at hc12
  have fG0 := cell_of_row w11a _ 0 _ _ _ KG.out
  have fG1 := cell_of_row w11a _ 1 _ _ _ KG.out
  simp only [List.getElem?_toArray, List.getElem?_cons_zero, List.getElem?_cons_succ] at fG0 fG1
  go_wp2_with (go_at_call 20; refine hc12.mono ?_; rintro e w12a ⟨rfl, hb⟩; refine Hid.out ?_)
  refine Lib.hid ?_
  clear fG0 fG1
  replace KP := Lib.hid ((hb.block _ LP.out).trans KP.out)
  replace LP := Lib.hid (Nat.lt_of_lt_of_le LP.out hb.size)
  replace KW := Lib.hid ((hb.block _ LW.out).trans KW.out)
  replace LW := Lib.hid (Nat.lt_of_lt_of_le LW.out hb.size)
  replace KX := Lib.hid ((hb.block _ LX.out).trans KX.out)
  replace LX := Lib.hid (Nat.lt_of_lt_of_le LX.out hb.size)
  replace KG := Lib.hid ((hb.block _ LG.out).trans KG.out)
  replace LG := Lib.hid (Nat.lt_of_lt_of_le LG.out hb.size)
  replace GW := Lib.hid (GW.out.later hb)
  replace TW := Lib.hid (TW.out.later hb)
  replace GG := Lib.hid (GG.out.later hb)
  replace TG := Lib.hid (TG.out.later hb)
  replace BB := Lib.hid (BB.out.trans (hb.mono BB.out.size))
  replace gT := Lib.hid (gT.out.later hb)
  replace kT := Lib.hid (kT.out.later hb)
  clear hc12 hb
  have hc12 := held_row _ _ rs.length mr hmr1 (by have := HL.out; have := Hrl.out; omega) w12a kT.out
  rw [← HmM.out] at hc12
  go_wp2_with (go_at_call 27; refine hc12.mono ?_; rintro e w12 ⟨rfl, hb⟩; refine Hid.out ?_)
  refine Lib.hid ?_
  replace KP := Lib.hid ((hb.block _ LP.out).trans KP.out)
  replace LP := Lib.hid (Nat.lt_of_lt_of_le LP.out hb.size)
  replace KW := Lib.hid ((hb.block _ LW.out).trans KW.out)
  replace LW := Lib.hid (Nat.lt_of_lt_of_le LW.out hb.size)
  replace KX := Lib.hid ((hb.block _ LX.out).trans KX.out)
  replace LX := Lib.hid (Nat.lt_of_lt_of_le LX.out hb.size)
  replace KG := Lib.hid ((hb.block _ LG.out).trans KG.out)
  replace LG := Lib.hid (Nat.lt_of_lt_of_le LG.out hb.size)
  replace GW := Lib.hid (GW.out.later hb)
  replace TW := Lib.hid (TW.out.later hb)
  replace GG := Lib.hid (GG.out.later hb)
  replace TG := Lib.hid (TG.out.later hb)
  replace BB := Lib.hid (BB.out.trans (hb.mono BB.out.size))
  replace gT := Lib.hid (gT.out.later hb)
  replace kT := Lib.hid (kT.out.later hb)
  clear hc12 hb
  have hcA := to_state s _ w.heap.size w12 (HR.out.later BB.out (Nat.le_refl _)) BB.out.size Hs.out
  have fP0 := cell_of_row w12 _ 0 _ _ _ KP.out
  have fP1 := cell_of_row w12 _ 1 _ _ _ KP.out
  simp only [List.getElem?_toArray, List.getElem?_cons_zero, List.getElem?_cons_succ] at fP0 fP1
  go_wp2_with (go_at_call 15; refine hcA.mono ?_; rintro e wha ⟨vs, rfl, hoA, hbA⟩; refine Hid.out ?_)
  refine Lib.hid ?_
  clear fP0 fP1
  replace KP := Lib.hid ((hbA.block _ LP.out).trans KP.out)
  replace LP := Lib.hid (Nat.lt_of_lt_of_le LP.out hbA.size)
  replace KW := Lib.hid ((hbA.block _ LW.out).trans KW.out)
  replace LW := Lib.hid (Nat.lt_of_lt_of_le LW.out hbA.size)
  replace KX := Lib.hid ((hbA.block _ LX.out).trans KX.out)
  replace LX := Lib.hid (Nat.lt_of_lt_of_le LX.out hbA.size)
  replace KG := Lib.hid ((hbA.block _ LG.out).trans KG.out)
  replace LG := Lib.hid (Nat.lt_of_lt_of_le LG.out hbA.size)
  replace GW := Lib.hid (GW.out.later hbA)
  replace TW := Lib.hid (TW.out.later hbA)
  replace GG := Lib.hid (GG.out.later hbA)
  replace TG := Lib.hid (TG.out.later hbA)
  replace BB := Lib.hid (BB.out.trans (hbA.mono BB.out.size))
  replace gT := Lib.hid (gT.out.later hbA)
  replace kT := Lib.hid (kT.out.later hbA)
  have SA : Hid (StV wha wha.heap.size vs s) := Lib.hid (hoA.st Hs.out.lens.1 Hs.out.lens.2)
  have s1 : Hid (w12.heap.size ≤ wha.heap.size) := Lib.hid hbA.size
  clear hcA hoA hbA
  have hcB := to_ops xs _ w.heap.size wha (HRL.out.later BB.out (Nat.le_refl _)) BB.out.size HL.out
  go_wp2_with (go_at_call 22; refine hcB.mono ?_; rintro e whb ⟨_, rfl, hoB, ⟨goB, rfl⟩, hbB⟩; refine Hid.out ?_)
  refine Lib.hid ?_
  replace KP := Lib.hid ((hbB.block _ LP.out).trans KP.out)
  replace LP := Lib.hid (Nat.lt_of_lt_of_le LP.out hbB.size)
  replace KW := Lib.hid ((hbB.block _ LW.out).trans KW.out)
  replace LW := Lib.hid (Nat.lt_of_lt_of_le LW.out hbB.size)
  replace KX := Lib.hid ((hbB.block _ LX.out).trans KX.out)
  replace LX := Lib.hid (Nat.lt_of_lt_of_le LX.out hbB.size)
  replace KG := Lib.hid ((hbB.block _ LG.out).trans KG.out)
  replace LG := Lib.hid (Nat.lt_of_lt_of_le LG.out hbB.size)
  replace GW := Lib.hid (GW.out.later hbB)
  replace TW := Lib.hid (TW.out.later hbB)
  replace GG := Lib.hid (GG.out.later hbB)
  replace TG := Lib.hid (TG.out.later hbB)
  replace BB := Lib.hid (BB.out.trans (hbB.mono BB.out.size))
  replace SA := Lib.hid (SA.out.later hbB hbB.size)
  replace gT := Lib.hid (gT.out.later hbB)
  replace kT := Lib.hid (kT.out.later hbB)
  have OA : Hid (Raw whb whb.heap.size (.slice (some ⟨goB, 0, none⟩) xs.length xs.length) xs.length (xs.flatMap rqC)) := Lib.hid (raw_of_row (row_of_owns hoB (by have := HL.out; unfold maxLen; omega)))
  have sh : Hid (w12.heap.size ≤ whb.heap.size) := Lib.hid (Nat.le_trans s1.out hbB.size)
  clear hcB hoB hbB s1
  have hc := impl_applyAll s _ _ xs whb.heap.size whb SA.out OA.out (Nat.le_refl _) Hkeep.out HF.out HL.out (HE.out.on BB.out)
  rw [← Hr.out, ← Hrs.out] at hc
  go_wp2_with (go_at_call 8; refine hc.mono ?_; rintro e whc ⟨vh, hvr, nbh, rfl, hho, hbC⟩; refine Hid.out ?_)
  refine Lib.hid ?_
  clear SA OA
  replace KP := Lib.hid ((hbC.block _ LP.out).trans KP.out)
  replace LP := Lib.hid (Nat.lt_of_lt_of_le LP.out hbC.size)
  replace KW := Lib.hid ((hbC.block _ LW.out).trans KW.out)
  replace LW := Lib.hid (Nat.lt_of_lt_of_le LW.out hbC.size)
  replace KX := Lib.hid ((hbC.block _ LX.out).trans KX.out)
  replace LX := Lib.hid (Nat.lt_of_lt_of_le LX.out hbC.size)
  replace KG := Lib.hid ((hbC.block _ LG.out).trans KG.out)
  replace LG := Lib.hid (Nat.lt_of_lt_of_le LG.out hbC.size)
  replace GW := Lib.hid (GW.out.later hbC)
  replace TW := Lib.hid (TW.out.later hbC)
  replace GG := Lib.hid (GG.out.later hbC)
  replace TG := Lib.hid (TG.out.later hbC)
  replace BB := Lib.hid (BB.out.trans (hbC.mono BB.out.size))
  replace gT := Lib.hid (gT.out.later hbC)
  replace kT := Lib.hid (kT.out.later hbC)
  have th : Hid (whb.heap.size ≤ whc.heap.size) := Lib.hid hbC.size
  clear hc hbC
  obtain ⟨⟨_, _, hgi, hci, hgt, hct, rfl, hhne, ⟨hai, rfl, hsai⟩, ⟨hat, rfl, hsat⟩, hgW, htW, _, _, hna, hnb⟩, _, htx⟩ := hho
  have hG := Lib.hid hgW
  have hH := Lib.hid htW
  have hT : Hid (Texts whc whb.heap.size hvr rs) := Lib.hid htx
  have hSI : Hid (NilOr hai hgi r.items.length hci) := Lib.hid hsai
  have hST : Hid (NilOr hat hgt r.talks.length hct) := Lib.hid hsat
  have BhT : Hid (∀ k, hvr.ownBlock = some k → whb.heap.size ≤ k ∧ k < whc.heap.size) := Lib.hid (World.ownsRow.lt hT.out)
  have Mh : Hid (hgi < whc.heap.size ∧ hgt < whc.heap.size ∧ whb.heap.size ≤ hgi ∧ whb.heap.size ≤ hgt ∧ hgi ≠ hgt) := Lib.hid ⟨hG.out.2.2.2.2.1, hH.out.2.2.2.2.1, hG.out.2.2.2.1, hH.out.2.2.2.1, hhne⟩
  have hNA := Lib.hid (And.intro hna hnb)
  clear hna hnb
  clear hgW htW hhne htx hsai hsat
  obtain ⟨Xh, hXh⟩ : ∃ x, x = whc.alloc (.cells #[.slice hai r.items.length hci, .slice hat r.talks.length hct] 27) := ⟨_, rfl⟩
  have bXh : Below whc.heap.size whc Xh := by rw [hXh]; exact (Below.refl _ _).alloc (Nat.le_refl _) _
  have sXh : Hid (Xh.heap.size = whc.heap.size + 1) := Lib.hid (by rw [hXh]; simp)
  replace KP := Lib.hid ((bXh.block _ LP.out).trans KP.out)
  replace LP := Lib.hid (Nat.lt_of_lt_of_le LP.out bXh.size)
  replace KW := Lib.hid ((bXh.block _ LW.out).trans KW.out)
  replace LW := Lib.hid (Nat.lt_of_lt_of_le LW.out bXh.size)
  replace KX := Lib.hid ((bXh.block _ LX.out).trans KX.out)
  replace LX := Lib.hid (Nat.lt_of_lt_of_le LX.out bXh.size)
  replace KG := Lib.hid ((bXh.block _ LG.out).trans KG.out)
  replace LG := Lib.hid (Nat.lt_of_lt_of_le LG.out bXh.size)
  replace GW := Lib.hid (GW.out.later bXh)
  replace TW := Lib.hid (TW.out.later bXh)
  replace GG := Lib.hid (GG.out.later bXh)
  replace TG := Lib.hid (TG.out.later bXh)
  replace hG := Lib.hid (hG.out.later bXh)
  replace hH := Lib.hid (hH.out.later bXh)
  replace BB := Lib.hid (BB.out.trans (bXh.mono BB.out.size))
  replace gT := Lib.hid (gT.out.later bXh)
  replace kT := Lib.hid (kT.out.later bXh)
  replace hT := Lib.hid (hT.out.later bXh)
  have Kh : Hid (Xh.heap[whc.heap.size]? = some (.cells #[.slice hai r.items.length hci, .slice hat r.talks.length hct] 27 (0, 0))) := Lib.hid (by rw [hXh]; exact heap_new _ _)
  have Lh : Hid (whc.heap.size < Xh.heap.size) := Lib.hid (by have := sXh.out; omega)
  clear bXh
  have Nh : Hid (whc.heap.size < Xh.heap.size) := Lh
  have fh0 := cell_of_row Xh _ 0 _ _ _ Kh.out
  have fh1 := cell_of_row Xh _ 1 _ _ _ Kh.out
  simp only [List.getElem?_toArray, List.getElem?_cons_zero, List.getElem?_cons_succ] at fh0 fh1
  have fW0 := cell_of_row Xh _ 0 _ _ _ KW.out
  have fW1 := cell_of_row Xh _ 1 _ _ _ KW.out
  simp only [List.getElem?_toArray, List.getElem?_cons_zero, List.getElem?_cons_succ] at fW0 fW1
  rw [hXh] at fh0 fh1 fW0 fW1
  go_wp2_with fail
  rw [← hXh]
  clear fh0 fh1 fW0 fW1
  clear hXh
  have KH := Kh
  have LH := Lh
  clear Kh Lh Nh Mh sh th
  have hc15 := eq_state r _ _ Xh.heap.size Xh (rd_parts hSI.out hST.out hG.out hH.out) (rd_parts gSI.out gST.out GW.out TW.out) (Nat.le_refl _)
  have fH0 := cell_of_row Xh _ 0 _ _ _ KH.out
  have fH1 := cell_of_row Xh _ 1 _ _ _ KH.out
  simp only [List.getElem?_toArray, List.getElem?_cons_zero, List.getElem?_cons_succ] at fH0 fH1
  have fW0 := cell_of_row Xh _ 0 _ _ _ KW.out
  have fW1 := cell_of_row Xh _ 1 _ _ _ KW.out
  simp only [List.getElem?_toArray, List.getElem?_cons_zero, List.getElem?_cons_succ] at fW0 fW1
  go_wp2_with (go_at_call 18; refine hc15.mono ?_; rintro e w15a ⟨rfl, hb⟩; refine Hid.out ?_)
  refine Lib.hid ?_
  clear fH0 fH1 fW0 fW1
  replace KP := Lib.hid ((hb.block _ LP.out).trans KP.out)
  replace LP := Lib.hid (Nat.lt_of_lt_of_le LP.out hb.size)
  replace KW := Lib.hid ((hb.block _ LW.out).trans KW.out)
  replace LW := Lib.hid (Nat.lt_of_lt_of_le LW.out hb.size)
  replace KX := Lib.hid ((hb.block _ LX.out).trans KX.out)
  replace LX := Lib.hid (Nat.lt_of_lt_of_le LX.out hb.size)
  replace KG := Lib.hid ((hb.block _ LG.out).trans KG.out)
  replace LG := Lib.hid (Nat.lt_of_lt_of_le LG.out hb.size)
  replace KH := Lib.hid ((hb.block _ LH.out).trans KH.out)
  replace LH := Lib.hid (Nat.lt_of_lt_of_le LH.out hb.size)
  replace GW := Lib.hid (GW.out.later hb)
  replace TW := Lib.hid (TW.out.later hb)
  replace GG := Lib.hid (GG.out.later hb)
  replace TG := Lib.hid (TG.out.later hb)
  replace hG := Lib.hid (hG.out.later hb)
  replace hH := Lib.hid (hH.out.later hb)
  replace BB := Lib.hid (BB.out.trans (hb.mono BB.out.size))
  replace gT := Lib.hid (gT.out.later hb)
  replace kT := Lib.hid (kT.out.later hb)
  replace hT := Lib.hid (hT.out.later hb)
  clear hc15 hb
  have hc15 := eq_texts _ _ _ _ rs w15a hT.out gT.out
  go_wp2_with (go_at_call 23; refine hc15.mono ?_; rintro e w15 ⟨rfl, hb⟩; refine Hid.out ?_)
  refine Lib.hid ?_
  replace KP := Lib.hid ((hb.block _ LP.out).trans KP.out)
  replace LP := Lib.hid (Nat.lt_of_lt_of_le LP.out hb.size)
  replace KW := Lib.hid ((hb.block _ LW.out).trans KW.out)
  replace LW := Lib.hid (Nat.lt_of_lt_of_le LW.out hb.size)
  replace KX := Lib.hid ((hb.block _ LX.out).trans KX.out)
  replace LX := Lib.hid (Nat.lt_of_lt_of_le LX.out hb.size)
  replace KG := Lib.hid ((hb.block _ LG.out).trans KG.out)
  replace LG := Lib.hid (Nat.lt_of_lt_of_le LG.out hb.size)
  replace KH := Lib.hid ((hb.block _ LH.out).trans KH.out)
  replace LH := Lib.hid (Nat.lt_of_lt_of_le LH.out hb.size)
  replace GW := Lib.hid (GW.out.later hb)
  replace TW := Lib.hid (TW.out.later hb)
  replace GG := Lib.hid (GG.out.later hb)
  replace TG := Lib.hid (TG.out.later hb)
  replace hG := Lib.hid (hG.out.later hb)
  replace hH := Lib.hid (hH.out.later hb)
  replace BB := Lib.hid (BB.out.trans (hb.mono BB.out.size))
  replace gT := Lib.hid (gT.out.later hb)
  replace kT := Lib.hid (kT.out.later hb)
  replace hT := Lib.hid (hT.out.later hb)
  clear hc15 hb
  have hc16 := held_stateN r.items.length r.talks.length 1 kgi kci kgt kct w5.heap.size kai kat w15 (by omega) (by have := HmR.out; omega) kSI.out kST.out GG.out TG.out
  rw [← HmR.out] at hc16
  have fG0 := cell_of_row w15 _ 0 _ _ _ KG.out
  have fG1 := cell_of_row w15 _ 1 _ _ _ KG.out
  simp only [List.getElem?_toArray, List.getElem?_cons_zero, List.getElem?_cons_succ] at fG0 fG1
  go_wp2_with (go_at_call 20; refine hc16.mono ?_; rintro e w16a ⟨rfl, hb⟩; refine Hid.out ?_)
  refine Lib.hid ?_
  clear fG0 fG1
  replace KP := Lib.hid ((hb.block _ LP.out).trans KP.out)
  replace LP := Lib.hid (Nat.lt_of_lt_of_le LP.out hb.size)
  replace KW := Lib.hid ((hb.block _ LW.out).trans KW.out)
  replace LW := Lib.hid (Nat.lt_of_lt_of_le LW.out hb.size)
  replace KX := Lib.hid ((hb.block _ LX.out).trans KX.out)
  replace LX := Lib.hid (Nat.lt_of_lt_of_le LX.out hb.size)
  replace KG := Lib.hid ((hb.block _ LG.out).trans KG.out)
  replace LG := Lib.hid (Nat.lt_of_lt_of_le LG.out hb.size)
  replace KH := Lib.hid ((hb.block _ LH.out).trans KH.out)
  replace LH := Lib.hid (Nat.lt_of_lt_of_le LH.out hb.size)
  replace GW := Lib.hid (GW.out.later hb)
  replace TW := Lib.hid (TW.out.later hb)
  replace GG := Lib.hid (GG.out.later hb)
  replace TG := Lib.hid (TG.out.later hb)
  replace hG := Lib.hid (hG.out.later hb)
  replace hH := Lib.hid (hH.out.later hb)
  replace BB := Lib.hid (BB.out.trans (hb.mono BB.out.size))
  replace gT := Lib.hid (gT.out.later hb)
  replace kT := Lib.hid (kT.out.later hb)
  replace hT := Lib.hid (hT.out.later hb)
  clear hc16 hb
  have hc16 := held_row _ _ rs.length mr hmr1 (by have := HL.out; have := Hrl.out; omega) w16a kT.out
  rw [← HmM.out] at hc16
  go_wp2_with (go_at_call 27; refine hc16.mono ?_; rintro e w16 ⟨rfl, hb⟩; refine Hid.out ?_)
  refine Lib.hid ?_
  replace KP := Lib.hid ((hb.block _ LP.out).trans KP.out)
  replace LP := Lib.hid (Nat.lt_of_lt_of_le LP.out hb.size)
  replace KW := Lib.hid ((hb.block _ LW.out).trans KW.out)
  replace LW := Lib.hid (Nat.lt_of_lt_of_le LW.out hb.size)
  replace KX := Lib.hid ((hb.block _ LX.out).trans KX.out)
  replace LX := Lib.hid (Nat.lt_of_lt_of_le LX.out hb.size)
  replace KG := Lib.hid ((hb.block _ LG.out).trans KG.out)
  replace LG := Lib.hid (Nat.lt_of_lt_of_le LG.out hb.size)
  replace KH := Lib.hid ((hb.block _ LH.out).trans KH.out)
  replace LH := Lib.hid (Nat.lt_of_lt_of_le LH.out hb.size)
  replace GW := Lib.hid (GW.out.later hb)
  replace TW := Lib.hid (TW.out.later hb)
  replace GG := Lib.hid (GG.out.later hb)
  replace TG := Lib.hid (TG.out.later hb)
  replace hG := Lib.hid (hG.out.later hb)
  replace hH := Lib.hid (hH.out.later hb)
  replace BB := Lib.hid (BB.out.trans (hb.mono BB.out.size))
  replace gT := Lib.hid (gT.out.later hb)
  replace kT := Lib.hid (kT.out.later hb)
  replace hT := Lib.hid (hT.out.later hb)
  clear hc16 hb
  go_wp2_with fail
  go_ret
  exact ⟨rfl, BB.out⟩
end Go.Proofs.YtclcaflkopnbpaaGreatDoor
