/- What spec.Merge answers. Condition: what the arguments may be. -/
import Derived.Test.YtebmaplflpfjbaaBaseA
import Derived.Test.YtebmaplflpfjbaaSpecAdd
namespace Go.Proofs.Ytebmaplflpfjbaa
open Go.RowKit
set_option linter.unusedVariables false
set_option linter.unusedSimpArgs false

theorem SoR.then {w : World} {base base' : Nat} {v0 v1 v : Value} {s0 s1 s : St} (h : SoR w base v0 s0 v1 s1) (h2 : SoR w base' v1 s1 v s) (hb : base ≤ base') : SoR w base v0 s0 v s := by
  rcases h2 with ⟨rfl, rfl⟩ | h2
  · exact h
  · exact .inr (h2.base hb)
theorem stv_nil (w : World) (B : Nat) : StV w B (.agg #[.slice none 0 0, .slice none 0 0]) ⟨[], []⟩ := ⟨_, _, rfl, ⟨rfl, .inl ⟨rfl, rfl⟩⟩, ⟨rfl, .inl ⟨rfl, rfl⟩⟩⟩
theorem stv_empty (w : World) (B g h : Nat) : StV w B (.agg #[.slice (some ⟨g, 0, none⟩) 0 0, .slice (some ⟨h, 0, none⟩) 0 0]) ⟨[], []⟩ :=
  ⟨_, _, rfl, ⟨rfl, .inr ⟨g, 0, 0, rfl, Nat.le_refl _, Nat.zero_le _, .inl rfl, At.nil _ _ _⟩⟩, ⟨rfl, .inr ⟨h, 0, 0, rfl, Nat.le_refl _, Nat.zero_le _, .inl rfl, At.nil _ _ _⟩⟩⟩

set_option maxRecDepth 100000 in
set_option maxHeartbeats 16000000 in
theorem spec_merge (qs : List Sq) (v : Value) (B : Nat) (w : World) (hr : StL w B v qs) (hB : B ≤ w.heap.size) (hlen : qs.length ≤ 1048576) (hf : ∀ q ∈ qs, Fits q.s) :
    Calls Try.prog 25 #[v] w fun e w' => ∃ v', e = .returned (.tuple #[v', .bool (mergeS (qs.map Sq.s)).isSome]) ∧ StV w' w'.heap.size v' ((mergeS (qs.map Sq.s)).getD ⟨[], []⟩) ∧ Below w.heap.size w w' := by
  obtain ⟨⟨a, cap, rfl, hn, hcap, _, hat⟩, hst⟩ := hr
  obtain ⟨n, hN⟩ : ∃ n, n = qs.length := ⟨_, rfl⟩
  rw [← hN] at hn hat hlen ⊢
  have HN := Lib.hid hN
  have Hat := Lib.hid hat
  have Hst := Lib.hid hst
  have Hf := Lib.hid hf
  unfold maxLen at hcap
  obtain ⟨L, hL⟩ : ∃ L, L = qs.map Sq.s := ⟨_, rfl⟩
  rw [← hL, ← spM_merge]
  have HL := Lib.hid hL
  have HLn : Hid (L.length = n) := Lib.hid (by rw [hL, hN]; simp)
  clear hN hat hst hf hL
  obtain ⟨W1, hW1⟩ : ∃ W, W = w.alloc (.cells #[.slice none 0 0, .slice none 0 0] 31) := ⟨_, rfl⟩
  obtain ⟨W2, hW2⟩ : ∃ W, W = W1.alloc (.cells #[] 74) := ⟨_, rfl⟩
  obtain ⟨W3, hW3⟩ : ∃ W, W = W2.alloc (.cells #[] 45) := ⟨_, rfl⟩
  obtain ⟨W, hW⟩ : ∃ W, W = W3.alloc (.cells #[.slice (some ⟨w.heap.size + 1, 0, none⟩) 0 0, .slice (some ⟨w.heap.size + 1 + 1, 0, none⟩) 0 0] 31) := ⟨_, rfl⟩
  have b1 : Below w.heap.size w W1 := by rw [hW1]; exact (Below.refl _ _).alloc (Nat.le_refl _) _
  have b2 : Below W1.heap.size W1 W2 := by rw [hW2]; exact (Below.refl _ _).alloc (Nat.le_refl _) _
  have b3 : Below W2.heap.size W2 W3 := by rw [hW3]; exact (Below.refl _ _).alloc (Nat.le_refl _) _
  have b4 : Below W3.heap.size W3 W := by rw [hW]; exact (Below.refl _ _).alloc (Nat.le_refl _) _
  have s1 : W1.heap.size = w.heap.size + 1 := by rw [hW1]; simp
  have s2 : W2.heap.size = w.heap.size + 1 + 1 := by rw [hW2]; simp [s1]
  have s3 : W3.heap.size = w.heap.size + 1 + 1 + 1 := by rw [hW3]; simp [s2]
  have s4 : W.heap.size = w.heap.size + 1 + 1 + 1 + 1 := by rw [hW]; simp [s3]
  have KR : Hid (W.heap[w.heap.size]? = some (.cells #[.slice none 0 0, .slice none 0 0] 31 (0, 0))) := tkb b4 (Lib.hid (by omega)) (tkb b3 (Lib.hid (by omega)) (tkb b2 (Lib.hid (by omega)) (Lib.hid (by rw [hW1]; exact heap_new _ _))))
  have KO : Hid (W.heap[w.heap.size + 1 + 1 + 1]? = some (.cells #[.slice (some ⟨w.heap.size + 1, 0, none⟩) 0 0, .slice (some ⟨w.heap.size + 1 + 1, 0, none⟩) 0 0] 31 (0, 0))) := Lib.hid (by rw [hW, ← s3]; exact heap_new _ _)
  have BB : Hid (Below w.heap.size w W) := Lib.hid (b1.trans ((b2.trans ((b3.trans (b4.mono b3.size)).mono b2.size)).mono b1.size))
  have LP : Hid (w.heap.size + 1 + 1 + 1 < W.heap.size) := Lib.hid (by omega)
  clear b1 b2 b3 b4 s1 s2 s3 s4
  subst hW
  subst hW3
  subst hW2
  subst hW1
  go_enter Try.func25, Try.ntmps25
  go_wp2_with fail
  go_loopw [5] (fun i wr => ∃ (k : Nat) (a0' : Option Addr) (n0' c0' : Nat) (a1' : Option Addr) (n1' c1' : Nat) (s' : St), k ≤ n ∧ i = .int .i64 k ∧ Hid (wr.heap[w.heap.size + 1 + 1 + 1]? = some (.cells #[.slice a0' n0' c0', .slice a1' n1' c1'] 31 (0, 0))) ∧ Hid (wr.heap[w.heap.size]? = some (.cells #[.slice none 0 0, .slice none 0 0] 31 (0, 0))) ∧ Hid (SoR wr (w.heap.size + 1 + 1 + 1 + 1) (.agg #[.slice (some ⟨w.heap.size + 1, 0, none⟩) 0 0, .slice (some ⟨w.heap.size + 1 + 1, 0, none⟩) 0 0]) ⟨[], []⟩ (.agg #[.slice a0' n0' c0', .slice a1' n1' c1']) s') ∧ Hid (stOk s' = true) ∧ Hid (spM ⟨[], []⟩ L = spM s' (L.drop k)) ∧ Hid (Below w.heap.size w wr) ∧ Hid (w.heap.size + 1 + 1 + 1 < wr.heap.size)) (fun i _ => n - (intOf i).toNat)
  case atStart => exact ⟨0, _, _, _, _, _, _, ⟨[], []⟩, Nat.zero_le _, rfl, KO, KR, Lib.hid (.inl ⟨rfl, rfl⟩), Lib.hid rfl, Lib.hid (by rw [List.drop_zero]), BB, LP⟩
  case round =>
    clear KO KR BB LP
    obtain ⟨k, a0', n0', c0', a1', n1', c1', s', hk, rfl, KO, KR, SO, HO', HT, BB, LP⟩ := hrel
    by_cases hlt : k < n
    · obtain ⟨g, o, ha, hg, hAt⟩ := Hat.out (by omega)
      subst ha
      have hkl : k < qs.length := by have := HN.out; omega
      obtain ⟨x, hx⟩ : ∃ x, x = qs[k] := ⟨_, rfl⟩
      have hxm : x ∈ qs := by rw [hx]; exact List.getElem_mem _
      have hgw : g < w.heap.size := by omega
      have hc := hAt.sq k hkl
      rw [← hx] at hc
      obtain ⟨vi, vt, hv, r1, r2⟩ := (Hst.out x hxm).rd
      obtain ⟨hvi, hvt⟩ : x.vi = vi ∧ x.vt = vt := by unfold Sq.v at hv; simpa using hv
      have SX : Hid (StV w B (.agg #[vi, vt]) x.s) := Lib.hid (by rw [← hv]; exact Hst.out x hxm)
      rw [hvi, hvt] at hc
      obtain ⟨ai, ci, rfl, _⟩ := r1
      obtain ⟨at_, ct, rfl, _⟩ := r2
      obtain ⟨xs, hxs⟩ : ∃ z, z = x.s := ⟨_, rfl⟩
      rw [← hxs] at hc SX
      have Hfx : Hid (Fits xs) := Lib.hid (by rw [hxs]; exact Hf.out x hxm)
      have Hdrop : Hid (L.drop k = xs :: L.drop (k + 1)) := Lib.hid (by rw [HL.out, List.drop_eq_getElem_cons (by simpa using hkl)]; simp [hx, hxs])
      have FI : Hid (∀ w', Below w.heap.size w w' → w'.cell? ⟨g, o + k * 2, none⟩ = some (.slice ai xs.items.length ci) ∧ w'.cell? ⟨g, o + k * 2 + 1, none⟩ = some (.slice at_ xs.talks.length ct)) := Lib.hid (fun w' h => by rw [h.cell hgw, h.cell hgw]; exact hc)
      have hlt' : (k : Int) < (n : Int) := by omega
      clear hx hxm hAt hv hvi hvt hc hgw hkl hxs
      have FO : Hid (∀ w', Below wr.heap.size wr w' → w'.cell? ⟨w.heap.size + 1 + 1 + 1, 0, none⟩ = some (.slice a0' n0' c0') ∧ w'.cell? ⟨w.heap.size + 1 + 1 + 1, 1, none⟩ = some (.slice a1' n1' c1')) := Lib.hid (fun w' h => by have l0 := LP.out; have K := tkb h (Lib.hid (by omega)) KO; exact ⟨tcr K 0, tcr K 1⟩)
      have FJ : Hid (∀ w', Below wr.heap.size wr w' → Below w.heap.size w w') := Lib.hid (fun w' h => BB.out.trans (h.mono BB.out.size))
      have HSV : Hid (StV wr wr.heap.size (.agg #[.slice a0' n0' c0', .slice a1' n1' c1']) s') := Lib.hid (SO.out.st (stv_empty _ _ _ _))
      have LW0 := LP
      go_wp2_with fail
      obtain ⟨bq, hbq⟩ : ∃ b, b = (addO s' xs).isSome := ⟨_, rfl⟩
      have Hbq := Lib.hid hbq
      clear hbq
      go_cut [6, 7] (fun m bv wx => ∃ (mb : Nat) (b0 : Option Addr) (m0 d0 : Nat) (b1 : Option Addr) (m1 d1 : Nat) (r : St), m = .pointer (some ⟨mb, 0, none⟩) ∧ bv = .bool bq ∧ Hid (wx.heap[mb]? = some (.cells #[.slice b0 m0 d0, .slice b1 m1 d1] 31 (0, 0))) ∧ Hid (SoR wx wr.heap.size (.agg #[.slice a0' n0' c0', .slice a1' n1' c1']) s' (.agg #[.slice b0 m0 d0, .slice b1 m1 d1]) r) ∧ Hid (∀ q, addO s' xs = some q → r = q) ∧ Hid (Below wr.heap.size wr wx) ∧ Hid (wr.heap.size ≤ mb ∧ mb < wx.heap.size))
      case first =>
        refine wp_region_held_drew (S := (fun w' => Below wr.heap.size wr w')) (by kernel_rfl) (Below.refl _ _).drew (fun hHeld => ?_)
        obtain ⟨zD, hzD⟩ : ∃ z, z = wr.drew := ⟨_, rfl⟩
        rw [← hzD] at hHeld ⊢
        have BA := Lib.hid hHeld
        clear hzD
        refine tk 0 (v := ?_) ?_ ?_; rotate_left
        · refine Or.inl ⟨by rfl, ?_⟩; intro w hSw; obtain ⟨hO0, hO1⟩ := FO.out w hSw; go_simp; first | done | with_reducible rfl
        refine tk0 1 ?_
        refine tk0 2 ?_
        refine tk0 3 ?_
        refine tk 4 (v := ?_) ?_ ?_; rotate_left
        · refine Or.inl ⟨by rfl, ?_⟩; intro w hSw; obtain ⟨hI0, hI1⟩ := FI.out w (FJ.out w hSw); go_simp; first | done | with_reducible rfl
        refine rd2 5 9 (fun K hK => ?_) (fun K hK => ?_)
        · go_simp
          have hc := spec_add s' xs _ _ zD.heap.size zD (HSV.out.later BA.out BA.out.size) (SX.out.later ((FJ.out _ BA.out).mono hB) (Nat.le_trans hB (FJ.out _ BA.out).size)) (Nat.le_refl _) HO'.out Hfx.out
          rw [← Hbq.out] at hc
          go_at_call 58
          refine hc.mono ?_
          rintro e wk ⟨b0, m0, d0, b1, m1, d1, r, rfl, hso, hq, hb⟩
          have hbk := hb
          replace BA := tbt BA hb
          have G := Lib.hid hso
          have HQ := Lib.hid hq
          have AL : Hid (wr.heap.size ≤ zD.heap.size) := Lib.hid hHeld.size
          have BK : Hid (Below wk.heap.size wk wk) := Lib.hid (Below.refl _ _)
          clear hso hq
          have NE : Hid (zD.heap.size ≤ wk.heap.size) := Lib.hid hbk.size
          clear hbk
          clear hc hb
          go_wp2_with fail
          refine hK.out _ _ BA.out (fun hHeld => ?_)
          clear hK K
          refine tk0 6 ?_
          refine tk0 7 ?_
          refine tk0 8 ?_
          refine rd1 9 (fun K hK => ?_)
          go_simp
          obtain ⟨V, hV⟩ : ∃ V, V = wk.alloc (.cells #[.slice none 0 0, .slice none 0 0] 31) := ⟨_, rfl⟩
          rw [← hV]
          have bV : Below wk.heap.size wk V := by rw [hV]; exact (Below.refl _ _).alloc (Nat.le_refl _) _
          have KM : Hid (V.heap[wk.heap.size]? = some (.cells #[.slice none 0 0, .slice none 0 0] 31 (0, 0))) := Lib.hid (by rw [hV]; exact heap_new _ _)
          have LM : Hid (wk.heap.size < V.heap.size) := Lib.hid (by rw [hV]; simp)
          have AM : Hid (wr.heap.size ≤ wk.heap.size) := Lib.hid BA.out.size
          replace BA := tbt BA bV
          clear hV
          replace BK := Lib.hid (BK.out.trans bV)
          clear bV
          go_wp2_with fail
          refine hK.out _ _ BA.out (fun hHeld => ?_)
          clear hK K
          have dM0 := tcr KM 0
          have dM1 := tcr KM 1
          have zM0 := tfr KM 0
          have zM1 := tfr KM 1
          refine rd1 10 (fun K hK => ?_)
          go_simp
          obtain ⟨Y, hY⟩ : ∃ Y, Y = (V.setCell ⟨wk.heap.size, 0, none⟩ (.slice b0 m0 d0)).setCell ⟨wk.heap.size, 1, none⟩ (.slice b1 m1 d1) := ⟨_, rfl⟩
          rw [← hY]
          have r0 := heap_setCell_same _ (wk.heap.size) 0 _ _ (.slice b0 m0 d0) KM.out
          have r1 := heap_setCell_same _ (wk.heap.size) 1 _ _ (.slice b1 m1 d1) r0
          rw [← hY] at r1
          simp only [List.setIfInBounds_toArray, List.set_cons_zero, List.set_cons_succ] at r1
          have R1 := Lib.hid r1
          have gY : V.grownBy Y (some (wk.heap.size)) := by rw [hY]; exact (grown_set _ ⟨wk.heap.size, 0, none⟩ _).trans (grown_set _ ⟨wk.heap.size, 1, none⟩ _)
          clear dM0 dM1 zM0 zM1 r0 r1 hY
          replace BA := Lib.hid (BA.out.grown gY BA.out.size (fun k hk => by cases hk; exact AM.out))
          have LMY : Hid (wr.heap.size ≤ wk.heap.size ∧ wk.heap.size < Y.heap.size) := Lib.hid ⟨AM.out, Nat.lt_of_lt_of_le LM.out gY.size⟩
          replace G := Lib.hid ((G.out.later (BK.out.grown gY BK.out.size (fun k hk => by cases hk; exact Nat.le_refl _))).base AL.out)
          refine hK.out _ _ BA.out (fun hHeld => ?_)
          clear hK K gY
          refine tk0 11 ?_
          refine wpAnyH_done (by kernel_rfl) ?_ _
          clear hHeld
          go_wp2_with fail
          go_meet
          exact ⟨wk.heap.size, b0, m0, d0, b1, m1, d1, r, rfl, rfl, R1, G, HQ, BA, LMY⟩
        · go_simp
          obtain ⟨V, hV⟩ : ∃ V, V = zD.alloc (.cells #[.slice none 0 0, .slice none 0 0] 31) := ⟨_, rfl⟩
          rw [← hV]
          have bV : Below zD.heap.size zD V := by rw [hV]; exact (Below.refl _ _).alloc (Nat.le_refl _) _
          have KM : Hid (V.heap[zD.heap.size]? = some (.cells #[.slice none 0 0, .slice none 0 0] 31 (0, 0))) := Lib.hid (by rw [hV]; exact heap_new _ _)
          have LM : Hid (zD.heap.size < V.heap.size) := Lib.hid (by rw [hV]; simp)
          have AM : Hid (wr.heap.size ≤ zD.heap.size) := Lib.hid BA.out.size
          replace BA := tbt BA bV
          clear hV
          clear bV
          go_wp2_with fail
          refine hK.out _ _ BA.out (fun hHeld => ?_)
          clear hK K
          have zDV := LM
          refine rd1 5 (fun K hK => ?_)
          go_simp
          have hc := spec_add s' xs _ _ V.heap.size V (HSV.out.later BA.out BA.out.size) (SX.out.later ((FJ.out _ BA.out).mono hB) (Nat.le_trans hB (FJ.out _ BA.out).size)) (Nat.le_refl _) HO'.out Hfx.out
          rw [← Hbq.out] at hc
          go_at_call 58
          refine hc.mono ?_
          rintro e wk ⟨b0, m0, d0, b1, m1, d1, r, rfl, hso, hq, hb⟩
          have hbk := hb
          replace BA := tbt BA hb
          have G := Lib.hid hso
          have HQ := Lib.hid hq
          have AL : Hid (wr.heap.size ≤ V.heap.size) := Lib.hid hHeld.size
          have BK : Hid (Below wk.heap.size wk wk) := Lib.hid (Below.refl _ _)
          clear hso hq
          replace KM := tkb hbk LM KM
          have NE : Hid (zD.heap.size < V.heap.size) := LM
          replace LM := tlz LM hbk.size
          clear hbk zDV
          clear hc hb
          go_wp2_with fail
          refine hK.out _ _ BA.out (fun hHeld => ?_)
          clear hK K
          refine tk0 6 ?_
          refine tk0 7 ?_
          refine tk0 8 ?_
          have dM0 := tcr KM 0
          have dM1 := tcr KM 1
          have zM0 := tfr KM 0
          have zM1 := tfr KM 1
          refine rd1 10 (fun K hK => ?_)
          go_simp
          obtain ⟨Y, hY⟩ : ∃ Y, Y = (wk.setCell ⟨zD.heap.size, 0, none⟩ (.slice b0 m0 d0)).setCell ⟨zD.heap.size, 1, none⟩ (.slice b1 m1 d1) := ⟨_, rfl⟩
          rw [← hY]
          have r0 := heap_setCell_same _ (zD.heap.size) 0 _ _ (.slice b0 m0 d0) KM.out
          have r1 := heap_setCell_same _ (zD.heap.size) 1 _ _ (.slice b1 m1 d1) r0
          rw [← hY] at r1
          simp only [List.setIfInBounds_toArray, List.set_cons_zero, List.set_cons_succ] at r1
          have R1 := Lib.hid r1
          have gY : wk.grownBy Y (some (zD.heap.size)) := by rw [hY]; exact (grown_set _ ⟨zD.heap.size, 0, none⟩ _).trans (grown_set _ ⟨zD.heap.size, 1, none⟩ _)
          clear dM0 dM1 zM0 zM1 r0 r1 hY
          replace BA := Lib.hid (BA.out.grown gY BA.out.size (fun k hk => by cases hk; exact AM.out))
          have LMY : Hid (wr.heap.size ≤ zD.heap.size ∧ zD.heap.size < Y.heap.size) := Lib.hid ⟨AM.out, Nat.lt_of_lt_of_le LM.out gY.size⟩
          replace G := Lib.hid ((G.out.kept gY (.inl NE.out)).base AL.out)
          refine hK.out _ _ BA.out (fun hHeld => ?_)
          clear hK K gY
          refine tk0 11 ?_
          refine wpAnyH_done (by kernel_rfl) ?_ _
          clear hHeld
          go_wp2_with fail
          go_meet
          exact ⟨zD.heap.size, b0, m0, d0, b1, m1, d1, r, rfl, rfl, R1, G, HQ, BA, LMY⟩
      case rest =>
        obtain ⟨mb, b0, m0, d0, b1, m1, d1, r, rfl, rfl, KM, G, HQ, bA, LM⟩ := hcut
        obtain ⟨w5, rfl⟩ : ∃ z, z = wc := ⟨_, rfl⟩
        have l0 := LP.out
        replace KO := tkb bA.out (Lib.hid (by omega)) KO
        replace KR := tkb bA.out (Lib.hid (by omega)) KR
        replace SO := Lib.hid (SO.out.later bA.out)
        replace BB := Lib.hid (BB.out.trans (bA.out.mono BB.out.size))
        replace LP := tlz LP bA.out.size
        clear l0
        obtain ⟨hI0, hI1⟩ := FI.out w5 BB.out
        clear FO FJ HSV FI
        cases hbq : bq
        · have Hno : Hid (spM ⟨[], []⟩ L = none) := Lib.hid (by have h := Hbq.out; rw [hbq] at h; rw [HT.out, Hdrop.out, spM_cons, Option.isSome_eq_false_iff.1 h.symm |> Option.isNone_iff_eq_none.1])
          clear hbq
          have fR0 := tcr KR 0
          have fR1 := tcr KR 1
          have zR0 := tfr KR 0
          have zR1 := tfr KR 1
          go_wp2_with fail
          obtain ⟨j0, q1, q2, q3, q4⟩ := info_parts infoSt
          refine bodyPost_ret (results_cell_row2 (P := Try.prog) rfl _ _ w.heap.size _ _ (0, 0) _ _ rfl rfl (set_cells KR.out) Try.underlying31 rfl (by rw [q1]; simp [q3])) rfl ⟨.agg #[.slice none 0 0, .slice none 0 0], by rw [Hno.out]; rfl, ?_, ?_⟩
          · rw [Hno.out]; exact stv_nil _ _
          · exact BB.out.grown (set_grown w5 w.heap.size _ _) BB.out.size (fun j e => by cases e; exact Nat.le_refl _)
        · obtain ⟨q, hq⟩ := Option.isSome_iff_exists.1 (show (addO s' xs).isSome = true by have h := Hbq.out; rw [hbq] at h; exact h.symm)
          obtain rfl := HQ.out q hq
          have Hq := Lib.hid hq
          have Hqk : Hid (stOk r = true) := Lib.hid (addO_ok HO'.out hq)
          clear hq hbq HQ
          have hc := spec_stateOk xs _ B w5 (SX.out.later (BB.out.mono hB) (Nat.le_refl _)) (Nat.le_trans hB BB.out.size) Hfx.out
          go_wp2_with (go_at_call 20; refine hc.mono ?_; rintro e w6 ⟨rfl, hb⟩; refine Hid.out ?_)
          refine Lib.hid ?_
          replace KM := tkb hb (Lib.hid LM.out.2) KM
          replace G := Lib.hid (G.out.later hb)
          replace LM : Hid (wr.heap.size ≤ mb ∧ mb < w6.heap.size) := Lib.hid ⟨LM.out.1, Nat.lt_of_lt_of_le LM.out.2 hb.size⟩
          have l0 := LP.out
          replace KO := tkb hb (Lib.hid (by omega)) KO
          replace KR := tkb hb (Lib.hid (by omega)) KR
          replace SO := Lib.hid (SO.out.later hb)
          replace BB := tbt BB hb
          replace LP := tlz LP hb.size
          clear l0
          clear hc hb hI0 hI1
          cases hok : stOk xs
          · have Hno : Hid (spM ⟨[], []⟩ L = none) := Lib.hid (by rw [HT.out, Hdrop.out, spM_cons, Hq.out]; simp only [hok]; rfl)
            clear hok
            have fR0 := tcr KR 0
            have fR1 := tcr KR 1
            have zR0 := tfr KR 0
            have zR1 := tfr KR 1
            go_wp2_with fail
            obtain ⟨j0, q1, q2, q3, q4⟩ := info_parts infoSt
            refine bodyPost_ret (results_cell_row2 (P := Try.prog) rfl _ _ w.heap.size _ _ (0, 0) _ _ rfl rfl (set_cells KR.out) Try.underlying31 rfl (by rw [q1]; simp [q3])) rfl ⟨.agg #[.slice none 0 0, .slice none 0 0], by rw [Hno.out]; rfl, ?_, ?_⟩
            · rw [Hno.out]; exact stv_nil _ _
            · exact BB.out.grown (set_grown w6 w.heap.size _ _) BB.out.size (fun j e => by cases e; exact Nat.le_refl _)
          · have HN2 : Hid (spM ⟨[], []⟩ L = spM r (L.drop (k + 1))) := Lib.hid (by rw [HT.out, Hdrop.out, spM_cons, Hq.out]; simp only [hok]; rfl)
            clear hok
            have fO0 := tcr KO 0
            have fO1 := tcr KO 1
            have fM0 := tcr KM 0
            have fM1 := tcr KM 1
            have zO0 := tfr KO 0
            have zO1 := tfr KO 1
            go_wp2_with fail
            clear fO0 fO1 fM0 fM1 zO0 zO1
            have l0 := LP.out
            have l1 := LM.out
            have l2 := LW0.out
            have gS := set_grown w6 (w.heap.size + 1 + 1 + 1) (.slice b0 m0 d0) (.slice b1 m1 d1)
            have KO2 := Lib.hid (set_cells (a' := .slice b0 m0 d0) (b' := .slice b1 m1 d1) KO.out)
            have KR2 := tkg gS (Lib.hid (by omega)) KR (fun e => by have := Option.some.inj e; omega)
            have SO2 := Lib.hid ((SO.out.then G.out (show w.heap.size + 1 + 1 + 1 + 1 ≤ wr.heap.size by omega)).kept gS (.inl (by omega)))
            have BB2 : Hid (Below w.heap.size w _) := Lib.hid (BB.out.grown gS BB.out.size (fun j e => by cases e; omega))
            have LP2 := tlz LP gS.size
            go_roundw
            case rel => exact ⟨k + 1, _, _, _, _, _, _, r, by omega, by go_num, KO2, KR2, SO2, Hqk, HN2, BB2, LP2⟩
            case measure => simp [intOf]; omega
    · have Hyes : Hid (spM ⟨[], []⟩ L = some s') := Lib.hid (by rw [HT.out, List.drop_of_length_le (by have := HLn.out; omega)]; rfl)
      have fO0 := tcr KO 0
      have fO1 := tcr KO 1
      have fR0 := tcr KR 0
      have fR1 := tcr KR 1
      have zR0 := tfr KR 0
      have zR1 := tfr KR 1
      go_wp2_with fail
      obtain ⟨j0, q1, q2, q3, q4⟩ := info_parts infoSt
      have gR := set_grown wr w.heap.size (.slice a0' n0' c0') (.slice a1' n1' c1')
      refine bodyPost_ret (results_cell_row2 (P := Try.prog) rfl _ _ w.heap.size _ _ (0, 0) _ _ rfl rfl (set_cells KR.out) Try.underlying31 rfl (by rw [q1]; simp [q3])) rfl ⟨.agg #[.slice a0' n0' c0', .slice a1' n1' c1'], by rw [Hyes.out]; rfl, ?_, ?_⟩
      · rw [Hyes.out]; exact (SO.out.kept gR (.inl (by omega))).st (stv_empty _ _ _ _)
      · exact BB.out.grown gR BB.out.size (fun j e => by cases e; exact Nat.le_refl _)
end Go.Proofs.Ytebmaplflpfjbaa
