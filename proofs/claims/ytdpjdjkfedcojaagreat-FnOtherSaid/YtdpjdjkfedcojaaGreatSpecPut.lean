/- What spec.PutItem and spec.PutTalk answer. Condition: rows that can be read, of a bulk that a row may have. -/
import Derived.Test.YtdpjdjkfedcojaaGreatBaseA
import Derived.Test.YtdpjdjkfedcojaaGreatPutFlat
import Derived.Test.YtdpjdjkfedcojaaGreatPutPlain
import Derived.Deep.DeepCutAuto
import Derived.Deep.CutBlock
namespace Go.Proofs.YtdpjdjkfedcojaaGreat
open Go.RowKit List
set_option linter.unusedVariables false
set_option linter.unusedSimpArgs false

set_option maxRecDepth 100000 in
set_option maxHeartbeats 8000000 in
theorem spec_putItem (s : St) (vt : Value) (x : It) (n g o cap B : Nat) (w : World) (hn : n = s.items.length) (hfew : n ≤ 1099511627776) (hs : StV w B (.agg #[.slice (some ⟨g, o, none⟩) n cap, vt]) s) (hB : B ≤ w.heap.size) (hf : Few s) (hts : Fits s) (hx : FitIt x) :
    Calls Tryz.prog 91 #[.agg #[.slice (some ⟨g, o, none⟩) n cap, vt], itA x] w fun e w' => ∃ v', e = .returned (.tuple #[v', .bool (chgB s (putSI s x))]) ∧ OwnC w' w.heap.size v' (chg s (putSI s x)) ∧ Below w.heap.size w w' := by
  have HN := Lib.hid hn
  have HRaw0 : Hid (Raw w B (.slice (some ⟨g, o, none⟩) n cap) n (s.items.flatMap itC)) := Lib.hid (by
    obtain ⟨_, _, hv, h1, h2⟩ := hs
    cases hv
    have h := raw_of_row h1
    rw [← hn] at h
    exact h)
  have HRaw : Hid (0 < n → ∃ g' o', (some ⟨g, o, none⟩ : Option Addr) = some ⟨g', o', none⟩ ∧ g' < B ∧ At w g' o' (s.items.flatMap itC)) := Lib.hid (by
    obtain ⟨_, _, hv, _, _, _, h4⟩ := HRaw0.out
    cases hv
    exact h4)
  have hcap : n ≤ cap ∧ cap ≤ 9223372036854775807 := by
    obtain ⟨_, _, hv, h1, h2, _⟩ := HRaw0.out
    cases hv
    exact ⟨h1, h2⟩
  obtain ⟨hnc, hcap⟩ := hcap
  clear hn
  have HS := Lib.hid hs
  unfold itA
  obtain ⟨r, hr⟩ : ∃ r, r = putSI s x := ⟨_, rfl⟩
  have Hr := Lib.hid hr
  rw [← hr]
  obtain ⟨W, hW⟩ : ∃ W, W = ((w.alloc (.cells #[.slice (some ⟨g, o, none⟩) n cap, vt] 27)).alloc (.cells #[.string x.k, .string x.v] 45)).alloc (.cells #[.slice none 0 0, .slice none 0 0] 27) := ⟨_, rfl⟩
  have hbW : Below w.heap.size w W := by rw [hW]; exact (((Below.refl _ _).alloc (Nat.le_refl _) _).alloc (by simp) _).alloc (by simp; omega) _
  have hWs : W.heap.size = w.heap.size + 3 := by rw [hW]; simp
  have KS : Hid (W.heap[w.heap.size]? = some (.cells #[.slice (some ⟨g, o, none⟩) n cap, vt] 27 (0, 0))) := Lib.hid (by rw [hW, Below.heap_alloc _ _ _ (by simp; omega), Below.heap_alloc _ _ _ (by simp)]; exact heap_new _ _)
  have KX : Hid (W.heap[w.heap.size + 1]? = some (.cells #[.string x.k, .string x.v] 45 (0, 0))) := Lib.hid (by rw [hW, Below.heap_alloc _ _ _ (by simp)]; simpa using heap_new (w.alloc (.cells #[.slice (some ⟨g, o, none⟩) n cap, vt] 27)) (.cells #[.string x.k, .string x.v] 45))
  have KR : Hid (W.heap[w.heap.size + 1 + 1]? = some (.cells #[.slice none 0 0, .slice none 0 0] 27 (0, 0))) := Lib.hid (by rw [hW]; simpa using heap_new ((w.alloc (.cells #[.slice (some ⟨g, o, none⟩) n cap, vt] 27)).alloc (.cells #[.string x.k, .string x.v] 45)) (.cells #[.slice none 0 0, .slice none 0 0] 27))
  have LS : Hid (w.heap.size < W.heap.size) := Lib.hid (by omega)
  have LX : Hid (w.heap.size + 1 < W.heap.size) := Lib.hid (by omega)
  have LR : Hid (w.heap.size + 1 + 1 < W.heap.size) := Lib.hid (by omega)
  have BB := Lib.hid hbW
  have HWs := Lib.hid hWs
  have Hf := Lib.hid hf
  have Hts := Lib.hid hts
  have Htr : Hid (Fits r) := Lib.hid (by
    rw [hr]
    exact fits_putSI hts hx)
  clear hbW hWs hf hts hr hs
  have fS0 := tcr KS 0
  have fS1 := tcr KS 1
  have hc0 := spec_copy s _ B W (HS.out.rd.later (BB.out.mono hB) (Nat.le_refl _)) (Nat.le_trans hB BB.out.size) Hf.out
  rw [hW] at hc0 fS0 fS1
  go_enter Tryz.func91, Tryz.ntmps91
  go_wp2_with (go_at_call 113; refine hc0.mono ?_; rintro e w1 ⟨v1, rfl, ho1, hb1⟩; refine Hid.out ?_)
  refine Lib.hid ?_
  rw [← hW] at ho1 hb1
  obtain ⟨gi, ci, gt, ct, rfl, hne, gotI, gotT⟩ := ho1
  clear fS0 fS1
  replace KS := tkb hb1 LS KS
  replace LS := tlz LS hb1.size
  replace KX := tkb hb1 LX KX
  replace LX := tlz LX hb1.size
  replace KR := tkb hb1 LR KR
  replace LR := tlz LR hb1.size
  replace BB := tbt BB hb1
  have GI := Lib.hid gotI
  have GT := Lib.hid gotT
  clear gotI gotT hb1 hc0 hW
  have N1 : Hid (gi < w1.heap.size ∧ gt < w1.heap.size ∧ W.heap.size ≤ gi ∧ W.heap.size ≤ gt) := Lib.hid ⟨GI.out.2.2.2.2.1, GT.out.2.2.2.2.1, GI.out.2.2.2.1, GT.out.2.2.2.1⟩
  obtain ⟨X1, hX1⟩ : ∃ x, x = w1.alloc (.cells #[.slice (some ⟨gi, 0, none⟩) s.items.length ci, .slice (some ⟨gt, 0, none⟩) s.talks.length ct] 27) := ⟨_, rfl⟩
  have bX1 : Below w1.heap.size w1 X1 := by rw [hX1]; exact (Below.refl _ _).alloc (Nat.le_refl _) _
  have sX1 : Hid (X1.heap.size = w1.heap.size + 1) := Lib.hid (by rw [hX1]; simp)
  replace KS := tkb bX1 LS KS
  replace LS := tlz LS bX1.size
  replace KX := tkb bX1 LX KX
  replace LX := tlz LX bX1.size
  replace KR := tkb bX1 LR KR
  replace LR := tlz LR bX1.size
  replace GI := Lib.hid (GI.out.later bX1)
  replace GT := Lib.hid (GT.out.later bX1)
  replace BB := tbt BB bX1
  have KO : Hid (X1.heap[w1.heap.size]? = some (.cells #[.slice (some ⟨gi, 0, none⟩) s.items.length ci, .slice (some ⟨gt, 0, none⟩) s.talks.length ct] 27 (0, 0))) := Lib.hid (by rw [hX1]; exact heap_new _ _)
  have LO : Hid (w1.heap.size < X1.heap.size) := Lib.hid (by have := sX1.out; omega)
  clear bX1
  have N2 : Hid (W.heap.size ≤ w1.heap.size) := Lib.hid (by have := N1.out; omega)
  have fS0 := tcr KS 0
  have fS1 := tcr KS 1
  have hc1 := spec_stateOk s _ B X1 (HS.out.later (BB.out.mono hB) (Nat.le_refl _)) (Nat.le_trans hB BB.out.size) Hts.out
  rw [hX1] at hc1 fS0 fS1
  go_wp2_with (go_at_call 14; refine hc1.mono ?_; rintro e w2 ⟨rfl, hb2⟩; refine Hid.out ?_)
  refine Lib.hid ?_
  rw [← hX1] at hb2
  clear fS0 fS1
  replace KS := tkb hb2 LS KS
  replace LS := tlz LS hb2.size
  replace KX := tkb hb2 LX KX
  replace LX := tlz LX hb2.size
  replace KR := tkb hb2 LR KR
  replace LR := tlz LR hb2.size
  replace KO := tkb hb2 LO KO
  replace LO := tlz LO hb2.size
  replace GI := Lib.hid (GI.out.later hb2)
  replace GT := Lib.hid (GT.out.later hb2)
  replace BB := tbt BB hb2
  clear hc1 hb2 hX1
  by_cases hok : stOk s = true
  case neg =>
    have hok' : stOk s = false := by simpa using hok
    have hd : Hid (chg s r = s ∧ chgB s r = false) := Lib.hid ⟨if_neg (fun h => hok h.1), by unfold chgB; rw [hok']; rfl⟩
    clear hok
    have fO0 := tcr KO 0
    have fO1 := tcr KO 1
    have zO0 := tfr KO 0
    have zO1 := tfr KO 1
    have fR0 := tcr KR 0
    have fR1 := tcr KR 1
    have zR0 := tfr KR 0
    have zR1 := tfr KR 1
    go_wp2_with fail
    clear fR0 fR1 zR0 zR1 fO0 fO1 zO0 zO1
    have f1 := heap_setCell_same _ (w.heap.size + 1 + 1) 0 _ _ (.slice (some ⟨gi, 0, none⟩) s.items.length ci) KR.out
    have f2 := heap_setCell_same _ (w.heap.size + 1 + 1) 1 _ _ (.slice (some ⟨gt, 0, none⟩) s.talks.length ct) f1
    obtain ⟨j0, q1, q2, q3, q4⟩ := info_parts infoSt
    have hn1 := N1.out
    have hn3 := HWs.out
    have bI := GI.out.2.2.2.1
    have bT := GT.out.2.2.2.1
    refine bodyPost_ret (results_cell_row2 (P := Tryz.prog) rfl _ _ (w.heap.size + 1 + 1) _ _ (0, 0) _ _ rfl rfl f2 Tryz.underlying27 rfl (by rw [q1]; simp [q3])) rfl ⟨.agg #[.slice (some ⟨gi, 0, none⟩) s.items.length ci, .slice (some ⟨gt, 0, none⟩) s.talks.length ct], (by rw [hd.out.2]; rfl), ?_, ?_⟩
    · rw [hd.out.1]
      exact ⟨gi, ci, gt, ct, rfl, hne, ((GI.out.base (by omega)).set (by omega) _).set (by omega) _, ((GT.out.base (by omega)).set (by omega) _).set (by omega) _⟩
    · exact (BB.out.setCell (p := ⟨w.heap.size + 1 + 1, 0, none⟩) (show w.heap.size ≤ w.heap.size + 1 + 1 by omega) _).setCell (p := ⟨w.heap.size + 1 + 1, 1, none⟩) (show w.heap.size ≤ w.heap.size + 1 + 1 by omega) _
  case pos =>
  rw [hok]
  go_upto_block 0 with fail
  go_cut [7] (fun i wx => ∃ k : Nat, k ≤ n ∧ i = .int .i64 k ∧ Hid (Below w2.heap.size w2 wx) ∧ Hid (posI s.items x.k = k))
  case first =>
    go_wp2_with fail
    go_loopw [7] (fun i wr => ∃ k : Nat, k ≤ n ∧ i = .int .i64 k ∧ Hid (Below w2.heap.size w2 wr) ∧ Hid (∀ j (hj : j < s.items.length), j < k → lessB s.items[j].k x.k = true)) (fun i _ => n - (intOf i).toNat)
    case atStart => exact ⟨0, Nat.zero_le _, rfl, Lib.hid (Below.refl _ _), Lib.hid (fun j hj h => by omega)⟩
    case round =>
      obtain ⟨k, hk, rfl, hbw, hless⟩ := hrel
      replace KS := Lib.hid ((hbw.out.block _ LS.out).trans KS.out)
      replace LS := Lib.hid (Nat.lt_of_lt_of_le LS.out hbw.out.size)
      replace KX := Lib.hid ((hbw.out.block _ LX.out).trans KX.out)
      replace LX := Lib.hid (Nat.lt_of_lt_of_le LX.out hbw.out.size)
      replace KR := Lib.hid ((hbw.out.block _ LR.out).trans KR.out)
      replace LR := Lib.hid (Nat.lt_of_lt_of_le LR.out hbw.out.size)
      replace KO := Lib.hid ((hbw.out.block _ LO.out).trans KO.out)
      replace LO := Lib.hid (Nat.lt_of_lt_of_le LO.out hbw.out.size)
      replace GI := Lib.hid (GI.out.later hbw.out)
      replace GT := Lib.hid (GT.out.later hbw.out)
      replace BB := Lib.hid (BB.out.trans (hbw.out.mono BB.out.size))
      have HV : Hid (∀ w', Below wr.heap.size wr w' → (w'.cell? ⟨w.heap.size, 0, none⟩ = some (.slice (some ⟨g, o, none⟩) n cap) ∧ w'.cell? ⟨w.heap.size, 1, none⟩ = some (vt)) ∧ w'.cell? ⟨w.heap.size + 1, 0, none⟩ = some (.string x.k) ∧ w'.cell? ⟨w.heap.size + 1, 1, none⟩ = some (.string x.v)) := Lib.hid (fun w' h => by
        have j0 := (h.block _ LS.out).trans KS.out
        have j1 := (h.block _ LX.out).trans KX.out
        exact ⟨⟨by simpa using cell_of_row w' _ 0 _ _ _ j0, by simpa using cell_of_row w' _ 1 _ _ _ j0⟩, by simpa using cell_of_row w' _ 0 _ _ _ j1, by simpa using cell_of_row w' _ 1 _ _ _ j1⟩)
      by_cases hlt : k < n
      · obtain ⟨_, _, ha, hg, hAt⟩ := HRaw.out (by omega)
        cases ha
        have hkl : k < s.items.length := by have := HN.out; omega
        obtain ⟨y, hy⟩ : ∃ y, y = s.items[k] := ⟨_, rfl⟩
        have hfy := Hts.out.1 y (by rw [hy]; exact List.getElem_mem _)
        have HY : Hid (∀ w', Below wr.heap.size wr w' → w'.cell? ⟨g, o + k * 2, none⟩ = some (.string y.k) ∧ w'.cell? ⟨g, o + k * 2 + 1, none⟩ = some (.string y.v)) := Lib.hid (fun w' h => by
          have hb := BB.out.trans (h.mono BB.out.size)
          have hgw : g < w.heap.size := Nat.lt_of_lt_of_le hg hB
          have hc := hAt.item k hkl
          rw [← hy] at hc
          rw [hb.cell hgw, hb.cell hgw]; exact hc)
        have Hy := Lib.hid hy
        have hlt' : (k : Int) < (n : Int) := by omega
        have hc2 := fun w' => spec_before y.k x.k w' hfy.1 hx.1
        clear hy hAt hfy
        cases hb2 : lessB y.k x.k
        · rw [hb2] at hc2
          have hpos : Hid (posI s.items x.k = k) := Lib.hid (posI_of _ _ k (by omega) hless.out (.inr ⟨hkl, by rw [← Hy.out]; exact hb2⟩))
          clear hb2
          go_wp2_with fail
          refine wp_region_held_drew (S := (fun w' => Below wr.heap.size wr w')) (by kernel_rfl) ((Below.refl wr.heap.size wr).drew) (fun hHeld => ?_)
          refine tk0 0 ?_
          refine tk0 1 ?_
          refine tk 2 (v := ?_) ?_ ?_; rotate_left
          · refine Or.inl ⟨by rfl, ?_⟩; intro w hSw; have f0 := HV.out w hSw; have f1 := HY.out w hSw; go_simp; first | done | with_reducible rfl
          refine tk0 3 ?_
          refine tk0 4 ?_
          refine tk0 5 ?_
          refine tk0 6 ?_
          refine tk 7 (v := ?_) ?_ ?_; rotate_left
          · refine Or.inl ⟨by rfl, ?_⟩; intro w hSw; have f0 := HV.out w hSw; have f1 := HY.out w hSw; go_simp; first | done | with_reducible rfl
          refine tk0 8 ?_
          refine tk0 9 ?_
          refine tk0 10 ?_
          refine tk 11 (v := ?_) ?_ ?_; rotate_left
          · refine Or.inl ⟨by rfl, ?_⟩; intro w hSw; have f0 := HV.out w hSw; have f1 := HY.out w hSw; go_simp; first | done | with_reducible rfl
          refine tk0 12 ?_
          refine tk 13 (v := ?_) ?_ ?_; rotate_left
          · refine Or.inl ⟨by rfl, ?_⟩; intro w hSw; have f0 := HV.out w hSw; have f1 := HY.out w hSw; go_simp; first | done | with_reducible rfl
          refine rd1 14 (fun K hK => ?_)
          go_simp
          go_at_call 35
          refine (hc2 _).mono ?_
          rintro e w' ⟨rfl, nn, rfl⟩
          go_wp2_with fail
          refine hK.out _ _ (by first | exact hHeld.trans (below_draws _ _ _) | exact below_draws _ _ _) (fun hHeld => ?_)
          clear hK K
          refine tk0 15 ?_
          refine wpAnyH_done (by kernel_rfl) ?_ _
          go_wp2_with fail
          go_meet
          exact ⟨k, hk, rfl, Lib.hid (hbw.out.trans (hHeld.mono hbw.out.size)), hpos⟩
        · rw [hb2] at hc2
          have hless' : Hid (∀ j (hj : j < s.items.length), j < k + 1 → lessB s.items[j].k x.k = true) := Lib.hid (fun j hj h => by
            by_cases he : j = k
            · subst he; rw [← Hy.out]; exact hb2
            · exact hless.out j hj (by omega))
          clear hb2
          go_wp2_with fail
          refine wp_region_held_drew (S := (fun w' => Below wr.heap.size wr w')) (by kernel_rfl) ((Below.refl wr.heap.size wr).drew) (fun hHeld => ?_)
          refine tk0 0 ?_
          refine tk0 1 ?_
          refine tk 2 (v := ?_) ?_ ?_; rotate_left
          · refine Or.inl ⟨by rfl, ?_⟩; intro w hSw; have f0 := HV.out w hSw; have f1 := HY.out w hSw; go_simp; first | done | with_reducible rfl
          refine tk0 3 ?_
          refine tk0 4 ?_
          refine tk0 5 ?_
          refine tk0 6 ?_
          refine tk 7 (v := ?_) ?_ ?_; rotate_left
          · refine Or.inl ⟨by rfl, ?_⟩; intro w hSw; have f0 := HV.out w hSw; have f1 := HY.out w hSw; go_simp; first | done | with_reducible rfl
          refine tk0 8 ?_
          refine tk0 9 ?_
          refine tk0 10 ?_
          refine tk 11 (v := ?_) ?_ ?_; rotate_left
          · refine Or.inl ⟨by rfl, ?_⟩; intro w hSw; have f0 := HV.out w hSw; have f1 := HY.out w hSw; go_simp; first | done | with_reducible rfl
          refine tk0 12 ?_
          refine tk 13 (v := ?_) ?_ ?_; rotate_left
          · refine Or.inl ⟨by rfl, ?_⟩; intro w hSw; have f0 := HV.out w hSw; have f1 := HY.out w hSw; go_simp; first | done | with_reducible rfl
          refine rd1 14 (fun K hK => ?_)
          go_simp
          go_at_call 35
          refine (hc2 _).mono ?_
          rintro e w' ⟨rfl, nn, rfl⟩
          go_wp2_with fail
          refine hK.out _ _ (by first | exact hHeld.trans (below_draws _ _ _) | exact below_draws _ _ _) (fun hHeld => ?_)
          clear hK K
          refine tk0 15 ?_
          refine wpAnyH_done (by kernel_rfl) ?_ _
          go_wp2_with fail
          go_roundw
          case rel => exact ⟨k + 1, by omega, by go_num, Lib.hid (hbw.out.trans (hHeld.mono hbw.out.size)), hless'⟩
          case measure => simp [intOf]; omega
      · have hge : ¬ (k : Int) < (n : Int) := by omega
        have hpos : Hid (posI s.items x.k = k) := Lib.hid (posI_of _ _ k (by have := HN.out; omega) hless.out (.inl (by have := HN.out; omega)))
        go_wp2_with fail
        refine wp_region_held_drew (S := (fun w' => Below wr.heap.size wr w')) (by kernel_rfl) ((Below.refl wr.heap.size wr).drew) (fun hHeld => ?_)
        refine tk0 0 ?_
        refine tk0 1 ?_
        refine tk 2 (v := ?_) ?_ ?_; rotate_left
        · refine Or.inl ⟨by rfl, ?_⟩; intro w hSw; have f0 := HV.out w hSw; go_simp; first | done | with_reducible rfl
        refine tk0 3 ?_
        refine tk0 4 ?_
        refine tk0 5 ?_
        refine tku 6 ?_
        refine tku 7 ?_
        refine tku 8 ?_
        refine tku 9 ?_
        refine tku 10 ?_
        refine tku 11 ?_
        refine tku 12 ?_
        refine tku 13 ?_
        refine tku 14 ?_
        refine tk0 15 ?_
        refine wpAnyH_done (by kernel_rfl) ?_ _
        go_wp2_with fail
        go_meet
        exact ⟨k, hk, rfl, Lib.hid (hbw.out.trans (hHeld.mono hbw.out.size)), hpos⟩
  case rest =>
    obtain ⟨k, hk, rfl, hbw, hpos⟩ := hcut
    obtain ⟨wA, rfl⟩ : ∃ z, z = wc := ⟨_, rfl⟩
    replace KS := Lib.hid ((hbw.out.block _ LS.out).trans KS.out)
    replace LS := Lib.hid (Nat.lt_of_lt_of_le LS.out hbw.out.size)
    replace KX := Lib.hid ((hbw.out.block _ LX.out).trans KX.out)
    replace LX := Lib.hid (Nat.lt_of_lt_of_le LX.out hbw.out.size)
    replace KR := Lib.hid ((hbw.out.block _ LR.out).trans KR.out)
    replace LR := Lib.hid (Nat.lt_of_lt_of_le LR.out hbw.out.size)
    replace KO := Lib.hid ((hbw.out.block _ LO.out).trans KO.out)
    replace LO := Lib.hid (Nat.lt_of_lt_of_le LO.out hbw.out.size)
    replace GI := Lib.hid (GI.out.later hbw.out)
    replace GT := Lib.hid (GT.out.later hbw.out)
    replace BB := Lib.hid (BB.out.trans (hbw.out.mono BB.out.size))
    clear hbw
    obtain ⟨E, hE⟩ : ∃ E : Bool, E = decide ((s.items[k]?).map (·.k) = some x.k) := ⟨_, rfl⟩
    have HE := Lib.hid hE
    clear hE
    go_wp2_with fail
    go_cut [47] (fun b wx => b = .bool E ∧ Hid (Below wA.heap.size wA wx))
    case first =>
      have HV : Hid (∀ w', Below wA.heap.size wA w' → (w'.cell? ⟨w.heap.size, 0, none⟩ = some (.slice (some ⟨g, o, none⟩) n cap) ∧ w'.cell? ⟨w.heap.size, 1, none⟩ = some (vt)) ∧ w'.cell? ⟨w.heap.size + 1, 0, none⟩ = some (.string x.k) ∧ w'.cell? ⟨w.heap.size + 1, 1, none⟩ = some (.string x.v)) := Lib.hid (fun w' h => by
        have j0 := (h.block _ LS.out).trans KS.out
        have j1 := (h.block _ LX.out).trans KX.out
        exact ⟨⟨by simpa using cell_of_row w' _ 0 _ _ _ j0, by simpa using cell_of_row w' _ 1 _ _ _ j0⟩, by simpa using cell_of_row w' _ 0 _ _ _ j1, by simpa using cell_of_row w' _ 1 _ _ _ j1⟩)
      by_cases hlt : k < n
      · obtain ⟨_, _, ha, hg, hAt⟩ := HRaw.out (by omega)
        cases ha
        have hkl : k < s.items.length := by have := HN.out; omega
        obtain ⟨y, hy⟩ : ∃ y, y = s.items[k] := ⟨_, rfl⟩
        have hfy := Hts.out.1 y (by rw [hy]; exact List.getElem_mem _)
        have HY : Hid (∀ w', Below wA.heap.size wA w' → w'.cell? ⟨g, o + k * 2, none⟩ = some (.string y.k) ∧ w'.cell? ⟨g, o + k * 2 + 1, none⟩ = some (.string y.v)) := Lib.hid (fun w' h => by
          have hb := BB.out.trans (h.mono BB.out.size)
          have hgw : g < w.heap.size := Nat.lt_of_lt_of_le hg hB
          have hc := hAt.item k hkl
          rw [← hy] at hc
          rw [hb.cell hgw, hb.cell hgw]; exact hc)
        have Hy := Lib.hid hy
        have hlt' : (k : Int) < (n : Int) := by omega
        clear hy hAt hfy
        by_cases he : y.k = x.k
        · have hq := teq he
          have hE2 : Hid (E = true) := Lib.hid (by rw [HE.out, List.getElem?_eq_getElem hkl, ← Hy.out]; simp [he])
          clear he
          refine wp_region_held_drew (S := (fun w' => Below wA.heap.size wA w')) (by kernel_rfl) ((Below.refl wA.heap.size wA).drew) (fun hHeld => ?_)
          refine tk0 0 ?_
          refine tk0 1 ?_
          refine tk 2 (v := ?_) ?_ ?_; rotate_left
          · refine Or.inl ⟨by rfl, ?_⟩; intro w hSw; have f0 := HV.out w hSw; have f1 := HY.out w hSw; go_simp; first | done | with_reducible rfl
          refine tk0 3 ?_
          refine tk0 4 ?_
          refine tk0 5 ?_
          refine tk0 6 ?_
          refine tk 7 (v := ?_) ?_ ?_; rotate_left
          · refine Or.inl ⟨by rfl, ?_⟩; intro w hSw; have f0 := HV.out w hSw; have f1 := HY.out w hSw; go_simp; first | done | with_reducible rfl
          refine tk0 8 ?_
          refine tk0 9 ?_
          refine tk0 10 ?_
          refine tk 11 (v := ?_) ?_ ?_; rotate_left
          · refine Or.inl ⟨by rfl, ?_⟩; intro w hSw; have f0 := HV.out w hSw; have f1 := HY.out w hSw; go_simp; first | done | with_reducible rfl
          refine tk0 12 ?_
          refine tk 13 (v := ?_) ?_ ?_; rotate_left
          · refine Or.inl ⟨by rfl, ?_⟩; intro w hSw; have f0 := HV.out w hSw; have f1 := HY.out w hSw; go_simp; first | done | with_reducible rfl
          refine tk0 14 ?_
          refine tk0 15 ?_
          refine wpAnyH_done (by kernel_rfl) ?_ _
          go_wp2_with fail
          go_meet
          exact ⟨by rw [hE2.out], Lib.hid hHeld⟩
        · have hq := tne he
          have hE2 : Hid (E = false) := Lib.hid (by rw [HE.out, List.getElem?_eq_getElem hkl, ← Hy.out]; simp [he])
          clear he
          refine wp_region_held_drew (S := (fun w' => Below wA.heap.size wA w')) (by kernel_rfl) ((Below.refl wA.heap.size wA).drew) (fun hHeld => ?_)
          refine tk0 0 ?_
          refine tk0 1 ?_
          refine tk 2 (v := ?_) ?_ ?_; rotate_left
          · refine Or.inl ⟨by rfl, ?_⟩; intro w hSw; have f0 := HV.out w hSw; have f1 := HY.out w hSw; go_simp; first | done | with_reducible rfl
          refine tk0 3 ?_
          refine tk0 4 ?_
          refine tk0 5 ?_
          refine tk0 6 ?_
          refine tk 7 (v := ?_) ?_ ?_; rotate_left
          · refine Or.inl ⟨by rfl, ?_⟩; intro w hSw; have f0 := HV.out w hSw; have f1 := HY.out w hSw; go_simp; first | done | with_reducible rfl
          refine tk0 8 ?_
          refine tk0 9 ?_
          refine tk0 10 ?_
          refine tk 11 (v := ?_) ?_ ?_; rotate_left
          · refine Or.inl ⟨by rfl, ?_⟩; intro w hSw; have f0 := HV.out w hSw; have f1 := HY.out w hSw; go_simp; first | done | with_reducible rfl
          refine tk0 12 ?_
          refine tk 13 (v := ?_) ?_ ?_; rotate_left
          · refine Or.inl ⟨by rfl, ?_⟩; intro w hSw; have f0 := HV.out w hSw; have f1 := HY.out w hSw; go_simp; first | done | with_reducible rfl
          refine tk0 14 ?_
          refine tk0 15 ?_
          refine wpAnyH_done (by kernel_rfl) ?_ _
          go_wp2_with fail
          go_meet
          exact ⟨by rw [hE2.out], Lib.hid hHeld⟩
      · have hge : ¬ (k : Int) < (n : Int) := by omega
        have hE2 : Hid (E = false) := Lib.hid (by rw [HE.out, List.getElem?_eq_none (by have := HN.out; omega)]; simp)
        refine wp_region_held_drew (S := (fun w' => Below wA.heap.size wA w')) (by kernel_rfl) ((Below.refl wA.heap.size wA).drew) (fun hHeld => ?_)
        refine tk0 0 ?_
        refine tk0 1 ?_
        refine tk 2 (v := ?_) ?_ ?_; rotate_left
        · refine Or.inl ⟨by rfl, ?_⟩; intro w hSw; have f0 := HV.out w hSw; go_simp; first | done | with_reducible rfl
        refine tk0 3 ?_
        refine tk0 4 ?_
        refine tk0 5 ?_
        refine tku 6 ?_
        refine tku 7 ?_
        refine tku 8 ?_
        refine tku 9 ?_
        refine tku 10 ?_
        refine tku 11 ?_
        refine tku 12 ?_
        refine tku 13 ?_
        refine tku 14 ?_
        refine tk0 15 ?_
        refine wpAnyH_done (by kernel_rfl) ?_ _
        go_wp2_with fail
        go_meet
        exact ⟨by rw [hE2.out], Lib.hid hHeld⟩
    case rest =>
      obtain ⟨rfl, hbw2⟩ := hcut
      obtain ⟨wV, rfl⟩ : ∃ z, z = wc := ⟨_, rfl⟩
      replace KS := Lib.hid ((hbw2.out.block _ LS.out).trans KS.out)
      replace LS := Lib.hid (Nat.lt_of_lt_of_le LS.out hbw2.out.size)
      replace KX := Lib.hid ((hbw2.out.block _ LX.out).trans KX.out)
      replace LX := Lib.hid (Nat.lt_of_lt_of_le LX.out hbw2.out.size)
      replace KR := Lib.hid ((hbw2.out.block _ LR.out).trans KR.out)
      replace LR := Lib.hid (Nat.lt_of_lt_of_le LR.out hbw2.out.size)
      replace KO := Lib.hid ((hbw2.out.block _ LO.out).trans KO.out)
      replace LO := Lib.hid (Nat.lt_of_lt_of_le LO.out hbw2.out.size)
      replace GI := Lib.hid (GI.out.later hbw2.out)
      replace GT := Lib.hid (GT.out.later hbw2.out)
      replace BB := Lib.hid (BB.out.trans (hbw2.out.mono BB.out.size))
      clear hbw2
      go_upto_if 47 with fail
      go_cut [] (fun wx => ∃ gN cN, Hid (wx.heap[w1.heap.size]? = some (.cells #[.slice (some ⟨gN, 0, none⟩) (putI s.items x).length cN, .slice (some ⟨gt, 0, none⟩) s.talks.length ct] 27 (0, 0))) ∧ Hid (w1.heap.size < wx.heap.size) ∧ Hid (Got wx W.heap.size 45 2 gN (putI s.items x).length cN ((putI s.items x).flatMap itC)) ∧ Hid (Got wx W.heap.size 65 3 gt s.talks.length ct (s.talks.flatMap tkC)) ∧ Hid (gN ≠ gt) ∧ Hid (wx.heap[w.heap.size]? = some (.cells #[.slice (some ⟨g, o, none⟩) n cap, vt] 27 (0, 0))) ∧ Hid (w.heap.size < wx.heap.size) ∧ Hid (wx.heap[w.heap.size + 1 + 1]? = some (.cells #[.slice none 0 0, .slice none 0 0] 27 (0, 0))) ∧ Hid (w.heap.size + 1 + 1 < wx.heap.size) ∧ Hid (Below w.heap.size w wx))
      case first =>
        cases E
        · have hput : Hid (putI s.items x = s.items.take k ++ x :: s.items.drop k) := Lib.hid (by unfold putI; rw [hpos.out, if_neg (by simpa using HE.out)])
          clear HE hpos
          obtain ⟨A, hA⟩ : ∃ A, A = (if cap = k then some (⟨g, o, none⟩ : Addr) else some ⟨g, o + k * 2, none⟩) := ⟨_, rfl⟩
          have HA := Lib.hid hA
          clear hA
          have HSS : Hid (∀ w' : World, w'.heap[w.heap.size]? = some (.cells #[.slice (some ⟨g, o, none⟩) n cap, vt] 27 (0, 0)) → w'.heap[w.heap.size + 1]? = some (.cells #[.string x.k, .string x.v] 45 (0, 0)) → (w'.cell? ⟨w.heap.size, 0, none⟩ = some (.slice (some ⟨g, o, none⟩) n cap) ∧ w'.cell? ⟨w.heap.size, 1, none⟩ = some (vt)) ∧ w'.cell? ⟨w.heap.size + 1, 0, none⟩ = some (.string x.k) ∧ w'.cell? ⟨w.heap.size + 1, 1, none⟩ = some (.string x.v)) := Lib.hid (fun w' j0 j1 => ⟨⟨by simpa using cell_of_row w' _ 0 _ _ _ j0, by simpa using cell_of_row w' _ 1 _ _ _ j0⟩, by simpa using cell_of_row w' _ 0 _ _ _ j1, by simpa using cell_of_row w' _ 1 _ _ _ j1⟩)
          have raw1 : Hid (∀ w', Below w.heap.size w w' → Raw w' w.heap.size (.slice (some ⟨g, o, none⟩) k cap) k ((s.items.flatMap itC).take (k * 2))) := Lib.hid (fun w' h => raw_pre (HRaw0.out.later (B' := w.heap.size) (h.mono hB) hB) (by omega))
          have raw2 : Hid (∀ w', Below w.heap.size w w' → Raw w' w.heap.size (.slice A (n - k) (cap - k)) (n - k) ((s.items.flatMap itC).drop (k * 2))) := Lib.hid (fun w' h => by rw [HA.out]; exact raw_suf (HRaw0.out.later (B' := w.heap.size) (h.mono hB) hB) (by omega))
          have len1 : Hid (((s.items.flatMap itC).take (k * 2)).length = k * 2) := Lib.hid (by rw [List.length_take, flat_len_it]; have := HN.out; omega)
          have len2 : Hid (((s.items.flatMap itC).drop (k * 2)).length = (n - k) * 2) := Lib.hid (by rw [List.length_drop, flat_len_it]; have := HN.out; omega)
          have hlen : Hid (k + 1 + (n - k) = (putI s.items x).length) := Lib.hid (by rw [hput.out]; simp only [List.length_append, List.length_cons, List.length_take, List.length_drop]; have := HN.out; omega)
          have hfl : Hid ((putI s.items x).flatMap itC = (s.items.flatMap itC).take (k * 2) ++ itC x ++ (s.items.flatMap itC).drop (k * 2)) := Lib.hid (by have := HN.out; rw [hput.out, List.flatMap_append, List.flatMap_cons, flat_take_it s.items k (by omega), flat_drop_it s.items k (by omega), List.append_assoc])
          have one1 : Hid (∀ u ∈ (s.items.flatMap itC).take (k * 2), u.oneCell' = true) := Lib.hid (fun u hu => one_it _ u (List.mem_of_mem_take hu))
          have one2 : Hid (∀ u ∈ (s.items.flatMap itC).drop (k * 2), u.oneCell' = true) := Lib.hid (fun u hu => one_it _ u (List.mem_of_mem_drop hu))
          have i1 : (k : Int) ≤ (n : Int) := by omega
          have i2 : (n : Int) ≤ (cap : Int) := by omega
          have i3 : (k : Int) ≤ (cap : Int) := by omega
          have NO := LO
          have NW : Hid (W.heap.size ≤ wV.heap.size) := Lib.hid (by have := N2.out; have := LO.out; omega)
          obtain ⟨i0, p1, p2, p3, p4⟩ := info_parts infoIt
          go_wp2_with fail
          refine wp_region_held_drew (S := (fun w' => (w'.cell? ⟨w.heap.size, 0, none⟩ = some (.slice (some ⟨g, o, none⟩) n cap) ∧ w'.cell? ⟨w.heap.size, 1, none⟩ = some (vt)) ∧ w'.cell? ⟨w.heap.size + 1, 0, none⟩ = some (.string x.k) ∧ w'.cell? ⟨w.heap.size + 1, 1, none⟩ = some (.string x.v))) (by kernel_rfl) (HSS.out wV.drew KS.out KX.out) (fun hHeld => ?_)
          refine tk0 1 ?_
          refine tk 2 (v := ?_) ?_ ?_; rotate_left
          · refine Or.inl ⟨by rfl, ?_⟩; intro w hSw; obtain ⟨⟨hS0, hS1⟩, hS2, hS3⟩ := hSw; go_simp; first | done | with_reducible rfl
          refine tk0 3 ?_
          refine tk0 4 ?_
          refine tk 6 (v := ?_) ?_ ?_; rotate_left
          · refine Or.inl ⟨by rfl, ?_⟩; intro w hSw; obtain ⟨⟨hS0, hS1⟩, hS2, hS3⟩ := hSw; go_simp; first | done | with_reducible rfl
          refine tk0 9 ?_
          refine tk 10 (v := ?_) ?_ ?_; rotate_left
          · refine Or.inl ⟨by rfl, ?_⟩; intro w hSw; obtain ⟨⟨hS0, hS1⟩, hS2, hS3⟩ := hSw; go_simp; first | done | with_reducible rfl
          refine tk0 11 ?_
          refine wpAnyH_take (i := 12) (v := ?_) rfl (by kernel_rfl) (by kernel_rfl) (by kernel_rfl) (fun _ _ _ h => h) ?_ (by assumption) ?_
          rotate_left
          · refine Or.inl ⟨by rfl, ?_⟩; intro w hSw; go_simp; first | (rw [← HA.out]; done) | (rw [← HA.out]; with_reducible rfl)
          try simp only [getElem_toArray, getElem_cons_zero, getElem_cons_succ, Act.put, setIfInBounds_toArray, set_cons_zero, set_cons_succ]
          refine rd2 0 7 (fun K hK => ?_) (fun K hK => ?_)
          · go_simp
            obtain ⟨V1, hV1⟩ : ∃ z, z = (wV.alloc (.cells #[] 45)).drew := ⟨_, rfl⟩
            rw [← hV1]
            have bV1 : Below wV.heap.size wV V1 := by rw [hV1]; exact ((Below.refl _ _).alloc (Nat.le_refl _) _).drew
            have sV1 : Hid (V1.heap.size = wV.heap.size + 1) := Lib.hid (by rw [hV1]; simp)
            have yV1 : Hid (wV.heap.size ≤ V1.heap.size) := Lib.hid bV1.size
            replace KS := tkb bV1 LS KS
            replace LS := tlz LS bV1.size
            replace KX := tkb bV1 LX KX
            replace LX := tlz LX bV1.size
            replace KR := tkb bV1 LR KR
            replace LR := tlz LR bV1.size
            replace KO := tkb bV1 LO KO
            replace LO := tlz LO bV1.size
            replace GT := Lib.hid (GT.out.later bV1)
            replace BB := tbt BB bV1
            have KE : Hid (V1.heap[wV.heap.size]? = some (.cells #[] 45 (0, 0))) := Lib.hid (by rw [hV1]; exact heap_new _ _)
            have LE : Hid (wV.heap.size < V1.heap.size) := Lib.hid (by have := sV1.out; omega)
            have yE : Hid (wV.heap.size ≤ wV.heap.size) := Lib.hid (Nat.le_refl _)
            clear bV1 hV1
            refine hK.out _ _ (HSS.out _ KS.out KX.out) (fun hHeld => ?_)
            clear hK K
            try simp only [getElem_toArray, getElem_cons_zero, getElem_cons_succ, Act.put, setIfInBounds_toArray, set_cons_zero, set_cons_succ]
            refine rd2 5 7 (fun K hK => ?_) (fun K hK => ?_)
            · refine step_app0 rfl (.tmp 53) (.tmp 57) 24 rfl 45 i0 _ 2 32 Tryz.underlying24 p1 p2 p3 p4 rfl (by decide) wV.heap.size W.heap.size (by have := yE.out; have := NW.out; omega) LE.out (by simp [Act.eval]) _ (by simp [Act.eval]) w.heap.size k _ (raw1.out V1 BB.out) len1.out one1.out (by unfold maxLen; omega) (by omega) ?_
              intro g1 c1 V2 bV2 e1 got1
              have yV2 : Hid (wV.heap.size ≤ V2.heap.size) := Lib.hid (Nat.le_trans yV1.out bV2.size)
              have N5 : Hid (wV.heap.size ≤ g1) := Lib.hid (by have := yE.out; have := yV1.out; omega)
              replace KS := tkb bV2 LS KS
              replace LS := tlz LS bV2.size
              replace KX := tkb bV2 LX KX
              replace LX := tlz LX bV2.size
              replace KR := tkb bV2 LR KR
              replace LR := tlz LR bV2.size
              replace KO := tkb bV2 LO KO
              replace LO := tlz LO bV2.size
              replace KE := tkb bV2 LE KE
              replace LE := tlz LE bV2.size
              replace GT := Lib.hid (GT.out.later bV2)
              replace BB := tbt BB bV2
              have G1 := Lib.hid got1
              clear got1 e1 bV2
              refine hK.out _ _ (HSS.out _ KS.out KX.out) (fun hHeld => ?_)
              clear hK K
              refine rd1 7 (fun K hK => ?_)
              go_simp
              obtain ⟨V3, hV3⟩ : ∃ z, z = V2.alloc (.cells #[.string x.k, .string x.v] 45) := ⟨_, rfl⟩
              rw [← hV3]
              have bV3 : Below V2.heap.size V2 V3 := by rw [hV3]; exact ((Below.refl _ _).alloc (Nat.le_refl _) _)
              have sV3 : Hid (V3.heap.size = V2.heap.size + 1) := Lib.hid (by rw [hV3]; simp)
              have yV3 : Hid (wV.heap.size ≤ V3.heap.size) := Lib.hid (Nat.le_trans yV2.out bV3.size)
              replace KS := tkb bV3 LS KS
              replace LS := tlz LS bV3.size
              replace KX := tkb bV3 LX KX
              replace LX := tlz LX bV3.size
              replace KR := tkb bV3 LR KR
              replace LR := tlz LR bV3.size
              replace KO := tkb bV3 LO KO
              replace LO := tlz LO bV3.size
              replace KE := tkb bV3 LE KE
              replace LE := tlz LE bV3.size
              replace GT := Lib.hid (GT.out.later bV3)
              replace G1 := Lib.hid (G1.out.later bV3)
              replace BB := tbt BB bV3
              have KB : Hid (V3.heap[V2.heap.size]? = some (.cells #[.string x.k, .string x.v] 45 (0, 0))) := Lib.hid (by rw [hV3]; exact heap_new _ _)
              have LB : Hid (V2.heap.size < V3.heap.size) := Lib.hid (by have := sV3.out; omega)
              have yB : Hid (wV.heap.size ≤ V2.heap.size) := yV2
              clear bV3 hV3
              refine hK.out _ _ (HSS.out _ KS.out KX.out) (fun hHeld => ?_)
              clear hK K
              try simp only [getElem_toArray, getElem_cons_zero, getElem_cons_succ, Act.put, setIfInBounds_toArray, set_cons_zero, set_cons_succ]
              refine rd1 8 (fun K hK => ?_)
              have rX : Raw V3 V3.heap.size (.slice (some ⟨V2.heap.size, 0, none⟩) 1 1) 1 (itC x) := ⟨_, 1, rfl, Nat.le_refl _, by unfold maxLen; omega, (fun h => by cases h), fun _ => ⟨V2.heap.size, 0, rfl, LB.out, fun j u hu => by rw [Nat.zero_add, cell_of_row V3 _ j _ _ _ KB.out]; simpa [itC] using hu⟩⟩
              refine step_app rfl (.tmp 58) (.tmp 60) 24 rfl 45 i0 _ 2 32 Tryz.underlying24 p1 p2 p3 p4 rfl (by decide) g1 k c1 W.heap.size _ G1.out (by simp [Act.eval]) _ (by simp [Act.eval]) V3.heap.size 1 _ rX (by simp [itC]) (fun u hu => one_it [x] u (by simpa using hu)) (by unfold maxLen; omega) (by omega) ?_
              intro g2 c2 V4 rV4 e2 got2
              clear rX
              have N8 : Hid (wV.heap.size ≤ g2) := Lib.hid (by have := N5.out; have := yV3.out; omega)
              have yV4 : Hid (wV.heap.size ≤ V4.heap.size) := Lib.hid (Nat.le_trans yV3.out rV4.size)
              replace KS := tkg rV4 LS KS (by simp; have := N1.out; have := HWs.out; have := N2.out; have := NO.out; have := NW.out; have := N5.out; omega)
              replace LS := tlz LS rV4.size
              replace KX := tkg rV4 LX KX (by simp; have := N1.out; have := HWs.out; have := N2.out; have := NO.out; have := NW.out; have := N5.out; omega)
              replace LX := tlz LX rV4.size
              replace KR := tkg rV4 LR KR (by simp; have := N1.out; have := HWs.out; have := N2.out; have := NO.out; have := NW.out; have := N5.out; omega)
              replace LR := tlz LR rV4.size
              replace KO := tkg rV4 LO KO (by simp; have := N1.out; have := HWs.out; have := N2.out; have := NO.out; have := NW.out; have := N5.out; omega)
              replace LO := tlz LO rV4.size
              replace GT := Lib.hid (GT.out.grown rV4 (by have := N1.out; have := HWs.out; have := N2.out; have := NO.out; have := NW.out; have := N5.out; omega))
              replace BB := Lib.hid (BB.out.grown rV4 BB.out.size (fun k hk => by cases hk; have := N1.out; have := HWs.out; have := N2.out; have := NO.out; have := NW.out; have := N5.out; omega))
              have G2 := Lib.hid got2
              clear got2 e2 rV4 G1
              refine hK.out _ _ (HSS.out _ KS.out KX.out) (fun hHeld => ?_)
              clear hK K
              try simp only [getElem_toArray, getElem_cons_zero, getElem_cons_succ, Act.put, setIfInBounds_toArray, set_cons_zero, set_cons_succ]
              refine rd1 13 (fun K hK => ?_)
              refine step_app rfl (.tmp 61) (.tmp 65) 24 rfl 45 i0 _ 2 32 Tryz.underlying24 p1 p2 p3 p4 rfl (by decide) g2 (k + 1) c2 W.heap.size _ G2.out (by simp [Act.eval]) _ (by simp [Act.eval]) w.heap.size (n - k) _ (raw2.out V4 BB.out) len2.out one2.out (by unfold maxLen; omega) (by omega) ?_
              intro g3 c3 V5 rV5 e3 got3
              have N9 : Hid (wV.heap.size ≤ g3) := Lib.hid (by have := N8.out; have := yV4.out; omega)
              replace KS := tkg rV5 LS KS (by simp; have := N1.out; have := HWs.out; have := N2.out; have := NO.out; have := NW.out; have := N8.out; omega)
              replace LS := tlz LS rV5.size
              replace KX := tkg rV5 LX KX (by simp; have := N1.out; have := HWs.out; have := N2.out; have := NO.out; have := NW.out; have := N8.out; omega)
              replace LX := tlz LX rV5.size
              replace KR := tkg rV5 LR KR (by simp; have := N1.out; have := HWs.out; have := N2.out; have := NO.out; have := NW.out; have := N8.out; omega)
              replace LR := tlz LR rV5.size
              replace KO := tkg rV5 LO KO (by simp; have := N1.out; have := HWs.out; have := N2.out; have := NO.out; have := NW.out; have := N8.out; omega)
              replace LO := tlz LO rV5.size
              replace GT := Lib.hid (GT.out.grown rV5 (by have := N1.out; have := HWs.out; have := N2.out; have := NO.out; have := NW.out; have := N8.out; omega))
              replace BB := Lib.hid (BB.out.grown rV5 BB.out.size (fun k hk => by cases hk; have := N1.out; have := HWs.out; have := N2.out; have := NO.out; have := NW.out; have := N8.out; omega))
              rw [hlen.out] at got3 ⊢
              rw [← hfl.out] at got3
              have G3 := Lib.hid got3
              clear got3 e3 rV5 G2
              refine hK.out _ _ (HSS.out _ KS.out KX.out) (fun hHeld => ?_)
              clear hK K
              refine tk0 14 ?_
              have fO0 := tcr KO 0
              have zO0 := tfr KO 0
              have fO1 := tcr KO 1
              have zO1 := tfr KO 1
              refine rd1 15 (fun K hK => ?_)
              go_simp
              obtain ⟨Y, hY⟩ : ∃ Y, Y = V5.setCell ⟨w1.heap.size, 0, none⟩ (.slice (some ⟨g3, 0, none⟩) (putI s.items x).length c3) := ⟨_, rfl⟩
              rw [← hY]
              have kO := heap_setCell_same _ w1.heap.size 0 _ _ (.slice (some ⟨g3, 0, none⟩) (putI s.items x).length c3) KO.out
              rw [← hY] at kO
              have gY : V5.grownBy Y (some w1.heap.size) := by rw [hY]; exact grown_set V5 ⟨w1.heap.size, 0, none⟩ (.slice (some ⟨g3, 0, none⟩) (putI s.items x).length c3)
              clear fO0 fO1 zO0 zO1 hY
              replace KS := tkg gY LS KS (by simp; have := N1.out; have := HWs.out; have := N2.out; have := NO.out; have := NW.out; have := N9.out; omega)
              replace LS := tlz LS gY.size
              replace KX := tkg gY LX KX (by simp; have := N1.out; have := HWs.out; have := N2.out; have := NO.out; have := NW.out; have := N9.out; omega)
              replace LX := tlz LX gY.size
              replace KR := tkg gY LR KR (by simp; have := N1.out; have := HWs.out; have := N2.out; have := NO.out; have := NW.out; have := N9.out; omega)
              replace LR := tlz LR gY.size
              replace GT := Lib.hid (GT.out.grown gY (by have := N1.out; have := HWs.out; have := N2.out; have := NO.out; have := NW.out; have := N9.out; omega))
              replace G3 := Lib.hid (G3.out.grown gY (by have := N1.out; have := HWs.out; have := N2.out; have := NO.out; have := NW.out; have := N9.out; omega))
              replace BB := Lib.hid (BB.out.grown gY BB.out.size (fun k hk => by cases hk; have := N1.out; have := HWs.out; have := N2.out; have := NO.out; have := NW.out; have := N9.out; omega))
              simp only [List.setIfInBounds_toArray, List.set_cons_zero, List.set_cons_succ] at kO
              replace KO := Lib.hid kO
              replace LO := tlz LO gY.size
              clear gY kO
              refine hK.out _ _ (HSS.out _ KS.out KX.out) (fun hHeld => ?_)
              clear hK K
              try simp only [getElem_toArray, getElem_cons_zero, getElem_cons_succ, Act.put, setIfInBounds_toArray, set_cons_zero, set_cons_succ]
              refine wpAnyH_done (by kernel_rfl) ?_ _
              clear hHeld
              go_wp2_with fail
              go_meet
              exact ⟨g3, c3, KO, LO, G3, GT, Lib.hid (by have := N1.out; have := N9.out; have := NO.out; omega), KS, LS, KR, LR, BB⟩
            · go_simp
              obtain ⟨V6, hV6⟩ : ∃ z, z = V1.alloc (.cells #[.string x.k, .string x.v] 45) := ⟨_, rfl⟩
              rw [← hV6]
              have bV6 : Below V1.heap.size V1 V6 := by rw [hV6]; exact ((Below.refl _ _).alloc (Nat.le_refl _) _)
              have sV6 : Hid (V6.heap.size = V1.heap.size + 1) := Lib.hid (by rw [hV6]; simp)
              have yV6 : Hid (wV.heap.size ≤ V6.heap.size) := Lib.hid (Nat.le_trans yV1.out bV6.size)
              replace KS := tkb bV6 LS KS
              replace LS := tlz LS bV6.size
              replace KX := tkb bV6 LX KX
              replace LX := tlz LX bV6.size
              replace KR := tkb bV6 LR KR
              replace LR := tlz LR bV6.size
              replace KO := tkb bV6 LO KO
              replace LO := tlz LO bV6.size
              replace KE := tkb bV6 LE KE
              replace LE := tlz LE bV6.size
              replace GT := Lib.hid (GT.out.later bV6)
              replace BB := tbt BB bV6
              have KB : Hid (V6.heap[V1.heap.size]? = some (.cells #[.string x.k, .string x.v] 45 (0, 0))) := Lib.hid (by rw [hV6]; exact heap_new _ _)
              have LB : Hid (V1.heap.size < V6.heap.size) := Lib.hid (by have := sV6.out; omega)
              have yB : Hid (wV.heap.size ≤ V1.heap.size) := yV1
              clear bV6 hV6
              refine hK.out _ _ (HSS.out _ KS.out KX.out) (fun hHeld => ?_)
              clear hK K
              try simp only [getElem_toArray, getElem_cons_zero, getElem_cons_succ, Act.put, setIfInBounds_toArray, set_cons_zero, set_cons_succ]
              refine rd1 5 (fun K hK => ?_)
              refine step_app0 rfl (.tmp 53) (.tmp 57) 24 rfl 45 i0 _ 2 32 Tryz.underlying24 p1 p2 p3 p4 rfl (by decide) wV.heap.size W.heap.size (by have := yE.out; have := NW.out; omega) LE.out (by simp [Act.eval]) _ (by simp [Act.eval]) w.heap.size k _ (raw1.out V6 BB.out) len1.out one1.out (by unfold maxLen; omega) (by omega) ?_
              intro g1 c1 V7 bV7 e1 got1
              have yV7 : Hid (wV.heap.size ≤ V7.heap.size) := Lib.hid (Nat.le_trans yV6.out bV7.size)
              have N5 : Hid (wV.heap.size ≤ g1) := Lib.hid (by have := yE.out; have := yV6.out; omega)
              replace KS := tkb bV7 LS KS
              replace LS := tlz LS bV7.size
              replace KX := tkb bV7 LX KX
              replace LX := tlz LX bV7.size
              replace KR := tkb bV7 LR KR
              replace LR := tlz LR bV7.size
              replace KO := tkb bV7 LO KO
              replace LO := tlz LO bV7.size
              replace KE := tkb bV7 LE KE
              replace LE := tlz LE bV7.size
              replace KB := tkb bV7 LB KB
              replace LB := tlz LB bV7.size
              replace GT := Lib.hid (GT.out.later bV7)
              replace BB := tbt BB bV7
              have G1 := Lib.hid got1
              clear got1 e1 bV7
              refine hK.out _ _ (HSS.out _ KS.out KX.out) (fun hHeld => ?_)
              clear hK K
              try simp only [getElem_toArray, getElem_cons_zero, getElem_cons_succ, Act.put, setIfInBounds_toArray, set_cons_zero, set_cons_succ]
              refine rd1 8 (fun K hK => ?_)
              have rX : Raw V7 V7.heap.size (.slice (some ⟨V1.heap.size, 0, none⟩) 1 1) 1 (itC x) := ⟨_, 1, rfl, Nat.le_refl _, by unfold maxLen; omega, (fun h => by cases h), fun _ => ⟨V1.heap.size, 0, rfl, LB.out, fun j u hu => by rw [Nat.zero_add, cell_of_row V7 _ j _ _ _ KB.out]; simpa [itC] using hu⟩⟩
              refine step_app rfl (.tmp 58) (.tmp 60) 24 rfl 45 i0 _ 2 32 Tryz.underlying24 p1 p2 p3 p4 rfl (by decide) g1 k c1 W.heap.size _ G1.out (by simp [Act.eval]) _ (by simp [Act.eval]) V7.heap.size 1 _ rX (by simp [itC]) (fun u hu => one_it [x] u (by simpa using hu)) (by unfold maxLen; omega) (by omega) ?_
              intro g2 c2 V8 rV8 e2 got2
              clear rX
              have N8 : Hid (wV.heap.size ≤ g2) := Lib.hid (by have := N5.out; have := yV7.out; omega)
              have yV8 : Hid (wV.heap.size ≤ V8.heap.size) := Lib.hid (Nat.le_trans yV7.out rV8.size)
              replace KS := tkg rV8 LS KS (by simp; have := N1.out; have := HWs.out; have := N2.out; have := NO.out; have := NW.out; have := N5.out; omega)
              replace LS := tlz LS rV8.size
              replace KX := tkg rV8 LX KX (by simp; have := N1.out; have := HWs.out; have := N2.out; have := NO.out; have := NW.out; have := N5.out; omega)
              replace LX := tlz LX rV8.size
              replace KR := tkg rV8 LR KR (by simp; have := N1.out; have := HWs.out; have := N2.out; have := NO.out; have := NW.out; have := N5.out; omega)
              replace LR := tlz LR rV8.size
              replace KO := tkg rV8 LO KO (by simp; have := N1.out; have := HWs.out; have := N2.out; have := NO.out; have := NW.out; have := N5.out; omega)
              replace LO := tlz LO rV8.size
              replace GT := Lib.hid (GT.out.grown rV8 (by have := N1.out; have := HWs.out; have := N2.out; have := NO.out; have := NW.out; have := N5.out; omega))
              replace BB := Lib.hid (BB.out.grown rV8 BB.out.size (fun k hk => by cases hk; have := N1.out; have := HWs.out; have := N2.out; have := NO.out; have := NW.out; have := N5.out; omega))
              have G2 := Lib.hid got2
              clear got2 e2 rV8 G1
              refine hK.out _ _ (HSS.out _ KS.out KX.out) (fun hHeld => ?_)
              clear hK K
              try simp only [getElem_toArray, getElem_cons_zero, getElem_cons_succ, Act.put, setIfInBounds_toArray, set_cons_zero, set_cons_succ]
              refine rd1 13 (fun K hK => ?_)
              refine step_app rfl (.tmp 61) (.tmp 65) 24 rfl 45 i0 _ 2 32 Tryz.underlying24 p1 p2 p3 p4 rfl (by decide) g2 (k + 1) c2 W.heap.size _ G2.out (by simp [Act.eval]) _ (by simp [Act.eval]) w.heap.size (n - k) _ (raw2.out V8 BB.out) len2.out one2.out (by unfold maxLen; omega) (by omega) ?_
              intro g3 c3 V9 rV9 e3 got3
              have N9 : Hid (wV.heap.size ≤ g3) := Lib.hid (by have := N8.out; have := yV8.out; omega)
              replace KS := tkg rV9 LS KS (by simp; have := N1.out; have := HWs.out; have := N2.out; have := NO.out; have := NW.out; have := N8.out; omega)
              replace LS := tlz LS rV9.size
              replace KX := tkg rV9 LX KX (by simp; have := N1.out; have := HWs.out; have := N2.out; have := NO.out; have := NW.out; have := N8.out; omega)
              replace LX := tlz LX rV9.size
              replace KR := tkg rV9 LR KR (by simp; have := N1.out; have := HWs.out; have := N2.out; have := NO.out; have := NW.out; have := N8.out; omega)
              replace LR := tlz LR rV9.size
              replace KO := tkg rV9 LO KO (by simp; have := N1.out; have := HWs.out; have := N2.out; have := NO.out; have := NW.out; have := N8.out; omega)
              replace LO := tlz LO rV9.size
              replace GT := Lib.hid (GT.out.grown rV9 (by have := N1.out; have := HWs.out; have := N2.out; have := NO.out; have := NW.out; have := N8.out; omega))
              replace BB := Lib.hid (BB.out.grown rV9 BB.out.size (fun k hk => by cases hk; have := N1.out; have := HWs.out; have := N2.out; have := NO.out; have := NW.out; have := N8.out; omega))
              rw [hlen.out] at got3 ⊢
              rw [← hfl.out] at got3
              have G3 := Lib.hid got3
              clear got3 e3 rV9 G2
              refine hK.out _ _ (HSS.out _ KS.out KX.out) (fun hHeld => ?_)
              clear hK K
              refine tk0 14 ?_
              have fO0 := tcr KO 0
              have zO0 := tfr KO 0
              have fO1 := tcr KO 1
              have zO1 := tfr KO 1
              refine rd1 15 (fun K hK => ?_)
              go_simp
              obtain ⟨Y, hY⟩ : ∃ Y, Y = V9.setCell ⟨w1.heap.size, 0, none⟩ (.slice (some ⟨g3, 0, none⟩) (putI s.items x).length c3) := ⟨_, rfl⟩
              rw [← hY]
              have kO := heap_setCell_same _ w1.heap.size 0 _ _ (.slice (some ⟨g3, 0, none⟩) (putI s.items x).length c3) KO.out
              rw [← hY] at kO
              have gY : V9.grownBy Y (some w1.heap.size) := by rw [hY]; exact grown_set V9 ⟨w1.heap.size, 0, none⟩ (.slice (some ⟨g3, 0, none⟩) (putI s.items x).length c3)
              clear fO0 fO1 zO0 zO1 hY
              replace KS := tkg gY LS KS (by simp; have := N1.out; have := HWs.out; have := N2.out; have := NO.out; have := NW.out; have := N9.out; omega)
              replace LS := tlz LS gY.size
              replace KX := tkg gY LX KX (by simp; have := N1.out; have := HWs.out; have := N2.out; have := NO.out; have := NW.out; have := N9.out; omega)
              replace LX := tlz LX gY.size
              replace KR := tkg gY LR KR (by simp; have := N1.out; have := HWs.out; have := N2.out; have := NO.out; have := NW.out; have := N9.out; omega)
              replace LR := tlz LR gY.size
              replace GT := Lib.hid (GT.out.grown gY (by have := N1.out; have := HWs.out; have := N2.out; have := NO.out; have := NW.out; have := N9.out; omega))
              replace G3 := Lib.hid (G3.out.grown gY (by have := N1.out; have := HWs.out; have := N2.out; have := NO.out; have := NW.out; have := N9.out; omega))
              replace BB := Lib.hid (BB.out.grown gY BB.out.size (fun k hk => by cases hk; have := N1.out; have := HWs.out; have := N2.out; have := NO.out; have := NW.out; have := N9.out; omega))
              simp only [List.setIfInBounds_toArray, List.set_cons_zero, List.set_cons_succ] at kO
              replace KO := Lib.hid kO
              replace LO := tlz LO gY.size
              clear gY kO
              refine hK.out _ _ (HSS.out _ KS.out KX.out) (fun hHeld => ?_)
              clear hK K
              try simp only [getElem_toArray, getElem_cons_zero, getElem_cons_succ, Act.put, setIfInBounds_toArray, set_cons_zero, set_cons_succ]
              refine wpAnyH_done (by kernel_rfl) ?_ _
              clear hHeld
              go_wp2_with fail
              go_meet
              exact ⟨g3, c3, KO, LO, G3, GT, Lib.hid (by have := N1.out; have := N9.out; have := NO.out; omega), KS, LS, KR, LR, BB⟩
          · go_simp
            obtain ⟨V10, hV10⟩ : ∃ z, z = (wV.alloc (.cells #[.string x.k, .string x.v] 45)).drew := ⟨_, rfl⟩
            rw [← hV10]
            have bV10 : Below wV.heap.size wV V10 := by rw [hV10]; exact ((Below.refl _ _).alloc (Nat.le_refl _) _).drew
            have sV10 : Hid (V10.heap.size = wV.heap.size + 1) := Lib.hid (by rw [hV10]; simp)
            have yV10 : Hid (wV.heap.size ≤ V10.heap.size) := Lib.hid bV10.size
            replace KS := tkb bV10 LS KS
            replace LS := tlz LS bV10.size
            replace KX := tkb bV10 LX KX
            replace LX := tlz LX bV10.size
            replace KR := tkb bV10 LR KR
            replace LR := tlz LR bV10.size
            replace KO := tkb bV10 LO KO
            replace LO := tlz LO bV10.size
            replace GT := Lib.hid (GT.out.later bV10)
            replace BB := tbt BB bV10
            have KB : Hid (V10.heap[wV.heap.size]? = some (.cells #[.string x.k, .string x.v] 45 (0, 0))) := Lib.hid (by rw [hV10]; exact heap_new _ _)
            have LB : Hid (wV.heap.size < V10.heap.size) := Lib.hid (by have := sV10.out; omega)
            have yB : Hid (wV.heap.size ≤ wV.heap.size) := Lib.hid (Nat.le_refl _)
            clear bV10 hV10
            refine hK.out _ _ (HSS.out _ KS.out KX.out) (fun hHeld => ?_)
            clear hK K
            refine rd1 0 (fun K hK => ?_)
            go_simp
            obtain ⟨V11, hV11⟩ : ∃ z, z = V10.alloc (.cells #[] 45) := ⟨_, rfl⟩
            rw [← hV11]
            have bV11 : Below V10.heap.size V10 V11 := by rw [hV11]; exact ((Below.refl _ _).alloc (Nat.le_refl _) _)
            have sV11 : Hid (V11.heap.size = V10.heap.size + 1) := Lib.hid (by rw [hV11]; simp)
            have yV11 : Hid (wV.heap.size ≤ V11.heap.size) := Lib.hid (Nat.le_trans yV10.out bV11.size)
            replace KS := tkb bV11 LS KS
            replace LS := tlz LS bV11.size
            replace KX := tkb bV11 LX KX
            replace LX := tlz LX bV11.size
            replace KR := tkb bV11 LR KR
            replace LR := tlz LR bV11.size
            replace KO := tkb bV11 LO KO
            replace LO := tlz LO bV11.size
            replace KB := tkb bV11 LB KB
            replace LB := tlz LB bV11.size
            replace GT := Lib.hid (GT.out.later bV11)
            replace BB := tbt BB bV11
            have KE : Hid (V11.heap[V10.heap.size]? = some (.cells #[] 45 (0, 0))) := Lib.hid (by rw [hV11]; exact heap_new _ _)
            have LE : Hid (V10.heap.size < V11.heap.size) := Lib.hid (by have := sV11.out; omega)
            have yE : Hid (wV.heap.size ≤ V10.heap.size) := yV10
            clear bV11 hV11
            refine hK.out _ _ (HSS.out _ KS.out KX.out) (fun hHeld => ?_)
            clear hK K
            try simp only [getElem_toArray, getElem_cons_zero, getElem_cons_succ, Act.put, setIfInBounds_toArray, set_cons_zero, set_cons_succ]
            refine rd1 5 (fun K hK => ?_)
            refine step_app0 rfl (.tmp 53) (.tmp 57) 24 rfl 45 i0 _ 2 32 Tryz.underlying24 p1 p2 p3 p4 rfl (by decide) V10.heap.size W.heap.size (by have := yE.out; have := NW.out; omega) LE.out (by simp [Act.eval]) _ (by simp [Act.eval]) w.heap.size k _ (raw1.out V11 BB.out) len1.out one1.out (by unfold maxLen; omega) (by omega) ?_
            intro g1 c1 V12 bV12 e1 got1
            have yV12 : Hid (wV.heap.size ≤ V12.heap.size) := Lib.hid (Nat.le_trans yV11.out bV12.size)
            have N5 : Hid (wV.heap.size ≤ g1) := Lib.hid (by have := yE.out; have := yV11.out; omega)
            replace KS := tkb bV12 LS KS
            replace LS := tlz LS bV12.size
            replace KX := tkb bV12 LX KX
            replace LX := tlz LX bV12.size
            replace KR := tkb bV12 LR KR
            replace LR := tlz LR bV12.size
            replace KO := tkb bV12 LO KO
            replace LO := tlz LO bV12.size
            replace KB := tkb bV12 LB KB
            replace LB := tlz LB bV12.size
            replace KE := tkb bV12 LE KE
            replace LE := tlz LE bV12.size
            replace GT := Lib.hid (GT.out.later bV12)
            replace BB := tbt BB bV12
            have G1 := Lib.hid got1
            clear got1 e1 bV12
            refine hK.out _ _ (HSS.out _ KS.out KX.out) (fun hHeld => ?_)
            clear hK K
            try simp only [getElem_toArray, getElem_cons_zero, getElem_cons_succ, Act.put, setIfInBounds_toArray, set_cons_zero, set_cons_succ]
            refine rd1 8 (fun K hK => ?_)
            have rX : Raw V12 V12.heap.size (.slice (some ⟨wV.heap.size, 0, none⟩) 1 1) 1 (itC x) := ⟨_, 1, rfl, Nat.le_refl _, by unfold maxLen; omega, (fun h => by cases h), fun _ => ⟨wV.heap.size, 0, rfl, LB.out, fun j u hu => by rw [Nat.zero_add, cell_of_row V12 _ j _ _ _ KB.out]; simpa [itC] using hu⟩⟩
            refine step_app rfl (.tmp 58) (.tmp 60) 24 rfl 45 i0 _ 2 32 Tryz.underlying24 p1 p2 p3 p4 rfl (by decide) g1 k c1 W.heap.size _ G1.out (by simp [Act.eval]) _ (by simp [Act.eval]) V12.heap.size 1 _ rX (by simp [itC]) (fun u hu => one_it [x] u (by simpa using hu)) (by unfold maxLen; omega) (by omega) ?_
            intro g2 c2 V13 rV13 e2 got2
            clear rX
            have N8 : Hid (wV.heap.size ≤ g2) := Lib.hid (by have := N5.out; have := yV12.out; omega)
            have yV13 : Hid (wV.heap.size ≤ V13.heap.size) := Lib.hid (Nat.le_trans yV12.out rV13.size)
            replace KS := tkg rV13 LS KS (by simp; have := N1.out; have := HWs.out; have := N2.out; have := NO.out; have := NW.out; have := N5.out; omega)
            replace LS := tlz LS rV13.size
            replace KX := tkg rV13 LX KX (by simp; have := N1.out; have := HWs.out; have := N2.out; have := NO.out; have := NW.out; have := N5.out; omega)
            replace LX := tlz LX rV13.size
            replace KR := tkg rV13 LR KR (by simp; have := N1.out; have := HWs.out; have := N2.out; have := NO.out; have := NW.out; have := N5.out; omega)
            replace LR := tlz LR rV13.size
            replace KO := tkg rV13 LO KO (by simp; have := N1.out; have := HWs.out; have := N2.out; have := NO.out; have := NW.out; have := N5.out; omega)
            replace LO := tlz LO rV13.size
            replace GT := Lib.hid (GT.out.grown rV13 (by have := N1.out; have := HWs.out; have := N2.out; have := NO.out; have := NW.out; have := N5.out; omega))
            replace BB := Lib.hid (BB.out.grown rV13 BB.out.size (fun k hk => by cases hk; have := N1.out; have := HWs.out; have := N2.out; have := NO.out; have := NW.out; have := N5.out; omega))
            have G2 := Lib.hid got2
            clear got2 e2 rV13 G1
            refine hK.out _ _ (HSS.out _ KS.out KX.out) (fun hHeld => ?_)
            clear hK K
            try simp only [getElem_toArray, getElem_cons_zero, getElem_cons_succ, Act.put, setIfInBounds_toArray, set_cons_zero, set_cons_succ]
            refine rd1 13 (fun K hK => ?_)
            refine step_app rfl (.tmp 61) (.tmp 65) 24 rfl 45 i0 _ 2 32 Tryz.underlying24 p1 p2 p3 p4 rfl (by decide) g2 (k + 1) c2 W.heap.size _ G2.out (by simp [Act.eval]) _ (by simp [Act.eval]) w.heap.size (n - k) _ (raw2.out V13 BB.out) len2.out one2.out (by unfold maxLen; omega) (by omega) ?_
            intro g3 c3 V14 rV14 e3 got3
            have N9 : Hid (wV.heap.size ≤ g3) := Lib.hid (by have := N8.out; have := yV13.out; omega)
            replace KS := tkg rV14 LS KS (by simp; have := N1.out; have := HWs.out; have := N2.out; have := NO.out; have := NW.out; have := N8.out; omega)
            replace LS := tlz LS rV14.size
            replace KX := tkg rV14 LX KX (by simp; have := N1.out; have := HWs.out; have := N2.out; have := NO.out; have := NW.out; have := N8.out; omega)
            replace LX := tlz LX rV14.size
            replace KR := tkg rV14 LR KR (by simp; have := N1.out; have := HWs.out; have := N2.out; have := NO.out; have := NW.out; have := N8.out; omega)
            replace LR := tlz LR rV14.size
            replace KO := tkg rV14 LO KO (by simp; have := N1.out; have := HWs.out; have := N2.out; have := NO.out; have := NW.out; have := N8.out; omega)
            replace LO := tlz LO rV14.size
            replace GT := Lib.hid (GT.out.grown rV14 (by have := N1.out; have := HWs.out; have := N2.out; have := NO.out; have := NW.out; have := N8.out; omega))
            replace BB := Lib.hid (BB.out.grown rV14 BB.out.size (fun k hk => by cases hk; have := N1.out; have := HWs.out; have := N2.out; have := NO.out; have := NW.out; have := N8.out; omega))
            rw [hlen.out] at got3 ⊢
            rw [← hfl.out] at got3
            have G3 := Lib.hid got3
            clear got3 e3 rV14 G2
            refine hK.out _ _ (HSS.out _ KS.out KX.out) (fun hHeld => ?_)
            clear hK K
            refine tk0 14 ?_
            have fO0 := tcr KO 0
            have zO0 := tfr KO 0
            have fO1 := tcr KO 1
            have zO1 := tfr KO 1
            refine rd1 15 (fun K hK => ?_)
            go_simp
            obtain ⟨Y, hY⟩ : ∃ Y, Y = V14.setCell ⟨w1.heap.size, 0, none⟩ (.slice (some ⟨g3, 0, none⟩) (putI s.items x).length c3) := ⟨_, rfl⟩
            rw [← hY]
            have kO := heap_setCell_same _ w1.heap.size 0 _ _ (.slice (some ⟨g3, 0, none⟩) (putI s.items x).length c3) KO.out
            rw [← hY] at kO
            have gY : V14.grownBy Y (some w1.heap.size) := by rw [hY]; exact grown_set V14 ⟨w1.heap.size, 0, none⟩ (.slice (some ⟨g3, 0, none⟩) (putI s.items x).length c3)
            clear fO0 fO1 zO0 zO1 hY
            replace KS := tkg gY LS KS (by simp; have := N1.out; have := HWs.out; have := N2.out; have := NO.out; have := NW.out; have := N9.out; omega)
            replace LS := tlz LS gY.size
            replace KX := tkg gY LX KX (by simp; have := N1.out; have := HWs.out; have := N2.out; have := NO.out; have := NW.out; have := N9.out; omega)
            replace LX := tlz LX gY.size
            replace KR := tkg gY LR KR (by simp; have := N1.out; have := HWs.out; have := N2.out; have := NO.out; have := NW.out; have := N9.out; omega)
            replace LR := tlz LR gY.size
            replace GT := Lib.hid (GT.out.grown gY (by have := N1.out; have := HWs.out; have := N2.out; have := NO.out; have := NW.out; have := N9.out; omega))
            replace G3 := Lib.hid (G3.out.grown gY (by have := N1.out; have := HWs.out; have := N2.out; have := NO.out; have := NW.out; have := N9.out; omega))
            replace BB := Lib.hid (BB.out.grown gY BB.out.size (fun k hk => by cases hk; have := N1.out; have := HWs.out; have := N2.out; have := NO.out; have := NW.out; have := N9.out; omega))
            simp only [List.setIfInBounds_toArray, List.set_cons_zero, List.set_cons_succ] at kO
            replace KO := Lib.hid kO
            replace LO := tlz LO gY.size
            clear gY kO
            refine hK.out _ _ (HSS.out _ KS.out KX.out) (fun hHeld => ?_)
            clear hK K
            try simp only [getElem_toArray, getElem_cons_zero, getElem_cons_succ, Act.put, setIfInBounds_toArray, set_cons_zero, set_cons_succ]
            refine wpAnyH_done (by kernel_rfl) ?_ _
            clear hHeld
            go_wp2_with fail
            go_meet
            exact ⟨g3, c3, KO, LO, G3, GT, Lib.hid (by have := N1.out; have := N9.out; have := NO.out; omega), KS, LS, KR, LR, BB⟩
        · have hkl : k < s.items.length := by
            have h := HE.out
            by_cases hk : k < s.items.length
            · exact hk
            · rw [List.getElem?_eq_none (by omega)] at h; simp at h
          obtain ⟨y, hy⟩ : ∃ y, y = s.items[k] := ⟨_, rfl⟩
          have Hy := Lib.hid hy
          clear hy
          have hput : Hid (putI s.items x = s.items.take k ++ x :: s.items.drop (k + 1)) := Lib.hid (by unfold putI; rw [hpos.out, if_pos (by simpa using HE.out)])
          clear HE hpos
          have hown := GI.out.2.2.2.2.2.resolve_left (by have := HN.out; omega)
          have hA : At wV gi 0 (s.items.flatMap itC) := fun j u hu => by have h := hown.cells (g := gi) rfl j u hu; rwa [add_flat] at h
          have hcy := hA.item k hkl
          rw [← Hy.out] at hcy
          simp only [Nat.zero_add] at hcy
          obtain ⟨c0, c1⟩ := hcy
          have z0 := World.ownsRow.frozenAt hown (k * 2)
          have z1 := World.ownsRow.frozenAt hown (k * 2 + 1)
          skip
          have hset := hown.stored (k * 2) (.string x.k)
          have hset1 := hset.1.stored (k * 2 + 1) (.string x.v)
          skip
          have hnew := hset1.1
          have hgr := hset.2.trans hset1.2
          rw [flat_at_it s.items k hkl, ← Hy.out, set_two _ _ _ _ _ (by rw [flat_len_it, List.length_take]; omega)] at hnew
          have hfl : (putI s.items x).flatMap itC = (s.items.take k).flatMap itC ++ Value.string x.k :: Value.string x.v :: (s.items.drop (k + 1)).flatMap itC := by rw [hput.out, List.flatMap_append, List.flatMap_cons]; rfl
          have hlen : (putI s.items x).length = s.items.length := by rw [hput.out]; simp only [List.length_append, List.length_cons, List.length_take, List.length_drop]; omega
          rw [← hfl] at hnew
          have Hnew := Lib.hid hnew
          have Hgr := Lib.hid hgr
          have Hlen := Lib.hid hlen
          clear hnew hgr hfl hlen hown hA hset hset1
          have fO0 := tcr KO 0
          have fO1 := tcr KO 1
          have fX0 := tcr KX 0
          have fX1 := tcr KX 1
          skip
          have hkn : (k : Int) < (s.items.length : Int) := by omega
          have hkn' : k < s.items.length := hkl
          have hg1 : ¬ w1.heap.size = gi := by have := N1.out; omega
          have hg2 : ¬ gi = w1.heap.size := by have := N1.out; omega
          obtain ⟨Y, hY⟩ : ∃ Y, Y = (wV.setCell ⟨gi, k * 2, none⟩ (.string x.k)).setCell ⟨gi, k * 2 + 1, none⟩ (.string x.v) := ⟨_, rfl⟩
          have hgr := Hgr.out
          have hnew := Hnew.out
          rw [← hY] at hgr hnew
          have GN : Hid (Got Y W.heap.size 45 2 gi (putI s.items x).length ci ((putI s.items x).flatMap itC)) := Lib.hid (by rw [Hlen.out]; exact ⟨hnew.1, GI.out.2.1, GI.out.2.2.1, GI.out.2.2.2.1, Nat.lt_of_lt_of_le GI.out.2.2.2.2.1 hgr.size, .inr hnew⟩)
          replace KS := tkg hgr LS KS (by simp; have := N1.out; have := HWs.out; have := N2.out; omega)
          replace LS := tlz LS hgr.size
          replace KX := tkg hgr LX KX (by simp; have := N1.out; have := HWs.out; have := N2.out; omega)
          replace LX := tlz LX hgr.size
          replace KR := tkg hgr LR KR (by simp; have := N1.out; have := HWs.out; have := N2.out; omega)
          replace LR := tlz LR hgr.size
          replace KO := tkg hgr LO KO (by simp; have := N1.out; have := HWs.out; have := N2.out; omega)
          replace LO := tlz LO hgr.size
          replace GT := Lib.hid (GT.out.grown hgr (by have := N1.out; have := HWs.out; have := N2.out; omega))
          replace BB := Lib.hid (BB.out.grown hgr BB.out.size (fun k hk => by cases hk; have := N1.out; have := HWs.out; have := N2.out; omega))
          clear hgr hnew Hnew Hgr
          go_wp2_with fail
          go_meet
          rw [← hY]
          exact ⟨gi, ci, Lib.hid (by rw [Hlen.out]; exact KO.out), LO, GN, GT, Lib.hid (by have := hne; first | exact this | exact fun h => this h.symm), KS, LS, KR, LR, BB⟩
      case rest =>
        obtain ⟨gN, cN, KO, LO, GN, G2, NE, KS, LS, KR, LR, BB⟩ := hcut
        obtain ⟨Y, rfl⟩ : ∃ z, z = wc := ⟨_, rfl⟩
        have hsv : StV Y Y.heap.size (.agg #[.slice (some ⟨gN, 0, none⟩) (putI s.items x).length cN, .slice (some ⟨gt, 0, none⟩) s.talks.length ct]) r := by
          rw [Hr.out]
          exact ⟨_, _, rfl, row_of_got GN.out, row_of_got G2.out⟩
        have fO0 := tcr KO 0
        have fO1 := tcr KO 1
        have hc5 := spec_stateOk r _ Y.heap.size Y hsv (Nat.le_refl _) Htr.out
        go_wp2_with (go_at_call 14; refine hc5.mono ?_; rintro e w5 ⟨rfl, hb5⟩; refine Hid.out ?_)
        refine Lib.hid ?_
        clear hsv fO0 fO1
        replace KS := tkb hb5 LS KS
        replace LS := tlz LS hb5.size
        replace KR := tkb hb5 LR KR
        replace LR := tlz LR hb5.size
        replace KO := tkb hb5 LO KO
        replace LO := tlz LO hb5.size
        replace GN := Lib.hid (GN.out.later hb5)
        replace G2 := Lib.hid (G2.out.later hb5)
        replace BB := tbt BB hb5
        clear hc5 hb5
        by_cases hok2 : stOk r = true
        · have hd : Hid (chg s r = r ∧ chgB s r = true) := Lib.hid ⟨if_pos ⟨hok, hok2⟩, by unfold chgB; rw [hok, hok2]; rfl⟩
          have fO0 := tcr KO 0
          have zO0 := tfr KO 0
          have fO1 := tcr KO 1
          have zO1 := tfr KO 1
          have fR0 := tcr KR 0
          have zR0 := tfr KR 0
          have fR1 := tcr KR 1
          have zR1 := tfr KR 1
          go_wp2_with fail
          clear fR0 fR1 zR0 zR1 fO0 fO1 zO0 zO1
          have f1 := heap_setCell_same _ (w.heap.size + 1 + 1) 0 _ _ (.slice (some ⟨gN, 0, none⟩) (putI s.items x).length cN) KR.out
          have f2 := heap_setCell_same _ (w.heap.size + 1 + 1) 1 _ _ (.slice (some ⟨gt, 0, none⟩) s.talks.length ct) f1
          obtain ⟨j0, q1, q2, q3, q4⟩ := info_parts infoSt
          have hn1 := N1.out
          have hn3 := HWs.out
          have bI := GN.out.2.2.2.1
          have bT := G2.out.2.2.2.1
          refine bodyPost_ret (results_cell_row2 (P := Tryz.prog) rfl _ _ (w.heap.size + 1 + 1) _ _ (0, 0) _ _ rfl rfl f2 Tryz.underlying27 rfl (by rw [q1]; simp [q3])) rfl ⟨.agg #[.slice (some ⟨gN, 0, none⟩) (putI s.items x).length cN, .slice (some ⟨gt, 0, none⟩) s.talks.length ct], (by rw [hd.out.2]; rfl), ?_, ?_⟩
          · rw [hd.out.1, Hr.out]
            exact ⟨gN, cN, gt, ct, (by rfl), NE.out, ((GN.out.base (by omega)).set (by omega) _).set (by omega) _, ((G2.out.base (by omega)).set (by omega) _).set (by omega) _⟩
          · exact (BB.out.setCell (p := ⟨w.heap.size + 1 + 1, 0, none⟩) (show w.heap.size ≤ w.heap.size + 1 + 1 by omega) _).setCell (p := ⟨w.heap.size + 1 + 1, 1, none⟩) (show w.heap.size ≤ w.heap.size + 1 + 1 by omega) _
        · have hok' : stOk r = false := by simpa using hok2
          have hd : Hid (chg s r = s ∧ chgB s r = false) := Lib.hid ⟨if_neg (fun h => hok2 h.2), by unfold chgB; rw [hok', Bool.and_false]⟩
          clear hok2
          have fS0 := tcr KS 0
          have fS1 := tcr KS 1
          have hc6 := spec_copy s _ B w5 (HS.out.rd.later (BB.out.mono hB) (Nat.le_refl _)) (Nat.le_trans hB BB.out.size) Hf.out
          go_wp2_with (go_at_call 113; refine hc6.mono ?_; rintro e w6 ⟨v6, rfl, ho6, hb6⟩; refine Hid.out ?_)
          refine Lib.hid ?_
          obtain ⟨li, di, lt, dt, rfl, hne6, gotI6, gotT6⟩ := ho6
          have N6 : Hid (W.heap.size ≤ w5.heap.size) := Lib.hid (by have := LO.out; have := N2.out; omega)
          clear fS0 fS1 hc6
          replace KS := tkb hb6 LS KS
          replace LS := tlz LS hb6.size
          replace KR := tkb hb6 LR KR
          replace LR := tlz LR hb6.size
          replace KO := tkb hb6 LO KO
          replace LO := tlz LO hb6.size
          replace GN := Lib.hid (GN.out.later hb6)
          replace G2 := Lib.hid (G2.out.later hb6)
          replace BB := tbt BB hb6
          have G6 := Lib.hid gotI6
          have T6 := Lib.hid gotT6
          clear gotI6 gotT6 hb6
          have fR0 := tcr KR 0
          have zR0 := tfr KR 0
          have fR1 := tcr KR 1
          have zR1 := tfr KR 1
          go_wp2_with fail
          clear fR0 fR1 zR0 zR1
          have f1 := heap_setCell_same _ (w.heap.size + 1 + 1) 0 _ _ (Value.slice (some ⟨li, 0, none⟩) s.items.length di) KR.out
          have f2 := heap_setCell_same _ (w.heap.size + 1 + 1) 1 _ _ (Value.slice (some ⟨lt, 0, none⟩) s.talks.length dt) f1
          obtain ⟨j0, q1, q2, q3, q4⟩ := info_parts infoSt
          have hn6 := N6.out
          have hn3 := HWs.out
          have bI := G6.out.2.2.2.1
          have bT := T6.out.2.2.2.1
          refine bodyPost_ret (results_cell_row2 (P := Tryz.prog) rfl _ _ (w.heap.size + 1 + 1) _ _ (0, 0) _ _ rfl rfl f2 Tryz.underlying27 rfl (by rw [q1]; simp [q3])) rfl ⟨.agg #[Value.slice (some ⟨li, 0, none⟩) s.items.length di, Value.slice (some ⟨lt, 0, none⟩) s.talks.length dt], (by rw [hd.out.2]; rfl), ?_, ?_⟩
          · rw [hd.out.1]
            exact ⟨li, di, lt, dt, rfl, hne6, ((G6.out.base (by omega)).set (by omega) _).set (by omega) _, ((T6.out.base (by omega)).set (by omega) _).set (by omega) _⟩
          · exact (BB.out.setCell (p := ⟨w.heap.size + 1 + 1, 0, none⟩) (show w.heap.size ≤ w.heap.size + 1 + 1 by omega) _).setCell (p := ⟨w.heap.size + 1 + 1, 1, none⟩) (show w.heap.size ≤ w.heap.size + 1 + 1 by omega) _

set_option maxRecDepth 100000 in
set_option maxHeartbeats 8000000 in
theorem spec_putItemNil (s : St) (vt : Value) (x : It) (B : Nat) (w : World) (hi : s.items = []) (hs : StV w B (.agg #[.slice none 0 0, vt]) s) (hB : B ≤ w.heap.size) (hf : Few s) (hts : Fits s) (hx : FitIt x) :
    Calls Tryz.prog 91 #[.agg #[.slice none 0 0, vt], itA x] w fun e w' => ∃ v', e = .returned (.tuple #[v', .bool (chgB s (putSI s x))]) ∧ OwnC w' w.heap.size v' (chg s (putSI s x)) ∧ Below w.heap.size w w' := by
  have HI := Lib.hid hi
  clear hi
  have HS := Lib.hid hs
  unfold itA
  obtain ⟨r, hr⟩ : ∃ r, r = putSI s x := ⟨_, rfl⟩
  have Hr := Lib.hid hr
  rw [← hr]
  obtain ⟨W, hW⟩ : ∃ W, W = ((w.alloc (.cells #[.slice none 0 0, vt] 27)).alloc (.cells #[.string x.k, .string x.v] 45)).alloc (.cells #[.slice none 0 0, .slice none 0 0] 27) := ⟨_, rfl⟩
  have hbW : Below w.heap.size w W := by rw [hW]; exact (((Below.refl _ _).alloc (Nat.le_refl _) _).alloc (by simp) _).alloc (by simp; omega) _
  have hWs : W.heap.size = w.heap.size + 3 := by rw [hW]; simp
  have KS : Hid (W.heap[w.heap.size]? = some (.cells #[.slice none 0 0, vt] 27 (0, 0))) := Lib.hid (by rw [hW, Below.heap_alloc _ _ _ (by simp; omega), Below.heap_alloc _ _ _ (by simp)]; exact heap_new _ _)
  have KX : Hid (W.heap[w.heap.size + 1]? = some (.cells #[.string x.k, .string x.v] 45 (0, 0))) := Lib.hid (by rw [hW, Below.heap_alloc _ _ _ (by simp)]; simpa using heap_new (w.alloc (.cells #[.slice none 0 0, vt] 27)) (.cells #[.string x.k, .string x.v] 45))
  have KR : Hid (W.heap[w.heap.size + 1 + 1]? = some (.cells #[.slice none 0 0, .slice none 0 0] 27 (0, 0))) := Lib.hid (by rw [hW]; simpa using heap_new ((w.alloc (.cells #[.slice none 0 0, vt] 27)).alloc (.cells #[.string x.k, .string x.v] 45)) (.cells #[.slice none 0 0, .slice none 0 0] 27))
  have LS : Hid (w.heap.size < W.heap.size) := Lib.hid (by omega)
  have LX : Hid (w.heap.size + 1 < W.heap.size) := Lib.hid (by omega)
  have LR : Hid (w.heap.size + 1 + 1 < W.heap.size) := Lib.hid (by omega)
  have BB := Lib.hid hbW
  have HWs := Lib.hid hWs
  have Hf := Lib.hid hf
  have Hts := Lib.hid hts
  have Htr : Hid (Fits r) := Lib.hid (by
    rw [hr]
    exact fits_putSI hts hx)
  clear hbW hWs hf hts hr hs
  have fS0 := tcr KS 0
  have fS1 := tcr KS 1
  have hc0 := spec_copy s _ B W (HS.out.rd.later (BB.out.mono hB) (Nat.le_refl _)) (Nat.le_trans hB BB.out.size) Hf.out
  rw [hW] at hc0 fS0 fS1
  go_enter Tryz.func91, Tryz.ntmps91
  go_wp2_with (go_at_call 113; refine hc0.mono ?_; rintro e w1 ⟨v1, rfl, ho1, hb1⟩; refine Hid.out ?_)
  refine Lib.hid ?_
  rw [← hW] at ho1 hb1
  obtain ⟨gi, ci, gt, ct, rfl, hne, gotI, gotT⟩ := ho1
  clear fS0 fS1
  replace KS := tkb hb1 LS KS
  replace LS := tlz LS hb1.size
  replace KX := tkb hb1 LX KX
  replace LX := tlz LX hb1.size
  replace KR := tkb hb1 LR KR
  replace LR := tlz LR hb1.size
  replace BB := tbt BB hb1
  have GI := Lib.hid gotI
  have GT := Lib.hid gotT
  clear gotI gotT hb1 hc0 hW
  have N1 : Hid (gi < w1.heap.size ∧ gt < w1.heap.size ∧ W.heap.size ≤ gi ∧ W.heap.size ≤ gt) := Lib.hid ⟨GI.out.2.2.2.2.1, GT.out.2.2.2.2.1, GI.out.2.2.2.1, GT.out.2.2.2.1⟩
  obtain ⟨X1, hX1⟩ : ∃ x, x = w1.alloc (.cells #[.slice (some ⟨gi, 0, none⟩) s.items.length ci, .slice (some ⟨gt, 0, none⟩) s.talks.length ct] 27) := ⟨_, rfl⟩
  have bX1 : Below w1.heap.size w1 X1 := by rw [hX1]; exact (Below.refl _ _).alloc (Nat.le_refl _) _
  have sX1 : Hid (X1.heap.size = w1.heap.size + 1) := Lib.hid (by rw [hX1]; simp)
  replace KS := tkb bX1 LS KS
  replace LS := tlz LS bX1.size
  replace KX := tkb bX1 LX KX
  replace LX := tlz LX bX1.size
  replace KR := tkb bX1 LR KR
  replace LR := tlz LR bX1.size
  replace GI := Lib.hid (GI.out.later bX1)
  replace GT := Lib.hid (GT.out.later bX1)
  replace BB := tbt BB bX1
  have KO : Hid (X1.heap[w1.heap.size]? = some (.cells #[.slice (some ⟨gi, 0, none⟩) s.items.length ci, .slice (some ⟨gt, 0, none⟩) s.talks.length ct] 27 (0, 0))) := Lib.hid (by rw [hX1]; exact heap_new _ _)
  have LO : Hid (w1.heap.size < X1.heap.size) := Lib.hid (by have := sX1.out; omega)
  clear bX1
  have N2 : Hid (W.heap.size ≤ w1.heap.size) := Lib.hid (by have := N1.out; omega)
  have fS0 := tcr KS 0
  have fS1 := tcr KS 1
  have hc1 := spec_stateOk s _ B X1 (HS.out.later (BB.out.mono hB) (Nat.le_refl _)) (Nat.le_trans hB BB.out.size) Hts.out
  rw [hX1] at hc1 fS0 fS1
  go_wp2_with (go_at_call 14; refine hc1.mono ?_; rintro e w2 ⟨rfl, hb2⟩; refine Hid.out ?_)
  refine Lib.hid ?_
  rw [← hX1] at hb2
  clear fS0 fS1
  replace KS := tkb hb2 LS KS
  replace LS := tlz LS hb2.size
  replace KX := tkb hb2 LX KX
  replace LX := tlz LX hb2.size
  replace KR := tkb hb2 LR KR
  replace LR := tlz LR hb2.size
  replace KO := tkb hb2 LO KO
  replace LO := tlz LO hb2.size
  replace GI := Lib.hid (GI.out.later hb2)
  replace GT := Lib.hid (GT.out.later hb2)
  replace BB := tbt BB hb2
  clear hc1 hb2 hX1
  by_cases hok : stOk s = true
  case neg =>
    have hok' : stOk s = false := by simpa using hok
    have hd : Hid (chg s r = s ∧ chgB s r = false) := Lib.hid ⟨if_neg (fun h => hok h.1), by unfold chgB; rw [hok']; rfl⟩
    clear hok
    have fO0 := tcr KO 0
    have fO1 := tcr KO 1
    have zO0 := tfr KO 0
    have zO1 := tfr KO 1
    have fR0 := tcr KR 0
    have fR1 := tcr KR 1
    have zR0 := tfr KR 0
    have zR1 := tfr KR 1
    go_wp2_with fail
    clear fR0 fR1 zR0 zR1 fO0 fO1 zO0 zO1
    have f1 := heap_setCell_same _ (w.heap.size + 1 + 1) 0 _ _ (.slice (some ⟨gi, 0, none⟩) s.items.length ci) KR.out
    have f2 := heap_setCell_same _ (w.heap.size + 1 + 1) 1 _ _ (.slice (some ⟨gt, 0, none⟩) s.talks.length ct) f1
    obtain ⟨j0, q1, q2, q3, q4⟩ := info_parts infoSt
    have hn1 := N1.out
    have hn3 := HWs.out
    have bI := GI.out.2.2.2.1
    have bT := GT.out.2.2.2.1
    refine bodyPost_ret (results_cell_row2 (P := Tryz.prog) rfl _ _ (w.heap.size + 1 + 1) _ _ (0, 0) _ _ rfl rfl f2 Tryz.underlying27 rfl (by rw [q1]; simp [q3])) rfl ⟨.agg #[.slice (some ⟨gi, 0, none⟩) s.items.length ci, .slice (some ⟨gt, 0, none⟩) s.talks.length ct], (by rw [hd.out.2]; rfl), ?_, ?_⟩
    · rw [hd.out.1]
      exact ⟨gi, ci, gt, ct, rfl, hne, ((GI.out.base (by omega)).set (by omega) _).set (by omega) _, ((GT.out.base (by omega)).set (by omega) _).set (by omega) _⟩
    · exact (BB.out.setCell (p := ⟨w.heap.size + 1 + 1, 0, none⟩) (show w.heap.size ≤ w.heap.size + 1 + 1 by omega) _).setCell (p := ⟨w.heap.size + 1 + 1, 1, none⟩) (show w.heap.size ≤ w.heap.size + 1 + 1 by omega) _
  case pos =>
  rw [hok]
  go_upto_block 0 with fail
  go_cut [7] (fun i wx => i = .int .i64 0 ∧ Hid (Below w2.heap.size w2 wx))
  case first =>
    go_wp2_with fail
    go_loopw [7] (fun i wr => i = .int .i64 0 ∧ Hid (Below w2.heap.size w2 wr)) (fun _ _ => 0)
    case atStart => exact ⟨rfl, Lib.hid (Below.refl _ _)⟩
    case round =>
      obtain ⟨rfl, hbw⟩ := hrel
      replace KS := Lib.hid ((hbw.out.block _ LS.out).trans KS.out)
      replace LS := Lib.hid (Nat.lt_of_lt_of_le LS.out hbw.out.size)
      replace KX := Lib.hid ((hbw.out.block _ LX.out).trans KX.out)
      replace LX := Lib.hid (Nat.lt_of_lt_of_le LX.out hbw.out.size)
      replace KR := Lib.hid ((hbw.out.block _ LR.out).trans KR.out)
      replace LR := Lib.hid (Nat.lt_of_lt_of_le LR.out hbw.out.size)
      replace KO := Lib.hid ((hbw.out.block _ LO.out).trans KO.out)
      replace LO := Lib.hid (Nat.lt_of_lt_of_le LO.out hbw.out.size)
      replace GI := Lib.hid (GI.out.later hbw.out)
      replace GT := Lib.hid (GT.out.later hbw.out)
      replace BB := Lib.hid (BB.out.trans (hbw.out.mono BB.out.size))
      have HV : Hid (∀ w', Below wr.heap.size wr w' → (w'.cell? ⟨w.heap.size, 0, none⟩ = some (.slice none 0 0) ∧ w'.cell? ⟨w.heap.size, 1, none⟩ = some (vt)) ∧ w'.cell? ⟨w.heap.size + 1, 0, none⟩ = some (.string x.k) ∧ w'.cell? ⟨w.heap.size + 1, 1, none⟩ = some (.string x.v)) := Lib.hid (fun w' h => by
        have j0 := (h.block _ LS.out).trans KS.out
        have j1 := (h.block _ LX.out).trans KX.out
        exact ⟨⟨by simpa using cell_of_row w' _ 0 _ _ _ j0, by simpa using cell_of_row w' _ 1 _ _ _ j0⟩, by simpa using cell_of_row w' _ 0 _ _ _ j1, by simpa using cell_of_row w' _ 1 _ _ _ j1⟩)
      go_wp2_with fail
      refine wp_region_held_drew (S := (fun w' => Below wr.heap.size wr w')) (by kernel_rfl) ((Below.refl wr.heap.size wr).drew) (fun hHeld => ?_)
      refine tk0 0 ?_
      refine tk0 1 ?_
      refine tk 2 (v := ?_) ?_ ?_; rotate_left
      · refine Or.inl ⟨by rfl, ?_⟩; intro w hSw; have f0 := HV.out w hSw; go_simp; first | done | with_reducible rfl
      refine tk0 3 ?_
      refine tk0 4 ?_
      refine tk0 5 ?_
      refine tku 6 ?_
      refine tku 7 ?_
      refine tku 8 ?_
      refine tku 9 ?_
      refine tku 10 ?_
      refine tku 11 ?_
      refine tku 12 ?_
      refine tku 13 ?_
      refine tku 14 ?_
      refine tk0 15 ?_
      refine wpAnyH_done (by kernel_rfl) ?_ _
      go_wp2_with fail
      go_meet
      exact ⟨rfl, Lib.hid (hbw.out.trans (hHeld.mono hbw.out.size))⟩
  case rest =>
    obtain ⟨rfl, hbw⟩ := hcut
    obtain ⟨wA, rfl⟩ : ∃ z, z = wc := ⟨_, rfl⟩
    replace KS := Lib.hid ((hbw.out.block _ LS.out).trans KS.out)
    replace LS := Lib.hid (Nat.lt_of_lt_of_le LS.out hbw.out.size)
    replace KX := Lib.hid ((hbw.out.block _ LX.out).trans KX.out)
    replace LX := Lib.hid (Nat.lt_of_lt_of_le LX.out hbw.out.size)
    replace KR := Lib.hid ((hbw.out.block _ LR.out).trans KR.out)
    replace LR := Lib.hid (Nat.lt_of_lt_of_le LR.out hbw.out.size)
    replace KO := Lib.hid ((hbw.out.block _ LO.out).trans KO.out)
    replace LO := Lib.hid (Nat.lt_of_lt_of_le LO.out hbw.out.size)
    replace GI := Lib.hid (GI.out.later hbw.out)
    replace GT := Lib.hid (GT.out.later hbw.out)
    replace BB := Lib.hid (BB.out.trans (hbw.out.mono BB.out.size))
    clear hbw
    go_wp2_with fail
    go_cut [47] (fun b wx => b = .bool false ∧ Hid (Below wA.heap.size wA wx))
    case first =>
      have HV : Hid (∀ w', Below wA.heap.size wA w' → (w'.cell? ⟨w.heap.size, 0, none⟩ = some (.slice none 0 0) ∧ w'.cell? ⟨w.heap.size, 1, none⟩ = some (vt)) ∧ w'.cell? ⟨w.heap.size + 1, 0, none⟩ = some (.string x.k) ∧ w'.cell? ⟨w.heap.size + 1, 1, none⟩ = some (.string x.v)) := Lib.hid (fun w' h => by
        have j0 := (h.block _ LS.out).trans KS.out
        have j1 := (h.block _ LX.out).trans KX.out
        exact ⟨⟨by simpa using cell_of_row w' _ 0 _ _ _ j0, by simpa using cell_of_row w' _ 1 _ _ _ j0⟩, by simpa using cell_of_row w' _ 0 _ _ _ j1, by simpa using cell_of_row w' _ 1 _ _ _ j1⟩)
      refine wp_region_held_drew (S := (fun w' => Below wA.heap.size wA w')) (by kernel_rfl) ((Below.refl wA.heap.size wA).drew) (fun hHeld => ?_)
      refine tk0 0 ?_
      refine tk0 1 ?_
      refine tk 2 (v := ?_) ?_ ?_; rotate_left
      · refine Or.inl ⟨by rfl, ?_⟩; intro w hSw; have f0 := HV.out w hSw; go_simp; first | done | with_reducible rfl
      refine tk0 3 ?_
      refine tk0 4 ?_
      refine tk0 5 ?_
      refine tku 6 ?_
      refine tku 7 ?_
      refine tku 8 ?_
      refine tku 9 ?_
      refine tku 10 ?_
      refine tku 11 ?_
      refine tku 12 ?_
      refine tku 13 ?_
      refine tku 14 ?_
      refine tk0 15 ?_
      refine wpAnyH_done (by kernel_rfl) ?_ _
      go_wp2_with fail
      go_meet
      exact ⟨rfl, Lib.hid hHeld⟩
    case rest =>
      obtain ⟨rfl, hbw2⟩ := hcut
      obtain ⟨wV, rfl⟩ : ∃ z, z = wc := ⟨_, rfl⟩
      replace KS := Lib.hid ((hbw2.out.block _ LS.out).trans KS.out)
      replace LS := Lib.hid (Nat.lt_of_lt_of_le LS.out hbw2.out.size)
      replace KX := Lib.hid ((hbw2.out.block _ LX.out).trans KX.out)
      replace LX := Lib.hid (Nat.lt_of_lt_of_le LX.out hbw2.out.size)
      replace KR := Lib.hid ((hbw2.out.block _ LR.out).trans KR.out)
      replace LR := Lib.hid (Nat.lt_of_lt_of_le LR.out hbw2.out.size)
      replace KO := Lib.hid ((hbw2.out.block _ LO.out).trans KO.out)
      replace LO := Lib.hid (Nat.lt_of_lt_of_le LO.out hbw2.out.size)
      replace GI := Lib.hid (GI.out.later hbw2.out)
      replace GT := Lib.hid (GT.out.later hbw2.out)
      replace BB := Lib.hid (BB.out.trans (hbw2.out.mono BB.out.size))
      clear hbw2
      go_upto_if 47 with fail
      go_cut [] (fun wx => ∃ gN cN, Hid (wx.heap[w1.heap.size]? = some (.cells #[.slice (some ⟨gN, 0, none⟩) (putI s.items x).length cN, .slice (some ⟨gt, 0, none⟩) s.talks.length ct] 27 (0, 0))) ∧ Hid (w1.heap.size < wx.heap.size) ∧ Hid (Got wx W.heap.size 45 2 gN (putI s.items x).length cN ((putI s.items x).flatMap itC)) ∧ Hid (Got wx W.heap.size 65 3 gt s.talks.length ct (s.talks.flatMap tkC)) ∧ Hid (gN ≠ gt) ∧ Hid (wx.heap[w.heap.size]? = some (.cells #[.slice none 0 0, vt] 27 (0, 0))) ∧ Hid (w.heap.size < wx.heap.size) ∧ Hid (wx.heap[w.heap.size + 1 + 1]? = some (.cells #[.slice none 0 0, .slice none 0 0] 27 (0, 0))) ∧ Hid (w.heap.size + 1 + 1 < wx.heap.size) ∧ Hid (Below w.heap.size w wx))
      case first =>
        have HSS : Hid (∀ w' : World, w'.heap[w.heap.size]? = some (.cells #[.slice none 0 0, vt] 27 (0, 0)) → w'.heap[w.heap.size + 1]? = some (.cells #[.string x.k, .string x.v] 45 (0, 0)) → (w'.cell? ⟨w.heap.size, 0, none⟩ = some (.slice none 0 0) ∧ w'.cell? ⟨w.heap.size, 1, none⟩ = some (vt)) ∧ w'.cell? ⟨w.heap.size + 1, 0, none⟩ = some (.string x.k) ∧ w'.cell? ⟨w.heap.size + 1, 1, none⟩ = some (.string x.v)) := Lib.hid (fun w' j0 j1 => ⟨⟨by simpa using cell_of_row w' _ 0 _ _ _ j0, by simpa using cell_of_row w' _ 1 _ _ _ j0⟩, by simpa using cell_of_row w' _ 0 _ _ _ j1, by simpa using cell_of_row w' _ 1 _ _ _ j1⟩)
        have raw1 : Hid (∀ w', Below w.heap.size w w' → Raw w' w.heap.size (.slice none 0 0) 0 ([])) := Lib.hid (fun w' h => ⟨none, 0, rfl, Nat.le_refl _, Nat.zero_le _, fun _ => rfl, fun h => absurd h (Nat.lt_irrefl _)⟩)
        have raw2 : Hid (∀ w', Below w.heap.size w w' → Raw w' w.heap.size (.slice none 0 0) 0 ([])) := Lib.hid (fun w' h => ⟨none, 0, rfl, Nat.le_refl _, Nat.zero_le _, fun _ => rfl, fun h => absurd h (Nat.lt_irrefl _)⟩)
        have len1 : Hid (([] : List Value).length = 0 * 2) := Lib.hid rfl
        have len2 := len1
        have hlen : Hid (0 + 1 + 0 = (putI s.items x).length) := Lib.hid (by rw [HI.out]; simp [putI, posI])
        have hfl : Hid ((putI s.items x).flatMap itC = [] ++ itC x ++ []) := Lib.hid (by rw [HI.out]; simp [putI, posI])
        have one1 : Hid (∀ u ∈ ([] : List Value), u.oneCell' = true) := Lib.hid (fun u hu => by simp at hu)
        have one2 := one1
        have NO := LO
        have NW : Hid (W.heap.size ≤ wV.heap.size) := Lib.hid (by have := N2.out; have := LO.out; omega)
        obtain ⟨i0, p1, p2, p3, p4⟩ := info_parts infoIt
        go_wp2_with fail
        refine wp_region_held_drew (S := (fun w' => (w'.cell? ⟨w.heap.size, 0, none⟩ = some (.slice none 0 0) ∧ w'.cell? ⟨w.heap.size, 1, none⟩ = some (vt)) ∧ w'.cell? ⟨w.heap.size + 1, 0, none⟩ = some (.string x.k) ∧ w'.cell? ⟨w.heap.size + 1, 1, none⟩ = some (.string x.v))) (by kernel_rfl) (HSS.out wV.drew KS.out KX.out) (fun hHeld => ?_)
        refine tk0 1 ?_
        refine tk 2 (v := ?_) ?_ ?_; rotate_left
        · refine Or.inl ⟨by rfl, ?_⟩; intro w hSw; obtain ⟨⟨hS0, hS1⟩, hS2, hS3⟩ := hSw; go_simp; first | done | with_reducible rfl
        refine tk0 3 ?_
        refine tk0 4 ?_
        refine tk 6 (v := ?_) ?_ ?_; rotate_left
        · refine Or.inl ⟨by rfl, ?_⟩; intro w hSw; obtain ⟨⟨hS0, hS1⟩, hS2, hS3⟩ := hSw; go_simp; first | done | with_reducible rfl
        refine tk0 9 ?_
        refine tk 10 (v := ?_) ?_ ?_; rotate_left
        · refine Or.inl ⟨by rfl, ?_⟩; intro w hSw; obtain ⟨⟨hS0, hS1⟩, hS2, hS3⟩ := hSw; go_simp; first | done | with_reducible rfl
        refine tk0 11 ?_
        refine tk0 12 ?_
        refine rd2 0 7 (fun K hK => ?_) (fun K hK => ?_)
        · go_simp
          obtain ⟨V1, hV1⟩ : ∃ z, z = (wV.alloc (.cells #[] 45)).drew := ⟨_, rfl⟩
          rw [← hV1]
          have bV1 : Below wV.heap.size wV V1 := by rw [hV1]; exact ((Below.refl _ _).alloc (Nat.le_refl _) _).drew
          have sV1 : Hid (V1.heap.size = wV.heap.size + 1) := Lib.hid (by rw [hV1]; simp)
          have yV1 : Hid (wV.heap.size ≤ V1.heap.size) := Lib.hid bV1.size
          replace KS := tkb bV1 LS KS
          replace LS := tlz LS bV1.size
          replace KX := tkb bV1 LX KX
          replace LX := tlz LX bV1.size
          replace KR := tkb bV1 LR KR
          replace LR := tlz LR bV1.size
          replace KO := tkb bV1 LO KO
          replace LO := tlz LO bV1.size
          replace GT := Lib.hid (GT.out.later bV1)
          replace BB := tbt BB bV1
          have KE : Hid (V1.heap[wV.heap.size]? = some (.cells #[] 45 (0, 0))) := Lib.hid (by rw [hV1]; exact heap_new _ _)
          have LE : Hid (wV.heap.size < V1.heap.size) := Lib.hid (by have := sV1.out; omega)
          have yE : Hid (wV.heap.size ≤ wV.heap.size) := Lib.hid (Nat.le_refl _)
          clear bV1 hV1
          refine hK.out _ _ (HSS.out _ KS.out KX.out) (fun hHeld => ?_)
          clear hK K
          try simp only [getElem_toArray, getElem_cons_zero, getElem_cons_succ, Act.put, setIfInBounds_toArray, set_cons_zero, set_cons_succ]
          refine rd2 5 7 (fun K hK => ?_) (fun K hK => ?_)
          · refine step_app0 rfl (.tmp 53) (.tmp 57) 24 rfl 45 i0 _ 2 32 Tryz.underlying24 p1 p2 p3 p4 rfl (by decide) wV.heap.size W.heap.size (by have := yE.out; have := NW.out; omega) LE.out (by simp [Act.eval]) _ (by simp [Act.eval]) w.heap.size 0 _ (raw1.out V1 BB.out) len1.out one1.out (by unfold maxLen; omega) (by omega) ?_
            intro g1 c1 V2 bV2 e1 got1
            have yV2 : Hid (wV.heap.size ≤ V2.heap.size) := Lib.hid (Nat.le_trans yV1.out bV2.size)
            have N5 : Hid (wV.heap.size ≤ g1) := Lib.hid (by have := yE.out; have := yV1.out; omega)
            replace KS := tkb bV2 LS KS
            replace LS := tlz LS bV2.size
            replace KX := tkb bV2 LX KX
            replace LX := tlz LX bV2.size
            replace KR := tkb bV2 LR KR
            replace LR := tlz LR bV2.size
            replace KO := tkb bV2 LO KO
            replace LO := tlz LO bV2.size
            replace KE := tkb bV2 LE KE
            replace LE := tlz LE bV2.size
            replace GT := Lib.hid (GT.out.later bV2)
            replace BB := tbt BB bV2
            have G1 := Lib.hid got1
            clear got1 e1 bV2
            refine hK.out _ _ (HSS.out _ KS.out KX.out) (fun hHeld => ?_)
            clear hK K
            refine rd1 7 (fun K hK => ?_)
            go_simp
            obtain ⟨V3, hV3⟩ : ∃ z, z = V2.alloc (.cells #[.string x.k, .string x.v] 45) := ⟨_, rfl⟩
            rw [← hV3]
            have bV3 : Below V2.heap.size V2 V3 := by rw [hV3]; exact ((Below.refl _ _).alloc (Nat.le_refl _) _)
            have sV3 : Hid (V3.heap.size = V2.heap.size + 1) := Lib.hid (by rw [hV3]; simp)
            have yV3 : Hid (wV.heap.size ≤ V3.heap.size) := Lib.hid (Nat.le_trans yV2.out bV3.size)
            replace KS := tkb bV3 LS KS
            replace LS := tlz LS bV3.size
            replace KX := tkb bV3 LX KX
            replace LX := tlz LX bV3.size
            replace KR := tkb bV3 LR KR
            replace LR := tlz LR bV3.size
            replace KO := tkb bV3 LO KO
            replace LO := tlz LO bV3.size
            replace KE := tkb bV3 LE KE
            replace LE := tlz LE bV3.size
            replace GT := Lib.hid (GT.out.later bV3)
            replace G1 := Lib.hid (G1.out.later bV3)
            replace BB := tbt BB bV3
            have KB : Hid (V3.heap[V2.heap.size]? = some (.cells #[.string x.k, .string x.v] 45 (0, 0))) := Lib.hid (by rw [hV3]; exact heap_new _ _)
            have LB : Hid (V2.heap.size < V3.heap.size) := Lib.hid (by have := sV3.out; omega)
            have yB : Hid (wV.heap.size ≤ V2.heap.size) := yV2
            clear bV3 hV3
            refine hK.out _ _ (HSS.out _ KS.out KX.out) (fun hHeld => ?_)
            clear hK K
            try simp only [getElem_toArray, getElem_cons_zero, getElem_cons_succ, Act.put, setIfInBounds_toArray, set_cons_zero, set_cons_succ]
            refine rd1 8 (fun K hK => ?_)
            have rX : Raw V3 V3.heap.size (.slice (some ⟨V2.heap.size, 0, none⟩) 1 1) 1 (itC x) := ⟨_, 1, rfl, Nat.le_refl _, by unfold maxLen; omega, (fun h => by cases h), fun _ => ⟨V2.heap.size, 0, rfl, LB.out, fun j u hu => by rw [Nat.zero_add, cell_of_row V3 _ j _ _ _ KB.out]; simpa [itC] using hu⟩⟩
            refine step_app rfl (.tmp 58) (.tmp 60) 24 rfl 45 i0 _ 2 32 Tryz.underlying24 p1 p2 p3 p4 rfl (by decide) g1 0 c1 W.heap.size _ G1.out (by simp [Act.eval]) _ (by simp [Act.eval]) V3.heap.size 1 _ rX (by simp [itC]) (fun u hu => one_it [x] u (by simpa using hu)) (by unfold maxLen; omega) (by omega) ?_
            intro g2 c2 V4 rV4 e2 got2
            clear rX
            have N8 : Hid (wV.heap.size ≤ g2) := Lib.hid (by have := N5.out; have := yV3.out; omega)
            have yV4 : Hid (wV.heap.size ≤ V4.heap.size) := Lib.hid (Nat.le_trans yV3.out rV4.size)
            replace KS := tkg rV4 LS KS (by simp; have := N1.out; have := HWs.out; have := N2.out; have := NO.out; have := NW.out; have := N5.out; omega)
            replace LS := tlz LS rV4.size
            replace KX := tkg rV4 LX KX (by simp; have := N1.out; have := HWs.out; have := N2.out; have := NO.out; have := NW.out; have := N5.out; omega)
            replace LX := tlz LX rV4.size
            replace KR := tkg rV4 LR KR (by simp; have := N1.out; have := HWs.out; have := N2.out; have := NO.out; have := NW.out; have := N5.out; omega)
            replace LR := tlz LR rV4.size
            replace KO := tkg rV4 LO KO (by simp; have := N1.out; have := HWs.out; have := N2.out; have := NO.out; have := NW.out; have := N5.out; omega)
            replace LO := tlz LO rV4.size
            replace GT := Lib.hid (GT.out.grown rV4 (by have := N1.out; have := HWs.out; have := N2.out; have := NO.out; have := NW.out; have := N5.out; omega))
            replace BB := Lib.hid (BB.out.grown rV4 BB.out.size (fun k hk => by cases hk; have := N1.out; have := HWs.out; have := N2.out; have := NO.out; have := NW.out; have := N5.out; omega))
            have G2 := Lib.hid got2
            clear got2 e2 rV4 G1
            refine hK.out _ _ (HSS.out _ KS.out KX.out) (fun hHeld => ?_)
            clear hK K
            try simp only [getElem_toArray, getElem_cons_zero, getElem_cons_succ, Act.put, setIfInBounds_toArray, set_cons_zero, set_cons_succ]
            refine rd1 13 (fun K hK => ?_)
            refine step_app rfl (.tmp 61) (.tmp 65) 24 rfl 45 i0 _ 2 32 Tryz.underlying24 p1 p2 p3 p4 rfl (by decide) g2 (0 + 1) c2 W.heap.size _ G2.out (by simp [Act.eval]) _ (by simp [Act.eval]) w.heap.size 0 _ (raw2.out V4 BB.out) len2.out one2.out (by unfold maxLen; omega) (by omega) ?_
            intro g3 c3 V5 rV5 e3 got3
            have N9 : Hid (wV.heap.size ≤ g3) := Lib.hid (by have := N8.out; have := yV4.out; omega)
            replace KS := tkg rV5 LS KS (by simp; have := N1.out; have := HWs.out; have := N2.out; have := NO.out; have := NW.out; have := N8.out; omega)
            replace LS := tlz LS rV5.size
            replace KX := tkg rV5 LX KX (by simp; have := N1.out; have := HWs.out; have := N2.out; have := NO.out; have := NW.out; have := N8.out; omega)
            replace LX := tlz LX rV5.size
            replace KR := tkg rV5 LR KR (by simp; have := N1.out; have := HWs.out; have := N2.out; have := NO.out; have := NW.out; have := N8.out; omega)
            replace LR := tlz LR rV5.size
            replace KO := tkg rV5 LO KO (by simp; have := N1.out; have := HWs.out; have := N2.out; have := NO.out; have := NW.out; have := N8.out; omega)
            replace LO := tlz LO rV5.size
            replace GT := Lib.hid (GT.out.grown rV5 (by have := N1.out; have := HWs.out; have := N2.out; have := NO.out; have := NW.out; have := N8.out; omega))
            replace BB := Lib.hid (BB.out.grown rV5 BB.out.size (fun k hk => by cases hk; have := N1.out; have := HWs.out; have := N2.out; have := NO.out; have := NW.out; have := N8.out; omega))
            rw [hlen.out] at got3 ⊢
            rw [← hfl.out] at got3
            have G3 := Lib.hid got3
            clear got3 e3 rV5 G2
            refine hK.out _ _ (HSS.out _ KS.out KX.out) (fun hHeld => ?_)
            clear hK K
            refine tk0 14 ?_
            have fO0 := tcr KO 0
            have zO0 := tfr KO 0
            have fO1 := tcr KO 1
            have zO1 := tfr KO 1
            refine rd1 15 (fun K hK => ?_)
            go_simp
            obtain ⟨Y, hY⟩ : ∃ Y, Y = V5.setCell ⟨w1.heap.size, 0, none⟩ (.slice (some ⟨g3, 0, none⟩) (putI s.items x).length c3) := ⟨_, rfl⟩
            rw [← hY]
            have kO := heap_setCell_same _ w1.heap.size 0 _ _ (.slice (some ⟨g3, 0, none⟩) (putI s.items x).length c3) KO.out
            rw [← hY] at kO
            have gY : V5.grownBy Y (some w1.heap.size) := by rw [hY]; exact grown_set V5 ⟨w1.heap.size, 0, none⟩ (.slice (some ⟨g3, 0, none⟩) (putI s.items x).length c3)
            clear fO0 fO1 zO0 zO1 hY
            replace KS := tkg gY LS KS (by simp; have := N1.out; have := HWs.out; have := N2.out; have := NO.out; have := NW.out; have := N9.out; omega)
            replace LS := tlz LS gY.size
            replace KX := tkg gY LX KX (by simp; have := N1.out; have := HWs.out; have := N2.out; have := NO.out; have := NW.out; have := N9.out; omega)
            replace LX := tlz LX gY.size
            replace KR := tkg gY LR KR (by simp; have := N1.out; have := HWs.out; have := N2.out; have := NO.out; have := NW.out; have := N9.out; omega)
            replace LR := tlz LR gY.size
            replace GT := Lib.hid (GT.out.grown gY (by have := N1.out; have := HWs.out; have := N2.out; have := NO.out; have := NW.out; have := N9.out; omega))
            replace G3 := Lib.hid (G3.out.grown gY (by have := N1.out; have := HWs.out; have := N2.out; have := NO.out; have := NW.out; have := N9.out; omega))
            replace BB := Lib.hid (BB.out.grown gY BB.out.size (fun k hk => by cases hk; have := N1.out; have := HWs.out; have := N2.out; have := NO.out; have := NW.out; have := N9.out; omega))
            simp only [List.setIfInBounds_toArray, List.set_cons_zero, List.set_cons_succ] at kO
            replace KO := Lib.hid kO
            replace LO := tlz LO gY.size
            clear gY kO
            refine hK.out _ _ (HSS.out _ KS.out KX.out) (fun hHeld => ?_)
            clear hK K
            try simp only [getElem_toArray, getElem_cons_zero, getElem_cons_succ, Act.put, setIfInBounds_toArray, set_cons_zero, set_cons_succ]
            refine wpAnyH_done (by kernel_rfl) ?_ _
            clear hHeld
            go_wp2_with fail
            go_meet
            exact ⟨g3, c3, KO, LO, G3, GT, Lib.hid (by have := N1.out; have := N9.out; have := NO.out; omega), KS, LS, KR, LR, BB⟩
          · go_simp
            obtain ⟨V6, hV6⟩ : ∃ z, z = V1.alloc (.cells #[.string x.k, .string x.v] 45) := ⟨_, rfl⟩
            rw [← hV6]
            have bV6 : Below V1.heap.size V1 V6 := by rw [hV6]; exact ((Below.refl _ _).alloc (Nat.le_refl _) _)
            have sV6 : Hid (V6.heap.size = V1.heap.size + 1) := Lib.hid (by rw [hV6]; simp)
            have yV6 : Hid (wV.heap.size ≤ V6.heap.size) := Lib.hid (Nat.le_trans yV1.out bV6.size)
            replace KS := tkb bV6 LS KS
            replace LS := tlz LS bV6.size
            replace KX := tkb bV6 LX KX
            replace LX := tlz LX bV6.size
            replace KR := tkb bV6 LR KR
            replace LR := tlz LR bV6.size
            replace KO := tkb bV6 LO KO
            replace LO := tlz LO bV6.size
            replace KE := tkb bV6 LE KE
            replace LE := tlz LE bV6.size
            replace GT := Lib.hid (GT.out.later bV6)
            replace BB := tbt BB bV6
            have KB : Hid (V6.heap[V1.heap.size]? = some (.cells #[.string x.k, .string x.v] 45 (0, 0))) := Lib.hid (by rw [hV6]; exact heap_new _ _)
            have LB : Hid (V1.heap.size < V6.heap.size) := Lib.hid (by have := sV6.out; omega)
            have yB : Hid (wV.heap.size ≤ V1.heap.size) := yV1
            clear bV6 hV6
            refine hK.out _ _ (HSS.out _ KS.out KX.out) (fun hHeld => ?_)
            clear hK K
            try simp only [getElem_toArray, getElem_cons_zero, getElem_cons_succ, Act.put, setIfInBounds_toArray, set_cons_zero, set_cons_succ]
            refine rd1 5 (fun K hK => ?_)
            refine step_app0 rfl (.tmp 53) (.tmp 57) 24 rfl 45 i0 _ 2 32 Tryz.underlying24 p1 p2 p3 p4 rfl (by decide) wV.heap.size W.heap.size (by have := yE.out; have := NW.out; omega) LE.out (by simp [Act.eval]) _ (by simp [Act.eval]) w.heap.size 0 _ (raw1.out V6 BB.out) len1.out one1.out (by unfold maxLen; omega) (by omega) ?_
            intro g1 c1 V7 bV7 e1 got1
            have yV7 : Hid (wV.heap.size ≤ V7.heap.size) := Lib.hid (Nat.le_trans yV6.out bV7.size)
            have N5 : Hid (wV.heap.size ≤ g1) := Lib.hid (by have := yE.out; have := yV6.out; omega)
            replace KS := tkb bV7 LS KS
            replace LS := tlz LS bV7.size
            replace KX := tkb bV7 LX KX
            replace LX := tlz LX bV7.size
            replace KR := tkb bV7 LR KR
            replace LR := tlz LR bV7.size
            replace KO := tkb bV7 LO KO
            replace LO := tlz LO bV7.size
            replace KE := tkb bV7 LE KE
            replace LE := tlz LE bV7.size
            replace KB := tkb bV7 LB KB
            replace LB := tlz LB bV7.size
            replace GT := Lib.hid (GT.out.later bV7)
            replace BB := tbt BB bV7
            have G1 := Lib.hid got1
            clear got1 e1 bV7
            refine hK.out _ _ (HSS.out _ KS.out KX.out) (fun hHeld => ?_)
            clear hK K
            try simp only [getElem_toArray, getElem_cons_zero, getElem_cons_succ, Act.put, setIfInBounds_toArray, set_cons_zero, set_cons_succ]
            refine rd1 8 (fun K hK => ?_)
            have rX : Raw V7 V7.heap.size (.slice (some ⟨V1.heap.size, 0, none⟩) 1 1) 1 (itC x) := ⟨_, 1, rfl, Nat.le_refl _, by unfold maxLen; omega, (fun h => by cases h), fun _ => ⟨V1.heap.size, 0, rfl, LB.out, fun j u hu => by rw [Nat.zero_add, cell_of_row V7 _ j _ _ _ KB.out]; simpa [itC] using hu⟩⟩
            refine step_app rfl (.tmp 58) (.tmp 60) 24 rfl 45 i0 _ 2 32 Tryz.underlying24 p1 p2 p3 p4 rfl (by decide) g1 0 c1 W.heap.size _ G1.out (by simp [Act.eval]) _ (by simp [Act.eval]) V7.heap.size 1 _ rX (by simp [itC]) (fun u hu => one_it [x] u (by simpa using hu)) (by unfold maxLen; omega) (by omega) ?_
            intro g2 c2 V8 rV8 e2 got2
            clear rX
            have N8 : Hid (wV.heap.size ≤ g2) := Lib.hid (by have := N5.out; have := yV7.out; omega)
            have yV8 : Hid (wV.heap.size ≤ V8.heap.size) := Lib.hid (Nat.le_trans yV7.out rV8.size)
            replace KS := tkg rV8 LS KS (by simp; have := N1.out; have := HWs.out; have := N2.out; have := NO.out; have := NW.out; have := N5.out; omega)
            replace LS := tlz LS rV8.size
            replace KX := tkg rV8 LX KX (by simp; have := N1.out; have := HWs.out; have := N2.out; have := NO.out; have := NW.out; have := N5.out; omega)
            replace LX := tlz LX rV8.size
            replace KR := tkg rV8 LR KR (by simp; have := N1.out; have := HWs.out; have := N2.out; have := NO.out; have := NW.out; have := N5.out; omega)
            replace LR := tlz LR rV8.size
            replace KO := tkg rV8 LO KO (by simp; have := N1.out; have := HWs.out; have := N2.out; have := NO.out; have := NW.out; have := N5.out; omega)
            replace LO := tlz LO rV8.size
            replace GT := Lib.hid (GT.out.grown rV8 (by have := N1.out; have := HWs.out; have := N2.out; have := NO.out; have := NW.out; have := N5.out; omega))
            replace BB := Lib.hid (BB.out.grown rV8 BB.out.size (fun k hk => by cases hk; have := N1.out; have := HWs.out; have := N2.out; have := NO.out; have := NW.out; have := N5.out; omega))
            have G2 := Lib.hid got2
            clear got2 e2 rV8 G1
            refine hK.out _ _ (HSS.out _ KS.out KX.out) (fun hHeld => ?_)
            clear hK K
            try simp only [getElem_toArray, getElem_cons_zero, getElem_cons_succ, Act.put, setIfInBounds_toArray, set_cons_zero, set_cons_succ]
            refine rd1 13 (fun K hK => ?_)
            refine step_app rfl (.tmp 61) (.tmp 65) 24 rfl 45 i0 _ 2 32 Tryz.underlying24 p1 p2 p3 p4 rfl (by decide) g2 (0 + 1) c2 W.heap.size _ G2.out (by simp [Act.eval]) _ (by simp [Act.eval]) w.heap.size 0 _ (raw2.out V8 BB.out) len2.out one2.out (by unfold maxLen; omega) (by omega) ?_
            intro g3 c3 V9 rV9 e3 got3
            have N9 : Hid (wV.heap.size ≤ g3) := Lib.hid (by have := N8.out; have := yV8.out; omega)
            replace KS := tkg rV9 LS KS (by simp; have := N1.out; have := HWs.out; have := N2.out; have := NO.out; have := NW.out; have := N8.out; omega)
            replace LS := tlz LS rV9.size
            replace KX := tkg rV9 LX KX (by simp; have := N1.out; have := HWs.out; have := N2.out; have := NO.out; have := NW.out; have := N8.out; omega)
            replace LX := tlz LX rV9.size
            replace KR := tkg rV9 LR KR (by simp; have := N1.out; have := HWs.out; have := N2.out; have := NO.out; have := NW.out; have := N8.out; omega)
            replace LR := tlz LR rV9.size
            replace KO := tkg rV9 LO KO (by simp; have := N1.out; have := HWs.out; have := N2.out; have := NO.out; have := NW.out; have := N8.out; omega)
            replace LO := tlz LO rV9.size
            replace GT := Lib.hid (GT.out.grown rV9 (by have := N1.out; have := HWs.out; have := N2.out; have := NO.out; have := NW.out; have := N8.out; omega))
            replace BB := Lib.hid (BB.out.grown rV9 BB.out.size (fun k hk => by cases hk; have := N1.out; have := HWs.out; have := N2.out; have := NO.out; have := NW.out; have := N8.out; omega))
            rw [hlen.out] at got3 ⊢
            rw [← hfl.out] at got3
            have G3 := Lib.hid got3
            clear got3 e3 rV9 G2
            refine hK.out _ _ (HSS.out _ KS.out KX.out) (fun hHeld => ?_)
            clear hK K
            refine tk0 14 ?_
            have fO0 := tcr KO 0
            have zO0 := tfr KO 0
            have fO1 := tcr KO 1
            have zO1 := tfr KO 1
            refine rd1 15 (fun K hK => ?_)
            go_simp
            obtain ⟨Y, hY⟩ : ∃ Y, Y = V9.setCell ⟨w1.heap.size, 0, none⟩ (.slice (some ⟨g3, 0, none⟩) (putI s.items x).length c3) := ⟨_, rfl⟩
            rw [← hY]
            have kO := heap_setCell_same _ w1.heap.size 0 _ _ (.slice (some ⟨g3, 0, none⟩) (putI s.items x).length c3) KO.out
            rw [← hY] at kO
            have gY : V9.grownBy Y (some w1.heap.size) := by rw [hY]; exact grown_set V9 ⟨w1.heap.size, 0, none⟩ (.slice (some ⟨g3, 0, none⟩) (putI s.items x).length c3)
            clear fO0 fO1 zO0 zO1 hY
            replace KS := tkg gY LS KS (by simp; have := N1.out; have := HWs.out; have := N2.out; have := NO.out; have := NW.out; have := N9.out; omega)
            replace LS := tlz LS gY.size
            replace KX := tkg gY LX KX (by simp; have := N1.out; have := HWs.out; have := N2.out; have := NO.out; have := NW.out; have := N9.out; omega)
            replace LX := tlz LX gY.size
            replace KR := tkg gY LR KR (by simp; have := N1.out; have := HWs.out; have := N2.out; have := NO.out; have := NW.out; have := N9.out; omega)
            replace LR := tlz LR gY.size
            replace GT := Lib.hid (GT.out.grown gY (by have := N1.out; have := HWs.out; have := N2.out; have := NO.out; have := NW.out; have := N9.out; omega))
            replace G3 := Lib.hid (G3.out.grown gY (by have := N1.out; have := HWs.out; have := N2.out; have := NO.out; have := NW.out; have := N9.out; omega))
            replace BB := Lib.hid (BB.out.grown gY BB.out.size (fun k hk => by cases hk; have := N1.out; have := HWs.out; have := N2.out; have := NO.out; have := NW.out; have := N9.out; omega))
            simp only [List.setIfInBounds_toArray, List.set_cons_zero, List.set_cons_succ] at kO
            replace KO := Lib.hid kO
            replace LO := tlz LO gY.size
            clear gY kO
            refine hK.out _ _ (HSS.out _ KS.out KX.out) (fun hHeld => ?_)
            clear hK K
            try simp only [getElem_toArray, getElem_cons_zero, getElem_cons_succ, Act.put, setIfInBounds_toArray, set_cons_zero, set_cons_succ]
            refine wpAnyH_done (by kernel_rfl) ?_ _
            clear hHeld
            go_wp2_with fail
            go_meet
            exact ⟨g3, c3, KO, LO, G3, GT, Lib.hid (by have := N1.out; have := N9.out; have := NO.out; omega), KS, LS, KR, LR, BB⟩
        · go_simp
          obtain ⟨V10, hV10⟩ : ∃ z, z = (wV.alloc (.cells #[.string x.k, .string x.v] 45)).drew := ⟨_, rfl⟩
          rw [← hV10]
          have bV10 : Below wV.heap.size wV V10 := by rw [hV10]; exact ((Below.refl _ _).alloc (Nat.le_refl _) _).drew
          have sV10 : Hid (V10.heap.size = wV.heap.size + 1) := Lib.hid (by rw [hV10]; simp)
          have yV10 : Hid (wV.heap.size ≤ V10.heap.size) := Lib.hid bV10.size
          replace KS := tkb bV10 LS KS
          replace LS := tlz LS bV10.size
          replace KX := tkb bV10 LX KX
          replace LX := tlz LX bV10.size
          replace KR := tkb bV10 LR KR
          replace LR := tlz LR bV10.size
          replace KO := tkb bV10 LO KO
          replace LO := tlz LO bV10.size
          replace GT := Lib.hid (GT.out.later bV10)
          replace BB := tbt BB bV10
          have KB : Hid (V10.heap[wV.heap.size]? = some (.cells #[.string x.k, .string x.v] 45 (0, 0))) := Lib.hid (by rw [hV10]; exact heap_new _ _)
          have LB : Hid (wV.heap.size < V10.heap.size) := Lib.hid (by have := sV10.out; omega)
          have yB : Hid (wV.heap.size ≤ wV.heap.size) := Lib.hid (Nat.le_refl _)
          clear bV10 hV10
          refine hK.out _ _ (HSS.out _ KS.out KX.out) (fun hHeld => ?_)
          clear hK K
          refine rd1 0 (fun K hK => ?_)
          go_simp
          obtain ⟨V11, hV11⟩ : ∃ z, z = V10.alloc (.cells #[] 45) := ⟨_, rfl⟩
          rw [← hV11]
          have bV11 : Below V10.heap.size V10 V11 := by rw [hV11]; exact ((Below.refl _ _).alloc (Nat.le_refl _) _)
          have sV11 : Hid (V11.heap.size = V10.heap.size + 1) := Lib.hid (by rw [hV11]; simp)
          have yV11 : Hid (wV.heap.size ≤ V11.heap.size) := Lib.hid (Nat.le_trans yV10.out bV11.size)
          replace KS := tkb bV11 LS KS
          replace LS := tlz LS bV11.size
          replace KX := tkb bV11 LX KX
          replace LX := tlz LX bV11.size
          replace KR := tkb bV11 LR KR
          replace LR := tlz LR bV11.size
          replace KO := tkb bV11 LO KO
          replace LO := tlz LO bV11.size
          replace KB := tkb bV11 LB KB
          replace LB := tlz LB bV11.size
          replace GT := Lib.hid (GT.out.later bV11)
          replace BB := tbt BB bV11
          have KE : Hid (V11.heap[V10.heap.size]? = some (.cells #[] 45 (0, 0))) := Lib.hid (by rw [hV11]; exact heap_new _ _)
          have LE : Hid (V10.heap.size < V11.heap.size) := Lib.hid (by have := sV11.out; omega)
          have yE : Hid (wV.heap.size ≤ V10.heap.size) := yV10
          clear bV11 hV11
          refine hK.out _ _ (HSS.out _ KS.out KX.out) (fun hHeld => ?_)
          clear hK K
          try simp only [getElem_toArray, getElem_cons_zero, getElem_cons_succ, Act.put, setIfInBounds_toArray, set_cons_zero, set_cons_succ]
          refine rd1 5 (fun K hK => ?_)
          refine step_app0 rfl (.tmp 53) (.tmp 57) 24 rfl 45 i0 _ 2 32 Tryz.underlying24 p1 p2 p3 p4 rfl (by decide) V10.heap.size W.heap.size (by have := yE.out; have := NW.out; omega) LE.out (by simp [Act.eval]) _ (by simp [Act.eval]) w.heap.size 0 _ (raw1.out V11 BB.out) len1.out one1.out (by unfold maxLen; omega) (by omega) ?_
          intro g1 c1 V12 bV12 e1 got1
          have yV12 : Hid (wV.heap.size ≤ V12.heap.size) := Lib.hid (Nat.le_trans yV11.out bV12.size)
          have N5 : Hid (wV.heap.size ≤ g1) := Lib.hid (by have := yE.out; have := yV11.out; omega)
          replace KS := tkb bV12 LS KS
          replace LS := tlz LS bV12.size
          replace KX := tkb bV12 LX KX
          replace LX := tlz LX bV12.size
          replace KR := tkb bV12 LR KR
          replace LR := tlz LR bV12.size
          replace KO := tkb bV12 LO KO
          replace LO := tlz LO bV12.size
          replace KB := tkb bV12 LB KB
          replace LB := tlz LB bV12.size
          replace KE := tkb bV12 LE KE
          replace LE := tlz LE bV12.size
          replace GT := Lib.hid (GT.out.later bV12)
          replace BB := tbt BB bV12
          have G1 := Lib.hid got1
          clear got1 e1 bV12
          refine hK.out _ _ (HSS.out _ KS.out KX.out) (fun hHeld => ?_)
          clear hK K
          try simp only [getElem_toArray, getElem_cons_zero, getElem_cons_succ, Act.put, setIfInBounds_toArray, set_cons_zero, set_cons_succ]
          refine rd1 8 (fun K hK => ?_)
          have rX : Raw V12 V12.heap.size (.slice (some ⟨wV.heap.size, 0, none⟩) 1 1) 1 (itC x) := ⟨_, 1, rfl, Nat.le_refl _, by unfold maxLen; omega, (fun h => by cases h), fun _ => ⟨wV.heap.size, 0, rfl, LB.out, fun j u hu => by rw [Nat.zero_add, cell_of_row V12 _ j _ _ _ KB.out]; simpa [itC] using hu⟩⟩
          refine step_app rfl (.tmp 58) (.tmp 60) 24 rfl 45 i0 _ 2 32 Tryz.underlying24 p1 p2 p3 p4 rfl (by decide) g1 0 c1 W.heap.size _ G1.out (by simp [Act.eval]) _ (by simp [Act.eval]) V12.heap.size 1 _ rX (by simp [itC]) (fun u hu => one_it [x] u (by simpa using hu)) (by unfold maxLen; omega) (by omega) ?_
          intro g2 c2 V13 rV13 e2 got2
          clear rX
          have N8 : Hid (wV.heap.size ≤ g2) := Lib.hid (by have := N5.out; have := yV12.out; omega)
          have yV13 : Hid (wV.heap.size ≤ V13.heap.size) := Lib.hid (Nat.le_trans yV12.out rV13.size)
          replace KS := tkg rV13 LS KS (by simp; have := N1.out; have := HWs.out; have := N2.out; have := NO.out; have := NW.out; have := N5.out; omega)
          replace LS := tlz LS rV13.size
          replace KX := tkg rV13 LX KX (by simp; have := N1.out; have := HWs.out; have := N2.out; have := NO.out; have := NW.out; have := N5.out; omega)
          replace LX := tlz LX rV13.size
          replace KR := tkg rV13 LR KR (by simp; have := N1.out; have := HWs.out; have := N2.out; have := NO.out; have := NW.out; have := N5.out; omega)
          replace LR := tlz LR rV13.size
          replace KO := tkg rV13 LO KO (by simp; have := N1.out; have := HWs.out; have := N2.out; have := NO.out; have := NW.out; have := N5.out; omega)
          replace LO := tlz LO rV13.size
          replace GT := Lib.hid (GT.out.grown rV13 (by have := N1.out; have := HWs.out; have := N2.out; have := NO.out; have := NW.out; have := N5.out; omega))
          replace BB := Lib.hid (BB.out.grown rV13 BB.out.size (fun k hk => by cases hk; have := N1.out; have := HWs.out; have := N2.out; have := NO.out; have := NW.out; have := N5.out; omega))
          have G2 := Lib.hid got2
          clear got2 e2 rV13 G1
          refine hK.out _ _ (HSS.out _ KS.out KX.out) (fun hHeld => ?_)
          clear hK K
          try simp only [getElem_toArray, getElem_cons_zero, getElem_cons_succ, Act.put, setIfInBounds_toArray, set_cons_zero, set_cons_succ]
          refine rd1 13 (fun K hK => ?_)
          refine step_app rfl (.tmp 61) (.tmp 65) 24 rfl 45 i0 _ 2 32 Tryz.underlying24 p1 p2 p3 p4 rfl (by decide) g2 (0 + 1) c2 W.heap.size _ G2.out (by simp [Act.eval]) _ (by simp [Act.eval]) w.heap.size 0 _ (raw2.out V13 BB.out) len2.out one2.out (by unfold maxLen; omega) (by omega) ?_
          intro g3 c3 V14 rV14 e3 got3
          have N9 : Hid (wV.heap.size ≤ g3) := Lib.hid (by have := N8.out; have := yV13.out; omega)
          replace KS := tkg rV14 LS KS (by simp; have := N1.out; have := HWs.out; have := N2.out; have := NO.out; have := NW.out; have := N8.out; omega)
          replace LS := tlz LS rV14.size
          replace KX := tkg rV14 LX KX (by simp; have := N1.out; have := HWs.out; have := N2.out; have := NO.out; have := NW.out; have := N8.out; omega)
          replace LX := tlz LX rV14.size
          replace KR := tkg rV14 LR KR (by simp; have := N1.out; have := HWs.out; have := N2.out; have := NO.out; have := NW.out; have := N8.out; omega)
          replace LR := tlz LR rV14.size
          replace KO := tkg rV14 LO KO (by simp; have := N1.out; have := HWs.out; have := N2.out; have := NO.out; have := NW.out; have := N8.out; omega)
          replace LO := tlz LO rV14.size
          replace GT := Lib.hid (GT.out.grown rV14 (by have := N1.out; have := HWs.out; have := N2.out; have := NO.out; have := NW.out; have := N8.out; omega))
          replace BB := Lib.hid (BB.out.grown rV14 BB.out.size (fun k hk => by cases hk; have := N1.out; have := HWs.out; have := N2.out; have := NO.out; have := NW.out; have := N8.out; omega))
          rw [hlen.out] at got3 ⊢
          rw [← hfl.out] at got3
          have G3 := Lib.hid got3
          clear got3 e3 rV14 G2
          refine hK.out _ _ (HSS.out _ KS.out KX.out) (fun hHeld => ?_)
          clear hK K
          refine tk0 14 ?_
          have fO0 := tcr KO 0
          have zO0 := tfr KO 0
          have fO1 := tcr KO 1
          have zO1 := tfr KO 1
          refine rd1 15 (fun K hK => ?_)
          go_simp
          obtain ⟨Y, hY⟩ : ∃ Y, Y = V14.setCell ⟨w1.heap.size, 0, none⟩ (.slice (some ⟨g3, 0, none⟩) (putI s.items x).length c3) := ⟨_, rfl⟩
          rw [← hY]
          have kO := heap_setCell_same _ w1.heap.size 0 _ _ (.slice (some ⟨g3, 0, none⟩) (putI s.items x).length c3) KO.out
          rw [← hY] at kO
          have gY : V14.grownBy Y (some w1.heap.size) := by rw [hY]; exact grown_set V14 ⟨w1.heap.size, 0, none⟩ (.slice (some ⟨g3, 0, none⟩) (putI s.items x).length c3)
          clear fO0 fO1 zO0 zO1 hY
          replace KS := tkg gY LS KS (by simp; have := N1.out; have := HWs.out; have := N2.out; have := NO.out; have := NW.out; have := N9.out; omega)
          replace LS := tlz LS gY.size
          replace KX := tkg gY LX KX (by simp; have := N1.out; have := HWs.out; have := N2.out; have := NO.out; have := NW.out; have := N9.out; omega)
          replace LX := tlz LX gY.size
          replace KR := tkg gY LR KR (by simp; have := N1.out; have := HWs.out; have := N2.out; have := NO.out; have := NW.out; have := N9.out; omega)
          replace LR := tlz LR gY.size
          replace GT := Lib.hid (GT.out.grown gY (by have := N1.out; have := HWs.out; have := N2.out; have := NO.out; have := NW.out; have := N9.out; omega))
          replace G3 := Lib.hid (G3.out.grown gY (by have := N1.out; have := HWs.out; have := N2.out; have := NO.out; have := NW.out; have := N9.out; omega))
          replace BB := Lib.hid (BB.out.grown gY BB.out.size (fun k hk => by cases hk; have := N1.out; have := HWs.out; have := N2.out; have := NO.out; have := NW.out; have := N9.out; omega))
          simp only [List.setIfInBounds_toArray, List.set_cons_zero, List.set_cons_succ] at kO
          replace KO := Lib.hid kO
          replace LO := tlz LO gY.size
          clear gY kO
          refine hK.out _ _ (HSS.out _ KS.out KX.out) (fun hHeld => ?_)
          clear hK K
          try simp only [getElem_toArray, getElem_cons_zero, getElem_cons_succ, Act.put, setIfInBounds_toArray, set_cons_zero, set_cons_succ]
          refine wpAnyH_done (by kernel_rfl) ?_ _
          clear hHeld
          go_wp2_with fail
          go_meet
          exact ⟨g3, c3, KO, LO, G3, GT, Lib.hid (by have := N1.out; have := N9.out; have := NO.out; omega), KS, LS, KR, LR, BB⟩
      case rest =>
        obtain ⟨gN, cN, KO, LO, GN, G2, NE, KS, LS, KR, LR, BB⟩ := hcut
        obtain ⟨Y, rfl⟩ : ∃ z, z = wc := ⟨_, rfl⟩
        have hsv : StV Y Y.heap.size (.agg #[.slice (some ⟨gN, 0, none⟩) (putI s.items x).length cN, .slice (some ⟨gt, 0, none⟩) s.talks.length ct]) r := by
          rw [Hr.out]
          exact ⟨_, _, rfl, row_of_got GN.out, row_of_got G2.out⟩
        have fO0 := tcr KO 0
        have fO1 := tcr KO 1
        have hc5 := spec_stateOk r _ Y.heap.size Y hsv (Nat.le_refl _) Htr.out
        go_wp2_with (go_at_call 14; refine hc5.mono ?_; rintro e w5 ⟨rfl, hb5⟩; refine Hid.out ?_)
        refine Lib.hid ?_
        clear hsv fO0 fO1
        replace KS := tkb hb5 LS KS
        replace LS := tlz LS hb5.size
        replace KR := tkb hb5 LR KR
        replace LR := tlz LR hb5.size
        replace KO := tkb hb5 LO KO
        replace LO := tlz LO hb5.size
        replace GN := Lib.hid (GN.out.later hb5)
        replace G2 := Lib.hid (G2.out.later hb5)
        replace BB := tbt BB hb5
        clear hc5 hb5
        by_cases hok2 : stOk r = true
        · have hd : Hid (chg s r = r ∧ chgB s r = true) := Lib.hid ⟨if_pos ⟨hok, hok2⟩, by unfold chgB; rw [hok, hok2]; rfl⟩
          have fO0 := tcr KO 0
          have zO0 := tfr KO 0
          have fO1 := tcr KO 1
          have zO1 := tfr KO 1
          have fR0 := tcr KR 0
          have zR0 := tfr KR 0
          have fR1 := tcr KR 1
          have zR1 := tfr KR 1
          go_wp2_with fail
          clear fR0 fR1 zR0 zR1 fO0 fO1 zO0 zO1
          have f1 := heap_setCell_same _ (w.heap.size + 1 + 1) 0 _ _ (.slice (some ⟨gN, 0, none⟩) (putI s.items x).length cN) KR.out
          have f2 := heap_setCell_same _ (w.heap.size + 1 + 1) 1 _ _ (.slice (some ⟨gt, 0, none⟩) s.talks.length ct) f1
          obtain ⟨j0, q1, q2, q3, q4⟩ := info_parts infoSt
          have hn1 := N1.out
          have hn3 := HWs.out
          have bI := GN.out.2.2.2.1
          have bT := G2.out.2.2.2.1
          refine bodyPost_ret (results_cell_row2 (P := Tryz.prog) rfl _ _ (w.heap.size + 1 + 1) _ _ (0, 0) _ _ rfl rfl f2 Tryz.underlying27 rfl (by rw [q1]; simp [q3])) rfl ⟨.agg #[.slice (some ⟨gN, 0, none⟩) (putI s.items x).length cN, .slice (some ⟨gt, 0, none⟩) s.talks.length ct], (by rw [hd.out.2]; rfl), ?_, ?_⟩
          · rw [hd.out.1, Hr.out]
            exact ⟨gN, cN, gt, ct, (by rfl), NE.out, ((GN.out.base (by omega)).set (by omega) _).set (by omega) _, ((G2.out.base (by omega)).set (by omega) _).set (by omega) _⟩
          · exact (BB.out.setCell (p := ⟨w.heap.size + 1 + 1, 0, none⟩) (show w.heap.size ≤ w.heap.size + 1 + 1 by omega) _).setCell (p := ⟨w.heap.size + 1 + 1, 1, none⟩) (show w.heap.size ≤ w.heap.size + 1 + 1 by omega) _
        · have hok' : stOk r = false := by simpa using hok2
          have hd : Hid (chg s r = s ∧ chgB s r = false) := Lib.hid ⟨if_neg (fun h => hok2 h.2), by unfold chgB; rw [hok', Bool.and_false]⟩
          clear hok2
          have fS0 := tcr KS 0
          have fS1 := tcr KS 1
          have hc6 := spec_copy s _ B w5 (HS.out.rd.later (BB.out.mono hB) (Nat.le_refl _)) (Nat.le_trans hB BB.out.size) Hf.out
          go_wp2_with (go_at_call 113; refine hc6.mono ?_; rintro e w6 ⟨v6, rfl, ho6, hb6⟩; refine Hid.out ?_)
          refine Lib.hid ?_
          obtain ⟨li, di, lt, dt, rfl, hne6, gotI6, gotT6⟩ := ho6
          have N6 : Hid (W.heap.size ≤ w5.heap.size) := Lib.hid (by have := LO.out; have := N2.out; omega)
          clear fS0 fS1 hc6
          replace KS := tkb hb6 LS KS
          replace LS := tlz LS hb6.size
          replace KR := tkb hb6 LR KR
          replace LR := tlz LR hb6.size
          replace KO := tkb hb6 LO KO
          replace LO := tlz LO hb6.size
          replace GN := Lib.hid (GN.out.later hb6)
          replace G2 := Lib.hid (G2.out.later hb6)
          replace BB := tbt BB hb6
          have G6 := Lib.hid gotI6
          have T6 := Lib.hid gotT6
          clear gotI6 gotT6 hb6
          have fR0 := tcr KR 0
          have zR0 := tfr KR 0
          have fR1 := tcr KR 1
          have zR1 := tfr KR 1
          go_wp2_with fail
          clear fR0 fR1 zR0 zR1
          have f1 := heap_setCell_same _ (w.heap.size + 1 + 1) 0 _ _ (Value.slice (some ⟨li, 0, none⟩) s.items.length di) KR.out
          have f2 := heap_setCell_same _ (w.heap.size + 1 + 1) 1 _ _ (Value.slice (some ⟨lt, 0, none⟩) s.talks.length dt) f1
          obtain ⟨j0, q1, q2, q3, q4⟩ := info_parts infoSt
          have hn6 := N6.out
          have hn3 := HWs.out
          have bI := G6.out.2.2.2.1
          have bT := T6.out.2.2.2.1
          refine bodyPost_ret (results_cell_row2 (P := Tryz.prog) rfl _ _ (w.heap.size + 1 + 1) _ _ (0, 0) _ _ rfl rfl f2 Tryz.underlying27 rfl (by rw [q1]; simp [q3])) rfl ⟨.agg #[Value.slice (some ⟨li, 0, none⟩) s.items.length di, Value.slice (some ⟨lt, 0, none⟩) s.talks.length dt], (by rw [hd.out.2]; rfl), ?_, ?_⟩
          · rw [hd.out.1]
            exact ⟨li, di, lt, dt, rfl, hne6, ((G6.out.base (by omega)).set (by omega) _).set (by omega) _, ((T6.out.base (by omega)).set (by omega) _).set (by omega) _⟩
          · exact (BB.out.setCell (p := ⟨w.heap.size + 1 + 1, 0, none⟩) (show w.heap.size ≤ w.heap.size + 1 + 1 by omega) _).setCell (p := ⟨w.heap.size + 1 + 1, 1, none⟩) (show w.heap.size ≤ w.heap.size + 1 + 1 by omega) _

theorem spec_putItemAny (s : St) (v : Value) (x : It) (B : Nat) (w : World) (hs : StV w B v s) (hB : B ≤ w.heap.size) (hfew : s.items.length ≤ 1099511627776) (hf : Few s) (hts : Fits s) (hx : FitIt x) :
    Calls Tryz.prog 91 #[v, itA x] w fun e w' => ∃ v', e = .returned (.tuple #[v', .bool (chgB s (putSI s x))]) ∧ OwnC w' w.heap.size v' (chg s (putSI s x)) ∧ Below w.heap.size w w' := by
  have hs' := hs
  obtain ⟨vi, vt, rfl, hri, hrt⟩ := hs
  rcases hri with ⟨_, ⟨rfl, h0⟩ | ⟨g, o, cap, rfl, _⟩⟩
  · exact spec_putItemNil s _ x B w (List.eq_nil_of_length_eq_zero h0) hs' hB hf hts hx
  · exact spec_putItem s _ x _ g o cap B w rfl hfew hs' hB hf hts hx
end Go.Proofs.YtdpjdjkfedcojaaGreat
