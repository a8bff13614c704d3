/- What impl.Merge answers. Condition: what the arguments may be. -/
import Derived.Test.YtebmaplflpfjbaaBaseA
import Derived.Test.YtebmaplflpfjbaaStL
import Derived.Test.YtebmaplflpfjbaaMapOrdI
import Derived.Test.YtebmaplflpfjbaaMapOrdT
import Derived.Test.YtebmaplflpfjbaaImplState
namespace Go.Proofs.Ytebmaplflpfjbaa
open Go.RowKit Go.Maps
set_option linter.unusedVariables false
set_option linter.unusedSimpArgs false

set_option maxRecDepth 100000 in
set_option maxHeartbeats 8000000 in
theorem impl_merge (qs : List Sq) (v : Value) (B : Nat) (w : World) (hr : StL w B v qs) (hB : B ≤ w.heap.size) (hlen : qs.length ≤ 1048576) (hf : ∀ q ∈ qs, Fits q.s) :
    Calls Try.prog 21 #[v] w fun e w' => ∃ v', e = .returned (.tuple #[v', .bool (mergeS (qs.map Sq.s)).isSome]) ∧ MgR w' w.heap.size v' (mergeS (qs.map Sq.s)) ∧ Below w.heap.size w w' := by
  obtain ⟨⟨a, cap, rfl, hn, hcap, _, hat⟩, hst⟩ := hr
  obtain ⟨n, hN⟩ : ∃ n, n = qs.length := ⟨_, rfl⟩
  rw [← hN] at hn hat hlen ⊢
  have HN := Lib.hid hN
  have Hat := Lib.hid hat
  have Hst := Lib.hid hst
  have Hf := Lib.hid hf
  unfold maxLen at hcap
  obtain ⟨L, hL⟩ : ∃ L, L = qs.map Sq.s := ⟨_, rfl⟩
  rw [← hL]
  have HL := Lib.hid hL
  have HLn : Hid (L.length = n) := Lib.hid (by rw [hL, hN]; simp)
  clear hN hat hst hf hL
  obtain ⟨W0, hW0⟩ : ∃ W, W = w.alloc (.cells #[.slice none 0 0, .slice none 0 0] 31) := ⟨_, rfl⟩
  obtain ⟨W1, hW1⟩ : ∃ W, W = W0.alloc (.map #[] 0) := ⟨_, rfl⟩
  obtain ⟨W2, hW2⟩ : ∃ W, W = W1.alloc (.map #[] 0) := ⟨_, rfl⟩
  have b0 : Below w.heap.size w W0 := by rw [hW0]; exact (Below.refl _ _).alloc (Nat.le_refl _) _
  have b1 : Below W0.heap.size W0 W1 := by rw [hW1]; exact (Below.refl _ _).alloc (Nat.le_refl _) _
  have b2 : Below W1.heap.size W1 W2 := by rw [hW2]; exact (Below.refl _ _).alloc (Nat.le_refl _) _
  have s0 : W0.heap.size = w.heap.size + 1 := by rw [hW0]; simp
  have s1 : W1.heap.size = w.heap.size + 1 + 1 := by rw [hW1]; simp [s0]
  have s2 : W2.heap.size = w.heap.size + 1 + 1 + 1 := by rw [hW2]; simp [s1]
  have MI : Hid (MapI W2 (w.heap.size + 1) 0 (fun _ => none)) := Lib.hid (by
    have h := MapI.made W0
    rw [← hW1, s0] at h; exact h.later b2)
  have MT : Hid (MapT W2 (w.heap.size + 1 + 1) 0 (fun _ => none)) := Lib.hid (by
    have h := MapT.made W1
    rw [← hW2, s1] at h; exact h)
  have KR0 : Hid (W0.heap[w.heap.size]? = some (.cells #[.slice none 0 0, .slice none 0 0] 31 (0, 0))) := Lib.hid (by rw [hW0]; exact heap_new _ _)
  have KR := tkb b2 (Lib.hid (by omega)) (tkb b1 (Lib.hid (by omega)) KR0)
  have BB : Hid (Below w.heap.size w W2) := Lib.hid (b0.trans ((b1.trans (b2.mono b1.size)).mono b0.size))
  have LP : Hid (w.heap.size + 1 + 1 < W2.heap.size) := Lib.hid (by omega)
  clear KR0 b0 b1 b2 s0 s1 s2
  subst hW2
  subst hW1
  subst hW0
  have hmm := @run_makeMap Try.prog
  go_enter Try.func21, Try.ntmps21
  go_wp2
  clear hmm
  go_loopw [13] (fun i wr => ∃ (k ni nt : Nat) (mi : ByteArray → Option It) (mt : ByteArray → Option Tk) (s : St), k ≤ n ∧ i = .int .i64 k ∧ Hid (MapI wr (w.heap.size + 1) ni mi) ∧ Hid (MapT wr (w.heap.size + 1 + 1) nt mt) ∧ Hid (RI mi s.items ∧ RT mt s.talks) ∧ Hid (fr ⟨[], []⟩ L = fr s (L.drop k)) ∧ Hid (ni ≤ 64 * k ∧ nt ≤ 64 * k) ∧ Hid (wr.heap[w.heap.size]? = some (.cells #[.slice none 0 0, .slice none 0 0] 31 (0, 0))) ∧ Hid (Below w.heap.size w wr) ∧ Hid (w.heap.size + 1 + 1 < wr.heap.size)) (fun i _ => n - (intOf i).toNat)
  case atStart => exact ⟨0, 0, 0, _, _, ⟨[], []⟩, Nat.zero_le _, rfl, MI, MT, Lib.hid ⟨RI.nil, RT.nil⟩, Lib.hid (by rw [List.drop_zero]), Lib.hid ⟨by omega, by omega⟩, KR, BB, LP⟩
  case round =>
    clear MI MT KR BB LP
    obtain ⟨k, ni, nt, mi, mt, s, hk, rfl, MI, MT, HR, HF, Hs, KR, BB, LP⟩ := hrel
    by_cases hlt : k < n
    · obtain ⟨g, o, ha, hg, hAt⟩ := Hat.out (by omega)
      subst ha
      have hkl : k < qs.length := by have := HN.out; omega
      obtain ⟨x, hx⟩ : ∃ x, x = qs[k] := ⟨_, rfl⟩
      have hxm : x ∈ qs := by rw [hx]; exact List.getElem_mem _
      have hgw : g < w.heap.size := by omega
      have hc := hAt.sq k hkl
      rw [← hx] at hc
      simp only [← BB.out.cell (p := ⟨g, o + k * 2, none⟩) hgw, ← BB.out.cell (p := ⟨g, o + k * 2 + 1, none⟩) hgw] at hc
      obtain ⟨vi, vt, hv, r1, r2⟩ := (Hst.out x hxm).rd
      obtain ⟨hvi, hvt⟩ : x.vi = vi ∧ x.vt = vt := by unfold Sq.v at hv; simpa using hv
      have SX : Hid (StV w B (.agg #[vi, vt]) x.s) := Lib.hid (by rw [← hv]; exact Hst.out x hxm)
      rw [hvi, hvt] at hc
      have XI := Lib.hid r1
      have XT := Lib.hid r2
      obtain ⟨ai, ci, rfl, _⟩ := r1
      obtain ⟨at_, ct, rfl, _⟩ := r2
      have Hfx := Lib.hid (Hf.out x hxm)
      have Hdrop : Hid (L.drop k = x.s :: L.drop (k + 1)) := Lib.hid (by
        rw [HL.out, List.drop_eq_getElem_cons (by simpa using hkl)]; simp [hx])
      have hlt' : (k : Int) < (n : Int) := by omega
      obtain ⟨hc0, hc1⟩ := hc
      obtain ⟨V, hV⟩ : ∃ V, V = wr.alloc (.cells #[.slice ai x.s.items.length ci, .slice at_ x.s.talks.length ct] 31) := ⟨_, rfl⟩
      have bV : Below wr.heap.size wr V := by rw [hV]; exact (Below.refl _ _).alloc (Nat.le_refl _) _
      have KB : Hid (V.heap[wr.heap.size]? = some (.cells #[.slice ai x.s.items.length ci, .slice at_ x.s.talks.length ct] 31 (0, 0))) := Lib.hid (by rw [hV]; exact heap_new _ _)
      have LB : Hid (wr.heap.size < V.heap.size) := Lib.hid (by rw [hV]; simp)
      have hcall := impl_stateOk x.s _ B V (SX.out.later ((BB.out.trans (bV.mono BB.out.size)).mono hB) (Nat.le_refl _)) (Nat.le_trans hB (Nat.le_trans BB.out.size bV.size)) Hfx.out
      have fB0 := tcr KB 0
      have fB1 := tcr KB 1
      rw [hV] at hcall fB0 fB1
      have HX := Lib.hid hx
      have BV := Lib.hid bV
      clear hx hxm hAt hv hvi hvt bV
      go_wp2_with (go_at_call 29; refine hcall.mono ?_; rintro e w1 ⟨rfl, hb⟩; refine Hid.out ?_)
      refine Lib.hid ?_
      rw [← hV] at hb
      have bb := BV.out.trans (hb.mono BV.out.size)
      have LR : Hid (w.heap.size < wr.heap.size) := Lib.hid (by have := LP.out; omega)
      have nb0 := LP.out
      replace KR := tkb bb LR KR
      replace MI := Lib.hid (MI.out.later bb)
      replace MT := Lib.hid (MT.out.later bb)
      replace BB := tbt BB bb
      replace LP := tlz LP bb.size
      replace KB := tkb hb LB KB
      replace LB := tlz LB hb.size
      clear hcall fB0 fB1 hV bb hb BV
      obtain ⟨nb, hnb⟩ : ∃ nb, nb = wr.heap.size := ⟨_, rfl⟩
      rw [← hnb] at KB LB nb0 ⊢
      clear hnb LR
      cases hok : stOk x.s
      · have hres : Hid (mergeS L = none) := Lib.hid (by unfold mergeS; rw [HF.out, Hdrop.out, fr_bad hok]; rfl)
        have fR0 := tcr KR 0
        have fR1 := tcr KR 1
        have zR0 := tfr KR 0
        have zR1 := tfr KR 1
        clear hok
        go_wp2_with fail
        have f1 := heap_setCell_same _ w.heap.size 0 _ _ (.slice none 0 0) KR.out
        have f2 := heap_setCell_same _ w.heap.size 1 _ _ (.slice none 0 0) f1
        obtain ⟨j0, q1, q2, q3, q4⟩ := info_parts infoSt
        refine bodyPost_ret (results_cell_row2 (P := Try.prog) rfl _ _ w.heap.size _ _ (0, 0) _ _ rfl rfl f2 Try.underlying31 rfl (by rw [q1]; simp [q3])) rfl ⟨.agg #[.slice none 0 0, .slice none 0 0], by rw [hres.out]; rfl, by rw [hres.out]; rfl, ?_⟩
        exact (BB.out.setCell (p := ⟨w.heap.size, 0, none⟩) (Nat.le_refl _) _).setCell (p := ⟨w.heap.size, 1, none⟩) (Nat.le_refl _) _
      · have Hok := Lib.hid hok
        have hl := ok_len hok
        have hns := Hs.out
        have hfx := Hfx.out
        clear hok
        have hca := impl_addI x.s.items _ B (w.heap.size + 1) ni mi w1 MI.out (XI.out.later (BB.out.mono hB) (Nat.le_refl _)) (by omega) (by omega) (fun y hy => (hfx.1 y hy).1)
        have fB0 := tcr KB 0
        clear hfx
        cases hfi : frI s.items x.s.items with
        | none =>
          rw [(addM_fr HR.out.1).1 hfi] at hca
          have hres : Hid (mergeS L = none) := Lib.hid (by unfold mergeS; rw [HF.out, Hdrop.out, fr_twice hfi]; rfl)
          clear hfi
          go_wp2_with (go_at_call 48; refine hca.mono ?_; rintro e w2 ⟨rfl, _, g2⟩; refine Hid.out ?_)
          refine Lib.hid ?_
          replace KR := tkg g2 (Lib.hid (by have := LP.out; omega)) KR (by simp)
          replace BB : Hid (Below w.heap.size w w2) := Lib.hid (BB.out.grown g2 BB.out.size (fun j e => by cases e; omega))
          have fR0 := tcr KR 0
          have fR1 := tcr KR 1
          have zR0 := tfr KR 0
          have zR1 := tfr KR 1
          clear hca g2 fB0
          go_wp2_with fail
          have f1 := heap_setCell_same _ w.heap.size 0 _ _ (.slice none 0 0) KR.out
          have f2 := heap_setCell_same _ w.heap.size 1 _ _ (.slice none 0 0) f1
          obtain ⟨j0, q1, q2, q3, q4⟩ := info_parts infoSt
          refine bodyPost_ret (results_cell_row2 (P := Try.prog) rfl _ _ w.heap.size _ _ (0, 0) _ _ rfl rfl f2 Try.underlying31 rfl (by rw [q1]; simp [q3])) rfl ⟨.agg #[.slice none 0 0, .slice none 0 0], by rw [hres.out]; rfl, by rw [hres.out]; rfl, ?_⟩
          exact (BB.out.setCell (p := ⟨w.heap.size, 0, none⟩) (Nat.le_refl _) _).setCell (p := ⟨w.heap.size, 1, none⟩) (Nat.le_refl _) _
        | some is =>
          obtain ⟨ha1, ha2⟩ := (addM_fr HR.out.1).2 is hfi
          rw [ha1] at hca
          have HRI := Lib.hid ha2
          have Hfi := Lib.hid hfi
          clear hfi ha1 ha2
          go_wp2_with (go_at_call 48; refine hca.mono ?_; rintro e w2 ⟨rfl, ⟨ni', hni, MI'⟩, g2⟩; refine Hid.out ?_)
          refine Lib.hid ?_
          replace KR := tkg g2 (Lib.hid (by have := LP.out; omega)) KR (by simp)
          replace KB := tkg g2 LB KB (by simp; have := LP.out; omega)
          replace MT := Lib.hid (MT.out.kept g2 (by simp))
          have MI2 := Lib.hid MI'
          replace BB : Hid (Below w.heap.size w w2) := Lib.hid (BB.out.grown g2 BB.out.size (fun j e => by cases e; omega))
          replace LP := tlz LP g2.size
          replace LB := tlz LB g2.size
          have fB1 := tcr KB 1
          have hfx := Hfx.out
          have hck := impl_keep x.s.talks _ B (w.heap.size + 1 + 1) nt mt w2 MT.out (XT.out.later (BB.out.mono hB) (Nat.le_refl _)) (by omega) (by omega) (fun y hy => (hfx.2 y hy).1)
          clear hca g2 fB0 MI' MI hfx
          go_wp2_with (go_at_call 55; refine hck.mono ?_; rintro e w3 ⟨rfl, ⟨nt', hnt, MT'⟩, g3⟩; refine Hid.out ?_)
          refine Lib.hid ?_
          replace KR := tkg g3 (Lib.hid (by have := LP.out; omega)) KR (fun e => by have := Option.some.inj e; omega)
          have MI3 := Lib.hid (MI2.out.kept g3 (by simp))
          have MT3 := Lib.hid MT'
          replace BB : Hid (Below w.heap.size w w3) := Lib.hid (BB.out.grown g3 BB.out.size (fun j e => by cases e; omega))
          replace LP := tlz LP g3.size
          have HRT := Lib.hid (keepM_fr (xs := x.s.talks) HR.out.2)
          have HF2 : Hid (fr ⟨[], []⟩ L = fr ⟨is, frT s.talks x.s.talks⟩ (L.drop (k + 1))) := Lib.hid (by rw [HF.out, Hdrop.out, fr_step Hok.out Hfi.out])
          clear hck g3 fB1 MT'
          go_wp2_with fail
          go_roundw
          case rel => exact ⟨k + 1, ni', nt', _, _, ⟨is, frT s.talks x.s.talks⟩, by omega, by go_num, MI3, MT3, Lib.hid ⟨HRI.out, HRT.out⟩, HF2, Lib.hid ⟨by omega, by omega⟩, KR, BB, LP⟩
          case measure => simp [intOf]; omega
    · obtain rfl : k = n := by omega
      have hfr : fr ⟨[], []⟩ L = some s := by rw [HF.out, List.drop_of_length_le (by have := HLn.out; omega)]; rfl
      have Hfr := Lib.hid hfr
      have Hg : Hid (Good s) := Lib.hid (good_fr good_nil hfr)
      have hns := Hs.out
      have hc1 := impl_orderI (w.heap.size + 1) ni mi (fun j y h => ((HR.out.1.2 j y).1 h).2) wr MI.out (by omega)
      clear hfr
      go_wp2_with (go_at_call 50; refine hc1.mono ?_; rintro e w1 ⟨gi, ci, zs, rfl, gotI, hasc, hin, hgd, hgs, bb⟩; refine Hid.out ?_)
      refine Lib.hid ?_
      obtain rfl := HR.out.1.ext hasc hin
      have LP0 := LP
      have LR : Hid (w.heap.size < wr.heap.size) := Lib.hid (by have := LP.out; omega)
      replace KR := tkb bb LR KR
      replace MT := Lib.hid (MT.out.later bb)
      have bI := gotI.2.2.2.1
      have lI := gotI.2.2.2.2.1
      have GI := Lib.hid (gotI.base (show w.heap.size ≤ wr.heap.size from Nat.le_of_lt LR.out))
      replace BB := tbt BB bb
      replace LP := tlz LP bb.size
      have hc2 := impl_orderT (w.heap.size + 1 + 1) nt mt (fun j y h => ((HR.out.2.2 j y).1 h).2) w1 MT.out (by omega)
      clear hc1 gotI hasc hin hgd hgs bb
      go_wp2_with (go_at_call 56; refine hc2.mono ?_; rintro e w2 ⟨gt, ct, ts, rfl, gotT, hasc, hin, hgd, hgs, bb⟩; refine Hid.out ?_)
      refine Lib.hid ?_
      obtain rfl := HR.out.2.ext hasc hin
      replace LR : Hid (w.heap.size < w1.heap.size) := Lib.hid (by have := LP.out; omega)
      replace KR := tkb bb LR KR
      replace GI := Lib.hid (GI.out.later bb)
      have bT := gotT.2.2.2.1
      have Hne : Hid (gi ≠ gt) := Lib.hid (by omega)
      have GT := Lib.hid (gotT.base (show w.heap.size ≤ w1.heap.size from Nat.le_of_lt LR.out))
      replace BB := tbt BB bb
      replace LP := tlz LP bb.size
      replace LR := tlz LR bb.size
      have Lgi : Hid (w.heap.size < gi ∧ w.heap.size < gt) := Lib.hid (by have := LP0.out; omega)
      obtain ⟨V, hV⟩ : ∃ V, V = w2.alloc (.cells #[.slice (some ⟨gi, 0, none⟩) s.items.length ci, .slice (some ⟨gt, 0, none⟩) s.talks.length ct] 31) := ⟨_, rfl⟩
      have bV : Below w2.heap.size w2 V := by rw [hV]; exact (Below.refl _ _).alloc (Nat.le_refl _) _
      have KB : Hid (V.heap[w2.heap.size]? = some (.cells #[.slice (some ⟨gi, 0, none⟩) s.items.length ci, .slice (some ⟨gt, 0, none⟩) s.talks.length ct] 31 (0, 0))) := Lib.hid (by rw [hV]; exact heap_new _ _)
      have LB : Hid (w2.heap.size < V.heap.size) := Lib.hid (by rw [hV]; simp)
      replace KR := tkb bV LR KR
      replace GI := Lib.hid (GI.out.later bV)
      replace GT := Lib.hid (GT.out.later bV)
      replace BB := tbt BB bV
      replace LR := tlz LR bV.size
      have hc3 := impl_stateOk s _ V.heap.size V ⟨_, _, rfl, row_of_got GI.out, row_of_got GT.out⟩ (Nat.le_refl _) (good_fits Hg.out)
      have fB0 := tcr KB 0
      have fB1 := tcr KB 1
      rw [hV] at hc3 fB0 fB1
      clear hc2 gotT hasc hin hgd hgs bb bV bI lI bT MI MT
      go_wp2_with (go_at_call 29; refine hc3.mono ?_; rintro e w3 ⟨rfl, bb⟩; refine Hid.out ?_)
      refine Lib.hid ?_
      rw [← hV] at bb
      replace KR := tkb bb LR KR
      replace KB := tkb bb LB KB
      replace GI := Lib.hid (GI.out.later bb)
      replace GT := Lib.hid (GT.out.later bb)
      replace BB := tbt BB bb
      clear hc3 fB0 fB1 hV bb
      obtain ⟨nb, hnb⟩ : ∃ nb, nb = w2.heap.size := ⟨_, rfl⟩
      rw [← hnb] at KB ⊢
      clear hnb LB
      have fR0 := tcr KR 0
      have fR1 := tcr KR 1
      have zR0 := tfr KR 0
      have zR1 := tfr KR 1
      cases hok : stOk s
      · have hres : Hid (mergeS L = none) := Lib.hid (by unfold mergeS; rw [Hfr.out]; exact okO_no hok)
        clear hok
        go_wp2_with fail
        have f1 := heap_setCell_same _ w.heap.size 0 _ _ (.slice none 0 0) KR.out
        have f2 := heap_setCell_same _ w.heap.size 1 _ _ (.slice none 0 0) f1
        obtain ⟨j0, q1, q2, q3, q4⟩ := info_parts infoSt
        refine bodyPost_ret (results_cell_row2 (P := Try.prog) rfl _ _ w.heap.size _ _ (0, 0) _ _ rfl rfl f2 Try.underlying31 rfl (by rw [q1]; simp [q3])) rfl ⟨.agg #[.slice none 0 0, .slice none 0 0], by rw [hres.out]; rfl, by rw [hres.out]; rfl, ?_⟩
        exact (BB.out.setCell (p := ⟨w.heap.size, 0, none⟩) (Nat.le_refl _) _).setCell (p := ⟨w.heap.size, 1, none⟩) (Nat.le_refl _) _
      · have hres : Hid (mergeS L = some s) := Lib.hid (by unfold mergeS; rw [Hfr.out]; exact okO_ok hok)
        clear hok
        have fB0 := tcr KB 0
        have fB1 := tcr KB 1
        go_wp2_with fail
        have f1 := heap_setCell_same _ w.heap.size 0 _ _ (.slice (some ⟨gi, 0, none⟩) s.items.length ci) KR.out
        have f2 := heap_setCell_same _ w.heap.size 1 _ _ (.slice (some ⟨gt, 0, none⟩) s.talks.length ct) f1
        obtain ⟨j0, q1, q2, q3, q4⟩ := info_parts infoSt
        have l1 := Lgi.out
        refine bodyPost_ret (results_cell_row2 (P := Try.prog) rfl _ _ w.heap.size _ _ (0, 0) _ _ rfl rfl f2 Try.underlying31 rfl (by rw [q1]; simp [q3])) rfl ⟨.agg #[.slice (some ⟨gi, 0, none⟩) s.items.length ci, .slice (some ⟨gt, 0, none⟩) s.talks.length ct], by rw [hres.out]; rfl, ?_, ?_⟩
        · rw [hres.out]
          exact ⟨gi, ci, gt, ct, rfl, Hne.out, (GI.out.set (by omega) _).set (by omega) _, (GT.out.set (by omega) _).set (by omega) _⟩
        · exact (BB.out.setCell (p := ⟨w.heap.size, 0, none⟩) (Nat.le_refl _) _).setCell (p := ⟨w.heap.size, 1, none⟩) (Nat.le_refl _) _
end Go.Proofs.Ytebmaplflpfjbaa
