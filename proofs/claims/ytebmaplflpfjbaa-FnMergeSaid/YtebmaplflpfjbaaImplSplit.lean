/- What impl.Split answers: the parts of a right state, in rows of the call's own; else nothing. Condition: what the arguments may be. -/
import Derived.Test.YtebmaplflpfjbaaBaseA
import Derived.Test.YtebmaplflpfjbaaSplitData
import Derived.Test.YtebmaplflpfjbaaMapOrdI
import Derived.Test.YtebmaplflpfjbaaImplCopy
import Derived.Test.YtebmaplflpfjbaaImplState
import Derived.Test.YtebmaplflpfjbaaApplyPlain
namespace Go.Proofs.Ytebmaplflpfjbaa
open Go.RowKit Go.Maps
set_option linter.unusedVariables false
set_option linter.unusedSimpArgs false

/-- A row of states of the call's own, or nil. -/
def OwnLN (w : World) (base : Nat) (v : Value) (qs : List Sq) : Prop := (v = .slice none 0 0 ∧ qs = []) ∨ ∃ g cap, v = .slice (some ⟨g, 0, none⟩) qs.length cap ∧ OwnL w base g qs.length cap qs
/-- 'clear' of a map in a walk, its run told. -/
theorem wpList_clearE {P : Program} {w w' : World} {ops : Array Oper} {rest : List Oper} {o : Oper} {a : Act} {Q : Exit → Act → World → Prop} {sv v' : Value} (hg : o.guard = none) (s : Operand) (t : TypeId) (hop : o.op = Op.call { callee := Callee.builtin Builtin.clear, args := #[s], argTypes := #[t] })
    (run : (Builtin.clear_ #[t] o.type #[sv]).run P w = .ok v' w') (hs : a.eval s = sv) (hK : wpList P ops Q rest (a.put o.dst v') w') : wpList P ops Q (o :: rest) a w := by
  refine wpList_plain hg fun K' hK' => ?_
  unfold Oper.wp
  simp [execOp, hop, resolve, invoke, builtin, hs, run, Result.andThen]
  exact hK' _ _ hK

theorem row_move {w w' : World} {lo e sz n cap g : Nat} {cs : List Value} (h : w.ownsRow lo e sz (.slice (some ⟨g, 0, none⟩) n cap) n cs) (hg : w'.heap[g]? = w.heap[g]?) : w'.ownsRow lo e sz (.slice (some ⟨g, 0, none⟩) n cap) n cs := by
  obtain ⟨h1, h2⟩ := h
  rcases h2 with ⟨h3, _⟩ | ⟨g', cap', cur, he, k1, k2, k3⟩
  · cases h3
  · cases he
    exact ⟨h1, .inr ⟨g, cap, cur, rfl, k1, by rw [hg]; exact k2, k3⟩⟩
theorem row_later {w w' : World} {lo e sz n cap g : Nat} {cs : List Value} (h : w.ownsRow lo e sz (.slice (some ⟨g, 0, none⟩) n cap) n cs) (hb : Below w.heap.size w w') : w'.ownsRow lo e sz (.slice (some ⟨g, 0, none⟩) n cap) n cs :=
  row_move h (hb.block _ (World.ownsRow.lt h g rfl).2)
theorem Got.moved {w w' : World} {base e size g n cap : Nat} {cs : List Value} (h : Got w base e size g n cap cs) (hs : w.heap.size ≤ w'.heap.size) (hg : w'.heap[g]? = w.heap[g]?) : Got w' base e size g n cap cs := by
  obtain ⟨h1, h2, h3, h4, h5, h6⟩ := h
  refine ⟨h1, h2, h3, h4, Nat.lt_of_lt_of_le h5 hs, ?_⟩
  rcases h6 with h6 | h6
  · exact .inl h6
  · exact .inr (row_move h6 hg)
theorem SqOwn.moved {w w' : World} {base : Nat} {q : Sq} (h : SqOwn w base q) (hs : w.heap.size ≤ w'.heap.size) (hg : ∀ j, base ≤ j → j < w.heap.size → w'.heap[j]? = w.heap[j]?) : SqOwn w' base q :=
  ⟨h.1, h.2.1, h.2.2.1.moved hs (hg _ h.2.2.1.2.2.2.1 h.2.2.1.2.2.2.2.1), h.2.2.2.moved hs (hg _ h.2.2.2.2.2.2.1 h.2.2.2.2.2.2.2.1)⟩
set_option maxRecDepth 100000 in
set_option maxHeartbeats 8000000 in
theorem impl_split (s : St) (v : Value) (n : Int) (B : Nat) (w : World) (hs : StV w B v s) (hB : B ≤ w.heap.size) (hfit : Fits s) (hn64 : -9223372036854775808 ≤ n ∧ n ≤ 9223372036854775807) :
    Calls Try.prog 17 #[v, .int .i64 n] w fun e w' => ∃ v' qs, e = .returned v' ∧ OwnLN w' w.heap.size v' qs ∧ qs.map Sq.s = splitS s n ∧ Below w.heap.size w w' := by
  obtain ⟨vi, vt, rfl, hri, hrt⟩ := hs.rd
  obtain ⟨W, hW⟩ : ∃ W, W = w.alloc (.cells #[vi, vt] 31) := ⟨_, rfl⟩
  have bW : Below w.heap.size w W := by rw [hW]; exact (Below.refl _ _).alloc (Nat.le_refl _) _
  have KS : Hid (W.heap[w.heap.size]? = some (.cells #[vi, vt] 31 (0, 0))) := Lib.hid (by rw [hW]; exact heap_new _ _)
  have LS : Hid (w.heap.size < W.heap.size) := Lib.hid (by rw [hW]; simp)
  have hc0 := impl_stateOk s _ B W (hs.later (bW.mono hB) (Nat.le_refl _)) (Nat.le_trans hB bW.size) hfit
  have f0 := tcr KS 0
  have f1 := tcr KS 1
  have HRI := Lib.hid hri
  have HRT := Lib.hid hrt
  rw [hW] at hc0 f0 f1
  have BB := Lib.hid bW
  clear hs hri hrt bW
  cases hok : stOk s
  · have hres := Lib.hid (splitS_bad (s := s) (n := n) (.inl hok))
    rw [hok] at hc0
    clear hok
    go_enter Try.func17, Try.ntmps17
    go_wp2_with (go_at_call 29; refine hc0.mono ?_; rintro e w1 ⟨rfl, hb1⟩; refine Hid.out ?_)
    refine Lib.hid ?_
    rw [← hW] at hb1
    clear hc0
    go_wp2
    go_ret
    exact ⟨_, [], rfl, .inl ⟨rfl, rfl⟩, by rw [hres.out]; rfl, BB.out.trans (hb1.mono BB.out.size)⟩
  · rw [hok] at hc0
    have Hok := Lib.hid hok
    clear hok
    cases hin : inB n 1 8
    · have hres := Lib.hid (splitS_bad (s := s) (n := n) (.inr hin))
      have Hin := Lib.hid hin
      clear hin
      go_enter Try.func17, Try.ntmps17
      go_wp2_with (first | (go_at_call 29; refine hc0.mono ?_; rintro e w1 ⟨rfl, hb1⟩; refine Hid.out ?_))
      refine Lib.hid ?_
      rw [← hW] at hb1
      clear hc0
      go_wp2_with (go_at_call 44; refine (impl_partsOk _ _).mono ?_; rintro e w' ⟨rfl, rfl⟩; rw [Hin.out])
      go_ret
      exact ⟨_, [], rfl, .inl ⟨rfl, rfl⟩, by rw [hres.out]; rfl, BB.out.trans (hb1.mono BB.out.size)⟩
    · have hres := Lib.hid (splitS_ok Hok.out hin)
      have Hin := Lib.hid hin
      obtain ⟨N, rfl⟩ : ∃ N : Nat, n = N := Int.eq_ofNat_of_zero_le (by simp [inB] at hin; omega)
      have hN : 1 ≤ N ∧ N ≤ 8 := by simp [inB] at hin; omega
      have hmm := @run_makeMap Try.prog
      clear hin
      obtain ⟨m0, hadd, hm0⟩ := ok_rows Hok.out
      have Hadd := Lib.hid hadd
      have Hm0 := Lib.hid hm0
      have hfk := Lib.hid (fun x hx => (hfit.1 x hx).1 : ∀ x ∈ s.items, x.k.size ≤ maxLen)
      have Hsm := Lib.hid (ok_small Hok.out)
      clear hadd hm0
      go_enter Try.func17, Try.ntmps17
      go_wp2_with (first | (go_at_call 29; refine hc0.mono ?_; rintro e w1 ⟨rfl, hb1⟩; refine Hid.out ?_))
      refine Lib.hid ?_
      rw [← hW] at hb1
      replace KS := tkb hb1 LS KS
      replace LS := tlz LS hb1.size
      replace BB := tbt BB hb1
      clear hc0 hW hb1 f0 f1
      go_wp2_with (go_at_call 44; refine (impl_partsOk _ _).mono ?_; rintro e w' ⟨rfl, rfl⟩; rw [Hin.out]; refine Hid.out ?_)
      refine Lib.hid ?_
      obtain ⟨a0, c0, rfl, hn0, hc0, hz0, hat0⟩ := id HRI.out
      obtain ⟨a1, c1, rfl, hn1, hc1, hz1, hat1⟩ := id HRT.out
      obtain ⟨M1, hM1⟩ : ∃ M, M = w1.alloc (.map #[] 0) := ⟨_, rfl⟩
      obtain ⟨M2, hM2⟩ : ∃ M, M = M1.alloc (.map #[] 0) := ⟨_, rfl⟩
      have b1 : Below w1.heap.size w1 M1 := by rw [hM1]; exact (Below.refl _ _).alloc (Nat.le_refl _) _
      have b2 : Below M1.heap.size M1 M2 := by rw [hM2]; exact (Below.refl _ _).alloc (Nat.le_refl _) _
      have s1 : M1.heap.size = w1.heap.size + 1 := by rw [hM1]; simp
      have s2 : M2.heap.size = w1.heap.size + 2 := by rw [hM2]; simp [s1]
      have hr1 : MapI M1 w1.heap.size 0 (fun _ => none) := by rw [hM1]; exact MapI.made w1
      have ho2 : MapI M2 M1.heap.size 0 (fun _ => none) := by rw [hM2]; exact MapI.made M1
      have b12 := b1.trans (b2.mono b1.size)
      have hc := impl_addI s.items _ B w1.heap.size 0 (fun _ => none) M2 (hr1.later b2) (HRI.out.later (((BB.out.trans (b12.mono BB.out.size))).mono hB) (Nat.le_refl _)) (Nat.le_trans hB BB.out.size) (by have := Hsm.out.1; omega) hfk.out
      rw [Hadd.out] at hc
      have LS1 := LS
      replace KS := tkb b12 LS KS
      replace LS := tlz LS b12.size
      have f0 := tcr KS 0
      have f1 := tcr KS 1
      have MO := Lib.hid ho2
      have BM : Hid (Below w.heap.size w M2) := Lib.hid (BB.out.trans (b12.mono BB.out.size))
      have BW1 := Lib.hid BB.out.size
      rw [hM2, hM1] at hc f0 f1
      unfold maxLen at hc0 hc1
      clear hr1 ho2 b1 b2 b12 hat0 hat1 BB
      go_wp2_with (go_at_call 48; refine hc.mono ?_; rintro e w2 ⟨rfl, ⟨nr, hnr, hr2⟩, g2⟩; refine Hid.out ?_)
      refine Lib.hid ?_
      rw [← hM1, ← hM2] at g2
      rw [s1] at MO
      have hlS := LS.out
      have Hs2 := Lib.hid s2
      obtain ⟨i0, hi, q0, q1, q2⟩ := info_parts infoSt
      obtain ⟨w3, hmk, hown, g3⟩ := run_make_full (P := Try.prog) w2 w.heap.size 34 31 i0 _ 2 Try.underlying34 hi q0 q1 .i64 .i64 N (by rw [q2]; omega) (by unfold maxLen; omega) (by have := g2.size; omega)
      have hlt3 : w2.heap.size < w3.heap.size := (World.ownsRow.lt hown _ rfl).2
      have hP : M2.heap.size ≤ w2.heap.size := g2.size
      obtain ⟨P, hPe⟩ : ∃ P, P = w2.heap.size := ⟨_, rfl⟩
      have MR : Hid (MapI w3 w1.heap.size nr (mRest m0 N 0)) := Lib.hid (by rw [mRest_zero]; exact hr2.kept g3 (by simp))
      replace MO := Lib.hid ((MO.out.kept g2 (by simp)).kept g3 (by simp))
      replace KS := tkg g3 (Lib.hid (by omega)) (tkg g2 LS KS (by simp; have := LS1.out; omega)) (by simp)
      have BB : Hid (Below w.heap.size w w3) := Lib.hid ((BM.out.grown g2 BM.out.size (fun j e => by cases e; exact BW1.out)).grown g3 (Nat.le_trans BM.out.size hP) (fun j e => by cases e))
      have OW : Hid (w3.ownsRow w.heap.size 31 2 (.slice (some ⟨P, 0, none⟩) N N) N ([].flatMap sqC ++ (madeCells (Value.agg #[.slice none 0 0, .slice none 0 0]).cells (N * 2)).toList)) := Lib.hid (by rw [hPe]; exact hown)
      have HP : Hid (P < w3.heap.size ∧ M2.heap.size ≤ P ∧ P = w2.heap.size) := Lib.hid ⟨by rw [hPe]; exact hlt3, by rw [hPe]; exact hP, hPe⟩
      have hnr40 : nr ≤ 64 := by have := Hsm.out.1; omega
      have hbrbo : w1.heap.size + 1 < P ∧ w.heap.size < w1.heap.size ∧ w.heap.size < P := by have := LS1.out; omega
      rw [← hPe] at hmk
      clear hPe LS1 f0 f1 hc hown g3 hr2 g2 q0 q1 q2 hi hM1 hM2 s1 s2 hlS LS BM hlt3 hP hnr
      go_wp2
      go_loopw [27] (fun i wr => ∃ (k no : Nat) (mo : ByteArray → Option It) (R : List Value) (rs : List Sq), k ≤ N ∧ i = .int .i64 k ∧ Hid (MapI wr w1.heap.size nr (mRest m0 N k)) ∧ Hid (MapI wr (w1.heap.size + 1) no mo) ∧ Hid (wr.ownsRow w.heap.size 31 2 (.slice (some ⟨P, 0, none⟩) N N) N (rs.flatMap sqC ++ R)) ∧ Hid (rs.length = k ∧ rs.map Sq.s = ((List.range N).map (partS s N)).take k) ∧ Hid (∀ q ∈ rs, SqOwn wr (P + 1) q) ∧ Hid ((sqB rs).Nodup) ∧ Hid (wr.heap[w.heap.size]? = some (.cells #[.slice a0 s.items.length c0, .slice a1 s.talks.length c1] 31 (0, 0))) ∧ Hid (Below w.heap.size w wr) ∧ Hid (P < wr.heap.size)) (fun i _ => N - (intOf i).toNat)
      case atStart => exact ⟨0, 0, _, _, [], Nat.zero_le _, rfl, MR, MO, OW, Lib.hid ⟨rfl, by simp⟩, Lib.hid (fun q hq => by simp at hq), Lib.hid List.nodup_nil, KS, BB, Lib.hid HP.out.1⟩
      case round =>
        clear MR MO OW KS BB
        obtain ⟨k, no, mo, R, rs, hk, rfl, MR, MO, OW, Hrs, Hso, Hnd, KS, BB, LP⟩ := hrel
        by_cases hlt : k < N
        · obtain ⟨wa, hclr, moa, ga⟩ := MO.out.clear 0
          have mra := MR.out.kept ga (by simp)
          have hc := impl_move (w1.heap.size + 1) w1.heap.size 0 nr (mRest m0 N k) k N wa moa mra (by omega) (by omega)
          have hlt' : (k : Int) < (N : Int) := by omega
          have Ga := Lib.hid ga
          clear moa mra ga
          go_wp2_with (first | (at_builtin; refine wpList_clearE rfl _ _ rfl hclr rfl ?_) | (go_at_call 49; refine hc.mono ?_; rintro e wb ⟨rfl, hob, hrb, tw⟩; refine Hid.out ?_))
          refine Lib.hid ?_
          have tz : Tw wr wb (w1.heap.size + 1) w1.heap.size := ⟨tw.os.trans Ga.out.os, tw.tape.trans Ga.out.tape, tw.output.trans Ga.out.output, Nat.le_trans Ga.out.size tw.size, fun j hj h1 h2 => (tw.block j (Nat.lt_of_lt_of_le hj Ga.out.size) h1 h2).trans (Ga.out.block j hj (by simp; omega))⟩
          obtain ⟨zD, hzD⟩ : ∃ z, z = wb.drew := ⟨_, rfl⟩
          have bD : Below wb.heap.size wb zD := by rw [hzD]; exact (Below.refl _ _).drew
          have twD := tz.below bD
          -- everything told behind the move
          have far : ∀ {j : Nat}, P ≤ j → j < wr.heap.size → zD.heap[j]? = wr.heap[j]? := fun {j} h1 h2 => twD.block j h2 (by omega) (by omega)
          have hPr := LP.out
          replace OW : Hid (zD.ownsRow w.heap.size 31 2 (.slice (some ⟨P, 0, none⟩) N N) N (rs.flatMap sqC ++ R)) := Lib.hid (row_move OW.out (far (Nat.le_refl _) hPr))
          replace Hso : Hid (∀ q ∈ rs, SqOwn zD (P + 1) q) := Lib.hid (fun q hq => (Hso.out q hq).moved twD.size (fun j h1 h2 => far (by omega) h2))
          replace KS : Hid (zD.heap[w.heap.size]? = some (.cells #[.slice a0 s.items.length c0, .slice a1 s.talks.length c1] 31 (0, 0))) := Lib.hid ((twD.block _ (by omega) (by omega) (by omega)).trans KS.out)
          replace BB : Hid (Below w.heap.size w zD) := Lib.hid ⟨twD.os.trans BB.out.os, twD.tape.trans BB.out.tape, twD.output.trans BB.out.output, Nat.le_trans BB.out.size twD.size, fun j hj => (twD.block j (Nat.lt_of_lt_of_le hj BB.out.size) (by omega) (by have := BW1.out; omega)).trans (BB.out.block j hj)⟩
          replace LP : Hid (P < zD.heap.size) := Lib.hid (Nat.lt_of_lt_of_le LP.out twD.size)
          replace MO := Lib.hid (hob.later bD)
          replace MR : Hid (MapI zD w1.heap.size nr (mRest m0 N (k + 1))) := Lib.hid (by rw [← mRest_step]; exact hrb.later bD)
          have sqB_old : Hid (∀ b ∈ sqB rs, b < zD.heap.size) := Lib.hid (fun b hb => (sqB_lt Hso.out b hb).2)
          have LSz : Hid (w.heap.size < zD.heap.size) := Lib.hid (by have := LP.out; omega)
          clear tz tw far hPr twD hob hrb bD hclr Ga hc
          go_wp2_with fail
          refine wp_region_held_drew (S := (fun w' => w'.cell? ⟨w.heap.size, 1, none⟩ = some (.slice a1 s.talks.length c1))) (by kernel_rfl) (by rw [← hzD]; exact tcr KS 1) (fun hHeld => ?_)
          rw [← hzD] at hHeld ⊢
          clear hzD
          refine tk0 0 ?_
          refine tk0 1 ?_
          refine tk0 2 ?_
          refine tk0 4 ?_
          refine tk 5 (v := ?_) ?_ ?_; rotate_left
          · refine Or.inl ⟨by rfl, ?_⟩; intro w hSw; go_simp; first | done | with_reducible rfl
          refine rd1 3 (fun K hK => ?_)
          go_simp
          have hc := impl_orderI (w1.heap.size + 1) (0 + nr) (partM (mRest m0 N k) k N) (fun j x h => by rw [partM_at] at h; exact ((Hm0.out j x).1 h.2).2) zD MO.out (by omega)
          go_at_call 50
          refine hc.mono ?_
          rintro e wc ⟨gi, ci, zs, rfl, gotI, hasc, hin, hgd, hgs, bc⟩
          have hzs := part_rows Hok.out Hm0.out hasc hin
          subst hzs
          have GI := Lib.hid gotI
          have hgil := gotI.2.2.2.1
          replace OW := Lib.hid (row_later OW.out bc)
          replace Hso := Lib.hid (fun q hq => (Hso.out q hq).later bc : ∀ q ∈ rs, SqOwn wc (P + 1) q)
          replace KS := tkb bc LSz KS
          replace BB := tbt BB bc
          have LPc : Hid (P < wc.heap.size) := Lib.hid (Nat.lt_of_lt_of_le LP.out bc.size)
          replace MO := Lib.hid (MO.out.later bc)
          replace MR := Lib.hid (MR.out.later bc)
          have LSc : Hid (w.heap.size < wc.heap.size) := tlz LSz bc.size
          have Bcz := Lib.hid bc.size
          clear hc gotI hasc hin bc
          go_wp2_with fail
          refine hK.out _ _ (tcr KS 1) (fun hHeld => ?_)
          clear hK K
          refine rd1 6 (fun K hK => ?_)
          go_simp
          have hc := clone_talks s.talks _ B (zD.heap.size + 1) wc (HRT.out.later (BB.out.mono hB) (Nat.le_refl _)) (Nat.le_trans hB BB.out.size) (by have := Hsm.out.2.2.1; omega) hgs
          go_at_call 51
          refine hc.mono ?_
          rintro e wd ⟨_, gt, ct, rfl, ⟨ta, rfl, sta⟩, hgt, gotT, bd⟩
          have hgt2 : gt = zD.heap.size + 1 ∨ wc.heap.size ≤ gt := hgt.imp (fun h => h.1) id
          have hgtl := gotT.2.2.2.1
          replace OW := Lib.hid (row_later OW.out bd)
          replace Hso := Lib.hid (fun q hq => (Hso.out q hq).later bd : ∀ q ∈ rs, SqOwn wd (P + 1) q)
          have gilt := GI.out.2.2.2.2.1
          replace GI := Lib.hid (GI.out.later bd)
          have GT := Lib.hid gotT
          replace KS := tkb bd LSc KS
          replace BB := tbt BB bd
          have LPd : Hid (P < wd.heap.size) := Lib.hid (Nat.lt_of_lt_of_le LPc.out bd.size)
          replace MO := Lib.hid (MO.out.later bd)
          replace MR := Lib.hid (MR.out.later bd)
          clear hc gotT bd hgt
          go_wp2_with fail
          refine hK.out _ _ (tcr KS 1) (fun hHeld => ?_)
          clear hK K
          have h0 : (0 : Int) ≤ (k : Int) := by omega
          refine tk0 7 ?_
          refine tk0 8 ?_
          refine rd1 9 (fun K hK => ?_)
          have hlenL : (rs.flatMap sqC ++ R).length = N * 2 := OW.out.1
          have hlenk : (rs.flatMap sqC).length = k * 2 := by rw [sqC_len, Hrs.out.1]
          obtain ⟨r0, r1, R', rfl⟩ : ∃ r0 r1 R', R = r0 :: r1 :: R' := by
            rw [List.length_append, hlenk] at hlenL
            match R, hlenL with
            | r0 :: r1 :: R', _ => exact ⟨r0, r1, R', rfl⟩
            | [], h => simp at h; omega
            | [_], h => simp at h; omega
          have k0 : wd.cell? ⟨P, k * 2, none⟩ = some r0 := by
            rw [World.ownsRow.cellAt OW.out (k * 2) (by omega), List.getElem?_append_right (by omega), hlenk]; simp
          have k1 : wd.cell? ⟨P, k * 2 + 1, none⟩ = some r1 := by
            rw [World.ownsRow.cellAt OW.out (k * 2 + 1) (by omega), List.getElem?_append_right (by omega), hlenk, show k * 2 + 1 - k * 2 = 1 by omega]; rfl
          have z0 := World.ownsRow.frozenAt OW.out (k * 2)
          have z1 := World.ownsRow.frozenAt OW.out (k * 2 + 1)
          have Hlk := Lib.hid hlenk
          clear hlenL hlenk
          go_simp
          have hcf : ∀ (z : World) (i : Nat) (u : Value), z.cell? ⟨w.heap.size, 1, none⟩ = some (.slice a1 s.talks.length c1) → (z.setCell ⟨P, i, none⟩ u).cell? ⟨w.heap.size, 1, none⟩ = some (.slice a1 s.talks.length c1) := fun z i u h => by
            rw [World.cell?_setCell_far _ _ _ _ (show P ≠ w.heap.size by omega)]; exact h
          refine hK.out _ _ (hcf _ _ _ (hcf _ _ _ (tcr KS 1))) (fun hHeld => ?_)
          clear hK K hcf k0 k1 z0 z1
          refine wpAnyH_done (by kernel_rfl) ?_ _
          clear hHeld
          go_wp2_with fail
          have hPi : P + 1 ≤ zD.heap.size := LP.out
          have hYg := (grown_set wd ⟨P, k * 2, none⟩ (.slice (some ⟨gi, 0, none⟩) (partS s N k).items.length ci)).trans (grown_set _ ⟨P, k * 2 + 1, none⟩ (.slice ta s.talks.length ct))
          go_roundw
          case rel =>
            refine ⟨k + 1, 0 + nr, _, R', rs ++ [⟨.slice (some ⟨gi, 0, none⟩) (partS s N k).items.length ci, .slice ta s.talks.length ct, gi, ci, gt, ct, partS s N k⟩], by omega, by go_num, Lib.hid (MR.out.kept hYg (by simp; omega)), Lib.hid (MO.out.kept hYg (by simp; omega)), Lib.hid ?_, Lib.hid ⟨?_, ?_⟩, Lib.hid ?_, Lib.hid ?_, tkg hYg (Lib.hid (by have := LPd.out; omega)) KS (by simp; omega), Lib.hid (BB.out.grown hYg BB.out.size (fun j e => by cases e; show w.heap.size ≤ P; omega)), Lib.hid (by rw [World.size_setCell, World.size_setCell]; exact LPd.out)⟩
            · rw [List.flatMap_append, List.append_assoc]
              have h := ((OW.out.stored (k * 2) (.slice (some ⟨gi, 0, none⟩) (partS s N k).items.length ci)).1.stored (k * 2 + 1) (.slice ta s.talks.length ct)).1
              rw [set_two _ _ _ _ _ Hlk.out] at h
              exact h
            · rw [List.length_append, Hrs.out.1]; rfl
            · rw [List.map_append, Hrs.out.2, List.take_succ_eq_append_getElem (by simpa using hlt)]
              simp
            · intro q hq
              rcases List.mem_append.1 hq with hq | hq
              · have h := Hso.out q hq
                exact h.grown hYg (by show q.gi ≠ P; have := h.2.2.1.2.2.2.1; omega) (by show q.gt ≠ P; have := h.2.2.2.2.2.2.1; omega)
              · obtain rfl := List.mem_singleton.1 hq
                have h : SqOwn wd (P + 1) ⟨.slice (some ⟨gi, 0, none⟩) (partS s N k).items.length ci, .slice ta s.talks.length ct, gi, ci, gt, ct, partS s N k⟩ := ⟨⟨_, rfl, .inl rfl⟩, ⟨_, rfl, sta⟩, GI.out.base hPi, Got.base (by exact GT.out) (by omega)⟩
                exact h.grown hYg (by show gi ≠ P; omega) (by show gt ≠ P; have := Bcz.out; omega)
            · rw [sqB_append, List.nodup_append]
              refine ⟨Hnd.out, ?_, fun a ha b hb => ?_⟩
              · have := Bcz.out
                simp [sqB_one]
                rcases hgt2 with e | e <;> omega
              · have h1 := sqB_old.out a ha
                have := Bcz.out
                simp [sqB_one] at hb
                rcases hb with rfl | rfl
                · omega
                · rcases hgt2 with e | e <;> omega
          case measure => simp [intOf]; omega
        · have hlt' : ¬ (k : Int) < (N : Int) := by omega
          have hR : R = [] := by
            have h1 := OW.out.1
            rw [List.length_append, sqC_len, Hrs.out.1] at h1
            exact List.eq_nil_of_length_eq_zero (by omega)
          have hrl : rs.length = N := by have := Hrs.out.1; omega
          have Hout : Hid (OwnL wr w.heap.size P N N rs) := Lib.hid (by
            have h1 := OW.out
            rw [hR, List.append_nil] at h1
            refine ⟨h1, ⟨Nat.le_refl _, by unfold maxLen; omega⟩, hrl, fun q hq => (Hso.out q hq).base (by omega), Hnd.out, fun hm => ?_⟩
            have := (sqB_lt Hso.out _ hm).1
            omega)
          have Hm : Hid (rs.map Sq.s = splitS s N) := Lib.hid (by rw [hres.out, Hrs.out.2, Int.toNat_natCast]; exact List.take_of_length_le (by simp; omega))
          have Hrl := Lib.hid hrl
          clear hR OW Hso Hnd hrl
          go_wp2
          go_ret
          exact ⟨_, rfl, rs, .inr ⟨P, N, by rw [Hrl.out]; rfl, by rw [Hrl.out]; exact Hout.out⟩, Hm.out, BB.out⟩
end Go.Proofs.Ytebmaplflpfjbaa
