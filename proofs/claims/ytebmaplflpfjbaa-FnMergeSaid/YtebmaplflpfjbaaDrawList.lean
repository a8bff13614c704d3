/- Drawn rows of states: the parts of a drawn state, and a state more, or one with a talk more. Condition: a cursor. -/
import Derived.Test.YtebmaplflpfjbaaDrawOdd
import Derived.Test.YtebmaplflpfjbaaSpecSplit
import Derived.Test.YtebmaplflpfjbaaSameStates
import Derived.Test.YtebmaplflpfjbaaSpecAdd
import Derived.Test.YtebmaplflpfjbaaMapSort
import Derived.Test.YtebmaplflpfjbaaBaseA
namespace Go.Proofs.Ytebmaplflpfjbaa
open Go.RowKit
set_option linter.unusedVariables false
set_option linter.unusedSimpArgs false

theorem GotL.kept {w w' : World} {base g cap k : Nat} {qs : List Sq} (h : GotL w base g cap qs) (hg : w.grownBy w' (some k)) (hk : k < base) : GotL w' base g cap qs :=
  ⟨h.1.kept hg (.inl hk), fun q hq => ⟨(h.2.1 q hq).1, (h.2.1 q hq).2.1, (h.2.1 q hq).2.2.1.kept hg (.inl hk), (h.2.1 q hq).2.2.2.kept hg (.inl hk)⟩, h.2.2.1, h.2.2.2⟩
theorem GotL.later {w w' : World} {base g cap : Nat} {qs : List Sq} (h : GotL w base g cap qs) (hb : Below w.heap.size w w') : GotL w' base g cap qs :=
  ⟨h.1.later hb, fun q hq => (h.2.1 q hq).later hb, h.2.2.1, h.2.2.2⟩
theorem grown_in {w A w' : World} {b g : Nat} (h1 : w.grownBy A (some b)) (h2 : A.grownBy w' (some g)) (hg : w.heap.size ≤ g) : w.grownBy w' (some b) :=
  ⟨h2.os.trans h1.os, h2.tape.trans h1.tape, h2.output.trans h1.output, Nat.le_trans h1.size h2.size, fun k hk hne => (h2.block k (Nat.lt_of_lt_of_le hk h1.size) (fun e => by have := Option.some.inj e; omega)).trans (h1.block k hk hne)⟩
theorem part_sm {s : St} {n : Int} {qs : List Sq} {a b : Nat} (h : qs.map Sq.s = splitS s n) (hs : Sm s a b) : ∀ q ∈ qs, Sm q.s a b := by
  intro q hq
  have hm : q.s ∈ qs.map Sq.s := List.mem_map_of_mem hq
  rw [h] at hm
  unfold splitS at hm
  split at hm
  · obtain ⟨k, _, e⟩ := List.mem_map.1 hm
    rw [← e]
    exact ⟨Nat.le_trans (List.length_filter_le _ _) hs.1, hs.2.1, fun x hx => hs.2.2.1 x (List.mem_filter.1 hx).1, hs.2.2.2⟩
  · cases hm
theorem chg_sm {s : St} {x : Tk} {a b : Nat} (hs : Sm s a b) (hx : x.c.size ≤ 64 ∧ x.r.size ≤ 64 ∧ -9223372036854775808 ≤ x.q ∧ x.q ≤ 9223372036854775807) : Sm (chg s (putST s x)) a (b + 1) := by
  unfold chg
  split
  · refine ⟨hs.1, Nat.le_trans (putT_len _ _).1 (by have := hs.2.1; omega), hs.2.2.1, fun y hy => ?_⟩
    rcases putT_mem hy with h | h
    · exact hs.2.2.2 y h
    · rw [h]; exact hx
  · exact hs.mono (Nat.le_refl _) (by omega)
set_option maxRecDepth 100000 in
set_option maxHeartbeats 8000000 in
theorem list_any (B blk : Nat) (w : World) (c : Cu TC w B blk) :
    Calls Try.prog 57 #[.pointer (some ⟨blk, 0, none⟩)] w fun e w' => ∃ v qs, e = .returned v ∧ StL w' w'.heap.size v qs ∧ qs.length ≤ 16 ∧ (∀ q ∈ qs, Sm q.s 64 64) ∧ w.grownBy w' (some blk) := by
  have LB := Lib.hid c.lt
  have hc := make_any _ _ w c
  clear c
  go_enter Try.func57, Try.ntmps57
  go_wp2_with (go_at_call 73; refine hc.mono ?_; rintro e w1 ⟨v, s, rfl, ho, hsm, cu, gr⟩; refine Hid.out ?_)
  refine Lib.hid ?_
  have GR := Lib.hid gr
  have OS := Lib.hid ho
  have Hsm := Lib.hid hsm
  obtain ⟨vi, vt, rfl, r1, r2⟩ := ho.st
  have hc := below_any 4 (by omega) _ _ w1 cu
  clear gr cu ho hsm r1 r2
  go_wp2_with (go_at_call 72; refine hc.mono ?_; rintro e w2 ⟨x, ⟨hx0, hx1, _⟩, rfl, cu, gr⟩; refine Hid.out ?_)
  refine Lib.hid ?_
  have hx4 := hx1 (by omega)
  obtain ⟨n, hn⟩ : ∃ n : Int, n = 1 + x := ⟨_, rfl⟩
  have hnw : IntKind.i64.wrap (1 + x) = n := by rw [IntKind.wrap_i64] <;> omega
  replace OS := Lib.hid (OS.out.kept gr LB.out)
  replace GR := Lib.hid (GR.out.trans gr)
  have hc := spec_split s _ n w2.heap.size w2 OS.out.st (Nat.le_refl _) Hsm.out.fits (by omega)
  have CU := Lib.hid cu
  have Hn : Hid (1 ≤ n ∧ n ≤ 4) := Lib.hid (by omega)
  clear gr cu hx0 hx1 hx4 hn
  go_wp2_with (go_at_call 19; refine hc.mono ?_; rintro e w3 ⟨g, cap, qs, rfl, hg, hm, hb⟩; refine Hid.out ?_)
  refine Lib.hid ?_
  have L2 : Hid (blk < w2.heap.size) := Lib.hid (CU.out.lt)
  have L0 : Hid (w.heap.size ≤ w2.heap.size) := Lib.hid GR.out.size
  replace CU := Lib.hid (CU.out.kept (hb.mono (by have := CU.out.le; have := CU.out.lt; omega)) (hb.block _ CU.out.lt))
  replace GR := Lib.hid (GR.out.trans (grown_of_below hb (some blk)))
  have GL := Lib.hid hg
  have Hm := Lib.hid (part_sm hm Hsm.out)
  have Hl := Lib.hid (split_few hm)
  have hc := below_any 6 (by omega) _ _ w3 CU.out
  clear hg hm hb hnw OS
  go_wp2_with (go_at_call 72; refine hc.mono ?_; rintro e w4 ⟨y, ⟨hy0, hy1, _⟩, rfl, cu, gr⟩; refine Hid.out ?_)
  refine Lib.hid ?_
  replace GL := Lib.hid (GL.out.kept gr (by have := L2.out; omega))
  replace GR := Lib.hid (GR.out.trans gr)
  replace CU := Lib.hid cu
  have HG4 : Hid (g < w4.heap.size ∧ w2.heap.size + 1 ≤ g) := Lib.hid ⟨GL.out.1.2.2.2.2.1, GL.out.1.2.2.2.1⟩
  have HL0 : Hid (∀ z : World, GotL z (w2.heap.size + 1) g cap qs → w.grownBy z (some blk) → ∃ v qs', Value.slice (some ⟨g, 0, none⟩) qs.length cap = v ∧ StL z z.heap.size v qs' ∧ qs'.length ≤ 16 ∧ (∀ q ∈ qs', Sm q.s 64 64) ∧ w.grownBy z (some blk)) := Lib.hid (fun z h1 h2 => ⟨_, qs, rfl, h1.stl, by have := Hl.out; omega, fun q hq => (Hm.out q hq).mono (by omega) (by omega), h2⟩)
  clear gr cu hc
  by_cases hy : y = 0
  · subst hy
    have hc := odd_any _ _ w4 CU.out
    go_wp2_with (go_at_call 47; refine hc.mono ?_; rintro e w5 ⟨v2, s2, rfl, ho, hsm, cu, gr⟩; refine Hid.out ?_)
    refine Lib.hid ?_
    replace GL := Lib.hid (GL.out.kept gr (by have := L2.out; omega))
    replace GR := Lib.hid (GR.out.trans gr)
    have hs4 := gr.size
    have OS := Lib.hid ho
    have HS2 := Lib.hid hsm
    have hcs : ∃ a0 n0 c0 a1 n1 c1, v2 = .agg #[.slice a0 n0 c0, .slice a1 n1 c1] := by
      obtain ⟨_, _, _, _, _, _, h, _, ⟨a0, rfl, _⟩, ⟨a1, rfl, _⟩, _⟩ := ho
      exact ⟨_, _, _, _, _, _, h⟩
    obtain ⟨a0, n0, c0, a1, n1, c1, rfl⟩ := hcs
    obtain ⟨A, hA⟩ : ∃ A, A = w5.alloc (.cells #[.slice a0 n0 c0, .slice a1 n1 c1] 31) := ⟨_, rfl⟩
    have bA : Below w5.heap.size w5 A := by rw [hA]; exact (Below.refl _ _).alloc (Nat.le_refl _) _
    have sA : w5.heap.size < A.heap.size := by rw [hA]; simp
    have rX : Raw A A.heap.size (.slice (some ⟨w5.heap.size, 0, none⟩) 1 1) 1 [.slice a0 n0 c0, .slice a1 n1 c1] := ⟨_, 1, rfl, Nat.le_refl _, by decide, (fun h => by cases h), fun _ => ⟨w5.heap.size, 0, rfl, sA, fun j u hu => by
      rw [hA, World.cell?_alloc_new]
      simpa using hu⟩⟩
    obtain ⟨i0, p1, p2, p3, p4⟩ := info_parts infoSt
    have hl8 := Hl.out
    have GLA := GL.out.later bA
    obtain ⟨g', cap', w6, hrun, hg3, hloc, got3⟩ := run_app (P := Try.prog) A 34 34 31 i0 _ 2 48 Try.underlying34 p1 p2 p3 p4 rfl (by decide) g qs.length cap (w2.heap.size + 1) _ GLA.1 _ _ 1 _ rX rfl (by intro u hu; simp at hu; rcases hu with rfl | rfl <;> rfl) (by unfold maxLen; omega) (by omega)
    have hgl := GL.out.1.2.2.2.2.1
    have hg4 : g < w4.heap.size := HG4.out.1
    have hgb := GL.out.1.2.2.2.1
    have Hfin : Hid (∃ v qs', Value.slice (some ⟨g', 0, none⟩) (qs.length + 1) cap' = v ∧ StL w6 w6.heap.size v qs' ∧ qs'.length ≤ 16 ∧ (∀ q ∈ qs', Sm q.s 64 64) ∧ w.grownBy w6 (some blk)) := Lib.hid (by
      refine ⟨_, qs ++ [⟨.slice a0 n0 c0, .slice a1 n1 c1, 0, 0, 0, 0, s2⟩], rfl, ⟨?_, ?_⟩, by simp; omega, ?_, ?_⟩
      · rw [List.length_append, List.flatMap_append]
        exact raw_of_row (row_of_got got3)
      · intro q hq
        rcases List.mem_append.1 hq with hq | hq
        · have h1 := GLA.2.1 q hq
          have h2 := sqB_mem hq
          exact (h1.grown hg3 (fun e => GLA.2.2.2 (by rw [← e]; exact h2.1)) (fun e => GLA.2.2.2 (by rw [← e]; exact h2.2))).st
        · rw [List.mem_singleton.1 hq]
          exact ((OS.out.later bA).kept hg3 hg4).st
      · intro q hq
        rcases List.mem_append.1 hq with hq | hq
        · exact (Hm.out q hq).mono (by omega) (by omega)
        · rw [List.mem_singleton.1 hq]; exact HS2.out.mono (by omega) (by omega)
      · exact grown_in (GR.out.trans (grown_of_below bA (some blk))) hg3 (by have := L0.out; have := HG4.out; omega))
    rw [hA] at hrun
    clear hA bA sA rX p1 p2 p3 p4 GLA hg3 hloc got3 hgl hgb hl8 hc gr cu ho hsm OS GL CU
    go_wp2_with (at_builtin; refine wpList_appE rfl _ _ _ rfl hrun rfl rfl ?_)
    go_ret
    obtain ⟨v, qs', h0, h1⟩ := Hfin.out
    exact ⟨v, qs', congrArg _ h0, h1⟩
  · by_cases hy1' : y = 1
    · subst hy1'
      by_cases hz : 0 < qs.length
      · obtain ⟨q0, tl, rfl⟩ : ∃ q0 tl, qs = q0 :: tl := by
          cases qs with
          | nil => simp at hz
          | cons a b => exact ⟨a, b, rfl⟩
        have hlq : ((q0 :: tl).length : Int) = (tl.length : Int) + 1 := by simp
        have hq0 := GL.out.2.1 q0 (by simp)
        obtain ⟨⟨ai, hvi, hni⟩, ⟨at_, hvt, hnt⟩, gI, gT⟩ := id hq0
        have hat := (row_of_got GL.out.1).2
        have F0 : Hid (∀ z, GotL z (w2.heap.size + 1) g cap (q0 :: tl) → z.cell? ⟨g, 0, none⟩ = some (.slice ai q0.s.items.length q0.ci) ∧ z.cell? ⟨g, 1, none⟩ = some (.slice at_ q0.s.talks.length q0.ct) ∧ z.frozen? ⟨g, 0, none⟩ = false ∧ z.frozen? ⟨g, 1, none⟩ = false ∧ g < z.heap.size) := Lib.hid (fun z h => by
          have h1 := h.1
          rcases h1.2.2.2.2.2 with ⟨h2, _⟩ | h2
          · simp at h2
          · have c0 := World.ownsRow.cellAt h2 0 (by simp)
            have c1 := World.ownsRow.cellAt h2 1 (by simp; omega)
            rw [List.flatMap_cons] at c0 c1
            refine ⟨c0.trans (by rw [← hvi]; rfl), c1.trans (by rw [← hvt]; rfl), World.ownsRow.frozenAt h2 0, World.ownsRow.frozenAt h2 1, h1.2.2.2.2.1⟩)
        have Hv := Lib.hid (And.intro hvi hvt)
        have Hcap : Hid ((q0 :: tl).length ≤ cap ∧ cap ≤ maxLen) := Lib.hid ⟨GL.out.1.2.1, GL.out.1.2.2.1⟩
        have hcap : 0 < cap := by have := GL.out.1.2.1; simp at this; omega
        have hcap2 : cap ≤ 9223372036854775807 := by have := GL.out.1.2.2.1; unfold maxLen at this; omega
        clear hq0 gI gT hni hnt hat hvi hvt
        go_wp2_with fail
        obtain ⟨zD, hzD⟩ : ∃ z, z = w4.drew := ⟨_, rfl⟩
        have bD : Below w4.heap.size w4 zD := by rw [hzD]; exact (Below.refl _ _).drew
        have CD : Hid (Cu TC zD B blk) := Lib.hid (by rw [hzD]; exact CU.out.drew)
        replace GL := Lib.hid (GL.out.later bD)
        replace GR := Lib.hid (GR.out.trans (grown_of_below bD (some blk)))
        refine wp_region_held_drew (S := (fun _ => True)) (by kernel_rfl) trivial (fun hHeld => ?_)
        rw [← hzD]
        clear hzD bD CU
        refine tk0 0 ?_
        refine tk0 1 ?_
        refine tk0 2 ?_
        refine tk0 4 ?_
        refine rd2 3 5 (fun K hK => ?_) (fun K hK => ?_)
        · obtain ⟨c0, c1, _, _, _⟩ := F0.out zD GL.out
          go_simp
          clear c0 c1
          refine hK.out _ _ trivial (fun hHeld => ?_)
          clear hK K
          refine rd1 5 (fun K hK => ?_)
          go_simp
          go_at_call 79
          refine (client_any _ _ zD CD.out).mono ?_
          rintro e w5 ⟨t, ht, rfl, cu, gr⟩
          have hzl := gr.size
          replace GL := Lib.hid (GL.out.kept gr (by have := L2.out; omega))
          replace GR := Lib.hid (GR.out.trans gr)
          clear gr cu CD
          go_wp2_with fail
          refine hK.out _ _ trivial (fun hHeld => ?_)
          clear hK K
          refine tk0 6 ?_
          refine rd1 7 (fun K hK => ?_)
          go_simp
          have Hs0 := Lib.hid (Hm.out q0 (by simp))
          have hst : StV w5 w5.heap.size (.agg #[.slice ai q0.s.items.length q0.ci, .slice at_ q0.s.talks.length q0.ct]) q0.s := by
            have h := (GL.out.2.1 q0 (by simp)).st
            unfold Sq.v at h
            rw [Hv.out.1, Hv.out.2] at h
            exact h
          have hc := spec_putTalkAny q0.s _ ⟨t, 9, ⟨#[110, 105, 110, 101]⟩⟩ w5.heap.size w5 hst (Nat.le_refl _) (by have := Hs0.out.2.1; omega) (Hs0.out.few (by omega) (by omega)) Hs0.out.fits ⟨by show t.size ≤ maxLen; unfold maxLen; omega, (by show (⟨#[110, 105, 110, 101]⟩ : ByteArray).size ≤ maxLen; decide), (by show -9223372036854775808 ≤ (9 : Int); omega), (by show (9 : Int) ≤ 9223372036854775807; omega)⟩
          unfold tkA at hc
          go_at_call 78
          refine hc.mono ?_
          rintro e w6 ⟨_, rfl, ⟨gi, ci, gt, ct, rfl, hne, gI, gT⟩, hb⟩
          have hrs := chg_sm (x := ⟨t, 9, ⟨#[110, 105, 110, 101]⟩⟩) Hs0.out ⟨by show t.size ≤ 64; omega, (by show (⟨#[110, 105, 110, 101]⟩ : ByteArray).size ≤ 64; decide), (by show -9223372036854775808 ≤ (9 : Int); omega), (by show (9 : Int) ≤ 9223372036854775807; omega)⟩
          obtain ⟨r, hr⟩ : ∃ r, r = chg q0.s (putST q0.s ⟨t, 9, ⟨#[110, 105, 110, 101]⟩⟩) := ⟨_, rfl⟩
          rw [← hr] at hrs gI gT ⊢
          have Hrs := Lib.hid hrs
          have OC : Hid (OwnC w6 w5.heap.size (.agg #[.slice (some ⟨gi, 0, none⟩) r.items.length ci, .slice (some ⟨gt, 0, none⟩) r.talks.length ct]) r) := Lib.hid ⟨gi, ci, gt, ct, rfl, hne, gI, gT⟩
          have hg5 := (F0.out w5 GL.out).2.2.2.2
          have HG5 := Lib.hid hg5
          replace GL := Lib.hid (GL.out.later hb)
          replace GR := Lib.hid (GR.out.trans (grown_of_below hb (some blk)))
          clear hb hc hst hrs hr hne gI gT hg5
          go_wp2_with fail
          refine hK.out _ _ trivial (fun hHeld => ?_)
          clear hK K
          refine tk0 8 ?_
          refine tk0 9 ?_
          refine tk0 10 ?_
          refine tk0 11 ?_
          refine rd1 12 (fun K hK => ?_)
          obtain ⟨c0, c1, z0, z1, hgl⟩ := F0.out w6 GL.out
          go_simp
          obtain ⟨Y, hY⟩ : ∃ Y, Y = (w6.setCell ⟨g, 0, none⟩ (.slice (some ⟨gi, 0, none⟩) r.items.length ci)).setCell ⟨g, 1, none⟩ (.slice (some ⟨gt, 0, none⟩) r.talks.length ct) := ⟨_, rfl⟩
          rw [← hY]
          have Hfin : Hid (∃ v qs', Value.slice (some ⟨g, 0, none⟩) (q0 :: tl).length cap = v ∧ StL Y Y.heap.size v qs' ∧ qs'.length ≤ 16 ∧ (∀ q ∈ qs', Sm q.s 64 64) ∧ w.grownBy Y (some blk)) := Lib.hid (by
            have gY : w6.grownBy Y (some g) := by rw [hY]; exact set_grown w6 g _ _
            obtain ⟨x1, x2, x3, x4, x5, x6⟩ := GL.out.1
            have hrow : w6.ownsRow (w2.heap.size + 1) 31 2 (.slice (some ⟨g, 0, none⟩) (q0 :: tl).length cap) (q0 :: tl).length ((q0 :: tl).flatMap sqC) := by
              rcases x6 with ⟨h, _⟩ | h
              · simp at h
              · exact h
            have hrw := ((hrow.stored 0 (.slice (some ⟨gi, 0, none⟩) r.items.length ci)).1.stored 1 (.slice (some ⟨gt, 0, none⟩) r.talks.length ct)).1
            refine ⟨_, ⟨.slice (some ⟨gi, 0, none⟩) r.items.length ci, .slice (some ⟨gt, 0, none⟩) r.talks.length ct, 0, 0, 0, 0, r⟩ :: tl, rfl, ⟨⟨_, cap, rfl, Hcap.out.1, Hcap.out.2, (fun h => by cases h), fun _ => ⟨g, 0, rfl, Nat.lt_of_lt_of_le x5 gY.size, fun j u hu => ?_⟩⟩, ?_⟩, ?_, ?_, ?_⟩
            · have h1 := hrw.cells (g := g) rfl j u (by simpa [List.flatMap_cons, sqC] using hu)
              rw [add_flat] at h1
              rw [hY]; exact h1
            · intro q hq
              rcases List.mem_cons.1 hq with rfl | hq
              · exact (OC.out.kept gY (.inl HG5.out)).stv
              · have h1 := GL.out.2.1 q (by simp [hq])
                have h2 := sqB_mem (show q ∈ q0 :: tl by simp [hq])
                exact (h1.grown gY (fun e => GL.out.2.2.2 (by rw [← e]; exact h2.1)) (fun e => GL.out.2.2.2 (by rw [← e]; exact h2.2))).st
            · have := Hl.out; simp at this ⊢; omega
            · intro q hq
              rcases List.mem_cons.1 hq with rfl | hq
              · exact Hrs.out.mono (by omega) (by omega)
              · exact (Hm.out q (by simp [hq])).mono (by omega) (by omega)
            · exact grown_in GR.out gY (by have := L0.out; have := HG4.out; omega))
          clear c0 c1 z0 z1 hY
          refine hK.out _ _ trivial (fun hHeld => ?_)
          clear hK K
          refine wpAnyH_done (by kernel_rfl) ?_ _
          clear hHeld GL GR OC
          go_wp2_with fail
          go_ret
          obtain ⟨v, qs', h0, h1⟩ := Hfin.out
          exact ⟨v, qs', congrArg _ h0, h1⟩
        · go_simp
          go_at_call 79
          refine (client_any _ _ zD CD.out).mono ?_
          rintro e w5 ⟨t, ht, rfl, cu, gr⟩
          have hzl := gr.size
          replace GL := Lib.hid (GL.out.kept gr (by have := L2.out; omega))
          replace GR := Lib.hid (GR.out.trans gr)
          clear gr cu CD
          go_wp2_with fail
          refine hK.out _ _ trivial (fun hHeld => ?_)
          clear hK K
          refine tk0 6 ?_
          refine rd1 3 (fun K hK => ?_)
          obtain ⟨c0, c1, _, _, _⟩ := F0.out w5 GL.out
          go_simp
          clear c0 c1
          refine hK.out _ _ trivial (fun hHeld => ?_)
          clear hK K
          refine rd1 7 (fun K hK => ?_)
          go_simp
          have Hs0 := Lib.hid (Hm.out q0 (by simp))
          have hst : StV w5 w5.heap.size (.agg #[.slice ai q0.s.items.length q0.ci, .slice at_ q0.s.talks.length q0.ct]) q0.s := by
            have h := (GL.out.2.1 q0 (by simp)).st
            unfold Sq.v at h
            rw [Hv.out.1, Hv.out.2] at h
            exact h
          have hc := spec_putTalkAny q0.s _ ⟨t, 9, ⟨#[110, 105, 110, 101]⟩⟩ w5.heap.size w5 hst (Nat.le_refl _) (by have := Hs0.out.2.1; omega) (Hs0.out.few (by omega) (by omega)) Hs0.out.fits ⟨by show t.size ≤ maxLen; unfold maxLen; omega, (by show (⟨#[110, 105, 110, 101]⟩ : ByteArray).size ≤ maxLen; decide), (by show -9223372036854775808 ≤ (9 : Int); omega), (by show (9 : Int) ≤ 9223372036854775807; omega)⟩
          unfold tkA at hc
          go_at_call 78
          refine hc.mono ?_
          rintro e w6 ⟨_, rfl, ⟨gi, ci, gt, ct, rfl, hne, gI, gT⟩, hb⟩
          have hrs := chg_sm (x := ⟨t, 9, ⟨#[110, 105, 110, 101]⟩⟩) Hs0.out ⟨by show t.size ≤ 64; omega, (by show (⟨#[110, 105, 110, 101]⟩ : ByteArray).size ≤ 64; decide), (by show -9223372036854775808 ≤ (9 : Int); omega), (by show (9 : Int) ≤ 9223372036854775807; omega)⟩
          obtain ⟨r, hr⟩ : ∃ r, r = chg q0.s (putST q0.s ⟨t, 9, ⟨#[110, 105, 110, 101]⟩⟩) := ⟨_, rfl⟩
          rw [← hr] at hrs gI gT ⊢
          have Hrs := Lib.hid hrs
          have OC : Hid (OwnC w6 w5.heap.size (.agg #[.slice (some ⟨gi, 0, none⟩) r.items.length ci, .slice (some ⟨gt, 0, none⟩) r.talks.length ct]) r) := Lib.hid ⟨gi, ci, gt, ct, rfl, hne, gI, gT⟩
          have hg5 := (F0.out w5 GL.out).2.2.2.2
          have HG5 := Lib.hid hg5
          replace GL := Lib.hid (GL.out.later hb)
          replace GR := Lib.hid (GR.out.trans (grown_of_below hb (some blk)))
          clear hb hc hst hrs hr hne gI gT hg5
          go_wp2_with fail
          refine hK.out _ _ trivial (fun hHeld => ?_)
          clear hK K
          refine tk0 8 ?_
          refine tk0 9 ?_
          refine tk0 10 ?_
          refine tk0 11 ?_
          refine rd1 12 (fun K hK => ?_)
          obtain ⟨c0, c1, z0, z1, hgl⟩ := F0.out w6 GL.out
          go_simp
          obtain ⟨Y, hY⟩ : ∃ Y, Y = (w6.setCell ⟨g, 0, none⟩ (.slice (some ⟨gi, 0, none⟩) r.items.length ci)).setCell ⟨g, 1, none⟩ (.slice (some ⟨gt, 0, none⟩) r.talks.length ct) := ⟨_, rfl⟩
          rw [← hY]
          have Hfin : Hid (∃ v qs', Value.slice (some ⟨g, 0, none⟩) (q0 :: tl).length cap = v ∧ StL Y Y.heap.size v qs' ∧ qs'.length ≤ 16 ∧ (∀ q ∈ qs', Sm q.s 64 64) ∧ w.grownBy Y (some blk)) := Lib.hid (by
            have gY : w6.grownBy Y (some g) := by rw [hY]; exact set_grown w6 g _ _
            obtain ⟨x1, x2, x3, x4, x5, x6⟩ := GL.out.1
            have hrow : w6.ownsRow (w2.heap.size + 1) 31 2 (.slice (some ⟨g, 0, none⟩) (q0 :: tl).length cap) (q0 :: tl).length ((q0 :: tl).flatMap sqC) := by
              rcases x6 with ⟨h, _⟩ | h
              · simp at h
              · exact h
            have hrw := ((hrow.stored 0 (.slice (some ⟨gi, 0, none⟩) r.items.length ci)).1.stored 1 (.slice (some ⟨gt, 0, none⟩) r.talks.length ct)).1
            refine ⟨_, ⟨.slice (some ⟨gi, 0, none⟩) r.items.length ci, .slice (some ⟨gt, 0, none⟩) r.talks.length ct, 0, 0, 0, 0, r⟩ :: tl, rfl, ⟨⟨_, cap, rfl, Hcap.out.1, Hcap.out.2, (fun h => by cases h), fun _ => ⟨g, 0, rfl, Nat.lt_of_lt_of_le x5 gY.size, fun j u hu => ?_⟩⟩, ?_⟩, ?_, ?_, ?_⟩
            · have h1 := hrw.cells (g := g) rfl j u (by simpa [List.flatMap_cons, sqC] using hu)
              rw [add_flat] at h1
              rw [hY]; exact h1
            · intro q hq
              rcases List.mem_cons.1 hq with rfl | hq
              · exact (OC.out.kept gY (.inl HG5.out)).stv
              · have h1 := GL.out.2.1 q (by simp [hq])
                have h2 := sqB_mem (show q ∈ q0 :: tl by simp [hq])
                exact (h1.grown gY (fun e => GL.out.2.2.2 (by rw [← e]; exact h2.1)) (fun e => GL.out.2.2.2 (by rw [← e]; exact h2.2))).st
            · have := Hl.out; simp at this ⊢; omega
            · intro q hq
              rcases List.mem_cons.1 hq with rfl | hq
              · exact Hrs.out.mono (by omega) (by omega)
              · exact (Hm.out q (by simp [hq])).mono (by omega) (by omega)
            · exact grown_in GR.out gY (by have := L0.out; have := HG4.out; omega))
          clear c0 c1 z0 z1 hY
          refine hK.out _ _ trivial (fun hHeld => ?_)
          clear hK K
          refine wpAnyH_done (by kernel_rfl) ?_ _
          clear hHeld GL GR OC
          go_wp2_with fail
          go_ret
          obtain ⟨v, qs', h0, h1⟩ := Hfin.out
          exact ⟨v, qs', congrArg _ h0, h1⟩
      · have hl0 : qs.length = 0 := by omega
        rw [hl0]
        go_wp2_with fail
        go_ret
        obtain ⟨v, qs', h0, h1⟩ := HL0.out _ GL.out GR.out
        exact ⟨v, qs', by rw [← h0, hl0]; rfl, h1⟩
    · go_wp2_with fail
      go_ret
      obtain ⟨v, qs', h0, h1⟩ := HL0.out _ GL.out GR.out
      exact ⟨v, qs', congrArg _ h0, h1⟩
end Go.Proofs.Ytebmaplflpfjbaa
