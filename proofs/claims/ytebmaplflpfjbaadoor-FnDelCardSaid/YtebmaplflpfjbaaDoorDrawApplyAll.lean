/- A drawn state and a drawn row of operations. Condition: a code of at most 2^20 bytes; what is known of the drawn states is handed in. -/
import Derived.Test.YtebmaplflpfjbaaDoorDrawOp
import Derived.Test.YtebmaplflpfjbaaDoorDrawState
import Derived.Test.YtebmaplflpfjbaaDoorBaseA
namespace Go.Proofs.YtebmaplflpfjbaaDoor
open Go.RowKit
set_option linter.unusedVariables false
set_option linter.unusedSimpArgs false

theorem wpList_appD {P : Program} {w w' : World} {ops : Array Oper} {rest : List Oper} {o : Oper} {a : Act} {Q : Exit → Act → World → Prop} {sv xv v' : Value} (hg : o.guard = none) (s x : Operand) (t : TypeId) (hop : o.op = Op.call { callee := Callee.builtin Builtin.append, args := #[s, x], argTypes := #[t, t] })
    (run : (Builtin.append_ #[t, t] o.type #[sv, xv]).run P w = .ok v' w') (hs : a.eval s = sv) (hx : a.eval x = xv) (hK : wpList P ops Q rest (a.put o.dst v') w') : wpList P ops Q (o :: rest) a w := by
  refine wpList_plain hg fun K' hK' => ?_
  unfold Oper.wp
  simp [execOp, hop, resolve, invoke, builtin, hs, hx, run, Result.andThen]
  exact hK' _ _ hK
/-- What is known of a drawn state. -/
def MakeP (P : St → Prop) : Prop := ∀ (B blk : Nat) (w : World), Cu TC w B blk → Calls Tryd.prog 60 #[.pointer (some ⟨blk, 0, none⟩)] w (fun e w' => ∃ v s, e = .returned v ∧ OwnN w' w.heap.size v s ∧ (Sm s 6 3 ∧ P s) ∧ Cu TC w' B blk ∧ w.grownBy w' (some blk))
theorem make_true : MakeP (fun _ => True) := fun B blk w c => (make_any B blk w c).mono fun e w' ⟨v, s, h1, h2, h3, h4, h5⟩ => ⟨v, s, h1, h2, ⟨h3, trivial⟩, h4, h5⟩
set_option maxRecDepth 100000 in
set_option maxHeartbeats 8000000 in
theorem drawApplyAll_any (P : St → Prop) (hmake : MakeP P) (a : Option Addr) (len cap : Nat) (zs : List Int) (w : World) (hr : Row8 w w.heap.size a len cap zs) (hl : len ≤ 1048576) :
    Calls Tryd.prog 23 #[.slice a len cap] w fun e w' => ∃ (v : Value) (s : St) (g n cap : Nat) (xs : List Rq), e = .returned (.tuple #[v, .slice (some ⟨g, 0, none⟩) n cap]) ∧ n = xs.length ∧ StV w' w'.heap.size v s ∧ (Sm s 6 3 ∧ P s) ∧ Raw w' w'.heap.size (.slice (some ⟨g, 0, none⟩) n cap) n (xs.flatMap rqC) ∧ n ≤ 7 ∧ (∀ x ∈ xs, SmRq x) ∧ Below w.heap.size w w' := by
  obtain ⟨W, hW⟩ : ∃ W, W = w.alloc (.cells #[.slice none 0 0, .slice none 0 0] 27) := ⟨_, rfl⟩
  have hbW : Below w.heap.size w W := by rw [hW]; exact (Below.refl _ _).alloc (Nat.le_refl _) _
  have hWs : W.heap.size = w.heap.size + 1 := by rw [hW]; simp
  have KR : Hid (W.heap[w.heap.size]? = some (.cells #[.slice none 0 0, .slice none 0 0] 27 (0, 0))) := Lib.hid (by rw [hW]; exact heap_new _ _)
  have LR : Hid (w.heap.size < W.heap.size) := Lib.hid (by omega)
  have hc0 := new_any a len cap zs W (hr.later hbW) hl
  rw [hW] at hc0
  have HbW := Lib.hid hbW
  have HM := Lib.hid hmake
  clear hmake
  go_enter Tryd.func23, Tryd.ntmps23
  go_wp2_with (go_at_call 30; refine hc0.mono ?_; rintro e w1 ⟨rfl, cu, hb⟩; refine Hid.out ?_)
  refine Lib.hid ?_
  rw [← hW] at cu hb
  rw [hWs] at cu
  replace KR := tkb hb LR KR
  replace LR := tlz LR hb.size
  have BB := Lib.hid (HbW.out.trans (hb.mono HbW.out.size))
  have LB1 : Hid (w.heap.size + 1 < w1.heap.size) := Lib.hid cu.lt
  have hc1 := HM.out _ _ w1 cu
  clear hc0 hb hr hbW hWs hW cu
  go_wp2_with (go_at_call 60; refine hc1.mono ?_; rintro e w2 ⟨v, s, rfl, ho, hsm, cu, gr⟩; refine Hid.out ?_)
  refine Lib.hid ?_
  obtain ⟨_, _, gi, ci, gt, ct, rfl, hne, ⟨ai, rfl, sI⟩, ⟨at_, rfl, sT⟩, gI, gT⟩ := ho
  have HI : Hid (w1.heap.size ≤ gi ∧ gi < w2.heap.size ∧ w1.heap.size ≤ gt ∧ gt < w2.heap.size) := Lib.hid ⟨gI.2.2.2.1, gI.2.2.2.2.1, gT.2.2.2.1, gT.2.2.2.2.1⟩
  have GI := Lib.hid gI
  have GT := Lib.hid gT
  have SI := Lib.hid sI
  have ST := Lib.hid sT
  have Hsm := Lib.hid hsm
  have CU := Lib.hid cu
  replace KR := tkg gr LR KR (by simp)
  replace LR := tlz LR gr.size
  replace BB := Lib.hid (BB.out.trans (below_other gr (Nat.le_succ _) BB.out.size))
  have L12 : Hid (w1.heap.size ≤ w2.heap.size) := Lib.hid gr.size
  clear hc1 gr cu hsm gI gT sI sT hne HbW
  obtain ⟨X, hX⟩ : ∃ x, x = w2.alloc (.cells #[.slice ai s.items.length ci, .slice at_ s.talks.length ct] 27) := ⟨_, rfl⟩
  obtain ⟨X2, hX2⟩ : ∃ x, x = X.alloc (.cells #[] 29) := ⟨_, rfl⟩
  have b1 : Below w2.heap.size w2 X := by rw [hX]; exact (Below.refl _ _).alloc (Nat.le_refl _) _
  have b2 : Below X.heap.size X X2 := by rw [hX2]; exact (Below.refl _ _).alloc (Nat.le_refl _) _
  have s1 : X.heap.size = w2.heap.size + 1 := by rw [hX]; simp
  have s2 : X2.heap.size = w2.heap.size + 1 + 1 := by rw [hX2]; simp [s1]
  have KS : Hid (X2.heap[w2.heap.size]? = some (.cells #[.slice ai s.items.length ci, .slice at_ s.talks.length ct] 27 (0, 0))) := tkb b2 (Lib.hid (by omega)) (Lib.hid (by rw [hX]; exact heap_new _ _))
  have b12 : Below w2.heap.size w2 X2 := b1.trans (b2.mono b1.size)
  replace KR := tkb b12 LR KR
  replace LR := tlz LR b12.size
  replace GI := Lib.hid (GI.out.later b12)
  replace GT := Lib.hid (GT.out.later b12)
  replace BB := tbt BB b12
  replace CU := Lib.hid (CU.out.kept (b12.mono (by have := CU.out.le; have := CU.out.lt; omega)) (b12.block _ CU.out.lt))
  have GL : Hid (Got X2 (w2.heap.size + 1) 29 5 (w2.heap.size + 1) 0 0 []) := Lib.hid ⟨rfl, Nat.le_refl _, Nat.zero_le _, Nat.le_refl _, by omega, .inl ⟨rfl, rfl⟩⟩
  have LS : Hid (w2.heap.size < X2.heap.size) := Lib.hid (by omega)
  have hc := below_any 7 (by omega) _ _ X2 CU.out
  rw [hX2, hX] at hc
  clear b1 b2 b12 s1 s2
  go_wp2_with (go_at_call 61; refine hc.mono ?_; rintro e w4 ⟨n, ⟨hn0, hn1, _⟩, rfl, cu, gr⟩; refine Hid.out ?_)
  refine Lib.hid ?_
  rw [← hX, ← hX2] at gr
  clear hc hX2 hX
  have hn7 := hn1 (by omega)
  obtain ⟨N, rfl⟩ := Int.eq_ofNat_of_zero_le hn0
  have hN : N ≤ 7 := by omega
  have l12 := L12.out
  have lb1 := LB1.out
  have hi := HI.out
  replace KR := tkg gr LR KR (by simp)
  replace LR := tlz LR gr.size
  replace KS := tkg gr LS KS (fun e => by have := Option.some.inj e; omega)
  replace LS := tlz LS gr.size
  replace GI := Lib.hid (GI.out.grown gr (by omega))
  replace GT := Lib.hid (GT.out.grown gr (by omega))
  replace GL := Lib.hid (GL.out.grown gr (by omega))
  replace BB := Lib.hid (BB.out.trans (below_other gr (Nat.le_succ _) BB.out.size))
  replace CU := Lib.hid cu
  clear gr cu hn0 hn1 hn7
  go_wp2_with fail
  go_loopw [6, 8] (fun lv i wr => ∃ (k g cap : Nat) (xs : List Rq), k ≤ N ∧ i = .int .i64 k ∧ lv = .slice (some ⟨g, 0, none⟩) k cap ∧ Hid (Got wr (w2.heap.size + 1) 29 5 g k cap (xs.flatMap rqC)) ∧ Hid (xs.length = k ∧ ∀ x ∈ xs, SmRq x) ∧ Hid (Cu TC wr (w.heap.size + 1) (w.heap.size + 1)) ∧ Hid (wr.heap[w2.heap.size]? = some (.cells #[.slice ai s.items.length ci, .slice at_ s.talks.length ct] 27 (0, 0))) ∧ Hid (wr.heap[w.heap.size]? = some (.cells #[.slice none 0 0, .slice none 0 0] 27 (0, 0))) ∧ Hid (Got wr w1.heap.size 41 2 gi s.items.length ci (s.items.flatMap itC)) ∧ Hid (Got wr w1.heap.size 38 3 gt s.talks.length ct (s.talks.flatMap tkC)) ∧ Hid (Below w.heap.size w wr) ∧ Hid (w2.heap.size < wr.heap.size)) (fun _ i _ => N - (intOf i).toNat)
  case atStart => exact ⟨0, _, _, [], Nat.zero_le _, rfl, rfl, GL, Lib.hid ⟨rfl, fun x hx => by cases hx⟩, CU, KS, KR, GI, GT, BB, LS⟩
  case round =>
    clear GL CU KS KR GI GT BB LS LR
    obtain ⟨k, g, cap, xs, hk, rfl, rfl, GL, HX, CU, KS, KR, GI, GT, BB, LS⟩ := hrel
    have LR : Hid (w.heap.size < wr.heap.size) := Lib.hid (by have := LS.out; omega)
    by_cases hlt : k < N
    · have hlt' : (k : Int) < (N : Int) := by omega
      have hc := oddOp_any _ _ wr CU.out
      go_wp2_with (go_at_call 32; refine hc.mono ?_; rintro e w5 ⟨x, hx, rfl, cu, gr⟩; refine Hid.out ?_)
      refine Lib.hid ?_
      have hgb := GL.out.2.2.2.1
      replace KR := tkg gr LR KR (by simp)
      replace LR := tlz LR gr.size
      replace KS := tkg gr LS KS (fun e => by have := Option.some.inj e; omega)
      replace LS := tlz LS gr.size
      replace GI := Lib.hid (GI.out.grown gr (by omega))
      replace GT := Lib.hid (GT.out.grown gr (by omega))
      replace GL := Lib.hid (GL.out.grown gr (by omega))
      replace BB := Lib.hid (BB.out.trans (below_other gr (Nat.le_succ _) BB.out.size))
      have Hx := Lib.hid hx
      obtain ⟨A, hA⟩ : ∃ A, A = w5.alloc (.cells #[.string x.c, .int .i64 x.q, .int .i64 x.n, .string x.k, .string x.v] 29) := ⟨_, rfl⟩
      have bA : Below w5.heap.size w5 A := by rw [hA]; exact (Below.refl _ _).alloc (Nat.le_refl _) _
      have sA : w5.heap.size < A.heap.size := by rw [hA]; simp
      have rX : Raw A A.heap.size (.slice (some ⟨w5.heap.size, 0, none⟩) 1 1) 1 (rqC x) := ⟨_, 1, rfl, Nat.le_refl _, by decide, (fun h => by cases h), fun _ => ⟨w5.heap.size, 0, rfl, sA, fun j u hu => by
        rw [hA, World.cell?_alloc_new]
        simpa [rqC] using hu⟩⟩
      obtain ⟨i0, p1, p2, p3, p4⟩ := info_parts infoOpD
      obtain ⟨g', cap', w6, hrun, hg3, hloc, got3⟩ := run_app (P := Tryd.prog) A 47 47 29 i0 _ 5 64 Tryd.underlying47 p1 p2 p3 p4 rfl (by decide) g k cap (w2.heap.size + 1) _ (GL.out.later bA) _ _ 1 _ rX rfl (by intro u hu; simp [rqC] at hu; rcases hu with rfl | rfl | rfl | rfl | rfl <;> rfl) (by unfold maxLen; omega) (by omega)
      have hcl := cu.lt
      have hcle := cu.le
      have KR2 := tkg hg3 (tlz LR bA.size) (tkb bA LR KR) (fun e => by have := Option.some.inj e; omega)
      have KS2 := tkg hg3 (tlz LS bA.size) (tkb bA LS KS) (fun e => by have := Option.some.inj e; omega)
      have GI2 := Lib.hid ((GI.out.later bA).grown hg3 (by omega))
      have GT2 := Lib.hid ((GT.out.later bA).grown hg3 (by omega))
      have BB2 : Hid (Below w.heap.size w w6) := Lib.hid ((BB.out.trans (bA.mono BB.out.size)).grown hg3 (Nat.le_trans BB.out.size bA.size) (fun j e => by cases e; omega))
      have LS2 := tlz (tlz LS bA.size) hg3.size
      have CU2 : Hid (Cu TC w6 (w.heap.size + 1) (w.heap.size + 1)) := Lib.hid (by
        have c1 := cu.kept (bA.mono (by omega)) (bA.block _ hcl)
        exact c1.kept (below_other hg3 (by omega) (by have := bA.size; omega)) (hg3.block _ (Nat.lt_of_lt_of_le hcl bA.size) (fun e => by have := Option.some.inj e; omega)))
      have GL2 : Hid (Got w6 (w2.heap.size + 1) 29 5 g' (k + 1) cap' ((xs ++ [x]).flatMap rqC)) := Lib.hid (by rw [List.flatMap_append]; simpa using got3)
      have HX2 : Hid ((xs ++ [x]).length = k + 1 ∧ ∀ z ∈ xs ++ [x], SmRq z) := Lib.hid ⟨by rw [List.length_append, HX.out.1]; rfl, fun z hz => by
        rcases List.mem_append.1 hz with h | h
        · exact HX.out.2 z h
        · rw [List.mem_singleton.1 h]; exact Hx.out⟩
      rw [hA] at hrun
      unfold rqA
      clear hA bA sA rX p1 p2 p3 p4 hg3 hloc got3 hcl hcle hc gr cu hx GL GI GT KR KS BB LS LR CU HX
      go_wp2_with (at_builtin; refine wpList_appD rfl _ _ _ rfl hrun rfl rfl ?_)
      go_roundw
      case rel => exact ⟨k + 1, g', cap', xs ++ [x], by omega, by go_num, rfl, GL2, HX2, CU2, KS2, KR2, GI2, GT2, BB2, LS2⟩
      case measure => simp [intOf]; omega
    · have hlt' : ¬ (k : Int) < (N : Int) := by omega
      have fS0 := tcr KS 0
      have fS1 := tcr KS 1
      have fR0 := tcr KR 0
      have fR1 := tcr KR 1
      have zR0 := tfr KR 0
      have zR1 := tfr KR 1
      go_wp2_with fail
      have f1 := heap_setCell_same _ w.heap.size 0 _ _ (.slice ai s.items.length ci) KR.out
      have f2 := heap_setCell_same _ w.heap.size 1 _ _ (.slice at_ s.talks.length ct) f1
      obtain ⟨j0, q1, q2, q3, q4⟩ := info_parts infoSt
      have gR := (grown_set wr ⟨w.heap.size, 0, none⟩ (.slice ai s.items.length ci)).trans (grown_set _ ⟨w.heap.size, 1, none⟩ (.slice at_ s.talks.length ct))
      have hgb := GL.out.2.2.2.1
      refine bodyPost_ret (results_cell_row2 (P := Tryd.prog) rfl _ _ w.heap.size _ _ (0, 0) _ _ rfl rfl f2 Tryd.underlying27 rfl (by rw [q1]; simp [q3])) rfl ?_
      refine ⟨_, s, g, k, cap, rfl, xs, HX.out.1.symm, ?_, Hsm.out, ?_, by omega, HX.out.2, ?_⟩
      · exact ⟨_, _, rfl, row_of_gotN (GI.out.grown gR (by show gi ≠ w.heap.size; omega)) ⟨ai, rfl, SI.out⟩, row_of_gotN (GT.out.grown gR (by show gt ≠ w.heap.size; omega)) ⟨at_, rfl, ST.out⟩⟩
      · exact raw_of_row (row_of_got (GL.out.grown gR (by show g ≠ w.heap.size; omega)))
      · exact (BB.out.setCell (p := ⟨w.heap.size, 0, none⟩) (Nat.le_refl _) _).setCell (p := ⟨w.heap.size, 1, none⟩) (Nat.le_refl _) _
end Go.Proofs.YtebmaplflpfjbaaDoor
