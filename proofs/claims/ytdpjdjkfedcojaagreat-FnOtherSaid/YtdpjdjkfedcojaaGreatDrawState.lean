/- The draws of a value, of a client, of a right state. Condition: none. -/
import Derived.Test.YtdpjdjkfedcojaaGreatBaseA
import Derived.Test.YtdpjdjkfedcojaaGreatAppendNil
import Derived.Test.YtdpjdjkfedcojaaGreatSpecPut
import Derived.Test.YtdpjdjkfedcojaaGreatSpecPutT
import Derived.Test.YtdpjdjkfedcojaaGreatCurA
namespace Go.Proofs.YtdpjdjkfedcojaaGreat
open Go.RowKit List
set_option linter.unusedVariables false
set_option linter.unusedSimpArgs false

theorem below_other {w w' : World} {b B : Nat} (h : w.grownBy w' (some b)) (hb : B ≤ b) (hB : B ≤ w.heap.size) : Below B w w' :=
  ⟨h.os, h.tape, h.output, h.size, fun k hk => h.block k (by omega) (by simp; omega)⟩
theorem value_any (B blk : Nat) (w : World) (c : Cu TC w B blk) :
    Calls Tryz.prog 48 #[.pointer (some ⟨blk, 0, none⟩)] w (DrewText TC w B blk 64) := by
  go_enter Tryz.func48, Tryz.ntmps48
  go_wp2_with (go_at_call 56; refine (pick_lit 64 _ _ 6 6 w _ _ c rfl (by decide) (by decide) rfl).mono ?_; rintro e w3 ⟨t, ht, rfl, hc3, hg3⟩)
  go_ret
  exact ⟨t, ht, rfl, hc3, hg3⟩
theorem client_any (B blk : Nat) (w : World) (c : Cu TC w B blk) :
    Calls Tryz.prog 92 #[.pointer (some ⟨blk, 0, none⟩)] w (DrewText TC w B blk 64) := by
  go_enter Tryz.func92, Tryz.ntmps92
  go_wp2_with (go_at_call 56; refine (pick_lit 64 _ _ 3 3 w _ _ c rfl (by decide) (by decide) rfl).mono ?_; rintro e w3 ⟨t, ht, rfl, hc3, hg3⟩)
  go_ret
  exact ⟨t, ht, rfl, hc3, hg3⟩

/-- As OwnN, or the zero state. -/
def OwnZ (w : World) (base : Nat) (v : Value) (s : St) : Prop := (v = .agg #[.slice none 0 0, .slice none 0 0] ∧ s = ⟨[], []⟩) ∨ OwnN w base v s
theorem OwnZ.kept {w w' : World} {base b : Nat} {v : Value} {s : St} (h : OwnZ w base v s) (hg : w.grownBy w' (some b)) (hb : b < base) : OwnZ w' base v s := h.imp id (fun h => h.kept hg hb)
theorem OwnZ.st {w : World} {base : Nat} {v : Value} {s : St} (h : OwnZ w base v s) : StV w w.heap.size v s := by
  rcases h with ⟨rfl, rfl⟩ | h
  · exact ⟨_, _, rfl, ⟨rfl, .inl ⟨rfl, rfl⟩⟩, ⟨rfl, .inl ⟨rfl, rfl⟩⟩⟩
  · exact h.st
theorem OwnZ.n {w : World} {base base' g h : Nat} {v : Value} {s : St} (hz : OwnZ w base v s) (hb : base' ≤ base) (hg : base' ≤ g ∧ g < w.heap.size) (hh : base' ≤ h ∧ h < w.heap.size) (hne : g ≠ h) : OwnN w base' v s := by
  rcases hz with ⟨rfl, rfl⟩ | hz
  · exact OwnN.nil hg hh hne
  · exact hz.base hb
/-- A drawn state in its box: the box's cells, whose rows these are. -/
def InBox (w : World) (b base : Nat) (s : St) (ai at_ : Option Addr) (ci ct : Nat) : Prop :=
  w.heap[b]? = some (.cells #[.slice ai s.items.length ci, .slice at_ s.talks.length ct] 27 (0, 0)) ∧ b < w.heap.size ∧ OwnZ w base (.agg #[.slice ai s.items.length ci, .slice at_ s.talks.length ct]) s
theorem chgI_len (s : St) (x : It) (a b : Nat) (h : Sm s a b) (hx : x.k.size ≤ 64 ∧ x.v.size ≤ 64) : Sm (chg s (putSI s x)) (a + 1) b := h.putI hx

set_option maxRecDepth 100000 in
set_option maxHeartbeats 8000000 in
theorem make_any (B blk : Nat) (w : World) (c : Cu TC w B blk) :
    Calls Tryz.prog 54 #[.pointer (some ⟨blk, 0, none⟩)] w (DrewSt TC w B blk 6 3) := by
  have LTB := Lib.hid c.lt
  have hbl := c.le
  obtain ⟨W, hW⟩ : ∃ W, W = (w.alloc (.cells #[.slice none 0 0, .slice none 0 0] 27)).alloc (.cells #[.slice none 0 0, .slice none 0 0] 27) := ⟨_, rfl⟩
  have hbW : Below w.heap.size w W := by rw [hW]; exact ((Below.refl _ _).alloc (Nat.le_refl _) _).alloc (by simp) _
  have hWs : W.heap.size = w.heap.size + 2 := by rw [hW]; simp
  have KR : Hid (W.heap[w.heap.size]? = some (.cells #[.slice none 0 0, .slice none 0 0] 27 (0, 0))) := Lib.hid (by rw [hW, Below.heap_alloc _ _ _ (by simp)]; exact heap_new _ _)
  have KS : Hid (W.heap[w.heap.size + 1]? = some (.cells #[.slice none 0 0, .slice none 0 0] 27 (0, 0))) := Lib.hid (by rw [hW]; simpa using heap_new (w.alloc (.cells #[.slice none 0 0, .slice none 0 0] 27)) (.cells #[.slice none 0 0, .slice none 0 0] 27))
  have LR : Hid (w.heap.size < W.heap.size) := Lib.hid (by omega)
  have LS : Hid (w.heap.size + 1 < W.heap.size) := Lib.hid (by omega)
  have LTW : Hid (W.heap.size = w.heap.size + 2) := Lib.hid hWs
  have CU : Hid (Cu TC W B blk) := Lib.hid (c.kept (hbW.mono (by have := c.lt; omega)) (hbW.block _ c.lt))
  have GB : Hid (w.grownBy W (some blk)) := Lib.hid (grown_of_below hbW (some blk))
  clear c hbW hWs
  have hc0 := below_any 7 (by omega) B blk W CU.out
  rw [hW] at hc0
  go_enter Tryz.func54, Tryz.ntmps54
  go_wp2_with (go_at_call 55; refine hc0.mono ?_; rintro e w1 ⟨n, ⟨hn0, hn1, _⟩, rfl, cu, gr⟩; refine Hid.out ?_)
  refine Lib.hid ?_
  rw [← hW] at gr
  replace KR := tkg gr LR KR (by simp; have := LTB.out; omega)
  replace LR := tlz LR gr.size
  replace KS := tkg gr LS KS (by simp; have := LTB.out; omega)
  replace LS := tlz LS gr.size
  replace CU := Lib.hid cu
  replace GB := Lib.hid (GB.out.trans gr)
  clear gr cu hc0 hW
  have hn1 := hn1 (by omega)
  obtain ⟨n, rfl⟩ := Int.eq_ofNat_of_zero_le hn0
  clear hn0
  have WR : Hid (W.heap.size ≤ w1.heap.size) := Lib.hid (by have := GB.out.size; have := LTW.out; have := LS.out; omega)
  go_wp2_with fail
  go_loopw [5] (fun i wr => ∃ (k : Nat) (s : St) (ai at_ : Option Addr) (ci ct : Nat), k ≤ n ∧ i = .int .i64 k ∧ Sm s k 0 ∧ Hid (InBox wr (w.heap.size + 1) W.heap.size s ai at_ ci ct) ∧ Hid (wr.heap[w.heap.size]? = some (.cells #[.slice none 0 0, .slice none 0 0] 27 (0, 0))) ∧ Hid (w.heap.size < wr.heap.size) ∧ Hid (Cu TC wr B blk) ∧ Hid (w.grownBy wr (some blk)) ∧ Hid (W.heap.size ≤ wr.heap.size)) (fun i _ => n - (intOf i).toNat)
  case atStart => exact ⟨0, ⟨[], []⟩, none, none, 0, 0, by omega, rfl, Sm.nil _ _, Lib.hid ⟨KS.out, LS.out, .inl ⟨rfl, rfl⟩⟩, KR, LR, CU, GB, WR⟩
  case round =>
    obtain ⟨k, s, ai, at_, ci, ct, hk, rfl, hsm, IB, KR, LR, CU, GB, WR⟩ := hrel
    have KS := Lib.hid IB.out.1
    have LS := Lib.hid IB.out.2.1
    have OZ := Lib.hid IB.out.2.2
    clear IB
    by_cases hlt : k < n
    · have hlt' : (k : Int) < (n : Int) := by omega
      have hc2 := name_any B blk wr CU.out
      go_wp2_with (go_at_call 46; refine hc2.mono ?_; rintro e w2 ⟨q, hq, rfl, cu, gr⟩; refine Hid.out ?_)
      refine Lib.hid ?_
      replace KR := tkg gr LR KR (by simp; have := LTB.out; omega)
      replace LR := tlz LR gr.size
      replace KS := tkg gr LS KS (by simp; have := LTB.out; omega)
      replace LS := tlz LS gr.size
      replace OZ := Lib.hid (OZ.out.kept gr (by have := LTB.out; have := LTW.out; omega))
      replace WR := Lib.hid (Nat.le_trans WR.out gr.size)
      replace CU := Lib.hid cu
      replace GB := Lib.hid (GB.out.trans gr)
      clear gr cu hc2
      go_wp2_with fail
      refine wp_region_held_drew (S := (fun _ => True)) (by kernel_rfl) trivial (fun hHeld => ?_)
      obtain ⟨zD, hzD⟩ : ∃ z, z = w2.drew := ⟨_, rfl⟩
      rw [← hzD]
      have bzD : Below w2.heap.size w2 zD := by rw [hzD]; exact (Below.refl _ _).drew
      have gz1 := grown_of_below bzD (some blk)
      have cz1 := CU.out.kept (bzD.mono (Nat.le_trans CU.out.le (Nat.le_of_lt CU.out.lt))) (bzD.block _ CU.out.lt)
      replace KR := tkg gz1 LR KR (by simp; have := LTB.out; omega)
      replace LR := tlz LR gz1.size
      replace KS := tkg gz1 LS KS (by simp; have := LTB.out; omega)
      replace LS := tlz LS gz1.size
      replace OZ := Lib.hid (OZ.out.kept gz1 (by have := LTB.out; have := LTW.out; omega))
      replace WR := Lib.hid (Nat.le_trans WR.out gz1.size)
      replace CU := Lib.hid cz1
      replace GB := Lib.hid (GB.out.trans gz1)
      clear gz1 cz1
      clear bzD hzD
      refine tk0 1 ?_
      refine tk0 2 ?_
      refine rd2 0 3 (fun K hK => ?_) (fun K hK => ?_)
      · have fS0 := tcr KS 0
        have fS1 := tcr KS 1
        go_simp
        clear fS0 fS1
        refine hK.out _ _ trivial (fun hHeld => ?_)
        clear hK K
        refine rd1 3 (fun K hK => ?_)
        go_simp
        go_at_call 48
        refine (value_any B blk zD CU.out).mono ?_
        rintro e z2 ⟨t, ht, rfl, cu, gr⟩
        replace KR := tkg gr LR KR (by simp; have := LTB.out; omega)
        replace LR := tlz LR gr.size
        replace KS := tkg gr LS KS (by simp; have := LTB.out; omega)
        replace LS := tlz LS gr.size
        replace OZ := Lib.hid (OZ.out.kept gr (by have := LTB.out; have := LTW.out; omega))
        replace WR := Lib.hid (Nat.le_trans WR.out gr.size)
        replace CU := Lib.hid cu
        replace GB := Lib.hid (GB.out.trans gr)
        clear gr cu
        go_wp2_with fail
        refine hK.out _ _ trivial (fun hHeld => ?_)
        clear hK K
        refine tk0 4 ?_
        refine rd1 5 (fun K hK => ?_)
        go_simp
        have hst := OZ.out.st
        have hc := spec_putItemAny s _ ⟨q, t⟩ z2.heap.size z2 hst (Nat.le_refl _) (by have := hsm.1; omega) (hsm.few (by omega) (by omega)) hsm.fits ⟨by unfold maxLen; show q.size ≤ _; omega, by unfold maxLen; show t.size ≤ _; omega⟩
        obtain ⟨r, hr⟩ : ∃ r, r = chg s (putSI s ⟨q, t⟩) := ⟨_, rfl⟩
        have hsr : Sm r (k + 1) 0 := by rw [hr]; exact hsm.putI ⟨by show q.size ≤ 64; omega, ht⟩
        rw [← hr] at hc
        unfold itA at hc
        go_at_call 91
        refine hc.mono ?_
        rintro e z3 ⟨_, rfl, ho, hb⟩
        clear hc hr hst
        have yV : W.heap.size ≤ z2.heap.size := WR.out
        have gz4 := grown_of_below hb (some blk)
        have cz4 := CU.out.kept (hb.mono (Nat.le_trans CU.out.le (Nat.le_of_lt CU.out.lt))) (hb.block _ CU.out.lt)
        replace KR := tkg gz4 LR KR (by simp; have := LTB.out; omega)
        replace LR := tlz LR gz4.size
        replace KS := tkg gz4 LS KS (by simp; have := LTB.out; omega)
        replace LS := tlz LS gz4.size
        replace OZ := Lib.hid (OZ.out.kept gz4 (by have := LTB.out; have := LTW.out; omega))
        replace WR := Lib.hid (Nat.le_trans WR.out gz4.size)
        replace CU := Lib.hid cz4
        replace GB := Lib.hid (GB.out.trans gz4)
        clear gz4 cz4
        have OR : Hid (OwnN z3 W.heap.size _ r) := Lib.hid (ho.n.base yV)
        obtain ⟨gi, ci', gt, ct', rfl, _, _, _⟩ := ho
        clear hb yV
        go_wp2_with fail
        refine hK.out _ _ trivial (fun hHeld => ?_)
        clear hK K
        refine tk0 6 ?_
        refine tk0 7 ?_
        refine tk0 8 ?_
        refine rd1 9 (fun K hK => ?_)
        have fS0 := tcr KS 0
        have qS0 := tfr KS 0
        have fS1 := tcr KS 1
        have qS1 := tfr KS 1
        go_simp
        clear fS0 qS0 fS1 qS1
        obtain ⟨z5, hz5⟩ : ∃ Y, Y = ((z3).setCell ⟨w.heap.size + 1, 0, none⟩ (.slice (some ⟨gi, 0, none⟩) r.items.length ci')).setCell ⟨w.heap.size + 1, 1, none⟩ (.slice (some ⟨gt, 0, none⟩) r.talks.length ct') := ⟨_, rfl⟩
        rw [← hz5]
        have ez50 := heap_setCell_same _ (w.heap.size + 1) 0 _ _ (.slice (some ⟨gi, 0, none⟩) r.items.length ci') KS.out
        have ez51 := heap_setCell_same _ (w.heap.size + 1) 1 _ _ (.slice (some ⟨gt, 0, none⟩) r.talks.length ct') ez50
        rw [← hz5] at ez51
        simp only [List.setIfInBounds_toArray, List.set_cons_zero, List.set_cons_succ] at ez51
        have gz5 : z3.grownBy z5 (some (w.heap.size + 1)) := by rw [hz5]; exact (grown_set _ ⟨w.heap.size + 1, 0, none⟩ _).trans (grown_set _ ⟨w.heap.size + 1, 1, none⟩ _)
        clear hz5
        replace KR := tkg gz5 LR KR (by first | (simp; done) | (simp; have := LTB.out; omega))
        replace LR := tlz LR gz5.size
        replace OR := Lib.hid (OR.out.kept gz5 (by have := LTB.out; have := LTW.out; omega))
        replace WR := Lib.hid (Nat.le_trans WR.out gz5.size)
        replace CU := Lib.hid (CU.out.kept (below_other gz5 (by have := CU.out.le; have := LTB.out; omega) (by have := CU.out.le; have := CU.out.lt; omega)) (gz5.block _ CU.out.lt (by simp; have := LTB.out; omega)))
        replace GB := Lib.hid (grown_far GB.out gz5 (by omega))
        replace KS := Lib.hid ez51
        replace LS := tlz LS gz5.size
        clear ez50 gz5
        refine hK.out _ _ trivial (fun hHeld => ?_)
        clear hK K
        try simp only [getElem_toArray, getElem_cons_zero, getElem_cons_succ, Act.put, setIfInBounds_toArray, set_cons_zero, set_cons_succ]
        refine wpAnyH_done (by kernel_rfl) ?_ _
        clear hHeld
        go_wp2_with fail
        go_roundw
        case rel => exact ⟨k + 1, r, _, _, ci', ct', by omega, by go_num, hsr, Lib.hid ⟨KS.out, LS.out, .inr OR.out⟩, KR, LR, CU, GB, WR⟩
        case measure => simp [intOf]; omega
      · go_simp
        go_at_call 48
        refine (value_any B blk zD CU.out).mono ?_
        rintro e z6 ⟨t, ht, rfl, cu, gr⟩
        replace KR := tkg gr LR KR (by simp; have := LTB.out; omega)
        replace LR := tlz LR gr.size
        replace KS := tkg gr LS KS (by simp; have := LTB.out; omega)
        replace LS := tlz LS gr.size
        replace OZ := Lib.hid (OZ.out.kept gr (by have := LTB.out; have := LTW.out; omega))
        replace WR := Lib.hid (Nat.le_trans WR.out gr.size)
        replace CU := Lib.hid cu
        replace GB := Lib.hid (GB.out.trans gr)
        clear gr cu
        go_wp2_with fail
        refine hK.out _ _ trivial (fun hHeld => ?_)
        clear hK K
        refine tk0 4 ?_
        refine rd1 0 (fun K hK => ?_)
        have fS0 := tcr KS 0
        have fS1 := tcr KS 1
        go_simp
        clear fS0 fS1
        refine hK.out _ _ trivial (fun hHeld => ?_)
        clear hK K
        refine rd1 5 (fun K hK => ?_)
        go_simp
        have hst := OZ.out.st
        have hc := spec_putItemAny s _ ⟨q, t⟩ z6.heap.size z6 hst (Nat.le_refl _) (by have := hsm.1; omega) (hsm.few (by omega) (by omega)) hsm.fits ⟨by unfold maxLen; show q.size ≤ _; omega, by unfold maxLen; show t.size ≤ _; omega⟩
        obtain ⟨r, hr⟩ : ∃ r, r = chg s (putSI s ⟨q, t⟩) := ⟨_, rfl⟩
        have hsr : Sm r (k + 1) 0 := by rw [hr]; exact hsm.putI ⟨by show q.size ≤ 64; omega, ht⟩
        rw [← hr] at hc
        unfold itA at hc
        go_at_call 91
        refine hc.mono ?_
        rintro e z7 ⟨_, rfl, ho, hb⟩
        clear hc hr hst
        have yV : W.heap.size ≤ z6.heap.size := WR.out
        have gz8 := grown_of_below hb (some blk)
        have cz8 := CU.out.kept (hb.mono (Nat.le_trans CU.out.le (Nat.le_of_lt CU.out.lt))) (hb.block _ CU.out.lt)
        replace KR := tkg gz8 LR KR (by simp; have := LTB.out; omega)
        replace LR := tlz LR gz8.size
        replace KS := tkg gz8 LS KS (by simp; have := LTB.out; omega)
        replace LS := tlz LS gz8.size
        replace OZ := Lib.hid (OZ.out.kept gz8 (by have := LTB.out; have := LTW.out; omega))
        replace WR := Lib.hid (Nat.le_trans WR.out gz8.size)
        replace CU := Lib.hid cz8
        replace GB := Lib.hid (GB.out.trans gz8)
        clear gz8 cz8
        have OR : Hid (OwnN z7 W.heap.size _ r) := Lib.hid (ho.n.base yV)
        obtain ⟨gi, ci', gt, ct', rfl, _, _, _⟩ := ho
        clear hb yV
        go_wp2_with fail
        refine hK.out _ _ trivial (fun hHeld => ?_)
        clear hK K
        refine tk0 6 ?_
        refine tk0 7 ?_
        refine tk0 8 ?_
        refine rd1 9 (fun K hK => ?_)
        have fS0 := tcr KS 0
        have qS0 := tfr KS 0
        have fS1 := tcr KS 1
        have qS1 := tfr KS 1
        go_simp
        clear fS0 qS0 fS1 qS1
        obtain ⟨z9, hz9⟩ : ∃ Y, Y = ((z7).setCell ⟨w.heap.size + 1, 0, none⟩ (.slice (some ⟨gi, 0, none⟩) r.items.length ci')).setCell ⟨w.heap.size + 1, 1, none⟩ (.slice (some ⟨gt, 0, none⟩) r.talks.length ct') := ⟨_, rfl⟩
        rw [← hz9]
        have ez90 := heap_setCell_same _ (w.heap.size + 1) 0 _ _ (.slice (some ⟨gi, 0, none⟩) r.items.length ci') KS.out
        have ez91 := heap_setCell_same _ (w.heap.size + 1) 1 _ _ (.slice (some ⟨gt, 0, none⟩) r.talks.length ct') ez90
        rw [← hz9] at ez91
        simp only [List.setIfInBounds_toArray, List.set_cons_zero, List.set_cons_succ] at ez91
        have gz9 : z7.grownBy z9 (some (w.heap.size + 1)) := by rw [hz9]; exact (grown_set _ ⟨w.heap.size + 1, 0, none⟩ _).trans (grown_set _ ⟨w.heap.size + 1, 1, none⟩ _)
        clear hz9
        replace KR := tkg gz9 LR KR (by first | (simp; done) | (simp; have := LTB.out; omega))
        replace LR := tlz LR gz9.size
        replace OR := Lib.hid (OR.out.kept gz9 (by have := LTB.out; have := LTW.out; omega))
        replace WR := Lib.hid (Nat.le_trans WR.out gz9.size)
        replace CU := Lib.hid (CU.out.kept (below_other gz9 (by have := CU.out.le; have := LTB.out; omega) (by have := CU.out.le; have := CU.out.lt; omega)) (gz9.block _ CU.out.lt (by simp; have := LTB.out; omega)))
        replace GB := Lib.hid (grown_far GB.out gz9 (by omega))
        replace KS := Lib.hid ez91
        replace LS := tlz LS gz9.size
        clear ez90 gz9
        refine hK.out _ _ trivial (fun hHeld => ?_)
        clear hK K
        try simp only [getElem_toArray, getElem_cons_zero, getElem_cons_succ, Act.put, setIfInBounds_toArray, set_cons_zero, set_cons_succ]
        refine wpAnyH_done (by kernel_rfl) ?_ _
        clear hHeld
        go_wp2_with fail
        go_roundw
        case rel => exact ⟨k + 1, r, _, _, ci', ct', by omega, by go_num, hsr, Lib.hid ⟨KS.out, LS.out, .inr OR.out⟩, KR, LR, CU, GB, WR⟩
        case measure => simp [intOf]; omega
    · have hlt' : ¬ (k : Int) < (n : Int) := by omega
      have hsm6 : Sm s 6 0 := hsm.mono (by omega) (Nat.le_refl _)
      have hc3 := below_any 4 (by omega) B blk wr CU.out
      go_wp2_with (go_at_call 55; refine hc3.mono ?_; rintro e w3 ⟨n2, ⟨hm0, hm1, _⟩, rfl, cu, gr⟩; refine Hid.out ?_)
      refine Lib.hid ?_
      replace KR := tkg gr LR KR (by simp; have := LTB.out; omega)
      replace LR := tlz LR gr.size
      replace KS := tkg gr LS KS (by simp; have := LTB.out; omega)
      replace LS := tlz LS gr.size
      replace OZ := Lib.hid (OZ.out.kept gr (by have := LTB.out; have := LTW.out; omega))
      replace WR := Lib.hid (Nat.le_trans WR.out gr.size)
      replace CU := Lib.hid cu
      replace GB := Lib.hid (GB.out.trans gr)
      clear gr cu hc3
      have hm1 := hm1 (by omega)
      obtain ⟨n2, rfl⟩ := Int.eq_ofNat_of_zero_le hm0
      clear hm0 hlt' hlt hsm hk hn1
      have KS0 := KS
      have OZ0 := OZ
      have LS0 := LS
      go_wp2_with fail
      go_loopw [7] (fun i wr => ∃ (k : Nat) (s : St) (ai at_ : Option Addr) (ci ct : Nat), k ≤ n2 ∧ i = .int .i64 k ∧ Sm s 6 k ∧ Hid (InBox wr (w.heap.size + 1) W.heap.size s ai at_ ci ct) ∧ Hid (wr.heap[w.heap.size]? = some (.cells #[.slice none 0 0, .slice none 0 0] 27 (0, 0))) ∧ Hid (w.heap.size < wr.heap.size) ∧ Hid (Cu TC wr B blk) ∧ Hid (w.grownBy wr (some blk)) ∧ Hid (W.heap.size ≤ wr.heap.size)) (fun i _ => n2 - (intOf i).toNat)
      case atStart => exact ⟨0, s, ai, at_, ci, ct, by omega, rfl, hsm6, Lib.hid ⟨KS.out, LS.out, OZ.out⟩, KR, LR, CU, GB, WR⟩
      case round =>
        clear KS0 OZ0 LS0 KS LS OZ KR LR CU GB WR hsm6
        obtain ⟨k, s, ai, at_, ci, ct, hk, rfl, hsm, IB, KR, LR, CU, GB, WR⟩ := hrel
        have KS := Lib.hid IB.out.1
        have LS := Lib.hid IB.out.2.1
        have OZ := Lib.hid IB.out.2.2
        clear IB
        by_cases hlt : k < n2
        · have hlt' : (k : Int) < (n2 : Int) := by omega
          have hc2 := client_any B blk wr CU.out
          go_wp2_with (go_at_call 92; refine hc2.mono ?_; rintro e w4 ⟨q, hq, rfl, cu, gr⟩; refine Hid.out ?_)
          refine Lib.hid ?_
          replace KR := tkg gr LR KR (by simp; have := LTB.out; omega)
          replace LR := tlz LR gr.size
          replace KS := tkg gr LS KS (by simp; have := LTB.out; omega)
          replace LS := tlz LS gr.size
          replace OZ := Lib.hid (OZ.out.kept gr (by have := LTB.out; have := LTW.out; omega))
          replace WR := Lib.hid (Nat.le_trans WR.out gr.size)
          replace CU := Lib.hid cu
          replace GB := Lib.hid (GB.out.trans gr)
          clear gr cu hc2
          have hc5 := below_any 5 (by omega) B blk w4 CU.out
          go_wp2_with (go_at_call 55; refine hc5.mono ?_; rintro e w5 ⟨x0, ⟨hx0, hx1, _⟩, rfl, cu, gr⟩; refine Hid.out ?_)
          refine Lib.hid ?_
          replace KR := tkg gr LR KR (by simp; have := LTB.out; omega)
          replace LR := tlz LR gr.size
          replace KS := tkg gr LS KS (by simp; have := LTB.out; omega)
          replace LS := tlz LS gr.size
          replace OZ := Lib.hid (OZ.out.kept gr (by have := LTB.out; have := LTW.out; omega))
          replace WR := Lib.hid (Nat.le_trans WR.out gr.size)
          replace CU := Lib.hid cu
          replace GB := Lib.hid (GB.out.trans gr)
          clear gr cu hc5
          have hx1 := hx1 (by omega)
          obtain ⟨x, hx⟩ : ∃ x, x = 1 + x0 := ⟨_, rfl⟩
          have hwx : IntKind.i64.wrap (1 + x0) = x := by rw [IntKind.wrap_i64]; omega
          have hxb : 1 ≤ x ∧ x ≤ 5 := by omega
          clear hx
          go_wp2_with fail
          refine wp_region_held_drew (S := (fun _ => True)) (by kernel_rfl) trivial (fun hHeld => ?_)
          obtain ⟨zD, hzD⟩ : ∃ z, z = w5.drew := ⟨_, rfl⟩
          rw [← hzD]
          have bzD : Below w5.heap.size w5 zD := by rw [hzD]; exact (Below.refl _ _).drew
          have gz10 := grown_of_below bzD (some blk)
          have cz10 := CU.out.kept (bzD.mono (Nat.le_trans CU.out.le (Nat.le_of_lt CU.out.lt))) (bzD.block _ CU.out.lt)
          replace KR := tkg gz10 LR KR (by simp; have := LTB.out; omega)
          replace LR := tlz LR gz10.size
          replace KS := tkg gz10 LS KS (by simp; have := LTB.out; omega)
          replace LS := tlz LS gz10.size
          replace OZ := Lib.hid (OZ.out.kept gz10 (by have := LTB.out; have := LTW.out; omega))
          replace WR := Lib.hid (Nat.le_trans WR.out gz10.size)
          replace CU := Lib.hid cz10
          replace GB := Lib.hid (GB.out.trans gz10)
          clear gz10 cz10
          clear bzD hzD
          refine tk0 1 ?_
          refine tk0 2 ?_
          refine tk0 3 ?_
          refine rd2 0 4 (fun K hK => ?_) (fun K hK => ?_)
          · have fS0 := tcr KS 0
            have fS1 := tcr KS 1
            go_simp
            clear fS0 fS1
            refine hK.out _ _ trivial (fun hHeld => ?_)
            clear hK K
            refine rd1 4 (fun K hK => ?_)
            go_simp
            go_at_call 48
            refine (value_any B blk zD CU.out).mono ?_
            rintro e z11 ⟨t, ht, rfl, cu, gr⟩
            replace KR := tkg gr LR KR (by simp; have := LTB.out; omega)
            replace LR := tlz LR gr.size
            replace KS := tkg gr LS KS (by simp; have := LTB.out; omega)
            replace LS := tlz LS gr.size
            replace OZ := Lib.hid (OZ.out.kept gr (by have := LTB.out; have := LTW.out; omega))
            replace WR := Lib.hid (Nat.le_trans WR.out gr.size)
            replace CU := Lib.hid cu
            replace GB := Lib.hid (GB.out.trans gr)
            clear gr cu
            go_wp2_with fail
            refine hK.out _ _ trivial (fun hHeld => ?_)
            clear hK K
            refine tk0 5 ?_
            refine rd1 6 (fun K hK => ?_)
            go_simp
            have hst := OZ.out.st
            have hc := spec_putTalkAny s _ ⟨q, x, t⟩ z11.heap.size z11 hst (Nat.le_refl _) (by have := hsm.2.1; omega) (hsm.few (by omega) (by omega)) hsm.fits ⟨by unfold maxLen; show q.size ≤ _; omega, by unfold maxLen; show t.size ≤ _; omega, by show _ ≤ x ∧ x ≤ _; omega⟩
            obtain ⟨r, hr⟩ : ∃ r, r = chg s (putST s ⟨q, x, t⟩) := ⟨_, rfl⟩
            have hsr : Sm r 6 (k + 1) := by rw [hr]; exact hsm.putT ⟨by show q.size ≤ 64; omega, ht, by show _ ≤ x ∧ x ≤ _; omega⟩
            rw [← hr] at hc
            unfold tkA at hc
            go_at_call 93
            refine hc.mono ?_
            rintro e z12 ⟨_, rfl, ho, hb⟩
            clear hc hr hst
            have yV : W.heap.size ≤ z11.heap.size := WR.out
            have gz13 := grown_of_below hb (some blk)
            have cz13 := CU.out.kept (hb.mono (Nat.le_trans CU.out.le (Nat.le_of_lt CU.out.lt))) (hb.block _ CU.out.lt)
            replace KR := tkg gz13 LR KR (by simp; have := LTB.out; omega)
            replace LR := tlz LR gz13.size
            replace KS := tkg gz13 LS KS (by simp; have := LTB.out; omega)
            replace LS := tlz LS gz13.size
            replace OZ := Lib.hid (OZ.out.kept gz13 (by have := LTB.out; have := LTW.out; omega))
            replace WR := Lib.hid (Nat.le_trans WR.out gz13.size)
            replace CU := Lib.hid cz13
            replace GB := Lib.hid (GB.out.trans gz13)
            clear gz13 cz13
            have OR : Hid (OwnN z12 W.heap.size _ r) := Lib.hid (ho.n.base yV)
            obtain ⟨gi, ci', gt, ct', rfl, _, _, _⟩ := ho
            clear hb yV
            go_wp2_with fail
            refine hK.out _ _ trivial (fun hHeld => ?_)
            clear hK K
            refine tk0 7 ?_
            refine tk0 8 ?_
            refine tk0 9 ?_
            refine rd1 10 (fun K hK => ?_)
            have fS0 := tcr KS 0
            have qS0 := tfr KS 0
            have fS1 := tcr KS 1
            have qS1 := tfr KS 1
            go_simp
            clear fS0 qS0 fS1 qS1
            obtain ⟨z14, hz14⟩ : ∃ Y, Y = ((z12).setCell ⟨w.heap.size + 1, 0, none⟩ (.slice (some ⟨gi, 0, none⟩) r.items.length ci')).setCell ⟨w.heap.size + 1, 1, none⟩ (.slice (some ⟨gt, 0, none⟩) r.talks.length ct') := ⟨_, rfl⟩
            rw [← hz14]
            have ez140 := heap_setCell_same _ (w.heap.size + 1) 0 _ _ (.slice (some ⟨gi, 0, none⟩) r.items.length ci') KS.out
            have ez141 := heap_setCell_same _ (w.heap.size + 1) 1 _ _ (.slice (some ⟨gt, 0, none⟩) r.talks.length ct') ez140
            rw [← hz14] at ez141
            simp only [List.setIfInBounds_toArray, List.set_cons_zero, List.set_cons_succ] at ez141
            have gz14 : z12.grownBy z14 (some (w.heap.size + 1)) := by rw [hz14]; exact (grown_set _ ⟨w.heap.size + 1, 0, none⟩ _).trans (grown_set _ ⟨w.heap.size + 1, 1, none⟩ _)
            clear hz14
            replace KR := tkg gz14 LR KR (by first | (simp; done) | (simp; have := LTB.out; omega))
            replace LR := tlz LR gz14.size
            replace OR := Lib.hid (OR.out.kept gz14 (by have := LTB.out; have := LTW.out; omega))
            replace WR := Lib.hid (Nat.le_trans WR.out gz14.size)
            replace CU := Lib.hid (CU.out.kept (below_other gz14 (by have := CU.out.le; have := LTB.out; omega) (by have := CU.out.le; have := CU.out.lt; omega)) (gz14.block _ CU.out.lt (by simp; have := LTB.out; omega)))
            replace GB := Lib.hid (grown_far GB.out gz14 (by omega))
            replace KS := Lib.hid ez141
            replace LS := tlz LS gz14.size
            clear ez140 gz14
            refine hK.out _ _ trivial (fun hHeld => ?_)
            clear hK K
            try simp only [getElem_toArray, getElem_cons_zero, getElem_cons_succ, Act.put, setIfInBounds_toArray, set_cons_zero, set_cons_succ]
            refine wpAnyH_done (by kernel_rfl) ?_ _
            clear hHeld
            go_wp2_with fail
            go_roundw
            case rel => exact ⟨k + 1, r, _, _, ci', ct', by omega, by go_num, hsr, Lib.hid ⟨KS.out, LS.out, .inr OR.out⟩, KR, LR, CU, GB, WR⟩
            case measure => simp [intOf]; omega
          · go_simp
            go_at_call 48
            refine (value_any B blk zD CU.out).mono ?_
            rintro e z15 ⟨t, ht, rfl, cu, gr⟩
            replace KR := tkg gr LR KR (by simp; have := LTB.out; omega)
            replace LR := tlz LR gr.size
            replace KS := tkg gr LS KS (by simp; have := LTB.out; omega)
            replace LS := tlz LS gr.size
            replace OZ := Lib.hid (OZ.out.kept gr (by have := LTB.out; have := LTW.out; omega))
            replace WR := Lib.hid (Nat.le_trans WR.out gr.size)
            replace CU := Lib.hid cu
            replace GB := Lib.hid (GB.out.trans gr)
            clear gr cu
            go_wp2_with fail
            refine hK.out _ _ trivial (fun hHeld => ?_)
            clear hK K
            refine tk0 5 ?_
            refine rd1 0 (fun K hK => ?_)
            have fS0 := tcr KS 0
            have fS1 := tcr KS 1
            go_simp
            clear fS0 fS1
            refine hK.out _ _ trivial (fun hHeld => ?_)
            clear hK K
            refine rd1 6 (fun K hK => ?_)
            go_simp
            have hst := OZ.out.st
            have hc := spec_putTalkAny s _ ⟨q, x, t⟩ z15.heap.size z15 hst (Nat.le_refl _) (by have := hsm.2.1; omega) (hsm.few (by omega) (by omega)) hsm.fits ⟨by unfold maxLen; show q.size ≤ _; omega, by unfold maxLen; show t.size ≤ _; omega, by show _ ≤ x ∧ x ≤ _; omega⟩
            obtain ⟨r, hr⟩ : ∃ r, r = chg s (putST s ⟨q, x, t⟩) := ⟨_, rfl⟩
            have hsr : Sm r 6 (k + 1) := by rw [hr]; exact hsm.putT ⟨by show q.size ≤ 64; omega, ht, by show _ ≤ x ∧ x ≤ _; omega⟩
            rw [← hr] at hc
            unfold tkA at hc
            go_at_call 93
            refine hc.mono ?_
            rintro e z16 ⟨_, rfl, ho, hb⟩
            clear hc hr hst
            have yV : W.heap.size ≤ z15.heap.size := WR.out
            have gz17 := grown_of_below hb (some blk)
            have cz17 := CU.out.kept (hb.mono (Nat.le_trans CU.out.le (Nat.le_of_lt CU.out.lt))) (hb.block _ CU.out.lt)
            replace KR := tkg gz17 LR KR (by simp; have := LTB.out; omega)
            replace LR := tlz LR gz17.size
            replace KS := tkg gz17 LS KS (by simp; have := LTB.out; omega)
            replace LS := tlz LS gz17.size
            replace OZ := Lib.hid (OZ.out.kept gz17 (by have := LTB.out; have := LTW.out; omega))
            replace WR := Lib.hid (Nat.le_trans WR.out gz17.size)
            replace CU := Lib.hid cz17
            replace GB := Lib.hid (GB.out.trans gz17)
            clear gz17 cz17
            have OR : Hid (OwnN z16 W.heap.size _ r) := Lib.hid (ho.n.base yV)
            obtain ⟨gi, ci', gt, ct', rfl, _, _, _⟩ := ho
            clear hb yV
            go_wp2_with fail
            refine hK.out _ _ trivial (fun hHeld => ?_)
            clear hK K
            refine tk0 7 ?_
            refine tk0 8 ?_
            refine tk0 9 ?_
            refine rd1 10 (fun K hK => ?_)
            have fS0 := tcr KS 0
            have qS0 := tfr KS 0
            have fS1 := tcr KS 1
            have qS1 := tfr KS 1
            go_simp
            clear fS0 qS0 fS1 qS1
            obtain ⟨z18, hz18⟩ : ∃ Y, Y = ((z16).setCell ⟨w.heap.size + 1, 0, none⟩ (.slice (some ⟨gi, 0, none⟩) r.items.length ci')).setCell ⟨w.heap.size + 1, 1, none⟩ (.slice (some ⟨gt, 0, none⟩) r.talks.length ct') := ⟨_, rfl⟩
            rw [← hz18]
            have ez180 := heap_setCell_same _ (w.heap.size + 1) 0 _ _ (.slice (some ⟨gi, 0, none⟩) r.items.length ci') KS.out
            have ez181 := heap_setCell_same _ (w.heap.size + 1) 1 _ _ (.slice (some ⟨gt, 0, none⟩) r.talks.length ct') ez180
            rw [← hz18] at ez181
            simp only [List.setIfInBounds_toArray, List.set_cons_zero, List.set_cons_succ] at ez181
            have gz18 : z16.grownBy z18 (some (w.heap.size + 1)) := by rw [hz18]; exact (grown_set _ ⟨w.heap.size + 1, 0, none⟩ _).trans (grown_set _ ⟨w.heap.size + 1, 1, none⟩ _)
            clear hz18
            replace KR := tkg gz18 LR KR (by first | (simp; done) | (simp; have := LTB.out; omega))
            replace LR := tlz LR gz18.size
            replace OR := Lib.hid (OR.out.kept gz18 (by have := LTB.out; have := LTW.out; omega))
            replace WR := Lib.hid (Nat.le_trans WR.out gz18.size)
            replace CU := Lib.hid (CU.out.kept (below_other gz18 (by have := CU.out.le; have := LTB.out; omega) (by have := CU.out.le; have := CU.out.lt; omega)) (gz18.block _ CU.out.lt (by simp; have := LTB.out; omega)))
            replace GB := Lib.hid (grown_far GB.out gz18 (by omega))
            replace KS := Lib.hid ez181
            replace LS := tlz LS gz18.size
            clear ez180 gz18
            refine hK.out _ _ trivial (fun hHeld => ?_)
            clear hK K
            try simp only [getElem_toArray, getElem_cons_zero, getElem_cons_succ, Act.put, setIfInBounds_toArray, set_cons_zero, set_cons_succ]
            refine wpAnyH_done (by kernel_rfl) ?_ _
            clear hHeld
            go_wp2_with fail
            go_roundw
            case rel => exact ⟨k + 1, r, _, _, ci', ct', by omega, by go_num, hsr, Lib.hid ⟨KS.out, LS.out, .inr OR.out⟩, KR, LR, CU, GB, WR⟩
            case measure => simp [intOf]; omega
        · have hlt' : ¬ (k : Int) < (n2 : Int) := by omega
          have fS0 := tcr KS 0
          have fS1 := tcr KS 1
          have fR0 := tcr KR 0
          have qR0 := tfr KR 0
          have fR1 := tcr KR 1
          have qR1 := tfr KR 1
          go_wp2_with fail
          clear fS0 fS1
          clear fR0 qR0 fR1 qR1
          obtain ⟨z19, hz19⟩ : ∃ Y, Y = ((wr).setCell ⟨w.heap.size, 0, none⟩ (.slice ai s.items.length ci)).setCell ⟨w.heap.size, 1, none⟩ (.slice at_ s.talks.length ct) := ⟨_, rfl⟩
          rw [← hz19]
          have ez190 := heap_setCell_same _ (w.heap.size) 0 _ _ (.slice ai s.items.length ci) KR.out
          have ez191 := heap_setCell_same _ (w.heap.size) 1 _ _ (.slice at_ s.talks.length ct) ez190
          rw [← hz19] at ez191
          simp only [List.setIfInBounds_toArray, List.set_cons_zero, List.set_cons_succ] at ez191
          have gz19 : wr.grownBy z19 (some (w.heap.size)) := by rw [hz19]; exact (grown_set _ ⟨w.heap.size, 0, none⟩ _).trans (grown_set _ ⟨w.heap.size, 1, none⟩ _)
          clear hz19
          replace KS := tkg gz19 LS KS (by first | (simp; done) | (simp; have := LTB.out; omega))
          replace LS := tlz LS gz19.size
          replace OZ := Lib.hid (OZ.out.kept gz19 (by have := LTB.out; have := LTW.out; omega))
          replace WR := Lib.hid (Nat.le_trans WR.out gz19.size)
          replace CU := Lib.hid (CU.out.kept (below_other gz19 (by have := CU.out.le; have := LTB.out; omega) (by have := CU.out.le; have := CU.out.lt; omega)) (gz19.block _ CU.out.lt (by simp; have := LTB.out; omega)))
          replace GB := Lib.hid (grown_far GB.out gz19 (by omega))
          replace KR := Lib.hid ez191
          replace LR := tlz LR gz19.size
          clear ez190 gz19
          obtain ⟨j0, q1, q2, q3, q4⟩ := info_parts infoSt
          have h1 := LTW.out
          have h2 := LS.out
          refine bodyPost_ret (results_cell_row (P := Tryz.prog) rfl _ _ (w.heap.size) _ _ (0, 0) _ rfl KR.out Tryz.underlying27 rfl (by rw [q1]; simp [q3])) rfl ⟨_, s, rfl, OZ.out.n (g := w.heap.size) (h := w.heap.size + 1) (by omega) ⟨Nat.le_refl _, LR.out⟩ ⟨by omega, LS.out⟩ (by omega), hsm.mono (Nat.le_refl _) (by omega), CU.out, GB.out⟩
end Go.Proofs.YtdpjdjkfedcojaaGreat
