/- The law FnMerge: what is put together has as many items as its parts; of two talks the later one counts. Condition: none. -/
import Derived.Test.YtebmaplflpfjbaaBaseA
import Derived.Test.YtebmaplflpfjbaaBig
import Derived.Test.YtebmaplflpfjbaaDrawList
import Derived.Test.YtebmaplflpfjbaaImplMerge
import Derived.Test.YtebmaplflpfjbaaSpecMerge
import Derived.Test.YtebmaplflpfjbaaMergeBack
namespace Go.Proofs.Ytebmaplflpfjbaa
open Go.RowKit
set_option linter.unusedVariables false
set_option linter.unusedSimpArgs false

theorem slice_row_len {w : World} {B sz n : Nat} {v : Value} {cs : List Value} (h : Row w B sz v n cs) : ∃ a c, v = .slice a n c := by
  rcases h with ⟨_, ⟨rfl, rfl⟩ | ⟨g, o, cap, rfl, _⟩⟩ <;> exact ⟨_, _, rfl⟩
theorem talk_cell {w : World} {B n c i : Nat} {a : Option Addr} {vi : Value} {s : St} (h : StV w B (.agg #[vi, .slice a n c]) s) (hi : i < s.talks.length) : ∃ g o, a = some ⟨g, o, none⟩ ∧ g < B ∧ w.cell? ⟨g, o + i * 3 + 1, none⟩ = some (.int .i64 s.talks[i].q) ∧ (n ≤ c ∧ c ≤ maxLen) := by
  obtain ⟨vi', vt, hv, _, hrt⟩ := h
  obtain ⟨_, rfl⟩ : vi = vi' ∧ Value.slice a n c = vt := by simpa using hv
  rcases hrt with ⟨_, ⟨h0, hz⟩ | ⟨g, o, cap, h0, h1, h2, h3, h4⟩⟩
  · omega
  · obtain ⟨rfl, rfl, rfl⟩ : a = some ⟨g, o, none⟩ ∧ n = s.talks.length ∧ c = cap := by simpa using h0
    exact ⟨g, o, rfl, by omega, (h4.talk i hi).2.1, h1, h2⟩
theorem mgr_st {w : World} {base : Nat} {v : Value} {M : Option St} (h : MgR w base v M) : StV w w.heap.size v (M.getD ⟨[], []⟩) := by
  cases M with
  | none => rw [show v = _ from h]; exact stv_nil _ _
  | some r => exact OwnC.stv h
theorem countI_append (a b : List St) : countI (a ++ b) = countI a + countI b := by
  induction a with
  | nil => simp [countI]
  | cons x xs ih => simp only [List.cons_append, countI, ih]; omega
theorem count_small {l : List St} {b : Nat} (h : ∀ s ∈ l, s.items.length ≤ b) : countI l ≤ b * l.length := by
  induction l with
  | nil => exact Nat.zero_le _
  | cons x xs ih =>
    have h1 := h x (by simp)
    have h2 := ih (fun s hs => h s (by simp [hs]))
    simp only [countI, List.length_cons, Nat.mul_add]
    omega
set_option maxHeartbeats 1000000 in
theorem drawMerge_any (a : Option Addr) (len cap : Nat) (zs : List Int) (w : World) (hr : Row8 w w.heap.size a len cap zs) (hl : len ≤ 1048576) :
    Calls Try.prog 24 #[.slice a len cap] w fun e w' => ∃ v qs, e = .returned v ∧ StL w' w'.heap.size v qs ∧ qs.length ≤ 16 ∧ (∀ q ∈ qs, Sm q.s 64 64) ∧ Below w.heap.size w w' := by
  have hc := new_any a len cap zs w hr hl
  go_enter Try.func24, Try.ntmps24
  go_wp2_with (go_at_call 41; refine hc.mono ?_; rintro e w1 ⟨rfl, cu, hb⟩; refine Hid.out ?_)
  refine Lib.hid ?_
  have HB := Lib.hid hb
  have hc2 := list_any _ _ w1 cu
  clear hc cu hb
  go_wp2_with (go_at_call 57; refine hc2.mono ?_; rintro e w2 ⟨v, qs, rfl, h1, h2, h3, gr⟩; refine Hid.out ?_)
  refine Lib.hid ?_
  have H1 := Lib.hid (And.intro h1 (And.intro h2 h3))
  have HG := Lib.hid (HB.out.trans (below_other gr (Nat.le_refl _) HB.out.size))
  clear h1 h2 h3 gr hc2
  go_wp2_with fail
  go_ret
  exact ⟨v, qs, rfl, H1.out.1, H1.out.2.1, H1.out.2.2, HG.out⟩
set_option maxHeartbeats 1000000 in
theorem drawApart_any (a : Option Addr) (len cap : Nat) (zs : List Int) (w : World) (hr : Row8 w w.heap.size a len cap zs) (hl : len ≤ 1048576) :
    Calls Try.prog 26 #[.slice a len cap] w fun e w' => ∃ v qs, e = .returned v ∧ StL w' w'.heap.size v qs ∧ qs.length ≤ 16 ∧ (∀ q ∈ qs, Sm q.s 64 64) ∧ Below w.heap.size w w' := by
  have hc := new_any a len cap zs w hr hl
  go_enter Try.func26, Try.ntmps26
  go_wp2_with (go_at_call 41; refine hc.mono ?_; rintro e w1 ⟨rfl, cu, hb⟩; refine Hid.out ?_)
  refine Lib.hid ?_
  have HB := Lib.hid hb
  have hc2 := list_any _ _ w1 cu
  clear hc cu hb
  go_wp2_with (go_at_call 57; refine hc2.mono ?_; rintro e w2 ⟨v, qs, rfl, h1, h2, h3, gr⟩; refine Hid.out ?_)
  refine Lib.hid ?_
  have H1 := Lib.hid (And.intro h1 (And.intro h2 h3))
  have HG := Lib.hid (HB.out.trans (below_other gr (Nat.le_refl _) HB.out.size))
  clear h1 h2 h3 gr hc2
  go_wp2_with fail
  go_ret
  exact ⟨v, qs, rfl, H1.out.1, H1.out.2.1, H1.out.2.2, HG.out⟩
set_option maxRecDepth 100000 in
set_option maxHeartbeats 16000000 in
theorem law_merges (a : Option Addr) (len cap : Nat) (zs : List Int) (w : World) (hr : IsRow .u8 w a len cap zs) :
    Calls Try.prog 5 #[.slice a len cap] w fun e w' => e = .returned (.bool true) ∧ Below w.heap.size w w' := by
  have hr := row8_of hr
  by_cases hbig : 1048576 < len
  · have hd : decide (1048576 < len) = true := by simpa using hbig
    go_enter Try.func5, Try.ntmps5
    go_wp2_with (go_at_call 11; refine (big_any _ _ _ _).mono ?_; rintro e w' ⟨rfl, rfl⟩)
    go_ret
    exact ⟨rfl, Below.refl _ _⟩
  · have hd : decide (1048576 < len) = false := by simpa using hbig
    have hlen : len ≤ 1048576 := by omega
    have Hr8 := Lib.hid hr
    go_enter Try.func5, Try.ntmps5
    go_wp2_with (first | (go_at_call 11; refine (big_any _ _ _ _).mono ?_; rintro e w' ⟨rfl, rfl⟩) | (go_at_call 24; refine (drawMerge_any a len cap zs _ hr hlen).mono ?_; rintro e w1 ⟨v, qs, rfl, hst, hl, hsm, hb⟩; refine Hid.out ?_))
    refine Lib.hid ?_
    obtain ⟨la, lc, rfl, hn1, hn2, _, _⟩ := id hst.1
    have SL := Lib.hid hst
    have BB : Hid (Below w.heap.size w w1) := Lib.hid hb
    have B1 : Hid (Below w1.heap.size w1 w1) := Lib.hid (Below.refl _ _)
    have Hl := Lib.hid hl
    have Hsm := Lib.hid hsm
    have Hfit : Hid (∀ q ∈ qs, Fits q.s) := Lib.hid (fun q hq => (hsm q hq).fits)
    have HC : Hid (qs.length ≤ lc ∧ lc ≤ maxLen) := Lib.hid ⟨hn1, hn2⟩
    obtain ⟨Ls, hLs⟩ : ∃ l, l = qs.map Sq.s := ⟨_, rfl⟩
    obtain ⟨M, hM⟩ : ∃ M, M = mergeS Ls := ⟨_, rfl⟩
    obtain ⟨bM, hbM⟩ : ∃ b, b = M.isSome := ⟨_, rfl⟩
    obtain ⟨R, hR⟩ : ∃ r, r = M.getD ⟨[], []⟩ := ⟨_, rfl⟩
    have HLs := Lib.hid hLs
    have HM := Lib.hid hM
    have HbM := Lib.hid hbM
    have HR := Lib.hid hR
    clear hLs hM hbM hR hst hb hl hsm hr hd hn1 hn2
    have hc := impl_merge qs _ w1.heap.size w1 SL.out (Nat.le_refl _) (by have := Hl.out; omega) Hfit.out
    rw [← HLs.out, ← HM.out, ← HbM.out] at hc
    go_wp2_with (go_at_call 21; refine hc.mono ?_; rintro e w2 ⟨vS, rfl, hS, hb⟩; refine Hid.out ?_)
    refine Lib.hid ?_
    replace B1 := tbt B1 hb
    replace BB := tbt BB hb
    clear hc hb 
    have hS := mgr_st hS
    rw [← HR.out] at hS
    have SS := Lib.hid hS
    obtain ⟨vi, vt, rfl, r1, r2⟩ := hS.rd
    obtain ⟨sa, sc, rfl, _⟩ := r1
    obtain ⟨ta, tc, rfl, _⟩ := r2
    have B2 : Hid (Below w2.heap.size w2 w2) := Lib.hid (Below.refl _ _)
    clear hS
    obtain ⟨X1, hX1⟩ : ∃ z, z = w2.alloc (.cells #[.slice sa R.items.length sc, .slice ta R.talks.length tc] 31) := ⟨_, rfl⟩
    have hb : Below w2.heap.size w2 X1 := by rw [hX1]; exact (Below.refl _ _).alloc (Nat.le_refl _) _
    replace B1 := tbt B1 hb
    replace B2 := tbt B2 hb
    replace BB := tbt BB hb
    have KS : Hid (X1.heap[w2.heap.size]? = some (.cells #[.slice sa R.items.length sc, .slice ta R.talks.length tc] 31 (0, 0))) := Lib.hid (by rw [hX1]; exact heap_new _ _)
    have LS : Hid (w2.heap.size < X1.heap.size) := Lib.hid (by rw [hX1]; simp)
    clear hb
    have hc := spec_merge qs _ X1.heap.size X1 (SL.out.later B1.out B1.out.size) (Nat.le_refl _) (by have := Hl.out; omega) Hfit.out
    rw [← HLs.out, ← HM.out, ← HbM.out, ← HR.out] at hc
    rw [hX1] at hc 
    go_wp2_with (go_at_call 25; refine hc.mono ?_; rintro e w3 ⟨vW, rfl, hW, hb⟩; refine Hid.out ?_)
    refine Lib.hid ?_
    rw [← hX1] at hb 
    clear hX1
    replace KS := tkb hb LS KS
    replace LS := tlz LS hb.size
    replace B1 := tbt B1 hb
    replace B2 := tbt B2 hb
    replace BB := tbt BB hb
    clear hc hb 
    have SW := Lib.hid hW
    obtain ⟨vi, vt, rfl, r1, r2⟩ := hW.rd
    obtain ⟨wa, wc_, rfl, _⟩ := r1
    obtain ⟨xa, xc, rfl, _⟩ := r2
    have B3 : Hid (Below w3.heap.size w3 w3) := Lib.hid (Below.refl _ _)
    clear hW
    obtain ⟨X2, hX2⟩ : ∃ z, z = w3.alloc (.cells #[.slice wa R.items.length wc_, .slice xa R.talks.length xc] 31) := ⟨_, rfl⟩
    have hb : Below w3.heap.size w3 X2 := by rw [hX2]; exact (Below.refl _ _).alloc (Nat.le_refl _) _
    replace KS := tkb hb LS KS
    replace LS := tlz LS hb.size
    replace B1 := tbt B1 hb
    replace B2 := tbt B2 hb
    replace B3 := tbt B3 hb
    replace BB := tbt BB hb
    have KW : Hid (X2.heap[w3.heap.size]? = some (.cells #[.slice wa R.items.length wc_, .slice xa R.talks.length xc] 31 (0, 0))) := Lib.hid (by rw [hX2]; exact heap_new _ _)
    have LW : Hid (w3.heap.size < X2.heap.size) := Lib.hid (by rw [hX2]; simp)
    clear hb
    have hc := drawApart_any a len cap zs X2 (Hr8.out.later BB.out) hlen
    rw [hX2] at hc 
    go_wp2_with (go_at_call 26; refine hc.mono ?_; rintro e w4 ⟨v2, qs2, rfl, hst, hl, hsm, hb⟩; refine Hid.out ?_)
    refine Lib.hid ?_
    rw [← hX2] at hb 
    clear hX2
    replace KS := tkb hb LS KS
    replace LS := tlz LS hb.size
    replace KW := tkb hb LW KW
    replace LW := tlz LW hb.size
    replace B1 := tbt B1 hb
    replace B2 := tbt B2 hb
    replace B3 := tbt B3 hb
    replace BB := tbt BB hb
    clear hc hb 
    obtain ⟨ma, mc, rfl, _⟩ := id hst.1
    have SP := Lib.hid hst
    have HP : Hid (∀ q ∈ qs2, ∀ x ∈ q.s.items, x.k.size ≤ maxLen) := Lib.hid (fun q hq x hx => ((hsm q hq).fits.1 x hx).1)
    have B4 : Hid (Below w4.heap.size w4 w4) := Lib.hid (Below.refl _ _)
    have hbb : (bM != bM) = false := by simp
    clear hst hl hsm
    have hc := spec_same R R _ _ w4.heap.size w4 (SS.out.later B2.out B2.out.size).rd (SW.out.later B3.out B3.out.size).rd (Nat.le_refl _)
    have fS0 := tcr KS 0
    have fS1 := tcr KS 1
    have fW0 := tcr KW 0
    have fW1 := tcr KW 1
    go_wp2_with (go_at_call 23; refine hc.mono ?_; rintro e w5 ⟨bb, rfl, hbe, hb⟩; refine Hid.out ?_)
    refine Lib.hid ?_
    replace KS := tkb hb LS KS
    replace LS := tlz LS hb.size
    replace KW := tkb hb LW KW
    replace LW := tlz LW hb.size
    replace B1 := tbt B1 hb
    replace B2 := tbt B2 hb
    replace B3 := tbt B3 hb
    replace B4 := tbt B4 hb
    replace BB := tbt BB hb
    clear hc hb fS0 fS1 fW0 fW1
    obtain rfl : bb = true := hbe.2 (by first | trivial | rfl)
    obtain ⟨ba, hba⟩ : ∃ b, b = apartB (qs2.map Sq.s) := ⟨_, rfl⟩
    have Hba := Lib.hid hba
    clear hbe hba
    have hc := impl_apart qs2 _ w5.heap.size w5 (SP.out.later B4.out B4.out.size).rd (Nat.le_refl _) HP.out
    rw [← Hba.out] at hc
    go_wp2_with (go_at_call 22; refine hc.mono ?_; rintro e w6 ⟨rfl, hb⟩; refine Hid.out ?_)
    refine Lib.hid ?_
    replace KS := tkb hb LS KS
    replace LS := tlz LS hb.size
    replace KW := tkb hb LW KW
    replace LW := tlz LW hb.size
    replace B1 := tbt B1 hb
    replace B2 := tbt B2 hb
    replace B3 := tbt B3 hb
    replace B4 := tbt B4 hb
    replace BB := tbt BB hb
    clear hc hb 
    have hc := spec_apart qs2 _ w6.heap.size w6 (SP.out.later B4.out B4.out.size).rd (Nat.le_refl _) HP.out
    rw [← Hba.out] at hc
    have haa : (ba != ba) = false := by simp
    go_wp2_with (go_at_call 27; refine hc.mono ?_; rintro e w7 ⟨rfl, rfl⟩; refine Hid.out ?_)
    refine Lib.hid ?_
    clear hc
    cases hbm : bM
    · obtain rfl : R = ⟨[], []⟩ := by rw [HR.out]; have h := HbM.out; rw [hbm] at h; rw [Option.isSome_eq_false_iff.1 h.symm |> Option.isNone_iff_eq_none.1]; rfl
      clear hbm
      have fS0 := tcr KS 0
      have fS1 := tcr KS 1
      simp only [List.length_nil] at fS0 fS1
      go_wp2_with fail
      go_ret
      exact ⟨rfl, BB.out⟩
    · have Hall : Hid (stOk R = true ∧ R.items.length = countI Ls ∧ ∀ x ∈ Ls, ∀ y ∈ x.talks, known R.talks y = true) := Lib.hid (by have h := HbM.out; rw [hbm] at h; obtain ⟨r, hr⟩ := Option.isSome_iff_exists.1 h.symm; have e : R = r := (by rw [HR.out, hr]; rfl); rw [e]; exact merge_all (by rw [← HM.out]; exact hr))
      clear hbm SP HP B4 SW B3 KW LW hbb haa
      obtain ⟨N, hN⟩ : ∃ n, n = qs.length := ⟨_, rfl⟩
      rw [← hN]
      have HN := Lib.hid hN
      have hN16 : N ≤ 16 := by rw [hN]; exact Hl.out
      clear hN
      have FS : Hid (∀ w', Below w6.heap.size w6 w' → w'.cell? ⟨w2.heap.size, 0, none⟩ = some (.slice sa R.items.length sc) ∧ w'.cell? ⟨w2.heap.size, 1, none⟩ = some (.slice ta R.talks.length tc)) := Lib.hid (fun w' h => by have K := tkb h LS KS; exact ⟨tcr K 0, tcr K 1⟩)
      have Z1 := Lib.hid (SL.out.later B1.out B1.out.size)
      have Z2 := Lib.hid (SS.out.later B2.out B2.out.size)
      have HB := BB
      clear B1 B2 SS SL BB KS LS
      have hlc : N ≤ lc ∧ lc ≤ 9223372036854775807 := by have := HC.out; have := HN.out; unfold maxLen at *; omega
      go_wp2_with fail
      go_loopw [9, 10] (fun nv i wr => ∃ k : Nat, k ≤ N ∧ i = .int .i64 k ∧ nv = .int .i64 (countI (Ls.take k) : Nat) ∧ Hid (Below w6.heap.size w6 wr)) (fun _ i _ => N - (intOf i).toNat)
      case atStart => exact ⟨0, Nat.zero_le _, rfl, rfl, Lib.hid (Below.refl _ _)⟩
      case round =>
        obtain ⟨k, hk, rfl, rfl, BW⟩ := hrel
        by_cases hlt : k < N
        · obtain ⟨a', c', hv', _, _, _, hat⟩ := Z1.out.1
          obtain ⟨g, o, ha, hg, hAt⟩ := hat (by have := HN.out; omega)
          obtain ⟨rfl, _, _⟩ : la = a' ∧ True ∧ True := by simp at hv'; exact ⟨hv'.1, trivial, trivial⟩
          subst ha
          have hkl : k < qs.length := by have := HN.out; omega
          obtain ⟨x, hx⟩ : ∃ x, x = qs[k] := ⟨_, rfl⟩
          have hxm : x ∈ qs := by rw [hx]; exact List.getElem_mem _
          have hc := hAt.sq k hkl
          rw [← hx] at hc
          have hsx := Z1.out.2 x hxm
          obtain ⟨vi, vt, hv, r1, r2⟩ := id hsx
          obtain ⟨hvi, hvt⟩ : x.vi = vi ∧ x.vt = vt := by unfold Sq.v at hv; simpa using hv
          obtain ⟨_, ri⟩ := id r1
          obtain ⟨ai, ci, rfl⟩ := slice_row_len r1
          obtain ⟨at_, ct, rfl⟩ := slice_row_len r2
          rw [hvi, hvt] at hc
          obtain ⟨m, hm⟩ : ∃ m, m = x.s.talks.length := ⟨_, rfl⟩
          rw [← hm] at hc r2
          have Hm := Lib.hid hm
          have hms : m ≤ 64 := by rw [hm]; exact (Hsm.out x hxm).2.1
          obtain ⟨ni, hni⟩ : ∃ n, n = x.s.items.length := ⟨_, rfl⟩
          rw [← hni] at hc
          have hnis : ni ≤ 64 := by rw [hni]; exact (Hsm.out x hxm).1
          have hcn : countI (Ls.take (k + 1)) = countI (Ls.take k) + ni := by rw [HLs.out, List.take_succ_eq_append_getElem (by simpa using hkl), countI_append]; simp [countI, ← hx, hni]
          have hcb : countI (Ls.take k) ≤ 64 * 16 := by have h := count_small (l := Ls.take k) (b := 64) (fun s hs => (by have h1 := List.mem_of_mem_take hs; rw [HLs.out] at h1; obtain ⟨q, hq, rfl⟩ := List.mem_map.1 h1; exact (Hsm.out q hq).1)); have h2 : (Ls.take k).length ≤ 16 := (by rw [HLs.out]; simp; have := Hl.out; omega); exact Nat.le_trans h (Nat.mul_le_mul_left 64 h2)
          obtain ⟨cn, hcn'⟩ : ∃ c, c = countI (Ls.take k) := ⟨_, rfl⟩
          rw [← hcn'] at hcb ⊢
          have HCn := Lib.hid (hcn.trans (by rw [← hcn']))
          have FL : Hid (∀ w', Below w6.heap.size w6 w' → w'.cell? ⟨g, o + k * 2, none⟩ = some (.slice ai ni ci) ∧ w'.cell? ⟨g, o + k * 2 + 1, none⟩ = some (.slice at_ m ct)) := Lib.hid (fun w' h => by rw [h.cell hg, h.cell hg]; exact hc)
          have HX : Hid (x.s ∈ Ls) := Lib.hid (by rw [HLs.out]; exact List.mem_map_of_mem hxm)
          have Hr2 := Lib.hid r2
          have hkN : (k : Int) < (N : Int) := by omega
          clear hx hxm hAt hv hvi hvt hc r1 r2 ri hat hv' hsx hkl hni hm hcn hcn'
          have hw1 : IntKind.i64.wrap ((cn : Int) + (ni : Int)) = ((cn + ni : Nat) : Int) := by rw [IntKind.wrap_i64] <;> omega
          obtain ⟨hl0, hl1⟩ := FL.out wr BW.out
          go_wp2_with fail
          clear hl0 hl1
          obtain ⟨wz, hwz⟩ : ∃ z, z = wr := ⟨_, rfl⟩
          subst hwz
          go_loopw [11] (fun j wr => ∃ jj : Nat, jj ≤ m ∧ j = .int .i64 jj ∧ Hid (Below w6.heap.size w6 wr)) (fun j _ => m - (intOf j).toNat)
          case atStart => exact ⟨0, Nat.zero_le _, rfl, BW⟩
          case round =>
            obtain ⟨jj, hjj, rfl, BZ⟩ := hrel
            by_cases hjl : jj < m
            · have hjm : (jj : Int) < (m : Int) := by omega
              obtain ⟨hl0, hl1⟩ := FL.out wr BZ.out
              obtain ⟨_, ⟨h0, hz⟩ | ⟨g2, o2, cap2, h0, hn2, hcap2, hg2, hAt2⟩⟩ := Hr2.out
              · exfalso; have := Hm.out; omega
              · obtain ⟨rfl, hmx, rfl⟩ : at_ = some ⟨g2, o2, none⟩ ∧ m = x.s.talks.length ∧ ct = cap2 := by simpa using h0
                have hjx : jj < x.s.talks.length := by have := Hm.out; omega
                obtain ⟨y, hy⟩ : ∃ y, y = x.s.talks[jj] := ⟨_, rfl⟩
                have hcy := hAt2.talk jj hjx
                rw [← hy] at hcy
                have hg2' : g2 < w6.heap.size := by omega
                have FY : Hid (∀ w', Below w6.heap.size w6 w' → w'.cell? ⟨g2, o2 + jj * 3, none⟩ = some (.string y.c) ∧ w'.cell? ⟨g2, o2 + jj * 3 + 1, none⟩ = some (.int .i64 y.q)) := Lib.hid (fun w' h => by rw [h.cell hg2', h.cell hg2']; exact ⟨hcy.1, hcy.2.1⟩)
                have hkn : known R.talks y = true := Hall.out.2.2 x.s HX.out y (by rw [hy]; exact List.getElem_mem _)
                unfold known at hkn
                rw [decide_eq_true_iff] at hkn
                obtain ⟨j, hj, e1, e2⟩ := talkAt_hit hkn.1
                have hq := hkn.2
                rw [e1, Int.toNat_natCast, getD_eq _ _ hj] at hq
                obtain ⟨tj, htj⟩ : ∃ q, q = R.talks[j].q := ⟨_, rfl⟩
                rw [← htj] at hq
                have hct2 : m ≤ ct ∧ ct ≤ 9223372036854775807 := by unfold maxLen at hcap2; omega
                have E1 := Lib.hid e1
                clear hcy hkn e1 e2 h0 hAt2 hg2 hy hn2 hcap2
                go_wp2_with fail
                clear hl0 hl1
                refine wp_region_held_drew (S := (fun w' => Below w6.heap.size w6 w')) (by kernel_rfl) ((BZ.out).trans ((Below.refl _ _).drew.mono BZ.out.size)) (fun hHeld => ?_)
                obtain ⟨zD, hzD⟩ : ∃ zz, zz = wr.drew := ⟨_, rfl⟩
                rw [← hzD] at hHeld ⊢
                clear hzD
                have BD := Lib.hid hHeld
                refine tk 0 (v := ?_) ?_ ?_; rotate_left
                · refine Or.inl ⟨by rfl, ?_⟩; intro w hSw; obtain ⟨h0, h1⟩ := FS.out w hSw; go_simp; first | done | with_reducible rfl
                refine tk0 1 ?_
                refine tk0 2 ?_
                refine tk0 3 ?_
                refine tk0 4 ?_
                refine tk 5 (v := ?_) ?_ ?_; rotate_left
                · refine Or.inl ⟨by rfl, ?_⟩; intro w hSw; obtain ⟨h0, h1⟩ := FL.out w hSw; go_simp; first | done | with_reducible rfl
                refine tk0 6 ?_
                refine tk0 7 ?_
                refine tk0 8 ?_
                refine tk 9 (v := ?_) ?_ ?_; rotate_left
                · refine Or.inl ⟨by rfl, ?_⟩; intro w hSw; obtain ⟨h0, h1⟩ := FY.out w hSw; go_simp; first | done | with_reducible rfl
                refine rd1 10 (fun K hK => ?_)
                go_simp
                have hc := spec_talkAt R _ zD.heap.size y.c zD (Z2.out.later BD.out BD.out.size) (Nat.le_refl _)
                rw [E1.out] at hc
                go_at_call 28
                refine hc.mono ?_
                rintro e w8 ⟨rfl, hb⟩
                replace BD := tbt BD hb
                clear hc hb
                go_wp2_with fail
                refine hK.out _ _ BD.out (fun hHeld => ?_)
                clear hK K
                refine tk0 11 ?_
                refine wpAnyH_done (by kernel_rfl) ?_ _
                clear hHeld
                obtain ⟨g3, o3, hta, hg3, hc3, hn3⟩ := talk_cell Z2.out hj
                rw [← htj] at hc3
                subst hta
                have FT : Hid (∀ w', Below w6.heap.size w6 w' → w'.cell? ⟨g3, o3 + j * 3 + 1, none⟩ = some (.int .i64 tj)) := Lib.hid (fun w' h => by rw [h.cell hg3]; exact hc3)
                have hjR : (j : Int) < (R.talks.length : Int) := by omega
                have hn3' : R.talks.length ≤ tc ∧ tc ≤ 9223372036854775807 := by unfold maxLen at hn3; omega
                have hlq : decide (tj < y.q) = false := by simp; omega
                clear hc3 hg3 hn3 htj
                go_wp2_with fail
                refine wp_region_held_drew (S := (fun w' => Below w6.heap.size w6 w')) (by kernel_rfl) ((BD.out).trans ((Below.refl _ _).drew.mono BD.out.size)) (fun hHeld => ?_)
                obtain ⟨z9, hz9⟩ : ∃ zz, zz = w8.drew := ⟨_, rfl⟩
                rw [← hz9] at hHeld ⊢
                clear hz9
                have BE := Lib.hid hHeld
                refine tk0 0 ?_
                refine tk0 1 ?_
                refine tk0 2 ?_
                refine tk0 3 ?_
                refine tk 4 (v := ?_) ?_ ?_; rotate_left
                · refine Or.inl ⟨by rfl, ?_⟩; intro w hSw; obtain ⟨h0, h1⟩ := FS.out w hSw; go_simp; first | done | with_reducible rfl
                refine tk0 5 ?_
                refine tk0 6 ?_
                refine tk0 7 ?_
                refine tk 8 (v := ?_) ?_ ?_; rotate_left
                · refine Or.inl ⟨by rfl, ?_⟩; intro w hSw; have hT := FT.out w hSw; go_simp; first | done | with_reducible rfl
                refine tk0 9 ?_
                refine tk0 10 ?_
                refine tk0 11 ?_
                refine tk0 12 ?_
                refine tk 13 (v := ?_) ?_ ?_; rotate_left
                · refine Or.inl ⟨by rfl, ?_⟩; intro w hSw; obtain ⟨h0, h1⟩ := FL.out w hSw; go_simp; first | done | with_reducible rfl
                refine tk0 14 ?_
                refine tk0 15 ?_
                refine tk0 16 ?_
                refine tk 17 (v := ?_) ?_ ?_; rotate_left
                · refine Or.inl ⟨by rfl, ?_⟩; intro w hSw; obtain ⟨h0, h1⟩ := FY.out w hSw; go_simp; first | done | with_reducible rfl
                refine tk0 18 ?_
                refine tk0 19 ?_
                refine wpAnyH_done (by kernel_rfl) ?_ _
                clear hHeld
                go_wp2_with fail
                go_roundw
                case rel => exact ⟨jj + 1, by omega, by go_num, BE⟩
                case measure => simp [intOf]; omega
            · have hjm : ¬ (jj : Int) < (m : Int) := by omega
              obtain ⟨hl0, hl1⟩ := FL.out wr BZ.out
              go_wp2_with fail
              go_roundw
              case rel => exact ⟨k + 1, by omega, by go_num, by rw [HCn.out]; first | done | rfl | (rw [Int.natCast_add]) | simp, BZ⟩
              case measure => simp [intOf]; omega
        · have hkN : ¬ (k : Int) < (N : Int) := by omega
          have htk : Ls.take k = Ls := List.take_of_length_le (by rw [HLs.out]; simp; have := HN.out; omega)
          rw [htk, ← Hall.out.2.1]
          have hc := impl_stateOk R _ wr.heap.size wr (Z2.out.later BW.out BW.out.size) (Nat.le_refl _) (ok_fits Hall.out.1)
          rw [Hall.out.1] at hc
          obtain ⟨h0, h1⟩ := FS.out wr BW.out
          go_wp2_with (go_at_call 29; refine hc.mono ?_; rintro e w8 ⟨rfl, hb⟩; refine Hid.out ?_)
          refine Lib.hid ?_
          replace BW := tbt BW hb
          clear hc hb h0 h1
          obtain ⟨h0, h1⟩ := FS.out w8 BW.out
          have hee : decide ((R.items.length : Int) = (R.items.length : Int)) = true := by simp
          go_wp2_with fail
          go_ret
          exact ⟨rfl, HB.out.trans (BW.out.mono HB.out.size)⟩
end Go.Proofs.Ytebmaplflpfjbaa
