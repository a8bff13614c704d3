/- The law FnReply: what is answered is what was there ahead of it. Condition: the variable errors.errorType holds the handle of the type error. -/
import Derived.Test.YtebmaplflpfjbaaDoorBig
import Derived.Test.YtebmaplflpfjbaaDoorDrawApply
import Derived.Test.YtebmaplflpfjbaaDoorReplyFacts
import Derived.Test.YtebmaplflpfjbaaDoorApplyAllPlain
import Derived.Test.YtebmaplflpfjbaaDoorImplApply
import Derived.Test.YtebmaplflpfjbaaDoorSpecApply
import Derived.Test.YtebmaplflpfjbaaDoorSpecSame
import Derived.Test.YtebmaplflpfjbaaDoorBaseA
namespace Go.Proofs.YtebmaplflpfjbaaDoor
open Go.RowKit
set_option linter.unusedVariables false
set_option linter.unusedSimpArgs false

theorem slice_row_len {w : World} {B sz n : Nat} {v : Value} {cs : List Value} (h : Row w B sz v n cs) : ∃ a c, v = .slice a n c := by
  rcases h with ⟨_, ⟨rfl, rfl⟩ | ⟨g, o, cap, rfl, _⟩⟩ <;> exact ⟨_, _, rfl⟩
theorem item_cell {w : World} {B n c i : Nat} {a : Option Addr} {vt : Value} {s : St} (h : StV w B (.agg #[.slice a n c, vt]) s) (hi : i < s.items.length) : ∃ g o, a = some ⟨g, o, none⟩ ∧ g < B ∧ w.cell? ⟨g, o + i * 2 + 1, none⟩ = some (.string s.items[i].v) ∧ (n ≤ c ∧ c ≤ maxLen) := by
  obtain ⟨vi, vt', hv, hri, _⟩ := h
  obtain ⟨rfl, _⟩ : Value.slice a n c = vi ∧ vt = vt' := by simpa using hv
  rcases hri with ⟨_, ⟨h0, hz⟩ | ⟨g, o, cap, h0, h1, h2, h3, h4⟩⟩
  · omega
  · obtain ⟨rfl, rfl, rfl⟩ : a = some ⟨g, o, none⟩ ∧ n = s.items.length ∧ c = cap := by simpa using h0
    exact ⟨g, o, rfl, by omega, (h4.item i hi).2, h1, h2⟩
theorem talk_cell {w : World} {B n c i : Nat} {a : Option Addr} {vi : Value} {s : St} (h : StV w B (.agg #[vi, .slice a n c]) s) (hi : i < s.talks.length) : ∃ g o, a = some ⟨g, o, none⟩ ∧ g < B ∧ w.cell? ⟨g, o + i * 3 + 1, none⟩ = some (.int .i64 s.talks[i].q) ∧ (n ≤ c ∧ c ≤ maxLen) := by
  obtain ⟨vi', vt, hv, _, hrt⟩ := h
  obtain ⟨_, rfl⟩ : vi = vi' ∧ Value.slice a n c = vt := by simpa using hv
  rcases hrt with ⟨_, ⟨h0, hz⟩ | ⟨g, o, cap, h0, h1, h2, h3, h4⟩⟩
  · omega
  · obtain ⟨rfl, rfl, rfl⟩ : a = some ⟨g, o, none⟩ ∧ n = s.talks.length ∧ c = cap := by simpa using h0
    exact ⟨g, o, rfl, by omega, (h4.talk i hi).2.1, h1, h2⟩
set_option maxRecDepth 100000 in
set_option maxHeartbeats 16000000 in
theorem law_reply (a : Option Addr) (len cap : Nat) (zs : List Int) (w : World) (hr : IsRow .u8 w a len cap zs) (hE : ErrType w) :
    Calls Tryd.prog 4 #[.slice a len cap] w fun e w' => e = .returned (.bool true) ∧ Below w.heap.size w w' := by
  have hr := row8_of hr
  by_cases hbig : 1048576 < len
  · have hd : decide (1048576 < len) = true := by simpa using hbig
    go_enter Tryd.func4, Tryd.ntmps4
    go_wp2_with (go_at_call 7; refine (big_any _ _ _ _).mono ?_; rintro e w' ⟨rfl, rfl⟩)
    go_ret
    exact ⟨rfl, Below.refl _ _⟩
  · have hd : decide (1048576 < len) = false := by simpa using hbig
    have hlen : len ≤ 1048576 := by omega
    have HE := Lib.hid hE
    clear hE
    go_enter Tryd.func4, Tryd.ntmps4
    go_wp2_with (first | (go_at_call 7; refine (big_any _ _ _ _).mono ?_; rintro e w' ⟨rfl, rfl⟩) | (go_at_call 8; refine (drawApply_any a len cap zs _ hr hlen).mono ?_; rintro e w1 ⟨v, s, x, rfl, hst, hsm, hx, hb⟩; refine Hid.out ?_))
    refine Lib.hid ?_
    have SV := Lib.hid hst
    obtain ⟨vi, vt, rfl, r1, r2⟩ := hst
    obtain ⟨sa, sc, rfl⟩ := slice_row_len r1
    obtain ⟨ta, tc, rfl⟩ := slice_row_len r2
    have BB : Hid (Below w.heap.size w w1) := Lib.hid hb
    have B1 : Hid (Below w1.heap.size w1 w1) := Lib.hid (Below.refl _ _)
    have Hfew : Hid (Few s) := Lib.hid (hsm.few (by omega) (by omega))
    have Hfit : Hid (Fits s) := Lib.hid hsm.fits
    have Hx : Hid (FitRq x) := Lib.hid hx.fit
    obtain ⟨r, hr'⟩ : ∃ r, r = (ap s x).1 := ⟨_, rfl⟩
    obtain ⟨y, hy'⟩ : ∃ y, y = (ap s x).2.1 := ⟨_, rfl⟩
    obtain ⟨c, hc'⟩ : ∃ c, c = (ap s x).2.2 := ⟨_, rfl⟩
    have Hr := Lib.hid hr'
    have Hy := Lib.hid hy'
    have Hc := Lib.hid hc'
    have Hkeep : Hid (KeepS s) := Lib.hid ⟨hsm.small (by omega) (by omega), hsm.fits⟩
    unfold rqA
    clear r1 r2 hr' hy' hc' hb hsm hx hr hd
    obtain ⟨X1, hX1⟩ : ∃ z, z = w1.alloc (.cells #[.slice sa s.items.length sc, .slice ta s.talks.length tc] 27) := ⟨_, rfl⟩
    have hb : Below w1.heap.size w1 X1 := by rw [hX1]; exact (Below.refl _ _).alloc (Nat.le_refl _) _
    replace B1 := tbt B1 hb
    replace BB := tbt BB hb
    have KA : Hid (X1.heap[w1.heap.size]? = some (.cells #[.slice sa s.items.length sc, .slice ta s.talks.length tc] 27 (0, 0))) := Lib.hid (by rw [hX1]; exact heap_new _ _)
    have LA : Hid (w1.heap.size < X1.heap.size) := Lib.hid (by rw [hX1]; simp)
    clear hb
    obtain ⟨X2, hX2⟩ : ∃ z, z = X1.alloc (.cells #[.string x.c, .int .i64 x.q, .int .i64 x.n, .string x.k, .string x.v] 29) := ⟨_, rfl⟩
    have hb : Below X1.heap.size X1 X2 := by rw [hX2]; exact (Below.refl _ _).alloc (Nat.le_refl _) _
    replace KA := tkb hb LA KA
    replace LA := tlz LA hb.size
    replace B1 := tbt B1 hb
    replace BB := tbt BB hb
    have KX : Hid (X2.heap[X1.heap.size]? = some (.cells #[.string x.c, .int .i64 x.q, .int .i64 x.n, .string x.k, .string x.v] 29 (0, 0))) := Lib.hid (by rw [hX2]; exact heap_new _ _)
    have LX : Hid (X1.heap.size < X2.heap.size) := Lib.hid (by rw [hX2]; simp)
    clear hb
    rw [show X1.heap.size = w1.heap.size + 1 by rw [hX1]; simp] at KX LX
    have hc := impl_apply s _ x X2.heap.size X2 (SV.out.later B1.out B1.out.size) (Nat.le_refl _) Hfew.out Hfit.out Hx.out (HE.out.on BB.out)
    rw [← Hr.out, ← Hy.out, ← Hc.out] at hc
    unfold rqA at hc
    have fA0 := tcr KA 0
    have fA1 := tcr KA 1
    have fX0 := tcr KX 0
    have fX1 := tcr KX 1
    have fX2 := tcr KX 2
    have fX3 := tcr KX 3
    have fX4 := tcr KX 4
    rw [hX2, hX1] at hc fA0 fA1 fX0 fX1 fX2 fX3 fX4
    go_wp2_with (go_at_call 9; refine hc.mono ?_; rintro e w2 ⟨_, rfl, ho, hb⟩; refine Hid.out ?_)
    refine Lib.hid ?_
    rw [← hX1, ← hX2] at hb ho
    clear hX2 hX1
    replace KA := tkb hb LA KA
    replace LA := tlz LA hb.size
    replace KX := tkb hb LX KX
    replace LX := tlz LX hb.size
    replace B1 := tbt B1 hb
    replace BB := tbt BB hb
    clear hc hb fA0 fA1 fX0 fX1 fX2 fX3 fX4
    have STT := Lib.hid ho.st
    obtain ⟨gi, ci, gt, ct, rfl⟩ := ho.two
    have B2 : Hid (Below w2.heap.size w2 w2) := Lib.hid (Below.refl _ _)
    clear ho
    obtain ⟨X3, hX3⟩ : ∃ z, z = w2.alloc (.cells #[.slice gi r.items.length ci, .slice gt r.talks.length ct] 27) := ⟨_, rfl⟩
    have hb : Below w2.heap.size w2 X3 := by rw [hX3]; exact (Below.refl _ _).alloc (Nat.le_refl _) _
    replace KA := tkb hb LA KA
    replace LA := tlz LA hb.size
    replace KX := tkb hb LX KX
    replace LX := tlz LX hb.size
    replace B1 := tbt B1 hb
    replace B2 := tbt B2 hb
    replace BB := tbt BB hb
    have KT : Hid (X3.heap[w2.heap.size]? = some (.cells #[.slice gi r.items.length ci, .slice gt r.talks.length ct] 27 (0, 0))) := Lib.hid (by rw [hX3]; exact heap_new _ _)
    have LT : Hid (w2.heap.size < X3.heap.size) := Lib.hid (by rw [hX3]; simp)
    clear hb
    have hc := spec_apply s _ x X3.heap.size X3 (SV.out.later B1.out B1.out.size) (Nat.le_refl _) Hkeep.out.1 Hfit.out Hx.out
    rw [← Hr.out, ← Hy.out, ← Hc.out] at hc
    unfold rqA at hc
    have fA0 := tcr KA 0
    have fA1 := tcr KA 1
    have fX0 := tcr KX 0
    have fX1 := tcr KX 1
    have fX2 := tcr KX 2
    have fX3 := tcr KX 3
    have fX4 := tcr KX 4
    rw [hX3] at hc fA0 fA1 fX0 fX1 fX2 fX3 fX4
    go_wp2_with (go_at_call 10; refine hc.mono ?_; rintro e w3 ⟨_, rfl, ho, hb⟩; refine Hid.out ?_)
    refine Lib.hid ?_
    rw [← hX3] at hb ho
    clear hX3
    replace KA := tkb hb LA KA
    replace LA := tlz LA hb.size
    replace KX := tkb hb LX KX
    replace LX := tlz LX hb.size
    replace KT := tkb hb LT KT
    replace LT := tlz LT hb.size
    replace B1 := tbt B1 hb
    replace B2 := tbt B2 hb
    replace BB := tbt BB hb
    clear hc hb fA0 fA1 fX0 fX1 fX2 fX3 fX4
    have SW := Lib.hid ho.st
    obtain ⟨hi, di, ht, dt, rfl⟩ := ho.two
    have B3 : Hid (Below w3.heap.size w3 w3) := Lib.hid (Below.refl _ _)
    clear ho
    obtain ⟨X4, hX4⟩ : ∃ z, z = w3.alloc (.cells #[.slice hi r.items.length di, .slice ht r.talks.length dt] 27) := ⟨_, rfl⟩
    have hb : Below w3.heap.size w3 X4 := by rw [hX4]; exact (Below.refl _ _).alloc (Nat.le_refl _) _
    replace KA := tkb hb LA KA
    replace LA := tlz LA hb.size
    replace KX := tkb hb LX KX
    replace LX := tlz LX hb.size
    replace KT := tkb hb LT KT
    replace LT := tlz LT hb.size
    replace B1 := tbt B1 hb
    replace B2 := tbt B2 hb
    replace B3 := tbt B3 hb
    replace BB := tbt BB hb
    have KW : Hid (X4.heap[w3.heap.size]? = some (.cells #[.slice hi r.items.length di, .slice ht r.talks.length dt] 27 (0, 0))) := Lib.hid (by rw [hX4]; exact heap_new _ _)
    have LW : Hid (w3.heap.size < X4.heap.size) := Lib.hid (by rw [hX4]; simp)
    clear hb
    have hcc : (c != c) = false := by simp
    have hyy : (y.toList != y.toList) = false := by simp
    have hc := spec_same r r _ _ X4.heap.size X4 (STT.out.later B2.out B2.out.size).rd (SW.out.later B3.out B3.out.size).rd (Nat.le_refl _)
    have fT0 := tcr KT 0
    have fT1 := tcr KT 1
    have fW0 := tcr KW 0
    have fW1 := tcr KW 1
    rw [hX4] at hc fT0 fT1 fW0 fW1
    go_wp2_with (go_at_call 11; refine hc.mono ?_; rintro e w4 ⟨bb, rfl, hbe, hb⟩; refine Hid.out ?_)
    refine Lib.hid ?_
    rw [← hX4] at hb 
    clear hX4
    replace KA := tkb hb LA KA
    replace LA := tlz LA hb.size
    replace KX := tkb hb LX KX
    replace LX := tlz LX hb.size
    replace KT := tkb hb LT KT
    replace LT := tlz LT hb.size
    replace KW := tkb hb LW KW
    replace LW := tlz LW hb.size
    replace B1 := tbt B1 hb
    replace B2 := tbt B2 hb
    replace B3 := tbt B3 hb
    replace BB := tbt BB hb
    clear hc hb fT0 fT1 fW0 fW1
    obtain rfl : bb = true := hbe.2 (by first | trivial | rfl)
    clear hbe hcc hyy SW B3 KW LW
    go_wp2_with fail
    have FA : Hid (∀ w', Below w4.heap.size w4 w' → w'.cell? ⟨w1.heap.size, 0, none⟩ = some (.slice sa s.items.length sc) ∧ w'.cell? ⟨w1.heap.size, 1, none⟩ = some (.slice ta s.talks.length tc)) := Lib.hid (fun w' h => by have K := tkb h LA KA; exact ⟨tcr K 0, tcr K 1⟩)
    have FX : Hid (∀ w', Below w4.heap.size w4 w' → w'.cell? ⟨w1.heap.size + 1, 0, none⟩ = some (.string x.c) ∧ w'.cell? ⟨w1.heap.size + 1, 1, none⟩ = some (.int .i64 x.q) ∧ w'.cell? ⟨w1.heap.size + 1, 2, none⟩ = some (.int .i64 x.n) ∧ w'.cell? ⟨w1.heap.size + 1, 3, none⟩ = some (.string x.k) ∧ w'.cell? ⟨w1.heap.size + 1, 4, none⟩ = some (.string x.v)) := Lib.hid (fun w' h => by have K := tkb h LX KX; exact ⟨tcr K 0, tcr K 1, tcr K 2, tcr K 3, tcr K 4⟩)
    by_cases h0 : c = 0
    · subst h0
      have Hz : Hid ((ap s x).2.2 = 0) := Lib.hid Hc.out.symm
      by_cases hit : 0 ≤ talkAt s.talks x.c
      · have hdt : decide (0 ≤ talkAt s.talks x.c) = true := by simpa using hit
        obtain ⟨j, hj, e1, e2⟩ := talkAt_hit hit
        obtain ⟨g2, o2, rfl, hg2, hq2, hn2⟩ := talk_cell (SV.out.later B1.out B1.out.size) hj
        obtain ⟨tj, htj⟩ : ∃ q, q = s.talks[j].q := ⟨_, rfl⟩
        rw [← htj] at hq2
        have FT : Hid (∀ w', Below w4.heap.size w4 w' → w'.cell? ⟨g2, o2 + j * 3 + 1, none⟩ = some (.int .i64 tj)) := Lib.hid (fun w' h => by rw [h.cell hg2]; exact hq2)
        have HK : Hid ((talkOf s x.c).q = tj) := Lib.hid (by unfold talkOf; rw [e1, Int.toNat_natCast, getD_at hj, htj])
        have Hit := Lib.hid hit
        have E1 := Lib.hid e1
        have hj' : (j : Int) < (s.talks.length : Int) := by omega
        unfold maxLen at hn2
        clear hq2 hg2 htj e2 hit
        refine wp_region_held_drew (S := (fun w' => Below w4.heap.size w4 w')) (by kernel_rfl) (Below.refl _ _).drew (fun hHeld => ?_)
        obtain ⟨z, hz⟩ : ∃ zz, zz = w4.drew := ⟨_, rfl⟩
        rw [← hz] at hHeld ⊢
        clear hz
        have BD := Lib.hid hHeld
        refine tk0 0 ?_
        refine tk0 1 ?_
        refine tk0 2 ?_
        refine tk 3 (v := ?_) ?_ ?_; rotate_left
        · refine Or.inl ⟨by rfl, ?_⟩; intro w hSw; obtain ⟨hA0, hA1⟩ := FA.out w hSw; go_simp; first | done | with_reducible rfl
        refine tk0 4 ?_
        refine tk 5 (v := ?_) ?_ ?_; rotate_left
        · refine Or.inl ⟨by rfl, ?_⟩; intro w hSw; obtain ⟨hX0, hX1, hX2, hX3, hX4⟩ := FX.out w hSw; go_simp; first | done | with_reducible rfl
        rw [e1] at hdt
        have e1' := e1
        clear e1
        refine rd1 6 (fun K hK => ?_)
        go_simp
        have hc := spec_talkAt s _ z.heap.size x.c z (SV.out.later (B1.out.trans (BD.out.mono B1.out.size)) (Nat.le_trans B1.out.size BD.out.size)) (Nat.le_refl _)
        rw [E1.out] at hc
        go_at_call 13
        refine hc.mono ?_
        rintro e z1 ⟨rfl, hb⟩
        replace BD := tbt BD hb
        clear hc hb
        go_wp2_with fail
        refine hK.out _ _ BD.out (fun hHeld => ?_)
        clear hK K
        refine tk0 7 ?_
        refine tk0 8 ?_
        refine tk0 9 ?_
        refine tk 10 (v := ?_) ?_ ?_; rotate_left
        · refine Or.inl ⟨by rfl, ?_⟩; intro w hSw; obtain ⟨hA0, hA1⟩ := FA.out w hSw; go_simp; first | done | with_reducible rfl
        refine tk 11 (v := ?_) ?_ ?_; rotate_left
        · refine Or.inl ⟨by rfl, ?_⟩; intro w hSw; obtain ⟨hA0, hA1⟩ := FA.out w hSw; go_simp; first | done | with_reducible rfl
        refine tk0 12 ?_
        refine tk 13 (v := ?_) ?_ ?_; rotate_left
        · refine Or.inl ⟨by rfl, ?_⟩; intro w hSw; obtain ⟨hX0, hX1, hX2, hX3, hX4⟩ := FX.out w hSw; go_simp; first | done | with_reducible rfl
        refine tk0 18 ?_
        refine tk 19 (v := ?_) ?_ ?_; rotate_left
        · refine Or.inl ⟨by rfl, ?_⟩; intro w hSw; obtain ⟨hX0, hX1, hX2, hX3, hX4⟩ := FX.out w hSw; go_simp; first | done | with_reducible rfl
        refine rd1 14 (fun K hK => ?_)
        go_simp
        have hc := spec_talkAt s _ z1.heap.size x.c z1 (SV.out.later (B1.out.trans (BD.out.mono B1.out.size)) (Nat.le_trans B1.out.size BD.out.size)) (Nat.le_refl _)
        rw [E1.out] at hc
        go_at_call 13
        refine hc.mono ?_
        rintro e z2 ⟨rfl, hb⟩
        replace BD := tbt BD hb
        clear hc hb
        go_wp2_with fail
        refine hK.out _ _ BD.out (fun hHeld => ?_)
        clear hK K
        refine tk0 15 ?_
        refine tk0 16 ?_
        refine tk 17 (v := ?_) ?_ ?_; rotate_left
        · refine Or.inl ⟨by rfl, ?_⟩; intro w hSw; have hT := FT.out w hSw; go_simp; first | done | with_reducible rfl
        refine tk0 20 ?_
        refine tk0 21 ?_
        refine tk0 22 ?_
        refine wpAnyH_done (by kernel_rfl) ?_ _
        clear hHeld
        by_cases hq : x.q ≤ tj
        · have hb := BD.out
          replace KA := tkb hb LA KA
          replace LA := tlz LA hb.size
          replace KX := tkb hb LX KX
          replace LX := tlz LX hb.size
          replace KT := tkb hb LT KT
          replace LT := tlz LT hb.size
          replace B1 := tbt B1 hb
          replace B2 := tbt B2 hb
          replace BB := tbt BB hb
          clear hb BD
          have hdq : decide (x.q ≤ tj) = true := by simpa using hq
          clear FT
          clear FA FX
          go_wp2_with fail
          have FX : Hid (∀ w', Below z2.heap.size z2 w' → w'.cell? ⟨w1.heap.size + 1, 0, none⟩ = some (.string x.c) ∧ w'.cell? ⟨w1.heap.size + 1, 1, none⟩ = some (.int .i64 x.q) ∧ w'.cell? ⟨w1.heap.size + 1, 2, none⟩ = some (.int .i64 x.n) ∧ w'.cell? ⟨w1.heap.size + 1, 3, none⟩ = some (.string x.k) ∧ w'.cell? ⟨w1.heap.size + 1, 4, none⟩ = some (.string x.v)) := Lib.hid (fun w' h => by have K := tkb h LX KX; exact ⟨tcr K 0, tcr K 1, tcr K 2, tcr K 3, tcr K 4⟩)
          refine wp_region_held_drew (S := (fun w' => Below z2.heap.size z2 w')) (by kernel_rfl) (Below.refl _ _).drew (fun hHeld => ?_)
          obtain ⟨y, hy⟩ : ∃ zz, zz = z2.drew := ⟨_, rfl⟩
          rw [← hy] at hHeld ⊢
          clear hy
          have BD := Lib.hid hHeld
          refine tk 0 (v := ?_) ?_ ?_; rotate_left
          · refine Or.inl ⟨by rfl, ?_⟩; intro w hSw; obtain ⟨hX0, hX1, hX2, hX3, hX4⟩ := FX.out w hSw; go_simp; first | done | with_reducible rfl
          refine tk 2 (v := ?_) ?_ ?_; rotate_left
          · refine Or.inl ⟨by rfl, ?_⟩; intro w hSw; obtain ⟨hX0, hX1, hX2, hX3, hX4⟩ := FX.out w hSw; go_simp; first | done | with_reducible rfl
          refine rd1 1 (fun K hK => ?_)
          go_simp
          have hc := impl_opOk x y Hx.out
          unfold rqA at hc
          go_at_call 14
          refine hc.mono ?_
          rintro e y1 ⟨rfl, hb⟩
          replace BD := tbt BD hb
          clear hc hb
          go_wp2_with fail
          refine hK.out _ _ BD.out (fun hHeld => ?_)
          clear hK K
          refine rd1 3 (fun K hK => ?_)
          go_simp
          have hc := spec_opOk x y1 Hx.out
          unfold rqA at hc
          go_at_call 15
          refine hc.mono ?_
          rintro e y2 ⟨rfl, hb⟩
          replace BD := tbt BD hb
          clear hc hb
          go_wp2_with fail
          refine hK.out _ _ BD.out (fun hHeld => ?_)
          clear hK K
          have hbq : (rqOk x == rqOk x) = true := by simp
          refine tk0 4 ?_
          refine tk0 5 ?_
          refine wpAnyH_done (by kernel_rfl) ?_ _
          clear hHeld
          go_wp2_with fail
          go_ret
          exact ⟨rfl, BB.out.trans (BD.out.mono BB.out.size)⟩
        · have hb := BD.out
          replace KA := tkb hb LA KA
          replace LA := tlz LA hb.size
          replace KX := tkb hb LX KX
          replace LX := tlz LX hb.size
          replace KT := tkb hb LT KT
          replace LT := tlz LT hb.size
          replace B1 := tbt B1 hb
          replace B2 := tbt B2 hb
          replace BB := tbt BB hb
          clear hb BD
          have hdq : decide (x.q ≤ tj) = false := by simpa using hq
          have Hway := Lib.hid (ap_way Hz.out (by rw [HK.out]; rintro ⟨_, h⟩; exact hq h))
          clear FT FA FX HK Hit E1 hdt hj hj' e1'
          have HR : Hid (r = endS s x) := Lib.hid (by rw [Hr.out, Hway.out.1])
          have HYv : Hid (y = valOf s x.k) := Lib.hid (by rw [Hy.out, Hway.out.1])
          have Hok : Hid (stOk s = true) := Lib.hid Hway.out.2.1
          have Hsk : Hid (stOk (stepS s x) = true) := Lib.hid Hway.out.2.2.2
          have hn3 : x.n = 0 ∨ x.n = 1 ∨ x.n = 2 := by have h := (rqOk_parts Hway.out.2.2.1).1; omega
          clear Hway
          have hyq := teq (rfl : y = y)
          have hzq : ((⟨#[]⟩ : ByteArray).toList == (⟨#[]⟩ : ByteArray).toList) = true := teq rfl
          rcases hn3 with hn | hn | hn
          · have hd1 : decide (x.n = 1) = false := by simp [hn]
            have hd2 : decide (x.n = 2) = false := by simp [hn]
            have Hn := Lib.hid hn
            have hna : ¬ x.n = 1 := by omega
            have hnb : ¬ x.n = 2 := by omega
            clear hn
            have hget := reply_get (s := s) Hn.out
            rw [← HR.out] at hget
            have Hget := Lib.hid hget
            clear hget
            have hc := spec_itemAt s _ z2.heap.size x.k z2 (SV.out.later B1.out B1.out.size) (Nat.le_refl _)
            have fA0 := tcr KA 0
            have fA1 := tcr KA 1
            have fX3 := tcr KX 3
            go_wp2_with (go_at_call 16; refine hc.mono ?_; rintro e u1 ⟨rfl, hb⟩; refine Hid.out ?_)
            refine Lib.hid ?_
            replace KA := tkb hb LA KA
            replace LA := tlz LA hb.size
            replace KX := tkb hb LX KX
            replace LX := tlz LX hb.size
            replace KT := tkb hb LT KT
            replace LT := tlz LT hb.size
            replace B1 := tbt B1 hb
            replace B2 := tbt B2 hb
            replace BB := tbt BB hb
            clear hc hb fA0 fA1 fX3
            by_cases hit : 0 ≤ itemAt s.items x.k
            · have hda : decide (0 ≤ itemAt s.items x.k) = true := by simpa using hit
              obtain ⟨i, hi', e1, e2⟩ := itemAt_hit hit
              rw [e1] at hda ⊢
              obtain ⟨g1, o1, rfl, hg1, hc1, hn1⟩ := item_cell (SV.out.later B1.out B1.out.size) hi'
              have hv : s.items[i].v = y := by rw [HYv.out]; unfold valOf; rw [if_pos hit, e1, Int.toNat_natCast, getD_at hi']
              rw [hv] at hc1
              have hil : (i : Int) < (s.items.length : Int) := by omega
              unfold maxLen at hn1
              have Hit := Lib.hid hit
              have E1 := Lib.hid e1
              clear hv hit e1 e2
              have fA0 := tcr KA 0
              have fA1 := tcr KA 1
              have hc := spec_itemAt r _ u1.heap.size x.k u1 (STT.out.later B2.out B2.out.size) (Nat.le_refl _)
              have hj : itemAt r.items x.k = (i : Int) := by rw [Hget.out]; exact E1.out
              rw [hj] at hc
              clear hj
              have fT0 := tcr KT 0
              have fT1 := tcr KT 1
              have fX3 := tcr KX 3
              go_wp2_with (go_at_call 16; refine hc.mono ?_; rintro e u2 ⟨rfl, hb⟩; refine Hid.out ?_)
              refine Lib.hid ?_
              replace KA := tkb hb LA KA
              replace LA := tlz LA hb.size
              replace KX := tkb hb LX KX
              replace LX := tlz LX hb.size
              replace KT := tkb hb LT KT
              replace LT := tlz LT hb.size
              replace B1 := tbt B1 hb
              replace B2 := tbt B2 hb
              replace BB := tbt BB hb
              clear hc hb fT0 fT1 fX3
              clear fA0 fA1 hc1 hg1 hil hn1
              obtain ⟨i0, hi0, e3, e4⟩ := itemAt_hit (xs := r.items) (key := x.k) (by rw [Hget.out]; exact Hit.out)
              have e3' : (i0 : Int) = i := by rw [← e3, Hget.out]; exact E1.out
              obtain rfl : i0 = i := by omega
              obtain ⟨g3, o3, rfl, hg3, hc3, hn3⟩ := item_cell (STT.out.later B2.out B2.out.size) hi0
              have hv2 : r.items[i0].v = y := by rw [HYv.out]; unfold valOf; rw [if_pos Hit.out, E1.out, Int.toNat_natCast]; have hg := Hget.out; rw [getD_at (by rw [← hg]; exact hi0)]; simp only [hg]
              rw [hv2] at hc3
              have hil2 : (i0 : Int) < (r.items.length : Int) := by omega
              unfold maxLen at hn3
              clear hv2 e3 e4 e3'
              have hln : r.items.length = s.items.length := by rw [Hget.out]
              have hlq : decide ((s.items.length : Int) = (s.items.length : Int)) = true := by simp
              rw [hln] at KT 
              have fT0 := tcr KT 0
              have fA0 := tcr KA 0
              have fX0 := tcr KX 0
              have fX1 := tcr KX 1
              have fX2 := tcr KX 2
              have fX3 := tcr KX 3
              have fX4 := tcr KX 4
              go_wp2_with fail
              go_ret
              exact ⟨rfl, BB.out⟩
            · have hda : decide (0 ≤ itemAt s.items x.k) = false := by simpa using hit
              have hy0 : y = ⟨#[]⟩ := by rw [HYv.out]; unfold valOf; rw [if_neg hit]
              rw [hy0]
              have hc := spec_itemAt r _ u1.heap.size x.k u1 (STT.out.later B2.out B2.out.size) (Nat.le_refl _)
              have hj : itemAt r.items x.k = itemAt s.items x.k := by rw [Hget.out]
              rw [hj] at hc
              clear hj
              have fT0 := tcr KT 0
              have fT1 := tcr KT 1
              have fX3 := tcr KX 3
              go_wp2_with (go_at_call 16; refine hc.mono ?_; rintro e u2 ⟨rfl, hb⟩; refine Hid.out ?_)
              refine Lib.hid ?_
              replace KA := tkb hb LA KA
              replace LA := tlz LA hb.size
              replace KX := tkb hb LX KX
              replace LX := tlz LX hb.size
              replace KT := tkb hb LT KT
              replace LT := tlz LT hb.size
              replace B1 := tbt B1 hb
              replace B2 := tbt B2 hb
              replace BB := tbt BB hb
              clear hc hb fT0 fT1 fX3
              clear hda
              have hln : r.items.length = s.items.length := by rw [Hget.out]
              have hlq : decide ((s.items.length : Int) = (s.items.length : Int)) = true := by simp
              rw [hln] at KT 
              have fT0 := tcr KT 0
              have fA0 := tcr KA 0
              have fX0 := tcr KX 0
              have fX1 := tcr KX 1
              have fX2 := tcr KX 2
              have fX3 := tcr KX 3
              have fX4 := tcr KX 4
              go_wp2_with fail
              go_ret
              exact ⟨rfl, BB.out⟩
          · have hd1 : decide (x.n = 1) = true := by simp [hn]
            have hd2 : decide (x.n = 2) = false := by simp [hn]
            have Hn := Lib.hid hn
            have hput := reply_put Hok.out Hsk.out Hn.out
            rw [← HR.out] at hput
            have Hput := Lib.hid hput
            clear hput
            have hc := spec_itemAt s _ z2.heap.size x.k z2 (SV.out.later B1.out B1.out.size) (Nat.le_refl _)
            have fA0 := tcr KA 0
            have fA1 := tcr KA 1
            have fX3 := tcr KX 3
            go_wp2_with (go_at_call 16; refine hc.mono ?_; rintro e u1 ⟨rfl, hb⟩; refine Hid.out ?_)
            refine Lib.hid ?_
            replace KA := tkb hb LA KA
            replace LA := tlz LA hb.size
            replace KX := tkb hb LX KX
            replace LX := tlz LX hb.size
            replace KT := tkb hb LT KT
            replace LT := tlz LT hb.size
            replace B1 := tbt B1 hb
            replace B2 := tbt B2 hb
            replace BB := tbt BB hb
            clear hc hb fA0 fA1 fX3
            by_cases hit : 0 ≤ itemAt s.items x.k
            · have hda : decide (0 ≤ itemAt s.items x.k) = true := by simpa using hit
              obtain ⟨i, hi', e1, e2⟩ := itemAt_hit hit
              rw [e1] at hda ⊢
              obtain ⟨g1, o1, rfl, hg1, hc1, hn1⟩ := item_cell (SV.out.later B1.out B1.out.size) hi'
              have hv : s.items[i].v = y := by rw [HYv.out]; unfold valOf; rw [if_pos hit, e1, Int.toNat_natCast, getD_at hi']
              rw [hv] at hc1
              have hil : (i : Int) < (s.items.length : Int) := by omega
              unfold maxLen at hn1
              have Hit := Lib.hid hit
              have E1 := Lib.hid e1
              clear hv hit e1 e2
              have fA0 := tcr KA 0
              have fA1 := tcr KA 1
              have hc := spec_itemAt r _ u1.heap.size x.k u1 (STT.out.later B2.out B2.out.size) (Nat.le_refl _)
              have fT0 := tcr KT 0
              have fT1 := tcr KT 1
              have fX3 := tcr KX 3
              go_wp2_with (go_at_call 16; refine hc.mono ?_; rintro e u2 ⟨rfl, hb⟩; refine Hid.out ?_)
              refine Lib.hid ?_
              replace KA := tkb hb LA KA
              replace LA := tlz LA hb.size
              replace KX := tkb hb LX KX
              replace LX := tlz LX hb.size
              replace KT := tkb hb LT KT
              replace LT := tlz LT hb.size
              replace B1 := tbt B1 hb
              replace B2 := tbt B2 hb
              replace BB := tbt BB hb
              clear hc hb fT0 fT1 fX3
              clear fA0 fA1 hc1 hg1 hil hn1
              obtain ⟨i2, hi2, e3, e4⟩ := itemAt_hit Hput.out.1
              rw [e3]
              obtain ⟨g3, o3, rfl, hg3, hc3, hn3⟩ := item_cell (STT.out.later B2.out B2.out.size) hi2
              have hv2 : r.items[i2].v = x.v := by have h := Hput.out.2; unfold valOf at h; rw [if_pos Hput.out.1, e3, Int.toNat_natCast, getD_at hi2] at h; exact h
              rw [hv2] at hc3
              have hil2 : (i2 : Int) < (r.items.length : Int) := by omega
              unfold maxLen at hn3
              have hvq := teq (rfl : x.v = x.v)
              clear hv2 e3 e4
              have fT0 := tcr KT 0
              have fA0 := tcr KA 0
              have fX0 := tcr KX 0
              have fX1 := tcr KX 1
              have fX2 := tcr KX 2
              have fX3 := tcr KX 3
              have fX4 := tcr KX 4
              go_wp2_with fail
              go_ret
              exact ⟨rfl, BB.out⟩
            · have hda : decide (0 ≤ itemAt s.items x.k) = false := by simpa using hit
              have hy0 : y = ⟨#[]⟩ := by rw [HYv.out]; unfold valOf; rw [if_neg hit]
              rw [hy0]
              have hc := spec_itemAt r _ u1.heap.size x.k u1 (STT.out.later B2.out B2.out.size) (Nat.le_refl _)
              have fT0 := tcr KT 0
              have fT1 := tcr KT 1
              have fX3 := tcr KX 3
              go_wp2_with (go_at_call 16; refine hc.mono ?_; rintro e u2 ⟨rfl, hb⟩; refine Hid.out ?_)
              refine Lib.hid ?_
              replace KA := tkb hb LA KA
              replace LA := tlz LA hb.size
              replace KX := tkb hb LX KX
              replace LX := tlz LX hb.size
              replace KT := tkb hb LT KT
              replace LT := tlz LT hb.size
              replace B1 := tbt B1 hb
              replace B2 := tbt B2 hb
              replace BB := tbt BB hb
              clear hc hb fT0 fT1 fX3
              clear hda
              obtain ⟨i2, hi2, e3, e4⟩ := itemAt_hit Hput.out.1
              rw [e3]
              obtain ⟨g3, o3, rfl, hg3, hc3, hn3⟩ := item_cell (STT.out.later B2.out B2.out.size) hi2
              have hv2 : r.items[i2].v = x.v := by have h := Hput.out.2; unfold valOf at h; rw [if_pos Hput.out.1, e3, Int.toNat_natCast, getD_at hi2] at h; exact h
              rw [hv2] at hc3
              have hil2 : (i2 : Int) < (r.items.length : Int) := by omega
              unfold maxLen at hn3
              have hvq := teq (rfl : x.v = x.v)
              clear hv2 e3 e4
              have fT0 := tcr KT 0
              have fA0 := tcr KA 0
              have fX0 := tcr KX 0
              have fX1 := tcr KX 1
              have fX2 := tcr KX 2
              have fX3 := tcr KX 3
              have fX4 := tcr KX 4
              go_wp2_with fail
              go_ret
              exact ⟨rfl, BB.out⟩
          · have hd1 : decide (x.n = 1) = false := by simp [hn]
            have hd2 : decide (x.n = 2) = true := by simp [hn]
            have Hn := Lib.hid hn
            have hna : ¬ x.n = 1 := by omega
            have hdel := reply_del (s := s) Hok.out Hn.out
            rw [← HR.out] at hdel
            have Hdel := Lib.hid hdel
            clear hdel
            have hc := spec_itemAt s _ z2.heap.size x.k z2 (SV.out.later B1.out B1.out.size) (Nat.le_refl _)
            have fA0 := tcr KA 0
            have fA1 := tcr KA 1
            have fX3 := tcr KX 3
            go_wp2_with (go_at_call 16; refine hc.mono ?_; rintro e u1 ⟨rfl, hb⟩; refine Hid.out ?_)
            refine Lib.hid ?_
            replace KA := tkb hb LA KA
            replace LA := tlz LA hb.size
            replace KX := tkb hb LX KX
            replace LX := tlz LX hb.size
            replace KT := tkb hb LT KT
            replace LT := tlz LT hb.size
            replace B1 := tbt B1 hb
            replace B2 := tbt B2 hb
            replace BB := tbt BB hb
            clear hc hb fA0 fA1 fX3
            by_cases hit : 0 ≤ itemAt s.items x.k
            · have hda : decide (0 ≤ itemAt s.items x.k) = true := by simpa using hit
              obtain ⟨i, hi', e1, e2⟩ := itemAt_hit hit
              rw [e1] at hda ⊢
              obtain ⟨g1, o1, rfl, hg1, hc1, hn1⟩ := item_cell (SV.out.later B1.out B1.out.size) hi'
              have hv : s.items[i].v = y := by rw [HYv.out]; unfold valOf; rw [if_pos hit, e1, Int.toNat_natCast, getD_at hi']
              rw [hv] at hc1
              have hil : (i : Int) < (s.items.length : Int) := by omega
              unfold maxLen at hn1
              have Hit := Lib.hid hit
              have E1 := Lib.hid e1
              clear hv hit e1 e2
              have fA0 := tcr KA 0
              have fA1 := tcr KA 1
              have hc := spec_itemAt r _ u1.heap.size x.k u1 (STT.out.later B2.out B2.out.size) (Nat.le_refl _)
              rw [Hdel.out] at hc
              have fT0 := tcr KT 0
              have fT1 := tcr KT 1
              have fX3 := tcr KX 3
              go_wp2_with (go_at_call 16; refine hc.mono ?_; rintro e u2 ⟨rfl, hb⟩; refine Hid.out ?_)
              refine Lib.hid ?_
              replace KA := tkb hb LA KA
              replace LA := tlz LA hb.size
              replace KX := tkb hb LX KX
              replace LX := tlz LX hb.size
              replace KT := tkb hb LT KT
              replace LT := tlz LT hb.size
              replace B1 := tbt B1 hb
              replace B2 := tbt B2 hb
              replace BB := tbt BB hb
              clear hc hb fT0 fT1 fX3
              clear fA0 fA1 hc1 hg1 hil hn1
              have fT0 := tcr KT 0
              have fA0 := tcr KA 0
              have fX0 := tcr KX 0
              have fX1 := tcr KX 1
              have fX2 := tcr KX 2
              have fX3 := tcr KX 3
              have fX4 := tcr KX 4
              go_wp2_with fail
              go_ret
              exact ⟨rfl, BB.out⟩
            · have hda : decide (0 ≤ itemAt s.items x.k) = false := by simpa using hit
              have hy0 : y = ⟨#[]⟩ := by rw [HYv.out]; unfold valOf; rw [if_neg hit]
              rw [hy0]
              have hc := spec_itemAt r _ u1.heap.size x.k u1 (STT.out.later B2.out B2.out.size) (Nat.le_refl _)
              rw [Hdel.out] at hc
              have fT0 := tcr KT 0
              have fT1 := tcr KT 1
              have fX3 := tcr KX 3
              go_wp2_with (go_at_call 16; refine hc.mono ?_; rintro e u2 ⟨rfl, hb⟩; refine Hid.out ?_)
              refine Lib.hid ?_
              replace KA := tkb hb LA KA
              replace LA := tlz LA hb.size
              replace KX := tkb hb LX KX
              replace LX := tlz LX hb.size
              replace KT := tkb hb LT KT
              replace LT := tlz LT hb.size
              replace B1 := tbt B1 hb
              replace B2 := tbt B2 hb
              replace BB := tbt BB hb
              clear hc hb fT0 fT1 fX3
              clear hda
              have fT0 := tcr KT 0
              have fA0 := tcr KA 0
              have fX0 := tcr KX 0
              have fX1 := tcr KX 1
              have fX2 := tcr KX 2
              have fX3 := tcr KX 3
              have fX4 := tcr KX 4
              go_wp2_with fail
              go_ret
              exact ⟨rfl, BB.out⟩
      · have hdt : decide (0 ≤ talkAt s.talks x.c) = false := by simpa using hit
        refine wp_region_held_drew (S := (fun w' => Below w4.heap.size w4 w')) (by kernel_rfl) (Below.refl _ _).drew (fun hHeld => ?_)
        obtain ⟨z, hz⟩ : ∃ zz, zz = w4.drew := ⟨_, rfl⟩
        rw [← hz] at hHeld ⊢
        clear hz
        have BD := Lib.hid hHeld
        refine tk0 0 ?_
        refine tk0 1 ?_
        refine tk0 2 ?_
        refine tk 3 (v := ?_) ?_ ?_; rotate_left
        · refine Or.inl ⟨by rfl, ?_⟩; intro w hSw; obtain ⟨hA0, hA1⟩ := FA.out w hSw; go_simp; first | done | with_reducible rfl
        refine tk0 4 ?_
        refine tk 5 (v := ?_) ?_ ?_; rotate_left
        · refine Or.inl ⟨by rfl, ?_⟩; intro w hSw; obtain ⟨hX0, hX1, hX2, hX3, hX4⟩ := FX.out w hSw; go_simp; first | done | with_reducible rfl
        refine rd1 6 (fun K hK => ?_)
        go_simp
        have hc := spec_talkAt s _ z.heap.size x.c z (SV.out.later (B1.out.trans (BD.out.mono B1.out.size)) (Nat.le_trans B1.out.size BD.out.size)) (Nat.le_refl _)
        go_at_call 13
        refine hc.mono ?_
        rintro e z1 ⟨rfl, hb⟩
        replace BD := tbt BD hb
        clear hc hb
        go_wp2_with fail
        refine hK.out _ _ BD.out (fun hHeld => ?_)
        clear hK K
        refine tk0 7 ?_
        refine tk0 8 ?_
        refine tku 9 ?_
        refine tku 10 ?_
        refine tku 11 ?_
        refine tku 12 ?_
        refine tku 13 ?_
        refine tku 14 ?_
        refine tku 15 ?_
        refine tku 16 ?_
        refine tku 17 ?_
        refine tku 18 ?_
        refine tku 19 ?_
        refine tku 20 ?_
        refine tk0 21 ?_
        refine tk0 22 ?_
        refine wpAnyH_done (by kernel_rfl) ?_ _
        clear hHeld
        have hb := BD.out
        replace KA := tkb hb LA KA
        replace LA := tlz LA hb.size
        replace KX := tkb hb LX KX
        replace LX := tlz LX hb.size
        replace KT := tkb hb LT KT
        replace LT := tlz LT hb.size
        replace B1 := tbt B1 hb
        replace B2 := tbt B2 hb
        replace BB := tbt BB hb
        clear hb BD
        have Hway := Lib.hid (ap_way Hz.out (fun h => by have := h.1; omega))
        clear FA FX hdt
        have HR : Hid (r = endS s x) := Lib.hid (by rw [Hr.out, Hway.out.1])
        have HYv : Hid (y = valOf s x.k) := Lib.hid (by rw [Hy.out, Hway.out.1])
        have Hok : Hid (stOk s = true) := Lib.hid Hway.out.2.1
        have Hsk : Hid (stOk (stepS s x) = true) := Lib.hid Hway.out.2.2.2
        have hn3 : x.n = 0 ∨ x.n = 1 ∨ x.n = 2 := by have h := (rqOk_parts Hway.out.2.2.1).1; omega
        clear Hway
        have hyq := teq (rfl : y = y)
        have hzq : ((⟨#[]⟩ : ByteArray).toList == (⟨#[]⟩ : ByteArray).toList) = true := teq rfl
        rcases hn3 with hn | hn | hn
        · have hd1 : decide (x.n = 1) = false := by simp [hn]
          have hd2 : decide (x.n = 2) = false := by simp [hn]
          have Hn := Lib.hid hn
          have hna : ¬ x.n = 1 := by omega
          have hnb : ¬ x.n = 2 := by omega
          clear hn
          have hget := reply_get (s := s) Hn.out
          rw [← HR.out] at hget
          have Hget := Lib.hid hget
          clear hget
          have hc := spec_itemAt s _ z1.heap.size x.k z1 (SV.out.later B1.out B1.out.size) (Nat.le_refl _)
          have fA0 := tcr KA 0
          have fA1 := tcr KA 1
          have fX3 := tcr KX 3
          go_wp2_with (go_at_call 16; refine hc.mono ?_; rintro e u1 ⟨rfl, hb⟩; refine Hid.out ?_)
          refine Lib.hid ?_
          replace KA := tkb hb LA KA
          replace LA := tlz LA hb.size
          replace KX := tkb hb LX KX
          replace LX := tlz LX hb.size
          replace KT := tkb hb LT KT
          replace LT := tlz LT hb.size
          replace B1 := tbt B1 hb
          replace B2 := tbt B2 hb
          replace BB := tbt BB hb
          clear hc hb fA0 fA1 fX3
          by_cases hit : 0 ≤ itemAt s.items x.k
          · have hda : decide (0 ≤ itemAt s.items x.k) = true := by simpa using hit
            obtain ⟨i, hi', e1, e2⟩ := itemAt_hit hit
            rw [e1] at hda ⊢
            obtain ⟨g1, o1, rfl, hg1, hc1, hn1⟩ := item_cell (SV.out.later B1.out B1.out.size) hi'
            have hv : s.items[i].v = y := by rw [HYv.out]; unfold valOf; rw [if_pos hit, e1, Int.toNat_natCast, getD_at hi']
            rw [hv] at hc1
            have hil : (i : Int) < (s.items.length : Int) := by omega
            unfold maxLen at hn1
            have Hit := Lib.hid hit
            have E1 := Lib.hid e1
            clear hv hit e1 e2
            have fA0 := tcr KA 0
            have fA1 := tcr KA 1
            have hc := spec_itemAt r _ u1.heap.size x.k u1 (STT.out.later B2.out B2.out.size) (Nat.le_refl _)
            have hj : itemAt r.items x.k = (i : Int) := by rw [Hget.out]; exact E1.out
            rw [hj] at hc
            clear hj
            have fT0 := tcr KT 0
            have fT1 := tcr KT 1
            have fX3 := tcr KX 3
            go_wp2_with (go_at_call 16; refine hc.mono ?_; rintro e u2 ⟨rfl, hb⟩; refine Hid.out ?_)
            refine Lib.hid ?_
            replace KA := tkb hb LA KA
            replace LA := tlz LA hb.size
            replace KX := tkb hb LX KX
            replace LX := tlz LX hb.size
            replace KT := tkb hb LT KT
            replace LT := tlz LT hb.size
            replace B1 := tbt B1 hb
            replace B2 := tbt B2 hb
            replace BB := tbt BB hb
            clear hc hb fT0 fT1 fX3
            clear fA0 fA1 hc1 hg1 hil hn1
            obtain ⟨i0, hi0, e3, e4⟩ := itemAt_hit (xs := r.items) (key := x.k) (by rw [Hget.out]; exact Hit.out)
            have e3' : (i0 : Int) = i := by rw [← e3, Hget.out]; exact E1.out
            obtain rfl : i0 = i := by omega
            obtain ⟨g3, o3, rfl, hg3, hc3, hn3⟩ := item_cell (STT.out.later B2.out B2.out.size) hi0
            have hv2 : r.items[i0].v = y := by rw [HYv.out]; unfold valOf; rw [if_pos Hit.out, E1.out, Int.toNat_natCast]; have hg := Hget.out; rw [getD_at (by rw [← hg]; exact hi0)]; simp only [hg]
            rw [hv2] at hc3
            have hil2 : (i0 : Int) < (r.items.length : Int) := by omega
            unfold maxLen at hn3
            clear hv2 e3 e4 e3'
            have hln : r.items.length = s.items.length := by rw [Hget.out]
            have hlq : decide ((s.items.length : Int) = (s.items.length : Int)) = true := by simp
            rw [hln] at KT 
            have fT0 := tcr KT 0
            have fA0 := tcr KA 0
            have fX0 := tcr KX 0
            have fX1 := tcr KX 1
            have fX2 := tcr KX 2
            have fX3 := tcr KX 3
            have fX4 := tcr KX 4
            go_wp2_with fail
            go_ret
            exact ⟨rfl, BB.out⟩
          · have hda : decide (0 ≤ itemAt s.items x.k) = false := by simpa using hit
            have hy0 : y = ⟨#[]⟩ := by rw [HYv.out]; unfold valOf; rw [if_neg hit]
            rw [hy0]
            have hc := spec_itemAt r _ u1.heap.size x.k u1 (STT.out.later B2.out B2.out.size) (Nat.le_refl _)
            have hj : itemAt r.items x.k = itemAt s.items x.k := by rw [Hget.out]
            rw [hj] at hc
            clear hj
            have fT0 := tcr KT 0
            have fT1 := tcr KT 1
            have fX3 := tcr KX 3
            go_wp2_with (go_at_call 16; refine hc.mono ?_; rintro e u2 ⟨rfl, hb⟩; refine Hid.out ?_)
            refine Lib.hid ?_
            replace KA := tkb hb LA KA
            replace LA := tlz LA hb.size
            replace KX := tkb hb LX KX
            replace LX := tlz LX hb.size
            replace KT := tkb hb LT KT
            replace LT := tlz LT hb.size
            replace B1 := tbt B1 hb
            replace B2 := tbt B2 hb
            replace BB := tbt BB hb
            clear hc hb fT0 fT1 fX3
            clear hda
            have hln : r.items.length = s.items.length := by rw [Hget.out]
            have hlq : decide ((s.items.length : Int) = (s.items.length : Int)) = true := by simp
            rw [hln] at KT 
            have fT0 := tcr KT 0
            have fA0 := tcr KA 0
            have fX0 := tcr KX 0
            have fX1 := tcr KX 1
            have fX2 := tcr KX 2
            have fX3 := tcr KX 3
            have fX4 := tcr KX 4
            go_wp2_with fail
            go_ret
            exact ⟨rfl, BB.out⟩
        · have hd1 : decide (x.n = 1) = true := by simp [hn]
          have hd2 : decide (x.n = 2) = false := by simp [hn]
          have Hn := Lib.hid hn
          have hput := reply_put Hok.out Hsk.out Hn.out
          rw [← HR.out] at hput
          have Hput := Lib.hid hput
          clear hput
          have hc := spec_itemAt s _ z1.heap.size x.k z1 (SV.out.later B1.out B1.out.size) (Nat.le_refl _)
          have fA0 := tcr KA 0
          have fA1 := tcr KA 1
          have fX3 := tcr KX 3
          go_wp2_with (go_at_call 16; refine hc.mono ?_; rintro e u1 ⟨rfl, hb⟩; refine Hid.out ?_)
          refine Lib.hid ?_
          replace KA := tkb hb LA KA
          replace LA := tlz LA hb.size
          replace KX := tkb hb LX KX
          replace LX := tlz LX hb.size
          replace KT := tkb hb LT KT
          replace LT := tlz LT hb.size
          replace B1 := tbt B1 hb
          replace B2 := tbt B2 hb
          replace BB := tbt BB hb
          clear hc hb fA0 fA1 fX3
          by_cases hit : 0 ≤ itemAt s.items x.k
          · have hda : decide (0 ≤ itemAt s.items x.k) = true := by simpa using hit
            obtain ⟨i, hi', e1, e2⟩ := itemAt_hit hit
            rw [e1] at hda ⊢
            obtain ⟨g1, o1, rfl, hg1, hc1, hn1⟩ := item_cell (SV.out.later B1.out B1.out.size) hi'
            have hv : s.items[i].v = y := by rw [HYv.out]; unfold valOf; rw [if_pos hit, e1, Int.toNat_natCast, getD_at hi']
            rw [hv] at hc1
            have hil : (i : Int) < (s.items.length : Int) := by omega
            unfold maxLen at hn1
            have Hit := Lib.hid hit
            have E1 := Lib.hid e1
            clear hv hit e1 e2
            have fA0 := tcr KA 0
            have fA1 := tcr KA 1
            have hc := spec_itemAt r _ u1.heap.size x.k u1 (STT.out.later B2.out B2.out.size) (Nat.le_refl _)
            have fT0 := tcr KT 0
            have fT1 := tcr KT 1
            have fX3 := tcr KX 3
            go_wp2_with (go_at_call 16; refine hc.mono ?_; rintro e u2 ⟨rfl, hb⟩; refine Hid.out ?_)
            refine Lib.hid ?_
            replace KA := tkb hb LA KA
            replace LA := tlz LA hb.size
            replace KX := tkb hb LX KX
            replace LX := tlz LX hb.size
            replace KT := tkb hb LT KT
            replace LT := tlz LT hb.size
            replace B1 := tbt B1 hb
            replace B2 := tbt B2 hb
            replace BB := tbt BB hb
            clear hc hb fT0 fT1 fX3
            clear fA0 fA1 hc1 hg1 hil hn1
            obtain ⟨i2, hi2, e3, e4⟩ := itemAt_hit Hput.out.1
            rw [e3]
            obtain ⟨g3, o3, rfl, hg3, hc3, hn3⟩ := item_cell (STT.out.later B2.out B2.out.size) hi2
            have hv2 : r.items[i2].v = x.v := by have h := Hput.out.2; unfold valOf at h; rw [if_pos Hput.out.1, e3, Int.toNat_natCast, getD_at hi2] at h; exact h
            rw [hv2] at hc3
            have hil2 : (i2 : Int) < (r.items.length : Int) := by omega
            unfold maxLen at hn3
            have hvq := teq (rfl : x.v = x.v)
            clear hv2 e3 e4
            have fT0 := tcr KT 0
            have fA0 := tcr KA 0
            have fX0 := tcr KX 0
            have fX1 := tcr KX 1
            have fX2 := tcr KX 2
            have fX3 := tcr KX 3
            have fX4 := tcr KX 4
            go_wp2_with fail
            go_ret
            exact ⟨rfl, BB.out⟩
          · have hda : decide (0 ≤ itemAt s.items x.k) = false := by simpa using hit
            have hy0 : y = ⟨#[]⟩ := by rw [HYv.out]; unfold valOf; rw [if_neg hit]
            rw [hy0]
            have hc := spec_itemAt r _ u1.heap.size x.k u1 (STT.out.later B2.out B2.out.size) (Nat.le_refl _)
            have fT0 := tcr KT 0
            have fT1 := tcr KT 1
            have fX3 := tcr KX 3
            go_wp2_with (go_at_call 16; refine hc.mono ?_; rintro e u2 ⟨rfl, hb⟩; refine Hid.out ?_)
            refine Lib.hid ?_
            replace KA := tkb hb LA KA
            replace LA := tlz LA hb.size
            replace KX := tkb hb LX KX
            replace LX := tlz LX hb.size
            replace KT := tkb hb LT KT
            replace LT := tlz LT hb.size
            replace B1 := tbt B1 hb
            replace B2 := tbt B2 hb
            replace BB := tbt BB hb
            clear hc hb fT0 fT1 fX3
            clear hda
            obtain ⟨i2, hi2, e3, e4⟩ := itemAt_hit Hput.out.1
            rw [e3]
            obtain ⟨g3, o3, rfl, hg3, hc3, hn3⟩ := item_cell (STT.out.later B2.out B2.out.size) hi2
            have hv2 : r.items[i2].v = x.v := by have h := Hput.out.2; unfold valOf at h; rw [if_pos Hput.out.1, e3, Int.toNat_natCast, getD_at hi2] at h; exact h
            rw [hv2] at hc3
            have hil2 : (i2 : Int) < (r.items.length : Int) := by omega
            unfold maxLen at hn3
            have hvq := teq (rfl : x.v = x.v)
            clear hv2 e3 e4
            have fT0 := tcr KT 0
            have fA0 := tcr KA 0
            have fX0 := tcr KX 0
            have fX1 := tcr KX 1
            have fX2 := tcr KX 2
            have fX3 := tcr KX 3
            have fX4 := tcr KX 4
            go_wp2_with fail
            go_ret
            exact ⟨rfl, BB.out⟩
        · have hd1 : decide (x.n = 1) = false := by simp [hn]
          have hd2 : decide (x.n = 2) = true := by simp [hn]
          have Hn := Lib.hid hn
          have hna : ¬ x.n = 1 := by omega
          have hdel := reply_del (s := s) Hok.out Hn.out
          rw [← HR.out] at hdel
          have Hdel := Lib.hid hdel
          clear hdel
          have hc := spec_itemAt s _ z1.heap.size x.k z1 (SV.out.later B1.out B1.out.size) (Nat.le_refl _)
          have fA0 := tcr KA 0
          have fA1 := tcr KA 1
          have fX3 := tcr KX 3
          go_wp2_with (go_at_call 16; refine hc.mono ?_; rintro e u1 ⟨rfl, hb⟩; refine Hid.out ?_)
          refine Lib.hid ?_
          replace KA := tkb hb LA KA
          replace LA := tlz LA hb.size
          replace KX := tkb hb LX KX
          replace LX := tlz LX hb.size
          replace KT := tkb hb LT KT
          replace LT := tlz LT hb.size
          replace B1 := tbt B1 hb
          replace B2 := tbt B2 hb
          replace BB := tbt BB hb
          clear hc hb fA0 fA1 fX3
          by_cases hit : 0 ≤ itemAt s.items x.k
          · have hda : decide (0 ≤ itemAt s.items x.k) = true := by simpa using hit
            obtain ⟨i, hi', e1, e2⟩ := itemAt_hit hit
            rw [e1] at hda ⊢
            obtain ⟨g1, o1, rfl, hg1, hc1, hn1⟩ := item_cell (SV.out.later B1.out B1.out.size) hi'
            have hv : s.items[i].v = y := by rw [HYv.out]; unfold valOf; rw [if_pos hit, e1, Int.toNat_natCast, getD_at hi']
            rw [hv] at hc1
            have hil : (i : Int) < (s.items.length : Int) := by omega
            unfold maxLen at hn1
            have Hit := Lib.hid hit
            have E1 := Lib.hid e1
            clear hv hit e1 e2
            have fA0 := tcr KA 0
            have fA1 := tcr KA 1
            have hc := spec_itemAt r _ u1.heap.size x.k u1 (STT.out.later B2.out B2.out.size) (Nat.le_refl _)
            rw [Hdel.out] at hc
            have fT0 := tcr KT 0
            have fT1 := tcr KT 1
            have fX3 := tcr KX 3
            go_wp2_with (go_at_call 16; refine hc.mono ?_; rintro e u2 ⟨rfl, hb⟩; refine Hid.out ?_)
            refine Lib.hid ?_
            replace KA := tkb hb LA KA
            replace LA := tlz LA hb.size
            replace KX := tkb hb LX KX
            replace LX := tlz LX hb.size
            replace KT := tkb hb LT KT
            replace LT := tlz LT hb.size
            replace B1 := tbt B1 hb
            replace B2 := tbt B2 hb
            replace BB := tbt BB hb
            clear hc hb fT0 fT1 fX3
            clear fA0 fA1 hc1 hg1 hil hn1
            have fT0 := tcr KT 0
            have fA0 := tcr KA 0
            have fX0 := tcr KX 0
            have fX1 := tcr KX 1
            have fX2 := tcr KX 2
            have fX3 := tcr KX 3
            have fX4 := tcr KX 4
            go_wp2_with fail
            go_ret
            exact ⟨rfl, BB.out⟩
          · have hda : decide (0 ≤ itemAt s.items x.k) = false := by simpa using hit
            have hy0 : y = ⟨#[]⟩ := by rw [HYv.out]; unfold valOf; rw [if_neg hit]
            rw [hy0]
            have hc := spec_itemAt r _ u1.heap.size x.k u1 (STT.out.later B2.out B2.out.size) (Nat.le_refl _)
            rw [Hdel.out] at hc
            have fT0 := tcr KT 0
            have fT1 := tcr KT 1
            have fX3 := tcr KX 3
            go_wp2_with (go_at_call 16; refine hc.mono ?_; rintro e u2 ⟨rfl, hb⟩; refine Hid.out ?_)
            refine Lib.hid ?_
            replace KA := tkb hb LA KA
            replace LA := tlz LA hb.size
            replace KX := tkb hb LX KX
            replace LX := tlz LX hb.size
            replace KT := tkb hb LT KT
            replace LT := tlz LT hb.size
            replace B1 := tbt B1 hb
            replace B2 := tbt B2 hb
            replace BB := tbt BB hb
            clear hc hb fT0 fT1 fX3
            clear hda
            have fT0 := tcr KT 0
            have fA0 := tcr KA 0
            have fX0 := tcr KX 0
            have fX1 := tcr KX 1
            have fX2 := tcr KX 2
            have fX3 := tcr KX 3
            have fX4 := tcr KX 4
            go_wp2_with fail
            go_ret
            exact ⟨rfl, BB.out⟩
    · have h0' : (c != 0) = true := by simpa using h0
      clear h0
      refine wp_region_held_drew (S := (fun w' => Below w4.heap.size w4 w')) (by kernel_rfl) (Below.refl _ _).drew (fun hHeld => ?_)
      obtain ⟨z, hz⟩ : ∃ zz, zz = w4.drew := ⟨_, rfl⟩
      rw [← hz] at hHeld ⊢
      clear hz
      have BD := Lib.hid hHeld
      refine tk0 0 ?_
      refine tk0 1 ?_
      refine tk0 2 ?_
      refine tku 3 ?_
      refine tku 4 ?_
      refine tku 5 ?_
      refine tku 6 ?_
      refine tku 7 ?_
      refine tku 8 ?_
      refine tku 9 ?_
      refine tku 10 ?_
      refine tku 11 ?_
      refine tku 12 ?_
      refine tku 13 ?_
      refine tku 14 ?_
      refine tku 15 ?_
      refine tku 16 ?_
      refine tku 17 ?_
      refine tku 18 ?_
      refine tku 19 ?_
      refine tku 20 ?_
      refine tku 21 ?_
      refine tk0 22 ?_
      refine wpAnyH_done (by kernel_rfl) ?_ _
      clear hHeld
      have hb := BD.out
      replace KA := tkb hb LA KA
      replace LA := tlz LA hb.size
      replace KX := tkb hb LX KX
      replace LX := tlz LX hb.size
      replace KT := tkb hb LT KT
      replace LT := tlz LT hb.size
      replace B1 := tbt B1 hb
      replace B2 := tbt B2 hb
      replace BB := tbt BB hb
      clear hb BD
      clear FA FX
      go_wp2_with fail
      have FX : Hid (∀ w', Below z.heap.size z w' → w'.cell? ⟨w1.heap.size + 1, 0, none⟩ = some (.string x.c) ∧ w'.cell? ⟨w1.heap.size + 1, 1, none⟩ = some (.int .i64 x.q) ∧ w'.cell? ⟨w1.heap.size + 1, 2, none⟩ = some (.int .i64 x.n) ∧ w'.cell? ⟨w1.heap.size + 1, 3, none⟩ = some (.string x.k) ∧ w'.cell? ⟨w1.heap.size + 1, 4, none⟩ = some (.string x.v)) := Lib.hid (fun w' h => by have K := tkb h LX KX; exact ⟨tcr K 0, tcr K 1, tcr K 2, tcr K 3, tcr K 4⟩)
      refine wp_region_held_drew (S := (fun w' => Below z.heap.size z w')) (by kernel_rfl) (Below.refl _ _).drew (fun hHeld => ?_)
      obtain ⟨y, hy⟩ : ∃ zz, zz = z.drew := ⟨_, rfl⟩
      rw [← hy] at hHeld ⊢
      clear hy
      have BD := Lib.hid hHeld
      refine tk 0 (v := ?_) ?_ ?_; rotate_left
      · refine Or.inl ⟨by rfl, ?_⟩; intro w hSw; obtain ⟨hX0, hX1, hX2, hX3, hX4⟩ := FX.out w hSw; go_simp; first | done | with_reducible rfl
      refine tk 2 (v := ?_) ?_ ?_; rotate_left
      · refine Or.inl ⟨by rfl, ?_⟩; intro w hSw; obtain ⟨hX0, hX1, hX2, hX3, hX4⟩ := FX.out w hSw; go_simp; first | done | with_reducible rfl
      refine rd1 1 (fun K hK => ?_)
      go_simp
      have hc := impl_opOk x y Hx.out
      unfold rqA at hc
      go_at_call 14
      refine hc.mono ?_
      rintro e y1 ⟨rfl, hb⟩
      replace BD := tbt BD hb
      clear hc hb
      go_wp2_with fail
      refine hK.out _ _ BD.out (fun hHeld => ?_)
      clear hK K
      refine rd1 3 (fun K hK => ?_)
      go_simp
      have hc := spec_opOk x y1 Hx.out
      unfold rqA at hc
      go_at_call 15
      refine hc.mono ?_
      rintro e y2 ⟨rfl, hb⟩
      replace BD := tbt BD hb
      clear hc hb
      go_wp2_with fail
      refine hK.out _ _ BD.out (fun hHeld => ?_)
      clear hK K
      have hbq : (rqOk x == rqOk x) = true := by simp
      refine tk0 4 ?_
      refine tk0 5 ?_
      refine wpAnyH_done (by kernel_rfl) ?_ _
      clear hHeld
      go_wp2_with fail
      go_ret
      exact ⟨rfl, BB.out.trans (BD.out.mono BB.out.size)⟩
end Go.Proofs.YtebmaplflpfjbaaDoor
