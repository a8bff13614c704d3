/- The law FnAll: many that are asked are asked one behind the other. Condition: the variable errors.errorType holds the handle of the type error. -/
import Derived.Test.YtebmaplflpfjbaaGreatDoorBaseA
import Derived.Test.YtebmaplflpfjbaaGreatDoorBig
import Derived.Test.YtebmaplflpfjbaaGreatDoorDrawApplyAll
import Derived.Test.YtebmaplflpfjbaaGreatDoorImplApplyAll
import Derived.Test.YtebmaplflpfjbaaGreatDoorSpecApplyAll
import Derived.Test.YtebmaplflpfjbaaGreatDoorSpecSame
import Derived.Test.YtebmaplflpfjbaaGreatDoorSameRaw
namespace Go.Proofs.YtebmaplflpfjbaaGreatDoor
open Go.RowKit
set_option linter.unusedVariables false
set_option linter.unusedSimpArgs false

theorem slice_row_len {w : World} {B sz n : Nat} {v : Value} {cs : List Value} (h : Row w B sz v n cs) : ∃ a c, v = .slice a n c := by
  rcases h with ⟨_, ⟨rfl, rfl⟩ | ⟨g, o, cap, rfl, _⟩⟩ <;> exact ⟨_, _, rfl⟩
/-- A state of the call's own and a row of texts of the call's own. -/
def OT (w : World) (base : Nat) (v : Value) (s : St) (vr : Value) (rs : List ByteArray) : Prop := OwnN w base v s ∧ Texts w base vr rs
theorem OT.later {w w' : World} {base : Nat} {v vr : Value} {s : St} {rs : List ByteArray} (h : OT w base v s vr rs) (hb : Below w.heap.size w w') : OT w' base v s vr rs := ⟨h.1.later hb, Texts.later h.2 hb⟩
theorem OT.base {w : World} {base base' : Nat} {v vr : Value} {s : St} {rs : List ByteArray} (h : OT w base v s vr rs) (hb : base' ≤ base) : OT w base' v s vr rs := ⟨h.1.base hb, owns_base h.2 hb⟩
theorem OT.kept {w w' : World} {base b : Nat} {v vr : Value} {s : St} {rs : List ByteArray} (h : OT w base v s vr rs) (hg : w.grownBy w' (some b)) (hb : b < base) : OT w' base v s vr rs :=
  ⟨h.1.kept hg hb, texts_kept h.2 hg (.inr (fun e => by have := Texts.own h.2 _ e; omega))⟩
theorem raw_cap {w : World} {B n lc : Nat} {a : Option Addr} {cs : List Value} (h : Raw w B (.slice a n lc) n cs) : n ≤ lc ∧ lc ≤ 9223372036854775807 := by
  obtain ⟨a', c', h0, h1, h2, _⟩ := h
  obtain ⟨rfl, rfl⟩ : a = a' ∧ lc = c' := by simpa using h0
  unfold maxLen at h2
  exact ⟨h1, h2⟩
theorem raw_part {w : World} {B g n lc : Nat} {xs : List Rq} (hn : n = xs.length) (h : Raw w B (.slice (some ⟨g, 0, none⟩) n lc) n (xs.flatMap rqC)) (k : Nat) (hk : k ≤ n) :
    Raw w B (.slice (some ⟨g, 0, none⟩) k lc) (xs.take k).length ((xs.take k).flatMap rqC) ∧ Raw w B (.slice (if lc = k then some ⟨g, 0, none⟩ else some ⟨g, k * 5, none⟩) (n - k) (lc - k)) (xs.drop k).length ((xs.drop k).flatMap rqC) := by
  obtain ⟨a', c', h0, h1, h2, _, h4⟩ := h
  obtain ⟨rfl, rfl⟩ : some (⟨g, 0, none⟩ : Addr) = a' ∧ lc = c' := by simpa using h0
  have l1 : (xs.take k).length = k := by rw [List.length_take]; omega
  have l2 : (xs.drop k).length = n - k := by rw [List.length_drop]; omega
  rw [l1, l2]
  have key : 0 < n → g < B ∧ At w g 0 ((xs.take k).flatMap rqC) ∧ At w g (k * 5) ((xs.drop k).flatMap rqC) := fun hp => by
    obtain ⟨g', o', e, hg, hat⟩ := h4 hp
    obtain ⟨rfl, rfl⟩ : g = g' ∧ 0 = o' := by simpa using e
    have e2 : xs.flatMap rqC = (xs.take k).flatMap rqC ++ (xs.drop k).flatMap rqC := by rw [← List.flatMap_append, List.take_append_drop]
    rw [e2, At.append, rqC_len, l1, Nat.zero_add] at hat
    exact ⟨hg, hat⟩
  refine ⟨⟨_, lc, rfl, by omega, h2, (fun h => by cases h), fun hp => ⟨g, 0, rfl, (key (by omega)).1, (key (by omega)).2.1⟩⟩, ⟨_, lc - k, rfl, by omega, by omega, (fun h => by split at h <;> cases h), fun hp => ⟨g, k * 5, by rw [if_neg (by omega)], (key (by omega)).1, (key (by omega)).2.2⟩⟩⟩
theorem wpList_appG {P : Program} {w w' : World} {ops : Array Oper} {rest : List Oper} {o : Oper} {a : Act} {Q : Exit → Act → World → Prop} {sv xv v' : Value} {i : Nat} {b : Bool} (hg : o.guard = some (i, b)) (hw : Region.wanted o (yielded ops a.tmps) = true) (s x : Operand) (t : TypeId) (hop : o.op = Op.call { callee := Callee.builtin Builtin.append, args := #[s, x], argTypes := #[t, t] })
    (run : (Builtin.append_ #[t, t] o.type #[sv, xv]).run P w = .ok v' w') (hs : a.eval s = sv) (hx : a.eval x = xv) (hK : wpList P ops Q rest (a.put o.dst v') w') : wpList P ops Q (o :: rest) a w := by
  refine wpList_step fun K' hK' => ?_
  rw [if_pos hw]
  unfold Oper.wp
  simp [execOp, hop, resolve, invoke, builtin, hs, hx, run, Result.andThen]
  exact hK' _ _ hK
set_option maxRecDepth 100000 in
set_option maxHeartbeats 16000000 in
theorem law_all (a : Option Addr) (len cap : Nat) (zs : List Int) (w : World) (hr : IsRow .u8 w a len cap zs) (hE : ErrType w) :
    Calls Tryz.prog 3 #[.slice a len cap] w fun e w' => e = .returned (.bool true) ∧ Below w.heap.size w w' := by
  have hr := row8_of hr
  by_cases hbig : 1048576 < len
  · have hd : decide (1048576 < len) = true := by simpa using hbig
    go_enter Tryz.func3, Tryz.ntmps3
    go_wp2_with (go_at_call 4; refine (big_any _ _ _ _).mono ?_; rintro e w' ⟨rfl, rfl⟩)
    go_ret
    exact ⟨rfl, Below.refl _ _⟩
  · have hd : decide (1048576 < len) = false := by simpa using hbig
    have hlen : len ≤ 1048576 := by omega
    have HE := Lib.hid hE
    clear hE
    go_enter Tryz.func3, Tryz.ntmps3
    go_wp2_with (first | (go_at_call 4; refine (big_any _ _ _ _).mono ?_; rintro e w' ⟨rfl, rfl⟩) | (go_at_call 5; refine (drawApplyAll_any _ make_true a len cap zs _ hr hlen).mono ?_; rintro e w1 ⟨v, s, g, n, lc, xs, rfl, hn, hst, ⟨hsm, _⟩, hraw, hn7, hxs, hb⟩; have Hn := Lib.hid hn; clear hn; refine Hid.out ?_))
    refine Lib.hid ?_
    have SV := Lib.hid hst
    obtain ⟨vi, vt, rfl, r1, r2⟩ := hst
    obtain ⟨sa, sc, rfl⟩ := slice_row_len r1
    obtain ⟨ta, tc, rfl⟩ := slice_row_len r2
    have BB : Hid (Below w.heap.size w w1) := Lib.hid hb
    have B1 : Hid (Below w1.heap.size w1 w1) := Lib.hid (Below.refl _ _)
    have Hkeep : Hid (KeepS s) := Lib.hid ⟨hsm.small (by omega) (by omega), hsm.fits⟩
    have Hf : Hid (∀ x ∈ xs, FitRq x) := Lib.hid (fun x hx => (hxs x hx).fit)
    have RL := Lib.hid hraw
    have hcap := raw_cap hraw
    obtain ⟨r, hr'⟩ : ∃ r, r = (apA s xs).1 := ⟨_, rfl⟩
    obtain ⟨rs, hrs'⟩ : ∃ r, r = (apA s xs).2 := ⟨_, rfl⟩
    have Hr := Lib.hid hr'
    have Hrs := Lib.hid hrs'
    have hrl : rs.length = n := by rw [hrs', apA_len, Hn.out]
    have Hrl := Lib.hid hrl
    clear r1 r2 hr' hrs' hsm hraw hxs hb hr hd hrl
    obtain ⟨X1, hX1⟩ : ∃ z, z = w1.alloc (.cells #[.slice sa s.items.length sc, .slice ta s.talks.length tc] 27) := ⟨_, rfl⟩
    have hb : Below w1.heap.size w1 X1 := by rw [hX1]; exact (Below.refl _ _).alloc (Nat.le_refl _) _
    replace B1 := tbt B1 hb
    replace BB := tbt BB hb
    have KA : Hid (X1.heap[w1.heap.size]? = some (.cells #[.slice sa s.items.length sc, .slice ta s.talks.length tc] 27 (0, 0))) := Lib.hid (by rw [hX1]; exact heap_new _ _)
    have LA : Hid (w1.heap.size < X1.heap.size) := Lib.hid (by rw [hX1]; simp)
    clear hb
    have hc := impl_applyAll s _ (.slice (some ⟨g, 0, none⟩) n lc) xs X1.heap.size X1 (SV.out.later B1.out B1.out.size) (by have h := RL.out.later B1.out B1.out.size; rw [← Hn.out]; exact h) (Nat.le_refl _) Hkeep.out Hf.out (by have := Hn.out; omega) (HE.out.on BB.out)
    rw [← Hr.out, ← Hrs.out] at hc
    have fA0 := tcr KA 0
    have fA1 := tcr KA 1
    rw [hX1] at hc fA0 fA1
    go_wp2_with (go_at_call 6; refine hc.mono ?_; rintro e w2 ⟨_, vr, nb, rfl, hT, hb⟩; refine Hid.out ?_)
    refine Lib.hid ?_
    rw [← hX1] at hb hT
    clear hX1
    replace KA := tkb hb LA KA
    replace LA := tlz LA hb.size
    replace B1 := tbt B1 hb
    replace BB := tbt BB hb
    clear hc hb fA0 fA1
    have ST_ := Lib.hid hT.own.st
    have TX := Lib.hid hT.2.2
    obtain ⟨gi, ci, gt, ct, rfl⟩ := hT.own.two
    have B2 : Hid (Below w2.heap.size w2 w2) := Lib.hid (Below.refl _ _)
    clear hT
    obtain ⟨ra, rc, rfl, hrw⟩ := texts_raw TX.out
    rw [Hrl.out] at hrw
    have RR := Lib.hid hrw
    clear hrw TX
    rw [Hrl.out]
    obtain ⟨X2, hX2⟩ : ∃ z, z = w2.alloc (.cells #[.slice gi r.items.length ci, .slice gt r.talks.length ct] 27) := ⟨_, rfl⟩
    have hb : Below w2.heap.size w2 X2 := by rw [hX2]; exact (Below.refl _ _).alloc (Nat.le_refl _) _
    replace KA := tkb hb LA KA
    replace LA := tlz LA hb.size
    replace B1 := tbt B1 hb
    replace B2 := tbt B2 hb
    replace BB := tbt BB hb
    have KT : Hid (X2.heap[w2.heap.size]? = some (.cells #[.slice gi r.items.length ci, .slice gt r.talks.length ct] 27 (0, 0))) := Lib.hid (by rw [hX2]; exact heap_new _ _)
    have LT : Hid (w2.heap.size < X2.heap.size) := Lib.hid (by rw [hX2]; simp)
    clear hb
    have hc := spec_applyAll s _ (.slice (some ⟨g, 0, none⟩) n lc) xs X2.heap.size X2 (SV.out.later B1.out B1.out.size) (by have h := RL.out.later B1.out B1.out.size; rw [← Hn.out]; exact h) (Nat.le_refl _) Hkeep.out Hf.out (by have := Hn.out; omega)
    rw [← Hr.out, ← Hrs.out] at hc
    have fA0 := tcr KA 0
    have fA1 := tcr KA 1
    rw [hX2] at hc fA0 fA1
    go_wp2_with (go_at_call 7; refine hc.mono ?_; rintro e w3 ⟨_, vw, rfl, ho, ht, hb⟩; refine Hid.out ?_)
    refine Lib.hid ?_
    rw [← hX2] at hb ho ht
    clear hX2
    replace KA := tkb hb LA KA
    replace LA := tlz LA hb.size
    replace KT := tkb hb LT KT
    replace LT := tlz LT hb.size
    replace B1 := tbt B1 hb
    replace B2 := tbt B2 hb
    replace BB := tbt BB hb
    clear hc hb fA0 fA1
    have SW := Lib.hid ho.st
    obtain ⟨hi, di, ht_, dt, rfl⟩ := ho.two
    have B3 : Hid (Below w3.heap.size w3 w3) := Lib.hid (Below.refl _ _)
    obtain ⟨wa, wc_, rfl, hrw⟩ := texts_raw ht
    rw [Hrl.out] at hrw
    have RW := Lib.hid hrw
    rw [Hrl.out]
    clear ho ht hrw
    obtain ⟨X3, hX3⟩ : ∃ z, z = w3.alloc (.cells #[.slice hi r.items.length di, .slice ht_ r.talks.length dt] 27) := ⟨_, rfl⟩
    have hb : Below w3.heap.size w3 X3 := by rw [hX3]; exact (Below.refl _ _).alloc (Nat.le_refl _) _
    replace KA := tkb hb LA KA
    replace LA := tlz LA hb.size
    replace KT := tkb hb LT KT
    replace LT := tlz LT hb.size
    replace B1 := tbt B1 hb
    replace B2 := tbt B2 hb
    replace B3 := tbt B3 hb
    replace BB := tbt BB hb
    have KW : Hid (X3.heap[w3.heap.size]? = some (.cells #[.slice hi r.items.length di, .slice ht_ r.talks.length dt] 27 (0, 0))) := Lib.hid (by rw [hX3]; exact heap_new _ _)
    have LW : Hid (w3.heap.size < X3.heap.size) := Lib.hid (by rw [hX3]; simp)
    clear hb
    have hc := spec_same r r _ _ X3.heap.size X3 (ST_.out.later B2.out B2.out.size).rd (SW.out.later B3.out B3.out.size).rd (Nat.le_refl _)
    have fT0 := tcr KT 0
    have fT1 := tcr KT 1
    have fW0 := tcr KW 0
    have fW1 := tcr KW 1
    rw [hX3] at hc fT0 fT1 fW0 fW1
    go_wp2_with (go_at_call 8; refine hc.mono ?_; rintro e w4 ⟨bb, rfl, hbe, hb⟩; refine Hid.out ?_)
    refine Lib.hid ?_
    rw [← hX3] at hb 
    clear hX3
    replace KA := tkb hb LA KA
    replace LA := tlz LA hb.size
    replace KT := tkb hb LT KT
    replace LT := tlz LT hb.size
    replace KW := tkb hb LW KW
    replace LW := tlz LW hb.size
    replace B1 := tbt B1 hb
    replace B2 := tbt B2 hb
    replace B3 := tbt B3 hb
    replace BB := tbt BB hb
    clear hc hb fT0 fT1 fW0 fW1
    obtain rfl : bb = true := hbe.2 (by first | trivial | rfl)
    clear hbe
    have hc := same_raw rs _ _ w4.heap.size w4 (by rw [Hrl.out]; exact RR.out.later B2.out B2.out.size) (by rw [Hrl.out]; exact RW.out.later B3.out B3.out.size) (Nat.le_refl _)
    go_wp2_with (go_at_call 9; refine hc.mono ?_; rintro e w5 ⟨rfl, hb⟩; refine Hid.out ?_)
    refine Lib.hid ?_
    replace KA := tkb hb LA KA
    replace LA := tlz LA hb.size
    replace KT := tkb hb LT KT
    replace LT := tlz LT hb.size
    replace KW := tkb hb LW KW
    replace LW := tlz LW hb.size
    replace B1 := tbt B1 hb
    replace B2 := tbt B2 hb
    replace B3 := tbt B3 hb
    replace BB := tbt BB hb
    clear hc hb 
    clear SW B3 KW LW RW
    have hnn : ((n : Int) != (n : Int)) = false := by simp
    obtain ⟨h, hh⟩ : ∃ h : Nat, h = n / 2 := ⟨_, rfl⟩
    have hhn : h ≤ n := by omega
    have hhl : h ≤ lc := by have := hcap.1; omega
    have hq1 : (n : Int).tdiv 2 = (h : Int) := by rw [Int.tdiv_eq_ediv_of_nonneg (by omega)]; omega
    have hq2 : (n : Int) / 2 = (h : Int) := by omega
    have hqw : IntKind.i64.wrap (h : Int) = (h : Int) := by rw [IntKind.wrap_i64] <;> omega
    clear hh
    obtain ⟨s1, hs1⟩ : ∃ z, z = (apA s (xs.take h)).1 := ⟨_, rfl⟩
    obtain ⟨r1, hr1⟩ : ∃ z, z = (apA s (xs.take h)).2 := ⟨_, rfl⟩
    obtain ⟨r2, hr2⟩ : ∃ z, z = (apA s1 (xs.drop h)).2 := ⟨_, rfl⟩
    have Hs1 := Lib.hid hs1
    have Hr1 := Lib.hid hr1
    have Hr2 := Lib.hid hr2
    have Hcat : Hid (r = (apA s1 (xs.drop h)).1 ∧ rs = r1 ++ r2) := Lib.hid (by have e := apA_append (xs.take h) (xs.drop h) s; rw [List.take_append_drop, ← hs1, ← hr1, ← hr2] at e; rw [Hr.out, Hrs.out, e]; exact ⟨rfl, rfl⟩)
    have hl1 : r1.length = h := by rw [hr1, apA_len, List.length_take]; have := Hn.out; omega
    have hl2 : r2.length = n - h := by rw [hr2, apA_len, List.length_drop]; have := Hn.out; omega
    have Hl1 := Lib.hid hl1
    have Hl2 := Lib.hid hl2
    have K1 : Hid (KeepS s1) := Lib.hid (by rw [hs1]; exact apA_keep _ Hkeep.out)
    clear hs1 hr1 hr2 hl1 hl2
    have Hpart := Lib.hid (raw_part Hn.out (RL.out.later B1.out B1.out.size) h hhn)
    go_wp2_with fail
    have FA : Hid (∀ w', Below w5.heap.size w5 w' → w'.cell? ⟨w1.heap.size, 0, none⟩ = some (.slice sa s.items.length sc) ∧ w'.cell? ⟨w1.heap.size, 1, none⟩ = some (.slice ta s.talks.length tc)) := Lib.hid (fun w' h => by have K := tkb h LA KA; exact ⟨tcr K 0, tcr K 1⟩)
    go_cut [10, 11] (fun m bv wx => ∃ (mb : Nat) (b0 : Option Addr) (d0 : Nat) (b1 : Option Addr) (d1 : Nat) (vq : Value), m = .pointer (some ⟨mb, 0, none⟩) ∧ bv = vq ∧ Hid (wx.heap[mb]? = some (.cells #[.slice b0 s1.items.length d0, .slice b1 s1.talks.length d1] 27 (0, 0))) ∧ Hid (OT wx w5.heap.size (.agg #[.slice b0 s1.items.length d0, .slice b1 s1.talks.length d1]) s1 vq r1) ∧ Hid (Below w5.heap.size w5 wx) ∧ Hid (w5.heap.size ≤ mb ∧ mb < wx.heap.size))
    case first =>
      skip
      refine wp_region_held_drew (S := (fun w' => Below w5.heap.size w5 w')) (by kernel_rfl) (Below.refl _ _).drew (fun hHeld => ?_)
      obtain ⟨zD, hzD⟩ : ∃ z, z = w5.drew := ⟨_, rfl⟩
      rw [← hzD] at hHeld ⊢
      have BA := Lib.hid hHeld
      clear hzD
      refine tk 0 (v := ?_) ?_ ?_; rotate_left
      · refine Or.inl ⟨by rfl, ?_⟩; intro w hSw; obtain ⟨hA0, hA1⟩ := FA.out w hSw; go_simp; first | done | with_reducible rfl
      refine tk0 1 ?_
      refine tk0 2 ?_
      refine tk0 3 ?_
      refine rd2 4 8 (fun K hK => ?_) (fun K hK => ?_)
      · go_simp
        have hc := impl_applyAll s _ (.slice (some ⟨g, 0, none⟩) h lc) (xs.take h) zD.heap.size zD ((SV.out.later B1.out B1.out.size).later BA.out BA.out.size) (Hpart.out.1.later BA.out BA.out.size) (Nat.le_refl _) Hkeep.out (fun x hx => Hf.out x (List.mem_of_mem_take hx)) (by have := Hn.out; simp; omega) (HE.out.on (BB.out.trans (BA.out.mono BB.out.size)))
        rw [← Hs1.out, ← Hr1.out] at hc
        go_at_call 6
        refine hc.mono ?_
        rintro e wk ⟨_, vq, nq, rfl, ho, hb⟩
        have hbk := hb
        replace BA := tbt BA hb
        have G := Lib.hid (show OT wk zD.heap.size _ s1 vq r1 from ⟨ho.own, ho.2.2⟩)
        obtain ⟨b0, d0, b1, d1, rfl⟩ := ho.own.two
        have AL : Hid (w5.heap.size ≤ zD.heap.size) := Lib.hid hHeld.size
        have BK : Hid (Below wk.heap.size wk wk) := Lib.hid (Below.refl _ _)
        clear ho
        have NE : Hid (zD.heap.size ≤ wk.heap.size) := Lib.hid hbk.size
        clear hbk
        clear hc hb
        go_wp2_with fail
        refine hK.out _ _ BA.out (fun hHeld => ?_)
        clear hK K
        refine tk0 5 ?_
        refine tk0 6 ?_
        refine tk0 7 ?_
        refine rd1 8 (fun K hK => ?_)
        go_simp
        obtain ⟨V, hV⟩ : ∃ V, V = wk.alloc (.cells #[.slice none 0 0, .slice none 0 0] 27) := ⟨_, rfl⟩
        rw [← hV]
        have bV : Below wk.heap.size wk V := by rw [hV]; exact (Below.refl _ _).alloc (Nat.le_refl _) _
        have KM : Hid (V.heap[wk.heap.size]? = some (.cells #[.slice none 0 0, .slice none 0 0] 27 (0, 0))) := Lib.hid (by rw [hV]; exact heap_new _ _)
        have LM : Hid (wk.heap.size < V.heap.size) := Lib.hid (by rw [hV]; simp)
        have AM : Hid (w5.heap.size ≤ wk.heap.size) := Lib.hid BA.out.size
        replace BA := tbt BA bV
        clear hV
        replace BK := Lib.hid (BK.out.trans bV)
        clear bV
        go_wp2_with fail
        refine hK.out _ _ BA.out (fun hHeld => ?_)
        clear hK K
        have dM0 := tcr KM 0
        have dM1 := tcr KM 1
        have zM0 := tfr KM 0
        have zM1 := tfr KM 1
        refine rd1 9 (fun K hK => ?_)
        go_simp
        obtain ⟨Y, hY⟩ : ∃ Y, Y = (V.setCell ⟨wk.heap.size, 0, none⟩ (.slice b0 s1.items.length d0)).setCell ⟨wk.heap.size, 1, none⟩ (.slice b1 s1.talks.length d1) := ⟨_, rfl⟩
        rw [← hY]
        have r0 := heap_setCell_same _ (wk.heap.size) 0 _ _ (.slice b0 s1.items.length d0) KM.out
        have r1 := heap_setCell_same _ (wk.heap.size) 1 _ _ (.slice b1 s1.talks.length d1) r0
        rw [← hY] at r1
        simp only [List.setIfInBounds_toArray, List.set_cons_zero, List.set_cons_succ] at r1
        have R1 := Lib.hid r1
        have gY : V.grownBy Y (some (wk.heap.size)) := by rw [hY]; exact (grown_set _ ⟨wk.heap.size, 0, none⟩ _).trans (grown_set _ ⟨wk.heap.size, 1, none⟩ _)
        clear dM0 dM1 zM0 zM1 r0 r1 hY
        replace BA := Lib.hid (BA.out.grown gY BA.out.size (fun k hk => by cases hk; exact AM.out))
        have LMY : Hid (w5.heap.size ≤ wk.heap.size ∧ wk.heap.size < Y.heap.size) := Lib.hid ⟨AM.out, Nat.lt_of_lt_of_le LM.out gY.size⟩
        replace G := Lib.hid ((G.out.later (BK.out.grown gY BK.out.size (fun k hk => by cases hk; exact Nat.le_refl _))).base AL.out)
        refine hK.out _ _ BA.out (fun hHeld => ?_)
        clear hK K gY
        refine tk0 10 ?_
        refine wpAnyH_done (by kernel_rfl) ?_ _
        clear hHeld
        go_wp2_with fail
        go_meet
        exact ⟨wk.heap.size, b0, d0, b1, d1, vq, rfl, rfl, R1, G, BA, LMY⟩
      · go_simp
        obtain ⟨V, hV⟩ : ∃ V, V = zD.alloc (.cells #[.slice none 0 0, .slice none 0 0] 27) := ⟨_, rfl⟩
        rw [← hV]
        have bV : Below zD.heap.size zD V := by rw [hV]; exact (Below.refl _ _).alloc (Nat.le_refl _) _
        have KM : Hid (V.heap[zD.heap.size]? = some (.cells #[.slice none 0 0, .slice none 0 0] 27 (0, 0))) := Lib.hid (by rw [hV]; exact heap_new _ _)
        have LM : Hid (zD.heap.size < V.heap.size) := Lib.hid (by rw [hV]; simp)
        have AM : Hid (w5.heap.size ≤ zD.heap.size) := Lib.hid BA.out.size
        replace BA := tbt BA bV
        clear hV
        clear bV
        go_wp2_with fail
        refine hK.out _ _ BA.out (fun hHeld => ?_)
        clear hK K
        have zDV := LM
        refine rd1 4 (fun K hK => ?_)
        go_simp
        have hc := impl_applyAll s _ (.slice (some ⟨g, 0, none⟩) h lc) (xs.take h) V.heap.size V ((SV.out.later B1.out B1.out.size).later BA.out BA.out.size) (Hpart.out.1.later BA.out BA.out.size) (Nat.le_refl _) Hkeep.out (fun x hx => Hf.out x (List.mem_of_mem_take hx)) (by have := Hn.out; simp; omega) (HE.out.on (BB.out.trans (BA.out.mono BB.out.size)))
        rw [← Hs1.out, ← Hr1.out] at hc
        go_at_call 6
        refine hc.mono ?_
        rintro e wk ⟨_, vq, nq, rfl, ho, hb⟩
        have hbk := hb
        replace BA := tbt BA hb
        have G := Lib.hid (show OT wk V.heap.size _ s1 vq r1 from ⟨ho.own, ho.2.2⟩)
        obtain ⟨b0, d0, b1, d1, rfl⟩ := ho.own.two
        have AL : Hid (w5.heap.size ≤ V.heap.size) := Lib.hid hHeld.size
        have BK : Hid (Below wk.heap.size wk wk) := Lib.hid (Below.refl _ _)
        clear ho
        replace KM := tkb hbk LM KM
        have NE : Hid (zD.heap.size < V.heap.size) := LM
        replace LM := tlz LM hbk.size
        clear hbk zDV
        clear hc hb
        go_wp2_with fail
        refine hK.out _ _ BA.out (fun hHeld => ?_)
        clear hK K
        refine tk0 5 ?_
        refine tk0 6 ?_
        refine tk0 7 ?_
        have dM0 := tcr KM 0
        have dM1 := tcr KM 1
        have zM0 := tfr KM 0
        have zM1 := tfr KM 1
        refine rd1 9 (fun K hK => ?_)
        go_simp
        obtain ⟨Y, hY⟩ : ∃ Y, Y = (wk.setCell ⟨zD.heap.size, 0, none⟩ (.slice b0 s1.items.length d0)).setCell ⟨zD.heap.size, 1, none⟩ (.slice b1 s1.talks.length d1) := ⟨_, rfl⟩
        rw [← hY]
        have r0 := heap_setCell_same _ (zD.heap.size) 0 _ _ (.slice b0 s1.items.length d0) KM.out
        have r1 := heap_setCell_same _ (zD.heap.size) 1 _ _ (.slice b1 s1.talks.length d1) r0
        rw [← hY] at r1
        simp only [List.setIfInBounds_toArray, List.set_cons_zero, List.set_cons_succ] at r1
        have R1 := Lib.hid r1
        have gY : wk.grownBy Y (some (zD.heap.size)) := by rw [hY]; exact (grown_set _ ⟨zD.heap.size, 0, none⟩ _).trans (grown_set _ ⟨zD.heap.size, 1, none⟩ _)
        clear dM0 dM1 zM0 zM1 r0 r1 hY
        replace BA := Lib.hid (BA.out.grown gY BA.out.size (fun k hk => by cases hk; exact AM.out))
        have LMY : Hid (w5.heap.size ≤ zD.heap.size ∧ zD.heap.size < Y.heap.size) := Lib.hid ⟨AM.out, Nat.lt_of_lt_of_le LM.out gY.size⟩
        replace G := Lib.hid ((G.out.kept gY NE.out).base AL.out)
        refine hK.out _ _ BA.out (fun hHeld => ?_)
        clear hK K gY
        refine tk0 10 ?_
        refine wpAnyH_done (by kernel_rfl) ?_ _
        clear hHeld
        go_wp2_with fail
        go_meet
        exact ⟨zD.heap.size, b0, d0, b1, d1, vq, rfl, rfl, R1, G, BA, LMY⟩
    case rest =>
      obtain ⟨mb, b0, d0, b1, d1, vq, rfl, rfl, KM, G, bA, LM⟩ := hcut
      obtain ⟨w6, rfl⟩ : ∃ z, z = wc := ⟨_, rfl⟩
      have hb := bA.out
      replace KA := tkb hb LA KA
      replace LA := tlz LA hb.size
      replace KT := tkb hb LT KT
      replace LT := tlz LT hb.size
      replace B1 := tbt B1 hb
      replace B2 := tbt B2 hb
      replace BB := tbt BB hb
      have P2 := Lib.hid (Hpart.out.2.later bA.out bA.out.size)
      obtain ⟨ad, had⟩ : ∃ ad : Option Addr, ad = (if lc = h then some ⟨g, 0, none⟩ else some ⟨g, h * 5, none⟩) := ⟨_, rfl⟩
      rw [← had] at P2
      have HAD := Lib.hid had
      clear hb bA Hpart FA had
      obtain ⟨ja, jc, rfl, hjr⟩ := texts_raw G.out.2
      rw [Hl1.out] at hjr
      have RJ := Lib.hid hjr
      have SJ := Lib.hid G.out.1.st
      rw [Hl1.out]
      have LMj : Hid (mb < w6.heap.size) := Lib.hid LM.out.2
      obtain ⟨ma, hma⟩ : ∃ z, z = mb := ⟨_, rfl⟩
      subst hma
      clear hjr G LM
      have B6 : Hid (Below w6.heap.size w6 w6) := Lib.hid (Below.refl _ _)
      have KJ := KM
      have LJ := LMj
      clear KM LMj
      go_wp2_with fail
      obtain ⟨j0, hj0⟩ : ∃ z, z = b0 := ⟨_, rfl⟩
      obtain ⟨e0, he0⟩ : ∃ z, z = d0 := ⟨_, rfl⟩
      obtain ⟨j1, hj1⟩ : ∃ z, z = b1 := ⟨_, rfl⟩
      obtain ⟨e1, he1⟩ : ∃ z, z = d1 := ⟨_, rfl⟩
      subst hj0 he0 hj1 he1
      have FJ : Hid (∀ w', Below w6.heap.size w6 w' → w'.cell? ⟨ma, 0, none⟩ = some (.slice j0 s1.items.length e0) ∧ w'.cell? ⟨ma, 1, none⟩ = some (.slice j1 s1.talks.length e1)) := Lib.hid (fun w' h => by have K := tkb h LJ KJ; exact ⟨tcr K 0, tcr K 1⟩)
      go_cut [12, 13] (fun m bv wx => ∃ (mb : Nat) (b0 : Option Addr) (d0 : Nat) (b1 : Option Addr) (d1 : Nat) (vq : Value), m = .pointer (some ⟨mb, 0, none⟩) ∧ bv = vq ∧ Hid (wx.heap[mb]? = some (.cells #[.slice b0 r.items.length d0, .slice b1 r.talks.length d1] 27 (0, 0))) ∧ Hid (OT wx w6.heap.size (.agg #[.slice b0 r.items.length d0, .slice b1 r.talks.length d1]) r vq r2) ∧ Hid (Below w6.heap.size w6 wx) ∧ Hid (w6.heap.size ≤ mb ∧ mb < wx.heap.size))
      case first =>
        skip
        refine wp_region_held_drew (S := (fun w' => Below w6.heap.size w6 w')) (by kernel_rfl) (Below.refl _ _).drew (fun hHeld => ?_)
        obtain ⟨zD, hzD⟩ : ∃ z, z = w6.drew := ⟨_, rfl⟩
        rw [← hzD] at hHeld ⊢
        have BA := Lib.hid hHeld
        clear hzD
        refine tk 0 (v := ?_) ?_ ?_; rotate_left
        · refine Or.inl ⟨by rfl, ?_⟩; intro w hSw; obtain ⟨hA0, hA1⟩ := FJ.out w hSw; go_simp; first | done | with_reducible rfl
        refine tk0 1 ?_
        refine tk0 2 ?_
        refine tk0 3 ?_
        rw [← HAD.out]
        refine rd2 4 8 (fun K hK => ?_) (fun K hK => ?_)
        · go_simp
          have hc := impl_applyAll s1 _ (.slice ad (n - h) (lc - h)) (xs.drop h) zD.heap.size zD (SJ.out.later BA.out BA.out.size) (P2.out.later BA.out BA.out.size) (Nat.le_refl _) K1.out (fun x hx => Hf.out x (List.mem_of_mem_drop hx)) (by have := Hn.out; simp; omega) (HE.out.on (BB.out.trans (BA.out.mono BB.out.size)))
          rw [← Hcat.out.1, ← Hr2.out] at hc
          go_at_call 6
          refine hc.mono ?_
          rintro e wk ⟨_, vq, nq, rfl, ho, hb⟩
          have hbk := hb
          replace BA := tbt BA hb
          have G := Lib.hid (show OT wk zD.heap.size _ r vq r2 from ⟨ho.own, ho.2.2⟩)
          obtain ⟨b0, d0, b1, d1, rfl⟩ := ho.own.two
          have AL : Hid (w6.heap.size ≤ zD.heap.size) := Lib.hid hHeld.size
          have BK : Hid (Below wk.heap.size wk wk) := Lib.hid (Below.refl _ _)
          clear ho
          have NE : Hid (zD.heap.size ≤ wk.heap.size) := Lib.hid hbk.size
          clear hbk
          clear hc hb
          go_wp2_with fail
          refine hK.out _ _ BA.out (fun hHeld => ?_)
          clear hK K
          refine tk0 5 ?_
          refine tk0 6 ?_
          refine tk0 7 ?_
          refine rd1 8 (fun K hK => ?_)
          go_simp
          obtain ⟨V, hV⟩ : ∃ V, V = wk.alloc (.cells #[.slice none 0 0, .slice none 0 0] 27) := ⟨_, rfl⟩
          rw [← hV]
          have bV : Below wk.heap.size wk V := by rw [hV]; exact (Below.refl _ _).alloc (Nat.le_refl _) _
          have KM : Hid (V.heap[wk.heap.size]? = some (.cells #[.slice none 0 0, .slice none 0 0] 27 (0, 0))) := Lib.hid (by rw [hV]; exact heap_new _ _)
          have LM : Hid (wk.heap.size < V.heap.size) := Lib.hid (by rw [hV]; simp)
          have AM : Hid (w6.heap.size ≤ wk.heap.size) := Lib.hid BA.out.size
          replace BA := tbt BA bV
          clear hV
          replace BK := Lib.hid (BK.out.trans bV)
          clear bV
          go_wp2_with fail
          refine hK.out _ _ BA.out (fun hHeld => ?_)
          clear hK K
          have dM0 := tcr KM 0
          have dM1 := tcr KM 1
          have zM0 := tfr KM 0
          have zM1 := tfr KM 1
          refine rd1 9 (fun K hK => ?_)
          go_simp
          obtain ⟨Y, hY⟩ : ∃ Y, Y = (V.setCell ⟨wk.heap.size, 0, none⟩ (.slice b0 r.items.length d0)).setCell ⟨wk.heap.size, 1, none⟩ (.slice b1 r.talks.length d1) := ⟨_, rfl⟩
          rw [← hY]
          have r0 := heap_setCell_same _ (wk.heap.size) 0 _ _ (.slice b0 r.items.length d0) KM.out
          have r1 := heap_setCell_same _ (wk.heap.size) 1 _ _ (.slice b1 r.talks.length d1) r0
          rw [← hY] at r1
          simp only [List.setIfInBounds_toArray, List.set_cons_zero, List.set_cons_succ] at r1
          have R1 := Lib.hid r1
          have gY : V.grownBy Y (some (wk.heap.size)) := by rw [hY]; exact (grown_set _ ⟨wk.heap.size, 0, none⟩ _).trans (grown_set _ ⟨wk.heap.size, 1, none⟩ _)
          clear dM0 dM1 zM0 zM1 r0 r1 hY
          replace BA := Lib.hid (BA.out.grown gY BA.out.size (fun k hk => by cases hk; exact AM.out))
          have LMY : Hid (w6.heap.size ≤ wk.heap.size ∧ wk.heap.size < Y.heap.size) := Lib.hid ⟨AM.out, Nat.lt_of_lt_of_le LM.out gY.size⟩
          replace G := Lib.hid ((G.out.later (BK.out.grown gY BK.out.size (fun k hk => by cases hk; exact Nat.le_refl _))).base AL.out)
          refine hK.out _ _ BA.out (fun hHeld => ?_)
          clear hK K gY
          refine tk0 10 ?_
          refine wpAnyH_done (by kernel_rfl) ?_ _
          clear hHeld
          go_wp2_with fail
          go_meet
          exact ⟨wk.heap.size, b0, d0, b1, d1, vq, rfl, rfl, R1, G, BA, LMY⟩
        · go_simp
          obtain ⟨V, hV⟩ : ∃ V, V = zD.alloc (.cells #[.slice none 0 0, .slice none 0 0] 27) := ⟨_, rfl⟩
          rw [← hV]
          have bV : Below zD.heap.size zD V := by rw [hV]; exact (Below.refl _ _).alloc (Nat.le_refl _) _
          have KM : Hid (V.heap[zD.heap.size]? = some (.cells #[.slice none 0 0, .slice none 0 0] 27 (0, 0))) := Lib.hid (by rw [hV]; exact heap_new _ _)
          have LM : Hid (zD.heap.size < V.heap.size) := Lib.hid (by rw [hV]; simp)
          have AM : Hid (w6.heap.size ≤ zD.heap.size) := Lib.hid BA.out.size
          replace BA := tbt BA bV
          clear hV
          clear bV
          go_wp2_with fail
          refine hK.out _ _ BA.out (fun hHeld => ?_)
          clear hK K
          have zDV := LM
          refine rd1 4 (fun K hK => ?_)
          go_simp
          have hc := impl_applyAll s1 _ (.slice ad (n - h) (lc - h)) (xs.drop h) V.heap.size V (SJ.out.later BA.out BA.out.size) (P2.out.later BA.out BA.out.size) (Nat.le_refl _) K1.out (fun x hx => Hf.out x (List.mem_of_mem_drop hx)) (by have := Hn.out; simp; omega) (HE.out.on (BB.out.trans (BA.out.mono BB.out.size)))
          rw [← Hcat.out.1, ← Hr2.out] at hc
          go_at_call 6
          refine hc.mono ?_
          rintro e wk ⟨_, vq, nq, rfl, ho, hb⟩
          have hbk := hb
          replace BA := tbt BA hb
          have G := Lib.hid (show OT wk V.heap.size _ r vq r2 from ⟨ho.own, ho.2.2⟩)
          obtain ⟨b0, d0, b1, d1, rfl⟩ := ho.own.two
          have AL : Hid (w6.heap.size ≤ V.heap.size) := Lib.hid hHeld.size
          have BK : Hid (Below wk.heap.size wk wk) := Lib.hid (Below.refl _ _)
          clear ho
          replace KM := tkb hbk LM KM
          have NE : Hid (zD.heap.size < V.heap.size) := LM
          replace LM := tlz LM hbk.size
          clear hbk zDV
          clear hc hb
          go_wp2_with fail
          refine hK.out _ _ BA.out (fun hHeld => ?_)
          clear hK K
          refine tk0 5 ?_
          refine tk0 6 ?_
          refine tk0 7 ?_
          have dM0 := tcr KM 0
          have dM1 := tcr KM 1
          have zM0 := tfr KM 0
          have zM1 := tfr KM 1
          refine rd1 9 (fun K hK => ?_)
          go_simp
          obtain ⟨Y, hY⟩ : ∃ Y, Y = (wk.setCell ⟨zD.heap.size, 0, none⟩ (.slice b0 r.items.length d0)).setCell ⟨zD.heap.size, 1, none⟩ (.slice b1 r.talks.length d1) := ⟨_, rfl⟩
          rw [← hY]
          have r0 := heap_setCell_same _ (zD.heap.size) 0 _ _ (.slice b0 r.items.length d0) KM.out
          have r1 := heap_setCell_same _ (zD.heap.size) 1 _ _ (.slice b1 r.talks.length d1) r0
          rw [← hY] at r1
          simp only [List.setIfInBounds_toArray, List.set_cons_zero, List.set_cons_succ] at r1
          have R1 := Lib.hid r1
          have gY : wk.grownBy Y (some (zD.heap.size)) := by rw [hY]; exact (grown_set _ ⟨zD.heap.size, 0, none⟩ _).trans (grown_set _ ⟨zD.heap.size, 1, none⟩ _)
          clear dM0 dM1 zM0 zM1 r0 r1 hY
          replace BA := Lib.hid (BA.out.grown gY BA.out.size (fun k hk => by cases hk; exact AM.out))
          have LMY : Hid (w6.heap.size ≤ zD.heap.size ∧ zD.heap.size < Y.heap.size) := Lib.hid ⟨AM.out, Nat.lt_of_lt_of_le LM.out gY.size⟩
          replace G := Lib.hid ((G.out.kept gY NE.out).base AL.out)
          refine hK.out _ _ BA.out (fun hHeld => ?_)
          clear hK K gY
          refine tk0 10 ?_
          refine wpAnyH_done (by kernel_rfl) ?_ _
          clear hHeld
          go_wp2_with fail
          go_meet
          exact ⟨zD.heap.size, b0, d0, b1, d1, vq, rfl, rfl, R1, G, BA, LMY⟩
      case rest =>
        obtain ⟨mb, b0, d0, b1, d1, vq, rfl, rfl, KM, G, bA, LM⟩ := hcut
        obtain ⟨w7, rfl⟩ : ∃ z, z = wc := ⟨_, rfl⟩
        have hb := bA.out
        replace KA := tkb hb LA KA
        replace LA := tlz LA hb.size
        replace KT := tkb hb LT KT
        replace LT := tlz LT hb.size
        replace KJ := tkb hb LJ KJ
        replace LJ := tlz LJ hb.size
        replace B1 := tbt B1 hb
        replace B2 := tbt B2 hb
        replace B6 := tbt B6 hb
        replace BB := tbt BB hb
        clear hb bA FJ
        obtain ⟨ka, kc, rfl, hkr⟩ := texts_raw G.out.2
        rw [Hl2.out] at hkr
        have RK := Lib.hid hkr
        have SK := Lib.hid G.out.1.st
        rw [Hl2.out]
        have LK := Lib.hid LM.out.2
        have KK := KM
        clear hkr G LM KM
        have B7 : Hid (Below w7.heap.size w7 w7) := Lib.hid (Below.refl _ _)
        have hc := spec_same r r _ _ w7.heap.size w7 SK.out.rd (ST_.out.later B2.out B2.out.size).rd (Nat.le_refl _)
        have fK0 := tcr KK 0
        have fK1 := tcr KK 1
        have fT0 := tcr KT 0
        have fT1 := tcr KT 1
        go_wp2_with (go_at_call 8; refine hc.mono ?_; rintro e w8 ⟨bb, rfl, hbe, hb⟩; refine Hid.out ?_)
        refine Lib.hid ?_
        replace KA := tkb hb LA KA
        replace LA := tlz LA hb.size
        replace KT := tkb hb LT KT
        replace LT := tlz LT hb.size
        replace KJ := tkb hb LJ KJ
        replace LJ := tlz LJ hb.size
        replace KK := tkb hb LK KK
        replace LK := tlz LK hb.size
        replace B1 := tbt B1 hb
        replace B2 := tbt B2 hb
        replace B6 := tbt B6 hb
        replace B7 := tbt B7 hb
        replace BB := tbt BB hb
        clear hc hb fK0 fK1 fT0 fT1
        obtain rfl : bb = true := hbe.2 (by first | trivial | rfl)
        clear hbe
        obtain ⟨V, hV⟩ : ∃ V, V = w8.alloc (.cells #[] 9) := ⟨_, rfl⟩
        have bV : Below w8.heap.size w8 V := by rw [hV]; exact (Below.refl _ _).alloc (Nat.le_refl _) _
        have sV : w8.heap.size < V.heap.size := by rw [hV]; simp
        obtain ⟨i0, p1, p2, p3, p4⟩ := info_parts infoStr
        have got0 : Got V w8.heap.size 9 1 w8.heap.size 0 0 [] := ⟨rfl, Nat.le_refl _, Nat.zero_le _, Nat.le_refl _, sV, .inl ⟨rfl, rfl⟩⟩
        have one1 : ∀ (l : List ByteArray), ∀ u ∈ l.map Value.string, u.oneCell' = true := fun l u hu => by obtain ⟨x, _, rfl⟩ := List.mem_map.1 hu; rfl
        have rj := RJ.out.later (B6.out.trans (bV.mono B6.out.size)) (Nat.le_trans B6.out.size bV.size)
        obtain ⟨g1, c1, z1, run1, gr1, loc1, got1⟩ := run_app (P := Tryz.prog) V 31 31 9 i0 _ 1 16 Tryz.underlying31 p1 p2 p3 p4 rfl (by decide) w8.heap.size 0 0 w8.heap.size _ got0 _ _ h _ rj (by simp [Hl1.out]) (one1 r1) (by unfold maxLen; omega) (by omega)
        rw [Nat.zero_add] at run1 got1
        have bz1 : Below w8.heap.size w8 z1 := bV.grown gr1 bV.size (fun k hk => by cases hk; exact Nat.le_refl _)
        have rk := RK.out.later (B7.out.trans (bz1.mono B7.out.size)) (Nat.le_trans B7.out.size bz1.size)
        have hg1 := got1.2.2.2.1
        obtain ⟨g2, c2, z2, run2, gr2, loc2, got2⟩ := run_app (P := Tryz.prog) z1 31 31 9 i0 _ 1 16 Tryz.underlying31 p1 p2 p3 p4 rfl (by decide) g1 h c1 w8.heap.size _ got1 _ _ (n - h) _ rk (by simp [Hl2.out]) (one1 r2) (by unfold maxLen; omega) (by omega)
        have ehn : h + (n - h) = n := by omega
        rw [ehn] at run2 got2
        have bz2 : Below w8.heap.size w8 z2 := bz1.grown gr2 bz1.size (fun k hk => by cases hk; exact hg1)
        have GF : Hid (Raw z2 z2.heap.size (.slice (some ⟨g2, 0, none⟩) n c2) rs.length (rs.map Value.string)) := Lib.hid (by have h1 := raw_of_row (row_of_got got2); rw [Hrl.out, Hcat.out.2, List.map_append]; simpa using h1)
        have RT := Lib.hid (RR.out.later (B2.out.trans (bz2.mono B2.out.size)) (Nat.le_trans B2.out.size bz2.size))
        have BF := Lib.hid (BB.out.trans (bz2.mono BB.out.size))
        rw [hV] at run1
        have hc := same_raw rs _ _ z2.heap.size z2 GF.out (by rw [Hrl.out]; exact RT.out) (Nat.le_refl _)
        clear bV sV got0 one1 rj gr1 loc1 got1 bz1 rk hg1 gr2 loc2 got2 bz2 p1 p2 p3 p4 hV ehn
        rename_i aK
        refine aK _ _ ?_
        clear aK
        refine wpList_step (fun K2 hK2 => ?_)
        go_simp
        refine hK2 _ _ ?_
        clear hK2 K2
        refine wpList_step (fun K2 hK2 => ?_)
        go_simp
        refine hK2 _ _ ?_
        clear hK2 K2
        refine wpList_step (fun K2 hK2 => ?_)
        go_simp
        refine hK2 _ _ ?_
        clear hK2 K2
        refine wpList_appG rfl (by first | rfl | (go_simp; done)) _ _ _ rfl run1 rfl rfl ?_
        clear run1
        refine wpList_step (fun K2 hK2 => ?_)
        go_simp
        refine hK2 _ _ ?_
        clear hK2 K2
        refine wpList_appG rfl (by first | rfl | (go_simp; done)) _ _ _ rfl run2 rfl rfl ?_
        clear run2
        refine wpList_step (fun K2 hK2 => ?_)
        go_simp
        refine hK2 _ _ ?_
        clear hK2 K2
        go_wp2_with (go_at_call 9; refine hc.mono ?_; rintro e w9 ⟨rfl, hb⟩)
        go_ret
        exact ⟨rfl, BF.out.trans (hb.mono BF.out.size)⟩
end Go.Proofs.YtebmaplflpfjbaaGreatDoor
