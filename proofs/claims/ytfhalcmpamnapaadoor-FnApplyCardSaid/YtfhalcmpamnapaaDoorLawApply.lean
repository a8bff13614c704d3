/- The law FnApply: what is asked is done once, even where it is asked twice; what is asked too late changes nothing. Condition: the variable errors.errorType holds the handle of the type error. -/
import Derived.Test.YtfhalcmpamnapaaDoorBaseA
import Derived.Test.YtfhalcmpamnapaaDoorBig
import Derived.Test.YtfhalcmpamnapaaDoorDrawApply
import Derived.Test.YtfhalcmpamnapaaDoorApplyBack
import Derived.Test.YtfhalcmpamnapaaDoorApplyAllPlain
import Derived.Test.YtfhalcmpamnapaaDoorImplApply
import Derived.Test.YtfhalcmpamnapaaDoorSpecApply
import Derived.Test.YtfhalcmpamnapaaDoorSpecSame
namespace Go.Proofs.YtfhalcmpamnapaaDoor
open Go.RowKit
set_option linter.unusedVariables false
set_option linter.unusedSimpArgs false

theorem slice_row_len {w : World} {B sz n : Nat} {v : Value} {cs : List Value} (h : Row w B sz v n cs) : ∃ a c, v = .slice a n c := by
  rcases h with ⟨_, ⟨rfl, rfl⟩ | ⟨g, o, cap, rfl, _⟩⟩ <;> exact ⟨_, _, rfl⟩
set_option maxRecDepth 100000 in
set_option maxHeartbeats 16000000 in
theorem law_apply2 (a : Option Addr) (len cap : Nat) (zs : List Int) (w : World) (hr : IsRow .u8 w a len cap zs) (hE : ErrType w) :
    Calls Tryd.prog 3 #[.slice a len cap] w fun e w' => e = .returned (.bool true) ∧ Below w.heap.size w w' := by
  have hr := row8_of hr
  by_cases hbig : 1048576 < len
  · have hd : decide (1048576 < len) = true := by simpa using hbig
    go_enter Tryd.func3, Tryd.ntmps3
    go_wp2_with (go_at_call 7; refine (big_any _ _ _ _).mono ?_; rintro e w' ⟨rfl, rfl⟩)
    go_ret
    exact ⟨rfl, Below.refl _ _⟩
  · have hd : decide (1048576 < len) = false := by simpa using hbig
    have hlen : len ≤ 1048576 := by omega
    have HE := Lib.hid hE
    clear hE
    go_enter Tryd.func3, Tryd.ntmps3
    go_wp2_with (first | (go_at_call 7; refine (big_any _ _ _ _).mono ?_; rintro e w' ⟨rfl, rfl⟩) | (go_at_call 8; refine (drawApply_any a len cap zs _ hr hlen).mono ?_; rintro e w1 ⟨v, s, x, rfl, hst, hsm, hx, hb1⟩; refine Hid.out ?_))
    refine Lib.hid ?_
    have SA := Lib.hid hst
    obtain ⟨vi, vt, rfl, r1, r2⟩ := hst
    obtain ⟨sa, sc, rfl⟩ := slice_row_len r1
    obtain ⟨ta, tc, rfl⟩ := slice_row_len r2
    clear r1 r2 hr
    have BB : Hid (Below w.heap.size w w1) := Lib.hid hb1
    have Hfew : Hid (Few s) := Lib.hid (hsm.few (by omega) (by omega))
    have Hfit : Hid (Fits s) := Lib.hid hsm.fits
    have Hx : Hid (FitRq x) := Lib.hid hx.fit
    obtain ⟨r, hr'⟩ : ∃ r, r = (ap s x).1 := ⟨_, rfl⟩
    obtain ⟨y, hy'⟩ : ∃ y, y = (ap s x).2.1 := ⟨_, rfl⟩
    obtain ⟨c, hc'⟩ : ∃ c, c = (ap s x).2.2 := ⟨_, rfl⟩
    have Hr := Lib.hid hr'
    have Hy := Lib.hid hy'
    have Hc := Lib.hid hc'
    have Hkeep : Hid (KeepS s) := Lib.hid ⟨hsm.small (by omega) (by omega), hsm.fits⟩
    have Hrk : Hid (KeepS r) := Lib.hid (by rw [hr']; exact ap_keep Hkeep.out x)
    unfold rqA
    clear hr' hy' hc' hb1 hsm hx
    obtain ⟨Y1, hY1⟩ : ∃ zz, zz = w1.alloc (.cells #[.slice sa s.items.length sc, .slice ta s.talks.length tc] 27) := ⟨_, rfl⟩
    have bY1 : Below w1.heap.size w1 Y1 := by rw [hY1]; exact (Below.refl _ _).alloc (Nat.le_refl _) _
    have sY1 : Y1.heap.size = w1.heap.size + 1 := by rw [hY1]; simp
    replace BB := tbt BB bY1
    replace SA := Lib.hid (SA.out.later bY1 bY1.size)
    have KA : Hid (Y1.heap[w1.heap.size]? = some (.cells #[.slice sa s.items.length sc, .slice ta s.talks.length tc] 27 (0, 0))) := Lib.hid (by rw [hY1]; exact heap_new _ _)
    have LA : Hid (w1.heap.size < Y1.heap.size) := Lib.hid (by omega)
    have eY1 : Hid (Y1.heap.size = w1.heap.size + 1) := Lib.hid (by omega)
    clear bY1 sY1
    obtain ⟨Y2, hY2⟩ : ∃ zz, zz = Y1.alloc (.cells #[.string x.c, .int .i64 x.q, .int .i64 x.n, .string x.k, .string x.v] 29) := ⟨_, rfl⟩
    have bY2 : Below Y1.heap.size Y1 Y2 := by rw [hY2]; exact (Below.refl _ _).alloc (Nat.le_refl _) _
    have sY2 : Y2.heap.size = Y1.heap.size + 1 := by rw [hY2]; simp
    replace KA := tkb bY2 LA KA
    replace LA := tlz LA bY2.size
    replace BB := tbt BB bY2
    replace SA := Lib.hid (SA.out.later bY2 bY2.size)
    have KX : Hid (Y2.heap[w1.heap.size + 1]? = some (.cells #[.string x.c, .int .i64 x.q, .int .i64 x.n, .string x.k, .string x.v] 29 (0, 0))) := Lib.hid (by rw [← eY1.out]; rw [hY2]; exact heap_new _ _)
    have LX : Hid (w1.heap.size + 1 < Y2.heap.size) := Lib.hid (by have := eY1.out; omega)
    have eY2 : Hid (Y2.heap.size = w1.heap.size + 2) := Lib.hid (by have := eY1.out; omega)
    clear bY2 sY2
    have hc := impl_apply s _ x Y2.heap.size Y2 SA.out (Nat.le_refl _) Hfew.out Hfit.out Hx.out (HE.out.on BB.out)
    rw [← Hr.out, ← Hy.out, ← Hc.out] at hc
    unfold rqA at hc
    have fA0 := tcr KA 0
    have fA1 := tcr KA 1
    have fX0 := tcr KX 0
    have fX1 := tcr KX 1
    have fX2 := tcr KX 2
    have fX3 := tcr KX 3
    have fX4 := tcr KX 4
    rw [hY2] at hc fA0 fA1 fX0 fX1 fX2 fX3 fX4
    rw [hY1] at hc fA0 fA1 fX0 fX1 fX2 fX3 fX4
    go_wp2_with (go_at_call 9; refine hc.mono ?_; rintro e w2 ⟨_, rfl, ho, hb⟩; refine Hid.out ?_)
    refine Lib.hid ?_
    rw [← hY1] at hb
    rw [← hY2] at hb
    clear fA0 fA1 fX0 fX1 fX2 fX3 fX4
    replace KA := tkb hb LA KA
    replace LA := tlz LA hb.size
    replace KX := tkb hb LX KX
    replace LX := tlz LX hb.size
    replace BB := tbt BB hb
    replace SA := Lib.hid (SA.out.later hb hb.size)
    clear hc hY2 hY1
    have ST := Lib.hid ho.st
    obtain ⟨giT, ciT, gtT, ctT, rfl⟩ := ho.two
    clear ho hb
    obtain ⟨Y3, hY3⟩ : ∃ zz, zz = w2.alloc (.cells #[.slice giT r.items.length ciT, .slice gtT r.talks.length ctT] 27) := ⟨_, rfl⟩
    have bY3 : Below w2.heap.size w2 Y3 := by rw [hY3]; exact (Below.refl _ _).alloc (Nat.le_refl _) _
    have sY3 : Y3.heap.size = w2.heap.size + 1 := by rw [hY3]; simp
    replace KA := tkb bY3 LA KA
    replace LA := tlz LA bY3.size
    replace KX := tkb bY3 LX KX
    replace LX := tlz LX bY3.size
    replace BB := tbt BB bY3
    replace SA := Lib.hid (SA.out.later bY3 bY3.size)
    replace ST := Lib.hid (ST.out.later bY3 bY3.size)
    have KT : Hid (Y3.heap[w2.heap.size]? = some (.cells #[.slice giT r.items.length ciT, .slice gtT r.talks.length ctT] 27 (0, 0))) := Lib.hid (by rw [hY3]; exact heap_new _ _)
    have LT : Hid (w2.heap.size < Y3.heap.size) := Lib.hid (by omega)
    have eY3 : Hid (Y3.heap.size = w2.heap.size + 1) := Lib.hid (by omega)
    clear bY3 sY3
    have hc := spec_apply s _ x Y3.heap.size Y3 SA.out (Nat.le_refl _) Hkeep.out.1 Hfit.out Hx.out
    rw [← Hr.out, ← Hy.out, ← Hc.out] at hc
    unfold rqA at hc
    have fA0 := tcr KA 0
    have fA1 := tcr KA 1
    have fX0 := tcr KX 0
    have fX1 := tcr KX 1
    have fX2 := tcr KX 2
    have fX3 := tcr KX 3
    have fX4 := tcr KX 4
    rw [hY3] at hc fA0 fA1 fX0 fX1 fX2 fX3 fX4
    go_wp2_with (go_at_call 10; refine hc.mono ?_; rintro e w3 ⟨_, rfl, ho, hb⟩; refine Hid.out ?_)
    refine Lib.hid ?_
    rw [← hY3] at hb
    clear fA0 fA1 fX0 fX1 fX2 fX3 fX4
    replace KA := tkb hb LA KA
    replace LA := tlz LA hb.size
    replace KX := tkb hb LX KX
    replace LX := tlz LX hb.size
    replace KT := tkb hb LT KT
    replace LT := tlz LT hb.size
    replace BB := tbt BB hb
    replace SA := Lib.hid (SA.out.later hb hb.size)
    replace ST := Lib.hid (ST.out.later hb hb.size)
    clear hc hY3
    have SW := Lib.hid ho.st
    obtain ⟨giW, ciW, gtW, ctW, rfl⟩ := ho.two
    clear ho hb
    obtain ⟨Y4, hY4⟩ : ∃ zz, zz = w3.alloc (.cells #[.slice giW r.items.length ciW, .slice gtW r.talks.length ctW] 27) := ⟨_, rfl⟩
    have bY4 : Below w3.heap.size w3 Y4 := by rw [hY4]; exact (Below.refl _ _).alloc (Nat.le_refl _) _
    have sY4 : Y4.heap.size = w3.heap.size + 1 := by rw [hY4]; simp
    replace KA := tkb bY4 LA KA
    replace LA := tlz LA bY4.size
    replace KX := tkb bY4 LX KX
    replace LX := tlz LX bY4.size
    replace KT := tkb bY4 LT KT
    replace LT := tlz LT bY4.size
    replace BB := tbt BB bY4
    replace SA := Lib.hid (SA.out.later bY4 bY4.size)
    replace ST := Lib.hid (ST.out.later bY4 bY4.size)
    replace SW := Lib.hid (SW.out.later bY4 bY4.size)
    have KW : Hid (Y4.heap[w3.heap.size]? = some (.cells #[.slice giW r.items.length ciW, .slice gtW r.talks.length ctW] 27 (0, 0))) := Lib.hid (by rw [hY4]; exact heap_new _ _)
    have LW : Hid (w3.heap.size < Y4.heap.size) := Lib.hid (by omega)
    have eY4 : Hid (Y4.heap.size = w3.heap.size + 1) := Lib.hid (by omega)
    clear bY4 sY4
    have hcc : (c != c) = false := by simp
    have hyy : (y.toList != y.toList) = false := by simp
    have hc := spec_same r r _ _ Y4.heap.size Y4 ST.out.rd SW.out.rd (Nat.le_refl _)
    have fT0 := tcr KT 0
    have fT1 := tcr KT 1
    have fW0 := tcr KW 0
    have fW1 := tcr KW 1
    rw [hY4] at hc fT0 fT1 fW0 fW1
    go_wp2_with (go_at_call 11; refine hc.mono ?_; rintro e w4 ⟨bb, rfl, hbe, hb⟩; refine Hid.out ?_)
    refine Lib.hid ?_
    rw [← hY4] at hb
    clear fT0 fT1 fW0 fW1
    replace KA := tkb hb LA KA
    replace LA := tlz LA hb.size
    replace KX := tkb hb LX KX
    replace LX := tlz LX hb.size
    replace KT := tkb hb LT KT
    replace LT := tlz LT hb.size
    replace KW := tkb hb LW KW
    replace LW := tlz LW hb.size
    replace BB := tbt BB hb
    replace SA := Lib.hid (SA.out.later hb hb.size)
    replace ST := Lib.hid (ST.out.later hb hb.size)
    replace SW := Lib.hid (SW.out.later hb hb.size)
    clear hc hY4
    obtain rfl : bb = true := hbe.2 (by first | trivial | rfl)
    clear hbe hb hcc hyy
    by_cases h0 : c = 0
    · have Hz : Hid ((ap s x).2.2 = 0) := Lib.hid (by rw [← Hc.out]; exact h0)
      subst h0
      have Hback : Hid (ap r x = (r, y, 0)) := Lib.hid (by rw [Hr.out, Hy.out, ap_back Hz.out]; rw [Prod.ext_iff, Prod.ext_iff]; exact ⟨rfl, rfl, Hz.out⟩)
      have Hq : Hid (1 ≤ x.q ∧ x.q ≤ 1000000000) := Lib.hid (ap_q Hz.out)
      have Hok : Hid (stOk r = true) := Lib.hid (by rw [Hr.out]; exact (ap_done Hz.out).2.2.1)
      have hc := impl_apply r _ x w4.heap.size w4 ST.out (Nat.le_refl _) Hrk.out.few Hrk.out.2 Hx.out (HE.out.on BB.out)
      rw [Hback.out] at hc
      unfold rqA at hc
      have fT0 := tcr KT 0
      have fT1 := tcr KT 1
      have fX0 := tcr KX 0
      have fX1 := tcr KX 1
      have fX2 := tcr KX 2
      have fX3 := tcr KX 3
      have fX4 := tcr KX 4
      go_wp2_with (go_at_call 9; refine hc.mono ?_; rintro e w5 ⟨_, rfl, ho, hb⟩; refine Hid.out ?_)
      refine Lib.hid ?_
      clear fT0 fT1 fX0 fX1 fX2 fX3 fX4
      replace KA := tkb hb LA KA
      replace LA := tlz LA hb.size
      replace KX := tkb hb LX KX
      replace LX := tlz LX hb.size
      replace KT := tkb hb LT KT
      replace LT := tlz LT hb.size
      replace KW := tkb hb LW KW
      replace LW := tlz LW hb.size
      replace BB := tbt BB hb
      replace SA := Lib.hid (SA.out.later hb hb.size)
      replace ST := Lib.hid (ST.out.later hb hb.size)
      replace SW := Lib.hid (SW.out.later hb hb.size)
      clear hc
      have SU := Lib.hid ho.st
      obtain ⟨giU, ciU, gtU, ctU, rfl⟩ := ho.two
      clear ho hb
      obtain ⟨Y5, hY5⟩ : ∃ zz, zz = w5.alloc (.cells #[.slice giU r.items.length ciU, .slice gtU r.talks.length ctU] 27) := ⟨_, rfl⟩
      have bY5 : Below w5.heap.size w5 Y5 := by rw [hY5]; exact (Below.refl _ _).alloc (Nat.le_refl _) _
      have sY5 : Y5.heap.size = w5.heap.size + 1 := by rw [hY5]; simp
      replace KA := tkb bY5 LA KA
      replace LA := tlz LA bY5.size
      replace KX := tkb bY5 LX KX
      replace LX := tlz LX bY5.size
      replace KT := tkb bY5 LT KT
      replace LT := tlz LT bY5.size
      replace KW := tkb bY5 LW KW
      replace LW := tlz LW bY5.size
      replace BB := tbt BB bY5
      replace SA := Lib.hid (SA.out.later bY5 bY5.size)
      replace ST := Lib.hid (ST.out.later bY5 bY5.size)
      replace SW := Lib.hid (SW.out.later bY5 bY5.size)
      replace SU := Lib.hid (SU.out.later bY5 bY5.size)
      have KU : Hid (Y5.heap[w5.heap.size]? = some (.cells #[.slice giU r.items.length ciU, .slice gtU r.talks.length ctU] 27 (0, 0))) := Lib.hid (by rw [hY5]; exact heap_new _ _)
      have LU : Hid (w5.heap.size < Y5.heap.size) := Lib.hid (by omega)
      have eY5 : Hid (Y5.heap.size = w5.heap.size + 1) := Lib.hid (by omega)
      clear bY5 sY5
      obtain ⟨q1, hq1⟩ : ∃ q, q = x.q - 1 := ⟨_, rfl⟩
      have hwq : IntKind.i64.wrap (x.q - 1) = q1 := by rw [IntKind.wrap_i64]; have := Hq.out; omega
      have Hq1 := Lib.hid hq1
      obtain ⟨xo, hxo⟩ : ∃ z : Rq, z = ⟨x.c, q1, x.n, x.k, x.v⟩ := ⟨_, rfl⟩
      have Hxo : Hid (xo = early x) := Lib.hid (by rw [hxo, hq1]; rfl)
      have Hxf : Hid (FitRq xo) := Lib.hid (by rw [hxo]; have h := Hx.out; have := Hq.out; unfold FitRq at h ⊢; exact ⟨h.1, h.2.1, h.2.2.1, by show _ ≤ q1 ∧ q1 ≤ _; omega, h.2.2.2.2⟩)
      have Hxa : Hid (rqA xo = .agg #[.string x.c, .int .i64 q1, .int .i64 x.n, .string x.k, .string x.v]) := Lib.hid (by rw [hxo]; rfl)
      clear hq1 hxo
      have aX0 := tcr KX 0
      have aX1 := tcr KX 1
      have aX2 := tcr KX 2
      have aX3 := tcr KX 3
      have aX4 := tcr KX 4
      rw [hY5] at aX0 aX1 aX2 aX3 aX4
      obtain ⟨Y6, hY6⟩ : ∃ zz, zz = (Y5.alloc (.cells #[.string x.c, .int .i64 x.q, .int .i64 x.n, .string x.k, .string x.v] 29)) := ⟨_, rfl⟩
      have bY6 : Below Y5.heap.size Y5 Y6 := by rw [hY6]; exact (Below.refl _ _).alloc (Nat.le_refl _) _
      have kX6 := (bY6.block _ LX.out).trans KX.out
      have kO6 : Y6.heap[w5.heap.size + 1]? = some (.cells #[.string x.c, .int .i64 x.q, .int .i64 x.n, .string x.k, .string x.v] 29 (0, 0)) := by rw [← eY5.out, hY6]; exact heap_new _ _
      have bX1 := cell_of_row Y6 _ 1 _ _ _ kX6
      simp only [List.getElem?_toArray, List.getElem?_cons_zero, List.getElem?_cons_succ] at bX1
      have bO1 := cell_of_row Y6 _ 1 _ _ _ kO6
      simp only [List.getElem?_toArray, List.getElem?_cons_zero, List.getElem?_cons_succ] at bO1
      have bzO1 := frozen_of_row Y6 _ 1 _ _ kO6
      rw [hY6, hY5] at bX1 bO1 bzO1
      clear kX6 kO6 bY6 hY6
      obtain ⟨Y7, hY7⟩ : ∃ zz, zz = Y5.alloc (.cells #[.string x.c, .int .i64 q1, .int .i64 x.n, .string x.k, .string x.v] 29) := ⟨_, rfl⟩
      have bY7 : Below Y5.heap.size Y5 Y7 := by rw [hY7]; exact (Below.refl _ _).alloc (Nat.le_refl _) _
      have sY7 : Y7.heap.size = Y5.heap.size + 1 := by rw [hY7]; simp
      replace KA := tkb bY7 LA KA
      replace LA := tlz LA bY7.size
      replace KX := tkb bY7 LX KX
      replace LX := tlz LX bY7.size
      replace KT := tkb bY7 LT KT
      replace LT := tlz LT bY7.size
      replace KW := tkb bY7 LW KW
      replace LW := tlz LW bY7.size
      replace KU := tkb bY7 LU KU
      replace LU := tlz LU bY7.size
      replace BB := tbt BB bY7
      replace SA := Lib.hid (SA.out.later bY7 bY7.size)
      replace ST := Lib.hid (ST.out.later bY7 bY7.size)
      replace SW := Lib.hid (SW.out.later bY7 bY7.size)
      replace SU := Lib.hid (SU.out.later bY7 bY7.size)
      have KO : Hid (Y7.heap[w5.heap.size + 1]? = some (.cells #[.string x.c, .int .i64 q1, .int .i64 x.n, .string x.k, .string x.v] 29 (0, 0))) := Lib.hid (by rw [← eY5.out]; rw [hY7]; exact heap_new _ _)
      have LO : Hid (w5.heap.size + 1 < Y7.heap.size) := Lib.hid (by have := eY5.out; omega)
      have eY7 : Hid (Y7.heap.size = w5.heap.size + 2) := Lib.hid (by have := eY5.out; omega)
      clear bY7 sY7
      have hc := impl_apply r _ xo Y7.heap.size Y7 ST.out (Nat.le_refl _) Hrk.out.few Hrk.out.2 Hxf.out (HE.out.on BB.out)
      rw [Hxa.out] at hc
      have fT0 := tcr KT 0
      have fT1 := tcr KT 1
      have fO0 := tcr KO 0
      have fO1 := tcr KO 1
      have fO2 := tcr KO 2
      have fO3 := tcr KO 3
      have fO4 := tcr KO 4
      rw [hY7] at hc fT0 fT1 fO0 fO1 fO2 fO3 fO4
      rw [hY5] at hc fT0 fT1 fO0 fO1 fO2 fO3 fO4
      go_wp2_with (go_at_call 9; refine hc.mono ?_; rintro e w6 ⟨_, rfl, ho, hb⟩; refine Hid.out ?_)
      refine Lib.hid ?_
      rw [← hY5] at hb
      rw [← hY7] at hb
      clear fT0 fT1 fO0 fO1 fO2 fO3 fO4
      replace KA := tkb hb LA KA
      replace LA := tlz LA hb.size
      replace KX := tkb hb LX KX
      replace LX := tlz LX hb.size
      replace KT := tkb hb LT KT
      replace LT := tlz LT hb.size
      replace KW := tkb hb LW KW
      replace LW := tlz LW hb.size
      replace KU := tkb hb LU KU
      replace LU := tlz LU hb.size
      replace KO := tkb hb LO KO
      replace LO := tlz LO hb.size
      replace BB := tbt BB hb
      replace SA := Lib.hid (SA.out.later hb hb.size)
      replace ST := Lib.hid (ST.out.later hb hb.size)
      replace SW := Lib.hid (SW.out.later hb hb.size)
      replace SU := Lib.hid (SU.out.later hb hb.size)
      clear hc hY7 hY5
      clear aX0 aX1 aX2 aX3 aX4 bX1 bO1 bzO1 hwq
      obtain ⟨giV, ciV, gtV, ctV, rfl⟩ := ho.two
      obtain ⟨cv, hcv⟩ : ∃ z, z = (ap r xo).2.2 := ⟨_, rfl⟩
      have Hcv : Hid (x.q ≠ 1 → cv = 1) := Lib.hid (fun h => by rw [hcv, Hxo.out, Hr.out]; exact ap_late Hz.out h)
      rw [← hcv]
      clear ho hb hcv Hxo
      obtain ⟨Y8, hY8⟩ : ∃ zz, zz = w6.alloc (.cells #[.slice giV (ap r xo).1.items.length ciV, .slice gtV (ap r xo).1.talks.length ctV] 27) := ⟨_, rfl⟩
      have bY8 : Below w6.heap.size w6 Y8 := by rw [hY8]; exact (Below.refl _ _).alloc (Nat.le_refl _) _
      have sY8 : Y8.heap.size = w6.heap.size + 1 := by rw [hY8]; simp
      replace KA := tkb bY8 LA KA
      replace LA := tlz LA bY8.size
      replace KX := tkb bY8 LX KX
      replace LX := tlz LX bY8.size
      replace KT := tkb bY8 LT KT
      replace LT := tlz LT bY8.size
      replace KW := tkb bY8 LW KW
      replace LW := tlz LW bY8.size
      replace KU := tkb bY8 LU KU
      replace LU := tlz LU bY8.size
      replace KO := tkb bY8 LO KO
      replace LO := tlz LO bY8.size
      replace BB := tbt BB bY8
      replace SA := Lib.hid (SA.out.later bY8 bY8.size)
      replace ST := Lib.hid (ST.out.later bY8 bY8.size)
      replace SW := Lib.hid (SW.out.later bY8 bY8.size)
      replace SU := Lib.hid (SU.out.later bY8 bY8.size)
      have KV : Hid (Y8.heap[w6.heap.size]? = some (.cells #[.slice giV (ap r xo).1.items.length ciV, .slice gtV (ap r xo).1.talks.length ctV] 27 (0, 0))) := Lib.hid (by rw [hY8]; exact heap_new _ _)
      have LV : Hid (w6.heap.size < Y8.heap.size) := Lib.hid (by omega)
      have eY8 : Hid (Y8.heap.size = w6.heap.size + 1) := Lib.hid (by omega)
      clear bY8 sY8
      have hc := impl_stateOk r _ Y8.heap.size Y8 ST.out (Nat.le_refl _) Hrk.out.2
      rw [Hok.out] at hc
      have fT0 := tcr KT 0
      have fT1 := tcr KT 1
      rw [hY8] at hc fT0 fT1
      go_wp2_with (go_at_call 12; refine hc.mono ?_; rintro e w7 ⟨rfl, hb⟩; refine Hid.out ?_)
      refine Lib.hid ?_
      rw [← hY8] at hb
      clear fT0 fT1
      replace KA := tkb hb LA KA
      replace LA := tlz LA hb.size
      replace KX := tkb hb LX KX
      replace LX := tlz LX hb.size
      replace KT := tkb hb LT KT
      replace LT := tlz LT hb.size
      replace KW := tkb hb LW KW
      replace LW := tlz LW hb.size
      replace KU := tkb hb LU KU
      replace LU := tlz LU hb.size
      replace KO := tkb hb LO KO
      replace LO := tlz LO hb.size
      replace KV := tkb hb LV KV
      replace LV := tlz LV hb.size
      replace BB := tbt BB hb
      replace SA := Lib.hid (SA.out.later hb hb.size)
      replace ST := Lib.hid (ST.out.later hb hb.size)
      replace SW := Lib.hid (SW.out.later hb hb.size)
      replace SU := Lib.hid (SU.out.later hb hb.size)
      clear hc hY8
      clear hb
      have fX0 := tcr KX 0
      have fX1 := tcr KX 1
      have fX2 := tcr KX 2
      have fX3 := tcr KX 3
      have fX4 := tcr KX 4
      have hyy := teq (rfl : y = y)
      have hc := spec_same r r _ _ w7.heap.size w7 SU.out.rd ST.out.rd (Nat.le_refl _)
      have fU0 := tcr KU 0
      have fU1 := tcr KU 1
      have fT0 := tcr KT 0
      have fT1 := tcr KT 1
      by_cases hq1 : x.q = 1
      · have h1 : (x.q == 1) = true := by simpa using hq1
        clear hq1 Hcv
        clear fX0 fX2 fX3 fX4
        go_wp2_with (go_at_call 11; refine hc.mono ?_; rintro e w8 ⟨bb, rfl, hbe, hb⟩; refine Hid.out ?_)
        refine Lib.hid ?_
        obtain rfl : bb = true := hbe.2 (by first | trivial | rfl)
        have kX8 := (hb.block _ LX.out).trans KX.out
        have fX8 := cell_of_row w8 _ 1 _ _ _ kX8
        simp only [List.getElem?_toArray, List.getElem?_cons_zero, List.getElem?_cons_succ] at fX8
        have HB := Lib.hid (BB.out.trans (hb.mono BB.out.size))
        clear hbe hb kX8 hc
        go_wp2_with fail
        go_ret
        exact ⟨rfl, HB.out⟩
      · have h1 : (x.q == 1) = false := by simpa using hq1
        obtain rfl : cv = 1 := Hcv.out hq1
        clear hq1 Hcv
        clear fX0 fX2 fX3 fX4
        go_wp2_with (go_at_call 11; refine hc.mono ?_; rintro e w8 ⟨bb, rfl, hbe, hb⟩; refine Hid.out ?_)
        refine Lib.hid ?_
        obtain rfl : bb = true := hbe.2 (by first | trivial | rfl)
        have kX8 := (hb.block _ LX.out).trans KX.out
        have fX8 := cell_of_row w8 _ 1 _ _ _ kX8
        simp only [List.getElem?_toArray, List.getElem?_cons_zero, List.getElem?_cons_succ] at fX8
        have HB := Lib.hid (BB.out.trans (hb.mono BB.out.size))
        clear hbe hb kX8 hc
        go_wp2_with fail
        go_ret
        exact ⟨rfl, HB.out⟩
    · have hrs : r = s := by rw [Hr.out]; exact (ap_refused s x (by rw [← Hc.out]; exact h0)).1
      have hyn : y = ⟨#[]⟩ := by rw [Hy.out]; exact (ap_refused s x (by rw [← Hc.out]; exact h0)).2
      have h0' : (c != 0) = true := by simpa using h0
      have hye : y.toList.isEmpty = true := by rw [hyn]; first | rfl | decide | simp
      have Hrs := Lib.hid hrs
      clear hrs h0 hyn
      have hc := spec_same r s _ _ w4.heap.size w4 ST.out.rd SA.out.rd (Nat.le_refl _)
      have fT0 := tcr KT 0
      have fT1 := tcr KT 1
      have fA0 := tcr KA 0
      have fA1 := tcr KA 1
      go_wp2_with (go_at_call 11; refine hc.mono ?_; rintro e w5 ⟨bb, rfl, hbe, hb⟩; refine Hid.out ?_)
      refine Lib.hid ?_
      clear fT0 fT1 fA0 fA1
      replace KA := tkb hb LA KA
      replace LA := tlz LA hb.size
      replace KX := tkb hb LX KX
      replace LX := tlz LX hb.size
      replace KT := tkb hb LT KT
      replace LT := tlz LT hb.size
      replace KW := tkb hb LW KW
      replace LW := tlz LW hb.size
      replace BB := tbt BB hb
      replace SA := Lib.hid (SA.out.later hb hb.size)
      replace ST := Lib.hid (ST.out.later hb hb.size)
      replace SW := Lib.hid (SW.out.later hb hb.size)
      clear hc
      obtain rfl : bb = true := hbe.2 (by first | trivial | exact Hrs.out)
      clear hbe hb
      go_wp2_with fail
      go_ret
      exact ⟨rfl, BB.out⟩
end Go.Proofs.YtfhalcmpamnapaaDoor
