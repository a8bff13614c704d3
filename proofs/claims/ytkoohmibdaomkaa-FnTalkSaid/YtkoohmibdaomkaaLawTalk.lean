/- The law FnTalk: of each client there is one talk, the one that was put last. Condition: none. -/
import Derived.Test.YtkoohmibdaomkaaBig
import Derived.Test.YtkoohmibdaomkaaDrawPutTalk
import Derived.Test.YtkoohmibdaomkaaDrawTalkAt
import Derived.Test.YtkoohmibdaomkaaStFacts
import Derived.Test.YtkoohmibdaomkaaImplPutTalk
import Derived.Test.YtkoohmibdaomkaaImplAt
import Derived.Test.YtkoohmibdaomkaaSpecSame
namespace Go.Proofs.Ytkoohmibdaomkaa
open Go.RowKit
set_option linter.unusedVariables false
set_option linter.unusedSimpArgs false

theorem slice_row_len {w : World} {B sz n : Nat} {v : Value} {cs : List Value} (h : Row w B sz v n cs) : ∃ a c, v = .slice a n c := by
  rcases h with ⟨_, ⟨rfl, rfl⟩ | ⟨g, o, cap, rfl, _⟩⟩ <;> exact ⟨_, _, rfl⟩
set_option maxRecDepth 100000 in
set_option maxHeartbeats 16000000 in
theorem law_talk (a : Option Addr) (len cap : Nat) (zs : List Int) (w : World) (hr : IsRow .u8 w a len cap zs) :
    Calls Try.prog 5 #[.slice a len cap] w fun e w' => e = .returned (.bool true) ∧ Below w.heap.size w w' := by
  have hr := row8_of hr
  by_cases hbig : 1048576 < len
  · have hd : decide (1048576 < len) = true := by simpa using hbig
    go_enter Try.func5, Try.ntmps5
    go_wp2_with (go_at_call 15; refine (big_any _ _ _ _).mono ?_; rintro e w' ⟨rfl, rfl⟩)
    go_ret
    exact ⟨rfl, Below.refl _ _⟩
  · have hd : decide (1048576 < len) = false := by simpa using hbig
    have hlen : len ≤ 1048576 := by omega
    go_enter Try.func5, Try.ntmps5
    go_wp2_with (first | (go_at_call 15; refine (big_any _ _ _ _).mono ?_; rintro e w' ⟨rfl, rfl⟩) | (go_at_call 28; refine (drawPutTalk_any a len cap zs _ hr hlen).mono ?_; rintro e w1 ⟨v, s, x, rfl, hst, hsm, hx, hb1⟩; refine Hid.out ?_))
    refine Lib.hid ?_
    have SA := Lib.hid hst
    obtain ⟨vi, vt, rfl, r1, r2⟩ := hst
    obtain ⟨sa, sc, rfl⟩ := slice_row_len r1
    obtain ⟨ta, tc, rfl⟩ := slice_row_len r2
    have R8 := Lib.hid (hr.later hb1)
    clear r1 r2 hr
    have BB : Hid (Below w.heap.size w w1) := Lib.hid hb1
    have Hfew : Hid (Few s) := Lib.hid (hsm.few (by omega) (by omega))
    have Hfit : Hid (Fits s) := Lib.hid hsm.fits
    have Hx : Hid (FitTk x) := Lib.hid ⟨by unfold maxLen; omega, by unfold maxLen; omega, hx.2.2⟩
    obtain ⟨r, hr'⟩ : ∃ r, r = chg s (putST s x) := ⟨_, rfl⟩
    obtain ⟨bq, hbq⟩ : ∃ b, b = chgB s (putST s x) := ⟨_, rfl⟩
    have Hr := Lib.hid hr'
    have Hbq := Lib.hid hbq
    have hrm : Sm r 64 5 := by rw [hr']; exact hsm.putT hx
    have Hrm := Lib.hid hrm
    have Hsm := Lib.hid hsm
    obtain ⟨ni, hni⟩ : ∃ n, n = s.items.length := ⟨_, rfl⟩
    rw [← hni] at SA ⊢
    have Hni := Lib.hid hni
    unfold tkA
    clear hr' hbq hb1 hrm hsm hx hni
    obtain ⟨Y1, hY1⟩ : ∃ zz, zz = w1.alloc (.cells #[.slice sa ni sc, .slice ta s.talks.length tc] 27) := ⟨_, rfl⟩
    have bY1 : Below w1.heap.size w1 Y1 := by rw [hY1]; exact (Below.refl _ _).alloc (Nat.le_refl _) _
    have sY1 : Y1.heap.size = w1.heap.size + 1 := by rw [hY1]; simp
    replace BB := Lib.hid (BB.out.trans (bY1.mono BB.out.size))
    replace SA := Lib.hid (SA.out.later bY1 bY1.size)
    replace R8 := Lib.hid (R8.out.later bY1)
    have KA : Hid (Y1.heap[w1.heap.size]? = some (.cells #[.slice sa ni sc, .slice ta s.talks.length tc] 27 (0, 0))) := Lib.hid (by rw [hY1]; exact heap_new _ _)
    have LA : Hid (w1.heap.size < Y1.heap.size) := Lib.hid (by omega)
    have eY1 : Hid (Y1.heap.size = w1.heap.size + 1) := Lib.hid (by omega)
    clear bY1 sY1
    obtain ⟨Y2, hY2⟩ : ∃ zz, zz = Y1.alloc (.cells #[.string x.c, .int .i64 x.q, .string x.r] 41) := ⟨_, rfl⟩
    have bY2 : Below Y1.heap.size Y1 Y2 := by rw [hY2]; exact (Below.refl _ _).alloc (Nat.le_refl _) _
    have sY2 : Y2.heap.size = Y1.heap.size + 1 := by rw [hY2]; simp
    replace KA := Lib.hid ((bY2.block _ LA.out).trans KA.out)
    replace LA := Lib.hid (Nat.lt_of_lt_of_le LA.out bY2.size)
    replace BB := Lib.hid (BB.out.trans (bY2.mono BB.out.size))
    replace SA := Lib.hid (SA.out.later bY2 bY2.size)
    replace R8 := Lib.hid (R8.out.later bY2)
    have KX : Hid (Y2.heap[w1.heap.size + 1]? = some (.cells #[.string x.c, .int .i64 x.q, .string x.r] 41 (0, 0))) := Lib.hid (by rw [← eY1.out]; rw [hY2]; exact heap_new _ _)
    have LX : Hid (w1.heap.size + 1 < Y2.heap.size) := Lib.hid (by have := eY1.out; omega)
    have eY2 : Hid (Y2.heap.size = w1.heap.size + 2) := Lib.hid (by have := eY1.out; omega)
    clear bY2 sY2
    have hc := impl_putTalk s _ x Y2.heap.size Y2 SA.out (Nat.le_refl _) (Hsm.out.small (by omega) (by omega)) Hfit.out Hx.out
    rw [← Hr.out, ← Hbq.out] at hc
    unfold tkA at hc
    have fA0 := cell_of_row Y2 _ 0 _ _ _ KA.out
    have fA1 := cell_of_row Y2 _ 1 _ _ _ KA.out
    simp only [List.getElem?_toArray, List.getElem?_cons_zero, List.getElem?_cons_succ] at fA0 fA1
    have fX0 := cell_of_row Y2 _ 0 _ _ _ KX.out
    have fX1 := cell_of_row Y2 _ 1 _ _ _ KX.out
    have fX2 := cell_of_row Y2 _ 2 _ _ _ KX.out
    simp only [List.getElem?_toArray, List.getElem?_cons_zero, List.getElem?_cons_succ] at fX0 fX1 fX2
    rw [hY2] at hc fA0 fA1 fX0 fX1 fX2
    rw [hY1] at hc fA0 fA1 fX0 fX1 fX2
    go_wp2_with (go_at_call 29; refine hc.mono ?_; rintro e w2 ⟨_, rfl, ho, hb⟩; refine Hid.out ?_)
    refine Lib.hid ?_
    rw [← hY1] at hb
    rw [← hY2] at hb
    clear fA0 fA1 fX0 fX1 fX2
    replace KA := Lib.hid ((hb.block _ LA.out).trans KA.out)
    replace LA := Lib.hid (Nat.lt_of_lt_of_le LA.out hb.size)
    replace KX := Lib.hid ((hb.block _ LX.out).trans KX.out)
    replace LX := Lib.hid (Nat.lt_of_lt_of_le LX.out hb.size)
    replace BB := Lib.hid (BB.out.trans (hb.mono BB.out.size))
    replace SA := Lib.hid (SA.out.later hb hb.size)
    replace R8 := Lib.hid (R8.out.later hb)
    clear hc hY2 hY1
    have STt := Lib.hid ho.st
    obtain ⟨_, _, ti, tci, tt, tct, rfl, _, ⟨tai, rfl, _⟩, ⟨tat, rfl, sat⟩, _, gT⟩ := ho
    have GT := Lib.hid gT
    have SAT : Hid (NilOr tat tt r.talks.length tct) := Lib.hid sat
    clear gT sat hb
    obtain ⟨Y3, hY3⟩ : ∃ zz, zz = w2.alloc (.cells #[.slice tai r.items.length tci, .slice tat r.talks.length tct] 27) := ⟨_, rfl⟩
    have bY3 : Below w2.heap.size w2 Y3 := by rw [hY3]; exact (Below.refl _ _).alloc (Nat.le_refl _) _
    have sY3 : Y3.heap.size = w2.heap.size + 1 := by rw [hY3]; simp
    replace KA := Lib.hid ((bY3.block _ LA.out).trans KA.out)
    replace LA := Lib.hid (Nat.lt_of_lt_of_le LA.out bY3.size)
    replace KX := Lib.hid ((bY3.block _ LX.out).trans KX.out)
    replace LX := Lib.hid (Nat.lt_of_lt_of_le LX.out bY3.size)
    replace GT := Lib.hid (GT.out.later bY3)
    replace BB := Lib.hid (BB.out.trans (bY3.mono BB.out.size))
    replace SA := Lib.hid (SA.out.later bY3 bY3.size)
    replace STt := Lib.hid (STt.out.later bY3 bY3.size)
    replace R8 := Lib.hid (R8.out.later bY3)
    have KT : Hid (Y3.heap[w2.heap.size]? = some (.cells #[.slice tai r.items.length tci, .slice tat r.talks.length tct] 27 (0, 0))) := Lib.hid (by rw [hY3]; exact heap_new _ _)
    have LT : Hid (w2.heap.size < Y3.heap.size) := Lib.hid (by omega)
    have eY3 : Hid (Y3.heap.size = w2.heap.size + 1) := Lib.hid (by omega)
    clear bY3 sY3
    have hc := spec_putTalkAny s _ x Y3.heap.size Y3 SA.out (Nat.le_refl _) (by have := Hsm.out.2.1; omega) Hfew.out Hfit.out Hx.out
    rw [← Hr.out, ← Hbq.out] at hc
    unfold tkA at hc
    have fA0 := cell_of_row Y3 _ 0 _ _ _ KA.out
    have fA1 := cell_of_row Y3 _ 1 _ _ _ KA.out
    simp only [List.getElem?_toArray, List.getElem?_cons_zero, List.getElem?_cons_succ] at fA0 fA1
    have fX0 := cell_of_row Y3 _ 0 _ _ _ KX.out
    have fX1 := cell_of_row Y3 _ 1 _ _ _ KX.out
    have fX2 := cell_of_row Y3 _ 2 _ _ _ KX.out
    simp only [List.getElem?_toArray, List.getElem?_cons_zero, List.getElem?_cons_succ] at fX0 fX1 fX2
    rw [hY3] at hc fA0 fA1 fX0 fX1 fX2
    go_wp2_with (go_at_call 30; refine hc.mono ?_; rintro e w3 ⟨_, rfl, ho, hb⟩; refine Hid.out ?_)
    refine Lib.hid ?_
    rw [← hY3] at hb
    clear fA0 fA1 fX0 fX1 fX2
    replace KA := Lib.hid ((hb.block _ LA.out).trans KA.out)
    replace LA := Lib.hid (Nat.lt_of_lt_of_le LA.out hb.size)
    replace KX := Lib.hid ((hb.block _ LX.out).trans KX.out)
    replace LX := Lib.hid (Nat.lt_of_lt_of_le LX.out hb.size)
    replace KT := Lib.hid ((hb.block _ LT.out).trans KT.out)
    replace LT := Lib.hid (Nat.lt_of_lt_of_le LT.out hb.size)
    replace GT := Lib.hid (GT.out.later hb)
    replace BB := Lib.hid (BB.out.trans (hb.mono BB.out.size))
    replace SA := Lib.hid (SA.out.later hb hb.size)
    replace STt := Lib.hid (STt.out.later hb hb.size)
    replace R8 := Lib.hid (R8.out.later hb)
    clear hc hY3
    have SW := Lib.hid ho.n.st
    obtain ⟨gi, gci, gt, gct, rfl, _, _, _⟩ := ho
    clear hb
    obtain ⟨Y4, hY4⟩ : ∃ zz, zz = w3.alloc (.cells #[.slice (some ⟨gi, 0, none⟩) r.items.length gci, .slice (some ⟨gt, 0, none⟩) r.talks.length gct] 27) := ⟨_, rfl⟩
    have bY4 : Below w3.heap.size w3 Y4 := by rw [hY4]; exact (Below.refl _ _).alloc (Nat.le_refl _) _
    have sY4 : Y4.heap.size = w3.heap.size + 1 := by rw [hY4]; simp
    replace KA := Lib.hid ((bY4.block _ LA.out).trans KA.out)
    replace LA := Lib.hid (Nat.lt_of_lt_of_le LA.out bY4.size)
    replace KX := Lib.hid ((bY4.block _ LX.out).trans KX.out)
    replace LX := Lib.hid (Nat.lt_of_lt_of_le LX.out bY4.size)
    replace KT := Lib.hid ((bY4.block _ LT.out).trans KT.out)
    replace LT := Lib.hid (Nat.lt_of_lt_of_le LT.out bY4.size)
    replace GT := Lib.hid (GT.out.later bY4)
    replace BB := Lib.hid (BB.out.trans (bY4.mono BB.out.size))
    replace SA := Lib.hid (SA.out.later bY4 bY4.size)
    replace STt := Lib.hid (STt.out.later bY4 bY4.size)
    replace SW := Lib.hid (SW.out.later bY4 bY4.size)
    replace R8 := Lib.hid (R8.out.later bY4)
    have KW : Hid (Y4.heap[w3.heap.size]? = some (.cells #[.slice (some ⟨gi, 0, none⟩) r.items.length gci, .slice (some ⟨gt, 0, none⟩) r.talks.length gct] 27 (0, 0))) := Lib.hid (by rw [hY4]; exact heap_new _ _)
    have LW : Hid (w3.heap.size < Y4.heap.size) := Lib.hid (by omega)
    have eY4 : Hid (Y4.heap.size = w3.heap.size + 1) := Lib.hid (by omega)
    clear bY4 sY4
    have hc := drawTalkAt_any a len cap zs Y4 R8.out hlen
    rw [hY4] at hc 
    go_wp2_with (go_at_call 31; refine hc.mono ?_; rintro e w4 ⟨v, u, key, rfl, hst, hum, hk, hb⟩; refine Hid.out ?_)
    refine Lib.hid ?_
    rw [← hY4] at hb
    replace KA := Lib.hid ((hb.block _ LA.out).trans KA.out)
    replace LA := Lib.hid (Nat.lt_of_lt_of_le LA.out hb.size)
    replace KX := Lib.hid ((hb.block _ LX.out).trans KX.out)
    replace LX := Lib.hid (Nat.lt_of_lt_of_le LX.out hb.size)
    replace KT := Lib.hid ((hb.block _ LT.out).trans KT.out)
    replace LT := Lib.hid (Nat.lt_of_lt_of_le LT.out hb.size)
    replace KW := Lib.hid ((hb.block _ LW.out).trans KW.out)
    replace LW := Lib.hid (Nat.lt_of_lt_of_le LW.out hb.size)
    replace GT := Lib.hid (GT.out.later hb)
    replace BB := Lib.hid (BB.out.trans (hb.mono BB.out.size))
    replace SA := Lib.hid (SA.out.later hb hb.size)
    replace STt := Lib.hid (STt.out.later hb hb.size)
    replace SW := Lib.hid (SW.out.later hb hb.size)
    replace R8 := Lib.hid (R8.out.later hb)
    clear hc hY4
    have SU := Lib.hid hst
    obtain ⟨vi, vt, rfl, r1, r2⟩ := hst
    obtain ⟨ua, uc, rfl⟩ := slice_row_len r1
    obtain ⟨va, vc, rfl⟩ := slice_row_len r2
    have Hum := Lib.hid hum
    have HK : Hid (key.size ≤ maxLen) := Lib.hid (by unfold maxLen; omega)
    clear r1 r2 hb hum hk R8
    obtain ⟨Y5, hY5⟩ : ∃ zz, zz = w4.alloc (.cells #[.slice ua u.items.length uc, .slice va u.talks.length vc] 27) := ⟨_, rfl⟩
    have bY5 : Below w4.heap.size w4 Y5 := by rw [hY5]; exact (Below.refl _ _).alloc (Nat.le_refl _) _
    have sY5 : Y5.heap.size = w4.heap.size + 1 := by rw [hY5]; simp
    replace KA := Lib.hid ((bY5.block _ LA.out).trans KA.out)
    replace LA := Lib.hid (Nat.lt_of_lt_of_le LA.out bY5.size)
    replace KX := Lib.hid ((bY5.block _ LX.out).trans KX.out)
    replace LX := Lib.hid (Nat.lt_of_lt_of_le LX.out bY5.size)
    replace KT := Lib.hid ((bY5.block _ LT.out).trans KT.out)
    replace LT := Lib.hid (Nat.lt_of_lt_of_le LT.out bY5.size)
    replace KW := Lib.hid ((bY5.block _ LW.out).trans KW.out)
    replace LW := Lib.hid (Nat.lt_of_lt_of_le LW.out bY5.size)
    replace GT := Lib.hid (GT.out.later bY5)
    replace BB := Lib.hid (BB.out.trans (bY5.mono BB.out.size))
    replace SA := Lib.hid (SA.out.later bY5 bY5.size)
    replace STt := Lib.hid (STt.out.later bY5 bY5.size)
    replace SW := Lib.hid (SW.out.later bY5 bY5.size)
    replace SU := Lib.hid (SU.out.later bY5 bY5.size)
    have KU : Hid (Y5.heap[w4.heap.size]? = some (.cells #[.slice ua u.items.length uc, .slice va u.talks.length vc] 27 (0, 0))) := Lib.hid (by rw [hY5]; exact heap_new _ _)
    have LU : Hid (w4.heap.size < Y5.heap.size) := Lib.hid (by omega)
    have eY5 : Hid (Y5.heap.size = w4.heap.size + 1) := Lib.hid (by omega)
    clear bY5 sY5
    go_wp2_with fail
    rw [← hY5]
    clear hY5
    have hbb : (bq != bq) = false := by simp
    obtain ⟨ki, hki⟩ : ∃ i, i = talkAt u.talks key := ⟨_, rfl⟩
    have Hki := Lib.hid hki
    have hkk : (ki != ki) = false := by simp
    clear hki
    obtain ⟨zD, hzD⟩ : ∃ z, z = Y5.drew := ⟨_, rfl⟩
    have bzD : Below Y5.heap.size Y5 zD := by rw [hzD]; exact (Below.refl _ _).drew
    replace KA := Lib.hid ((bzD.block _ LA.out).trans KA.out)
    replace LA := Lib.hid (Nat.lt_of_lt_of_le LA.out bzD.size)
    replace KX := Lib.hid ((bzD.block _ LX.out).trans KX.out)
    replace LX := Lib.hid (Nat.lt_of_lt_of_le LX.out bzD.size)
    replace KT := Lib.hid ((bzD.block _ LT.out).trans KT.out)
    replace LT := Lib.hid (Nat.lt_of_lt_of_le LT.out bzD.size)
    replace KW := Lib.hid ((bzD.block _ LW.out).trans KW.out)
    replace LW := Lib.hid (Nat.lt_of_lt_of_le LW.out bzD.size)
    replace KU := Lib.hid ((bzD.block _ LU.out).trans KU.out)
    replace LU := Lib.hid (Nat.lt_of_lt_of_le LU.out bzD.size)
    replace GT := Lib.hid (GT.out.later bzD)
    replace BB := Lib.hid (BB.out.trans (bzD.mono BB.out.size))
    replace SA := Lib.hid (SA.out.later bzD bzD.size)
    replace STt := Lib.hid (STt.out.later bzD bzD.size)
    replace SW := Lib.hid (SW.out.later bzD bzD.size)
    replace SU := Lib.hid (SU.out.later bzD bzD.size)
    refine wp_region_held_drew (S := (fun w' => w'.cell? ⟨w2.heap.size, 0, none⟩ = some (.slice tai r.items.length tci) ∧ w'.cell? ⟨w2.heap.size, 1, none⟩ = some (.slice tat r.talks.length tct) ∧ w'.cell? ⟨w3.heap.size, 0, none⟩ = some (.slice (some ⟨gi, 0, none⟩) r.items.length gci) ∧ w'.cell? ⟨w3.heap.size, 1, none⟩ = some (.slice (some ⟨gt, 0, none⟩) r.talks.length gct) ∧ w'.cell? ⟨w4.heap.size, 0, none⟩ = some (.slice ua u.items.length uc) ∧ w'.cell? ⟨w4.heap.size, 1, none⟩ = some (.slice va u.talks.length vc))) (by kernel_rfl) (by rw [← hzD]; exact ⟨(by simpa using cell_of_row zD _ 0 _ _ _ KT.out), (by simpa using cell_of_row zD _ 1 _ _ _ KT.out), (by simpa using cell_of_row zD _ 0 _ _ _ KW.out), (by simpa using cell_of_row zD _ 1 _ _ _ KW.out), (by simpa using cell_of_row zD _ 0 _ _ _ KU.out), (by simpa using cell_of_row zD _ 1 _ _ _ KU.out)⟩) (fun hHeld => ?_)
    rw [← hzD] at hHeld ⊢
    have bzE := Lib.hid bzD
    clear bzD hzD
    refine wpAnyH_take (i := 0) (v := ?_) rfl (by kernel_rfl) (by kernel_rfl) (by kernel_rfl) (fun _ _ _ h => h) ?_ (by assumption) ?_
    rotate_left
    · first | (refine Or.inl ⟨by rfl, ?_⟩; intro w hSw; go_simp; done) | (refine Or.inl ⟨by rfl, ?_⟩; intro w hSw; go_simp; with_reducible rfl)
    try simp only [List.getElem_toArray, List.getElem_cons_zero, Act.put, List.setIfInBounds_toArray, List.set_cons_zero, List.set_cons_succ]
    refine wpAnyH_take (i := 1) (v := ?_) rfl (by kernel_rfl) (by kernel_rfl) (by kernel_rfl) (fun _ _ _ h => h) ?_ (by assumption) ?_
    rotate_left
    · first | (refine Or.inl ⟨by rfl, ?_⟩; intro w hSw; go_simp; done) | (refine Or.inl ⟨by rfl, ?_⟩; intro w hSw; go_simp; with_reducible rfl)
    try simp only [List.getElem_toArray, List.getElem_cons_zero, List.getElem_cons_succ, Act.put, List.setIfInBounds_toArray, List.set_cons_zero, List.set_cons_succ]
    refine wpAnyH_take (i := 2) (v := ?_) rfl (by kernel_rfl) (by kernel_rfl) (by kernel_rfl) (fun _ _ _ h => h) ?_ (by assumption) ?_
    rotate_left
    · first | (refine Or.inl ⟨by rfl, ?_⟩; intro w hSw; go_simp; done) | (refine Or.inl ⟨by rfl, ?_⟩; intro w hSw; go_simp; with_reducible rfl)
    try simp only [List.getElem_toArray, List.getElem_cons_zero, List.getElem_cons_succ, Act.put, List.setIfInBounds_toArray, List.set_cons_zero, List.set_cons_succ]
    refine wpAnyH_take (i := 3) (v := ?_) rfl (by kernel_rfl) (by kernel_rfl) (by kernel_rfl) (fun _ _ _ h => h) ?_ (by assumption) ?_
    rotate_left
    · first | (refine Or.inl ⟨by rfl, ?_⟩; intro w hSw; go_simp; done) | (refine Or.inl ⟨by rfl, ?_⟩; intro w hSw; go_simp; with_reducible rfl)
    try simp only [List.getElem_toArray, List.getElem_cons_zero, List.getElem_cons_succ, Act.put, List.setIfInBounds_toArray, List.set_cons_zero, List.set_cons_succ]
    refine wpAnyH_take (i := 4) (v := ?_) rfl (by kernel_rfl) (by kernel_rfl) (by kernel_rfl) (fun _ _ _ h => h) ?_ (by assumption) ?_
    rotate_left
    · first | (refine Or.inl ⟨by rfl, ?_⟩; intro w hSw; obtain ⟨hS0, hS1, hS2, hS3, hS4, hS5⟩ := hSw; go_simp; done) | (refine Or.inl ⟨by rfl, ?_⟩; intro w hSw; obtain ⟨hS0, hS1, hS2, hS3, hS4, hS5⟩ := hSw; go_simp; with_reducible rfl)
    try simp only [List.getElem_toArray, List.getElem_cons_zero, List.getElem_cons_succ, Act.put, List.setIfInBounds_toArray, List.set_cons_zero, List.set_cons_succ]
    refine wpAnyH_take (i := 5) (v := ?_) rfl (by kernel_rfl) (by kernel_rfl) (by kernel_rfl) (fun _ _ _ h => h) ?_ (by assumption) ?_
    rotate_left
    · first | (refine Or.inl ⟨by rfl, ?_⟩; intro w hSw; obtain ⟨hS0, hS1, hS2, hS3, hS4, hS5⟩ := hSw; go_simp; done) | (refine Or.inl ⟨by rfl, ?_⟩; intro w hSw; obtain ⟨hS0, hS1, hS2, hS3, hS4, hS5⟩ := hSw; go_simp; with_reducible rfl)
    try simp only [List.getElem_toArray, List.getElem_cons_zero, List.getElem_cons_succ, Act.put, List.setIfInBounds_toArray, List.set_cons_zero, List.set_cons_succ]
    refine wpAnyH_ready (rs := [6]) (by kernel_rfl) (by simp) ?_
    refine AllReadyH.cons rfl (fun K hK => ?_) AllReadyH.nil
    go_simp
    go_at_call 19
    refine (spec_same r r _ _ zD.heap.size zD STt.out.rd SW.out.rd (Nat.le_refl _)).mono ?_
    rintro e w5 ⟨bb, rfl, hbe, hb⟩
    obtain rfl : bb = true := hbe.2 rfl
    replace KA := Lib.hid ((hb.block _ LA.out).trans KA.out)
    replace LA := Lib.hid (Nat.lt_of_lt_of_le LA.out hb.size)
    replace KX := Lib.hid ((hb.block _ LX.out).trans KX.out)
    replace LX := Lib.hid (Nat.lt_of_lt_of_le LX.out hb.size)
    replace KT := Lib.hid ((hb.block _ LT.out).trans KT.out)
    replace LT := Lib.hid (Nat.lt_of_lt_of_le LT.out hb.size)
    replace KW := Lib.hid ((hb.block _ LW.out).trans KW.out)
    replace LW := Lib.hid (Nat.lt_of_lt_of_le LW.out hb.size)
    replace KU := Lib.hid ((hb.block _ LU.out).trans KU.out)
    replace LU := Lib.hid (Nat.lt_of_lt_of_le LU.out hb.size)
    replace GT := Lib.hid (GT.out.later hb)
    replace BB := Lib.hid (BB.out.trans (hb.mono BB.out.size))
    replace SA := Lib.hid (SA.out.later hb hb.size)
    replace STt := Lib.hid (STt.out.later hb hb.size)
    replace SW := Lib.hid (SW.out.later hb hb.size)
    replace SU := Lib.hid (SU.out.later hb hb.size)
    clear hb hbe
    go_wp2_with fail
    refine hK.out _ _ ⟨(by simpa using cell_of_row w5 _ 0 _ _ _ KT.out), (by simpa using cell_of_row w5 _ 1 _ _ _ KT.out), (by simpa using cell_of_row w5 _ 0 _ _ _ KW.out), (by simpa using cell_of_row w5 _ 1 _ _ _ KW.out), (by simpa using cell_of_row w5 _ 0 _ _ _ KU.out), (by simpa using cell_of_row w5 _ 1 _ _ _ KU.out)⟩ (fun hHeld => ?_)
    clear hK K
    try simp only [List.getElem_toArray, List.getElem_cons_zero, List.getElem_cons_succ, Act.put, List.setIfInBounds_toArray, List.set_cons_zero, List.set_cons_succ]
    refine wpAnyH_take (i := 7) (v := ?_) rfl (by kernel_rfl) (by kernel_rfl) (by kernel_rfl) (fun _ _ _ h => h) ?_ (by assumption) ?_
    rotate_left
    · first | (refine Or.inl ⟨by rfl, ?_⟩; intro w hSw; go_simp; done) | (refine Or.inl ⟨by rfl, ?_⟩; intro w hSw; go_simp; with_reducible rfl)
    try simp only [List.getElem_toArray, List.getElem_cons_zero, List.getElem_cons_succ, Act.put, List.setIfInBounds_toArray, List.set_cons_zero, List.set_cons_succ]
    refine wpAnyH_take (i := 8) (v := ?_) rfl (by kernel_rfl) (by kernel_rfl) (by kernel_rfl) (fun _ _ _ h => h) ?_ (by assumption) ?_
    rotate_left
    · first | (refine Or.inl ⟨by rfl, ?_⟩; intro w hSw; go_simp; done) | (refine Or.inl ⟨by rfl, ?_⟩; intro w hSw; go_simp; with_reducible rfl)
    try simp only [List.getElem_toArray, List.getElem_cons_zero, List.getElem_cons_succ, Act.put, List.setIfInBounds_toArray, List.set_cons_zero, List.set_cons_succ]
    refine wpAnyH_take (i := 9) (v := ?_) rfl (by kernel_rfl) (by kernel_rfl) (by kernel_rfl) (fun _ _ _ h => h) ?_ (by assumption) ?_
    rotate_left
    · first | (refine Or.inl ⟨by rfl, ?_⟩; intro w hSw; go_simp; done) | (refine Or.inl ⟨by rfl, ?_⟩; intro w hSw; go_simp; with_reducible rfl)
    try simp only [List.getElem_toArray, List.getElem_cons_zero, List.getElem_cons_succ, Act.put, List.setIfInBounds_toArray, List.set_cons_zero, List.set_cons_succ]
    refine wpAnyH_take (i := 10) (v := ?_) rfl (by kernel_rfl) (by kernel_rfl) (by kernel_rfl) (fun _ _ _ h => h) ?_ (by assumption) ?_
    rotate_left
    · first | (refine Or.inl ⟨by rfl, ?_⟩; intro w hSw; obtain ⟨hS0, hS1, hS2, hS3, hS4, hS5⟩ := hSw; go_simp; done) | (refine Or.inl ⟨by rfl, ?_⟩; intro w hSw; obtain ⟨hS0, hS1, hS2, hS3, hS4, hS5⟩ := hSw; go_simp; with_reducible rfl)
    try simp only [List.getElem_toArray, List.getElem_cons_zero, List.getElem_cons_succ, Act.put, List.setIfInBounds_toArray, List.set_cons_zero, List.set_cons_succ]
    refine wpAnyH_take (i := 11) (v := ?_) rfl (by kernel_rfl) (by kernel_rfl) (by kernel_rfl) (fun _ _ _ h => h) ?_ (by assumption) ?_
    rotate_left
    · first | (refine Or.inl ⟨by rfl, ?_⟩; intro w hSw; go_simp; done) | (refine Or.inl ⟨by rfl, ?_⟩; intro w hSw; go_simp; with_reducible rfl)
    try simp only [List.getElem_toArray, List.getElem_cons_zero, List.getElem_cons_succ, Act.put, List.setIfInBounds_toArray, List.set_cons_zero, List.set_cons_succ]
    refine wpAnyH_take (i := 13) (v := ?_) rfl (by kernel_rfl) (by kernel_rfl) (by kernel_rfl) (fun _ _ _ h => h) ?_ (by assumption) ?_
    rotate_left
    · first | (refine Or.inl ⟨by rfl, ?_⟩; intro w hSw; obtain ⟨hS0, hS1, hS2, hS3, hS4, hS5⟩ := hSw; go_simp; done) | (refine Or.inl ⟨by rfl, ?_⟩; intro w hSw; obtain ⟨hS0, hS1, hS2, hS3, hS4, hS5⟩ := hSw; go_simp; with_reducible rfl)
    try simp only [List.getElem_toArray, List.getElem_cons_zero, List.getElem_cons_succ, Act.put, List.setIfInBounds_toArray, List.set_cons_zero, List.set_cons_succ]
    refine wpAnyH_take (i := 14) (v := ?_) rfl (by kernel_rfl) (by kernel_rfl) (by kernel_rfl) (fun _ _ _ h => h) ?_ (by assumption) ?_
    rotate_left
    · first | (refine Or.inl ⟨by rfl, ?_⟩; intro w hSw; go_simp; done) | (refine Or.inl ⟨by rfl, ?_⟩; intro w hSw; go_simp; with_reducible rfl)
    try simp only [List.getElem_toArray, List.getElem_cons_zero, List.getElem_cons_succ, Act.put, List.setIfInBounds_toArray, List.set_cons_zero, List.set_cons_succ]
    refine wpAnyH_ready (rs := [12]) (by kernel_rfl) (by simp) ?_
    refine AllReadyH.cons rfl (fun K hK => ?_) AllReadyH.nil
    go_simp
    have hc := impl_talkAt u _ w5.heap.size key w5 SU.out (Nat.le_refl _) Hum.out.fits HK.out
    rw [← Hki.out] at hc
    go_at_call 32
    refine (hc).mono ?_
    rintro e w6 ⟨rfl, hb⟩
    replace KA := Lib.hid ((hb.block _ LA.out).trans KA.out)
    replace LA := Lib.hid (Nat.lt_of_lt_of_le LA.out hb.size)
    replace KX := Lib.hid ((hb.block _ LX.out).trans KX.out)
    replace LX := Lib.hid (Nat.lt_of_lt_of_le LX.out hb.size)
    replace KT := Lib.hid ((hb.block _ LT.out).trans KT.out)
    replace LT := Lib.hid (Nat.lt_of_lt_of_le LT.out hb.size)
    replace KW := Lib.hid ((hb.block _ LW.out).trans KW.out)
    replace LW := Lib.hid (Nat.lt_of_lt_of_le LW.out hb.size)
    replace KU := Lib.hid ((hb.block _ LU.out).trans KU.out)
    replace LU := Lib.hid (Nat.lt_of_lt_of_le LU.out hb.size)
    replace GT := Lib.hid (GT.out.later hb)
    replace BB := Lib.hid (BB.out.trans (hb.mono BB.out.size))
    replace SA := Lib.hid (SA.out.later hb hb.size)
    replace STt := Lib.hid (STt.out.later hb hb.size)
    replace SW := Lib.hid (SW.out.later hb hb.size)
    replace SU := Lib.hid (SU.out.later hb hb.size)
    clear hb
    clear hc
    go_wp2_with fail
    refine hK.out _ _ ⟨(by simpa using cell_of_row w6 _ 0 _ _ _ KT.out), (by simpa using cell_of_row w6 _ 1 _ _ _ KT.out), (by simpa using cell_of_row w6 _ 0 _ _ _ KW.out), (by simpa using cell_of_row w6 _ 1 _ _ _ KW.out), (by simpa using cell_of_row w6 _ 0 _ _ _ KU.out), (by simpa using cell_of_row w6 _ 1 _ _ _ KU.out)⟩ (fun hHeld => ?_)
    clear hK K
    try simp only [List.getElem_toArray, List.getElem_cons_zero, List.getElem_cons_succ, Act.put, List.setIfInBounds_toArray, List.set_cons_zero, List.set_cons_succ]
    refine wpAnyH_ready (rs := [15]) (by kernel_rfl) (by simp) ?_
    refine AllReadyH.cons rfl (fun K hK => ?_) AllReadyH.nil
    go_simp
    have hc := spec_talkAt u _ w6.heap.size key w6 SU.out (Nat.le_refl _)
    rw [← Hki.out] at hc
    go_at_call 33
    refine (hc).mono ?_
    rintro e w7 ⟨rfl, hb⟩
    replace KA := Lib.hid ((hb.block _ LA.out).trans KA.out)
    replace LA := Lib.hid (Nat.lt_of_lt_of_le LA.out hb.size)
    replace KX := Lib.hid ((hb.block _ LX.out).trans KX.out)
    replace LX := Lib.hid (Nat.lt_of_lt_of_le LX.out hb.size)
    replace KT := Lib.hid ((hb.block _ LT.out).trans KT.out)
    replace LT := Lib.hid (Nat.lt_of_lt_of_le LT.out hb.size)
    replace KW := Lib.hid ((hb.block _ LW.out).trans KW.out)
    replace LW := Lib.hid (Nat.lt_of_lt_of_le LW.out hb.size)
    replace KU := Lib.hid ((hb.block _ LU.out).trans KU.out)
    replace LU := Lib.hid (Nat.lt_of_lt_of_le LU.out hb.size)
    replace GT := Lib.hid (GT.out.later hb)
    replace BB := Lib.hid (BB.out.trans (hb.mono BB.out.size))
    replace SA := Lib.hid (SA.out.later hb hb.size)
    replace STt := Lib.hid (STt.out.later hb hb.size)
    replace SW := Lib.hid (SW.out.later hb hb.size)
    replace SU := Lib.hid (SU.out.later hb hb.size)
    clear hb
    clear hc
    go_wp2_with fail
    refine hK.out _ _ ⟨(by simpa using cell_of_row w7 _ 0 _ _ _ KT.out), (by simpa using cell_of_row w7 _ 1 _ _ _ KT.out), (by simpa using cell_of_row w7 _ 0 _ _ _ KW.out), (by simpa using cell_of_row w7 _ 1 _ _ _ KW.out), (by simpa using cell_of_row w7 _ 0 _ _ _ KU.out), (by simpa using cell_of_row w7 _ 1 _ _ _ KU.out)⟩ (fun hHeld => ?_)
    clear hK K
    try simp only [List.getElem_toArray, List.getElem_cons_zero, List.getElem_cons_succ, Act.put, List.setIfInBounds_toArray, List.set_cons_zero, List.set_cons_succ]
    refine wpAnyH_take (i := 16) (v := ?_) rfl (by kernel_rfl) (by kernel_rfl) (by kernel_rfl) (fun _ _ _ h => h) ?_ (by assumption) ?_
    rotate_left
    · first | (refine Or.inl ⟨by rfl, ?_⟩; intro w hSw; go_simp; done) | (refine Or.inl ⟨by rfl, ?_⟩; intro w hSw; go_simp; with_reducible rfl)
    try simp only [List.getElem_toArray, List.getElem_cons_zero, List.getElem_cons_succ, Act.put, List.setIfInBounds_toArray, List.set_cons_zero, List.set_cons_succ]
    refine wpAnyH_take (i := 17) (v := ?_) rfl (by kernel_rfl) (by kernel_rfl) (by kernel_rfl) (fun _ _ _ h => h) ?_ (by assumption) ?_
    rotate_left
    · first | (refine Or.inl ⟨by rfl, ?_⟩; intro w hSw; go_simp; done) | (refine Or.inl ⟨by rfl, ?_⟩; intro w hSw; go_simp; with_reducible rfl)
    try simp only [List.getElem_toArray, List.getElem_cons_zero, List.getElem_cons_succ, Act.put, List.setIfInBounds_toArray, List.set_cons_zero, List.set_cons_succ]
    refine wpAnyH_done (by kernel_rfl) ?_ _
    clear hHeld
    clear hbb hkk
    cases bq
    case false =>
      have Heq : Hid (r = s) := Lib.hid (by rw [Hr.out]; exact chg_not Hbq.out.symm)
      have fA0 := cell_of_row w7 _ 0 _ _ _ KA.out
      have fA1 := cell_of_row w7 _ 1 _ _ _ KA.out
      simp only [List.getElem?_toArray, List.getElem?_cons_zero, List.getElem?_cons_succ] at fA0 fA1
      have fT0 := cell_of_row w7 _ 0 _ _ _ KT.out
      have fT1 := cell_of_row w7 _ 1 _ _ _ KT.out
      simp only [List.getElem?_toArray, List.getElem?_cons_zero, List.getElem?_cons_succ] at fT0 fT1
      have hc := spec_same r s _ _ w7.heap.size w7 STt.out.rd SA.out.rd (Nat.le_refl _)
      go_wp2_with (go_at_call 19; refine hc.mono ?_; rintro e w8 ⟨bb, rfl, hbe, hb⟩; refine Hid.out ?_)
      refine Lib.hid ?_
      obtain rfl : bb = true := hbe.2 Heq.out
      go_wp2
      go_ret
      exact ⟨rfl, BB.out.trans (hb.mono BB.out.size)⟩
    case true =>
      have hq := Hbq.out.symm
      have hrp : r = putST s x := by rw [Hr.out]; exact chg_of hq
      obtain ⟨iN, hi, e1, e2, e3, e4⟩ := talk_facts hq
      have hok := (chgB_both hq).2
      rw [← hrp] at e1 e4 hok
      have hi' : iN < r.talks.length := by rw [hrp]; exact hi
      have e5 : ∃ h : iN < r.talks.length, r.talks[iN] = x := ⟨hi', by simp only [hrp]; exact e2⟩
      have e6 : ∀ j (hj : j < r.talks.length), r.talks[j].c = x.c ↔ j = iN := by subst hrp; exact e3
      obtain rfl : tat = some ⟨tt, 0, none⟩ := by
        rcases SAT.out with h | ⟨_, h, _⟩
        · exact h
        · omega
      have E1 := Lib.hid e1
      have Hok := Lib.hid hok
      have Hi := Lib.hid hi'
      have E5 := Lib.hid e5
      have E6 := Lib.hid e6
      have HxS : Hid (x.c.size ≤ maxLen) := Lib.hid Hx.out.1
      have hln : r.items.length = ni := by rw [Hni.out, e4]
      have Hln := Lib.hid hln
      clear hq hrp hi e1 e2 e3 e4 hok hi' e5 e6 SAT hln
      have hc := spec_talkAt r _ w7.heap.size x.c w7 STt.out (Nat.le_refl _)
      rw [E1.out] at hc
      have fT0 := cell_of_row w7 _ 0 _ _ _ KT.out
      have fT1 := cell_of_row w7 _ 1 _ _ _ KT.out
      simp only [List.getElem?_toArray, List.getElem?_cons_zero, List.getElem?_cons_succ] at fT0 fT1
      have fX0 := cell_of_row w7 _ 0 _ _ _ KX.out
      have fX1 := cell_of_row w7 _ 1 _ _ _ KX.out
      have fX2 := cell_of_row w7 _ 2 _ _ _ KX.out
      simp only [List.getElem?_toArray, List.getElem?_cons_zero, List.getElem?_cons_succ] at fX0 fX1 fX2
      go_wp2_with (go_at_call 33; refine hc.mono ?_; rintro e w8 ⟨rfl, hb⟩; refine Hid.out ?_)
      refine Lib.hid ?_
      clear fT0 fT1 fX0 fX1 fX2
      replace KA := Lib.hid ((hb.block _ LA.out).trans KA.out)
      replace LA := Lib.hid (Nat.lt_of_lt_of_le LA.out hb.size)
      replace KX := Lib.hid ((hb.block _ LX.out).trans KX.out)
      replace LX := Lib.hid (Nat.lt_of_lt_of_le LX.out hb.size)
      replace KT := Lib.hid ((hb.block _ LT.out).trans KT.out)
      replace LT := Lib.hid (Nat.lt_of_lt_of_le LT.out hb.size)
      replace KW := Lib.hid ((hb.block _ LW.out).trans KW.out)
      replace LW := Lib.hid (Nat.lt_of_lt_of_le LW.out hb.size)
      replace KU := Lib.hid ((hb.block _ LU.out).trans KU.out)
      replace LU := Lib.hid (Nat.lt_of_lt_of_le LU.out hb.size)
      replace GT := Lib.hid (GT.out.later hb)
      replace BB := Lib.hid (BB.out.trans (hb.mono BB.out.size))
      replace SA := Lib.hid (SA.out.later hb hb.size)
      replace STt := Lib.hid (STt.out.later hb hb.size)
      replace SW := Lib.hid (SW.out.later hb hb.size)
      replace SU := Lib.hid (SU.out.later hb hb.size)
      clear hc
      clear hb
      have HTK : Hid (∀ z B0, Got z B0 41 3 tt r.talks.length tct (r.talks.flatMap tkC) → ∀ j (hj : j < r.talks.length), z.cell? ⟨tt, j * 3, none⟩ = some (.string r.talks[j].c) ∧ z.cell? ⟨tt, j * 3 + 1, none⟩ = some (.int .i64 r.talks[j].q) ∧ z.cell? ⟨tt, j * 3 + 2, none⟩ = some (.string r.talks[j].r)) := Lib.hid (fun z B0 hg j hj => by
        have hown := hg.2.2.2.2.2.resolve_left (by omega)
        have hA : At z tt 0 (r.talks.flatMap tkC) := fun m u hu => by have h := hown.cells (g := tt) rfl m u hu; rwa [add_flat] at h
        have := hA.talk j hj
        simpa using this)
      obtain ⟨N, hN⟩ : ∃ n, n = r.talks.length := ⟨_, rfl⟩
      have HN := Lib.hid hN
      have hNb : N ≤ 5 := by have := Hrm.out.2.1; omega
      clear hN
      have fT0 := cell_of_row w8 _ 0 _ _ _ KT.out
      have fT1 := cell_of_row w8 _ 1 _ _ _ KT.out
      simp only [List.getElem?_toArray, List.getElem?_cons_zero, List.getElem?_cons_succ] at fT0 fT1
      go_wp2_with fail
      clear fT0 fT1
      go_loopw [12, 13] (fun m i wr => ∃ k : Nat, k ≤ N ∧ i = .int .i64 k ∧ (∃ mm : Int, m = .int .i64 mm ∧ Hid (mm = if iN < k then 1 else 0)) ∧ Hid (Below w8.heap.size w8 wr)) (fun _ i _ => N - (intOf i).toNat)
      case atStart => exact ⟨0, Nat.zero_le _, rfl, ⟨0, rfl, Lib.hid (by simp)⟩, Lib.hid (Below.refl _ _)⟩
      case round =>
        obtain ⟨k, hk, rfl, ⟨mm, rfl, Hmm⟩, hbw⟩ := hrel
        replace KA := Lib.hid ((hbw.out.block _ LA.out).trans KA.out)
        replace LA := Lib.hid (Nat.lt_of_lt_of_le LA.out hbw.out.size)
        replace KX := Lib.hid ((hbw.out.block _ LX.out).trans KX.out)
        replace LX := Lib.hid (Nat.lt_of_lt_of_le LX.out hbw.out.size)
        replace KT := Lib.hid ((hbw.out.block _ LT.out).trans KT.out)
        replace LT := Lib.hid (Nat.lt_of_lt_of_le LT.out hbw.out.size)
        replace KW := Lib.hid ((hbw.out.block _ LW.out).trans KW.out)
        replace LW := Lib.hid (Nat.lt_of_lt_of_le LW.out hbw.out.size)
        replace KU := Lib.hid ((hbw.out.block _ LU.out).trans KU.out)
        replace LU := Lib.hid (Nat.lt_of_lt_of_le LU.out hbw.out.size)
        replace GT := Lib.hid (GT.out.later hbw.out)
        replace BB := Lib.hid (BB.out.trans (hbw.out.mono BB.out.size))
        replace SA := Lib.hid (SA.out.later hbw.out hbw.out.size)
        replace STt := Lib.hid (STt.out.later hbw.out hbw.out.size)
        replace SW := Lib.hid (SW.out.later hbw.out hbw.out.size)
        replace SU := Lib.hid (SU.out.later hbw.out hbw.out.size)
        by_cases hlt : k < N
        · have hlt' : (k : Int) < (r.talks.length : Int) := by have := HN.out; omega
          have hkl : k < r.talks.length := by have := HN.out; omega
          have HEL : Hid (∀ z B0, Got z B0 41 3 tt r.talks.length tct (r.talks.flatMap tkC) → z.cell? ⟨tt, k * 3, none⟩ = some (.string r.talks[k].c)) := Lib.hid (fun z B0 hg => (HTK.out z B0 hg k hkl).1)
          obtain ⟨yc, hyc⟩ : ∃ y, y = r.talks[k].c := ⟨_, rfl⟩
          rw [← hyc] at HEL
          have Hyc : Hid (yc = x.c ↔ k = iN) := Lib.hid (by rw [hyc]; exact E6.out k hkl)
          clear hyc hkl
          have fT0 := cell_of_row wr _ 0 _ _ _ KT.out
          have fT1 := cell_of_row wr _ 1 _ _ _ KT.out
          simp only [List.getElem?_toArray, List.getElem?_cons_zero, List.getElem?_cons_succ] at fT0 fT1
          go_wp2_with fail
          clear fT0 fT1
          by_cases he : yc = x.c
          · have hki : k = iN := Hyc.out.1 he
            have hq := teq he
            clear he
            have Hkk := Lib.hid hki
            clear hki
            obtain rfl : mm = 0 := by
              rw [Hmm.out, if_neg (by have := Hkk.out; omega)]
            obtain ⟨zD, hzD⟩ : ∃ z, z = wr.drew := ⟨_, rfl⟩
            have bzD : Below wr.heap.size wr zD := by rw [hzD]; exact (Below.refl _ _).drew
            replace KA := Lib.hid ((bzD.block _ LA.out).trans KA.out)
            replace LA := Lib.hid (Nat.lt_of_lt_of_le LA.out bzD.size)
            replace KX := Lib.hid ((bzD.block _ LX.out).trans KX.out)
            replace LX := Lib.hid (Nat.lt_of_lt_of_le LX.out bzD.size)
            replace KT := Lib.hid ((bzD.block _ LT.out).trans KT.out)
            replace LT := Lib.hid (Nat.lt_of_lt_of_le LT.out bzD.size)
            replace KW := Lib.hid ((bzD.block _ LW.out).trans KW.out)
            replace LW := Lib.hid (Nat.lt_of_lt_of_le LW.out bzD.size)
            replace KU := Lib.hid ((bzD.block _ LU.out).trans KU.out)
            replace LU := Lib.hid (Nat.lt_of_lt_of_le LU.out bzD.size)
            replace GT := Lib.hid (GT.out.later bzD)
            replace BB := Lib.hid (BB.out.trans (bzD.mono BB.out.size))
            replace SA := Lib.hid (SA.out.later bzD bzD.size)
            replace STt := Lib.hid (STt.out.later bzD bzD.size)
            replace SW := Lib.hid (SW.out.later bzD bzD.size)
            replace SU := Lib.hid (SU.out.later bzD bzD.size)
            refine wp_region_held_drew (S := (fun w' => w'.cell? ⟨w1.heap.size + 1, 0, none⟩ = some (.string x.c) ∧ w'.cell? ⟨w1.heap.size + 1, 1, none⟩ = some (.int .i64 x.q) ∧ w'.cell? ⟨w1.heap.size + 1, 2, none⟩ = some (.string x.r) ∧ w'.cell? ⟨w2.heap.size, 0, none⟩ = some (.slice tai r.items.length tci) ∧ w'.cell? ⟨w2.heap.size, 1, none⟩ = some (.slice (some ⟨tt, 0, none⟩) r.talks.length tct) ∧ w'.cell? ⟨tt, k * 3, none⟩ = some (.string yc))) (by kernel_rfl) (by rw [← hzD]; exact ⟨(by simpa using cell_of_row zD _ 0 _ _ _ KX.out), (by simpa using cell_of_row zD _ 1 _ _ _ KX.out), (by simpa using cell_of_row zD _ 2 _ _ _ KX.out), (by simpa using cell_of_row zD _ 0 _ _ _ KT.out), (by simpa using cell_of_row zD _ 1 _ _ _ KT.out), (HEL.out _ _ GT.out)⟩) (fun hHeld => ?_)
            rw [← hzD] at hHeld ⊢
            have bzE := Lib.hid bzD
            clear bzD hzD
            refine wpAnyH_take (i := 0) (v := ?_) rfl (by kernel_rfl) (by kernel_rfl) (by kernel_rfl) (fun _ _ _ h => h) ?_ (by assumption) ?_
            rotate_left
            · first | (refine Or.inl ⟨by rfl, ?_⟩; intro w hSw; go_simp; done) | (refine Or.inl ⟨by rfl, ?_⟩; intro w hSw; go_simp; with_reducible rfl)
            try simp only [List.getElem_toArray, List.getElem_cons_zero, Act.put, List.setIfInBounds_toArray, List.set_cons_zero, List.set_cons_succ]
            refine wpAnyH_take (i := 1) (v := ?_) rfl (by kernel_rfl) (by kernel_rfl) (by kernel_rfl) (fun _ _ _ h => h) ?_ (by assumption) ?_
            rotate_left
            · first | (refine Or.inl ⟨by rfl, ?_⟩; intro w hSw; obtain ⟨hS0, hS1, hS2, hS3, hS4, hS5⟩ := hSw; go_simp; done) | (refine Or.inl ⟨by rfl, ?_⟩; intro w hSw; obtain ⟨hS0, hS1, hS2, hS3, hS4, hS5⟩ := hSw; go_simp; with_reducible rfl)
            try simp only [List.getElem_toArray, List.getElem_cons_zero, List.getElem_cons_succ, Act.put, List.setIfInBounds_toArray, List.set_cons_zero, List.set_cons_succ]
            refine wpAnyH_take (i := 2) (v := ?_) rfl (by kernel_rfl) (by kernel_rfl) (by kernel_rfl) (fun _ _ _ h => h) ?_ (by assumption) ?_
            rotate_left
            · first | (refine Or.inl ⟨by rfl, ?_⟩; intro w hSw; go_simp; done) | (refine Or.inl ⟨by rfl, ?_⟩; intro w hSw; go_simp; with_reducible rfl)
            try simp only [List.getElem_toArray, List.getElem_cons_zero, List.getElem_cons_succ, Act.put, List.setIfInBounds_toArray, List.set_cons_zero, List.set_cons_succ]
            refine wpAnyH_take (i := 3) (v := ?_) rfl (by kernel_rfl) (by kernel_rfl) (by kernel_rfl) (fun _ _ _ h => h) ?_ (by assumption) ?_
            rotate_left
            · first | (refine Or.inl ⟨by rfl, ?_⟩; intro w hSw; go_simp; done) | (refine Or.inl ⟨by rfl, ?_⟩; intro w hSw; go_simp; with_reducible rfl)
            try simp only [List.getElem_toArray, List.getElem_cons_zero, List.getElem_cons_succ, Act.put, List.setIfInBounds_toArray, List.set_cons_zero, List.set_cons_succ]
            refine wpAnyH_take (i := 4) (v := ?_) rfl (by kernel_rfl) (by kernel_rfl) (by kernel_rfl) (fun _ _ _ h => h) ?_ (by assumption) ?_
            rotate_left
            · first | (refine Or.inl ⟨by rfl, ?_⟩; intro w hSw; go_simp; done) | (refine Or.inl ⟨by rfl, ?_⟩; intro w hSw; go_simp; with_reducible rfl)
            try simp only [List.getElem_toArray, List.getElem_cons_zero, List.getElem_cons_succ, Act.put, List.setIfInBounds_toArray, List.set_cons_zero, List.set_cons_succ]
            refine wpAnyH_take (i := 5) (v := ?_) rfl (by kernel_rfl) (by kernel_rfl) (by kernel_rfl) (fun _ _ _ h => h) ?_ (by assumption) ?_
            rotate_left
            · first | (refine Or.inl ⟨by rfl, ?_⟩; intro w hSw; obtain ⟨hS0, hS1, hS2, hS3, hS4, hS5⟩ := hSw; go_simp; done) | (refine Or.inl ⟨by rfl, ?_⟩; intro w hSw; obtain ⟨hS0, hS1, hS2, hS3, hS4, hS5⟩ := hSw; go_simp; with_reducible rfl)
            try simp only [List.getElem_toArray, List.getElem_cons_zero, List.getElem_cons_succ, Act.put, List.setIfInBounds_toArray, List.set_cons_zero, List.set_cons_succ]
            refine wpAnyH_take (i := 6) (v := ?_) rfl (by kernel_rfl) (by kernel_rfl) (by kernel_rfl) (fun _ _ _ h => h) ?_ (by assumption) ?_
            rotate_left
            · first | (refine Or.inl ⟨by rfl, ?_⟩; intro w hSw; go_simp; done) | (refine Or.inl ⟨by rfl, ?_⟩; intro w hSw; go_simp; with_reducible rfl)
            try simp only [List.getElem_toArray, List.getElem_cons_zero, List.getElem_cons_succ, Act.put, List.setIfInBounds_toArray, List.set_cons_zero, List.set_cons_succ]
            refine wpAnyH_take (i := 7) (v := ?_) rfl (by kernel_rfl) (by kernel_rfl) (by kernel_rfl) (fun _ _ _ h => h) ?_ (by assumption) ?_
            rotate_left
            · first | (refine Or.inl ⟨by rfl, ?_⟩; intro w hSw; obtain ⟨hS0, hS1, hS2, hS3, hS4, hS5⟩ := hSw; go_simp; done) | (refine Or.inl ⟨by rfl, ?_⟩; intro w hSw; obtain ⟨hS0, hS1, hS2, hS3, hS4, hS5⟩ := hSw; go_simp; with_reducible rfl)
            try simp only [List.getElem_toArray, List.getElem_cons_zero, List.getElem_cons_succ, Act.put, List.setIfInBounds_toArray, List.set_cons_zero, List.set_cons_succ]
            refine wpAnyH_take (i := 8) (v := ?_) rfl (by kernel_rfl) (by kernel_rfl) (by kernel_rfl) (fun _ _ _ h => h) ?_ (by assumption) ?_
            rotate_left
            · first | (refine Or.inl ⟨by rfl, ?_⟩; intro w hSw; go_simp; done) | (refine Or.inl ⟨by rfl, ?_⟩; intro w hSw; go_simp; with_reducible rfl)
            try simp only [List.getElem_toArray, List.getElem_cons_zero, List.getElem_cons_succ, Act.put, List.setIfInBounds_toArray, List.set_cons_zero, List.set_cons_succ]
            refine wpAnyH_done (by kernel_rfl) ?_ _
            clear hHeld
            go_wp2_with fail
            go_roundw
            case rel => exact ⟨k + 1, by omega, by go_num, ⟨1, rfl, Lib.hid (by rw [if_pos (by have := Hkk.out; omega)])⟩, Lib.hid (hbw.out.trans (bzE.out.mono hbw.out.size))⟩
            case measure => simp [intOf]; omega
          · have hki : k ≠ iN := fun h => he (Hyc.out.2 h)
            have hq := tne he
            clear he
            have Hkk := Lib.hid hki
            clear hki
            skip
            obtain ⟨zD, hzD⟩ : ∃ z, z = wr.drew := ⟨_, rfl⟩
            have bzD : Below wr.heap.size wr zD := by rw [hzD]; exact (Below.refl _ _).drew
            replace KA := Lib.hid ((bzD.block _ LA.out).trans KA.out)
            replace LA := Lib.hid (Nat.lt_of_lt_of_le LA.out bzD.size)
            replace KX := Lib.hid ((bzD.block _ LX.out).trans KX.out)
            replace LX := Lib.hid (Nat.lt_of_lt_of_le LX.out bzD.size)
            replace KT := Lib.hid ((bzD.block _ LT.out).trans KT.out)
            replace LT := Lib.hid (Nat.lt_of_lt_of_le LT.out bzD.size)
            replace KW := Lib.hid ((bzD.block _ LW.out).trans KW.out)
            replace LW := Lib.hid (Nat.lt_of_lt_of_le LW.out bzD.size)
            replace KU := Lib.hid ((bzD.block _ LU.out).trans KU.out)
            replace LU := Lib.hid (Nat.lt_of_lt_of_le LU.out bzD.size)
            replace GT := Lib.hid (GT.out.later bzD)
            replace BB := Lib.hid (BB.out.trans (bzD.mono BB.out.size))
            replace SA := Lib.hid (SA.out.later bzD bzD.size)
            replace STt := Lib.hid (STt.out.later bzD bzD.size)
            replace SW := Lib.hid (SW.out.later bzD bzD.size)
            replace SU := Lib.hid (SU.out.later bzD bzD.size)
            refine wp_region_held_drew (S := (fun w' => w'.cell? ⟨w1.heap.size + 1, 0, none⟩ = some (.string x.c) ∧ w'.cell? ⟨w1.heap.size + 1, 1, none⟩ = some (.int .i64 x.q) ∧ w'.cell? ⟨w1.heap.size + 1, 2, none⟩ = some (.string x.r) ∧ w'.cell? ⟨w2.heap.size, 0, none⟩ = some (.slice tai r.items.length tci) ∧ w'.cell? ⟨w2.heap.size, 1, none⟩ = some (.slice (some ⟨tt, 0, none⟩) r.talks.length tct) ∧ w'.cell? ⟨tt, k * 3, none⟩ = some (.string yc))) (by kernel_rfl) (by rw [← hzD]; exact ⟨(by simpa using cell_of_row zD _ 0 _ _ _ KX.out), (by simpa using cell_of_row zD _ 1 _ _ _ KX.out), (by simpa using cell_of_row zD _ 2 _ _ _ KX.out), (by simpa using cell_of_row zD _ 0 _ _ _ KT.out), (by simpa using cell_of_row zD _ 1 _ _ _ KT.out), (HEL.out _ _ GT.out)⟩) (fun hHeld => ?_)
            rw [← hzD] at hHeld ⊢
            have bzE := Lib.hid bzD
            clear bzD hzD
            refine wpAnyH_take (i := 0) (v := ?_) rfl (by kernel_rfl) (by kernel_rfl) (by kernel_rfl) (fun _ _ _ h => h) ?_ (by assumption) ?_
            rotate_left
            · first | (refine Or.inl ⟨by rfl, ?_⟩; intro w hSw; go_simp; done) | (refine Or.inl ⟨by rfl, ?_⟩; intro w hSw; go_simp; with_reducible rfl)
            try simp only [List.getElem_toArray, List.getElem_cons_zero, Act.put, List.setIfInBounds_toArray, List.set_cons_zero, List.set_cons_succ]
            refine wpAnyH_take (i := 1) (v := ?_) rfl (by kernel_rfl) (by kernel_rfl) (by kernel_rfl) (fun _ _ _ h => h) ?_ (by assumption) ?_
            rotate_left
            · first | (refine Or.inl ⟨by rfl, ?_⟩; intro w hSw; obtain ⟨hS0, hS1, hS2, hS3, hS4, hS5⟩ := hSw; go_simp; done) | (refine Or.inl ⟨by rfl, ?_⟩; intro w hSw; obtain ⟨hS0, hS1, hS2, hS3, hS4, hS5⟩ := hSw; go_simp; with_reducible rfl)
            try simp only [List.getElem_toArray, List.getElem_cons_zero, List.getElem_cons_succ, Act.put, List.setIfInBounds_toArray, List.set_cons_zero, List.set_cons_succ]
            refine wpAnyH_take (i := 2) (v := ?_) rfl (by kernel_rfl) (by kernel_rfl) (by kernel_rfl) (fun _ _ _ h => h) ?_ (by assumption) ?_
            rotate_left
            · first | (refine Or.inl ⟨by rfl, ?_⟩; intro w hSw; go_simp; done) | (refine Or.inl ⟨by rfl, ?_⟩; intro w hSw; go_simp; with_reducible rfl)
            try simp only [List.getElem_toArray, List.getElem_cons_zero, List.getElem_cons_succ, Act.put, List.setIfInBounds_toArray, List.set_cons_zero, List.set_cons_succ]
            refine wpAnyH_take (i := 3) (v := ?_) rfl (by kernel_rfl) (by kernel_rfl) (by kernel_rfl) (fun _ _ _ h => h) ?_ (by assumption) ?_
            rotate_left
            · first | (refine Or.inl ⟨by rfl, ?_⟩; intro w hSw; go_simp; done) | (refine Or.inl ⟨by rfl, ?_⟩; intro w hSw; go_simp; with_reducible rfl)
            try simp only [List.getElem_toArray, List.getElem_cons_zero, List.getElem_cons_succ, Act.put, List.setIfInBounds_toArray, List.set_cons_zero, List.set_cons_succ]
            refine wpAnyH_take (i := 4) (v := ?_) rfl (by kernel_rfl) (by kernel_rfl) (by kernel_rfl) (fun _ _ _ h => h) ?_ (by assumption) ?_
            rotate_left
            · first | (refine Or.inl ⟨by rfl, ?_⟩; intro w hSw; go_simp; done) | (refine Or.inl ⟨by rfl, ?_⟩; intro w hSw; go_simp; with_reducible rfl)
            try simp only [List.getElem_toArray, List.getElem_cons_zero, List.getElem_cons_succ, Act.put, List.setIfInBounds_toArray, List.set_cons_zero, List.set_cons_succ]
            refine wpAnyH_take (i := 5) (v := ?_) rfl (by kernel_rfl) (by kernel_rfl) (by kernel_rfl) (fun _ _ _ h => h) ?_ (by assumption) ?_
            rotate_left
            · first | (refine Or.inl ⟨by rfl, ?_⟩; intro w hSw; obtain ⟨hS0, hS1, hS2, hS3, hS4, hS5⟩ := hSw; go_simp; done) | (refine Or.inl ⟨by rfl, ?_⟩; intro w hSw; obtain ⟨hS0, hS1, hS2, hS3, hS4, hS5⟩ := hSw; go_simp; with_reducible rfl)
            try simp only [List.getElem_toArray, List.getElem_cons_zero, List.getElem_cons_succ, Act.put, List.setIfInBounds_toArray, List.set_cons_zero, List.set_cons_succ]
            refine wpAnyH_take (i := 6) (v := ?_) rfl (by kernel_rfl) (by kernel_rfl) (by kernel_rfl) (fun _ _ _ h => h) ?_ (by assumption) ?_
            rotate_left
            · first | (refine Or.inl ⟨by rfl, ?_⟩; intro w hSw; go_simp; done) | (refine Or.inl ⟨by rfl, ?_⟩; intro w hSw; go_simp; with_reducible rfl)
            try simp only [List.getElem_toArray, List.getElem_cons_zero, List.getElem_cons_succ, Act.put, List.setIfInBounds_toArray, List.set_cons_zero, List.set_cons_succ]
            refine wpAnyH_take (i := 7) (v := ?_) rfl (by kernel_rfl) (by kernel_rfl) (by kernel_rfl) (fun _ _ _ h => h) ?_ (by assumption) ?_
            rotate_left
            · first | (refine Or.inl ⟨by rfl, ?_⟩; intro w hSw; obtain ⟨hS0, hS1, hS2, hS3, hS4, hS5⟩ := hSw; go_simp; done) | (refine Or.inl ⟨by rfl, ?_⟩; intro w hSw; obtain ⟨hS0, hS1, hS2, hS3, hS4, hS5⟩ := hSw; go_simp; with_reducible rfl)
            try simp only [List.getElem_toArray, List.getElem_cons_zero, List.getElem_cons_succ, Act.put, List.setIfInBounds_toArray, List.set_cons_zero, List.set_cons_succ]
            refine wpAnyH_take (i := 8) (v := ?_) rfl (by kernel_rfl) (by kernel_rfl) (by kernel_rfl) (fun _ _ _ h => h) ?_ (by assumption) ?_
            rotate_left
            · first | (refine Or.inl ⟨by rfl, ?_⟩; intro w hSw; go_simp; done) | (refine Or.inl ⟨by rfl, ?_⟩; intro w hSw; go_simp; with_reducible rfl)
            try simp only [List.getElem_toArray, List.getElem_cons_zero, List.getElem_cons_succ, Act.put, List.setIfInBounds_toArray, List.set_cons_zero, List.set_cons_succ]
            refine wpAnyH_done (by kernel_rfl) ?_ _
            clear hHeld
            go_wp2_with fail
            go_roundw
            case rel => exact ⟨k + 1, by omega, by go_num, ⟨mm, rfl, Lib.hid (by
              rw [Hmm.out]
              have := Hkk.out
              by_cases h : iN < k
              · rw [if_pos h, if_pos (by omega)]
              · rw [if_neg h, if_neg (by omega)])⟩, Lib.hid (hbw.out.trans (bzE.out.mono hbw.out.size))⟩
            case measure => simp [intOf]; omega
        · have hge : ¬ (k : Int) < (r.talks.length : Int) := by have := HN.out; omega
          obtain rfl : mm = 1 := by
            rw [Hmm.out, if_pos (by have := Hi.out; have := HN.out; omega)]
          have fT0 := cell_of_row wr _ 0 _ _ _ KT.out
          have fT1 := cell_of_row wr _ 1 _ _ _ KT.out
          simp only [List.getElem?_toArray, List.getElem?_cons_zero, List.getElem?_cons_succ] at fT0 fT1
          go_wp2_with fail
          clear fT0 fT1
          have hlt : (iN : Int) < (r.talks.length : Int) := by have := Hi.out; omega
          have h0 : (0 : Int) ≤ (iN : Int) := by omega
          have HE2 : Hid (∀ z B0, Got z B0 41 3 tt r.talks.length tct (r.talks.flatMap tkC) → z.cell? ⟨tt, iN * 3, none⟩ = some (.string x.c) ∧ z.cell? ⟨tt, iN * 3 + 1, none⟩ = some (.int .i64 x.q) ∧ z.cell? ⟨tt, iN * 3 + 2, none⟩ = some (.string x.r)) := Lib.hid (fun z B0 hg => by
            obtain ⟨hi2, e5⟩ := E5.out
            have h := HTK.out z B0 hg iN hi2
            rw [e5] at h; exact h)
          obtain ⟨zD, hzD⟩ : ∃ z, z = wr.drew := ⟨_, rfl⟩
          have bzD : Below wr.heap.size wr zD := by rw [hzD]; exact (Below.refl _ _).drew
          replace KA := Lib.hid ((bzD.block _ LA.out).trans KA.out)
          replace LA := Lib.hid (Nat.lt_of_lt_of_le LA.out bzD.size)
          replace KX := Lib.hid ((bzD.block _ LX.out).trans KX.out)
          replace LX := Lib.hid (Nat.lt_of_lt_of_le LX.out bzD.size)
          replace KT := Lib.hid ((bzD.block _ LT.out).trans KT.out)
          replace LT := Lib.hid (Nat.lt_of_lt_of_le LT.out bzD.size)
          replace KW := Lib.hid ((bzD.block _ LW.out).trans KW.out)
          replace LW := Lib.hid (Nat.lt_of_lt_of_le LW.out bzD.size)
          replace KU := Lib.hid ((bzD.block _ LU.out).trans KU.out)
          replace LU := Lib.hid (Nat.lt_of_lt_of_le LU.out bzD.size)
          replace GT := Lib.hid (GT.out.later bzD)
          replace BB := Lib.hid (BB.out.trans (bzD.mono BB.out.size))
          replace SA := Lib.hid (SA.out.later bzD bzD.size)
          replace STt := Lib.hid (STt.out.later bzD bzD.size)
          replace SW := Lib.hid (SW.out.later bzD bzD.size)
          replace SU := Lib.hid (SU.out.later bzD bzD.size)
          refine wp_region_held_drew (S := (fun w' => w'.cell? ⟨w1.heap.size, 0, none⟩ = some (.slice sa ni sc) ∧ w'.cell? ⟨w1.heap.size, 1, none⟩ = some (.slice ta s.talks.length tc) ∧ w'.cell? ⟨w1.heap.size + 1, 0, none⟩ = some (.string x.c) ∧ w'.cell? ⟨w1.heap.size + 1, 1, none⟩ = some (.int .i64 x.q) ∧ w'.cell? ⟨w1.heap.size + 1, 2, none⟩ = some (.string x.r) ∧ w'.cell? ⟨w2.heap.size, 0, none⟩ = some (.slice tai r.items.length tci) ∧ w'.cell? ⟨w2.heap.size, 1, none⟩ = some (.slice (some ⟨tt, 0, none⟩) r.talks.length tct) ∧ w'.cell? ⟨tt, iN * 3, none⟩ = some (.string x.c) ∧ w'.cell? ⟨tt, iN * 3 + 1, none⟩ = some (.int .i64 x.q) ∧ w'.cell? ⟨tt, iN * 3 + 2, none⟩ = some (.string x.r))) (by kernel_rfl) (by rw [← hzD]; exact ⟨(by simpa using cell_of_row zD _ 0 _ _ _ KA.out), (by simpa using cell_of_row zD _ 1 _ _ _ KA.out), (by simpa using cell_of_row zD _ 0 _ _ _ KX.out), (by simpa using cell_of_row zD _ 1 _ _ _ KX.out), (by simpa using cell_of_row zD _ 2 _ _ _ KX.out), (by simpa using cell_of_row zD _ 0 _ _ _ KT.out), (by simpa using cell_of_row zD _ 1 _ _ _ KT.out), (HE2.out _ _ GT.out).1, (HE2.out _ _ GT.out).2.1, (HE2.out _ _ GT.out).2.2⟩) (fun hHeld => ?_)
          rw [← hzD] at hHeld ⊢
          have bzE := Lib.hid bzD
          clear bzD hzD
          refine wpAnyH_take (i := 0) (v := ?_) rfl (by kernel_rfl) (by kernel_rfl) (by kernel_rfl) (fun _ _ _ h => h) ?_ (by assumption) ?_
          rotate_left
          · first | (refine Or.inl ⟨by rfl, ?_⟩; intro w hSw; obtain ⟨hS0, hS1, hS2, hS3, hS4, hS5, hS6, hS7, hS8, hS9⟩ := hSw; go_simp; done) | (refine Or.inl ⟨by rfl, ?_⟩; intro w hSw; obtain ⟨hS0, hS1, hS2, hS3, hS4, hS5, hS6, hS7, hS8, hS9⟩ := hSw; go_simp; with_reducible rfl)
          try simp only [List.getElem_toArray, List.getElem_cons_zero, Act.put, List.setIfInBounds_toArray, List.set_cons_zero, List.set_cons_succ]
          refine wpAnyH_ready (rs := [1]) (by kernel_rfl) (by simp) ?_
          refine AllReadyH.cons rfl (fun K hK => ?_) AllReadyH.nil
          go_simp
          have hc := impl_stateOk r _ zD.heap.size zD STt.out (Nat.le_refl _) Hrm.out.fits
          rw [Hok.out] at hc
          go_at_call 20
          refine (hc).mono ?_
          rintro e w11 ⟨rfl, hb⟩
          replace KA := Lib.hid ((hb.block _ LA.out).trans KA.out)
          replace LA := Lib.hid (Nat.lt_of_lt_of_le LA.out hb.size)
          replace KX := Lib.hid ((hb.block _ LX.out).trans KX.out)
          replace LX := Lib.hid (Nat.lt_of_lt_of_le LX.out hb.size)
          replace KT := Lib.hid ((hb.block _ LT.out).trans KT.out)
          replace LT := Lib.hid (Nat.lt_of_lt_of_le LT.out hb.size)
          replace KW := Lib.hid ((hb.block _ LW.out).trans KW.out)
          replace LW := Lib.hid (Nat.lt_of_lt_of_le LW.out hb.size)
          replace KU := Lib.hid ((hb.block _ LU.out).trans KU.out)
          replace LU := Lib.hid (Nat.lt_of_lt_of_le LU.out hb.size)
          replace GT := Lib.hid (GT.out.later hb)
          replace BB := Lib.hid (BB.out.trans (hb.mono BB.out.size))
          replace SA := Lib.hid (SA.out.later hb hb.size)
          replace STt := Lib.hid (STt.out.later hb hb.size)
          replace SW := Lib.hid (SW.out.later hb hb.size)
          replace SU := Lib.hid (SU.out.later hb hb.size)
          clear hb
          clear hc
          go_wp2_with fail
          refine hK.out _ _ ⟨(by simpa using cell_of_row w11 _ 0 _ _ _ KA.out), (by simpa using cell_of_row w11 _ 1 _ _ _ KA.out), (by simpa using cell_of_row w11 _ 0 _ _ _ KX.out), (by simpa using cell_of_row w11 _ 1 _ _ _ KX.out), (by simpa using cell_of_row w11 _ 2 _ _ _ KX.out), (by simpa using cell_of_row w11 _ 0 _ _ _ KT.out), (by simpa using cell_of_row w11 _ 1 _ _ _ KT.out), (HE2.out _ _ GT.out).1, (HE2.out _ _ GT.out).2.1, (HE2.out _ _ GT.out).2.2⟩ (fun hHeld => ?_)
          clear hK K
          try simp only [List.getElem_toArray, List.getElem_cons_zero, List.getElem_cons_succ, Act.put, List.setIfInBounds_toArray, List.set_cons_zero, List.set_cons_succ]
          refine wpAnyH_take (i := 2) (v := ?_) rfl (by kernel_rfl) (by kernel_rfl) (by kernel_rfl) (fun _ _ _ h => h) ?_ (by assumption) ?_
          rotate_left
          · first | (refine Or.inl ⟨by rfl, ?_⟩; intro w hSw; go_simp; done) | (refine Or.inl ⟨by rfl, ?_⟩; intro w hSw; go_simp; with_reducible rfl)
          try simp only [List.getElem_toArray, List.getElem_cons_zero, List.getElem_cons_succ, Act.put, List.setIfInBounds_toArray, List.set_cons_zero, List.set_cons_succ]
          refine wpAnyH_take (i := 3) (v := ?_) rfl (by kernel_rfl) (by kernel_rfl) (by kernel_rfl) (fun _ _ _ h => h) ?_ (by assumption) ?_
          rotate_left
          · first | (refine Or.inl ⟨by rfl, ?_⟩; intro w hSw; obtain ⟨hS0, hS1, hS2, hS3, hS4, hS5, hS6, hS7, hS8, hS9⟩ := hSw; go_simp; done) | (refine Or.inl ⟨by rfl, ?_⟩; intro w hSw; obtain ⟨hS0, hS1, hS2, hS3, hS4, hS5, hS6, hS7, hS8, hS9⟩ := hSw; go_simp; with_reducible rfl)
          try simp only [List.getElem_toArray, List.getElem_cons_zero, List.getElem_cons_succ, Act.put, List.setIfInBounds_toArray, List.set_cons_zero, List.set_cons_succ]
          refine wpAnyH_take (i := 4) (v := ?_) rfl (by kernel_rfl) (by kernel_rfl) (by kernel_rfl) (fun _ _ _ h => h) ?_ (by assumption) ?_
          rotate_left
          · first | (refine Or.inl ⟨by rfl, ?_⟩; intro w hSw; go_simp; done) | (refine Or.inl ⟨by rfl, ?_⟩; intro w hSw; go_simp; with_reducible rfl)
          try simp only [List.getElem_toArray, List.getElem_cons_zero, List.getElem_cons_succ, Act.put, List.setIfInBounds_toArray, List.set_cons_zero, List.set_cons_succ]
          refine wpAnyH_take (i := 5) (v := ?_) rfl (by kernel_rfl) (by kernel_rfl) (by kernel_rfl) (fun _ _ _ h => h) ?_ (by assumption) ?_
          rotate_left
          · first | (refine Or.inl ⟨by rfl, ?_⟩; intro w hSw; obtain ⟨hS0, hS1, hS2, hS3, hS4, hS5, hS6, hS7, hS8, hS9⟩ := hSw; go_simp; done) | (refine Or.inl ⟨by rfl, ?_⟩; intro w hSw; obtain ⟨hS0, hS1, hS2, hS3, hS4, hS5, hS6, hS7, hS8, hS9⟩ := hSw; go_simp; with_reducible rfl)
          try simp only [List.getElem_toArray, List.getElem_cons_zero, List.getElem_cons_succ, Act.put, List.setIfInBounds_toArray, List.set_cons_zero, List.set_cons_succ]
          refine wpAnyH_take (i := 7) (v := ?_) rfl (by kernel_rfl) (by kernel_rfl) (by kernel_rfl) (fun _ _ _ h => h) ?_ (by assumption) ?_
          rotate_left
          · first | (refine Or.inl ⟨by rfl, ?_⟩; intro w hSw; go_simp; done) | (refine Or.inl ⟨by rfl, ?_⟩; intro w hSw; go_simp; with_reducible rfl)
          try simp only [List.getElem_toArray, List.getElem_cons_zero, List.getElem_cons_succ, Act.put, List.setIfInBounds_toArray, List.set_cons_zero, List.set_cons_succ]
          refine wpAnyH_ready (rs := [6]) (by kernel_rfl) (by simp) ?_
          refine AllReadyH.cons rfl (fun K hK => ?_) AllReadyH.nil
          go_simp
          have hc := impl_talkAt r _ w11.heap.size x.c w11 STt.out (Nat.le_refl _) Hrm.out.fits HxS.out
          rw [E1.out] at hc
          go_at_call 32
          refine (hc).mono ?_
          rintro e w12 ⟨rfl, hb⟩
          replace KA := Lib.hid ((hb.block _ LA.out).trans KA.out)
          replace LA := Lib.hid (Nat.lt_of_lt_of_le LA.out hb.size)
          replace KX := Lib.hid ((hb.block _ LX.out).trans KX.out)
          replace LX := Lib.hid (Nat.lt_of_lt_of_le LX.out hb.size)
          replace KT := Lib.hid ((hb.block _ LT.out).trans KT.out)
          replace LT := Lib.hid (Nat.lt_of_lt_of_le LT.out hb.size)
          replace KW := Lib.hid ((hb.block _ LW.out).trans KW.out)
          replace LW := Lib.hid (Nat.lt_of_lt_of_le LW.out hb.size)
          replace KU := Lib.hid ((hb.block _ LU.out).trans KU.out)
          replace LU := Lib.hid (Nat.lt_of_lt_of_le LU.out hb.size)
          replace GT := Lib.hid (GT.out.later hb)
          replace BB := Lib.hid (BB.out.trans (hb.mono BB.out.size))
          replace SA := Lib.hid (SA.out.later hb hb.size)
          replace STt := Lib.hid (STt.out.later hb hb.size)
          replace SW := Lib.hid (SW.out.later hb hb.size)
          replace SU := Lib.hid (SU.out.later hb hb.size)
          clear hb
          clear hc
          go_wp2_with fail
          refine hK.out _ _ ⟨(by simpa using cell_of_row w12 _ 0 _ _ _ KA.out), (by simpa using cell_of_row w12 _ 1 _ _ _ KA.out), (by simpa using cell_of_row w12 _ 0 _ _ _ KX.out), (by simpa using cell_of_row w12 _ 1 _ _ _ KX.out), (by simpa using cell_of_row w12 _ 2 _ _ _ KX.out), (by simpa using cell_of_row w12 _ 0 _ _ _ KT.out), (by simpa using cell_of_row w12 _ 1 _ _ _ KT.out), (HE2.out _ _ GT.out).1, (HE2.out _ _ GT.out).2.1, (HE2.out _ _ GT.out).2.2⟩ (fun hHeld => ?_)
          clear hK K
          try simp only [List.getElem_toArray, List.getElem_cons_zero, List.getElem_cons_succ, Act.put, List.setIfInBounds_toArray, List.set_cons_zero, List.set_cons_succ]
          refine wpAnyH_take (i := 8) (v := ?_) rfl (by kernel_rfl) (by kernel_rfl) (by kernel_rfl) (fun _ _ _ h => h) ?_ (by assumption) ?_
          rotate_left
          · first | (refine Or.inl ⟨by rfl, ?_⟩; intro w hSw; go_simp; done) | (refine Or.inl ⟨by rfl, ?_⟩; intro w hSw; go_simp; with_reducible rfl)
          try simp only [List.getElem_toArray, List.getElem_cons_zero, List.getElem_cons_succ, Act.put, List.setIfInBounds_toArray, List.set_cons_zero, List.set_cons_succ]
          refine wpAnyH_take (i := 9) (v := ?_) rfl (by kernel_rfl) (by kernel_rfl) (by kernel_rfl) (fun _ _ _ h => h) ?_ (by assumption) ?_
          rotate_left
          · first | (refine Or.inl ⟨by rfl, ?_⟩; intro w hSw; go_simp; done) | (refine Or.inl ⟨by rfl, ?_⟩; intro w hSw; go_simp; with_reducible rfl)
          try simp only [List.getElem_toArray, List.getElem_cons_zero, List.getElem_cons_succ, Act.put, List.setIfInBounds_toArray, List.set_cons_zero, List.set_cons_succ]
          refine wpAnyH_take (i := 10) (v := ?_) rfl (by kernel_rfl) (by kernel_rfl) (by kernel_rfl) (fun _ _ _ h => h) ?_ (by assumption) ?_
          rotate_left
          · first | (refine Or.inl ⟨by rfl, ?_⟩; intro w hSw; go_simp; done) | (refine Or.inl ⟨by rfl, ?_⟩; intro w hSw; go_simp; with_reducible rfl)
          try simp only [List.getElem_toArray, List.getElem_cons_zero, List.getElem_cons_succ, Act.put, List.setIfInBounds_toArray, List.set_cons_zero, List.set_cons_succ]
          refine wpAnyH_take (i := 11) (v := ?_) rfl (by kernel_rfl) (by kernel_rfl) (by kernel_rfl) (fun _ _ _ h => h) ?_ (by assumption) ?_
          rotate_left
          · first | (refine Or.inl ⟨by rfl, ?_⟩; intro w hSw; go_simp; done) | (refine Or.inl ⟨by rfl, ?_⟩; intro w hSw; go_simp; with_reducible rfl)
          try simp only [List.getElem_toArray, List.getElem_cons_zero, List.getElem_cons_succ, Act.put, List.setIfInBounds_toArray, List.set_cons_zero, List.set_cons_succ]
          refine wpAnyH_take (i := 12) (v := ?_) rfl (by kernel_rfl) (by kernel_rfl) (by kernel_rfl) (fun _ _ _ h => h) ?_ (by assumption) ?_
          rotate_left
          · first | (refine Or.inl ⟨by rfl, ?_⟩; intro w hSw; go_simp; done) | (refine Or.inl ⟨by rfl, ?_⟩; intro w hSw; go_simp; with_reducible rfl)
          try simp only [List.getElem_toArray, List.getElem_cons_zero, List.getElem_cons_succ, Act.put, List.setIfInBounds_toArray, List.set_cons_zero, List.set_cons_succ]
          refine wpAnyH_take (i := 13) (v := ?_) rfl (by kernel_rfl) (by kernel_rfl) (by kernel_rfl) (fun _ _ _ h => h) ?_ (by assumption) ?_
          rotate_left
          · first | (refine Or.inl ⟨by rfl, ?_⟩; intro w hSw; go_simp; done) | (refine Or.inl ⟨by rfl, ?_⟩; intro w hSw; go_simp; with_reducible rfl)
          try simp only [List.getElem_toArray, List.getElem_cons_zero, List.getElem_cons_succ, Act.put, List.setIfInBounds_toArray, List.set_cons_zero, List.set_cons_succ]
          refine wpAnyH_take (i := 14) (v := ?_) rfl (by kernel_rfl) (by kernel_rfl) (by kernel_rfl) (fun _ _ _ h => h) ?_ (by assumption) ?_
          rotate_left
          · first | (refine Or.inl ⟨by rfl, ?_⟩; intro w hSw; go_simp; done) | (refine Or.inl ⟨by rfl, ?_⟩; intro w hSw; go_simp; with_reducible rfl)
          try simp only [List.getElem_toArray, List.getElem_cons_zero, List.getElem_cons_succ, Act.put, List.setIfInBounds_toArray, List.set_cons_zero, List.set_cons_succ]
          refine wpAnyH_take (i := 15) (v := ?_) rfl (by kernel_rfl) (by kernel_rfl) (by kernel_rfl) (fun _ _ _ h => h) ?_ (by assumption) ?_
          rotate_left
          · first | (refine Or.inl ⟨by rfl, ?_⟩; intro w hSw; go_simp; done) | (refine Or.inl ⟨by rfl, ?_⟩; intro w hSw; go_simp; with_reducible rfl)
          try simp only [List.getElem_toArray, List.getElem_cons_zero, List.getElem_cons_succ, Act.put, List.setIfInBounds_toArray, List.set_cons_zero, List.set_cons_succ]
          refine wpAnyH_take (i := 16) (v := ?_) rfl (by kernel_rfl) (by kernel_rfl) (by kernel_rfl) (fun _ _ _ h => h) ?_ (by assumption) ?_
          rotate_left
          · first | (refine Or.inl ⟨by rfl, ?_⟩; intro w hSw; obtain ⟨hS0, hS1, hS2, hS3, hS4, hS5, hS6, hS7, hS8, hS9⟩ := hSw; go_simp; done) | (refine Or.inl ⟨by rfl, ?_⟩; intro w hSw; obtain ⟨hS0, hS1, hS2, hS3, hS4, hS5, hS6, hS7, hS8, hS9⟩ := hSw; go_simp; with_reducible rfl)
          try simp only [List.getElem_toArray, List.getElem_cons_zero, List.getElem_cons_succ, Act.put, List.setIfInBounds_toArray, List.set_cons_zero, List.set_cons_succ]
          refine wpAnyH_take (i := 17) (v := ?_) rfl (by kernel_rfl) (by kernel_rfl) (by kernel_rfl) (fun _ _ _ h => h) ?_ (by assumption) ?_
          rotate_left
          · first | (refine Or.inl ⟨by rfl, ?_⟩; intro w hSw; go_simp; done) | (refine Or.inl ⟨by rfl, ?_⟩; intro w hSw; go_simp; with_reducible rfl)
          try simp only [List.getElem_toArray, List.getElem_cons_zero, List.getElem_cons_succ, Act.put, List.setIfInBounds_toArray, List.set_cons_zero, List.set_cons_succ]
          refine wpAnyH_take (i := 18) (v := ?_) rfl (by kernel_rfl) (by kernel_rfl) (by kernel_rfl) (fun _ _ _ h => h) ?_ (by assumption) ?_
          rotate_left
          · first | (refine Or.inl ⟨by rfl, ?_⟩; intro w hSw; obtain ⟨hS0, hS1, hS2, hS3, hS4, hS5, hS6, hS7, hS8, hS9⟩ := hSw; go_simp; done) | (refine Or.inl ⟨by rfl, ?_⟩; intro w hSw; obtain ⟨hS0, hS1, hS2, hS3, hS4, hS5, hS6, hS7, hS8, hS9⟩ := hSw; go_simp; with_reducible rfl)
          try simp only [List.getElem_toArray, List.getElem_cons_zero, List.getElem_cons_succ, Act.put, List.setIfInBounds_toArray, List.set_cons_zero, List.set_cons_succ]
          refine wpAnyH_take (i := 19) (v := ?_) rfl (by kernel_rfl) (by kernel_rfl) (by kernel_rfl) (fun _ _ _ h => h) ?_ (by assumption) ?_
          rotate_left
          · first | (refine Or.inl ⟨by rfl, ?_⟩; intro w hSw; obtain ⟨hS0, hS1, hS2, hS3, hS4, hS5, hS6, hS7, hS8, hS9⟩ := hSw; go_simp; done) | (refine Or.inl ⟨by rfl, ?_⟩; intro w hSw; obtain ⟨hS0, hS1, hS2, hS3, hS4, hS5, hS6, hS7, hS8, hS9⟩ := hSw; go_simp; with_reducible rfl)
          try simp only [List.getElem_toArray, List.getElem_cons_zero, List.getElem_cons_succ, Act.put, List.setIfInBounds_toArray, List.set_cons_zero, List.set_cons_succ]
          refine wpAnyH_take (i := 20) (v := ?_) rfl (by kernel_rfl) (by kernel_rfl) (by kernel_rfl) (fun _ _ _ h => h) ?_ (by assumption) ?_
          rotate_left
          · first | (refine Or.inl ⟨by rfl, ?_⟩; intro w hSw; obtain ⟨hS0, hS1, hS2, hS3, hS4, hS5, hS6, hS7, hS8, hS9⟩ := hSw; go_simp; done) | (refine Or.inl ⟨by rfl, ?_⟩; intro w hSw; obtain ⟨hS0, hS1, hS2, hS3, hS4, hS5, hS6, hS7, hS8, hS9⟩ := hSw; go_simp; with_reducible rfl)
          try simp only [List.getElem_toArray, List.getElem_cons_zero, List.getElem_cons_succ, Act.put, List.setIfInBounds_toArray, List.set_cons_zero, List.set_cons_succ]
          refine wpAnyH_take (i := 21) (v := ?_) rfl (by kernel_rfl) (by kernel_rfl) (by kernel_rfl) (fun _ _ _ h => h) ?_ (by assumption) ?_
          rotate_left
          · first | (refine Or.inl ⟨by rfl, ?_⟩; intro w hSw; go_simp; done) | (refine Or.inl ⟨by rfl, ?_⟩; intro w hSw; go_simp; with_reducible rfl)
          try simp only [List.getElem_toArray, List.getElem_cons_zero, List.getElem_cons_succ, Act.put, List.setIfInBounds_toArray, List.set_cons_zero, List.set_cons_succ]
          refine wpAnyH_take (i := 22) (v := ?_) rfl (by kernel_rfl) (by kernel_rfl) (by kernel_rfl) (fun _ _ _ h => h) ?_ (by assumption) ?_
          rotate_left
          · first | (refine Or.inl ⟨by rfl, ?_⟩; intro w hSw; go_simp; done) | (refine Or.inl ⟨by rfl, ?_⟩; intro w hSw; go_simp; with_reducible rfl)
          try simp only [List.getElem_toArray, List.getElem_cons_zero, List.getElem_cons_succ, Act.put, List.setIfInBounds_toArray, List.set_cons_zero, List.set_cons_succ]
          refine wpAnyH_take (i := 23) (v := ?_) rfl (by kernel_rfl) (by kernel_rfl) (by kernel_rfl) (fun _ _ _ h => h) ?_ (by assumption) ?_
          rotate_left
          · first | (refine Or.inl ⟨by rfl, ?_⟩; intro w hSw; go_simp; done) | (refine Or.inl ⟨by rfl, ?_⟩; intro w hSw; go_simp; with_reducible rfl)
          try simp only [List.getElem_toArray, List.getElem_cons_zero, List.getElem_cons_succ, Act.put, List.setIfInBounds_toArray, List.set_cons_zero, List.set_cons_succ]
          refine wpAnyH_take (i := 24) (v := ?_) rfl (by kernel_rfl) (by kernel_rfl) (by kernel_rfl) (fun _ _ _ h => h) ?_ (by assumption) ?_
          rotate_left
          · first | (refine Or.inl ⟨by rfl, ?_⟩; intro w hSw; go_simp; done) | (refine Or.inl ⟨by rfl, ?_⟩; intro w hSw; go_simp; with_reducible rfl)
          try simp only [List.getElem_toArray, List.getElem_cons_zero, List.getElem_cons_succ, Act.put, List.setIfInBounds_toArray, List.set_cons_zero, List.set_cons_succ]
          refine wpAnyH_take (i := 25) (v := ?_) rfl (by kernel_rfl) (by kernel_rfl) (by kernel_rfl) (fun _ _ _ h => h) ?_ (by assumption) ?_
          rotate_left
          · first | (refine Or.inl ⟨by rfl, ?_⟩; intro w hSw; go_simp; done) | (refine Or.inl ⟨by rfl, ?_⟩; intro w hSw; go_simp; with_reducible rfl)
          try simp only [List.getElem_toArray, List.getElem_cons_zero, List.getElem_cons_succ, Act.put, List.setIfInBounds_toArray, List.set_cons_zero, List.set_cons_succ]
          refine wpAnyH_take (i := 26) (v := ?_) rfl (by kernel_rfl) (by kernel_rfl) (by kernel_rfl) (fun _ _ _ h => h) ?_ (by assumption) ?_
          rotate_left
          · first | (refine Or.inl ⟨by rfl, ?_⟩; intro w hSw; go_simp; done) | (refine Or.inl ⟨by rfl, ?_⟩; intro w hSw; go_simp; with_reducible rfl)
          try simp only [List.getElem_toArray, List.getElem_cons_zero, List.getElem_cons_succ, Act.put, List.setIfInBounds_toArray, List.set_cons_zero, List.set_cons_succ]
          refine wpAnyH_take (i := 27) (v := ?_) rfl (by kernel_rfl) (by kernel_rfl) (by kernel_rfl) (fun _ _ _ h => h) ?_ (by assumption) ?_
          rotate_left
          · first | (refine Or.inl ⟨by rfl, ?_⟩; intro w hSw; go_simp; done) | (refine Or.inl ⟨by rfl, ?_⟩; intro w hSw; go_simp; with_reducible rfl)
          try simp only [List.getElem_toArray, List.getElem_cons_zero, List.getElem_cons_succ, Act.put, List.setIfInBounds_toArray, List.set_cons_zero, List.set_cons_succ]
          refine wpAnyH_take (i := 28) (v := ?_) rfl (by kernel_rfl) (by kernel_rfl) (by kernel_rfl) (fun _ _ _ h => h) ?_ (by assumption) ?_
          rotate_left
          · first | (refine Or.inl ⟨by rfl, ?_⟩; intro w hSw; go_simp; done) | (refine Or.inl ⟨by rfl, ?_⟩; intro w hSw; go_simp; with_reducible rfl)
          try simp only [List.getElem_toArray, List.getElem_cons_zero, List.getElem_cons_succ, Act.put, List.setIfInBounds_toArray, List.set_cons_zero, List.set_cons_succ]
          refine wpAnyH_take (i := 29) (v := ?_) rfl (by kernel_rfl) (by kernel_rfl) (by kernel_rfl) (fun _ _ _ h => h) ?_ (by assumption) ?_
          rotate_left
          · first | (refine Or.inl ⟨by rfl, ?_⟩; intro w hSw; obtain ⟨hS0, hS1, hS2, hS3, hS4, hS5, hS6, hS7, hS8, hS9⟩ := hSw; go_simp; done) | (refine Or.inl ⟨by rfl, ?_⟩; intro w hSw; obtain ⟨hS0, hS1, hS2, hS3, hS4, hS5, hS6, hS7, hS8, hS9⟩ := hSw; go_simp; with_reducible rfl)
          try simp only [List.getElem_toArray, List.getElem_cons_zero, List.getElem_cons_succ, Act.put, List.setIfInBounds_toArray, List.set_cons_zero, List.set_cons_succ]
          refine wpAnyH_take (i := 30) (v := ?_) rfl (by kernel_rfl) (by kernel_rfl) (by kernel_rfl) (fun _ _ _ h => h) ?_ (by assumption) ?_
          rotate_left
          · first | (refine Or.inl ⟨by rfl, ?_⟩; intro w hSw; go_simp; done) | (refine Or.inl ⟨by rfl, ?_⟩; intro w hSw; go_simp; with_reducible rfl)
          try simp only [List.getElem_toArray, List.getElem_cons_zero, List.getElem_cons_succ, Act.put, List.setIfInBounds_toArray, List.set_cons_zero, List.set_cons_succ]
          refine wpAnyH_take (i := 31) (v := ?_) rfl (by kernel_rfl) (by kernel_rfl) (by kernel_rfl) (fun _ _ _ h => h) ?_ (by assumption) ?_
          rotate_left
          · first | (refine Or.inl ⟨by rfl, ?_⟩; intro w hSw; go_simp; done) | (refine Or.inl ⟨by rfl, ?_⟩; intro w hSw; go_simp; with_reducible rfl)
          try simp only [List.getElem_toArray, List.getElem_cons_zero, List.getElem_cons_succ, Act.put, List.setIfInBounds_toArray, List.set_cons_zero, List.set_cons_succ]
          refine wpAnyH_take (i := 32) (v := ?_) rfl (by kernel_rfl) (by kernel_rfl) (by kernel_rfl) (fun _ _ _ h => h) ?_ (by assumption) ?_
          rotate_left
          · first | (refine Or.inl ⟨by rfl, ?_⟩; intro w hSw; obtain ⟨hS0, hS1, hS2, hS3, hS4, hS5, hS6, hS7, hS8, hS9⟩ := hSw; go_simp; done) | (refine Or.inl ⟨by rfl, ?_⟩; intro w hSw; obtain ⟨hS0, hS1, hS2, hS3, hS4, hS5, hS6, hS7, hS8, hS9⟩ := hSw; go_simp; with_reducible rfl)
          try simp only [List.getElem_toArray, List.getElem_cons_zero, List.getElem_cons_succ, Act.put, List.setIfInBounds_toArray, List.set_cons_zero, List.set_cons_succ]
          refine wpAnyH_take (i := 33) (v := ?_) rfl (by kernel_rfl) (by kernel_rfl) (by kernel_rfl) (fun _ _ _ h => h) ?_ (by assumption) ?_
          rotate_left
          · first | (refine Or.inl ⟨by rfl, ?_⟩; intro w hSw; go_simp; done) | (refine Or.inl ⟨by rfl, ?_⟩; intro w hSw; go_simp; with_reducible rfl)
          try simp only [List.getElem_toArray, List.getElem_cons_zero, List.getElem_cons_succ, Act.put, List.setIfInBounds_toArray, List.set_cons_zero, List.set_cons_succ]
          refine wpAnyH_take (i := 34) (v := .bool true) rfl (by kernel_rfl) (by kernel_rfl) (by kernel_rfl) (fun _ _ _ h => h) (Or.inl ⟨by rfl, ?_⟩) (by assumption) ?_
          · intro w hSw; go_simp; simp [Hln.out]
          try simp only [List.getElem_toArray, List.getElem_cons_zero, List.getElem_cons_succ, Act.put, List.setIfInBounds_toArray, List.set_cons_zero, List.set_cons_succ]
          refine wpAnyH_take (i := 35) (v := ?_) rfl (by kernel_rfl) (by kernel_rfl) (by kernel_rfl) (fun _ _ _ h => h) ?_ (by assumption) ?_
          rotate_left
          · first | (refine Or.inl ⟨by rfl, ?_⟩; intro w hSw; go_simp; done) | (refine Or.inl ⟨by rfl, ?_⟩; intro w hSw; go_simp; with_reducible rfl)
          try simp only [List.getElem_toArray, List.getElem_cons_zero, List.getElem_cons_succ, Act.put, List.setIfInBounds_toArray, List.set_cons_zero, List.set_cons_succ]
          refine wpAnyH_take (i := 36) (v := ?_) rfl (by kernel_rfl) (by kernel_rfl) (by kernel_rfl) (fun _ _ _ h => h) ?_ (by assumption) ?_
          rotate_left
          · first | (refine Or.inl ⟨by rfl, ?_⟩; intro w hSw; go_simp; done) | (refine Or.inl ⟨by rfl, ?_⟩; intro w hSw; go_simp; with_reducible rfl)
          try simp only [List.getElem_toArray, List.getElem_cons_zero, List.getElem_cons_succ, Act.put, List.setIfInBounds_toArray, List.set_cons_zero, List.set_cons_succ]
          refine wpAnyH_done (by kernel_rfl) ?_ _
          clear hHeld
          go_wp2_with fail
          go_ret
          exact ⟨rfl, BB.out⟩
end Go.Proofs.Ytkoohmibdaomkaa
