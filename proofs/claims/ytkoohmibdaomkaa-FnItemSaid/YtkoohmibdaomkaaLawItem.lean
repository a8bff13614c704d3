/- The law FnItem: what is put is there, and nothing else changes; what is dropped is not. Condition: none. -/
import Derived.Test.YtkoohmibdaomkaaBig
import Derived.Test.YtkoohmibdaomkaaDrawPutItem
import Derived.Test.YtkoohmibdaomkaaStFacts
import Derived.Test.YtkoohmibdaomkaaImplPutState
import Derived.Test.YtkoohmibdaomkaaImplDrop
import Derived.Test.YtkoohmibdaomkaaSpecSame
namespace Go.Proofs.Ytkoohmibdaomkaa
open Go.RowKit List
set_option linter.unusedVariables false
set_option linter.unusedSimpArgs false

theorem dropS_fits {s : St} {key : ByteArray} (h : Fits s) : Fits (dropS s key) := by
  unfold dropS
  split
  · refine ⟨fun x hx => h.1 x ?_, h.2⟩
    rcases List.mem_append.1 hx with hx | hx
    · exact List.mem_of_mem_take hx
    · exact List.mem_of_mem_drop hx
  · exact h
set_option maxRecDepth 100000 in
set_option maxHeartbeats 16000000 in
theorem law_item (a : Option Addr) (len cap : Nat) (zs : List Int) (w : World) (hr : IsRow .u8 w a len cap zs) :
    Calls Try.prog 3 #[.slice a len cap] w fun e w' => e = .returned (.bool true) ∧ Below w.heap.size w w' := by
  have hr := row8_of hr
  by_cases hbig : 1048576 < len
  · have hd : decide (1048576 < len) = true := by simpa using hbig
    go_enter Try.func3, Try.ntmps3
    go_wp2_with (go_at_call 15; refine (big_any _ _ _ _).mono ?_; rintro e w' ⟨rfl, rfl⟩)
    go_ret
    exact ⟨rfl, Below.refl _ _⟩
  · have hd : decide (1048576 < len) = false := by simpa using hbig
    have hlen : len ≤ 1048576 := by omega
    go_enter Try.func3, Try.ntmps3
    go_wp2_with (first | (go_at_call 15; refine (big_any _ _ _ _).mono ?_; rintro e w' ⟨rfl, rfl⟩) | (go_at_call 16; refine (drawPutItem_any a len cap zs _ hr hlen).mono ?_; rintro e w1 ⟨v, s, x, rfl, hst, hsm, hx, hb1⟩; refine Hid.out ?_))
    refine Lib.hid ?_
    have SA := Lib.hid hst
    obtain ⟨vi, vt, rfl, r1, r2⟩ := hst
    obtain ⟨sa, sn, sc, rfl⟩ := slice_of_row r1
    obtain ⟨ta, tn, tc, rfl⟩ := slice_of_row r2
    clear r1 r2 hr
    have BB : Hid (Below w.heap.size w w1) := Lib.hid hb1
    have Hfew : Hid (Few s) := Lib.hid (hsm.few (by omega) (by omega))
    have Hfit : Hid (Fits s) := Lib.hid hsm.fits
    have Hx : Hid (FitIt x) := Lib.hid ⟨by unfold maxLen; omega, by unfold maxLen; omega⟩
    obtain ⟨r, hr'⟩ : ∃ r, r = chg s (putSI s x) := ⟨_, rfl⟩
    obtain ⟨bq, hbq⟩ : ∃ b, b = chgB s (putSI s x) := ⟨_, rfl⟩
    have Hr := Lib.hid hr'
    have Hbq := Lib.hid hbq
    have hrm : Sm r 65 4 := by rw [hr']; exact hsm.putI hx
    have Hrm := Lib.hid hrm
    have Hsm := Lib.hid hsm
    have HX := Lib.hid hx
    unfold itA
    clear hr' hbq hb1 hrm hsm hx
    obtain ⟨Y1, hY1⟩ : ∃ zz, zz = w1.alloc (.cells #[.slice sa sn sc, .slice ta tn tc] 27) := ⟨_, rfl⟩
    have bY1 : Below w1.heap.size w1 Y1 := by rw [hY1]; exact (Below.refl _ _).alloc (Nat.le_refl _) _
    have sY1 : Y1.heap.size = w1.heap.size + 1 := by rw [hY1]; simp
    replace BB := Lib.hid (BB.out.trans (bY1.mono BB.out.size))
    replace SA := Lib.hid (SA.out.later bY1 bY1.size)
    have KA : Hid (Y1.heap[w1.heap.size]? = some (.cells #[.slice sa sn sc, .slice ta tn tc] 27 (0, 0))) := Lib.hid (by rw [hY1]; exact heap_new _ _)
    have LA : Hid (w1.heap.size < Y1.heap.size) := Lib.hid (by omega)
    have eY1 : Hid (Y1.heap.size = w1.heap.size + 1) := Lib.hid (by omega)
    clear bY1 sY1
    obtain ⟨Y2, hY2⟩ : ∃ zz, zz = Y1.alloc (.cells #[.string x.k, .string x.v] 29) := ⟨_, rfl⟩
    have bY2 : Below Y1.heap.size Y1 Y2 := by rw [hY2]; exact (Below.refl _ _).alloc (Nat.le_refl _) _
    have sY2 : Y2.heap.size = Y1.heap.size + 1 := by rw [hY2]; simp
    replace KA := Lib.hid ((bY2.block _ LA.out).trans KA.out)
    replace LA := Lib.hid (Nat.lt_of_lt_of_le LA.out bY2.size)
    replace BB := Lib.hid (BB.out.trans (bY2.mono BB.out.size))
    replace SA := Lib.hid (SA.out.later bY2 bY2.size)
    have KX : Hid (Y2.heap[w1.heap.size + 1]? = some (.cells #[.string x.k, .string x.v] 29 (0, 0))) := Lib.hid (by rw [← eY1.out]; rw [hY2]; exact heap_new _ _)
    have LX : Hid (w1.heap.size + 1 < Y2.heap.size) := Lib.hid (by have := eY1.out; omega)
    have eY2 : Hid (Y2.heap.size = w1.heap.size + 2) := Lib.hid (by have := eY1.out; omega)
    clear bY2 sY2
    have hc := impl_putItem s _ x Y2.heap.size Y2 SA.out (Nat.le_refl _) (Hsm.out.small (by omega) (by omega)) Hfit.out Hx.out
    rw [← Hr.out, ← Hbq.out] at hc
    unfold itA at hc
    have fA0 := cell_of_row Y2 _ 0 _ _ _ KA.out
    have fA1 := cell_of_row Y2 _ 1 _ _ _ KA.out
    simp only [List.getElem?_toArray, List.getElem?_cons_zero, List.getElem?_cons_succ] at fA0 fA1
    have fX0 := cell_of_row Y2 _ 0 _ _ _ KX.out
    have fX1 := cell_of_row Y2 _ 1 _ _ _ KX.out
    simp only [List.getElem?_toArray, List.getElem?_cons_zero, List.getElem?_cons_succ] at fX0 fX1
    rw [hY2] at hc fA0 fA1 fX0 fX1
    rw [hY1] at hc fA0 fA1 fX0 fX1
    go_wp2_with (go_at_call 17; refine hc.mono ?_; rintro e w2 ⟨_, rfl, ho, hb⟩; refine Hid.out ?_)
    refine Lib.hid ?_
    rw [← hY1] at hb
    rw [← hY2] at hb
    clear fA0 fA1 fX0 fX1
    replace KA := Lib.hid ((hb.block _ LA.out).trans KA.out)
    replace LA := Lib.hid (Nat.lt_of_lt_of_le LA.out hb.size)
    replace KX := Lib.hid ((hb.block _ LX.out).trans KX.out)
    replace LX := Lib.hid (Nat.lt_of_lt_of_le LX.out hb.size)
    replace BB := Lib.hid (BB.out.trans (hb.mono BB.out.size))
    replace SA := Lib.hid (SA.out.later hb hb.size)
    clear hc hY2 hY1
    have STt := Lib.hid ho.st
    obtain ⟨_, _, ti, tci, tt, tct, rfl, _, ⟨tai, rfl, sai⟩, ⟨tat, rfl, _⟩, gT, _⟩ := ho
    have GT := Lib.hid gT
    have SAI : Hid (NilOr tai ti r.items.length tci) := Lib.hid sai
    clear gT sai hb
    obtain ⟨Y3, hY3⟩ : ∃ zz, zz = w2.alloc (.cells #[.slice tai r.items.length tci, .slice tat r.talks.length tct] 27) := ⟨_, rfl⟩
    have bY3 : Below w2.heap.size w2 Y3 := by rw [hY3]; exact (Below.refl _ _).alloc (Nat.le_refl _) _
    have sY3 : Y3.heap.size = w2.heap.size + 1 := by rw [hY3]; simp
    replace KA := Lib.hid ((bY3.block _ LA.out).trans KA.out)
    replace LA := Lib.hid (Nat.lt_of_lt_of_le LA.out bY3.size)
    replace KX := Lib.hid ((bY3.block _ LX.out).trans KX.out)
    replace LX := Lib.hid (Nat.lt_of_lt_of_le LX.out bY3.size)
    replace GT := Lib.hid (GT.out.later bY3)
    replace BB := Lib.hid (BB.out.trans (bY3.mono BB.out.size))
    replace SA := Lib.hid (SA.out.later bY3 bY3.size)
    replace STt := Lib.hid (STt.out.later bY3 bY3.size)
    have KT : Hid (Y3.heap[w2.heap.size]? = some (.cells #[.slice tai r.items.length tci, .slice tat r.talks.length tct] 27 (0, 0))) := Lib.hid (by rw [hY3]; exact heap_new _ _)
    have LT : Hid (w2.heap.size < Y3.heap.size) := Lib.hid (by omega)
    have eY3 : Hid (Y3.heap.size = w2.heap.size + 1) := Lib.hid (by omega)
    clear bY3 sY3
    have hc := spec_putItemAny s _ x Y3.heap.size Y3 SA.out (Nat.le_refl _) (by have := Hsm.out.1; omega) Hfew.out Hfit.out Hx.out
    rw [← Hr.out, ← Hbq.out] at hc
    unfold itA at hc
    have fA0 := cell_of_row Y3 _ 0 _ _ _ KA.out
    have fA1 := cell_of_row Y3 _ 1 _ _ _ KA.out
    simp only [List.getElem?_toArray, List.getElem?_cons_zero, List.getElem?_cons_succ] at fA0 fA1
    have fX0 := cell_of_row Y3 _ 0 _ _ _ KX.out
    have fX1 := cell_of_row Y3 _ 1 _ _ _ KX.out
    simp only [List.getElem?_toArray, List.getElem?_cons_zero, List.getElem?_cons_succ] at fX0 fX1
    rw [hY3] at hc fA0 fA1 fX0 fX1
    go_wp2_with (go_at_call 18; refine hc.mono ?_; rintro e w3 ⟨_, rfl, ho, hb⟩; refine Hid.out ?_)
    refine Lib.hid ?_
    rw [← hY3] at hb
    clear fA0 fA1 fX0 fX1
    replace KA := Lib.hid ((hb.block _ LA.out).trans KA.out)
    replace LA := Lib.hid (Nat.lt_of_lt_of_le LA.out hb.size)
    replace KX := Lib.hid ((hb.block _ LX.out).trans KX.out)
    replace LX := Lib.hid (Nat.lt_of_lt_of_le LX.out hb.size)
    replace KT := Lib.hid ((hb.block _ LT.out).trans KT.out)
    replace LT := Lib.hid (Nat.lt_of_lt_of_le LT.out hb.size)
    replace GT := Lib.hid (GT.out.later hb)
    replace BB := Lib.hid (BB.out.trans (hb.mono BB.out.size))
    replace SA := Lib.hid (SA.out.later hb hb.size)
    replace STt := Lib.hid (STt.out.later hb hb.size)
    clear hc hY3
    have SW := Lib.hid ho.n.st
    obtain ⟨gi, gci, gt, gct, rfl, _, _, _⟩ := ho
    clear hb
    obtain ⟨Y4, hY4⟩ : ∃ zz, zz = w3.alloc (.cells #[.slice (some ⟨gi, 0, none⟩) r.items.length gci, .slice (some ⟨gt, 0, none⟩) r.talks.length gct] 27) := ⟨_, rfl⟩
    have bY4 : Below w3.heap.size w3 Y4 := by rw [hY4]; exact (Below.refl _ _).alloc (Nat.le_refl _) _
    have sY4 : Y4.heap.size = w3.heap.size + 1 := by rw [hY4]; simp
    replace KA := Lib.hid ((bY4.block _ LA.out).trans KA.out)
    replace LA := Lib.hid (Nat.lt_of_lt_of_le LA.out bY4.size)
    replace KX := Lib.hid ((bY4.block _ LX.out).trans KX.out)
    replace LX := Lib.hid (Nat.lt_of_lt_of_le LX.out bY4.size)
    replace KT := Lib.hid ((bY4.block _ LT.out).trans KT.out)
    replace LT := Lib.hid (Nat.lt_of_lt_of_le LT.out bY4.size)
    replace GT := Lib.hid (GT.out.later bY4)
    replace BB := Lib.hid (BB.out.trans (bY4.mono BB.out.size))
    replace SA := Lib.hid (SA.out.later bY4 bY4.size)
    replace STt := Lib.hid (STt.out.later bY4 bY4.size)
    replace SW := Lib.hid (SW.out.later bY4 bY4.size)
    have KW : Hid (Y4.heap[w3.heap.size]? = some (.cells #[.slice (some ⟨gi, 0, none⟩) r.items.length gci, .slice (some ⟨gt, 0, none⟩) r.talks.length gct] 27 (0, 0))) := Lib.hid (by rw [hY4]; exact heap_new _ _)
    have LW : Hid (w3.heap.size < Y4.heap.size) := Lib.hid (by omega)
    have eY4 : Hid (Y4.heap.size = w3.heap.size + 1) := Lib.hid (by omega)
    clear bY4 sY4
    go_wp2_with fail
    rw [← hY4]
    clear hY4
    have hbb : (bq != bq) = false := by simp
    have hss : (stOk s != stOk s) = false := by simp
    obtain ⟨oks, hoks⟩ : ∃ b, b = stOk s := ⟨_, rfl⟩
    have Hoks := Lib.hid hoks
    rw [← hoks] at hss
    clear hoks
    obtain ⟨zD, hzD⟩ : ∃ z, z = Y4.drew := ⟨_, rfl⟩
    have bzD : Below Y4.heap.size Y4 zD := by rw [hzD]; exact (Below.refl _ _).drew
    replace KA := Lib.hid ((bzD.block _ LA.out).trans KA.out)
    replace LA := Lib.hid (Nat.lt_of_lt_of_le LA.out bzD.size)
    replace KX := Lib.hid ((bzD.block _ LX.out).trans KX.out)
    replace LX := Lib.hid (Nat.lt_of_lt_of_le LX.out bzD.size)
    replace KT := Lib.hid ((bzD.block _ LT.out).trans KT.out)
    replace LT := Lib.hid (Nat.lt_of_lt_of_le LT.out bzD.size)
    replace KW := Lib.hid ((bzD.block _ LW.out).trans KW.out)
    replace LW := Lib.hid (Nat.lt_of_lt_of_le LW.out bzD.size)
    replace GT := Lib.hid (GT.out.later bzD)
    replace BB := Lib.hid (BB.out.trans (bzD.mono BB.out.size))
    replace SA := Lib.hid (SA.out.later bzD bzD.size)
    replace STt := Lib.hid (STt.out.later bzD bzD.size)
    replace SW := Lib.hid (SW.out.later bzD bzD.size)
    refine wp_region_held_drew (S := (fun w' => w'.cell? ⟨w1.heap.size, 0, none⟩ = some (.slice sa sn sc) ∧ w'.cell? ⟨w1.heap.size, 1, none⟩ = some (.slice ta tn tc) ∧ w'.cell? ⟨w2.heap.size, 0, none⟩ = some (.slice tai r.items.length tci) ∧ w'.cell? ⟨w2.heap.size, 1, none⟩ = some (.slice tat r.talks.length tct) ∧ w'.cell? ⟨w3.heap.size, 0, none⟩ = some (.slice (some ⟨gi, 0, none⟩) r.items.length gci) ∧ w'.cell? ⟨w3.heap.size, 1, none⟩ = some (.slice (some ⟨gt, 0, none⟩) r.talks.length gct))) (by kernel_rfl) (by rw [← hzD]; exact ⟨(by simpa using cell_of_row zD _ 0 _ _ _ KA.out), (by simpa using cell_of_row zD _ 1 _ _ _ KA.out), (by simpa using cell_of_row zD _ 0 _ _ _ KT.out), (by simpa using cell_of_row zD _ 1 _ _ _ KT.out), (by simpa using cell_of_row zD _ 0 _ _ _ KW.out), (by simpa using cell_of_row zD _ 1 _ _ _ KW.out)⟩) (fun hHeld => ?_)
    rw [← hzD] at hHeld ⊢
    have bzE := Lib.hid bzD
    clear bzD hzD
    refine wpAnyH_take (i := 0) (v := ?_) rfl (by kernel_rfl) (by kernel_rfl) (by kernel_rfl) (fun _ _ _ h => h) ?_ (by assumption) ?_
    rotate_left
    · first | (refine Or.inl ⟨by rfl, ?_⟩; intro w hSw; go_simp; done) | (refine Or.inl ⟨by rfl, ?_⟩; intro w hSw; go_simp; with_reducible rfl)
    try simp only [getElem_toArray, getElem_cons_zero, Act.put, setIfInBounds_toArray, set_cons_zero, set_cons_succ]
    refine wpAnyH_take (i := 1) (v := ?_) rfl (by kernel_rfl) (by kernel_rfl) (by kernel_rfl) (fun _ _ _ h => h) ?_ (by assumption) ?_
    rotate_left
    · first | (refine Or.inl ⟨by rfl, ?_⟩; intro w hSw; go_simp; done) | (refine Or.inl ⟨by rfl, ?_⟩; intro w hSw; go_simp; with_reducible rfl)
    try simp only [getElem_toArray, getElem_cons_zero, getElem_cons_succ, Act.put, setIfInBounds_toArray, set_cons_zero, set_cons_succ]
    refine wpAnyH_take (i := 2) (v := ?_) rfl (by kernel_rfl) (by kernel_rfl) (by kernel_rfl) (fun _ _ _ h => h) ?_ (by assumption) ?_
    rotate_left
    · first | (refine Or.inl ⟨by rfl, ?_⟩; intro w hSw; go_simp; done) | (refine Or.inl ⟨by rfl, ?_⟩; intro w hSw; go_simp; with_reducible rfl)
    try simp only [getElem_toArray, getElem_cons_zero, getElem_cons_succ, Act.put, setIfInBounds_toArray, set_cons_zero, set_cons_succ]
    refine wpAnyH_take (i := 3) (v := ?_) rfl (by kernel_rfl) (by kernel_rfl) (by kernel_rfl) (fun _ _ _ h => h) ?_ (by assumption) ?_
    rotate_left
    · first | (refine Or.inl ⟨by rfl, ?_⟩; intro w hSw; go_simp; done) | (refine Or.inl ⟨by rfl, ?_⟩; intro w hSw; go_simp; with_reducible rfl)
    try simp only [getElem_toArray, getElem_cons_zero, getElem_cons_succ, Act.put, setIfInBounds_toArray, set_cons_zero, set_cons_succ]
    refine wpAnyH_take (i := 4) (v := ?_) rfl (by kernel_rfl) (by kernel_rfl) (by kernel_rfl) (fun _ _ _ h => h) ?_ (by assumption) ?_
    rotate_left
    · first | (refine Or.inl ⟨by rfl, ?_⟩; intro w hSw; obtain ⟨hS0, hS1, hS2, hS3, hS4, hS5⟩ := hSw; go_simp; done) | (refine Or.inl ⟨by rfl, ?_⟩; intro w hSw; obtain ⟨hS0, hS1, hS2, hS3, hS4, hS5⟩ := hSw; go_simp; with_reducible rfl)
    try simp only [getElem_toArray, getElem_cons_zero, getElem_cons_succ, Act.put, setIfInBounds_toArray, set_cons_zero, set_cons_succ]
    refine wpAnyH_take (i := 5) (v := ?_) rfl (by kernel_rfl) (by kernel_rfl) (by kernel_rfl) (fun _ _ _ h => h) ?_ (by assumption) ?_
    rotate_left
    · first | (refine Or.inl ⟨by rfl, ?_⟩; intro w hSw; obtain ⟨hS0, hS1, hS2, hS3, hS4, hS5⟩ := hSw; go_simp; done) | (refine Or.inl ⟨by rfl, ?_⟩; intro w hSw; obtain ⟨hS0, hS1, hS2, hS3, hS4, hS5⟩ := hSw; go_simp; with_reducible rfl)
    try simp only [getElem_toArray, getElem_cons_zero, getElem_cons_succ, Act.put, setIfInBounds_toArray, set_cons_zero, set_cons_succ]
    refine wpAnyH_ready (rs := [6]) (by kernel_rfl) (by simp) ?_
    refine AllReadyH.cons rfl (fun K hK => ?_) AllReadyH.nil
    go_simp
    go_at_call 19
    refine (spec_same r r _ _ zD.heap.size zD STt.out.rd SW.out.rd (Nat.le_refl _)).mono ?_
    rintro e w5 ⟨bb, rfl, hbe, hb⟩
    obtain rfl : bb = true := hbe.2 rfl
    replace KA := Lib.hid ((hb.block _ LA.out).trans KA.out)
    replace LA := Lib.hid (Nat.lt_of_lt_of_le LA.out hb.size)
    replace KX := Lib.hid ((hb.block _ LX.out).trans KX.out)
    replace LX := Lib.hid (Nat.lt_of_lt_of_le LX.out hb.size)
    replace KT := Lib.hid ((hb.block _ LT.out).trans KT.out)
    replace LT := Lib.hid (Nat.lt_of_lt_of_le LT.out hb.size)
    replace KW := Lib.hid ((hb.block _ LW.out).trans KW.out)
    replace LW := Lib.hid (Nat.lt_of_lt_of_le LW.out hb.size)
    replace GT := Lib.hid (GT.out.later hb)
    replace BB := Lib.hid (BB.out.trans (hb.mono BB.out.size))
    replace SA := Lib.hid (SA.out.later hb hb.size)
    replace STt := Lib.hid (STt.out.later hb hb.size)
    replace SW := Lib.hid (SW.out.later hb hb.size)
    clear hb hbe
    go_wp2_with fail
    refine hK.out _ _ ⟨(by simpa using cell_of_row w5 _ 0 _ _ _ KA.out), (by simpa using cell_of_row w5 _ 1 _ _ _ KA.out), (by simpa using cell_of_row w5 _ 0 _ _ _ KT.out), (by simpa using cell_of_row w5 _ 1 _ _ _ KT.out), (by simpa using cell_of_row w5 _ 0 _ _ _ KW.out), (by simpa using cell_of_row w5 _ 1 _ _ _ KW.out)⟩ (fun hHeld => ?_)
    clear hK K
    try simp only [getElem_toArray, getElem_cons_zero, getElem_cons_succ, Act.put, setIfInBounds_toArray, set_cons_zero, set_cons_succ]
    refine wpAnyH_take (i := 7) (v := ?_) rfl (by kernel_rfl) (by kernel_rfl) (by kernel_rfl) (fun _ _ _ h => h) ?_ (by assumption) ?_
    rotate_left
    · first | (refine Or.inl ⟨by rfl, ?_⟩; intro w hSw; go_simp; done) | (refine Or.inl ⟨by rfl, ?_⟩; intro w hSw; go_simp; with_reducible rfl)
    try simp only [getElem_toArray, getElem_cons_zero, getElem_cons_succ, Act.put, setIfInBounds_toArray, set_cons_zero, set_cons_succ]
    refine wpAnyH_take (i := 8) (v := ?_) rfl (by kernel_rfl) (by kernel_rfl) (by kernel_rfl) (fun _ _ _ h => h) ?_ (by assumption) ?_
    rotate_left
    · first | (refine Or.inl ⟨by rfl, ?_⟩; intro w hSw; go_simp; done) | (refine Or.inl ⟨by rfl, ?_⟩; intro w hSw; go_simp; with_reducible rfl)
    try simp only [getElem_toArray, getElem_cons_zero, getElem_cons_succ, Act.put, setIfInBounds_toArray, set_cons_zero, set_cons_succ]
    refine wpAnyH_take (i := 9) (v := ?_) rfl (by kernel_rfl) (by kernel_rfl) (by kernel_rfl) (fun _ _ _ h => h) ?_ (by assumption) ?_
    rotate_left
    · first | (refine Or.inl ⟨by rfl, ?_⟩; intro w hSw; go_simp; done) | (refine Or.inl ⟨by rfl, ?_⟩; intro w hSw; go_simp; with_reducible rfl)
    try simp only [getElem_toArray, getElem_cons_zero, getElem_cons_succ, Act.put, setIfInBounds_toArray, set_cons_zero, set_cons_succ]
    refine wpAnyH_take (i := 10) (v := ?_) rfl (by kernel_rfl) (by kernel_rfl) (by kernel_rfl) (fun _ _ _ h => h) ?_ (by assumption) ?_
    rotate_left
    · first | (refine Or.inl ⟨by rfl, ?_⟩; intro w hSw; obtain ⟨hS0, hS1, hS2, hS3, hS4, hS5⟩ := hSw; go_simp; done) | (refine Or.inl ⟨by rfl, ?_⟩; intro w hSw; obtain ⟨hS0, hS1, hS2, hS3, hS4, hS5⟩ := hSw; go_simp; with_reducible rfl)
    try simp only [getElem_toArray, getElem_cons_zero, getElem_cons_succ, Act.put, setIfInBounds_toArray, set_cons_zero, set_cons_succ]
    refine wpAnyH_take (i := 12) (v := ?_) rfl (by kernel_rfl) (by kernel_rfl) (by kernel_rfl) (fun _ _ _ h => h) ?_ (by assumption) ?_
    rotate_left
    · first | (refine Or.inl ⟨by rfl, ?_⟩; intro w hSw; obtain ⟨hS0, hS1, hS2, hS3, hS4, hS5⟩ := hSw; go_simp; done) | (refine Or.inl ⟨by rfl, ?_⟩; intro w hSw; obtain ⟨hS0, hS1, hS2, hS3, hS4, hS5⟩ := hSw; go_simp; with_reducible rfl)
    try simp only [getElem_toArray, getElem_cons_zero, getElem_cons_succ, Act.put, setIfInBounds_toArray, set_cons_zero, set_cons_succ]
    refine wpAnyH_ready (rs := [11]) (by kernel_rfl) (by simp) ?_
    refine AllReadyH.cons rfl (fun K hK => ?_) AllReadyH.nil
    go_simp
    have hc := impl_stateOk s _ w5.heap.size w5 SA.out (Nat.le_refl _) Hfit.out
    rw [← Hoks.out] at hc
    go_at_call 20
    refine (hc).mono ?_
    rintro e w6 ⟨rfl, hb⟩
    replace KA := Lib.hid ((hb.block _ LA.out).trans KA.out)
    replace LA := Lib.hid (Nat.lt_of_lt_of_le LA.out hb.size)
    replace KX := Lib.hid ((hb.block _ LX.out).trans KX.out)
    replace LX := Lib.hid (Nat.lt_of_lt_of_le LX.out hb.size)
    replace KT := Lib.hid ((hb.block _ LT.out).trans KT.out)
    replace LT := Lib.hid (Nat.lt_of_lt_of_le LT.out hb.size)
    replace KW := Lib.hid ((hb.block _ LW.out).trans KW.out)
    replace LW := Lib.hid (Nat.lt_of_lt_of_le LW.out hb.size)
    replace GT := Lib.hid (GT.out.later hb)
    replace BB := Lib.hid (BB.out.trans (hb.mono BB.out.size))
    replace SA := Lib.hid (SA.out.later hb hb.size)
    replace STt := Lib.hid (STt.out.later hb hb.size)
    replace SW := Lib.hid (SW.out.later hb hb.size)
    clear hb
    clear hc
    go_wp2_with fail
    refine hK.out _ _ ⟨(by simpa using cell_of_row w6 _ 0 _ _ _ KA.out), (by simpa using cell_of_row w6 _ 1 _ _ _ KA.out), (by simpa using cell_of_row w6 _ 0 _ _ _ KT.out), (by simpa using cell_of_row w6 _ 1 _ _ _ KT.out), (by simpa using cell_of_row w6 _ 0 _ _ _ KW.out), (by simpa using cell_of_row w6 _ 1 _ _ _ KW.out)⟩ (fun hHeld => ?_)
    clear hK K
    try simp only [getElem_toArray, getElem_cons_zero, getElem_cons_succ, Act.put, setIfInBounds_toArray, set_cons_zero, set_cons_succ]
    refine wpAnyH_ready (rs := [13]) (by kernel_rfl) (by simp) ?_
    refine AllReadyH.cons rfl (fun K hK => ?_) AllReadyH.nil
    go_simp
    have hc := spec_stateOk s _ w6.heap.size w6 SA.out (Nat.le_refl _) Hfit.out
    rw [← Hoks.out] at hc
    go_at_call 21
    refine (hc).mono ?_
    rintro e w7 ⟨rfl, hb⟩
    replace KA := Lib.hid ((hb.block _ LA.out).trans KA.out)
    replace LA := Lib.hid (Nat.lt_of_lt_of_le LA.out hb.size)
    replace KX := Lib.hid ((hb.block _ LX.out).trans KX.out)
    replace LX := Lib.hid (Nat.lt_of_lt_of_le LX.out hb.size)
    replace KT := Lib.hid ((hb.block _ LT.out).trans KT.out)
    replace LT := Lib.hid (Nat.lt_of_lt_of_le LT.out hb.size)
    replace KW := Lib.hid ((hb.block _ LW.out).trans KW.out)
    replace LW := Lib.hid (Nat.lt_of_lt_of_le LW.out hb.size)
    replace GT := Lib.hid (GT.out.later hb)
    replace BB := Lib.hid (BB.out.trans (hb.mono BB.out.size))
    replace SA := Lib.hid (SA.out.later hb hb.size)
    replace STt := Lib.hid (STt.out.later hb hb.size)
    replace SW := Lib.hid (SW.out.later hb hb.size)
    clear hb
    clear hc
    go_wp2_with fail
    refine hK.out _ _ ⟨(by simpa using cell_of_row w7 _ 0 _ _ _ KA.out), (by simpa using cell_of_row w7 _ 1 _ _ _ KA.out), (by simpa using cell_of_row w7 _ 0 _ _ _ KT.out), (by simpa using cell_of_row w7 _ 1 _ _ _ KT.out), (by simpa using cell_of_row w7 _ 0 _ _ _ KW.out), (by simpa using cell_of_row w7 _ 1 _ _ _ KW.out)⟩ (fun hHeld => ?_)
    clear hK K
    try simp only [getElem_toArray, getElem_cons_zero, getElem_cons_succ, Act.put, setIfInBounds_toArray, set_cons_zero, set_cons_succ]
    refine wpAnyH_take (i := 14) (v := ?_) rfl (by kernel_rfl) (by kernel_rfl) (by kernel_rfl) (fun _ _ _ h => h) ?_ (by assumption) ?_
    rotate_left
    · first | (refine Or.inl ⟨by rfl, ?_⟩; intro w hSw; go_simp; done) | (refine Or.inl ⟨by rfl, ?_⟩; intro w hSw; go_simp; with_reducible rfl)
    try simp only [getElem_toArray, getElem_cons_zero, getElem_cons_succ, Act.put, setIfInBounds_toArray, set_cons_zero, set_cons_succ]
    refine wpAnyH_take (i := 15) (v := ?_) rfl (by kernel_rfl) (by kernel_rfl) (by kernel_rfl) (fun _ _ _ h => h) ?_ (by assumption) ?_
    rotate_left
    · first | (refine Or.inl ⟨by rfl, ?_⟩; intro w hSw; go_simp; done) | (refine Or.inl ⟨by rfl, ?_⟩; intro w hSw; go_simp; with_reducible rfl)
    try simp only [getElem_toArray, getElem_cons_zero, getElem_cons_succ, Act.put, setIfInBounds_toArray, set_cons_zero, set_cons_succ]
    refine wpAnyH_done (by kernel_rfl) ?_ _
    clear hHeld
    clear hbb hss
    cases bq
    case false =>
      have Heq : Hid (r = s) := Lib.hid (by rw [Hr.out]; exact chg_not Hbq.out.symm)
      have fA0 := cell_of_row w7 _ 0 _ _ _ KA.out
      have fA1 := cell_of_row w7 _ 1 _ _ _ KA.out
      simp only [List.getElem?_toArray, List.getElem?_cons_zero, List.getElem?_cons_succ] at fA0 fA1
      have fT0 := cell_of_row w7 _ 0 _ _ _ KT.out
      have fT1 := cell_of_row w7 _ 1 _ _ _ KT.out
      simp only [List.getElem?_toArray, List.getElem?_cons_zero, List.getElem?_cons_succ] at fT0 fT1
      have hc := spec_same r s _ _ w7.heap.size w7 STt.out.rd SA.out.rd (Nat.le_refl _)
      go_wp2_with (go_at_call 19; refine hc.mono ?_; rintro e w8 ⟨bb, rfl, hbe, hb⟩; refine Hid.out ?_)
      refine Lib.hid ?_
      obtain rfl : bb = true := hbe.2 Heq.out
      skip
      go_wp2
      go_ret
      exact ⟨rfl, BB.out.trans (hb.mono BB.out.size)⟩
    case true =>
      have hq := Hbq.out.symm
      have hrp : r = putSI s x := by rw [Hr.out]; exact chg_of hq
      obtain ⟨i, hi, e1, e2, e3, e4⟩ := item_facts hq
      have hok := (chgB_both hq).2
      rw [← hrp] at e1 e3 e4 hok
      have hi' : i < r.items.length := by rw [hrp]; exact hi
      have e5 : r.items[i] = x := by simp only [hrp]; exact e2
      obtain rfl : tai = some ⟨ti, 0, none⟩ := by
        rcases SAI.out with h | ⟨_, h, _⟩
        · exact h
        · omega
      have E1 := Lib.hid e1
      have E3 := Lib.hid e3
      have Heq : Hid (dropS r x.k = dropS s x.k) := Lib.hid e4
      have Hok := Lib.hid hok
      have Hi := Lib.hid hi'
      have E5 : Hid (∃ h : i < r.items.length, r.items[i] = x) := Lib.hid ⟨hi', e5⟩
      have Hrp := Lib.hid hrp
      have HxS : Hid (x.k.size ≤ maxLen) := Lib.hid Hx.out.1
      clear hq hrp hi e1 e2 e3 e4 hok hi' e5 SAI
      have hc := spec_itemAt r _ w7.heap.size x.k w7 STt.out (Nat.le_refl _)
      rw [E1.out] at hc
      have fT0 := cell_of_row w7 _ 0 _ _ _ KT.out
      have fT1 := cell_of_row w7 _ 1 _ _ _ KT.out
      simp only [List.getElem?_toArray, List.getElem?_cons_zero, List.getElem?_cons_succ] at fT0 fT1
      have fX0 := cell_of_row w7 _ 0 _ _ _ KX.out
      have fX1 := cell_of_row w7 _ 1 _ _ _ KX.out
      simp only [List.getElem?_toArray, List.getElem?_cons_zero, List.getElem?_cons_succ] at fX0 fX1
      go_wp2_with (go_at_call 22; refine hc.mono ?_; rintro e w8 ⟨rfl, hb⟩; refine Hid.out ?_)
      refine Lib.hid ?_
      clear fT0 fT1 fX0 fX1
      replace KA := Lib.hid ((hb.block _ LA.out).trans KA.out)
      replace LA := Lib.hid (Nat.lt_of_lt_of_le LA.out hb.size)
      replace KX := Lib.hid ((hb.block _ LX.out).trans KX.out)
      replace LX := Lib.hid (Nat.lt_of_lt_of_le LX.out hb.size)
      replace KT := Lib.hid ((hb.block _ LT.out).trans KT.out)
      replace LT := Lib.hid (Nat.lt_of_lt_of_le LT.out hb.size)
      replace KW := Lib.hid ((hb.block _ LW.out).trans KW.out)
      replace LW := Lib.hid (Nat.lt_of_lt_of_le LW.out hb.size)
      replace GT := Lib.hid (GT.out.later hb)
      replace BB := Lib.hid (BB.out.trans (hb.mono BB.out.size))
      replace SA := Lib.hid (SA.out.later hb hb.size)
      replace STt := Lib.hid (STt.out.later hb hb.size)
      replace SW := Lib.hid (SW.out.later hb hb.size)
      clear hc
      clear hb
      have hc := impl_dropItem r _ w8.heap.size x.k w8 STt.out (Nat.le_refl _) (Hrm.out.few (by omega) (by omega)) Hrm.out.fits HxS.out
      have fT0 := cell_of_row w8 _ 0 _ _ _ KT.out
      have fT1 := cell_of_row w8 _ 1 _ _ _ KT.out
      simp only [List.getElem?_toArray, List.getElem?_cons_zero, List.getElem?_cons_succ] at fT0 fT1
      have fX0 := cell_of_row w8 _ 0 _ _ _ KX.out
      have fX1 := cell_of_row w8 _ 1 _ _ _ KX.out
      simp only [List.getElem?_toArray, List.getElem?_cons_zero, List.getElem?_cons_succ] at fX0 fX1
      go_wp2_with (go_at_call 23; refine hc.mono ?_; rintro e w9 ⟨_, rfl, ho, hb⟩; refine Hid.out ?_)
      refine Lib.hid ?_
      clear fT0 fT1 fX0 fX1
      replace KA := Lib.hid ((hb.block _ LA.out).trans KA.out)
      replace LA := Lib.hid (Nat.lt_of_lt_of_le LA.out hb.size)
      replace KX := Lib.hid ((hb.block _ LX.out).trans KX.out)
      replace LX := Lib.hid (Nat.lt_of_lt_of_le LX.out hb.size)
      replace KT := Lib.hid ((hb.block _ LT.out).trans KT.out)
      replace LT := Lib.hid (Nat.lt_of_lt_of_le LT.out hb.size)
      replace KW := Lib.hid ((hb.block _ LW.out).trans KW.out)
      replace LW := Lib.hid (Nat.lt_of_lt_of_le LW.out hb.size)
      replace GT := Lib.hid (GT.out.later hb)
      replace BB := Lib.hid (BB.out.trans (hb.mono BB.out.size))
      replace SA := Lib.hid (SA.out.later hb hb.size)
      replace STt := Lib.hid (STt.out.later hb hb.size)
      replace SW := Lib.hid (SW.out.later hb hb.size)
      clear hc
      obtain ⟨dr, hdr⟩ : ∃ d, d = dropS r x.k := ⟨_, rfl⟩
      rw [← hdr] at ho
      have Hdr := Lib.hid hdr
      have SG := Lib.hid ho.st
      obtain ⟨_, _, ni, nci, nt, nct, rfl, _, ⟨nai, rfl, _⟩, ⟨nat_, rfl, _⟩, _, _⟩ := ho
      clear hb hdr
      obtain ⟨Y5, hY5⟩ : ∃ zz, zz = w9.alloc (.cells #[.slice nai dr.items.length nci, .slice nat_ dr.talks.length nct] 27) := ⟨_, rfl⟩
      have bY5 : Below w9.heap.size w9 Y5 := by rw [hY5]; exact (Below.refl _ _).alloc (Nat.le_refl _) _
      have sY5 : Y5.heap.size = w9.heap.size + 1 := by rw [hY5]; simp
      replace KA := Lib.hid ((bY5.block _ LA.out).trans KA.out)
      replace LA := Lib.hid (Nat.lt_of_lt_of_le LA.out bY5.size)
      replace KX := Lib.hid ((bY5.block _ LX.out).trans KX.out)
      replace LX := Lib.hid (Nat.lt_of_lt_of_le LX.out bY5.size)
      replace KT := Lib.hid ((bY5.block _ LT.out).trans KT.out)
      replace LT := Lib.hid (Nat.lt_of_lt_of_le LT.out bY5.size)
      replace KW := Lib.hid ((bY5.block _ LW.out).trans KW.out)
      replace LW := Lib.hid (Nat.lt_of_lt_of_le LW.out bY5.size)
      replace GT := Lib.hid (GT.out.later bY5)
      replace BB := Lib.hid (BB.out.trans (bY5.mono BB.out.size))
      replace SA := Lib.hid (SA.out.later bY5 bY5.size)
      replace STt := Lib.hid (STt.out.later bY5 bY5.size)
      replace SW := Lib.hid (SW.out.later bY5 bY5.size)
      replace SG := Lib.hid (SG.out.later bY5 bY5.size)
      have KG : Hid (Y5.heap[w9.heap.size]? = some (.cells #[.slice nai dr.items.length nci, .slice nat_ dr.talks.length nct] 27 (0, 0))) := Lib.hid (by rw [hY5]; exact heap_new _ _)
      have LG : Hid (w9.heap.size < Y5.heap.size) := Lib.hid (by omega)
      have eY5 : Hid (Y5.heap.size = w9.heap.size + 1) := Lib.hid (by omega)
      clear bY5 sY5
      have hc := impl_dropItem s _ Y5.heap.size x.k Y5 SA.out (Nat.le_refl _) Hfew.out Hfit.out HxS.out
      have fA0 := cell_of_row Y5 _ 0 _ _ _ KA.out
      have fA1 := cell_of_row Y5 _ 1 _ _ _ KA.out
      simp only [List.getElem?_toArray, List.getElem?_cons_zero, List.getElem?_cons_succ] at fA0 fA1
      have fX0 := cell_of_row Y5 _ 0 _ _ _ KX.out
      have fX1 := cell_of_row Y5 _ 1 _ _ _ KX.out
      simp only [List.getElem?_toArray, List.getElem?_cons_zero, List.getElem?_cons_succ] at fX0 fX1
      rw [hY5] at hc fA0 fA1 fX0 fX1
      go_wp2_with (go_at_call 23; refine hc.mono ?_; rintro e w10 ⟨_, rfl, ho, hb⟩; refine Hid.out ?_)
      refine Lib.hid ?_
      rw [← hY5] at hb
      clear fA0 fA1 fX0 fX1
      replace KA := Lib.hid ((hb.block _ LA.out).trans KA.out)
      replace LA := Lib.hid (Nat.lt_of_lt_of_le LA.out hb.size)
      replace KX := Lib.hid ((hb.block _ LX.out).trans KX.out)
      replace LX := Lib.hid (Nat.lt_of_lt_of_le LX.out hb.size)
      replace KT := Lib.hid ((hb.block _ LT.out).trans KT.out)
      replace LT := Lib.hid (Nat.lt_of_lt_of_le LT.out hb.size)
      replace KW := Lib.hid ((hb.block _ LW.out).trans KW.out)
      replace LW := Lib.hid (Nat.lt_of_lt_of_le LW.out hb.size)
      replace KG := Lib.hid ((hb.block _ LG.out).trans KG.out)
      replace LG := Lib.hid (Nat.lt_of_lt_of_le LG.out hb.size)
      replace GT := Lib.hid (GT.out.later hb)
      replace BB := Lib.hid (BB.out.trans (hb.mono BB.out.size))
      replace SA := Lib.hid (SA.out.later hb hb.size)
      replace STt := Lib.hid (STt.out.later hb hb.size)
      replace SW := Lib.hid (SW.out.later hb hb.size)
      replace SG := Lib.hid (SG.out.later hb hb.size)
      clear hc hY5
      rw [← Heq.out, ← Hdr.out] at ho
      have SV := Lib.hid ho.st
      obtain ⟨_, _, mi, mci, mt, mct, rfl, _, ⟨mai, rfl, _⟩, ⟨mat, rfl, _⟩, _, _⟩ := ho
      clear hb
      obtain ⟨Y6, hY6⟩ : ∃ zz, zz = w10.alloc (.cells #[.slice mai dr.items.length mci, .slice mat dr.talks.length mct] 27) := ⟨_, rfl⟩
      have bY6 : Below w10.heap.size w10 Y6 := by rw [hY6]; exact (Below.refl _ _).alloc (Nat.le_refl _) _
      have sY6 : Y6.heap.size = w10.heap.size + 1 := by rw [hY6]; simp
      replace KA := Lib.hid ((bY6.block _ LA.out).trans KA.out)
      replace LA := Lib.hid (Nat.lt_of_lt_of_le LA.out bY6.size)
      replace KX := Lib.hid ((bY6.block _ LX.out).trans KX.out)
      replace LX := Lib.hid (Nat.lt_of_lt_of_le LX.out bY6.size)
      replace KT := Lib.hid ((bY6.block _ LT.out).trans KT.out)
      replace LT := Lib.hid (Nat.lt_of_lt_of_le LT.out bY6.size)
      replace KW := Lib.hid ((bY6.block _ LW.out).trans KW.out)
      replace LW := Lib.hid (Nat.lt_of_lt_of_le LW.out bY6.size)
      replace KG := Lib.hid ((bY6.block _ LG.out).trans KG.out)
      replace LG := Lib.hid (Nat.lt_of_lt_of_le LG.out bY6.size)
      replace GT := Lib.hid (GT.out.later bY6)
      replace BB := Lib.hid (BB.out.trans (bY6.mono BB.out.size))
      replace SA := Lib.hid (SA.out.later bY6 bY6.size)
      replace STt := Lib.hid (STt.out.later bY6 bY6.size)
      replace SW := Lib.hid (SW.out.later bY6 bY6.size)
      replace SG := Lib.hid (SG.out.later bY6 bY6.size)
      replace SV := Lib.hid (SV.out.later bY6 bY6.size)
      have KV : Hid (Y6.heap[w10.heap.size]? = some (.cells #[.slice mai dr.items.length mci, .slice mat dr.talks.length mct] 27 (0, 0))) := Lib.hid (by rw [hY6]; exact heap_new _ _)
      have LV : Hid (w10.heap.size < Y6.heap.size) := Lib.hid (by omega)
      have eY6 : Hid (Y6.heap.size = w10.heap.size + 1) := Lib.hid (by omega)
      clear bY6 sY6
      go_wp2_with fail
      rw [← hY6]
      clear hY6
      have hlt : (i : Int) < (r.items.length : Int) := by have := Hi.out; omega
      have h0 : (0 : Int) ≤ (i : Int) := by omega
      have HEL : Hid (∀ z B0, Got z B0 29 2 ti r.items.length tci (r.items.flatMap itC) → z.cell? ⟨ti, i * 2, none⟩ = some (.string x.k) ∧ z.cell? ⟨ti, i * 2 + 1, none⟩ = some (.string x.v)) := Lib.hid (fun z B0 hg => by
        have hown := hg.2.2.2.2.2.resolve_left (by have := Hi.out; omega)
        have hA : At z ti 0 (r.items.flatMap itC) := fun j u hu => by have h := hown.cells (g := ti) rfl j u hu; rwa [add_flat] at h
        obtain ⟨hi2, e5⟩ := E5.out
        have := hA.item i hi2
        rw [e5] at this
        simpa using this)
      have DRF : Hid (Fits dr) := Lib.hid (by rw [Hdr.out]; exact dropS_fits Hrm.out.fits)
      obtain ⟨zD, hzD⟩ : ∃ z, z = Y6.drew := ⟨_, rfl⟩
      have bzD : Below Y6.heap.size Y6 zD := by rw [hzD]; exact (Below.refl _ _).drew
      replace KA := Lib.hid ((bzD.block _ LA.out).trans KA.out)
      replace LA := Lib.hid (Nat.lt_of_lt_of_le LA.out bzD.size)
      replace KX := Lib.hid ((bzD.block _ LX.out).trans KX.out)
      replace LX := Lib.hid (Nat.lt_of_lt_of_le LX.out bzD.size)
      replace KT := Lib.hid ((bzD.block _ LT.out).trans KT.out)
      replace LT := Lib.hid (Nat.lt_of_lt_of_le LT.out bzD.size)
      replace KW := Lib.hid ((bzD.block _ LW.out).trans KW.out)
      replace LW := Lib.hid (Nat.lt_of_lt_of_le LW.out bzD.size)
      replace KG := Lib.hid ((bzD.block _ LG.out).trans KG.out)
      replace LG := Lib.hid (Nat.lt_of_lt_of_le LG.out bzD.size)
      replace KV := Lib.hid ((bzD.block _ LV.out).trans KV.out)
      replace LV := Lib.hid (Nat.lt_of_lt_of_le LV.out bzD.size)
      replace GT := Lib.hid (GT.out.later bzD)
      replace BB := Lib.hid (BB.out.trans (bzD.mono BB.out.size))
      replace SA := Lib.hid (SA.out.later bzD bzD.size)
      replace STt := Lib.hid (STt.out.later bzD bzD.size)
      replace SW := Lib.hid (SW.out.later bzD bzD.size)
      replace SG := Lib.hid (SG.out.later bzD bzD.size)
      replace SV := Lib.hid (SV.out.later bzD bzD.size)
      refine wp_region_held_drew (S := (fun w' => w'.cell? ⟨w2.heap.size, 0, none⟩ = some (.slice (some ⟨ti, 0, none⟩) r.items.length tci) ∧ w'.cell? ⟨w2.heap.size, 1, none⟩ = some (.slice tat r.talks.length tct) ∧ w'.cell? ⟨w1.heap.size + 1, 0, none⟩ = some (.string x.k) ∧ w'.cell? ⟨w1.heap.size + 1, 1, none⟩ = some (.string x.v) ∧ w'.cell? ⟨w9.heap.size, 0, none⟩ = some (.slice nai dr.items.length nci) ∧ w'.cell? ⟨w9.heap.size, 1, none⟩ = some (.slice nat_ dr.talks.length nct) ∧ w'.cell? ⟨w10.heap.size, 0, none⟩ = some (.slice mai dr.items.length mci) ∧ w'.cell? ⟨w10.heap.size, 1, none⟩ = some (.slice mat dr.talks.length mct) ∧ w'.cell? ⟨ti, i * 2, none⟩ = some (.string x.k) ∧ w'.cell? ⟨ti, i * 2 + 1, none⟩ = some (.string x.v))) (by kernel_rfl) (by rw [← hzD]; exact ⟨(by simpa using cell_of_row zD _ 0 _ _ _ KT.out), (by simpa using cell_of_row zD _ 1 _ _ _ KT.out), (by simpa using cell_of_row zD _ 0 _ _ _ KX.out), (by simpa using cell_of_row zD _ 1 _ _ _ KX.out), (by simpa using cell_of_row zD _ 0 _ _ _ KG.out), (by simpa using cell_of_row zD _ 1 _ _ _ KG.out), (by simpa using cell_of_row zD _ 0 _ _ _ KV.out), (by simpa using cell_of_row zD _ 1 _ _ _ KV.out), (HEL.out _ _ GT.out).1, (HEL.out _ _ GT.out).2⟩) (fun hHeld => ?_)
      rw [← hzD] at hHeld ⊢
      have bzE := Lib.hid bzD
      clear bzD hzD
      refine wpAnyH_take (i := 0) (v := ?_) rfl (by kernel_rfl) (by kernel_rfl) (by kernel_rfl) (fun _ _ _ h => h) ?_ (by assumption) ?_
      rotate_left
      · first | (refine Or.inl ⟨by rfl, ?_⟩; intro w hSw; obtain ⟨hS0, hS1, hS2, hS3, hS4, hS5, hS6, hS7, hS8, hS9⟩ := hSw; go_simp; done) | (refine Or.inl ⟨by rfl, ?_⟩; intro w hSw; obtain ⟨hS0, hS1, hS2, hS3, hS4, hS5, hS6, hS7, hS8, hS9⟩ := hSw; go_simp; with_reducible rfl)
      try simp only [getElem_toArray, getElem_cons_zero, Act.put, setIfInBounds_toArray, set_cons_zero, set_cons_succ]
      refine wpAnyH_ready (rs := [1]) (by kernel_rfl) (by simp) ?_
      refine AllReadyH.cons rfl (fun K hK => ?_) AllReadyH.nil
      go_simp
      have hc := impl_stateOk r _ zD.heap.size zD STt.out (Nat.le_refl _) Hrm.out.fits
      rw [Hok.out] at hc
      go_at_call 20
      refine (hc).mono ?_
      rintro e w11 ⟨rfl, hb⟩
      replace KA := Lib.hid ((hb.block _ LA.out).trans KA.out)
      replace LA := Lib.hid (Nat.lt_of_lt_of_le LA.out hb.size)
      replace KX := Lib.hid ((hb.block _ LX.out).trans KX.out)
      replace LX := Lib.hid (Nat.lt_of_lt_of_le LX.out hb.size)
      replace KT := Lib.hid ((hb.block _ LT.out).trans KT.out)
      replace LT := Lib.hid (Nat.lt_of_lt_of_le LT.out hb.size)
      replace KW := Lib.hid ((hb.block _ LW.out).trans KW.out)
      replace LW := Lib.hid (Nat.lt_of_lt_of_le LW.out hb.size)
      replace KG := Lib.hid ((hb.block _ LG.out).trans KG.out)
      replace LG := Lib.hid (Nat.lt_of_lt_of_le LG.out hb.size)
      replace KV := Lib.hid ((hb.block _ LV.out).trans KV.out)
      replace LV := Lib.hid (Nat.lt_of_lt_of_le LV.out hb.size)
      replace GT := Lib.hid (GT.out.later hb)
      replace BB := Lib.hid (BB.out.trans (hb.mono BB.out.size))
      replace SA := Lib.hid (SA.out.later hb hb.size)
      replace STt := Lib.hid (STt.out.later hb hb.size)
      replace SW := Lib.hid (SW.out.later hb hb.size)
      replace SG := Lib.hid (SG.out.later hb hb.size)
      replace SV := Lib.hid (SV.out.later hb hb.size)
      clear hb
      clear hc
      go_wp2_with fail
      refine hK.out _ _ ⟨(by simpa using cell_of_row w11 _ 0 _ _ _ KT.out), (by simpa using cell_of_row w11 _ 1 _ _ _ KT.out), (by simpa using cell_of_row w11 _ 0 _ _ _ KX.out), (by simpa using cell_of_row w11 _ 1 _ _ _ KX.out), (by simpa using cell_of_row w11 _ 0 _ _ _ KG.out), (by simpa using cell_of_row w11 _ 1 _ _ _ KG.out), (by simpa using cell_of_row w11 _ 0 _ _ _ KV.out), (by simpa using cell_of_row w11 _ 1 _ _ _ KV.out), (HEL.out _ _ GT.out).1, (HEL.out _ _ GT.out).2⟩ (fun hHeld => ?_)
      clear hK K
      try simp only [getElem_toArray, getElem_cons_zero, getElem_cons_succ, Act.put, setIfInBounds_toArray, set_cons_zero, set_cons_succ]
      refine wpAnyH_take (i := 2) (v := ?_) rfl (by kernel_rfl) (by kernel_rfl) (by kernel_rfl) (fun _ _ _ h => h) ?_ (by assumption) ?_
      rotate_left
      · first | (refine Or.inl ⟨by rfl, ?_⟩; intro w hSw; go_simp; done) | (refine Or.inl ⟨by rfl, ?_⟩; intro w hSw; go_simp; with_reducible rfl)
      try simp only [getElem_toArray, getElem_cons_zero, getElem_cons_succ, Act.put, setIfInBounds_toArray, set_cons_zero, set_cons_succ]
      refine wpAnyH_take (i := 3) (v := ?_) rfl (by kernel_rfl) (by kernel_rfl) (by kernel_rfl) (fun _ _ _ h => h) ?_ (by assumption) ?_
      rotate_left
      · first | (refine Or.inl ⟨by rfl, ?_⟩; intro w hSw; obtain ⟨hS0, hS1, hS2, hS3, hS4, hS5, hS6, hS7, hS8, hS9⟩ := hSw; go_simp; done) | (refine Or.inl ⟨by rfl, ?_⟩; intro w hSw; obtain ⟨hS0, hS1, hS2, hS3, hS4, hS5, hS6, hS7, hS8, hS9⟩ := hSw; go_simp; with_reducible rfl)
      try simp only [getElem_toArray, getElem_cons_zero, getElem_cons_succ, Act.put, setIfInBounds_toArray, set_cons_zero, set_cons_succ]
      refine wpAnyH_take (i := 4) (v := ?_) rfl (by kernel_rfl) (by kernel_rfl) (by kernel_rfl) (fun _ _ _ h => h) ?_ (by assumption) ?_
      rotate_left
      · first | (refine Or.inl ⟨by rfl, ?_⟩; intro w hSw; go_simp; done) | (refine Or.inl ⟨by rfl, ?_⟩; intro w hSw; go_simp; with_reducible rfl)
      try simp only [getElem_toArray, getElem_cons_zero, getElem_cons_succ, Act.put, setIfInBounds_toArray, set_cons_zero, set_cons_succ]
      refine wpAnyH_take (i := 5) (v := ?_) rfl (by kernel_rfl) (by kernel_rfl) (by kernel_rfl) (fun _ _ _ h => h) ?_ (by assumption) ?_
      rotate_left
      · first | (refine Or.inl ⟨by rfl, ?_⟩; intro w hSw; obtain ⟨hS0, hS1, hS2, hS3, hS4, hS5, hS6, hS7, hS8, hS9⟩ := hSw; go_simp; done) | (refine Or.inl ⟨by rfl, ?_⟩; intro w hSw; obtain ⟨hS0, hS1, hS2, hS3, hS4, hS5, hS6, hS7, hS8, hS9⟩ := hSw; go_simp; with_reducible rfl)
      try simp only [getElem_toArray, getElem_cons_zero, getElem_cons_succ, Act.put, setIfInBounds_toArray, set_cons_zero, set_cons_succ]
      refine wpAnyH_take (i := 7) (v := ?_) rfl (by kernel_rfl) (by kernel_rfl) (by kernel_rfl) (fun _ _ _ h => h) ?_ (by assumption) ?_
      rotate_left
      · first | (refine Or.inl ⟨by rfl, ?_⟩; intro w hSw; go_simp; done) | (refine Or.inl ⟨by rfl, ?_⟩; intro w hSw; go_simp; with_reducible rfl)
      try simp only [getElem_toArray, getElem_cons_zero, getElem_cons_succ, Act.put, setIfInBounds_toArray, set_cons_zero, set_cons_succ]
      refine wpAnyH_ready (rs := [6]) (by kernel_rfl) (by simp) ?_
      refine AllReadyH.cons rfl (fun K hK => ?_) AllReadyH.nil
      go_simp
      have hc := impl_itemAt r _ w11.heap.size x.k w11 STt.out (Nat.le_refl _) Hrm.out.fits HxS.out
      rw [E1.out] at hc
      go_at_call 24
      refine (hc).mono ?_
      rintro e w12 ⟨rfl, hb⟩
      replace KA := Lib.hid ((hb.block _ LA.out).trans KA.out)
      replace LA := Lib.hid (Nat.lt_of_lt_of_le LA.out hb.size)
      replace KX := Lib.hid ((hb.block _ LX.out).trans KX.out)
      replace LX := Lib.hid (Nat.lt_of_lt_of_le LX.out hb.size)
      replace KT := Lib.hid ((hb.block _ LT.out).trans KT.out)
      replace LT := Lib.hid (Nat.lt_of_lt_of_le LT.out hb.size)
      replace KW := Lib.hid ((hb.block _ LW.out).trans KW.out)
      replace LW := Lib.hid (Nat.lt_of_lt_of_le LW.out hb.size)
      replace KG := Lib.hid ((hb.block _ LG.out).trans KG.out)
      replace LG := Lib.hid (Nat.lt_of_lt_of_le LG.out hb.size)
      replace KV := Lib.hid ((hb.block _ LV.out).trans KV.out)
      replace LV := Lib.hid (Nat.lt_of_lt_of_le LV.out hb.size)
      replace GT := Lib.hid (GT.out.later hb)
      replace BB := Lib.hid (BB.out.trans (hb.mono BB.out.size))
      replace SA := Lib.hid (SA.out.later hb hb.size)
      replace STt := Lib.hid (STt.out.later hb hb.size)
      replace SW := Lib.hid (SW.out.later hb hb.size)
      replace SG := Lib.hid (SG.out.later hb hb.size)
      replace SV := Lib.hid (SV.out.later hb hb.size)
      clear hb
      clear hc
      go_wp2_with fail
      refine hK.out _ _ ⟨(by simpa using cell_of_row w12 _ 0 _ _ _ KT.out), (by simpa using cell_of_row w12 _ 1 _ _ _ KT.out), (by simpa using cell_of_row w12 _ 0 _ _ _ KX.out), (by simpa using cell_of_row w12 _ 1 _ _ _ KX.out), (by simpa using cell_of_row w12 _ 0 _ _ _ KG.out), (by simpa using cell_of_row w12 _ 1 _ _ _ KG.out), (by simpa using cell_of_row w12 _ 0 _ _ _ KV.out), (by simpa using cell_of_row w12 _ 1 _ _ _ KV.out), (HEL.out _ _ GT.out).1, (HEL.out _ _ GT.out).2⟩ (fun hHeld => ?_)
      clear hK K
      try simp only [getElem_toArray, getElem_cons_zero, getElem_cons_succ, Act.put, setIfInBounds_toArray, set_cons_zero, set_cons_succ]
      refine wpAnyH_take (i := 8) (v := ?_) rfl (by kernel_rfl) (by kernel_rfl) (by kernel_rfl) (fun _ _ _ h => h) ?_ (by assumption) ?_
      rotate_left
      · first | (refine Or.inl ⟨by rfl, ?_⟩; intro w hSw; go_simp; done) | (refine Or.inl ⟨by rfl, ?_⟩; intro w hSw; go_simp; with_reducible rfl)
      try simp only [getElem_toArray, getElem_cons_zero, getElem_cons_succ, Act.put, setIfInBounds_toArray, set_cons_zero, set_cons_succ]
      refine wpAnyH_take (i := 9) (v := ?_) rfl (by kernel_rfl) (by kernel_rfl) (by kernel_rfl) (fun _ _ _ h => h) ?_ (by assumption) ?_
      rotate_left
      · first | (refine Or.inl ⟨by rfl, ?_⟩; intro w hSw; go_simp; done) | (refine Or.inl ⟨by rfl, ?_⟩; intro w hSw; go_simp; with_reducible rfl)
      try simp only [getElem_toArray, getElem_cons_zero, getElem_cons_succ, Act.put, setIfInBounds_toArray, set_cons_zero, set_cons_succ]
      refine wpAnyH_take (i := 10) (v := ?_) rfl (by kernel_rfl) (by kernel_rfl) (by kernel_rfl) (fun _ _ _ h => h) ?_ (by assumption) ?_
      rotate_left
      · first | (refine Or.inl ⟨by rfl, ?_⟩; intro w hSw; go_simp; done) | (refine Or.inl ⟨by rfl, ?_⟩; intro w hSw; go_simp; with_reducible rfl)
      try simp only [getElem_toArray, getElem_cons_zero, getElem_cons_succ, Act.put, setIfInBounds_toArray, set_cons_zero, set_cons_succ]
      refine wpAnyH_take (i := 11) (v := ?_) rfl (by kernel_rfl) (by kernel_rfl) (by kernel_rfl) (fun _ _ _ h => h) ?_ (by assumption) ?_
      rotate_left
      · first | (refine Or.inl ⟨by rfl, ?_⟩; intro w hSw; go_simp; done) | (refine Or.inl ⟨by rfl, ?_⟩; intro w hSw; go_simp; with_reducible rfl)
      try simp only [getElem_toArray, getElem_cons_zero, getElem_cons_succ, Act.put, setIfInBounds_toArray, set_cons_zero, set_cons_succ]
      refine wpAnyH_take (i := 12) (v := ?_) rfl (by kernel_rfl) (by kernel_rfl) (by kernel_rfl) (fun _ _ _ h => h) ?_ (by assumption) ?_
      rotate_left
      · first | (refine Or.inl ⟨by rfl, ?_⟩; intro w hSw; go_simp; done) | (refine Or.inl ⟨by rfl, ?_⟩; intro w hSw; go_simp; with_reducible rfl)
      try simp only [getElem_toArray, getElem_cons_zero, getElem_cons_succ, Act.put, setIfInBounds_toArray, set_cons_zero, set_cons_succ]
      refine wpAnyH_take (i := 13) (v := ?_) rfl (by kernel_rfl) (by kernel_rfl) (by kernel_rfl) (fun _ _ _ h => h) ?_ (by assumption) ?_
      rotate_left
      · first | (refine Or.inl ⟨by rfl, ?_⟩; intro w hSw; go_simp; done) | (refine Or.inl ⟨by rfl, ?_⟩; intro w hSw; go_simp; with_reducible rfl)
      try simp only [getElem_toArray, getElem_cons_zero, getElem_cons_succ, Act.put, setIfInBounds_toArray, set_cons_zero, set_cons_succ]
      refine wpAnyH_take (i := 14) (v := ?_) rfl (by kernel_rfl) (by kernel_rfl) (by kernel_rfl) (fun _ _ _ h => h) ?_ (by assumption) ?_
      rotate_left
      · first | (refine Or.inl ⟨by rfl, ?_⟩; intro w hSw; go_simp; done) | (refine Or.inl ⟨by rfl, ?_⟩; intro w hSw; go_simp; with_reducible rfl)
      try simp only [getElem_toArray, getElem_cons_zero, getElem_cons_succ, Act.put, setIfInBounds_toArray, set_cons_zero, set_cons_succ]
      refine wpAnyH_take (i := 15) (v := ?_) rfl (by kernel_rfl) (by kernel_rfl) (by kernel_rfl) (fun _ _ _ h => h) ?_ (by assumption) ?_
      rotate_left
      · first | (refine Or.inl ⟨by rfl, ?_⟩; intro w hSw; go_simp; done) | (refine Or.inl ⟨by rfl, ?_⟩; intro w hSw; go_simp; with_reducible rfl)
      try simp only [getElem_toArray, getElem_cons_zero, getElem_cons_succ, Act.put, setIfInBounds_toArray, set_cons_zero, set_cons_succ]
      refine wpAnyH_take (i := 16) (v := ?_) rfl (by kernel_rfl) (by kernel_rfl) (by kernel_rfl) (fun _ _ _ h => h) ?_ (by assumption) ?_
      rotate_left
      · first | (refine Or.inl ⟨by rfl, ?_⟩; intro w hSw; obtain ⟨hS0, hS1, hS2, hS3, hS4, hS5, hS6, hS7, hS8, hS9⟩ := hSw; go_simp; done) | (refine Or.inl ⟨by rfl, ?_⟩; intro w hSw; obtain ⟨hS0, hS1, hS2, hS3, hS4, hS5, hS6, hS7, hS8, hS9⟩ := hSw; go_simp; with_reducible rfl)
      try simp only [getElem_toArray, getElem_cons_zero, getElem_cons_succ, Act.put, setIfInBounds_toArray, set_cons_zero, set_cons_succ]
      refine wpAnyH_take (i := 17) (v := ?_) rfl (by kernel_rfl) (by kernel_rfl) (by kernel_rfl) (fun _ _ _ h => h) ?_ (by assumption) ?_
      rotate_left
      · first | (refine Or.inl ⟨by rfl, ?_⟩; intro w hSw; go_simp; done) | (refine Or.inl ⟨by rfl, ?_⟩; intro w hSw; go_simp; with_reducible rfl)
      try simp only [getElem_toArray, getElem_cons_zero, getElem_cons_succ, Act.put, setIfInBounds_toArray, set_cons_zero, set_cons_succ]
      refine wpAnyH_take (i := 18) (v := ?_) rfl (by kernel_rfl) (by kernel_rfl) (by kernel_rfl) (fun _ _ _ h => h) ?_ (by assumption) ?_
      rotate_left
      · first | (refine Or.inl ⟨by rfl, ?_⟩; intro w hSw; obtain ⟨hS0, hS1, hS2, hS3, hS4, hS5, hS6, hS7, hS8, hS9⟩ := hSw; go_simp; done) | (refine Or.inl ⟨by rfl, ?_⟩; intro w hSw; obtain ⟨hS0, hS1, hS2, hS3, hS4, hS5, hS6, hS7, hS8, hS9⟩ := hSw; go_simp; with_reducible rfl)
      try simp only [getElem_toArray, getElem_cons_zero, getElem_cons_succ, Act.put, setIfInBounds_toArray, set_cons_zero, set_cons_succ]
      refine wpAnyH_take (i := 19) (v := ?_) rfl (by kernel_rfl) (by kernel_rfl) (by kernel_rfl) (fun _ _ _ h => h) ?_ (by assumption) ?_
      rotate_left
      · first | (refine Or.inl ⟨by rfl, ?_⟩; intro w hSw; obtain ⟨hS0, hS1, hS2, hS3, hS4, hS5, hS6, hS7, hS8, hS9⟩ := hSw; go_simp; done) | (refine Or.inl ⟨by rfl, ?_⟩; intro w hSw; obtain ⟨hS0, hS1, hS2, hS3, hS4, hS5, hS6, hS7, hS8, hS9⟩ := hSw; go_simp; with_reducible rfl)
      try simp only [getElem_toArray, getElem_cons_zero, getElem_cons_succ, Act.put, setIfInBounds_toArray, set_cons_zero, set_cons_succ]
      refine wpAnyH_take (i := 20) (v := ?_) rfl (by kernel_rfl) (by kernel_rfl) (by kernel_rfl) (fun _ _ _ h => h) ?_ (by assumption) ?_
      rotate_left
      · first | (refine Or.inl ⟨by rfl, ?_⟩; intro w hSw; obtain ⟨hS0, hS1, hS2, hS3, hS4, hS5, hS6, hS7, hS8, hS9⟩ := hSw; go_simp; done) | (refine Or.inl ⟨by rfl, ?_⟩; intro w hSw; obtain ⟨hS0, hS1, hS2, hS3, hS4, hS5, hS6, hS7, hS8, hS9⟩ := hSw; go_simp; with_reducible rfl)
      try simp only [getElem_toArray, getElem_cons_zero, getElem_cons_succ, Act.put, setIfInBounds_toArray, set_cons_zero, set_cons_succ]
      refine wpAnyH_take (i := 21) (v := ?_) rfl (by kernel_rfl) (by kernel_rfl) (by kernel_rfl) (fun _ _ _ h => h) ?_ (by assumption) ?_
      rotate_left
      · first | (refine Or.inl ⟨by rfl, ?_⟩; intro w hSw; go_simp; done) | (refine Or.inl ⟨by rfl, ?_⟩; intro w hSw; go_simp; with_reducible rfl)
      try simp only [getElem_toArray, getElem_cons_zero, getElem_cons_succ, Act.put, setIfInBounds_toArray, set_cons_zero, set_cons_succ]
      refine wpAnyH_take (i := 22) (v := ?_) rfl (by kernel_rfl) (by kernel_rfl) (by kernel_rfl) (fun _ _ _ h => h) ?_ (by assumption) ?_
      rotate_left
      · first | (refine Or.inl ⟨by rfl, ?_⟩; intro w hSw; go_simp; done) | (refine Or.inl ⟨by rfl, ?_⟩; intro w hSw; go_simp; with_reducible rfl)
      try simp only [getElem_toArray, getElem_cons_zero, getElem_cons_succ, Act.put, setIfInBounds_toArray, set_cons_zero, set_cons_succ]
      refine wpAnyH_take (i := 23) (v := ?_) rfl (by kernel_rfl) (by kernel_rfl) (by kernel_rfl) (fun _ _ _ h => h) ?_ (by assumption) ?_
      rotate_left
      · first | (refine Or.inl ⟨by rfl, ?_⟩; intro w hSw; go_simp; done) | (refine Or.inl ⟨by rfl, ?_⟩; intro w hSw; go_simp; with_reducible rfl)
      try simp only [getElem_toArray, getElem_cons_zero, getElem_cons_succ, Act.put, setIfInBounds_toArray, set_cons_zero, set_cons_succ]
      refine wpAnyH_take (i := 24) (v := ?_) rfl (by kernel_rfl) (by kernel_rfl) (by kernel_rfl) (fun _ _ _ h => h) ?_ (by assumption) ?_
      rotate_left
      · first | (refine Or.inl ⟨by rfl, ?_⟩; intro w hSw; obtain ⟨hS0, hS1, hS2, hS3, hS4, hS5, hS6, hS7, hS8, hS9⟩ := hSw; go_simp; done) | (refine Or.inl ⟨by rfl, ?_⟩; intro w hSw; obtain ⟨hS0, hS1, hS2, hS3, hS4, hS5, hS6, hS7, hS8, hS9⟩ := hSw; go_simp; with_reducible rfl)
      try simp only [getElem_toArray, getElem_cons_zero, getElem_cons_succ, Act.put, setIfInBounds_toArray, set_cons_zero, set_cons_succ]
      refine wpAnyH_take (i := 25) (v := ?_) rfl (by kernel_rfl) (by kernel_rfl) (by kernel_rfl) (fun _ _ _ h => h) ?_ (by assumption) ?_
      rotate_left
      · first | (refine Or.inl ⟨by rfl, ?_⟩; intro w hSw; go_simp; done) | (refine Or.inl ⟨by rfl, ?_⟩; intro w hSw; go_simp; with_reducible rfl)
      try simp only [getElem_toArray, getElem_cons_zero, getElem_cons_succ, Act.put, setIfInBounds_toArray, set_cons_zero, set_cons_succ]
      refine wpAnyH_take (i := 26) (v := ?_) rfl (by kernel_rfl) (by kernel_rfl) (by kernel_rfl) (fun _ _ _ h => h) ?_ (by assumption) ?_
      rotate_left
      · first | (refine Or.inl ⟨by rfl, ?_⟩; intro w hSw; obtain ⟨hS0, hS1, hS2, hS3, hS4, hS5, hS6, hS7, hS8, hS9⟩ := hSw; go_simp; done) | (refine Or.inl ⟨by rfl, ?_⟩; intro w hSw; obtain ⟨hS0, hS1, hS2, hS3, hS4, hS5, hS6, hS7, hS8, hS9⟩ := hSw; go_simp; with_reducible rfl)
      try simp only [getElem_toArray, getElem_cons_zero, getElem_cons_succ, Act.put, setIfInBounds_toArray, set_cons_zero, set_cons_succ]
      refine wpAnyH_ready (rs := [27]) (by kernel_rfl) (by simp) ?_
      refine AllReadyH.cons rfl (fun K hK => ?_) AllReadyH.nil
      go_simp
      have hc := impl_itemAt dr _ w12.heap.size x.k w12 SG.out (Nat.le_refl _) DRF.out HxS.out
      rw [show itemAt dr.items x.k = -1 by rw [Hdr.out]; exact E3.out] at hc
      go_at_call 24
      refine (hc).mono ?_
      rintro e w13 ⟨rfl, hb⟩
      replace KA := Lib.hid ((hb.block _ LA.out).trans KA.out)
      replace LA := Lib.hid (Nat.lt_of_lt_of_le LA.out hb.size)
      replace KX := Lib.hid ((hb.block _ LX.out).trans KX.out)
      replace LX := Lib.hid (Nat.lt_of_lt_of_le LX.out hb.size)
      replace KT := Lib.hid ((hb.block _ LT.out).trans KT.out)
      replace LT := Lib.hid (Nat.lt_of_lt_of_le LT.out hb.size)
      replace KW := Lib.hid ((hb.block _ LW.out).trans KW.out)
      replace LW := Lib.hid (Nat.lt_of_lt_of_le LW.out hb.size)
      replace KG := Lib.hid ((hb.block _ LG.out).trans KG.out)
      replace LG := Lib.hid (Nat.lt_of_lt_of_le LG.out hb.size)
      replace KV := Lib.hid ((hb.block _ LV.out).trans KV.out)
      replace LV := Lib.hid (Nat.lt_of_lt_of_le LV.out hb.size)
      replace GT := Lib.hid (GT.out.later hb)
      replace BB := Lib.hid (BB.out.trans (hb.mono BB.out.size))
      replace SA := Lib.hid (SA.out.later hb hb.size)
      replace STt := Lib.hid (STt.out.later hb hb.size)
      replace SW := Lib.hid (SW.out.later hb hb.size)
      replace SG := Lib.hid (SG.out.later hb hb.size)
      replace SV := Lib.hid (SV.out.later hb hb.size)
      clear hb
      clear hc
      go_wp2_with fail
      refine hK.out _ _ ⟨(by simpa using cell_of_row w13 _ 0 _ _ _ KT.out), (by simpa using cell_of_row w13 _ 1 _ _ _ KT.out), (by simpa using cell_of_row w13 _ 0 _ _ _ KX.out), (by simpa using cell_of_row w13 _ 1 _ _ _ KX.out), (by simpa using cell_of_row w13 _ 0 _ _ _ KG.out), (by simpa using cell_of_row w13 _ 1 _ _ _ KG.out), (by simpa using cell_of_row w13 _ 0 _ _ _ KV.out), (by simpa using cell_of_row w13 _ 1 _ _ _ KV.out), (HEL.out _ _ GT.out).1, (HEL.out _ _ GT.out).2⟩ (fun hHeld => ?_)
      clear hK K
      try simp only [getElem_toArray, getElem_cons_zero, getElem_cons_succ, Act.put, setIfInBounds_toArray, set_cons_zero, set_cons_succ]
      refine wpAnyH_take (i := 28) (v := ?_) rfl (by kernel_rfl) (by kernel_rfl) (by kernel_rfl) (fun _ _ _ h => h) ?_ (by assumption) ?_
      rotate_left
      · first | (refine Or.inl ⟨by rfl, ?_⟩; intro w hSw; go_simp; done) | (refine Or.inl ⟨by rfl, ?_⟩; intro w hSw; go_simp; with_reducible rfl)
      try simp only [getElem_toArray, getElem_cons_zero, getElem_cons_succ, Act.put, setIfInBounds_toArray, set_cons_zero, set_cons_succ]
      refine wpAnyH_take (i := 29) (v := ?_) rfl (by kernel_rfl) (by kernel_rfl) (by kernel_rfl) (fun _ _ _ h => h) ?_ (by assumption) ?_
      rotate_left
      · first | (refine Or.inl ⟨by rfl, ?_⟩; intro w hSw; go_simp; done) | (refine Or.inl ⟨by rfl, ?_⟩; intro w hSw; go_simp; with_reducible rfl)
      try simp only [getElem_toArray, getElem_cons_zero, getElem_cons_succ, Act.put, setIfInBounds_toArray, set_cons_zero, set_cons_succ]
      refine wpAnyH_take (i := 30) (v := ?_) rfl (by kernel_rfl) (by kernel_rfl) (by kernel_rfl) (fun _ _ _ h => h) ?_ (by assumption) ?_
      rotate_left
      · first | (refine Or.inl ⟨by rfl, ?_⟩; intro w hSw; go_simp; done) | (refine Or.inl ⟨by rfl, ?_⟩; intro w hSw; go_simp; with_reducible rfl)
      try simp only [getElem_toArray, getElem_cons_zero, getElem_cons_succ, Act.put, setIfInBounds_toArray, set_cons_zero, set_cons_succ]
      refine wpAnyH_take (i := 31) (v := ?_) rfl (by kernel_rfl) (by kernel_rfl) (by kernel_rfl) (fun _ _ _ h => h) ?_ (by assumption) ?_
      rotate_left
      · first | (refine Or.inl ⟨by rfl, ?_⟩; intro w hSw; obtain ⟨hS0, hS1, hS2, hS3, hS4, hS5, hS6, hS7, hS8, hS9⟩ := hSw; go_simp; done) | (refine Or.inl ⟨by rfl, ?_⟩; intro w hSw; obtain ⟨hS0, hS1, hS2, hS3, hS4, hS5, hS6, hS7, hS8, hS9⟩ := hSw; go_simp; with_reducible rfl)
      try simp only [getElem_toArray, getElem_cons_zero, getElem_cons_succ, Act.put, setIfInBounds_toArray, set_cons_zero, set_cons_succ]
      refine wpAnyH_take (i := 32) (v := ?_) rfl (by kernel_rfl) (by kernel_rfl) (by kernel_rfl) (fun _ _ _ h => h) ?_ (by assumption) ?_
      rotate_left
      · first | (refine Or.inl ⟨by rfl, ?_⟩; intro w hSw; obtain ⟨hS0, hS1, hS2, hS3, hS4, hS5, hS6, hS7, hS8, hS9⟩ := hSw; go_simp; done) | (refine Or.inl ⟨by rfl, ?_⟩; intro w hSw; obtain ⟨hS0, hS1, hS2, hS3, hS4, hS5, hS6, hS7, hS8, hS9⟩ := hSw; go_simp; with_reducible rfl)
      try simp only [getElem_toArray, getElem_cons_zero, getElem_cons_succ, Act.put, setIfInBounds_toArray, set_cons_zero, set_cons_succ]
      refine wpAnyH_ready (rs := [33]) (by kernel_rfl) (by simp) ?_
      refine AllReadyH.cons rfl (fun K hK => ?_) AllReadyH.nil
      go_simp
      go_at_call 19
      refine (spec_same dr dr _ _ w13.heap.size w13 SG.out.rd SV.out.rd (Nat.le_refl _)).mono ?_
      rintro e w14 ⟨bb, rfl, hbe, hb⟩
      obtain rfl : bb = true := hbe.2 rfl
      replace KA := Lib.hid ((hb.block _ LA.out).trans KA.out)
      replace LA := Lib.hid (Nat.lt_of_lt_of_le LA.out hb.size)
      replace KX := Lib.hid ((hb.block _ LX.out).trans KX.out)
      replace LX := Lib.hid (Nat.lt_of_lt_of_le LX.out hb.size)
      replace KT := Lib.hid ((hb.block _ LT.out).trans KT.out)
      replace LT := Lib.hid (Nat.lt_of_lt_of_le LT.out hb.size)
      replace KW := Lib.hid ((hb.block _ LW.out).trans KW.out)
      replace LW := Lib.hid (Nat.lt_of_lt_of_le LW.out hb.size)
      replace KG := Lib.hid ((hb.block _ LG.out).trans KG.out)
      replace LG := Lib.hid (Nat.lt_of_lt_of_le LG.out hb.size)
      replace KV := Lib.hid ((hb.block _ LV.out).trans KV.out)
      replace LV := Lib.hid (Nat.lt_of_lt_of_le LV.out hb.size)
      replace GT := Lib.hid (GT.out.later hb)
      replace BB := Lib.hid (BB.out.trans (hb.mono BB.out.size))
      replace SA := Lib.hid (SA.out.later hb hb.size)
      replace STt := Lib.hid (STt.out.later hb hb.size)
      replace SW := Lib.hid (SW.out.later hb hb.size)
      replace SG := Lib.hid (SG.out.later hb hb.size)
      replace SV := Lib.hid (SV.out.later hb hb.size)
      clear hb hbe
      go_wp2_with fail
      refine hK.out _ _ ⟨(by simpa using cell_of_row w14 _ 0 _ _ _ KT.out), (by simpa using cell_of_row w14 _ 1 _ _ _ KT.out), (by simpa using cell_of_row w14 _ 0 _ _ _ KX.out), (by simpa using cell_of_row w14 _ 1 _ _ _ KX.out), (by simpa using cell_of_row w14 _ 0 _ _ _ KG.out), (by simpa using cell_of_row w14 _ 1 _ _ _ KG.out), (by simpa using cell_of_row w14 _ 0 _ _ _ KV.out), (by simpa using cell_of_row w14 _ 1 _ _ _ KV.out), (HEL.out _ _ GT.out).1, (HEL.out _ _ GT.out).2⟩ (fun hHeld => ?_)
      clear hK K
      try simp only [getElem_toArray, getElem_cons_zero, getElem_cons_succ, Act.put, setIfInBounds_toArray, set_cons_zero, set_cons_succ]
      refine wpAnyH_take (i := 34) (v := ?_) rfl (by kernel_rfl) (by kernel_rfl) (by kernel_rfl) (fun _ _ _ h => h) ?_ (by assumption) ?_
      rotate_left
      · first | (refine Or.inl ⟨by rfl, ?_⟩; intro w hSw; go_simp; done) | (refine Or.inl ⟨by rfl, ?_⟩; intro w hSw; go_simp; with_reducible rfl)
      try simp only [getElem_toArray, getElem_cons_zero, getElem_cons_succ, Act.put, setIfInBounds_toArray, set_cons_zero, set_cons_succ]
      refine wpAnyH_take (i := 35) (v := ?_) rfl (by kernel_rfl) (by kernel_rfl) (by kernel_rfl) (fun _ _ _ h => h) ?_ (by assumption) ?_
      rotate_left
      · first | (refine Or.inl ⟨by rfl, ?_⟩; intro w hSw; go_simp; done) | (refine Or.inl ⟨by rfl, ?_⟩; intro w hSw; go_simp; with_reducible rfl)
      try simp only [getElem_toArray, getElem_cons_zero, getElem_cons_succ, Act.put, setIfInBounds_toArray, set_cons_zero, set_cons_succ]
      refine wpAnyH_done (by kernel_rfl) ?_ _
      clear hHeld
      go_wp2_with fail
      go_ret
      exact ⟨rfl, BB.out⟩
end Go.Proofs.Ytkoohmibdaomkaa
