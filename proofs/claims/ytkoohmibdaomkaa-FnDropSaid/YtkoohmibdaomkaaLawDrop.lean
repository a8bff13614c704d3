/- The law FnDrop: what is dropped is not there; what is not there cannot be dropped. Condition: none. -/
import Derived.Test.YtkoohmibdaomkaaBig
import Derived.Test.YtkoohmibdaomkaaDrawDropItem
import Derived.Test.YtkoohmibdaomkaaDrawItemAt
import Derived.Test.YtkoohmibdaomkaaStFacts
import Derived.Test.YtkoohmibdaomkaaImplPutState
import Derived.Test.YtkoohmibdaomkaaImplDrop
import Derived.Test.YtkoohmibdaomkaaSpecSame
import Derived.Deep.DeepCutAuto
namespace Go.Proofs.Ytkoohmibdaomkaa
open Go.RowKit
set_option linter.unusedVariables false
set_option linter.unusedSimpArgs false

theorem slice_row_len {w : World} {B sz n : Nat} {v : Value} {cs : List Value} (h : Row w B sz v n cs) : ∃ a c, v = .slice a n c := by
  rcases h with ⟨_, ⟨rfl, rfl⟩ | ⟨g, o, cap, rfl, _⟩⟩ <;> exact ⟨_, _, rfl⟩
theorem dropS_sm {s : St} {key : ByteArray} {a b : Nat} (h : Sm s a b) : Sm (dropS s key) a b := by
  unfold dropS
  split
  · refine ⟨?_, h.2.1, fun x hx => h.2.2.1 x ?_, h.2.2.2⟩
    · have := h.1; simp only [List.length_append, List.length_take, List.length_drop]; omega
    · rcases List.mem_append.1 hx with hx | hx
      · exact List.mem_of_mem_take hx
      · exact List.mem_of_mem_drop hx
  · exact h
/-- An item's cells, where the state has one. -/
theorem st_item {w : World} {s : St} {a : Option Addr} {n c : Nat} {vt : Value} (h : StV w w.heap.size (.agg #[.slice a n c, vt]) s) {j : Nat} (hj : j < s.items.length) :
    ∃ g o, a = some ⟨g, o, none⟩ ∧ g < w.heap.size ∧ ∀ z, Below w.heap.size w z → z.cell? ⟨g, o + j * 2, none⟩ = some (.string s.items[j].k) ∧ z.cell? ⟨g, o + j * 2 + 1, none⟩ = some (.string s.items[j].v) := by
  obtain ⟨vi, vt', hv, ⟨_, h1⟩, _⟩ := h
  cases hv
  rcases h1 with ⟨_, h0⟩ | ⟨g, o, cap, he, _, _, hg, hA⟩
  · omega
  · cases he
    have hg' : g < w.heap.size := hg.resolve_left (by omega)
    refine ⟨g, o, rfl, hg', fun z hb => ?_⟩
    have := hA.item j hj
    rw [hb.cell hg', hb.cell hg']
    exact this
set_option maxRecDepth 100000 in
set_option maxHeartbeats 16000000 in
theorem law_drop (a : Option Addr) (len cap : Nat) (zs : List Int) (w : World) (hr : IsRow .u8 w a len cap zs) :
    Calls Try.prog 4 #[.slice a len cap] w fun e w' => e = .returned (.bool true) ∧ Below w.heap.size w w' := by
  have hr := row8_of hr
  by_cases hbig : 1048576 < len
  · have hd : decide (1048576 < len) = true := by simpa using hbig
    go_enter Try.func4, Try.ntmps4
    go_wp2_with (go_at_call 15; refine (big_any _ _ _ _).mono ?_; rintro e w' ⟨rfl, rfl⟩)
    go_ret
    exact ⟨rfl, Below.refl _ _⟩
  · have hd : decide (1048576 < len) = false := by simpa using hbig
    have hlen : len ≤ 1048576 := by omega
    go_enter Try.func4, Try.ntmps4
    go_wp2_with (first | (go_at_call 15; refine (big_any _ _ _ _).mono ?_; rintro e w' ⟨rfl, rfl⟩) | (go_at_call 25; refine (drawDropItem_any a len cap zs _ hr hlen).mono ?_; rintro e w1 ⟨v, s, key, rfl, hst, hsm, hx, hb1⟩; refine Hid.out ?_))
    refine Lib.hid ?_
    have SA := Lib.hid hst
    obtain ⟨vi, vt, rfl, r1, r2⟩ := hst
    obtain ⟨sa, sc, rfl⟩ := slice_row_len r1
    obtain ⟨ta, tc, rfl⟩ := slice_row_len r2
    have R8 := Lib.hid (hr.later hb1)
    clear r1 r2 hr
    have BB : Hid (Below w.heap.size w w1) := Lib.hid hb1
    have Hfew : Hid (Few s) := Lib.hid (hsm.few (by omega) (by omega))
    have Hfit : Hid (Fits s) := Lib.hid hsm.fits
    have HK : Hid (key.size ≤ maxLen) := Lib.hid (by unfold maxLen; omega)
    obtain ⟨t, ht⟩ : ∃ t, t = dropS s key := ⟨_, rfl⟩
    have Ht := Lib.hid ht
    have Hsm := Lib.hid hsm
    have htm : Sm t 64 4 := by rw [ht]; exact dropS_sm hsm
    have Htm := Lib.hid htm
    clear ht hb1 hsm hx htm
    obtain ⟨Y1, hY1⟩ : ∃ zz, zz = w1.alloc (.cells #[.slice sa s.items.length sc, .slice ta s.talks.length tc] 27) := ⟨_, rfl⟩
    have bY1 : Below w1.heap.size w1 Y1 := by rw [hY1]; exact (Below.refl _ _).alloc (Nat.le_refl _) _
    have sY1 : Y1.heap.size = w1.heap.size + 1 := by rw [hY1]; simp
    replace BB := Lib.hid (BB.out.trans (bY1.mono BB.out.size))
    replace SA := Lib.hid (SA.out.later bY1 bY1.size)
    replace R8 := Lib.hid (R8.out.later bY1)
    have KA : Hid (Y1.heap[w1.heap.size]? = some (.cells #[.slice sa s.items.length sc, .slice ta s.talks.length tc] 27 (0, 0))) := Lib.hid (by rw [hY1]; exact heap_new _ _)
    have LA : Hid (w1.heap.size < Y1.heap.size) := Lib.hid (by omega)
    have eY1 : Hid (Y1.heap.size = w1.heap.size + 1) := Lib.hid (by omega)
    clear bY1 sY1
    have hc := impl_dropItem s _ Y1.heap.size key Y1 SA.out (Nat.le_refl _) Hfew.out Hfit.out HK.out
    rw [← Ht.out] at hc
    have fA0 := cell_of_row Y1 _ 0 _ _ _ KA.out
    have fA1 := cell_of_row Y1 _ 1 _ _ _ KA.out
    simp only [List.getElem?_toArray, List.getElem?_cons_zero, List.getElem?_cons_succ] at fA0 fA1
    rw [hY1] at hc fA0 fA1
    go_wp2_with (go_at_call 23; refine hc.mono ?_; rintro e w2 ⟨_, rfl, ho, hb⟩; refine Hid.out ?_)
    refine Lib.hid ?_
    rw [← hY1] at hb
    clear fA0 fA1
    replace KA := Lib.hid ((hb.block _ LA.out).trans KA.out)
    replace LA := Lib.hid (Nat.lt_of_lt_of_le LA.out hb.size)
    replace BB := Lib.hid (BB.out.trans (hb.mono BB.out.size))
    replace SA := Lib.hid (SA.out.later hb hb.size)
    replace R8 := Lib.hid (R8.out.later hb)
    clear hc hY1
    have STt := Lib.hid ho.st
    obtain ⟨_, _, ti, tci, tt, tct, rfl, _, ⟨tai, rfl, _⟩, ⟨tat, rfl, _⟩, _, _⟩ := ho
    clear hb
    obtain ⟨Y2, hY2⟩ : ∃ zz, zz = w2.alloc (.cells #[.slice tai t.items.length tci, .slice tat t.talks.length tct] 27) := ⟨_, rfl⟩
    have bY2 : Below w2.heap.size w2 Y2 := by rw [hY2]; exact (Below.refl _ _).alloc (Nat.le_refl _) _
    have sY2 : Y2.heap.size = w2.heap.size + 1 := by rw [hY2]; simp
    replace KA := Lib.hid ((bY2.block _ LA.out).trans KA.out)
    replace LA := Lib.hid (Nat.lt_of_lt_of_le LA.out bY2.size)
    replace BB := Lib.hid (BB.out.trans (bY2.mono BB.out.size))
    replace SA := Lib.hid (SA.out.later bY2 bY2.size)
    replace STt := Lib.hid (STt.out.later bY2 bY2.size)
    replace R8 := Lib.hid (R8.out.later bY2)
    have KT : Hid (Y2.heap[w2.heap.size]? = some (.cells #[.slice tai t.items.length tci, .slice tat t.talks.length tct] 27 (0, 0))) := Lib.hid (by rw [hY2]; exact heap_new _ _)
    have LT : Hid (w2.heap.size < Y2.heap.size) := Lib.hid (by omega)
    have eY2 : Hid (Y2.heap.size = w2.heap.size + 1) := Lib.hid (by omega)
    clear bY2 sY2
    have hc := drawItemAt_any a len cap zs Y2 R8.out hlen
    rw [hY2] at hc 
    go_wp2_with (go_at_call 26; refine hc.mono ?_; rintro e w3 ⟨v, u, k, rfl, hst, hum, hk, hb⟩; refine Hid.out ?_)
    refine Lib.hid ?_
    rw [← hY2] at hb
    replace KA := Lib.hid ((hb.block _ LA.out).trans KA.out)
    replace LA := Lib.hid (Nat.lt_of_lt_of_le LA.out hb.size)
    replace KT := Lib.hid ((hb.block _ LT.out).trans KT.out)
    replace LT := Lib.hid (Nat.lt_of_lt_of_le LT.out hb.size)
    replace BB := Lib.hid (BB.out.trans (hb.mono BB.out.size))
    replace SA := Lib.hid (SA.out.later hb hb.size)
    replace STt := Lib.hid (STt.out.later hb hb.size)
    replace R8 := Lib.hid (R8.out.later hb)
    clear hc hY2
    have SU := Lib.hid hst
    obtain ⟨vi, vt, rfl, r1, r2⟩ := hst
    obtain ⟨ua, uc, rfl⟩ := slice_row_len r1
    obtain ⟨va, vc, rfl⟩ := slice_row_len r2
    have Hum := Lib.hid hum
    have HKu : Hid (k.size ≤ maxLen) := Lib.hid (by unfold maxLen; omega)
    clear r1 r2 hb hum hk R8
    obtain ⟨Y3, hY3⟩ : ∃ zz, zz = w3.alloc (.cells #[.slice ua u.items.length uc, .slice va u.talks.length vc] 27) := ⟨_, rfl⟩
    have bY3 : Below w3.heap.size w3 Y3 := by rw [hY3]; exact (Below.refl _ _).alloc (Nat.le_refl _) _
    have sY3 : Y3.heap.size = w3.heap.size + 1 := by rw [hY3]; simp
    replace KA := Lib.hid ((bY3.block _ LA.out).trans KA.out)
    replace LA := Lib.hid (Nat.lt_of_lt_of_le LA.out bY3.size)
    replace KT := Lib.hid ((bY3.block _ LT.out).trans KT.out)
    replace LT := Lib.hid (Nat.lt_of_lt_of_le LT.out bY3.size)
    replace BB := Lib.hid (BB.out.trans (bY3.mono BB.out.size))
    replace SA := Lib.hid (SA.out.later bY3 bY3.size)
    replace STt := Lib.hid (STt.out.later bY3 bY3.size)
    replace SU := Lib.hid (SU.out.later bY3 bY3.size)
    have KU : Hid (Y3.heap[w3.heap.size]? = some (.cells #[.slice ua u.items.length uc, .slice va u.talks.length vc] 27 (0, 0))) := Lib.hid (by rw [hY3]; exact heap_new _ _)
    have LU : Hid (w3.heap.size < Y3.heap.size) := Lib.hid (by omega)
    have eY3 : Hid (Y3.heap.size = w3.heap.size + 1) := Lib.hid (by omega)
    clear bY3 sY3
    obtain ⟨iu, hiu⟩ : ∃ i, i = itemAt u.items k := ⟨_, rfl⟩
    have Hiu := Lib.hid hiu
    clear hiu
    have hc := impl_itemAt u _ Y3.heap.size k Y3 SU.out (Nat.le_refl _) Hum.out.fits HKu.out
    rw [← Hiu.out] at hc
    have fU0 := cell_of_row Y3 _ 0 _ _ _ KU.out
    have fU1 := cell_of_row Y3 _ 1 _ _ _ KU.out
    simp only [List.getElem?_toArray, List.getElem?_cons_zero, List.getElem?_cons_succ] at fU0 fU1
    rw [hY3] at hc fU0 fU1
    go_wp2_with (go_at_call 24; refine hc.mono ?_; rintro e w4 ⟨rfl, hb⟩; refine Hid.out ?_)
    refine Lib.hid ?_
    rw [← hY3] at hb
    clear fU0 fU1
    replace KA := Lib.hid ((hb.block _ LA.out).trans KA.out)
    replace LA := Lib.hid (Nat.lt_of_lt_of_le LA.out hb.size)
    replace KT := Lib.hid ((hb.block _ LT.out).trans KT.out)
    replace LT := Lib.hid (Nat.lt_of_lt_of_le LT.out hb.size)
    replace KU := Lib.hid ((hb.block _ LU.out).trans KU.out)
    replace LU := Lib.hid (Nat.lt_of_lt_of_le LU.out hb.size)
    replace BB := Lib.hid (BB.out.trans (hb.mono BB.out.size))
    replace SA := Lib.hid (SA.out.later hb hb.size)
    replace STt := Lib.hid (STt.out.later hb hb.size)
    replace SU := Lib.hid (SU.out.later hb hb.size)
    clear hc hY3
    clear hb
    go_wp2_with fail
    have B4 : Hid (Below w4.heap.size w4 w4) := Lib.hid (Below.refl _ _)
    go_cut [55] (fun b wx => b = .bool false ∧ Hid (Below w4.heap.size w4 wx))
    case first =>
      have hii : (iu != iu) = false := by simp
      by_cases hiu : 0 ≤ iu
      · obtain ⟨j, hj, ej, ek⟩ := itemAt_hit (xs := u.items) (key := k) (by rw [← Hiu.out]; exact hiu)
        obtain ⟨g, o, hat⟩ := st_item SU.out hj
        obtain rfl : ua = some ⟨g, o, none⟩ := hat.1
        have HEL : Hid (∀ z, Below w4.heap.size w4 z → z.cell? ⟨g, o + j * 2, none⟩ = some (.string k)) := Lib.hid (fun z hb => by
          have h := (hat.2.2 z hb).1
          rw [ek] at h; exact h)
        have hje : iu = (j : Int) := by rw [Hiu.out, ej]
        subst hje
        have hlt : (j : Int) < (u.items.length : Int) := by omega
        clear ej ek hat hj hiu
        obtain ⟨zD, hzD⟩ : ∃ z, z = w4.drew := ⟨_, rfl⟩
        have bzD : Below w4.heap.size w4 zD := by rw [hzD]; exact (Below.refl _ _).drew
        replace B4 := Lib.hid (B4.out.trans (bzD.mono B4.out.size))
        replace KA := Lib.hid ((bzD.block _ LA.out).trans KA.out)
        replace LA := Lib.hid (Nat.lt_of_lt_of_le LA.out bzD.size)
        replace KT := Lib.hid ((bzD.block _ LT.out).trans KT.out)
        replace LT := Lib.hid (Nat.lt_of_lt_of_le LT.out bzD.size)
        replace KU := Lib.hid ((bzD.block _ LU.out).trans KU.out)
        replace LU := Lib.hid (Nat.lt_of_lt_of_le LU.out bzD.size)
        replace BB := Lib.hid (BB.out.trans (bzD.mono BB.out.size))
        replace SA := Lib.hid (SA.out.later bzD bzD.size)
        replace STt := Lib.hid (STt.out.later bzD bzD.size)
        replace SU := Lib.hid (SU.out.later bzD bzD.size)
        refine wp_region_held_drew (S := (fun w' => w'.cell? ⟨w1.heap.size, 0, none⟩ = some (.slice sa s.items.length sc) ∧ w'.cell? ⟨w1.heap.size, 1, none⟩ = some (.slice ta s.talks.length tc) ∧ w'.cell? ⟨w2.heap.size, 0, none⟩ = some (.slice tai t.items.length tci) ∧ w'.cell? ⟨w2.heap.size, 1, none⟩ = some (.slice tat t.talks.length tct) ∧ w'.cell? ⟨w3.heap.size, 0, none⟩ = some (.slice (some ⟨g, o, none⟩) u.items.length uc) ∧ w'.cell? ⟨w3.heap.size, 1, none⟩ = some (.slice va u.talks.length vc) ∧ w'.cell? ⟨g, o + j * 2, none⟩ = some (.string k))) (by kernel_rfl) (by rw [← hzD]; exact ⟨(by simpa using cell_of_row zD _ 0 _ _ _ KA.out), (by simpa using cell_of_row zD _ 1 _ _ _ KA.out), (by simpa using cell_of_row zD _ 0 _ _ _ KT.out), (by simpa using cell_of_row zD _ 1 _ _ _ KT.out), (by simpa using cell_of_row zD _ 0 _ _ _ KU.out), (by simpa using cell_of_row zD _ 1 _ _ _ KU.out), (HEL.out _ B4.out)⟩) (fun hHeld => ?_)
        rw [← hzD] at hHeld ⊢
        have bzE := Lib.hid bzD
        clear bzD hzD
        refine wpAnyH_take (i := 0) (v := ?_) rfl (by kernel_rfl) (by kernel_rfl) (by kernel_rfl) (fun _ _ _ h => h) ?_ (by assumption) ?_
        rotate_left
        · first | (refine Or.inl ⟨by rfl, ?_⟩; intro w hSw; obtain ⟨hS0, hS1, hS2, hS3, hS4, hS5, hS6⟩ := hSw; go_simp; done) | (refine Or.inl ⟨by rfl, ?_⟩; intro w hSw; obtain ⟨hS0, hS1, hS2, hS3, hS4, hS5, hS6⟩ := hSw; go_simp; with_reducible rfl)
        try simp only [List.getElem_toArray, List.getElem_cons_zero, Act.put, List.setIfInBounds_toArray, List.set_cons_zero, List.set_cons_succ]
        refine wpAnyH_take (i := 1) (v := ?_) rfl (by kernel_rfl) (by kernel_rfl) (by kernel_rfl) (fun _ _ _ h => h) ?_ (by assumption) ?_
        rotate_left
        · first | (refine Or.inl ⟨by rfl, ?_⟩; intro w hSw; obtain ⟨hS0, hS1, hS2, hS3, hS4, hS5, hS6⟩ := hSw; go_simp; done) | (refine Or.inl ⟨by rfl, ?_⟩; intro w hSw; obtain ⟨hS0, hS1, hS2, hS3, hS4, hS5, hS6⟩ := hSw; go_simp; with_reducible rfl)
        try simp only [List.getElem_toArray, List.getElem_cons_zero, List.getElem_cons_succ, Act.put, List.setIfInBounds_toArray, List.set_cons_zero, List.set_cons_succ]
        refine wpAnyH_take (i := 2) (v := ?_) rfl (by kernel_rfl) (by kernel_rfl) (by kernel_rfl) (fun _ _ _ h => h) ?_ (by assumption) ?_
        rotate_left
        · first | (refine Or.inl ⟨by rfl, ?_⟩; intro w hSw; go_simp; done) | (refine Or.inl ⟨by rfl, ?_⟩; intro w hSw; go_simp; with_reducible rfl)
        try simp only [List.getElem_toArray, List.getElem_cons_zero, List.getElem_cons_succ, Act.put, List.setIfInBounds_toArray, List.set_cons_zero, List.set_cons_succ]
        refine wpAnyH_ready (rs := [3]) (by kernel_rfl) (by simp) ?_
        refine AllReadyH.cons rfl (fun K hK => ?_) AllReadyH.nil
        go_simp
        have hc := spec_drop s _ zD.heap.size key zD SA.out (Nat.le_refl _) Hfew.out Hfit.out
        rw [← Ht.out] at hc
        go_at_call 27
        refine (hc).mono ?_
        rintro e w5 ⟨_, rfl, ho, hb⟩
        replace B4 := Lib.hid (B4.out.trans (hb.mono B4.out.size))
        replace KA := Lib.hid ((hb.block _ LA.out).trans KA.out)
        replace LA := Lib.hid (Nat.lt_of_lt_of_le LA.out hb.size)
        replace KT := Lib.hid ((hb.block _ LT.out).trans KT.out)
        replace LT := Lib.hid (Nat.lt_of_lt_of_le LT.out hb.size)
        replace KU := Lib.hid ((hb.block _ LU.out).trans KU.out)
        replace LU := Lib.hid (Nat.lt_of_lt_of_le LU.out hb.size)
        replace BB := Lib.hid (BB.out.trans (hb.mono BB.out.size))
        replace SA := Lib.hid (SA.out.later hb hb.size)
        replace STt := Lib.hid (STt.out.later hb hb.size)
        replace SU := Lib.hid (SU.out.later hb hb.size)
        clear hb
        have SD := Lib.hid ho.n.st
        obtain ⟨_, _, _, _, rfl, _, _, _⟩ := ho
        clear hc
        go_wp2_with fail
        refine hK.out _ _ ⟨(by simpa using cell_of_row w5 _ 0 _ _ _ KA.out), (by simpa using cell_of_row w5 _ 1 _ _ _ KA.out), (by simpa using cell_of_row w5 _ 0 _ _ _ KT.out), (by simpa using cell_of_row w5 _ 1 _ _ _ KT.out), (by simpa using cell_of_row w5 _ 0 _ _ _ KU.out), (by simpa using cell_of_row w5 _ 1 _ _ _ KU.out), (HEL.out _ B4.out)⟩ (fun hHeld => ?_)
        clear hK K
        try simp only [List.getElem_toArray, List.getElem_cons_zero, List.getElem_cons_succ, Act.put, List.setIfInBounds_toArray, List.set_cons_zero, List.set_cons_succ]
        refine wpAnyH_ready (rs := [4]) (by kernel_rfl) (by simp) ?_
        refine AllReadyH.cons rfl (fun K hK => ?_) AllReadyH.nil
        go_simp
        go_at_call 19
        refine (spec_same t t _ _ w5.heap.size w5 STt.out.rd SD.out.rd (Nat.le_refl _)).mono ?_
        rintro e w6 ⟨bb, rfl, hbe, hb⟩
        obtain rfl : bb = true := hbe.2 rfl
        replace B4 := Lib.hid (B4.out.trans (hb.mono B4.out.size))
        replace KA := Lib.hid ((hb.block _ LA.out).trans KA.out)
        replace LA := Lib.hid (Nat.lt_of_lt_of_le LA.out hb.size)
        replace KT := Lib.hid ((hb.block _ LT.out).trans KT.out)
        replace LT := Lib.hid (Nat.lt_of_lt_of_le LT.out hb.size)
        replace KU := Lib.hid ((hb.block _ LU.out).trans KU.out)
        replace LU := Lib.hid (Nat.lt_of_lt_of_le LU.out hb.size)
        replace BB := Lib.hid (BB.out.trans (hb.mono BB.out.size))
        replace SA := Lib.hid (SA.out.later hb hb.size)
        replace STt := Lib.hid (STt.out.later hb hb.size)
        replace SU := Lib.hid (SU.out.later hb hb.size)
        replace SD := Lib.hid (SD.out.later hb hb.size)
        clear hb hbe
        go_wp2_with fail
        refine hK.out _ _ ⟨(by simpa using cell_of_row w6 _ 0 _ _ _ KA.out), (by simpa using cell_of_row w6 _ 1 _ _ _ KA.out), (by simpa using cell_of_row w6 _ 0 _ _ _ KT.out), (by simpa using cell_of_row w6 _ 1 _ _ _ KT.out), (by simpa using cell_of_row w6 _ 0 _ _ _ KU.out), (by simpa using cell_of_row w6 _ 1 _ _ _ KU.out), (HEL.out _ B4.out)⟩ (fun hHeld => ?_)
        clear hK K
        try simp only [List.getElem_toArray, List.getElem_cons_zero, List.getElem_cons_succ, Act.put, List.setIfInBounds_toArray, List.set_cons_zero, List.set_cons_succ]
        refine wpAnyH_take (i := 5) (v := ?_) rfl (by kernel_rfl) (by kernel_rfl) (by kernel_rfl) (fun _ _ _ h => h) ?_ (by assumption) ?_
        rotate_left
        · first | (refine Or.inl ⟨by rfl, ?_⟩; intro w hSw; go_simp; done) | (refine Or.inl ⟨by rfl, ?_⟩; intro w hSw; go_simp; with_reducible rfl)
        try simp only [List.getElem_toArray, List.getElem_cons_zero, List.getElem_cons_succ, Act.put, List.setIfInBounds_toArray, List.set_cons_zero, List.set_cons_succ]
        refine wpAnyH_take (i := 6) (v := ?_) rfl (by kernel_rfl) (by kernel_rfl) (by kernel_rfl) (fun _ _ _ h => h) ?_ (by assumption) ?_
        rotate_left
        · first | (refine Or.inl ⟨by rfl, ?_⟩; intro w hSw; go_simp; done) | (refine Or.inl ⟨by rfl, ?_⟩; intro w hSw; go_simp; with_reducible rfl)
        try simp only [List.getElem_toArray, List.getElem_cons_zero, List.getElem_cons_succ, Act.put, List.setIfInBounds_toArray, List.set_cons_zero, List.set_cons_succ]
        refine wpAnyH_take (i := 7) (v := ?_) rfl (by kernel_rfl) (by kernel_rfl) (by kernel_rfl) (fun _ _ _ h => h) ?_ (by assumption) ?_
        rotate_left
        · first | (refine Or.inl ⟨by rfl, ?_⟩; intro w hSw; go_simp; done) | (refine Or.inl ⟨by rfl, ?_⟩; intro w hSw; go_simp; with_reducible rfl)
        try simp only [List.getElem_toArray, List.getElem_cons_zero, List.getElem_cons_succ, Act.put, List.setIfInBounds_toArray, List.set_cons_zero, List.set_cons_succ]
        refine wpAnyH_take (i := 8) (v := ?_) rfl (by kernel_rfl) (by kernel_rfl) (by kernel_rfl) (fun _ _ _ h => h) ?_ (by assumption) ?_
        rotate_left
        · first | (refine Or.inl ⟨by rfl, ?_⟩; intro w hSw; obtain ⟨hS0, hS1, hS2, hS3, hS4, hS5, hS6⟩ := hSw; go_simp; done) | (refine Or.inl ⟨by rfl, ?_⟩; intro w hSw; obtain ⟨hS0, hS1, hS2, hS3, hS4, hS5, hS6⟩ := hSw; go_simp; with_reducible rfl)
        try simp only [List.getElem_toArray, List.getElem_cons_zero, List.getElem_cons_succ, Act.put, List.setIfInBounds_toArray, List.set_cons_zero, List.set_cons_succ]
        refine wpAnyH_take (i := 9) (v := ?_) rfl (by kernel_rfl) (by kernel_rfl) (by kernel_rfl) (fun _ _ _ h => h) ?_ (by assumption) ?_
        rotate_left
        · first | (refine Or.inl ⟨by rfl, ?_⟩; intro w hSw; go_simp; done) | (refine Or.inl ⟨by rfl, ?_⟩; intro w hSw; go_simp; with_reducible rfl)
        try simp only [List.getElem_toArray, List.getElem_cons_zero, List.getElem_cons_succ, Act.put, List.setIfInBounds_toArray, List.set_cons_zero, List.set_cons_succ]
        refine wpAnyH_ready (rs := [10]) (by kernel_rfl) (by simp) ?_
        refine AllReadyH.cons rfl (fun K hK => ?_) AllReadyH.nil
        go_simp
        have hc := spec_itemAt u _ w6.heap.size k w6 SU.out (Nat.le_refl _)
        rw [← Hiu.out] at hc
        go_at_call 22
        refine (hc).mono ?_
        rintro e w7 ⟨rfl, hb⟩
        replace B4 := Lib.hid (B4.out.trans (hb.mono B4.out.size))
        replace KA := Lib.hid ((hb.block _ LA.out).trans KA.out)
        replace LA := Lib.hid (Nat.lt_of_lt_of_le LA.out hb.size)
        replace KT := Lib.hid ((hb.block _ LT.out).trans KT.out)
        replace LT := Lib.hid (Nat.lt_of_lt_of_le LT.out hb.size)
        replace KU := Lib.hid ((hb.block _ LU.out).trans KU.out)
        replace LU := Lib.hid (Nat.lt_of_lt_of_le LU.out hb.size)
        replace BB := Lib.hid (BB.out.trans (hb.mono BB.out.size))
        replace SA := Lib.hid (SA.out.later hb hb.size)
        replace STt := Lib.hid (STt.out.later hb hb.size)
        replace SU := Lib.hid (SU.out.later hb hb.size)
        replace SD := Lib.hid (SD.out.later hb hb.size)
        clear hb
        clear hc
        go_wp2_with fail
        refine hK.out _ _ ⟨(by simpa using cell_of_row w7 _ 0 _ _ _ KA.out), (by simpa using cell_of_row w7 _ 1 _ _ _ KA.out), (by simpa using cell_of_row w7 _ 0 _ _ _ KT.out), (by simpa using cell_of_row w7 _ 1 _ _ _ KT.out), (by simpa using cell_of_row w7 _ 0 _ _ _ KU.out), (by simpa using cell_of_row w7 _ 1 _ _ _ KU.out), (HEL.out _ B4.out)⟩ (fun hHeld => ?_)
        clear hK K
        try simp only [List.getElem_toArray, List.getElem_cons_zero, List.getElem_cons_succ, Act.put, List.setIfInBounds_toArray, List.set_cons_zero, List.set_cons_succ]
        refine wpAnyH_take (i := 11) (v := ?_) rfl (by kernel_rfl) (by kernel_rfl) (by kernel_rfl) (fun _ _ _ h => h) ?_ (by assumption) ?_
        rotate_left
        · first | (refine Or.inl ⟨by rfl, ?_⟩; intro w hSw; go_simp; done) | (refine Or.inl ⟨by rfl, ?_⟩; intro w hSw; go_simp; with_reducible rfl)
        try simp only [List.getElem_toArray, List.getElem_cons_zero, List.getElem_cons_succ, Act.put, List.setIfInBounds_toArray, List.set_cons_zero, List.set_cons_succ]
        refine wpAnyH_take (i := 12) (v := ?_) rfl (by kernel_rfl) (by kernel_rfl) (by kernel_rfl) (fun _ _ _ h => h) ?_ (by assumption) ?_
        rotate_left
        · first | (refine Or.inl ⟨by rfl, ?_⟩; intro w hSw; go_simp; done) | (refine Or.inl ⟨by rfl, ?_⟩; intro w hSw; go_simp; with_reducible rfl)
        try simp only [List.getElem_toArray, List.getElem_cons_zero, List.getElem_cons_succ, Act.put, List.setIfInBounds_toArray, List.set_cons_zero, List.set_cons_succ]
        refine wpAnyH_take (i := 13) (v := ?_) rfl (by kernel_rfl) (by kernel_rfl) (by kernel_rfl) (fun _ _ _ h => h) ?_ (by assumption) ?_
        rotate_left
        · first | (refine Or.inl ⟨by rfl, ?_⟩; intro w hSw; go_simp; done) | (refine Or.inl ⟨by rfl, ?_⟩; intro w hSw; go_simp; with_reducible rfl)
        try simp only [List.getElem_toArray, List.getElem_cons_zero, List.getElem_cons_succ, Act.put, List.setIfInBounds_toArray, List.set_cons_zero, List.set_cons_succ]
        refine wpAnyH_take (i := 14) (v := ?_) rfl (by kernel_rfl) (by kernel_rfl) (by kernel_rfl) (fun _ _ _ h => h) ?_ (by assumption) ?_
        rotate_left
        · first | (refine Or.inl ⟨by rfl, ?_⟩; intro w hSw; go_simp; done) | (refine Or.inl ⟨by rfl, ?_⟩; intro w hSw; go_simp; with_reducible rfl)
        try simp only [List.getElem_toArray, List.getElem_cons_zero, List.getElem_cons_succ, Act.put, List.setIfInBounds_toArray, List.set_cons_zero, List.set_cons_succ]
        refine wpAnyH_take (i := 15) (v := ?_) rfl (by kernel_rfl) (by kernel_rfl) (by kernel_rfl) (fun _ _ _ h => h) ?_ (by assumption) ?_
        rotate_left
        · first | (refine Or.inl ⟨by rfl, ?_⟩; intro w hSw; go_simp; done) | (refine Or.inl ⟨by rfl, ?_⟩; intro w hSw; go_simp; with_reducible rfl)
        try simp only [List.getElem_toArray, List.getElem_cons_zero, List.getElem_cons_succ, Act.put, List.setIfInBounds_toArray, List.set_cons_zero, List.set_cons_succ]
        refine wpAnyH_take (i := 16) (v := ?_) rfl (by kernel_rfl) (by kernel_rfl) (by kernel_rfl) (fun _ _ _ h => h) ?_ (by assumption) ?_
        rotate_left
        · first | (refine Or.inl ⟨by rfl, ?_⟩; intro w hSw; go_simp; done) | (refine Or.inl ⟨by rfl, ?_⟩; intro w hSw; go_simp; with_reducible rfl)
        try simp only [List.getElem_toArray, List.getElem_cons_zero, List.getElem_cons_succ, Act.put, List.setIfInBounds_toArray, List.set_cons_zero, List.set_cons_succ]
        refine wpAnyH_take (i := 17) (v := ?_) rfl (by kernel_rfl) (by kernel_rfl) (by kernel_rfl) (fun _ _ _ h => h) ?_ (by assumption) ?_
        rotate_left
        · first | (refine Or.inl ⟨by rfl, ?_⟩; intro w hSw; go_simp; done) | (refine Or.inl ⟨by rfl, ?_⟩; intro w hSw; go_simp; with_reducible rfl)
        try simp only [List.getElem_toArray, List.getElem_cons_zero, List.getElem_cons_succ, Act.put, List.setIfInBounds_toArray, List.set_cons_zero, List.set_cons_succ]
        refine wpAnyH_take (i := 18) (v := ?_) rfl (by kernel_rfl) (by kernel_rfl) (by kernel_rfl) (fun _ _ _ h => h) ?_ (by assumption) ?_
        rotate_left
        · first | (refine Or.inl ⟨by rfl, ?_⟩; intro w hSw; obtain ⟨hS0, hS1, hS2, hS3, hS4, hS5, hS6⟩ := hSw; go_simp; done) | (refine Or.inl ⟨by rfl, ?_⟩; intro w hSw; obtain ⟨hS0, hS1, hS2, hS3, hS4, hS5, hS6⟩ := hSw; go_simp; with_reducible rfl)
        try simp only [List.getElem_toArray, List.getElem_cons_zero, List.getElem_cons_succ, Act.put, List.setIfInBounds_toArray, List.set_cons_zero, List.set_cons_succ]
        refine wpAnyH_take (i := 19) (v := ?_) rfl (by kernel_rfl) (by kernel_rfl) (by kernel_rfl) (fun _ _ _ h => h) ?_ (by assumption) ?_
        rotate_left
        · first | (refine Or.inl ⟨by rfl, ?_⟩; intro w hSw; go_simp; done) | (refine Or.inl ⟨by rfl, ?_⟩; intro w hSw; go_simp; with_reducible rfl)
        try simp only [List.getElem_toArray, List.getElem_cons_zero, List.getElem_cons_succ, Act.put, List.setIfInBounds_toArray, List.set_cons_zero, List.set_cons_succ]
        refine wpAnyH_take (i := 20) (v := ?_) rfl (by kernel_rfl) (by kernel_rfl) (by kernel_rfl) (fun _ _ _ h => h) ?_ (by assumption) ?_
        rotate_left
        · first | (refine Or.inl ⟨by rfl, ?_⟩; intro w hSw; go_simp; done) | (refine Or.inl ⟨by rfl, ?_⟩; intro w hSw; go_simp; with_reducible rfl)
        try simp only [List.getElem_toArray, List.getElem_cons_zero, List.getElem_cons_succ, Act.put, List.setIfInBounds_toArray, List.set_cons_zero, List.set_cons_succ]
        refine wpAnyH_take (i := 21) (v := ?_) rfl (by kernel_rfl) (by kernel_rfl) (by kernel_rfl) (fun _ _ _ h => h) ?_ (by assumption) ?_
        rotate_left
        · first | (refine Or.inl ⟨by rfl, ?_⟩; intro w hSw; go_simp; done) | (refine Or.inl ⟨by rfl, ?_⟩; intro w hSw; go_simp; with_reducible rfl)
        try simp only [List.getElem_toArray, List.getElem_cons_zero, List.getElem_cons_succ, Act.put, List.setIfInBounds_toArray, List.set_cons_zero, List.set_cons_succ]
        refine wpAnyH_take (i := 22) (v := ?_) rfl (by kernel_rfl) (by kernel_rfl) (by kernel_rfl) (fun _ _ _ h => h) ?_ (by assumption) ?_
        rotate_left
        · first | (refine Or.inl ⟨by rfl, ?_⟩; intro w hSw; obtain ⟨hS0, hS1, hS2, hS3, hS4, hS5, hS6⟩ := hSw; go_simp; done) | (refine Or.inl ⟨by rfl, ?_⟩; intro w hSw; obtain ⟨hS0, hS1, hS2, hS3, hS4, hS5, hS6⟩ := hSw; go_simp; with_reducible rfl)
        try simp only [List.getElem_toArray, List.getElem_cons_zero, List.getElem_cons_succ, Act.put, List.setIfInBounds_toArray, List.set_cons_zero, List.set_cons_succ]
        refine wpAnyH_take (i := 23) (v := ?_) rfl (by kernel_rfl) (by kernel_rfl) (by kernel_rfl) (fun _ _ _ h => h) ?_ (by assumption) ?_
        rotate_left
        · first | (refine Or.inl ⟨by rfl, ?_⟩; intro w hSw; go_simp; done) | (refine Or.inl ⟨by rfl, ?_⟩; intro w hSw; go_simp; with_reducible rfl)
        try simp only [List.getElem_toArray, List.getElem_cons_zero, List.getElem_cons_succ, Act.put, List.setIfInBounds_toArray, List.set_cons_zero, List.set_cons_succ]
        refine wpAnyH_take (i := 24) (v := ?_) rfl (by kernel_rfl) (by kernel_rfl) (by kernel_rfl) (fun _ _ _ h => h) ?_ (by assumption) ?_
        rotate_left
        · first | (refine Or.inl ⟨by rfl, ?_⟩; intro w hSw; go_simp; done) | (refine Or.inl ⟨by rfl, ?_⟩; intro w hSw; go_simp; with_reducible rfl)
        try simp only [List.getElem_toArray, List.getElem_cons_zero, List.getElem_cons_succ, Act.put, List.setIfInBounds_toArray, List.set_cons_zero, List.set_cons_succ]
        refine wpAnyH_take (i := 25) (v := ?_) rfl (by kernel_rfl) (by kernel_rfl) (by kernel_rfl) (fun _ _ _ h => h) ?_ (by assumption) ?_
        rotate_left
        · first | (refine Or.inl ⟨by rfl, ?_⟩; intro w hSw; go_simp; done) | (refine Or.inl ⟨by rfl, ?_⟩; intro w hSw; go_simp; with_reducible rfl)
        try simp only [List.getElem_toArray, List.getElem_cons_zero, List.getElem_cons_succ, Act.put, List.setIfInBounds_toArray, List.set_cons_zero, List.set_cons_succ]
        refine wpAnyH_take (i := 26) (v := ?_) rfl (by kernel_rfl) (by kernel_rfl) (by kernel_rfl) (fun _ _ _ h => h) ?_ (by assumption) ?_
        rotate_left
        · first | (refine Or.inl ⟨by rfl, ?_⟩; intro w hSw; go_simp; done) | (refine Or.inl ⟨by rfl, ?_⟩; intro w hSw; go_simp; with_reducible rfl)
        try simp only [List.getElem_toArray, List.getElem_cons_zero, List.getElem_cons_succ, Act.put, List.setIfInBounds_toArray, List.set_cons_zero, List.set_cons_succ]
        refine wpAnyH_done (by kernel_rfl) ?_ _
        clear hHeld
        go_wp2_with fail
        go_meet
        exact ⟨rfl, B4⟩
      · obtain rfl : iu = -1 := by
          rw [Hiu.out]; exact (itemAt_miss (by rw [← Hiu.out]; exact hiu)).1
        clear hiu hii
        have hii : ((-1 : Int) != -1) = false := by decide
        obtain ⟨zD, hzD⟩ : ∃ z, z = w4.drew := ⟨_, rfl⟩
        have bzD : Below w4.heap.size w4 zD := by rw [hzD]; exact (Below.refl _ _).drew
        replace B4 := Lib.hid (B4.out.trans (bzD.mono B4.out.size))
        replace KA := Lib.hid ((bzD.block _ LA.out).trans KA.out)
        replace LA := Lib.hid (Nat.lt_of_lt_of_le LA.out bzD.size)
        replace KT := Lib.hid ((bzD.block _ LT.out).trans KT.out)
        replace LT := Lib.hid (Nat.lt_of_lt_of_le LT.out bzD.size)
        replace KU := Lib.hid ((bzD.block _ LU.out).trans KU.out)
        replace LU := Lib.hid (Nat.lt_of_lt_of_le LU.out bzD.size)
        replace BB := Lib.hid (BB.out.trans (bzD.mono BB.out.size))
        replace SA := Lib.hid (SA.out.later bzD bzD.size)
        replace STt := Lib.hid (STt.out.later bzD bzD.size)
        replace SU := Lib.hid (SU.out.later bzD bzD.size)
        refine wp_region_held_drew (S := (fun w' => w'.cell? ⟨w1.heap.size, 0, none⟩ = some (.slice sa s.items.length sc) ∧ w'.cell? ⟨w1.heap.size, 1, none⟩ = some (.slice ta s.talks.length tc) ∧ w'.cell? ⟨w2.heap.size, 0, none⟩ = some (.slice tai t.items.length tci) ∧ w'.cell? ⟨w2.heap.size, 1, none⟩ = some (.slice tat t.talks.length tct) ∧ w'.cell? ⟨w3.heap.size, 0, none⟩ = some (.slice ua u.items.length uc) ∧ w'.cell? ⟨w3.heap.size, 1, none⟩ = some (.slice va u.talks.length vc))) (by kernel_rfl) (by rw [← hzD]; exact ⟨(by simpa using cell_of_row zD _ 0 _ _ _ KA.out), (by simpa using cell_of_row zD _ 1 _ _ _ KA.out), (by simpa using cell_of_row zD _ 0 _ _ _ KT.out), (by simpa using cell_of_row zD _ 1 _ _ _ KT.out), (by simpa using cell_of_row zD _ 0 _ _ _ KU.out), (by simpa using cell_of_row zD _ 1 _ _ _ KU.out)⟩) (fun hHeld => ?_)
        rw [← hzD] at hHeld ⊢
        have bzE := Lib.hid bzD
        clear bzD hzD
        refine wpAnyH_take (i := 0) (v := ?_) rfl (by kernel_rfl) (by kernel_rfl) (by kernel_rfl) (fun _ _ _ h => h) ?_ (by assumption) ?_
        rotate_left
        · first | (refine Or.inl ⟨by rfl, ?_⟩; intro w hSw; obtain ⟨hS0, hS1, hS2, hS3, hS4, hS5⟩ := hSw; go_simp; done) | (refine Or.inl ⟨by rfl, ?_⟩; intro w hSw; obtain ⟨hS0, hS1, hS2, hS3, hS4, hS5⟩ := hSw; go_simp; with_reducible rfl)
        try simp only [List.getElem_toArray, List.getElem_cons_zero, Act.put, List.setIfInBounds_toArray, List.set_cons_zero, List.set_cons_succ]
        refine wpAnyH_take (i := 1) (v := ?_) rfl (by kernel_rfl) (by kernel_rfl) (by kernel_rfl) (fun _ _ _ h => h) ?_ (by assumption) ?_
        rotate_left
        · first | (refine Or.inl ⟨by rfl, ?_⟩; intro w hSw; obtain ⟨hS0, hS1, hS2, hS3, hS4, hS5⟩ := hSw; go_simp; done) | (refine Or.inl ⟨by rfl, ?_⟩; intro w hSw; obtain ⟨hS0, hS1, hS2, hS3, hS4, hS5⟩ := hSw; go_simp; with_reducible rfl)
        try simp only [List.getElem_toArray, List.getElem_cons_zero, List.getElem_cons_succ, Act.put, List.setIfInBounds_toArray, List.set_cons_zero, List.set_cons_succ]
        refine wpAnyH_take (i := 2) (v := ?_) rfl (by kernel_rfl) (by kernel_rfl) (by kernel_rfl) (fun _ _ _ h => h) ?_ (by assumption) ?_
        rotate_left
        · first | (refine Or.inl ⟨by rfl, ?_⟩; intro w hSw; go_simp; done) | (refine Or.inl ⟨by rfl, ?_⟩; intro w hSw; go_simp; with_reducible rfl)
        try simp only [List.getElem_toArray, List.getElem_cons_zero, List.getElem_cons_succ, Act.put, List.setIfInBounds_toArray, List.set_cons_zero, List.set_cons_succ]
        refine wpAnyH_ready (rs := [3]) (by kernel_rfl) (by simp) ?_
        refine AllReadyH.cons rfl (fun K hK => ?_) AllReadyH.nil
        go_simp
        have hc := spec_drop s _ zD.heap.size key zD SA.out (Nat.le_refl _) Hfew.out Hfit.out
        rw [← Ht.out] at hc
        go_at_call 27
        refine (hc).mono ?_
        rintro e w5 ⟨_, rfl, ho, hb⟩
        replace B4 := Lib.hid (B4.out.trans (hb.mono B4.out.size))
        replace KA := Lib.hid ((hb.block _ LA.out).trans KA.out)
        replace LA := Lib.hid (Nat.lt_of_lt_of_le LA.out hb.size)
        replace KT := Lib.hid ((hb.block _ LT.out).trans KT.out)
        replace LT := Lib.hid (Nat.lt_of_lt_of_le LT.out hb.size)
        replace KU := Lib.hid ((hb.block _ LU.out).trans KU.out)
        replace LU := Lib.hid (Nat.lt_of_lt_of_le LU.out hb.size)
        replace BB := Lib.hid (BB.out.trans (hb.mono BB.out.size))
        replace SA := Lib.hid (SA.out.later hb hb.size)
        replace STt := Lib.hid (STt.out.later hb hb.size)
        replace SU := Lib.hid (SU.out.later hb hb.size)
        clear hb
        have SD := Lib.hid ho.n.st
        obtain ⟨_, _, _, _, rfl, _, _, _⟩ := ho
        clear hc
        go_wp2_with fail
        refine hK.out _ _ ⟨(by simpa using cell_of_row w5 _ 0 _ _ _ KA.out), (by simpa using cell_of_row w5 _ 1 _ _ _ KA.out), (by simpa using cell_of_row w5 _ 0 _ _ _ KT.out), (by simpa using cell_of_row w5 _ 1 _ _ _ KT.out), (by simpa using cell_of_row w5 _ 0 _ _ _ KU.out), (by simpa using cell_of_row w5 _ 1 _ _ _ KU.out)⟩ (fun hHeld => ?_)
        clear hK K
        try simp only [List.getElem_toArray, List.getElem_cons_zero, List.getElem_cons_succ, Act.put, List.setIfInBounds_toArray, List.set_cons_zero, List.set_cons_succ]
        refine wpAnyH_ready (rs := [4]) (by kernel_rfl) (by simp) ?_
        refine AllReadyH.cons rfl (fun K hK => ?_) AllReadyH.nil
        go_simp
        go_at_call 19
        refine (spec_same t t _ _ w5.heap.size w5 STt.out.rd SD.out.rd (Nat.le_refl _)).mono ?_
        rintro e w6 ⟨bb, rfl, hbe, hb⟩
        obtain rfl : bb = true := hbe.2 rfl
        replace B4 := Lib.hid (B4.out.trans (hb.mono B4.out.size))
        replace KA := Lib.hid ((hb.block _ LA.out).trans KA.out)
        replace LA := Lib.hid (Nat.lt_of_lt_of_le LA.out hb.size)
        replace KT := Lib.hid ((hb.block _ LT.out).trans KT.out)
        replace LT := Lib.hid (Nat.lt_of_lt_of_le LT.out hb.size)
        replace KU := Lib.hid ((hb.block _ LU.out).trans KU.out)
        replace LU := Lib.hid (Nat.lt_of_lt_of_le LU.out hb.size)
        replace BB := Lib.hid (BB.out.trans (hb.mono BB.out.size))
        replace SA := Lib.hid (SA.out.later hb hb.size)
        replace STt := Lib.hid (STt.out.later hb hb.size)
        replace SU := Lib.hid (SU.out.later hb hb.size)
        replace SD := Lib.hid (SD.out.later hb hb.size)
        clear hb hbe
        go_wp2_with fail
        refine hK.out _ _ ⟨(by simpa using cell_of_row w6 _ 0 _ _ _ KA.out), (by simpa using cell_of_row w6 _ 1 _ _ _ KA.out), (by simpa using cell_of_row w6 _ 0 _ _ _ KT.out), (by simpa using cell_of_row w6 _ 1 _ _ _ KT.out), (by simpa using cell_of_row w6 _ 0 _ _ _ KU.out), (by simpa using cell_of_row w6 _ 1 _ _ _ KU.out)⟩ (fun hHeld => ?_)
        clear hK K
        try simp only [List.getElem_toArray, List.getElem_cons_zero, List.getElem_cons_succ, Act.put, List.setIfInBounds_toArray, List.set_cons_zero, List.set_cons_succ]
        refine wpAnyH_take (i := 5) (v := ?_) rfl (by kernel_rfl) (by kernel_rfl) (by kernel_rfl) (fun _ _ _ h => h) ?_ (by assumption) ?_
        rotate_left
        · first | (refine Or.inl ⟨by rfl, ?_⟩; intro w hSw; go_simp; done) | (refine Or.inl ⟨by rfl, ?_⟩; intro w hSw; go_simp; with_reducible rfl)
        try simp only [List.getElem_toArray, List.getElem_cons_zero, List.getElem_cons_succ, Act.put, List.setIfInBounds_toArray, List.set_cons_zero, List.set_cons_succ]
        refine wpAnyH_take (i := 6) (v := ?_) rfl (by kernel_rfl) (by kernel_rfl) (by kernel_rfl) (fun _ _ _ h => h) ?_ (by assumption) ?_
        rotate_left
        · first | (refine Or.inl ⟨by rfl, ?_⟩; intro w hSw; go_simp; done) | (refine Or.inl ⟨by rfl, ?_⟩; intro w hSw; go_simp; with_reducible rfl)
        try simp only [List.getElem_toArray, List.getElem_cons_zero, List.getElem_cons_succ, Act.put, List.setIfInBounds_toArray, List.set_cons_zero, List.set_cons_succ]
        refine wpAnyH_take (i := 7) (v := ?_) rfl (by kernel_rfl) (by kernel_rfl) (by kernel_rfl) (fun _ _ _ h => h) ?_ (by assumption) ?_
        rotate_left
        · first | (refine Or.inl ⟨by rfl, ?_⟩; intro w hSw; go_simp; done) | (refine Or.inl ⟨by rfl, ?_⟩; intro w hSw; go_simp; with_reducible rfl)
        try simp only [List.getElem_toArray, List.getElem_cons_zero, List.getElem_cons_succ, Act.put, List.setIfInBounds_toArray, List.set_cons_zero, List.set_cons_succ]
        refine wpAnyH_take (i := 8) (v := ?_) rfl (by kernel_rfl) (by kernel_rfl) (by kernel_rfl) (fun _ _ _ h => h) ?_ (by assumption) ?_
        rotate_left
        · first | (refine Or.inl ⟨by rfl, ?_⟩; intro w hSw; obtain ⟨hS0, hS1, hS2, hS3, hS4, hS5⟩ := hSw; go_simp; done) | (refine Or.inl ⟨by rfl, ?_⟩; intro w hSw; obtain ⟨hS0, hS1, hS2, hS3, hS4, hS5⟩ := hSw; go_simp; with_reducible rfl)
        try simp only [List.getElem_toArray, List.getElem_cons_zero, List.getElem_cons_succ, Act.put, List.setIfInBounds_toArray, List.set_cons_zero, List.set_cons_succ]
        refine wpAnyH_take (i := 9) (v := ?_) rfl (by kernel_rfl) (by kernel_rfl) (by kernel_rfl) (fun _ _ _ h => h) ?_ (by assumption) ?_
        rotate_left
        · first | (refine Or.inl ⟨by rfl, ?_⟩; intro w hSw; go_simp; done) | (refine Or.inl ⟨by rfl, ?_⟩; intro w hSw; go_simp; with_reducible rfl)
        try simp only [List.getElem_toArray, List.getElem_cons_zero, List.getElem_cons_succ, Act.put, List.setIfInBounds_toArray, List.set_cons_zero, List.set_cons_succ]
        refine wpAnyH_ready (rs := [10]) (by kernel_rfl) (by simp) ?_
        refine AllReadyH.cons rfl (fun K hK => ?_) AllReadyH.nil
        go_simp
        have hc := spec_itemAt u _ w6.heap.size k w6 SU.out (Nat.le_refl _)
        rw [← Hiu.out] at hc
        go_at_call 22
        refine (hc).mono ?_
        rintro e w7 ⟨rfl, hb⟩
        replace B4 := Lib.hid (B4.out.trans (hb.mono B4.out.size))
        replace KA := Lib.hid ((hb.block _ LA.out).trans KA.out)
        replace LA := Lib.hid (Nat.lt_of_lt_of_le LA.out hb.size)
        replace KT := Lib.hid ((hb.block _ LT.out).trans KT.out)
        replace LT := Lib.hid (Nat.lt_of_lt_of_le LT.out hb.size)
        replace KU := Lib.hid ((hb.block _ LU.out).trans KU.out)
        replace LU := Lib.hid (Nat.lt_of_lt_of_le LU.out hb.size)
        replace BB := Lib.hid (BB.out.trans (hb.mono BB.out.size))
        replace SA := Lib.hid (SA.out.later hb hb.size)
        replace STt := Lib.hid (STt.out.later hb hb.size)
        replace SU := Lib.hid (SU.out.later hb hb.size)
        replace SD := Lib.hid (SD.out.later hb hb.size)
        clear hb
        clear hc
        go_wp2_with fail
        refine hK.out _ _ ⟨(by simpa using cell_of_row w7 _ 0 _ _ _ KA.out), (by simpa using cell_of_row w7 _ 1 _ _ _ KA.out), (by simpa using cell_of_row w7 _ 0 _ _ _ KT.out), (by simpa using cell_of_row w7 _ 1 _ _ _ KT.out), (by simpa using cell_of_row w7 _ 0 _ _ _ KU.out), (by simpa using cell_of_row w7 _ 1 _ _ _ KU.out)⟩ (fun hHeld => ?_)
        clear hK K
        try simp only [List.getElem_toArray, List.getElem_cons_zero, List.getElem_cons_succ, Act.put, List.setIfInBounds_toArray, List.set_cons_zero, List.set_cons_succ]
        refine wpAnyH_take (i := 11) (v := ?_) rfl (by kernel_rfl) (by kernel_rfl) (by kernel_rfl) (fun _ _ _ h => h) ?_ (by assumption) ?_
        rotate_left
        · first | (refine Or.inl ⟨by rfl, ?_⟩; intro w hSw; go_simp; done) | (refine Or.inl ⟨by rfl, ?_⟩; intro w hSw; go_simp; with_reducible rfl)
        try simp only [List.getElem_toArray, List.getElem_cons_zero, List.getElem_cons_succ, Act.put, List.setIfInBounds_toArray, List.set_cons_zero, List.set_cons_succ]
        refine wpAnyH_take (i := 12) (v := ?_) rfl (by kernel_rfl) (by kernel_rfl) (by kernel_rfl) (fun _ _ _ h => h) ?_ (by assumption) ?_
        rotate_left
        · first | (refine Or.inl ⟨by rfl, ?_⟩; intro w hSw; go_simp; done) | (refine Or.inl ⟨by rfl, ?_⟩; intro w hSw; go_simp; with_reducible rfl)
        try simp only [List.getElem_toArray, List.getElem_cons_zero, List.getElem_cons_succ, Act.put, List.setIfInBounds_toArray, List.set_cons_zero, List.set_cons_succ]
        refine wpAnyH_take (i := 13) (v := ?_) rfl (by kernel_rfl) (by kernel_rfl) (by kernel_rfl) (fun _ _ _ h => h) ?_ (by assumption) ?_
        rotate_left
        · first | (refine Or.inl ⟨by rfl, ?_⟩; intro w hSw; go_simp; done) | (refine Or.inl ⟨by rfl, ?_⟩; intro w hSw; go_simp; with_reducible rfl)
        try simp only [List.getElem_toArray, List.getElem_cons_zero, List.getElem_cons_succ, Act.put, List.setIfInBounds_toArray, List.set_cons_zero, List.set_cons_succ]
        refine wpAnyH_take (i := 14) (v := ?_) rfl (by kernel_rfl) (by kernel_rfl) (by kernel_rfl) (fun _ _ _ h => h) ?_ (by assumption) ?_
        rotate_left
        · first | (refine Or.inl ⟨by rfl, ?_⟩; intro w hSw; go_simp; done) | (refine Or.inl ⟨by rfl, ?_⟩; intro w hSw; go_simp; with_reducible rfl)
        try simp only [List.getElem_toArray, List.getElem_cons_zero, List.getElem_cons_succ, Act.put, List.setIfInBounds_toArray, List.set_cons_zero, List.set_cons_succ]
        refine wpAnyH_take (i := 15) (v := ?_) rfl (by kernel_rfl) (by kernel_rfl) (by kernel_rfl) (fun _ _ _ h => h) ?_ (by assumption) ?_
        rotate_left
        · first | (refine Or.inl ⟨by rfl, ?_⟩; intro w hSw; go_simp; done) | (refine Or.inl ⟨by rfl, ?_⟩; intro w hSw; go_simp; with_reducible rfl)
        try simp only [List.getElem_toArray, List.getElem_cons_zero, List.getElem_cons_succ, Act.put, List.setIfInBounds_toArray, List.set_cons_zero, List.set_cons_succ]
        refine wpAnyH_take (i := 16) (v := ?_) rfl (by kernel_rfl) (by kernel_rfl) (by kernel_rfl) (fun _ _ _ h => h) ?_ (by assumption) ?_
        rotate_left
        · first | (refine Or.inl ⟨by rfl, ?_⟩; intro w hSw; go_simp; done) | (refine Or.inl ⟨by rfl, ?_⟩; intro w hSw; go_simp; with_reducible rfl)
        try simp only [List.getElem_toArray, List.getElem_cons_zero, List.getElem_cons_succ, Act.put, List.setIfInBounds_toArray, List.set_cons_zero, List.set_cons_succ]
        refine wpAnyH_take (i := 17) (v := undef) rfl (by kernel_rfl) (by kernel_rfl) (by kernel_rfl) (fun _ _ _ h => h) (Or.inr ⟨by rfl, rfl⟩) (by assumption) ?_
        try simp only [List.getElem_toArray, List.getElem_cons_zero, List.getElem_cons_succ, Act.put, List.setIfInBounds_toArray, List.set_cons_zero, List.set_cons_succ]
        refine wpAnyH_take (i := 18) (v := undef) rfl (by kernel_rfl) (by kernel_rfl) (by kernel_rfl) (fun _ _ _ h => h) (Or.inr ⟨by rfl, rfl⟩) (by assumption) ?_
        try simp only [List.getElem_toArray, List.getElem_cons_zero, List.getElem_cons_succ, Act.put, List.setIfInBounds_toArray, List.set_cons_zero, List.set_cons_succ]
        refine wpAnyH_take (i := 19) (v := undef) rfl (by kernel_rfl) (by kernel_rfl) (by kernel_rfl) (fun _ _ _ h => h) (Or.inr ⟨by rfl, rfl⟩) (by assumption) ?_
        try simp only [List.getElem_toArray, List.getElem_cons_zero, List.getElem_cons_succ, Act.put, List.setIfInBounds_toArray, List.set_cons_zero, List.set_cons_succ]
        refine wpAnyH_take (i := 20) (v := undef) rfl (by kernel_rfl) (by kernel_rfl) (by kernel_rfl) (fun _ _ _ h => h) (Or.inr ⟨by rfl, rfl⟩) (by assumption) ?_
        try simp only [List.getElem_toArray, List.getElem_cons_zero, List.getElem_cons_succ, Act.put, List.setIfInBounds_toArray, List.set_cons_zero, List.set_cons_succ]
        refine wpAnyH_take (i := 21) (v := undef) rfl (by kernel_rfl) (by kernel_rfl) (by kernel_rfl) (fun _ _ _ h => h) (Or.inr ⟨by rfl, rfl⟩) (by assumption) ?_
        try simp only [List.getElem_toArray, List.getElem_cons_zero, List.getElem_cons_succ, Act.put, List.setIfInBounds_toArray, List.set_cons_zero, List.set_cons_succ]
        refine wpAnyH_take (i := 22) (v := undef) rfl (by kernel_rfl) (by kernel_rfl) (by kernel_rfl) (fun _ _ _ h => h) (Or.inr ⟨by rfl, rfl⟩) (by assumption) ?_
        try simp only [List.getElem_toArray, List.getElem_cons_zero, List.getElem_cons_succ, Act.put, List.setIfInBounds_toArray, List.set_cons_zero, List.set_cons_succ]
        refine wpAnyH_take (i := 23) (v := undef) rfl (by kernel_rfl) (by kernel_rfl) (by kernel_rfl) (fun _ _ _ h => h) (Or.inr ⟨by rfl, rfl⟩) (by assumption) ?_
        try simp only [List.getElem_toArray, List.getElem_cons_zero, List.getElem_cons_succ, Act.put, List.setIfInBounds_toArray, List.set_cons_zero, List.set_cons_succ]
        refine wpAnyH_take (i := 24) (v := undef) rfl (by kernel_rfl) (by kernel_rfl) (by kernel_rfl) (fun _ _ _ h => h) (Or.inr ⟨by rfl, rfl⟩) (by assumption) ?_
        try simp only [List.getElem_toArray, List.getElem_cons_zero, List.getElem_cons_succ, Act.put, List.setIfInBounds_toArray, List.set_cons_zero, List.set_cons_succ]
        refine wpAnyH_take (i := 25) (v := ?_) rfl (by kernel_rfl) (by kernel_rfl) (by kernel_rfl) (fun _ _ _ h => h) ?_ (by assumption) ?_
        rotate_left
        · first | (refine Or.inl ⟨by rfl, ?_⟩; intro w hSw; go_simp; done) | (refine Or.inl ⟨by rfl, ?_⟩; intro w hSw; go_simp; with_reducible rfl)
        try simp only [List.getElem_toArray, List.getElem_cons_zero, List.getElem_cons_succ, Act.put, List.setIfInBounds_toArray, List.set_cons_zero, List.set_cons_succ]
        refine wpAnyH_take (i := 26) (v := ?_) rfl (by kernel_rfl) (by kernel_rfl) (by kernel_rfl) (fun _ _ _ h => h) ?_ (by assumption) ?_
        rotate_left
        · first | (refine Or.inl ⟨by rfl, ?_⟩; intro w hSw; go_simp; done) | (refine Or.inl ⟨by rfl, ?_⟩; intro w hSw; go_simp; with_reducible rfl)
        try simp only [List.getElem_toArray, List.getElem_cons_zero, List.getElem_cons_succ, Act.put, List.setIfInBounds_toArray, List.set_cons_zero, List.set_cons_succ]
        refine wpAnyH_done (by kernel_rfl) ?_ _
        clear hHeld
        go_wp2_with fail
        go_meet
        exact ⟨rfl, B4⟩
    case rest =>
      obtain ⟨rfl, hbw⟩ := hcut
      obtain ⟨w8, rfl⟩ : ∃ z, z = wc := ⟨_, rfl⟩
      replace KA := Lib.hid ((hbw.out.block _ LA.out).trans KA.out)
      replace LA := Lib.hid (Nat.lt_of_lt_of_le LA.out hbw.out.size)
      replace KT := Lib.hid ((hbw.out.block _ LT.out).trans KT.out)
      replace LT := Lib.hid (Nat.lt_of_lt_of_le LT.out hbw.out.size)
      replace KU := Lib.hid ((hbw.out.block _ LU.out).trans KU.out)
      replace LU := Lib.hid (Nat.lt_of_lt_of_le LU.out hbw.out.size)
      replace BB := Lib.hid (BB.out.trans (hbw.out.mono BB.out.size))
      replace SA := Lib.hid (SA.out.later hbw.out hbw.out.size)
      replace STt := Lib.hid (STt.out.later hbw.out hbw.out.size)
      replace SU := Lib.hid (SU.out.later hbw.out hbw.out.size)
      clear hbw B4
      have hc := spec_stateOk s _ w8.heap.size w8 SA.out (Nat.le_refl _) Hfit.out
      have fA0 := cell_of_row w8 _ 0 _ _ _ KA.out
      have fA1 := cell_of_row w8 _ 1 _ _ _ KA.out
      simp only [List.getElem?_toArray, List.getElem?_cons_zero, List.getElem?_cons_succ] at fA0 fA1
      go_wp2_with (go_at_call 21; refine hc.mono ?_; rintro e w9 ⟨rfl, hb⟩; refine Hid.out ?_)
      refine Lib.hid ?_
      clear fA0 fA1
      replace KA := Lib.hid ((hb.block _ LA.out).trans KA.out)
      replace LA := Lib.hid (Nat.lt_of_lt_of_le LA.out hb.size)
      replace KT := Lib.hid ((hb.block _ LT.out).trans KT.out)
      replace LT := Lib.hid (Nat.lt_of_lt_of_le LT.out hb.size)
      replace KU := Lib.hid ((hb.block _ LU.out).trans KU.out)
      replace LU := Lib.hid (Nat.lt_of_lt_of_le LU.out hb.size)
      replace BB := Lib.hid (BB.out.trans (hb.mono BB.out.size))
      replace SA := Lib.hid (SA.out.later hb hb.size)
      replace STt := Lib.hid (STt.out.later hb hb.size)
      replace SU := Lib.hid (SU.out.later hb hb.size)
      clear hc hb
      by_cases hok : stOk s = true
      case neg =>
        have hok' : stOk s = false := by simpa using hok
        have Heq : Hid (t = s) := Lib.hid (by rw [Ht.out]; unfold dropS; rw [if_neg (fun h => hok h.1)])
        rw [hok']
        clear hok hok'
        have fA0 := cell_of_row w9 _ 0 _ _ _ KA.out
        have fA1 := cell_of_row w9 _ 1 _ _ _ KA.out
        simp only [List.getElem?_toArray, List.getElem?_cons_zero, List.getElem?_cons_succ] at fA0 fA1
        have fT0 := cell_of_row w9 _ 0 _ _ _ KT.out
        have fT1 := cell_of_row w9 _ 1 _ _ _ KT.out
        simp only [List.getElem?_toArray, List.getElem?_cons_zero, List.getElem?_cons_succ] at fT0 fT1
        have hc := spec_same t s _ _ w9.heap.size w9 STt.out.rd SA.out.rd (Nat.le_refl _)
        go_wp2_with (go_at_call 19; refine hc.mono ?_; rintro e wq ⟨bb, rfl, hbe, hb⟩; refine Hid.out ?_)
        refine Lib.hid ?_
        obtain rfl : bb = true := hbe.2 Heq.out
        go_wp2
        go_ret
        exact ⟨rfl, BB.out.trans (hb.mono BB.out.size)⟩
      case pos =>
        have Hok := Lib.hid hok
        rw [hok]
        clear hok
        obtain ⟨ix, hix⟩ : ∃ i, i = itemAt s.items key := ⟨_, rfl⟩
        have Hix := Lib.hid hix
        clear hix
        have hc := spec_itemAt s _ w9.heap.size key w9 SA.out (Nat.le_refl _)
        rw [← Hix.out] at hc
        have fA0 := cell_of_row w9 _ 0 _ _ _ KA.out
        have fA1 := cell_of_row w9 _ 1 _ _ _ KA.out
        simp only [List.getElem?_toArray, List.getElem?_cons_zero, List.getElem?_cons_succ] at fA0 fA1
        go_wp2_with (go_at_call 22; refine hc.mono ?_; rintro e w10 ⟨rfl, hb⟩; refine Hid.out ?_)
        refine Lib.hid ?_
        clear fA0 fA1
        replace KA := Lib.hid ((hb.block _ LA.out).trans KA.out)
        replace LA := Lib.hid (Nat.lt_of_lt_of_le LA.out hb.size)
        replace KT := Lib.hid ((hb.block _ LT.out).trans KT.out)
        replace LT := Lib.hid (Nat.lt_of_lt_of_le LT.out hb.size)
        replace KU := Lib.hid ((hb.block _ LU.out).trans KU.out)
        replace LU := Lib.hid (Nat.lt_of_lt_of_le LU.out hb.size)
        replace BB := Lib.hid (BB.out.trans (hb.mono BB.out.size))
        replace SA := Lib.hid (SA.out.later hb hb.size)
        replace STt := Lib.hid (STt.out.later hb hb.size)
        replace SU := Lib.hid (SU.out.later hb hb.size)
        clear hc hb
        by_cases hi : 0 ≤ ix
        case neg =>
          have Heq : Hid (t = s) := Lib.hid (by rw [Ht.out]; unfold dropS; rw [if_neg (fun h => by have := h.2; rw [← Hix.out] at this; exact hi this)])
          have hneg : ix < 0 := by omega
          clear hi
          have fA0 := cell_of_row w10 _ 0 _ _ _ KA.out
          have fA1 := cell_of_row w10 _ 1 _ _ _ KA.out
          simp only [List.getElem?_toArray, List.getElem?_cons_zero, List.getElem?_cons_succ] at fA0 fA1
          have fT0 := cell_of_row w10 _ 0 _ _ _ KT.out
          have fT1 := cell_of_row w10 _ 1 _ _ _ KT.out
          simp only [List.getElem?_toArray, List.getElem?_cons_zero, List.getElem?_cons_succ] at fT0 fT1
          have hc := spec_same t s _ _ w10.heap.size w10 STt.out.rd SA.out.rd (Nat.le_refl _)
          go_wp2_with (go_at_call 19; refine hc.mono ?_; rintro e wq ⟨bb, rfl, hbe, hb⟩; refine Hid.out ?_)
          refine Lib.hid ?_
          obtain rfl : bb = true := hbe.2 Heq.out
          go_wp2
          go_ret
          exact ⟨rfl, BB.out.trans (hb.mono BB.out.size)⟩
        case pos =>
          obtain ⟨j, hj, ej, e1, e2, e3, e4⟩ := drop_facts Hok.out (by rw [← Hix.out]; exact hi)
          rw [← Ht.out] at e1 e2 e3 e4
          obtain ⟨g, o, hat⟩ := st_item SA.out hj
          obtain rfl : sa = some ⟨g, o, none⟩ := hat.1
          obtain ⟨y, hy⟩ : ∃ y, y = s.items[j] := ⟨_, rfl⟩
          rw [← hy] at e3 e4 hat
          have HEL : Hid (∀ z, Below w10.heap.size w10 z → z.cell? ⟨g, o + j * 2, none⟩ = some (.string y.k) ∧ z.cell? ⟨g, o + j * 2 + 1, none⟩ = some (.string y.v)) := Lib.hid hat.2.2
          have Hy : Hid (y.k.size ≤ 64 ∧ y.v.size ≤ 64) := Lib.hid (by rw [hy]; exact Hsm.out.2.2.1 _ (List.getElem_mem hj))
          have Hfy : Hid (FitIt y) := Lib.hid ⟨by have := Hy.out; unfold maxLen; omega, by have := Hy.out; unfold maxLen; omega⟩
          have hje : ix = (j : Int) := by rw [Hix.out, ej]
          subst hje
          have hlt : (j : Int) < (s.items.length : Int) := by omega
          have E1 := Lib.hid e1
          have E2 := Lib.hid e2
          have E3 := Lib.hid e3
          have E4 := Lib.hid e4
          have Hch : Hid (chg t (putSI t y) = s) := Lib.hid (by rw [chg_of e3, e4])
          clear ej e1 e2 e3 e4 hat hj hy hi
          have hneg : ¬ (j : Int) < 0 := by omega
          go_wp2_with fail
          have B5 : Hid (Below w10.heap.size w10 w10) := Lib.hid (Below.refl _ _)
          go_cut [9, 10] (fun b0 b1 wx => ∃ (bb bi bci bt bct : Nat) (bai bat : Option Addr), b0 = .pointer (some ⟨bb, 0, none⟩) ∧ b1 = .bool true ∧ Hid (wx.heap[bb]? = some (.cells #[.slice bai s.items.length bci, .slice bat s.talks.length bct] 27 (0, 0))) ∧ Hid (StV wx wx.heap.size (.agg #[.slice bai s.items.length bci, .slice bat s.talks.length bct]) s) ∧ Hid (bb < wx.heap.size) ∧ Hid (Below w10.heap.size w10 wx))
          case first =>
            have LA0A : Hid (w1.heap.size < w10.heap.size) := LA
            have LA0T : Hid (w2.heap.size < w10.heap.size) := LT
            obtain ⟨zD, hzD⟩ : ∃ z, z = w10.drew := ⟨_, rfl⟩
            have bzD : Below w10.heap.size w10 zD := by rw [hzD]; exact (Below.refl _ _).drew
            replace B5 := Lib.hid (B5.out.trans (bzD.mono B5.out.size))
            replace KA := Lib.hid ((bzD.block _ LA.out).trans KA.out)
            replace LA := Lib.hid (Nat.lt_of_lt_of_le LA.out bzD.size)
            replace KT := Lib.hid ((bzD.block _ LT.out).trans KT.out)
            replace LT := Lib.hid (Nat.lt_of_lt_of_le LT.out bzD.size)
            replace KU := Lib.hid ((bzD.block _ LU.out).trans KU.out)
            replace LU := Lib.hid (Nat.lt_of_lt_of_le LU.out bzD.size)
            replace BB := Lib.hid (BB.out.trans (bzD.mono BB.out.size))
            replace SA := Lib.hid (SA.out.later bzD bzD.size)
            replace STt := Lib.hid (STt.out.later bzD bzD.size)
            replace SU := Lib.hid (SU.out.later bzD bzD.size)
            refine wp_region_held_drew (S := (fun w' => w'.cell? ⟨w1.heap.size, 0, none⟩ = some (.slice (some ⟨g, o, none⟩) s.items.length sc) ∧ w'.cell? ⟨w1.heap.size, 1, none⟩ = some (.slice ta s.talks.length tc) ∧ w'.cell? ⟨w2.heap.size, 0, none⟩ = some (.slice tai t.items.length tci) ∧ w'.cell? ⟨w2.heap.size, 1, none⟩ = some (.slice tat t.talks.length tct) ∧ w'.cell? ⟨g, o + j * 2, none⟩ = some (.string y.k) ∧ w'.cell? ⟨g, o + j * 2 + 1, none⟩ = some (.string y.v))) (by kernel_rfl) (by rw [← hzD]; exact ⟨(by simpa using cell_of_row zD _ 0 _ _ _ KA.out), (by simpa using cell_of_row zD _ 1 _ _ _ KA.out), (by simpa using cell_of_row zD _ 0 _ _ _ KT.out), (by simpa using cell_of_row zD _ 1 _ _ _ KT.out), (HEL.out _ B5.out).1, (HEL.out _ B5.out).2⟩) (fun hHeld => ?_)
            rw [← hzD] at hHeld ⊢
            clear bzD hzD
            refine wpAnyH_take (i := 0) (v := ?_) rfl (by kernel_rfl) (by kernel_rfl) (by kernel_rfl) (fun _ _ _ h => h) ?_ (by assumption) ?_
            rotate_left
            · first | (refine Or.inl ⟨by rfl, ?_⟩; intro w hSw; obtain ⟨hS0, hS1, hS2, hS3, hS4, hS5⟩ := hSw; go_simp; done) | (refine Or.inl ⟨by rfl, ?_⟩; intro w hSw; obtain ⟨hS0, hS1, hS2, hS3, hS4, hS5⟩ := hSw; go_simp; with_reducible rfl)
            try simp only [List.getElem_toArray, List.getElem_cons_zero, Act.put, List.setIfInBounds_toArray, List.set_cons_zero, List.set_cons_succ]
            refine wpAnyH_take (i := 1) (v := ?_) rfl (by kernel_rfl) (by kernel_rfl) (by kernel_rfl) (fun _ _ _ h => h) ?_ (by assumption) ?_
            rotate_left
            · first | (refine Or.inl ⟨by rfl, ?_⟩; intro w hSw; go_simp; done) | (refine Or.inl ⟨by rfl, ?_⟩; intro w hSw; go_simp; with_reducible rfl)
            try simp only [List.getElem_toArray, List.getElem_cons_zero, List.getElem_cons_succ, Act.put, List.setIfInBounds_toArray, List.set_cons_zero, List.set_cons_succ]
            refine wpAnyH_take (i := 2) (v := ?_) rfl (by kernel_rfl) (by kernel_rfl) (by kernel_rfl) (fun _ _ _ h => h) ?_ (by assumption) ?_
            rotate_left
            · first | (refine Or.inl ⟨by rfl, ?_⟩; intro w hSw; obtain ⟨hS0, hS1, hS2, hS3, hS4, hS5⟩ := hSw; go_simp; done) | (refine Or.inl ⟨by rfl, ?_⟩; intro w hSw; obtain ⟨hS0, hS1, hS2, hS3, hS4, hS5⟩ := hSw; go_simp; with_reducible rfl)
            try simp only [List.getElem_toArray, List.getElem_cons_zero, List.getElem_cons_succ, Act.put, List.setIfInBounds_toArray, List.set_cons_zero, List.set_cons_succ]
            refine wpAnyH_take (i := 3) (v := ?_) rfl (by kernel_rfl) (by kernel_rfl) (by kernel_rfl) (fun _ _ _ h => h) ?_ (by assumption) ?_
            rotate_left
            · first | (refine Or.inl ⟨by rfl, ?_⟩; intro w hSw; obtain ⟨hS0, hS1, hS2, hS3, hS4, hS5⟩ := hSw; go_simp; done) | (refine Or.inl ⟨by rfl, ?_⟩; intro w hSw; obtain ⟨hS0, hS1, hS2, hS3, hS4, hS5⟩ := hSw; go_simp; with_reducible rfl)
            try simp only [List.getElem_toArray, List.getElem_cons_zero, List.getElem_cons_succ, Act.put, List.setIfInBounds_toArray, List.set_cons_zero, List.set_cons_succ]
            refine wpAnyH_take (i := 4) (v := ?_) rfl (by kernel_rfl) (by kernel_rfl) (by kernel_rfl) (fun _ _ _ h => h) ?_ (by assumption) ?_
            rotate_left
            · first | (refine Or.inl ⟨by rfl, ?_⟩; intro w hSw; go_simp; done) | (refine Or.inl ⟨by rfl, ?_⟩; intro w hSw; go_simp; with_reducible rfl)
            try simp only [List.getElem_toArray, List.getElem_cons_zero, List.getElem_cons_succ, Act.put, List.setIfInBounds_toArray, List.set_cons_zero, List.set_cons_succ]
            refine wpAnyH_ready (rs := [5, 12]) (by kernel_rfl) (by simp) ?_
            refine AllReadyH.cons rfl (fun K hK => ?_) (AllReadyH.cons rfl (fun K hK => ?_) (AllReadyH.nil))
            · go_simp
              have hc := spec_itemAt s _ zD.heap.size key zD SA.out (Nat.le_refl _)
              rw [← Hix.out] at hc
              go_at_call 22
              refine hc.mono ?_
              rintro e z1 ⟨rfl, hb⟩
              replace B5 := Lib.hid (B5.out.trans (hb.mono B5.out.size))
              replace KA := Lib.hid ((hb.block _ LA.out).trans KA.out)
              replace LA := Lib.hid (Nat.lt_of_lt_of_le LA.out hb.size)
              replace KT := Lib.hid ((hb.block _ LT.out).trans KT.out)
              replace LT := Lib.hid (Nat.lt_of_lt_of_le LT.out hb.size)
              replace KU := Lib.hid ((hb.block _ LU.out).trans KU.out)
              replace LU := Lib.hid (Nat.lt_of_lt_of_le LU.out hb.size)
              replace BB := Lib.hid (BB.out.trans (hb.mono BB.out.size))
              replace SA := Lib.hid (SA.out.later hb hb.size)
              replace STt := Lib.hid (STt.out.later hb hb.size)
              replace SU := Lib.hid (SU.out.later hb hb.size)
              clear hb hc
              go_wp2_with fail
              refine hK.out _ _ ⟨(by simpa using cell_of_row z1 _ 0 _ _ _ KA.out), (by simpa using cell_of_row z1 _ 1 _ _ _ KA.out), (by simpa using cell_of_row z1 _ 0 _ _ _ KT.out), (by simpa using cell_of_row z1 _ 1 _ _ _ KT.out), (HEL.out _ B5.out).1, (HEL.out _ B5.out).2⟩ (fun hHeld => ?_)
              clear hK K
              try simp only [List.getElem_toArray, List.getElem_cons_zero, List.getElem_cons_succ, Act.put, List.setIfInBounds_toArray, List.set_cons_zero, List.set_cons_succ]
              skip
              refine wpAnyH_take (i := 6) (v := ?_) rfl (by kernel_rfl) (by kernel_rfl) (by kernel_rfl) (fun _ _ _ h => h) ?_ (by assumption) ?_
              rotate_left
              · first | (refine Or.inl ⟨by rfl, ?_⟩; intro w hSw; go_simp; done) | (refine Or.inl ⟨by rfl, ?_⟩; intro w hSw; go_simp; with_reducible rfl)
              try simp only [List.getElem_toArray, List.getElem_cons_zero, List.getElem_cons_succ, Act.put, List.setIfInBounds_toArray, List.set_cons_zero, List.set_cons_succ]
              refine wpAnyH_take (i := 7) (v := ?_) rfl (by kernel_rfl) (by kernel_rfl) (by kernel_rfl) (fun _ _ _ h => h) ?_ (by assumption) ?_
              rotate_left
              · first | (refine Or.inl ⟨by rfl, ?_⟩; intro w hSw; obtain ⟨hS0, hS1, hS2, hS3, hS4, hS5⟩ := hSw; go_simp; done) | (refine Or.inl ⟨by rfl, ?_⟩; intro w hSw; obtain ⟨hS0, hS1, hS2, hS3, hS4, hS5⟩ := hSw; go_simp; with_reducible rfl)
              try simp only [List.getElem_toArray, List.getElem_cons_zero, List.getElem_cons_succ, Act.put, List.setIfInBounds_toArray, List.set_cons_zero, List.set_cons_succ]
              refine wpAnyH_ready (rs := [8, 12]) (by kernel_rfl) (by simp) ?_
              refine AllReadyH.cons rfl (fun K hK => ?_) (AllReadyH.cons rfl (fun K hK => ?_) (AllReadyH.nil))
              · go_simp
                have hc := impl_putItem t _ y z1.heap.size z1 STt.out (Nat.le_refl _) (Htm.out.small (by omega) (by omega)) Htm.out.fits Hfy.out
                rw [Hch.out, E3.out] at hc
                unfold itA at hc
                go_at_call 17
                refine hc.mono ?_
                rintro e z2 ⟨_, rfl, ho, hb⟩
                obtain ⟨_, _, kbi, kci, kbt, kct, rfl, kne, ⟨kai, rfl, kni⟩, ⟨kat, rfl, knt⟩, gI, gT⟩ := ho
                have OB : Hid (kbi < z2.heap.size ∧ kbt < z2.heap.size) := Lib.hid ⟨gI.2.2.2.2.1, gT.2.2.2.2.1⟩
                have GI := Lib.hid gI
                have GT := Lib.hid gT
                have KN := Lib.hid kni
                have KT2 := Lib.hid knt
                replace B5 := Lib.hid (B5.out.trans (hb.mono B5.out.size))
                replace KA := Lib.hid ((hb.block _ LA.out).trans KA.out)
                replace LA := Lib.hid (Nat.lt_of_lt_of_le LA.out hb.size)
                replace KT := Lib.hid ((hb.block _ LT.out).trans KT.out)
                replace LT := Lib.hid (Nat.lt_of_lt_of_le LT.out hb.size)
                replace KU := Lib.hid ((hb.block _ LU.out).trans KU.out)
                replace LU := Lib.hid (Nat.lt_of_lt_of_le LU.out hb.size)
                replace BB := Lib.hid (BB.out.trans (hb.mono BB.out.size))
                replace SA := Lib.hid (SA.out.later hb hb.size)
                replace STt := Lib.hid (STt.out.later hb hb.size)
                replace SU := Lib.hid (SU.out.later hb hb.size)
                clear hb hc gI gT kni knt kne
                go_wp2_with fail
                refine hK.out _ _ ⟨(by simpa using cell_of_row z2 _ 0 _ _ _ KA.out), (by simpa using cell_of_row z2 _ 1 _ _ _ KA.out), (by simpa using cell_of_row z2 _ 0 _ _ _ KT.out), (by simpa using cell_of_row z2 _ 1 _ _ _ KT.out), (HEL.out _ B5.out).1, (HEL.out _ B5.out).2⟩ (fun hHeld => ?_)
                clear hK K
                try simp only [List.getElem_toArray, List.getElem_cons_zero, List.getElem_cons_succ, Act.put, List.setIfInBounds_toArray, List.set_cons_zero, List.set_cons_succ]
                refine wpAnyH_take (i := 9) (v := ?_) rfl (by kernel_rfl) (by kernel_rfl) (by kernel_rfl) (fun _ _ _ h => h) ?_ (by assumption) ?_
                rotate_left
                · first | (refine Or.inl ⟨by rfl, ?_⟩; intro w hSw; go_simp; done) | (refine Or.inl ⟨by rfl, ?_⟩; intro w hSw; go_simp; with_reducible rfl)
                try simp only [List.getElem_toArray, List.getElem_cons_zero, List.getElem_cons_succ, Act.put, List.setIfInBounds_toArray, List.set_cons_zero, List.set_cons_succ]
                refine wpAnyH_take (i := 10) (v := ?_) rfl (by kernel_rfl) (by kernel_rfl) (by kernel_rfl) (fun _ _ _ h => h) ?_ (by assumption) ?_
                rotate_left
                · first | (refine Or.inl ⟨by rfl, ?_⟩; intro w hSw; go_simp; done) | (refine Or.inl ⟨by rfl, ?_⟩; intro w hSw; go_simp; with_reducible rfl)
                try simp only [List.getElem_toArray, List.getElem_cons_zero, List.getElem_cons_succ, Act.put, List.setIfInBounds_toArray, List.set_cons_zero, List.set_cons_succ]
                refine wpAnyH_take (i := 11) (v := ?_) rfl (by kernel_rfl) (by kernel_rfl) (by kernel_rfl) (fun _ _ _ h => h) ?_ (by assumption) ?_
                rotate_left
                · first | (refine Or.inl ⟨by rfl, ?_⟩; intro w hSw; go_simp; done) | (refine Or.inl ⟨by rfl, ?_⟩; intro w hSw; go_simp; with_reducible rfl)
                try simp only [List.getElem_toArray, List.getElem_cons_zero, List.getElem_cons_succ, Act.put, List.setIfInBounds_toArray, List.set_cons_zero, List.set_cons_succ]
                refine wpAnyH_ready (rs := [12]) (by kernel_rfl) (by simp) ?_
                refine AllReadyH.cons rfl (fun K hK => ?_) (AllReadyH.nil)
                go_simp
                obtain ⟨z3, hz3⟩ : ∃ zz, zz = z2.alloc (.cells #[.slice none 0 0, .slice none 0 0] 27) := ⟨_, rfl⟩
                rw [← hz3]
                have bz3 : Below z2.heap.size z2 z3 := by rw [hz3]; exact (Below.refl _ _).alloc (Nat.le_refl _) _
                have sz3 : z3.heap.size = z2.heap.size + 1 := by rw [hz3]; simp
                have yB : Hid (w10.heap.size ≤ z2.heap.size) := Lib.hid B5.out.size
                replace B5 := Lib.hid (B5.out.trans (bz3.mono B5.out.size))
                replace KA := Lib.hid ((bz3.block _ LA.out).trans KA.out)
                replace LA := Lib.hid (Nat.lt_of_lt_of_le LA.out bz3.size)
                replace KT := Lib.hid ((bz3.block _ LT.out).trans KT.out)
                replace LT := Lib.hid (Nat.lt_of_lt_of_le LT.out bz3.size)
                replace KU := Lib.hid ((bz3.block _ LU.out).trans KU.out)
                replace LU := Lib.hid (Nat.lt_of_lt_of_le LU.out bz3.size)
                replace GI := Lib.hid (GI.out.later bz3)
                replace GT := Lib.hid (GT.out.later bz3)
                replace BB := Lib.hid (BB.out.trans (bz3.mono BB.out.size))
                replace SA := Lib.hid (SA.out.later bz3 bz3.size)
                replace STt := Lib.hid (STt.out.later bz3 bz3.size)
                replace SU := Lib.hid (SU.out.later bz3 bz3.size)
                have yO : Hid (kbi ≠ z2.heap.size ∧ kbt ≠ z2.heap.size) := Lib.hid ⟨by have := OB.out.1; omega, by have := OB.out.2; omega⟩
                have KB : Hid (z3.heap[z2.heap.size]? = some (.cells #[.slice none 0 0, .slice none 0 0] 27 (0, 0))) := Lib.hid (by rw [hz3]; exact heap_new _ _)
                have LB : Hid (z2.heap.size < z3.heap.size) := Lib.hid (by omega)
                clear bz3 sz3 hz3
                refine hK.out _ _ ⟨(by simpa using cell_of_row z3 _ 0 _ _ _ KA.out), (by simpa using cell_of_row z3 _ 1 _ _ _ KA.out), (by simpa using cell_of_row z3 _ 0 _ _ _ KT.out), (by simpa using cell_of_row z3 _ 1 _ _ _ KT.out), (HEL.out _ B5.out).1, (HEL.out _ B5.out).2⟩ (fun hHeld => ?_)
                clear hK K
                try simp only [List.getElem_toArray, List.getElem_cons_zero, List.getElem_cons_succ, Act.put, List.setIfInBounds_toArray, List.set_cons_zero, List.set_cons_succ]
                have dB0 := cell_of_row z3 _ 0 _ _ _ KB.out
                have zB0 := frozen_of_row z3 _ 0 _ _ KB.out
                have dB1 := cell_of_row z3 _ 1 _ _ _ KB.out
                have zB1 := frozen_of_row z3 _ 1 _ _ KB.out
                simp only [List.getElem?_toArray, List.getElem?_cons_zero, List.getElem?_cons_succ] at dB0 dB1
                refine wpAnyH_ready (rs := [13]) (by kernel_rfl) (by simp) ?_
                refine AllReadyH.cons rfl (fun K hK => ?_) (AllReadyH.nil)
                go_simp
                obtain ⟨Y, hY⟩ : ∃ Y, Y = (z3.setCell ⟨z2.heap.size, 0, none⟩ (.slice kai s.items.length kci)).setCell ⟨z2.heap.size, 1, none⟩ (.slice kat s.talks.length kct) := ⟨_, rfl⟩
                rw [← hY]
                have f1 := heap_setCell_same _ (z2.heap.size) 0 _ _ (.slice kai s.items.length kci) KB.out
                have f2 := heap_setCell_same _ (z2.heap.size) 1 _ _ (.slice kat s.talks.length kct) f1
                rw [← hY] at f2
                have gY : z3.grownBy Y (some (z2.heap.size)) := by rw [hY]; exact (grown_set _ ⟨z2.heap.size, 0, none⟩ _).trans (grown_set _ ⟨z2.heap.size, 1, none⟩ _)
                clear dB0 dB1 zB0 zB1 hY f1
                simp only [List.setIfInBounds_toArray, List.set_cons_zero, List.set_cons_succ] at f2
                have F2 := Lib.hid f2
                replace B5 := Lib.hid (B5.out.grown gY B5.out.size (fun k hk => by cases hk; exact yB.out))
                have LY : Hid (z2.heap.size < Y.heap.size) := Lib.hid (Nat.lt_of_lt_of_le LB.out gY.size)
                replace GI := Lib.hid (GI.out.grown gY (by have := yO.out; omega))
                replace GT := Lib.hid (GT.out.grown gY (by have := yO.out; omega))
                replace KA := Lib.hid ((gY.block _ LA.out (by simp; have := yB.out; have := LA0A.out; omega)).trans KA.out)
                replace KT := Lib.hid ((gY.block _ LT.out (by simp; have := yB.out; have := LA0T.out; omega)).trans KT.out)
                refine hK.out _ _ ⟨(by simpa using cell_of_row Y _ 0 _ _ _ KA.out), (by simpa using cell_of_row Y _ 1 _ _ _ KA.out), (by simpa using cell_of_row Y _ 0 _ _ _ KT.out), (by simpa using cell_of_row Y _ 1 _ _ _ KT.out), (HEL.out _ B5.out).1, (HEL.out _ B5.out).2⟩ (fun hHeld => ?_)
                clear hK K
                try simp only [List.getElem_toArray, List.getElem_cons_zero, List.getElem_cons_succ, Act.put, List.setIfInBounds_toArray, List.set_cons_zero, List.set_cons_succ]
                clear gY f2
                refine wpAnyH_take (i := 14) (v := ?_) rfl (by kernel_rfl) (by kernel_rfl) (by kernel_rfl) (fun _ _ _ h => h) ?_ (by assumption) ?_
                rotate_left
                · first | (refine Or.inl ⟨by rfl, ?_⟩; intro w hSw; go_simp; done) | (refine Or.inl ⟨by rfl, ?_⟩; intro w hSw; go_simp; with_reducible rfl)
                try simp only [List.getElem_toArray, List.getElem_cons_zero, List.getElem_cons_succ, Act.put, List.setIfInBounds_toArray, List.set_cons_zero, List.set_cons_succ]
                refine wpAnyH_done (by kernel_rfl) ?_ _
                clear hHeld
                go_wp2_with fail
                go_meet
                exact ⟨z2.heap.size, kbi, kci, kbt, kct, kai, kat, rfl, rfl, F2, Lib.hid ⟨_, _, rfl, row_of_gotN GI.out ⟨kai, rfl, KN.out⟩, row_of_gotN GT.out ⟨kat, rfl, KT2.out⟩⟩, LY, B5⟩
              · go_simp
                obtain ⟨z4, hz4⟩ : ∃ zz, zz = z1.alloc (.cells #[.slice none 0 0, .slice none 0 0] 27) := ⟨_, rfl⟩
                rw [← hz4]
                have bz4 : Below z1.heap.size z1 z4 := by rw [hz4]; exact (Below.refl _ _).alloc (Nat.le_refl _) _
                have sz4 : z4.heap.size = z1.heap.size + 1 := by rw [hz4]; simp
                have yB : Hid (w10.heap.size ≤ z1.heap.size) := Lib.hid B5.out.size
                replace B5 := Lib.hid (B5.out.trans (bz4.mono B5.out.size))
                replace KA := Lib.hid ((bz4.block _ LA.out).trans KA.out)
                replace LA := Lib.hid (Nat.lt_of_lt_of_le LA.out bz4.size)
                replace KT := Lib.hid ((bz4.block _ LT.out).trans KT.out)
                replace LT := Lib.hid (Nat.lt_of_lt_of_le LT.out bz4.size)
                replace KU := Lib.hid ((bz4.block _ LU.out).trans KU.out)
                replace LU := Lib.hid (Nat.lt_of_lt_of_le LU.out bz4.size)
                replace BB := Lib.hid (BB.out.trans (bz4.mono BB.out.size))
                replace SA := Lib.hid (SA.out.later bz4 bz4.size)
                replace STt := Lib.hid (STt.out.later bz4 bz4.size)
                replace SU := Lib.hid (SU.out.later bz4 bz4.size)
                have KB : Hid (z4.heap[z1.heap.size]? = some (.cells #[.slice none 0 0, .slice none 0 0] 27 (0, 0))) := Lib.hid (by rw [hz4]; exact heap_new _ _)
                have LB : Hid (z1.heap.size < z4.heap.size) := Lib.hid (by omega)
                clear bz4 sz4 hz4
                refine hK.out _ _ ⟨(by simpa using cell_of_row z4 _ 0 _ _ _ KA.out), (by simpa using cell_of_row z4 _ 1 _ _ _ KA.out), (by simpa using cell_of_row z4 _ 0 _ _ _ KT.out), (by simpa using cell_of_row z4 _ 1 _ _ _ KT.out), (HEL.out _ B5.out).1, (HEL.out _ B5.out).2⟩ (fun hHeld => ?_)
                clear hK K
                try simp only [List.getElem_toArray, List.getElem_cons_zero, List.getElem_cons_succ, Act.put, List.setIfInBounds_toArray, List.set_cons_zero, List.set_cons_succ]
                refine wpAnyH_ready (rs := [8]) (by kernel_rfl) (by simp) ?_
                refine AllReadyH.cons rfl (fun K hK => ?_) (AllReadyH.nil)
                go_simp
                have hc := impl_putItem t _ y z4.heap.size z4 STt.out (Nat.le_refl _) (Htm.out.small (by omega) (by omega)) Htm.out.fits Hfy.out
                rw [Hch.out, E3.out] at hc
                unfold itA at hc
                go_at_call 17
                refine hc.mono ?_
                rintro e z5 ⟨_, rfl, ho, hb⟩
                obtain ⟨_, _, kbi, kci, kbt, kct, rfl, kne, ⟨kai, rfl, kni⟩, ⟨kat, rfl, knt⟩, gI, gT⟩ := ho
                have OB : Hid (kbi < z5.heap.size ∧ kbt < z5.heap.size) := Lib.hid ⟨gI.2.2.2.2.1, gT.2.2.2.2.1⟩
                have yO : Hid (kbi ≠ z1.heap.size ∧ kbt ≠ z1.heap.size) := Lib.hid ⟨by have := gI.2.2.2.1; have := LB.out; omega, by have := gT.2.2.2.1; have := LB.out; omega⟩
                have GI := Lib.hid gI
                have GT := Lib.hid gT
                have KN := Lib.hid kni
                have KT2 := Lib.hid knt
                replace B5 := Lib.hid (B5.out.trans (hb.mono B5.out.size))
                replace KA := Lib.hid ((hb.block _ LA.out).trans KA.out)
                replace LA := Lib.hid (Nat.lt_of_lt_of_le LA.out hb.size)
                replace KT := Lib.hid ((hb.block _ LT.out).trans KT.out)
                replace LT := Lib.hid (Nat.lt_of_lt_of_le LT.out hb.size)
                replace KU := Lib.hid ((hb.block _ LU.out).trans KU.out)
                replace LU := Lib.hid (Nat.lt_of_lt_of_le LU.out hb.size)
                replace KB := Lib.hid ((hb.block _ LB.out).trans KB.out)
                replace LB := Lib.hid (Nat.lt_of_lt_of_le LB.out hb.size)
                replace BB := Lib.hid (BB.out.trans (hb.mono BB.out.size))
                replace SA := Lib.hid (SA.out.later hb hb.size)
                replace STt := Lib.hid (STt.out.later hb hb.size)
                replace SU := Lib.hid (SU.out.later hb hb.size)
                clear hb hc gI gT kni knt kne
                go_wp2_with fail
                refine hK.out _ _ ⟨(by simpa using cell_of_row z5 _ 0 _ _ _ KA.out), (by simpa using cell_of_row z5 _ 1 _ _ _ KA.out), (by simpa using cell_of_row z5 _ 0 _ _ _ KT.out), (by simpa using cell_of_row z5 _ 1 _ _ _ KT.out), (HEL.out _ B5.out).1, (HEL.out _ B5.out).2⟩ (fun hHeld => ?_)
                clear hK K
                try simp only [List.getElem_toArray, List.getElem_cons_zero, List.getElem_cons_succ, Act.put, List.setIfInBounds_toArray, List.set_cons_zero, List.set_cons_succ]
                refine wpAnyH_take (i := 9) (v := ?_) rfl (by kernel_rfl) (by kernel_rfl) (by kernel_rfl) (fun _ _ _ h => h) ?_ (by assumption) ?_
                rotate_left
                · first | (refine Or.inl ⟨by rfl, ?_⟩; intro w hSw; go_simp; done) | (refine Or.inl ⟨by rfl, ?_⟩; intro w hSw; go_simp; with_reducible rfl)
                try simp only [List.getElem_toArray, List.getElem_cons_zero, List.getElem_cons_succ, Act.put, List.setIfInBounds_toArray, List.set_cons_zero, List.set_cons_succ]
                refine wpAnyH_take (i := 10) (v := ?_) rfl (by kernel_rfl) (by kernel_rfl) (by kernel_rfl) (fun _ _ _ h => h) ?_ (by assumption) ?_
                rotate_left
                · first | (refine Or.inl ⟨by rfl, ?_⟩; intro w hSw; go_simp; done) | (refine Or.inl ⟨by rfl, ?_⟩; intro w hSw; go_simp; with_reducible rfl)
                try simp only [List.getElem_toArray, List.getElem_cons_zero, List.getElem_cons_succ, Act.put, List.setIfInBounds_toArray, List.set_cons_zero, List.set_cons_succ]
                refine wpAnyH_take (i := 11) (v := ?_) rfl (by kernel_rfl) (by kernel_rfl) (by kernel_rfl) (fun _ _ _ h => h) ?_ (by assumption) ?_
                rotate_left
                · first | (refine Or.inl ⟨by rfl, ?_⟩; intro w hSw; go_simp; done) | (refine Or.inl ⟨by rfl, ?_⟩; intro w hSw; go_simp; with_reducible rfl)
                try simp only [List.getElem_toArray, List.getElem_cons_zero, List.getElem_cons_succ, Act.put, List.setIfInBounds_toArray, List.set_cons_zero, List.set_cons_succ]
                have dB0 := cell_of_row z5 _ 0 _ _ _ KB.out
                have zB0 := frozen_of_row z5 _ 0 _ _ KB.out
                have dB1 := cell_of_row z5 _ 1 _ _ _ KB.out
                have zB1 := frozen_of_row z5 _ 1 _ _ KB.out
                simp only [List.getElem?_toArray, List.getElem?_cons_zero, List.getElem?_cons_succ] at dB0 dB1
                refine wpAnyH_ready (rs := [13]) (by kernel_rfl) (by simp) ?_
                refine AllReadyH.cons rfl (fun K hK => ?_) (AllReadyH.nil)
                go_simp
                obtain ⟨Y, hY⟩ : ∃ Y, Y = (z5.setCell ⟨z1.heap.size, 0, none⟩ (.slice kai s.items.length kci)).setCell ⟨z1.heap.size, 1, none⟩ (.slice kat s.talks.length kct) := ⟨_, rfl⟩
                rw [← hY]
                have f1 := heap_setCell_same _ (z1.heap.size) 0 _ _ (.slice kai s.items.length kci) KB.out
                have f2 := heap_setCell_same _ (z1.heap.size) 1 _ _ (.slice kat s.talks.length kct) f1
                rw [← hY] at f2
                have gY : z5.grownBy Y (some (z1.heap.size)) := by rw [hY]; exact (grown_set _ ⟨z1.heap.size, 0, none⟩ _).trans (grown_set _ ⟨z1.heap.size, 1, none⟩ _)
                clear dB0 dB1 zB0 zB1 hY f1
                simp only [List.setIfInBounds_toArray, List.set_cons_zero, List.set_cons_succ] at f2
                have F2 := Lib.hid f2
                replace B5 := Lib.hid (B5.out.grown gY B5.out.size (fun k hk => by cases hk; exact yB.out))
                have LY : Hid (z1.heap.size < Y.heap.size) := Lib.hid (Nat.lt_of_lt_of_le LB.out gY.size)
                replace GI := Lib.hid (GI.out.grown gY (by have := yO.out; omega))
                replace GT := Lib.hid (GT.out.grown gY (by have := yO.out; omega))
                replace KA := Lib.hid ((gY.block _ LA.out (by simp; have := yB.out; have := LA0A.out; omega)).trans KA.out)
                replace KT := Lib.hid ((gY.block _ LT.out (by simp; have := yB.out; have := LA0T.out; omega)).trans KT.out)
                refine hK.out _ _ ⟨(by simpa using cell_of_row Y _ 0 _ _ _ KA.out), (by simpa using cell_of_row Y _ 1 _ _ _ KA.out), (by simpa using cell_of_row Y _ 0 _ _ _ KT.out), (by simpa using cell_of_row Y _ 1 _ _ _ KT.out), (HEL.out _ B5.out).1, (HEL.out _ B5.out).2⟩ (fun hHeld => ?_)
                clear hK K
                try simp only [List.getElem_toArray, List.getElem_cons_zero, List.getElem_cons_succ, Act.put, List.setIfInBounds_toArray, List.set_cons_zero, List.set_cons_succ]
                clear gY f2
                refine wpAnyH_take (i := 14) (v := ?_) rfl (by kernel_rfl) (by kernel_rfl) (by kernel_rfl) (fun _ _ _ h => h) ?_ (by assumption) ?_
                rotate_left
                · first | (refine Or.inl ⟨by rfl, ?_⟩; intro w hSw; go_simp; done) | (refine Or.inl ⟨by rfl, ?_⟩; intro w hSw; go_simp; with_reducible rfl)
                try simp only [List.getElem_toArray, List.getElem_cons_zero, List.getElem_cons_succ, Act.put, List.setIfInBounds_toArray, List.set_cons_zero, List.set_cons_succ]
                refine wpAnyH_done (by kernel_rfl) ?_ _
                clear hHeld
                go_wp2_with fail
                go_meet
                exact ⟨z1.heap.size, kbi, kci, kbt, kct, kai, kat, rfl, rfl, F2, Lib.hid ⟨_, _, rfl, row_of_gotN GI.out ⟨kai, rfl, KN.out⟩, row_of_gotN GT.out ⟨kat, rfl, KT2.out⟩⟩, LY, B5⟩
            · go_simp
              obtain ⟨z6, hz6⟩ : ∃ zz, zz = zD.alloc (.cells #[.slice none 0 0, .slice none 0 0] 27) := ⟨_, rfl⟩
              rw [← hz6]
              have bz6 : Below zD.heap.size zD z6 := by rw [hz6]; exact (Below.refl _ _).alloc (Nat.le_refl _) _
              have sz6 : z6.heap.size = zD.heap.size + 1 := by rw [hz6]; simp
              have yB : Hid (w10.heap.size ≤ zD.heap.size) := Lib.hid B5.out.size
              replace B5 := Lib.hid (B5.out.trans (bz6.mono B5.out.size))
              replace KA := Lib.hid ((bz6.block _ LA.out).trans KA.out)
              replace LA := Lib.hid (Nat.lt_of_lt_of_le LA.out bz6.size)
              replace KT := Lib.hid ((bz6.block _ LT.out).trans KT.out)
              replace LT := Lib.hid (Nat.lt_of_lt_of_le LT.out bz6.size)
              replace KU := Lib.hid ((bz6.block _ LU.out).trans KU.out)
              replace LU := Lib.hid (Nat.lt_of_lt_of_le LU.out bz6.size)
              replace BB := Lib.hid (BB.out.trans (bz6.mono BB.out.size))
              replace SA := Lib.hid (SA.out.later bz6 bz6.size)
              replace STt := Lib.hid (STt.out.later bz6 bz6.size)
              replace SU := Lib.hid (SU.out.later bz6 bz6.size)
              have KB : Hid (z6.heap[zD.heap.size]? = some (.cells #[.slice none 0 0, .slice none 0 0] 27 (0, 0))) := Lib.hid (by rw [hz6]; exact heap_new _ _)
              have LB : Hid (zD.heap.size < z6.heap.size) := Lib.hid (by omega)
              clear bz6 sz6 hz6
              refine hK.out _ _ ⟨(by simpa using cell_of_row z6 _ 0 _ _ _ KA.out), (by simpa using cell_of_row z6 _ 1 _ _ _ KA.out), (by simpa using cell_of_row z6 _ 0 _ _ _ KT.out), (by simpa using cell_of_row z6 _ 1 _ _ _ KT.out), (HEL.out _ B5.out).1, (HEL.out _ B5.out).2⟩ (fun hHeld => ?_)
              clear hK K
              try simp only [List.getElem_toArray, List.getElem_cons_zero, List.getElem_cons_succ, Act.put, List.setIfInBounds_toArray, List.set_cons_zero, List.set_cons_succ]
              refine wpAnyH_ready (rs := [5]) (by kernel_rfl) (by simp) ?_
              refine AllReadyH.cons rfl (fun K hK => ?_) (AllReadyH.nil)
              go_simp
              have hc := spec_itemAt s _ z6.heap.size key z6 SA.out (Nat.le_refl _)
              rw [← Hix.out] at hc
              go_at_call 22
              refine hc.mono ?_
              rintro e z7 ⟨rfl, hb⟩
              replace B5 := Lib.hid (B5.out.trans (hb.mono B5.out.size))
              replace KA := Lib.hid ((hb.block _ LA.out).trans KA.out)
              replace LA := Lib.hid (Nat.lt_of_lt_of_le LA.out hb.size)
              replace KT := Lib.hid ((hb.block _ LT.out).trans KT.out)
              replace LT := Lib.hid (Nat.lt_of_lt_of_le LT.out hb.size)
              replace KU := Lib.hid ((hb.block _ LU.out).trans KU.out)
              replace LU := Lib.hid (Nat.lt_of_lt_of_le LU.out hb.size)
              replace KB := Lib.hid ((hb.block _ LB.out).trans KB.out)
              replace LB := Lib.hid (Nat.lt_of_lt_of_le LB.out hb.size)
              replace BB := Lib.hid (BB.out.trans (hb.mono BB.out.size))
              replace SA := Lib.hid (SA.out.later hb hb.size)
              replace STt := Lib.hid (STt.out.later hb hb.size)
              replace SU := Lib.hid (SU.out.later hb hb.size)
              clear hb hc
              go_wp2_with fail
              refine hK.out _ _ ⟨(by simpa using cell_of_row z7 _ 0 _ _ _ KA.out), (by simpa using cell_of_row z7 _ 1 _ _ _ KA.out), (by simpa using cell_of_row z7 _ 0 _ _ _ KT.out), (by simpa using cell_of_row z7 _ 1 _ _ _ KT.out), (HEL.out _ B5.out).1, (HEL.out _ B5.out).2⟩ (fun hHeld => ?_)
              clear hK K
              try simp only [List.getElem_toArray, List.getElem_cons_zero, List.getElem_cons_succ, Act.put, List.setIfInBounds_toArray, List.set_cons_zero, List.set_cons_succ]
              skip
              refine wpAnyH_take (i := 6) (v := ?_) rfl (by kernel_rfl) (by kernel_rfl) (by kernel_rfl) (fun _ _ _ h => h) ?_ (by assumption) ?_
              rotate_left
              · first | (refine Or.inl ⟨by rfl, ?_⟩; intro w hSw; go_simp; done) | (refine Or.inl ⟨by rfl, ?_⟩; intro w hSw; go_simp; with_reducible rfl)
              try simp only [List.getElem_toArray, List.getElem_cons_zero, List.getElem_cons_succ, Act.put, List.setIfInBounds_toArray, List.set_cons_zero, List.set_cons_succ]
              refine wpAnyH_take (i := 7) (v := ?_) rfl (by kernel_rfl) (by kernel_rfl) (by kernel_rfl) (fun _ _ _ h => h) ?_ (by assumption) ?_
              rotate_left
              · first | (refine Or.inl ⟨by rfl, ?_⟩; intro w hSw; obtain ⟨hS0, hS1, hS2, hS3, hS4, hS5⟩ := hSw; go_simp; done) | (refine Or.inl ⟨by rfl, ?_⟩; intro w hSw; obtain ⟨hS0, hS1, hS2, hS3, hS4, hS5⟩ := hSw; go_simp; with_reducible rfl)
              try simp only [List.getElem_toArray, List.getElem_cons_zero, List.getElem_cons_succ, Act.put, List.setIfInBounds_toArray, List.set_cons_zero, List.set_cons_succ]
              refine wpAnyH_ready (rs := [8]) (by kernel_rfl) (by simp) ?_
              refine AllReadyH.cons rfl (fun K hK => ?_) (AllReadyH.nil)
              go_simp
              have hc := impl_putItem t _ y z7.heap.size z7 STt.out (Nat.le_refl _) (Htm.out.small (by omega) (by omega)) Htm.out.fits Hfy.out
              rw [Hch.out, E3.out] at hc
              unfold itA at hc
              go_at_call 17
              refine hc.mono ?_
              rintro e z8 ⟨_, rfl, ho, hb⟩
              obtain ⟨_, _, kbi, kci, kbt, kct, rfl, kne, ⟨kai, rfl, kni⟩, ⟨kat, rfl, knt⟩, gI, gT⟩ := ho
              have OB : Hid (kbi < z8.heap.size ∧ kbt < z8.heap.size) := Lib.hid ⟨gI.2.2.2.2.1, gT.2.2.2.2.1⟩
              have yO : Hid (kbi ≠ zD.heap.size ∧ kbt ≠ zD.heap.size) := Lib.hid ⟨by have := gI.2.2.2.1; have := LB.out; omega, by have := gT.2.2.2.1; have := LB.out; omega⟩
              have GI := Lib.hid gI
              have GT := Lib.hid gT
              have KN := Lib.hid kni
              have KT2 := Lib.hid knt
              replace B5 := Lib.hid (B5.out.trans (hb.mono B5.out.size))
              replace KA := Lib.hid ((hb.block _ LA.out).trans KA.out)
              replace LA := Lib.hid (Nat.lt_of_lt_of_le LA.out hb.size)
              replace KT := Lib.hid ((hb.block _ LT.out).trans KT.out)
              replace LT := Lib.hid (Nat.lt_of_lt_of_le LT.out hb.size)
              replace KU := Lib.hid ((hb.block _ LU.out).trans KU.out)
              replace LU := Lib.hid (Nat.lt_of_lt_of_le LU.out hb.size)
              replace KB := Lib.hid ((hb.block _ LB.out).trans KB.out)
              replace LB := Lib.hid (Nat.lt_of_lt_of_le LB.out hb.size)
              replace BB := Lib.hid (BB.out.trans (hb.mono BB.out.size))
              replace SA := Lib.hid (SA.out.later hb hb.size)
              replace STt := Lib.hid (STt.out.later hb hb.size)
              replace SU := Lib.hid (SU.out.later hb hb.size)
              clear hb hc gI gT kni knt kne
              go_wp2_with fail
              refine hK.out _ _ ⟨(by simpa using cell_of_row z8 _ 0 _ _ _ KA.out), (by simpa using cell_of_row z8 _ 1 _ _ _ KA.out), (by simpa using cell_of_row z8 _ 0 _ _ _ KT.out), (by simpa using cell_of_row z8 _ 1 _ _ _ KT.out), (HEL.out _ B5.out).1, (HEL.out _ B5.out).2⟩ (fun hHeld => ?_)
              clear hK K
              try simp only [List.getElem_toArray, List.getElem_cons_zero, List.getElem_cons_succ, Act.put, List.setIfInBounds_toArray, List.set_cons_zero, List.set_cons_succ]
              refine wpAnyH_take (i := 9) (v := ?_) rfl (by kernel_rfl) (by kernel_rfl) (by kernel_rfl) (fun _ _ _ h => h) ?_ (by assumption) ?_
              rotate_left
              · first | (refine Or.inl ⟨by rfl, ?_⟩; intro w hSw; go_simp; done) | (refine Or.inl ⟨by rfl, ?_⟩; intro w hSw; go_simp; with_reducible rfl)
              try simp only [List.getElem_toArray, List.getElem_cons_zero, List.getElem_cons_succ, Act.put, List.setIfInBounds_toArray, List.set_cons_zero, List.set_cons_succ]
              refine wpAnyH_take (i := 10) (v := ?_) rfl (by kernel_rfl) (by kernel_rfl) (by kernel_rfl) (fun _ _ _ h => h) ?_ (by assumption) ?_
              rotate_left
              · first | (refine Or.inl ⟨by rfl, ?_⟩; intro w hSw; go_simp; done) | (refine Or.inl ⟨by rfl, ?_⟩; intro w hSw; go_simp; with_reducible rfl)
              try simp only [List.getElem_toArray, List.getElem_cons_zero, List.getElem_cons_succ, Act.put, List.setIfInBounds_toArray, List.set_cons_zero, List.set_cons_succ]
              refine wpAnyH_take (i := 11) (v := ?_) rfl (by kernel_rfl) (by kernel_rfl) (by kernel_rfl) (fun _ _ _ h => h) ?_ (by assumption) ?_
              rotate_left
              · first | (refine Or.inl ⟨by rfl, ?_⟩; intro w hSw; go_simp; done) | (refine Or.inl ⟨by rfl, ?_⟩; intro w hSw; go_simp; with_reducible rfl)
              try simp only [List.getElem_toArray, List.getElem_cons_zero, List.getElem_cons_succ, Act.put, List.setIfInBounds_toArray, List.set_cons_zero, List.set_cons_succ]
              have dB0 := cell_of_row z8 _ 0 _ _ _ KB.out
              have zB0 := frozen_of_row z8 _ 0 _ _ KB.out
              have dB1 := cell_of_row z8 _ 1 _ _ _ KB.out
              have zB1 := frozen_of_row z8 _ 1 _ _ KB.out
              simp only [List.getElem?_toArray, List.getElem?_cons_zero, List.getElem?_cons_succ] at dB0 dB1
              refine wpAnyH_ready (rs := [13]) (by kernel_rfl) (by simp) ?_
              refine AllReadyH.cons rfl (fun K hK => ?_) (AllReadyH.nil)
              go_simp
              obtain ⟨Y, hY⟩ : ∃ Y, Y = (z8.setCell ⟨zD.heap.size, 0, none⟩ (.slice kai s.items.length kci)).setCell ⟨zD.heap.size, 1, none⟩ (.slice kat s.talks.length kct) := ⟨_, rfl⟩
              rw [← hY]
              have f1 := heap_setCell_same _ (zD.heap.size) 0 _ _ (.slice kai s.items.length kci) KB.out
              have f2 := heap_setCell_same _ (zD.heap.size) 1 _ _ (.slice kat s.talks.length kct) f1
              rw [← hY] at f2
              have gY : z8.grownBy Y (some (zD.heap.size)) := by rw [hY]; exact (grown_set _ ⟨zD.heap.size, 0, none⟩ _).trans (grown_set _ ⟨zD.heap.size, 1, none⟩ _)
              clear dB0 dB1 zB0 zB1 hY f1
              simp only [List.setIfInBounds_toArray, List.set_cons_zero, List.set_cons_succ] at f2
              have F2 := Lib.hid f2
              replace B5 := Lib.hid (B5.out.grown gY B5.out.size (fun k hk => by cases hk; exact yB.out))
              have LY : Hid (zD.heap.size < Y.heap.size) := Lib.hid (Nat.lt_of_lt_of_le LB.out gY.size)
              replace GI := Lib.hid (GI.out.grown gY (by have := yO.out; omega))
              replace GT := Lib.hid (GT.out.grown gY (by have := yO.out; omega))
              replace KA := Lib.hid ((gY.block _ LA.out (by simp; have := yB.out; have := LA0A.out; omega)).trans KA.out)
              replace KT := Lib.hid ((gY.block _ LT.out (by simp; have := yB.out; have := LA0T.out; omega)).trans KT.out)
              refine hK.out _ _ ⟨(by simpa using cell_of_row Y _ 0 _ _ _ KA.out), (by simpa using cell_of_row Y _ 1 _ _ _ KA.out), (by simpa using cell_of_row Y _ 0 _ _ _ KT.out), (by simpa using cell_of_row Y _ 1 _ _ _ KT.out), (HEL.out _ B5.out).1, (HEL.out _ B5.out).2⟩ (fun hHeld => ?_)
              clear hK K
              try simp only [List.getElem_toArray, List.getElem_cons_zero, List.getElem_cons_succ, Act.put, List.setIfInBounds_toArray, List.set_cons_zero, List.set_cons_succ]
              clear gY f2
              refine wpAnyH_take (i := 14) (v := ?_) rfl (by kernel_rfl) (by kernel_rfl) (by kernel_rfl) (fun _ _ _ h => h) ?_ (by assumption) ?_
              rotate_left
              · first | (refine Or.inl ⟨by rfl, ?_⟩; intro w hSw; go_simp; done) | (refine Or.inl ⟨by rfl, ?_⟩; intro w hSw; go_simp; with_reducible rfl)
              try simp only [List.getElem_toArray, List.getElem_cons_zero, List.getElem_cons_succ, Act.put, List.setIfInBounds_toArray, List.set_cons_zero, List.set_cons_succ]
              refine wpAnyH_done (by kernel_rfl) ?_ _
              clear hHeld
              go_wp2_with fail
              go_meet
              exact ⟨zD.heap.size, kbi, kci, kbt, kct, kai, kat, rfl, rfl, F2, Lib.hid ⟨_, _, rfl, row_of_gotN GI.out ⟨kai, rfl, KN.out⟩, row_of_gotN GT.out ⟨kat, rfl, KT2.out⟩⟩, LY, B5⟩
          case rest =>
            obtain ⟨bb, bi, bci, bt, bct, bai, bat, rfl, rfl, KB, SB, LB, bA⟩ := hcut
            obtain ⟨w11, rfl⟩ : ∃ z, z = wc := ⟨_, rfl⟩
            replace KA := Lib.hid ((bA.out.block _ LA.out).trans KA.out)
            replace LA := Lib.hid (Nat.lt_of_lt_of_le LA.out bA.out.size)
            replace KT := Lib.hid ((bA.out.block _ LT.out).trans KT.out)
            replace LT := Lib.hid (Nat.lt_of_lt_of_le LT.out bA.out.size)
            replace KU := Lib.hid ((bA.out.block _ LU.out).trans KU.out)
            replace LU := Lib.hid (Nat.lt_of_lt_of_le LU.out bA.out.size)
            replace BB := Lib.hid (BB.out.trans (bA.out.mono BB.out.size))
            replace SA := Lib.hid (SA.out.later bA.out bA.out.size)
            replace STt := Lib.hid (STt.out.later bA.out bA.out.size)
            replace SU := Lib.hid (SU.out.later bA.out bA.out.size)
            clear bA B5
            have hsub : IntKind.i64.wrap ((s.items.length : Int) - 1) = (t.items.length : Int) := by have := E2.out; have := Hsm.out.1; rw [IntKind.wrap_i64]; omega
            have hc := impl_stateOk t _ w11.heap.size w11 STt.out (Nat.le_refl _) Htm.out.fits
            rw [E1.out] at hc
            have fA0 := cell_of_row w11 _ 0 _ _ _ KA.out
            have fA1 := cell_of_row w11 _ 1 _ _ _ KA.out
            simp only [List.getElem?_toArray, List.getElem?_cons_zero, List.getElem?_cons_succ] at fA0 fA1
            have fT0 := cell_of_row w11 _ 0 _ _ _ KT.out
            have fT1 := cell_of_row w11 _ 1 _ _ _ KT.out
            simp only [List.getElem?_toArray, List.getElem?_cons_zero, List.getElem?_cons_succ] at fT0 fT1
            go_wp2_with (go_at_call 20; refine hc.mono ?_; rintro e w12 ⟨rfl, hb⟩; refine Hid.out ?_)
            refine Lib.hid ?_
            clear fA0 fA1 fT0 fT1
            replace KA := Lib.hid ((hb.block _ LA.out).trans KA.out)
            replace LA := Lib.hid (Nat.lt_of_lt_of_le LA.out hb.size)
            replace KT := Lib.hid ((hb.block _ LT.out).trans KT.out)
            replace LT := Lib.hid (Nat.lt_of_lt_of_le LT.out hb.size)
            replace KU := Lib.hid ((hb.block _ LU.out).trans KU.out)
            replace LU := Lib.hid (Nat.lt_of_lt_of_le LU.out hb.size)
            replace KB := Lib.hid ((hb.block _ LB.out).trans KB.out)
            replace LB := Lib.hid (Nat.lt_of_lt_of_le LB.out hb.size)
            replace BB := Lib.hid (BB.out.trans (hb.mono BB.out.size))
            replace SA := Lib.hid (SA.out.later hb hb.size)
            replace STt := Lib.hid (STt.out.later hb hb.size)
            replace SU := Lib.hid (SU.out.later hb hb.size)
            replace SB := Lib.hid (SB.out.later hb hb.size)
            clear hc hb
            have fA0 := cell_of_row w12 _ 0 _ _ _ KA.out
            have fA1 := cell_of_row w12 _ 1 _ _ _ KA.out
            simp only [List.getElem?_toArray, List.getElem?_cons_zero, List.getElem?_cons_succ] at fA0 fA1
            have fT0 := cell_of_row w12 _ 0 _ _ _ KT.out
            have fT1 := cell_of_row w12 _ 1 _ _ _ KT.out
            simp only [List.getElem?_toArray, List.getElem?_cons_zero, List.getElem?_cons_succ] at fT0 fT1
            have fB0 := cell_of_row w12 _ 0 _ _ _ KB.out
            have fB1 := cell_of_row w12 _ 1 _ _ _ KB.out
            simp only [List.getElem?_toArray, List.getElem?_cons_zero, List.getElem?_cons_succ] at fB0 fB1
            have hc := spec_same s s _ _ w12.heap.size w12 SB.out.rd SA.out.rd (Nat.le_refl _)
            go_wp2_with (go_at_call 19; refine hc.mono ?_; rintro e w13 ⟨bb2, rfl, hbe, hb⟩; refine Hid.out ?_)
            refine Lib.hid ?_
            obtain rfl : bb2 = true := by simpa using hbe
            go_wp2
            go_ret
            exact ⟨rfl, BB.out.trans (hb.mono BB.out.size)⟩
end Go.Proofs.Ytkoohmibdaomkaa
