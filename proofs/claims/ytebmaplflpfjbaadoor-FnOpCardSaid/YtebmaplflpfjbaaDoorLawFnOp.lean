/- The law FnOp: what is asked comes back from its text. Condition: the variables of the row's list read as it says. -/
import Derived.Test.YtebmaplflpfjbaaDoorBig
import Derived.Test.YtebmaplflpfjbaaDoorDrawOp
import Derived.Test.YtebmaplflpfjbaaDoorBent
import Derived.Test.YtebmaplflpfjbaaDoorImplReadOp
import Derived.Test.YtebmaplflpfjbaaDoorSpecReadOp
import Derived.Test.YtebmaplflpfjbaaDoorImplOpText
import Derived.Test.YtebmaplflpfjbaaDoorSpecOpText2
import Derived.Test.YtebmaplflpfjbaaDoorDrawState
import Derived.Test.YtebmaplflpfjbaaDoorBaseA
namespace Go.Proofs.YtebmaplflpfjbaaDoor
open Go.RowKit
set_option linter.unusedVariables false
set_option linter.unusedSimpArgs false

theorem opText_size {x : Rq} (h : SmRq x) : (opText x).size ≤ 1000 := by
  cases hok : rqOk x
  · rw [opText_bad hok]; exact Nat.zero_le _
  · have hq := (rqOk_parts hok).2.2.2.1
    have hd := itoa_small x.q hq.1 hq.2
    have hk : (kw x.n).size ≤ 3 := by
      unfold kw
      split
      · decide
      · split <;> decide
    have hh : (opHead x).size ≤ 300 := by
      rw [head_form]
      simp only [withSep, ByteArray.size_append]
      have h1 := h.1
      have h2 := h.2.1
      have e : (⟨#[32]⟩ : ByteArray).size = 1 := rfl
      have e0 : (⟨#[]⟩ : ByteArray).size = 0 := rfl
      simp [withSep, ByteArray.size_append, e, e0]
      omega
    by_cases hn : x.n = 1
    · cases hw : wordB x.v.data.toList
      · rw [opText_none hok hn hw]; exact Nat.zero_le _
      · rw [opText_word hok hn hw, ByteArray.size_append, ByteArray.size_append]
        have := h.2.2.1
        have e : (⟨#[32]⟩ : ByteArray).size = 1 := rfl
        omega
    · rw [opText_head hok hn]; omega
theorem ro_text {t : ByteArray} (h : roOk t = true) : opText (roX t) = t := by
  unfold roX
  rw [if_pos h]
  unfold roOk at h
  rw [Bool.and_eq_true] at h
  exact of_decide_eq_true h.2
theorem ro_four {t : ByteArray} (h : roOk t = true) : 4 ≤ (wordsOf t).length := by
  unfold roOk at h
  rw [Bool.and_eq_true, Bool.and_eq_true] at h
  exact of_decide_eq_true h.1.1
theorem ro_fit {t : ByteArray} (h : roOk t = true) : FitRq (roX t) := by
  have h1 := (read_eq (ro_text h) (ro_four h)).2.1
  obtain ⟨p1, p2, p3, p4, p5, p6⟩ := rqOk_parts h1
  have h2 := name_size p2
  have h3 := name_size p3
  unfold FitRq maxLen
  refine ⟨by omega, by omega, by omega, by omega, by omega⟩
theorem ro_empty : roOk ⟨#[]⟩ = false := ro_no (by rw [wordsOf_nil]; simp)
theorem op_back {x : Rq} (h : opText x ≠ ⟨#[]⟩) : roOk (opText x) = true ∧ roX (opText x) = x ∧ rqOk x = true := by
  have hp : 0 < (opText x).size := by
    rcases Nat.eq_zero_or_pos (opText x).size with h0 | h0
    · exact absurd (ByteArray.ext (Array.eq_empty_of_size_eq_zero h0)) h
    · exact h0
  obtain ⟨h1, h2, _⟩ := op_words x hp
  have h4 : 4 ≤ (wordsOf (opText x)).length := by rw [h2]; simp
  obtain ⟨h5, h6⟩ := ro_yes rfl h4
  exact ⟨h5, h6, h1⟩
set_option maxHeartbeats 2000000 in
theorem drawOpText_any (a : Option Addr) (len cap : Nat) (zs : List Int) (w : World) (hr : Row8 w w.heap.size a len cap zs) (hl : len ≤ 1048576) :
    Calls Tryd.prog 17 #[.slice a len cap] w fun e w' => ∃ x, SmRq x ∧ e = .returned (rqA x) ∧ Below w.heap.size w w' := by
  obtain ⟨W, hW⟩ : ∃ W, W = w.alloc (.cells #[.string ⟨#[]⟩, .int .i64 0, .int .i64 0, .string ⟨#[]⟩, .string ⟨#[]⟩] 29) := ⟨_, rfl⟩
  have hbW : Below w.heap.size w W := by rw [hW]; exact (Below.refl _ _).alloc (Nat.le_refl _) _
  have KR : Hid (W.heap[w.heap.size]? = some (.cells #[.string ⟨#[]⟩, .int .i64 0, .int .i64 0, .string ⟨#[]⟩, .string ⟨#[]⟩] 29 (0, 0))) := Lib.hid (by rw [hW]; exact heap_new _ _)
  have LR : Hid (w.heap.size < W.heap.size) := Lib.hid (by rw [hW]; simp)
  have hc := new_any a len cap zs W (hr.later hbW) hl
  rw [hW] at hc
  have HbW := Lib.hid hbW
  go_enter Tryd.func17, Tryd.ntmps17
  go_wp2_with (go_at_call 30; refine hc.mono ?_; rintro e w1 ⟨rfl, cu, hb⟩; refine Hid.out ?_)
  refine Lib.hid ?_
  rw [← hW] at cu hb
  have hWs : W.heap.size = w.heap.size + 1 := by rw [hW]; simp
  rw [hWs] at cu
  replace KR := tkb hb LR KR
  have LW : Hid (w.heap.size < W.heap.size ∧ W.heap.size ≤ w1.heap.size) := Lib.hid ⟨LR.out, hb.size⟩
  replace LR := tlz LR hb.size
  have HB := Lib.hid (HbW.out.trans (hb.mono HbW.out.size))
  have hc2 := oddOp_any _ _ w1 cu
  have hcl := cu.lt
  clear hc cu hb hW hbW
  go_wp2_with (go_at_call 32; refine hc2.mono ?_; rintro e w2 ⟨x, hx, rfl, cu, gr⟩; refine Hid.out ?_)
  refine Lib.hid ?_
  replace KR := tkg gr LR KR (by simp)
  have HB2 := Lib.hid (HB.out.trans (below_other gr (Nat.le_succ _) HB.out.size))
  have Hx := Lib.hid hx
  clear gr cu hx hc2
  have r0 := tcr KR 0
  have r1 := tcr KR 1
  have r2 := tcr KR 2
  have r3 := tcr KR 3
  have r4 := tcr KR 4
  have z0 := tfr KR 0
  have z1 := tfr KR 1
  have z2 := tfr KR 2
  have z3 := tfr KR 3
  have z4 := tfr KR 4
  unfold rqA
  go_wp2_with fail
  have e0 := heap_setCell_same _ (w.heap.size) 0 _ _ (.string x.c) KR.out
  have e1 := heap_setCell_same _ (w.heap.size) 1 _ _ (.int .i64 x.q) e0
  have e2 := heap_setCell_same _ (w.heap.size) 2 _ _ (.int .i64 x.n) e1
  have e3 := heap_setCell_same _ (w.heap.size) 3 _ _ (.string x.k) e2
  have e4 := heap_setCell_same _ (w.heap.size) 4 _ _ (.string x.v) e3
  simp only [List.setIfInBounds_toArray, List.set_cons_zero, List.set_cons_succ] at e4
  obtain ⟨j0, q1, q2, q3, q4⟩ := info_parts infoOpD
  refine bodyPost_ret (results_cell_row (P := Tryd.prog) rfl _ _ (w.heap.size) _ _ (0, 0) _ rfl e4 Tryd.underlying29 rfl (by rw [q1]; simp [q3])) rfl ⟨x, Hx.out, rfl, ?_⟩
  exact ((((HB2.out.setCell (p := ⟨w.heap.size, 0, none⟩) (Nat.le_refl _) _).setCell (p := ⟨w.heap.size, 1, none⟩) (Nat.le_refl _) _).setCell (p := ⟨w.heap.size, 2, none⟩) (Nat.le_refl _) _).setCell (p := ⟨w.heap.size, 3, none⟩) (Nat.le_refl _) _).setCell (p := ⟨w.heap.size, 4, none⟩) (Nat.le_refl _) _
set_option maxHeartbeats 2000000 in
theorem drawReadOp_any (a : Option Addr) (len cap : Nat) (zs : List Int) (w : World) (hr : Row8 w w.heap.size a len cap zs) (hl : len ≤ 1048576) :
    Calls Tryd.prog 19 #[.slice a len cap] w fun e w' => ∃ t : ByteArray, t.size ≤ 1001 ∧ e = .returned (.string t) ∧ Below w.heap.size w w' := by
  have hc := new_any a len cap zs w hr hl
  go_enter Tryd.func19, Tryd.ntmps19
  go_wp2_with (go_at_call 30; refine hc.mono ?_; rintro e w1 ⟨rfl, cu, hb⟩; refine Hid.out ?_)
  refine Lib.hid ?_
  have HB := Lib.hid hb
  have hc2 := op_any _ _ w1 cu
  clear hc cu hb
  go_wp2_with (go_at_call 52; refine hc2.mono ?_; rintro e w2 ⟨x, hx, rfl, cu, gr⟩; refine Hid.out ?_)
  refine Lib.hid ?_
  replace HB := Lib.hid (HB.out.trans (below_other gr (Nat.le_refl _) HB.out.size))
  have hc3 := spec_opText x w2 hx.fit
  have Hz := Lib.hid (opText_size hx)
  have CU := Lib.hid cu
  unfold rqA at hc3 ⊢
  clear hc2 cu gr hx
  go_wp2_with (go_at_call 22; refine hc3.mono ?_; rintro e w3 ⟨rfl, hb⟩; refine Hid.out ?_)
  refine Lib.hid ?_
  replace CU := Lib.hid (CU.out.kept (hb.mono (by have := CU.out.le; have := CU.out.lt; omega)) (hb.block _ CU.out.lt))
  replace HB := tbt HB hb
  have hc4 := bent_any (opText x) 1000 (by omega) Hz.out _ _ w3 CU.out
  clear hc3 hb
  go_wp2_with (go_at_call 51; refine hc4.mono ?_; rintro e w4 ⟨t, ht, rfl, cu, gr⟩; refine Hid.out ?_)
  refine Lib.hid ?_
  replace HB := Lib.hid (HB.out.trans (below_other gr (Nat.le_refl _) HB.out.size))
  have Ht := Lib.hid ht
  clear hc4 cu gr ht
  go_wp2_with fail
  go_ret
  exact ⟨t, Ht.out, rfl, HB.out⟩
set_option maxRecDepth 100000 in
set_option maxHeartbeats 16000000 in
theorem law_fnOp (a : Option Addr) (len cap : Nat) (zs : List Int) (w : World) (hr : IsRow .u8 w a len cap zs) (hdo : Doors w) (her : Errs w) :
    Calls Tryd.prog 5 #[.slice a len cap] w fun e w' => e = .returned (.bool true) ∧ Below w.heap.size w w' := by
  have hr := row8_of hr
  by_cases hbig : 1048576 < len
  · have hd : decide (1048576 < len) = true := by simpa using hbig
    go_enter Tryd.func5, Tryd.ntmps5
    go_wp2_with (go_at_call 7; refine (big_any _ _ _ _).mono ?_; rintro e w' ⟨rfl, rfl⟩)
    go_ret
    exact ⟨rfl, Below.refl _ _⟩
  · have hd : decide (1048576 < len) = false := by simpa using hbig
    have hlen : len ≤ 1048576 := by omega
    have Hr8 := Lib.hid hr
    have HDo := Lib.hid hdo
    have HEr := Lib.hid her
    clear hdo her
    go_enter Tryd.func5, Tryd.ntmps5
    go_wp2_with (first | (go_at_call 7; refine (big_any _ _ _ _).mono ?_; rintro e w' ⟨rfl, rfl⟩) | (go_at_call 17; refine (drawOpText_any a len cap zs _ hr hlen).mono ?_; rintro e w1 ⟨x, hx, rfl, hb⟩; refine Hid.out ?_))
    refine Lib.hid ?_
    have Hx : Hid (FitRq x) := Lib.hid hx.fit
    have BB : Hid (Below w.heap.size w w1) := Lib.hid hb
    obtain ⟨s, hs⟩ : ∃ s, s = opText x := ⟨_, rfl⟩
    have Hs := Lib.hid hs
    have Hsz : Hid (s.size ≤ 1000) := Lib.hid (by rw [hs]; exact opText_size hx)
    unfold rqA
    clear hs hx hb hr hd
    obtain ⟨X1, hX1⟩ : ∃ z, z = w1.alloc (.cells #[.string x.c, .int .i64 x.q, .int .i64 x.n, .string x.k, .string x.v] 29) := ⟨_, rfl⟩
    have hb : Below w1.heap.size w1 X1 := by rw [hX1]; exact (Below.refl _ _).alloc (Nat.le_refl _) _
    replace BB := tbt BB hb
    have KX : Hid (X1.heap[w1.heap.size]? = some (.cells #[.string x.c, .int .i64 x.q, .int .i64 x.n, .string x.k, .string x.v] 29 (0, 0))) := Lib.hid (by rw [hX1]; exact heap_new _ _)
    have LX : Hid (w1.heap.size < X1.heap.size) := Lib.hid (by rw [hX1]; simp)
    clear hb
    have hc := impl_opText x X1 Hx.out (HDo.out.later BB.out)
    rw [← Hs.out] at hc
    unfold rqA at hc
    have fX0 := tcr KX 0
    have fX1 := tcr KX 1
    have fX2 := tcr KX 2
    have fX3 := tcr KX 3
    have fX4 := tcr KX 4
    rw [hX1] at hc fX0 fX1 fX2 fX3 fX4
    go_wp2_with (go_at_call 18; refine hc.mono ?_; rintro e w2 ⟨rfl, hb⟩; refine Hid.out ?_)
    refine Lib.hid ?_
    rw [← hX1] at hb 
    clear hX1
    replace KX := tkb hb LX KX
    replace LX := tlz LX hb.size
    replace BB := tbt BB hb
    clear hc hb fX0 fX1 fX2 fX3 fX4
    have hc := drawReadOp_any a len cap zs w2 (Hr8.out.later BB.out) hlen
    go_wp2_with (go_at_call 19; refine hc.mono ?_; rintro e w3 ⟨t, ht, rfl, hb⟩; refine Hid.out ?_)
    refine Lib.hid ?_
    replace KX := tkb hb LX KX
    replace LX := tlz LX hb.size
    replace BB := tbt BB hb
    clear hc hb 
    have Ht := Lib.hid ht
    clear ht
    obtain ⟨k, hk⟩ : ∃ k, k = roOk t := ⟨_, rfl⟩
    obtain ⟨y, hy⟩ : ∃ y, y = roX t := ⟨_, rfl⟩
    have Hk := Lib.hid hk
    have Hy := Lib.hid hy
    clear hk hy
    have hc := impl_readOp t w3 (by have := Ht.out; omega) (HDo.out.later BB.out) (HEr.out.later BB.out)
    rw [← Hk.out, ← Hy.out] at hc
    unfold rqA at hc
    go_wp2_with (go_at_call 20; refine hc.mono ?_; rintro e w4 ⟨rfl, hb⟩; refine Hid.out ?_)
    refine Lib.hid ?_
    replace KX := tkb hb LX KX
    replace LX := tlz LX hb.size
    replace BB := tbt BB hb
    clear hc hb 
    obtain ⟨X2, hX2⟩ : ∃ z, z = w4.alloc (.cells #[.string y.c, .int .i64 y.q, .int .i64 y.n, .string y.k, .string y.v] 29) := ⟨_, rfl⟩
    have hb : Below w4.heap.size w4 X2 := by rw [hX2]; exact (Below.refl _ _).alloc (Nat.le_refl _) _
    replace KX := tkb hb LX KX
    replace LX := tlz LX hb.size
    replace BB := tbt BB hb
    have KY : Hid (X2.heap[w4.heap.size]? = some (.cells #[.string y.c, .int .i64 y.q, .int .i64 y.n, .string y.k, .string y.v] 29 (0, 0))) := Lib.hid (by rw [hX2]; exact heap_new _ _)
    have LY : Hid (w4.heap.size < X2.heap.size) := Lib.hid (by rw [hX2]; simp)
    clear hb
    have hc := spec_readOp t X2 (by have := Ht.out; omega)
    rw [← Hk.out, ← Hy.out] at hc
    unfold rqA at hc
    rw [hX2] at hc 
    go_wp2_with (go_at_call 21; refine hc.mono ?_; rintro e w5 ⟨rfl, hb⟩; refine Hid.out ?_)
    refine Lib.hid ?_
    rw [← hX2] at hb 
    clear hX2
    replace KX := tkb hb LX KX
    replace LX := tlz LX hb.size
    replace KY := tkb hb LY KY
    replace LY := tlz LY hb.size
    replace BB := tbt BB hb
    clear hc hb 
    obtain ⟨X3, hX3⟩ : ∃ z, z = w5.alloc (.cells #[.string y.c, .int .i64 y.q, .int .i64 y.n, .string y.k, .string y.v] 29) := ⟨_, rfl⟩
    have hb : Below w5.heap.size w5 X3 := by rw [hX3]; exact (Below.refl _ _).alloc (Nat.le_refl _) _
    replace KX := tkb hb LX KX
    replace LX := tlz LX hb.size
    replace KY := tkb hb LY KY
    replace LY := tlz LY hb.size
    replace BB := tbt BB hb
    have KW : Hid (X3.heap[w5.heap.size]? = some (.cells #[.string y.c, .int .i64 y.q, .int .i64 y.n, .string y.k, .string y.v] 29 (0, 0))) := Lib.hid (by rw [hX3]; exact heap_new _ _)
    have LW : Hid (w5.heap.size < X3.heap.size) := Lib.hid (by rw [hX3]; simp)
    clear hb
    have hss : (s.toList != s.toList) = false := by simp
    have hkk : (k != k) = false := by simp
    have hc : (y.c.toList == y.c.toList) = true := teq rfl
    have hk : (y.k.toList == y.k.toList) = true := teq rfl
    have hv : (y.v.toList == y.v.toList) = true := teq rfl
    have hq : (y.q == y.q) = true := by simp
    have hn : (y.n == y.n) = true := by simp
    have hc := spec_opText x X3 Hx.out
    rw [← Hs.out] at hc
    unfold rqA at hc
    have fX0 := tcr KX 0
    have fX1 := tcr KX 1
    have fX2 := tcr KX 2
    have fX3 := tcr KX 3
    have fX4 := tcr KX 4
    rw [hX3] at hc fX0 fX1 fX2 fX3 fX4
    go_wp2_with (go_at_call 22; refine hc.mono ?_; rintro e w6 ⟨rfl, hb⟩; refine Hid.out ?_)
    refine Lib.hid ?_
    rw [← hX3] at hb 
    clear hX3
    replace KX := tkb hb LX KX
    replace LX := tlz LX hb.size
    replace KY := tkb hb LY KY
    replace LY := tlz LY hb.size
    replace KW := tkb hb LW KW
    replace LW := tlz LW hb.size
    replace BB := tbt BB hb
    clear hc hb fX0 fX1 fX2 fX3 fX4
    cases hkb : k
    · clear hkb
      obtain ⟨k2, hk2⟩ : ∃ k, k = roOk s := ⟨_, rfl⟩
      obtain ⟨x2, hx2⟩ : ∃ y, y = roX s := ⟨_, rfl⟩
      have Hk2 := Lib.hid hk2
      have Hx2 := Lib.hid hx2
      clear hk2 hx2
      have hc := impl_readOp s w6 (by have := Hsz.out; omega) (HDo.out.later BB.out) (HEr.out.later BB.out)
      rw [← Hk2.out, ← Hx2.out] at hc
      unfold rqA at hc
      have fY0 := tcr KY 0
      have fY1 := tcr KY 1
      have fY2 := tcr KY 2
      have fY3 := tcr KY 3
      have fY4 := tcr KY 4
      have fW0 := tcr KW 0
      have fW1 := tcr KW 1
      have fW2 := tcr KW 2
      have fW3 := tcr KW 3
      have fW4 := tcr KW 4
      go_wp2_with (go_at_call 20; refine hc.mono ?_; rintro e w8 ⟨rfl, hb⟩; refine Hid.out ?_)
      refine Lib.hid ?_
      replace KX := tkb hb LX KX
      replace LX := tlz LX hb.size
      replace KY := tkb hb LY KY
      replace LY := tlz LY hb.size
      replace KW := tkb hb LW KW
      replace LW := tlz LW hb.size
      replace BB := tbt BB hb
      clear hc hb fY0 fY1 fY2 fY3 fY4 fW0 fW1 fW2 fW3 fW4
      by_cases he : s = ⟨#[]⟩
      · obtain rfl : k2 = false := by rw [Hk2.out, he]; exact ro_empty
        have h0 : (s.toList != (⟨#[]⟩ : ByteArray).toList) = false := by rw [he]; simp
        have h1 : (s.toList == (⟨#[]⟩ : ByteArray).toList) = true := teq he
        clear he
        have h2 : s.toList.isEmpty = true := by
          have h := h1
          simpa using h
        go_wp2_with fail
        go_ret
        exact ⟨rfl, BB.out.alloc BB.out.size _⟩
      · have hback := op_back (x := x) (by rw [← Hs.out]; exact he)
        rw [← Hs.out] at hback
        obtain rfl : k2 = true := by rw [Hk2.out]; exact hback.1
        obtain rfl : x2 = x := by rw [Hx2.out]; exact hback.2.1
        have Hrq := Lib.hid hback.2.2
        clear hback
        have h0 : (s.toList != (⟨#[]⟩ : ByteArray).toList) = true := by unfold bne; rw [tne he]; rfl
        have h1 : (s.toList == (⟨#[]⟩ : ByteArray).toList) = false := tne he
        have h2 : s.toList.isEmpty = false := by
          have h := h1
          simpa using h
        clear he
        have gc : (x2.c.toList == x2.c.toList) = true := teq rfl
        have gk : (x2.k.toList == x2.k.toList) = true := teq rfl
        have gv : (x2.v.toList == x2.v.toList) = true := teq rfl
        have gq : (x2.q == x2.q) = true := by simp
        have gn : (x2.n == x2.n) = true := by simp
        obtain ⟨X4, hX4⟩ : ∃ z, z = w8.alloc (.cells #[.string x2.c, .int .i64 x2.q, .int .i64 x2.n, .string x2.k, .string x2.v] 29) := ⟨_, rfl⟩
        have hb : Below w8.heap.size w8 X4 := by rw [hX4]; exact (Below.refl _ _).alloc (Nat.le_refl _) _
        replace KX := tkb hb LX KX
        replace LX := tlz LX hb.size
        replace KY := tkb hb LY KY
        replace LY := tlz LY hb.size
        replace KW := tkb hb LW KW
        replace LW := tlz LW hb.size
        replace BB := tbt BB hb
        have KB : Hid (X4.heap[w8.heap.size]? = some (.cells #[.string x2.c, .int .i64 x2.q, .int .i64 x2.n, .string x2.k, .string x2.v] 29 (0, 0))) := Lib.hid (by rw [hX4]; exact heap_new _ _)
        have LB : Hid (w8.heap.size < X4.heap.size) := Lib.hid (by rw [hX4]; simp)
        clear hb
        have hc := impl_opOk x2 X4 Hx.out
        rw [Hrq.out] at hc
        unfold rqA at hc
        have fX0 := tcr KX 0
        have fX1 := tcr KX 1
        have fX2 := tcr KX 2
        have fX3 := tcr KX 3
        have fX4 := tcr KX 4
        rw [hX4] at hc fX0 fX1 fX2 fX3 fX4
        go_wp2_with (go_at_call 14; refine hc.mono ?_; rintro e w9 ⟨rfl, hb⟩; refine Hid.out ?_)
        refine Lib.hid ?_
        rw [← hX4] at hb 
        clear hX4
        replace KX := tkb hb LX KX
        replace LX := tlz LX hb.size
        replace KY := tkb hb LY KY
        replace LY := tlz LY hb.size
        replace KW := tkb hb LW KW
        replace LW := tlz LW hb.size
        replace KB := tkb hb LB KB
        replace LB := tlz LB hb.size
        replace BB := tbt BB hb
        clear hc hb fX0 fX1 fX2 fX3 fX4
        go_wp2_with fail
        go_ret
        exact ⟨rfl, BB.out⟩
    · have Hyt : Hid (opText y = t) := Lib.hid (by rw [Hy.out]; exact ro_text (by rw [← Hk.out]; exact hkb))
      have Hyf : Hid (FitRq y) := Lib.hid (by rw [Hy.out]; exact ro_fit (by rw [← Hk.out]; exact hkb))
      clear hkb
      have htt : (t.toList != t.toList) = false := by simp
      have hc := impl_opText y w6 Hyf.out (HDo.out.later BB.out)
      rw [Hyt.out] at hc
      unfold rqA at hc
      have fY0 := tcr KY 0
      have fY1 := tcr KY 1
      have fY2 := tcr KY 2
      have fY3 := tcr KY 3
      have fY4 := tcr KY 4
      have fW0 := tcr KW 0
      have fW1 := tcr KW 1
      have fW2 := tcr KW 2
      have fW3 := tcr KW 3
      have fW4 := tcr KW 4
      go_wp2_with (go_at_call 18; refine hc.mono ?_; rintro e w7 ⟨rfl, hb⟩; refine Hid.out ?_)
      refine Lib.hid ?_
      replace KX := tkb hb LX KX
      replace LX := tlz LX hb.size
      replace KY := tkb hb LY KY
      replace LY := tlz LY hb.size
      replace KW := tkb hb LW KW
      replace LW := tlz LW hb.size
      replace BB := tbt BB hb
      clear hc hb fY0 fY1 fY2 fY3 fY4 fW0 fW1 fW2 fW3 fW4
      obtain ⟨k2, hk2⟩ : ∃ k, k = roOk s := ⟨_, rfl⟩
      obtain ⟨x2, hx2⟩ : ∃ y, y = roX s := ⟨_, rfl⟩
      have Hk2 := Lib.hid hk2
      have Hx2 := Lib.hid hx2
      clear hk2 hx2
      have hc := impl_readOp s w7 (by have := Hsz.out; omega) (HDo.out.later BB.out) (HEr.out.later BB.out)
      rw [← Hk2.out, ← Hx2.out] at hc
      unfold rqA at hc
      go_wp2_with (go_at_call 20; refine hc.mono ?_; rintro e w8 ⟨rfl, hb⟩; refine Hid.out ?_)
      refine Lib.hid ?_
      replace KX := tkb hb LX KX
      replace LX := tlz LX hb.size
      replace KY := tkb hb LY KY
      replace LY := tlz LY hb.size
      replace KW := tkb hb LW KW
      replace LW := tlz LW hb.size
      replace BB := tbt BB hb
      clear hc hb 
      by_cases he : s = ⟨#[]⟩
      · obtain rfl : k2 = false := by rw [Hk2.out, he]; exact ro_empty
        have h0 : (s.toList != (⟨#[]⟩ : ByteArray).toList) = false := by rw [he]; simp
        have h1 : (s.toList == (⟨#[]⟩ : ByteArray).toList) = true := teq he
        clear he
        have h2 : s.toList.isEmpty = true := by
          have h := h1
          simpa using h
        go_wp2_with fail
        go_ret
        exact ⟨rfl, BB.out.alloc BB.out.size _⟩
      · have hback := op_back (x := x) (by rw [← Hs.out]; exact he)
        rw [← Hs.out] at hback
        obtain rfl : k2 = true := by rw [Hk2.out]; exact hback.1
        obtain rfl : x2 = x := by rw [Hx2.out]; exact hback.2.1
        have Hrq := Lib.hid hback.2.2
        clear hback
        have h0 : (s.toList != (⟨#[]⟩ : ByteArray).toList) = true := by unfold bne; rw [tne he]; rfl
        have h1 : (s.toList == (⟨#[]⟩ : ByteArray).toList) = false := tne he
        have h2 : s.toList.isEmpty = false := by
          have h := h1
          simpa using h
        clear he
        have gc : (x2.c.toList == x2.c.toList) = true := teq rfl
        have gk : (x2.k.toList == x2.k.toList) = true := teq rfl
        have gv : (x2.v.toList == x2.v.toList) = true := teq rfl
        have gq : (x2.q == x2.q) = true := by simp
        have gn : (x2.n == x2.n) = true := by simp
        obtain ⟨X4, hX4⟩ : ∃ z, z = w8.alloc (.cells #[.string x2.c, .int .i64 x2.q, .int .i64 x2.n, .string x2.k, .string x2.v] 29) := ⟨_, rfl⟩
        have hb : Below w8.heap.size w8 X4 := by rw [hX4]; exact (Below.refl _ _).alloc (Nat.le_refl _) _
        replace KX := tkb hb LX KX
        replace LX := tlz LX hb.size
        replace KY := tkb hb LY KY
        replace LY := tlz LY hb.size
        replace KW := tkb hb LW KW
        replace LW := tlz LW hb.size
        replace BB := tbt BB hb
        have KB : Hid (X4.heap[w8.heap.size]? = some (.cells #[.string x2.c, .int .i64 x2.q, .int .i64 x2.n, .string x2.k, .string x2.v] 29 (0, 0))) := Lib.hid (by rw [hX4]; exact heap_new _ _)
        have LB : Hid (w8.heap.size < X4.heap.size) := Lib.hid (by rw [hX4]; simp)
        clear hb
        have hc := impl_opOk x2 X4 Hx.out
        rw [Hrq.out] at hc
        unfold rqA at hc
        have fX0 := tcr KX 0
        have fX1 := tcr KX 1
        have fX2 := tcr KX 2
        have fX3 := tcr KX 3
        have fX4 := tcr KX 4
        rw [hX4] at hc fX0 fX1 fX2 fX3 fX4
        go_wp2_with (go_at_call 14; refine hc.mono ?_; rintro e w9 ⟨rfl, hb⟩; refine Hid.out ?_)
        refine Lib.hid ?_
        rw [← hX4] at hb 
        clear hX4
        replace KX := tkb hb LX KX
        replace LX := tlz LX hb.size
        replace KY := tkb hb LY KY
        replace LY := tlz LY hb.size
        replace KW := tkb hb LW KW
        replace LW := tlz LW hb.size
        replace KB := tkb hb LB KB
        replace LB := tlz LB hb.size
        replace BB := tbt BB hb
        clear hc hb fX0 fX1 fX2 fX3 fX4
        go_wp2_with fail
        go_ret
        exact ⟨rfl, BB.out⟩
end Go.Proofs.YtebmaplflpfjbaaDoor
