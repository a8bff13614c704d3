/- The draws of operations. Condition: none. -/
import Derived.Test.YtebmaplflpfjbaaDoorBaseA
import Derived.Test.YtebmaplflpfjbaaDoorPickInt
import Derived.Test.YtebmaplflpfjbaaDoorDrawOdd
namespace Go.Proofs.YtebmaplflpfjbaaDoor
open Go.RowKit
set_option linter.unusedVariables false
set_option linter.unusedSimpArgs false

theorem infoOpD : (Tryd.prog.info? 29).map (fun i => (i.zero, i.size, i.bytes)) = some (some (.agg #[.string ⟨#[]⟩, .int .i64 0, .int .i64 0, .string ⟨#[]⟩, .string ⟨#[]⟩]), 5, 64) := by kernel_rfl
/-- A small operation. -/
def SmRq (x : Rq) : Prop := x.c.size ≤ 64 ∧ x.k.size ≤ 64 ∧ x.v.size ≤ 64 ∧ (-9223372036854775808 ≤ x.q ∧ x.q ≤ 9223372036854775807) ∧ -9223372036854775808 ≤ x.n ∧ x.n ≤ 9223372036854775807
theorem SmRq.fit {x : Rq} (h : SmRq x) : FitRq x := by
  obtain ⟨h1, h2, h3, h4, h5⟩ := h
  unfold FitRq maxLen
  exact ⟨by omega, by omega, by omega, h4, h5⟩
/-- What a draw of an operation leaves. -/
def DrewRq (T : TypeId) (w : World) (B blk : Nat) (e : Ending) (w' : World) : Prop := ∃ x, SmRq x ∧ e = .returned (rqA x) ∧ Cu T w' B blk ∧ w.grownBy w' (some blk)

set_option maxRecDepth 100000 in
set_option maxHeartbeats 8000000 in
theorem op_any (B blk : Nat) (w : World) (c : Cu TC w B blk) :
    Calls Tryd.prog 52 #[.pointer (some ⟨blk, 0, none⟩)] w (DrewRq TC w B blk) := by
  have LTB := Lib.hid c.lt
  have hbl := c.le
  obtain ⟨W, hW⟩ : ∃ W, W = w.alloc (.cells #[.string ⟨#[]⟩, .int .i64 0, .int .i64 0, .string ⟨#[]⟩, .string ⟨#[]⟩] 29) := ⟨_, rfl⟩
  have hbW : Below w.heap.size w W := by rw [hW]; exact (Below.refl _ _).alloc (Nat.le_refl _) _
  have hWs : W.heap.size = w.heap.size + 1 := by rw [hW]; simp
  have KR : Hid (W.heap[w.heap.size]? = some (.cells #[.string ⟨#[]⟩, .int .i64 0, .int .i64 0, .string ⟨#[]⟩, .string ⟨#[]⟩] 29 (0, 0))) := Lib.hid (by rw [hW]; exact heap_new _ _)
  have LR : Hid (w.heap.size < W.heap.size) := Lib.hid (by omega)
  have LTW : Hid (W.heap.size = w.heap.size + 1) := Lib.hid hWs
  have CU : Hid (Cu TC W B blk) := Lib.hid (c.kept (hbW.mono (by have := c.lt; omega)) (hbW.block _ c.lt))
  have GB : Hid (w.grownBy W (some blk)) := Lib.hid (grown_of_below hbW (some blk))
  clear c hbW hWs
  have hc0 := client_any B blk W CU.out
  rw [hW] at hc0
  go_enter Tryd.func52, Tryd.ntmps52
  go_wp2_with (go_at_call 87; refine hc0.mono ?_; rintro e w1 ⟨q, hq, rfl, cu, gr⟩; refine Hid.out ?_)
  refine Lib.hid ?_
  rw [← hW] at gr
  replace KR := tkg gr LR KR (by simp; have := LTB.out; omega)
  replace LR := tlz LR gr.size
  replace CU := Lib.hid cu
  replace GB := Lib.hid (GB.out.trans gr)
  clear gr cu hc0 hW
  have hc1 := below_any 7 (by omega) B blk w1 CU.out
  go_wp2_with (go_at_call 61; refine hc1.mono ?_; rintro e w2 ⟨n, ⟨hn0, hn1, _⟩, rfl, cu, gr⟩; refine Hid.out ?_)
  refine Lib.hid ?_
  replace KR := tkg gr LR KR (by simp; have := LTB.out; omega)
  replace LR := tlz LR gr.size
  replace CU := Lib.hid cu
  replace GB := Lib.hid (GB.out.trans gr)
  clear gr cu hc1
  have hn1 := hn1 (by omega)
  obtain ⟨X2, hX2⟩ : ∃ x, x = w2.alloc (.cells #[.int .i64 0, .int .i64 1, .int .i64 1, .int .i64 2] 3) := ⟨_, rfl⟩
  have bX2 : Below w2.heap.size w2 X2 := by rw [hX2]; exact (Below.refl _ _).alloc (Nat.le_refl _) _
  have kI : X2.heap[w2.heap.size]? = some (.cells #[.int .i64 0, .int .i64 1, .int .i64 1, .int .i64 2] 3 (0, 0)) := by rw [hX2]; exact heap_new _ _
  have NE : w2.heap.size ≠ blk := by have := CU.out.lt; omega
  have gz1 := grown_of_below bX2 (some blk)
  have cz1 := CU.out.kept (bX2.mono (Nat.le_trans CU.out.le (Nat.le_of_lt CU.out.lt))) (bX2.block _ CU.out.lt)
  replace KR := tkg gz1 LR KR (by simp; have := LTB.out; omega)
  replace LR := tlz LR gz1.size
  replace CU := Lib.hid cz1
  replace GB := Lib.hid (GB.out.trans gz1)
  clear gz1 cz1
  have hc2 := pickInt_any I64 w2.heap.size 4 4 (by omega) (by omega) B blk X2 NE (ints_of_row kI (by decide) _ rfl) CU.out
  rw [hX2] at hc2
  clear bX2 kI NE
  go_wp2_with (go_at_call 70; refine hc2.mono ?_; rintro e w3 ⟨y, hy, rfl, cu, gr⟩; refine Hid.out ?_)
  refine Lib.hid ?_
  rw [← hX2] at gr
  replace KR := tkg gr LR KR (by simp; have := LTB.out; omega)
  replace LR := tlz LR gr.size
  replace CU := Lib.hid cu
  replace GB := Lib.hid (GB.out.trans gr)
  clear gr cu hc2 hX2
  obtain ⟨y', hy', hyb⟩ := hy
  obtain rfl : y = y' := by simpa using hy'
  clear hy'
  have hc3 := name_any B blk w3 CU.out
  go_wp2_with (go_at_call 88; refine hc3.mono ?_; rintro e w4 ⟨k, hk, rfl, cu, gr⟩; refine Hid.out ?_)
  refine Lib.hid ?_
  replace KR := tkg gr LR KR (by simp; have := LTB.out; omega)
  replace LR := tlz LR gr.size
  replace CU := Lib.hid cu
  replace GB := Lib.hid (GB.out.trans gr)
  clear gr cu hc3
  have hnb : -9223372036854775808 ≤ 1 + n ∧ 1 + n ≤ 9223372036854775807 := by omega
  replace LTB := Lib.hid (And.intro LTB.out LR.out)
  obtain ⟨X5, hX5⟩ : ∃ zz, zz = w4.alloc (.cells #[.string q, .int .i64 (1 + n), .int .i64 y, .string k, .string ⟨#[]⟩] 29) := ⟨_, rfl⟩
  have bX5 : Below w4.heap.size w4 X5 := by rw [hX5]; exact (Below.refl _ _).alloc (Nat.le_refl _) _
  have sX5 : Hid (X5.heap.size = w4.heap.size + 1) := Lib.hid (by rw [hX5]; simp)
  have gz2 := grown_of_below bX5 (some blk)
  have cz2 := CU.out.kept (bX5.mono (Nat.le_trans CU.out.le (Nat.le_of_lt CU.out.lt))) (bX5.block _ CU.out.lt)
  replace KR := tkg gz2 LR KR (by simp; have := LTB.out; omega)
  replace LR := tlz LR gz2.size
  replace CU := Lib.hid cz2
  replace GB := Lib.hid (GB.out.trans gz2)
  clear gz2 cz2
  have KX : Hid (X5.heap[w4.heap.size]? = some (.cells #[.string q, .int .i64 (1 + n), .int .i64 y, .string k, .string ⟨#[]⟩] 29 (0, 0))) := Lib.hid (by rw [hX5]; exact heap_new _ _)
  have LX : Hid (w4.heap.size < X5.heap.size) := Lib.hid (by have := sX5.out; omega)
  clear bX5
  by_cases h1 : y = 1
  · subst h1
    have fX2 := tcr KX 2
    have hc4 := pick_lit 64 B blk 4 4 X5 #[.string ⟨#[49]⟩, .string ⟨#[114, 101, 100]⟩, .string ⟨#[98, 108, 117, 101]⟩, .string ⟨#[120, 46, 121]⟩] 9 CU.out rfl (by decide) (by decide) rfl
    rw [sX5.out] at hc4
    rw [hX5] at hc4 fX2
    go_wp2_with (go_at_call 69; refine hc4.mono ?_; rintro e w6 ⟨t, ht, rfl, cu, gr⟩; refine Hid.out ?_)
    refine Lib.hid ?_
    rw [← hX5] at gr
    replace KR := tkg gr LR KR (by simp; have := LTB.out; omega)
    replace LR := tlz LR gr.size
    replace KX := tkg gr LX KX (by simp; have := LTB.out; omega)
    replace LX := tlz LX gr.size
    replace CU := Lib.hid cu
    replace GB := Lib.hid (GB.out.trans gr)
    clear gr cu hc4 hX5
    clear fX2
    have oz3 := tcr KX 4
    have ozz3 := tfr KX 4
    obtain ⟨z3, hz3⟩ : ∃ Y, Y = w6.setCell ⟨w4.heap.size, 4, none⟩ (.string t) := ⟨_, rfl⟩
    have ez3 := heap_setCell_same _ (w4.heap.size) 4 _ _ (.string t) KX.out
    rw [← hz3] at ez3
    simp only [List.setIfInBounds_toArray, List.set_cons_zero, List.set_cons_succ] at ez3
    have gz3 : w6.grownBy z3 (some (w4.heap.size)) := by rw [hz3]; exact grown_set _ ⟨w4.heap.size, 4, none⟩ _
    replace KR := tkg gz3 LR KR (by first | (simp; done) | (simp; have := LTB.out; omega))
    replace LR := tlz LR gz3.size
    replace CU := Lib.hid (CU.out.kept (below_other gz3 (by have := CU.out.le; have := LTB.out; omega) (by have := CU.out.le; have := CU.out.lt; omega)) (gz3.block _ CU.out.lt (by simp; have := LTB.out; omega)))
    replace GB := Lib.hid (grown_far GB.out gz3 (by first | omega | (have := LTB.out; omega)))
    replace KX := Lib.hid ez3
    replace LX := tlz LX gz3.size
    clear gz3
    have fX0 := tcr KX 0
    have fX1 := tcr KX 1
    have fX2 := tcr KX 2
    have fX3 := tcr KX 3
    have fX4 := tcr KX 4
    have fR0 := tcr KR 0
    have qR0 := tfr KR 0
    have fR1 := tcr KR 1
    have qR1 := tfr KR 1
    have fR2 := tcr KR 2
    have qR2 := tfr KR 2
    have fR3 := tcr KR 3
    have qR3 := tfr KR 3
    have fR4 := tcr KR 4
    have qR4 := tfr KR 4
    rw [hz3] at fX0 fX1 fX2 fX3 fX4 fR0 qR0 fR1 qR1 fR2 qR2 fR3 qR3 fR4 qR4
    go_wp2_with fail
    rw [← hz3]
    clear fX0 fX1 fX2 fX3 fX4 fR0 qR0 fR1 qR1 fR2 qR2 fR3 qR3 fR4 qR4 oz3 ozz3 hz3
    obtain ⟨z4, hz4⟩ : ∃ Y, Y = (((((z3).setCell ⟨w.heap.size, 0, none⟩ (.string q)).setCell ⟨w.heap.size, 1, none⟩ (.int .i64 (1 + n))).setCell ⟨w.heap.size, 2, none⟩ (.int .i64 1)).setCell ⟨w.heap.size, 3, none⟩ (.string k)).setCell ⟨w.heap.size, 4, none⟩ (.string t) := ⟨_, rfl⟩
    rw [← hz4]
    have ez40 := heap_setCell_same _ (w.heap.size) 0 _ _ (.string q) KR.out
    have ez41 := heap_setCell_same _ (w.heap.size) 1 _ _ (.int .i64 (1 + n)) ez40
    have ez42 := heap_setCell_same _ (w.heap.size) 2 _ _ (.int .i64 1) ez41
    have ez43 := heap_setCell_same _ (w.heap.size) 3 _ _ (.string k) ez42
    have ez44 := heap_setCell_same _ (w.heap.size) 4 _ _ (.string t) ez43
    rw [← hz4] at ez44
    simp only [List.setIfInBounds_toArray, List.set_cons_zero, List.set_cons_succ] at ez44
    have gz4 : z3.grownBy z4 (some (w.heap.size)) := by rw [hz4]; exact ((((grown_set _ ⟨w.heap.size, 0, none⟩ _).trans (grown_set _ ⟨w.heap.size, 1, none⟩ _)).trans (grown_set _ ⟨w.heap.size, 2, none⟩ _)).trans (grown_set _ ⟨w.heap.size, 3, none⟩ _)).trans (grown_set _ ⟨w.heap.size, 4, none⟩ _)
    clear hz4
    replace KX := tkg gz4 LX KX (by first | (simp; done) | (simp; have := LTB.out; omega))
    replace LX := tlz LX gz4.size
    replace CU := Lib.hid (CU.out.kept (below_other gz4 (by have := CU.out.le; have := LTB.out; omega) (by have := CU.out.le; have := CU.out.lt; omega)) (gz4.block _ CU.out.lt (by simp; have := LTB.out; omega)))
    replace GB := Lib.hid (grown_far GB.out gz4 (by first | omega | (have := LTB.out; omega)))
    replace KR := Lib.hid ez44
    replace LR := tlz LR gz4.size
    clear ez40 ez41 ez42 ez43 gz4
    obtain ⟨j0, q1, q2, q3, q4⟩ := info_parts infoOpD
    refine bodyPost_ret (results_cell_row (P := Tryd.prog) rfl _ _ (w.heap.size) _ _ (0, 0) _ rfl KR.out Tryd.underlying29 rfl (by rw [q1]; simp [q3])) rfl ⟨⟨q, 1 + n, 1, k, t⟩, ?_, rfl, CU.out, GB.out⟩
    exact ⟨hq, by show k.size ≤ 64; omega, ht, hnb, hyb⟩
  · have h1' : (y == 1) = false := by simpa using h1
    clear h1
    have fX0 := tcr KX 0
    have fX1 := tcr KX 1
    have fX2 := tcr KX 2
    have fX3 := tcr KX 3
    have fX4 := tcr KX 4
    have fR0 := tcr KR 0
    have qR0 := tfr KR 0
    have fR1 := tcr KR 1
    have qR1 := tfr KR 1
    have fR2 := tcr KR 2
    have qR2 := tfr KR 2
    have fR3 := tcr KR 3
    have qR3 := tfr KR 3
    have fR4 := tcr KR 4
    have qR4 := tfr KR 4
    rw [hX5] at fX0 fX1 fX2 fX3 fX4 fR0 qR0 fR1 qR1 fR2 qR2 fR3 qR3 fR4 qR4
    go_wp2_with fail
    rw [← hX5]
    clear hX5 fX0 fX1 fX2 fX3 fX4 fR0 qR0 fR1 qR1 fR2 qR2 fR3 qR3 fR4 qR4
    obtain ⟨z5, hz5⟩ : ∃ Y, Y = (((((X5).setCell ⟨w.heap.size, 0, none⟩ (.string q)).setCell ⟨w.heap.size, 1, none⟩ (.int .i64 (1 + n))).setCell ⟨w.heap.size, 2, none⟩ (.int .i64 y)).setCell ⟨w.heap.size, 3, none⟩ (.string k)).setCell ⟨w.heap.size, 4, none⟩ (.string ⟨#[]⟩) := ⟨_, rfl⟩
    rw [← hz5]
    have ez50 := heap_setCell_same _ (w.heap.size) 0 _ _ (.string q) KR.out
    have ez51 := heap_setCell_same _ (w.heap.size) 1 _ _ (.int .i64 (1 + n)) ez50
    have ez52 := heap_setCell_same _ (w.heap.size) 2 _ _ (.int .i64 y) ez51
    have ez53 := heap_setCell_same _ (w.heap.size) 3 _ _ (.string k) ez52
    have ez54 := heap_setCell_same _ (w.heap.size) 4 _ _ (.string ⟨#[]⟩) ez53
    rw [← hz5] at ez54
    simp only [List.setIfInBounds_toArray, List.set_cons_zero, List.set_cons_succ] at ez54
    have gz5 : X5.grownBy z5 (some (w.heap.size)) := by rw [hz5]; exact ((((grown_set _ ⟨w.heap.size, 0, none⟩ _).trans (grown_set _ ⟨w.heap.size, 1, none⟩ _)).trans (grown_set _ ⟨w.heap.size, 2, none⟩ _)).trans (grown_set _ ⟨w.heap.size, 3, none⟩ _)).trans (grown_set _ ⟨w.heap.size, 4, none⟩ _)
    clear hz5
    replace KX := tkg gz5 LX KX (by first | (simp; done) | (simp; have := LTB.out; omega))
    replace LX := tlz LX gz5.size
    replace CU := Lib.hid (CU.out.kept (below_other gz5 (by have := CU.out.le; have := LTB.out; omega) (by have := CU.out.le; have := CU.out.lt; omega)) (gz5.block _ CU.out.lt (by simp; have := LTB.out; omega)))
    replace GB := Lib.hid (grown_far GB.out gz5 (by first | omega | (have := LTB.out; omega)))
    replace KR := Lib.hid ez54
    replace LR := tlz LR gz5.size
    clear ez50 ez51 ez52 ez53 gz5
    obtain ⟨j0, q1, q2, q3, q4⟩ := info_parts infoOpD
    refine bodyPost_ret (results_cell_row (P := Tryd.prog) rfl _ _ (w.heap.size) _ _ (0, 0) _ rfl KR.out Tryd.underlying29 rfl (by rw [q1]; simp [q3])) rfl ⟨⟨q, 1 + n, y, k, ⟨#[]⟩⟩, ⟨hq, by show k.size ≤ 64; omega, by show (⟨#[]⟩ : ByteArray).size ≤ 64; decide, hnb, hyb⟩, rfl, CU.out, GB.out⟩
set_option maxRecDepth 100000 in
set_option maxHeartbeats 8000000 in
theorem oddOp_any (B blk : Nat) (w : World) (c : Cu TC w B blk) :
    Calls Tryd.prog 32 #[.pointer (some ⟨blk, 0, none⟩)] w (DrewRq TC w B blk) := by
  have LTB := Lib.hid c.lt
  have hbl := c.le
  obtain ⟨W, hW⟩ : ∃ W, W = w.alloc (.cells #[.string ⟨#[]⟩, .int .i64 0, .int .i64 0, .string ⟨#[]⟩, .string ⟨#[]⟩] 29) := ⟨_, rfl⟩
  have hbW : Below w.heap.size w W := by rw [hW]; exact (Below.refl _ _).alloc (Nat.le_refl _) _
  have hWs : W.heap.size = w.heap.size + 1 := by rw [hW]; simp
  have KR : Hid (W.heap[w.heap.size]? = some (.cells #[.string ⟨#[]⟩, .int .i64 0, .int .i64 0, .string ⟨#[]⟩, .string ⟨#[]⟩] 29 (0, 0))) := Lib.hid (by rw [hW]; exact heap_new _ _)
  have LR : Hid (w.heap.size < W.heap.size) := Lib.hid (by omega)
  have LTW : Hid (W.heap.size = w.heap.size + 1) := Lib.hid hWs
  have CU : Hid (Cu TC W B blk) := Lib.hid (c.kept (hbW.mono (by have := c.lt; omega)) (hbW.block _ c.lt))
  have GB : Hid (w.grownBy W (some blk)) := Lib.hid (grown_of_below hbW (some blk))
  clear c hbW hWs
  have hc0 := op_any B blk W CU.out
  rw [hW] at hc0
  go_enter Tryd.func32, Tryd.ntmps32
  go_wp2_with (go_at_call 52; refine hc0.mono ?_; rintro e w1 ⟨x, hx, rfl, cu, gr⟩; refine Hid.out ?_)
  refine Lib.hid ?_
  rw [← hW] at gr
  replace KR := tkg gr LR KR (by simp; have := LTB.out; omega)
  replace LR := tlz LR gr.size
  replace CU := Lib.hid cu
  replace GB := Lib.hid (GB.out.trans gr)
  clear gr cu hc0 hW
  unfold rqA
  obtain ⟨hxc, hxk, hxv, hxq, hxn⟩ := hx
  replace LTB := Lib.hid (And.intro LTB.out LR.out)
  obtain ⟨X2, hX2⟩ : ∃ zz, zz = w1.alloc (.cells #[.string x.c, .int .i64 x.q, .int .i64 x.n, .string x.k, .string x.v] 29) := ⟨_, rfl⟩
  have bX2 : Below w1.heap.size w1 X2 := by rw [hX2]; exact (Below.refl _ _).alloc (Nat.le_refl _) _
  have sX2 : Hid (X2.heap.size = w1.heap.size + 1) := Lib.hid (by rw [hX2]; simp)
  have gz1 := grown_of_below bX2 (some blk)
  have cz1 := CU.out.kept (bX2.mono (Nat.le_trans CU.out.le (Nat.le_of_lt CU.out.lt))) (bX2.block _ CU.out.lt)
  replace KR := tkg gz1 LR KR (by simp; have := LTB.out; omega)
  replace LR := tlz LR gz1.size
  replace CU := Lib.hid cz1
  replace GB := Lib.hid (GB.out.trans gz1)
  clear gz1 cz1
  have KX : Hid (X2.heap[w1.heap.size]? = some (.cells #[.string x.c, .int .i64 x.q, .int .i64 x.n, .string x.k, .string x.v] 29 (0, 0))) := Lib.hid (by rw [hX2]; exact heap_new _ _)
  have LX : Hid (w1.heap.size < X2.heap.size) := Lib.hid (by have := sX2.out; omega)
  clear bX2
  have hc1 := below_any 14 (by omega) B blk X2 CU.out
  rw [hX2] at hc1
  go_wp2_with (go_at_call 61; refine hc1.mono ?_; rintro e w3 ⟨n, ⟨hn0, hn1, _⟩, rfl, cu, gr⟩; refine Hid.out ?_)
  refine Lib.hid ?_
  rw [← hX2] at gr
  replace KR := tkg gr LR KR (by simp; have := LTB.out; omega)
  replace LR := tlz LR gr.size
  replace KX := tkg gr LX KX (by simp; have := LTB.out; omega)
  replace LX := tlz LX gr.size
  replace CU := Lib.hid cu
  replace GB := Lib.hid (GB.out.trans gr)
  clear gr cu hc1 hX2
  clear hn0 hn1
  by_cases h0 : n = 0
  · subst h0
    have hc4 := pick_lit 64 B blk 2 2 w3 #[.string ⟨#[]⟩, .string ⟨#[65, 110, 110]⟩] 9 CU.out rfl (by decide) (by decide) rfl
    go_wp2_with (go_at_call 69; refine hc4.mono ?_; rintro e w6 ⟨t, ht, rfl, cu, gr⟩; refine Hid.out ?_)
    refine Lib.hid ?_
    replace KR := tkg gr LR KR (by simp; have := LTB.out; omega)
    replace LR := tlz LR gr.size
    replace KX := tkg gr LX KX (by simp; have := LTB.out; omega)
    replace LX := tlz LX gr.size
    replace CU := Lib.hid cu
    replace GB := Lib.hid (GB.out.trans gr)
    clear gr cu hc4
    have oz2 := tcr KX 0
    have ozz2 := tfr KX 0
    obtain ⟨z2, hz2⟩ : ∃ Y, Y = w6.setCell ⟨w1.heap.size, 0, none⟩ (.string t) := ⟨_, rfl⟩
    have ez2 := heap_setCell_same _ (w1.heap.size) 0 _ _ (.string t) KX.out
    rw [← hz2] at ez2
    simp only [List.setIfInBounds_toArray, List.set_cons_zero, List.set_cons_succ] at ez2
    have gz2 : w6.grownBy z2 (some (w1.heap.size)) := by rw [hz2]; exact grown_set _ ⟨w1.heap.size, 0, none⟩ _
    replace KR := tkg gz2 LR KR (by first | (simp; done) | (simp; have := LTB.out; omega))
    replace LR := tlz LR gz2.size
    replace CU := Lib.hid (CU.out.kept (below_other gz2 (by have := CU.out.le; have := LTB.out; omega) (by have := CU.out.le; have := CU.out.lt; omega)) (gz2.block _ CU.out.lt (by simp; have := LTB.out; omega)))
    replace GB := Lib.hid (grown_far GB.out gz2 (by first | omega | (have := LTB.out; omega)))
    replace KX := Lib.hid ez2
    replace LX := tlz LX gz2.size
    clear gz2
    have fX0 := tcr KX 0
    have fX1 := tcr KX 1
    have fX2 := tcr KX 2
    have fX3 := tcr KX 3
    have fX4 := tcr KX 4
    have fR0 := tcr KR 0
    have qR0 := tfr KR 0
    have fR1 := tcr KR 1
    have qR1 := tfr KR 1
    have fR2 := tcr KR 2
    have qR2 := tfr KR 2
    have fR3 := tcr KR 3
    have qR3 := tfr KR 3
    have fR4 := tcr KR 4
    have qR4 := tfr KR 4
    rw [hz2] at fX0 fX1 fX2 fX3 fX4 fR0 qR0 fR1 qR1 fR2 qR2 fR3 qR3 fR4 qR4
    go_wp2_with fail
    rw [← hz2]
    clear fX0 fX1 fX2 fX3 fX4 fR0 qR0 fR1 qR1 fR2 qR2 fR3 qR3 fR4 qR4 oz2 ozz2 hz2
    obtain ⟨z3, hz3⟩ : ∃ Y, Y = (((((z2).setCell ⟨w.heap.size, 0, none⟩ (.string t)).setCell ⟨w.heap.size, 1, none⟩ (.int .i64 x.q)).setCell ⟨w.heap.size, 2, none⟩ (.int .i64 x.n)).setCell ⟨w.heap.size, 3, none⟩ (.string x.k)).setCell ⟨w.heap.size, 4, none⟩ (.string x.v) := ⟨_, rfl⟩
    rw [← hz3]
    have ez30 := heap_setCell_same _ (w.heap.size) 0 _ _ (.string t) KR.out
    have ez31 := heap_setCell_same _ (w.heap.size) 1 _ _ (.int .i64 x.q) ez30
    have ez32 := heap_setCell_same _ (w.heap.size) 2 _ _ (.int .i64 x.n) ez31
    have ez33 := heap_setCell_same _ (w.heap.size) 3 _ _ (.string x.k) ez32
    have ez34 := heap_setCell_same _ (w.heap.size) 4 _ _ (.string x.v) ez33
    rw [← hz3] at ez34
    simp only [List.setIfInBounds_toArray, List.set_cons_zero, List.set_cons_succ] at ez34
    have gz3 : z2.grownBy z3 (some (w.heap.size)) := by rw [hz3]; exact ((((grown_set _ ⟨w.heap.size, 0, none⟩ _).trans (grown_set _ ⟨w.heap.size, 1, none⟩ _)).trans (grown_set _ ⟨w.heap.size, 2, none⟩ _)).trans (grown_set _ ⟨w.heap.size, 3, none⟩ _)).trans (grown_set _ ⟨w.heap.size, 4, none⟩ _)
    clear hz3
    replace KX := tkg gz3 LX KX (by first | (simp; done) | (simp; have := LTB.out; omega))
    replace LX := tlz LX gz3.size
    replace CU := Lib.hid (CU.out.kept (below_other gz3 (by have := CU.out.le; have := LTB.out; omega) (by have := CU.out.le; have := CU.out.lt; omega)) (gz3.block _ CU.out.lt (by simp; have := LTB.out; omega)))
    replace GB := Lib.hid (grown_far GB.out gz3 (by first | omega | (have := LTB.out; omega)))
    replace KR := Lib.hid ez34
    replace LR := tlz LR gz3.size
    clear ez30 ez31 ez32 ez33 gz3
    obtain ⟨j0, q1, q2, q3, q4⟩ := info_parts infoOpD
    refine bodyPost_ret (results_cell_row (P := Tryd.prog) rfl _ _ (w.heap.size) _ _ (0, 0) _ rfl KR.out Tryd.underlying29 rfl (by rw [q1]; simp [q3])) rfl ⟨⟨t, x.q, x.n, x.k, x.v⟩, ?_, rfl, CU.out, GB.out⟩
    exact ⟨ht, hxk, hxv, hxq, hxn⟩
  have g0 : (n == 0) = false := by simpa using h0
  clear h0
  by_cases h1 : n = 1
  · subst h1
    obtain ⟨X5, hX5⟩ : ∃ x, x = w3.alloc (.cells #[.int .i64 0, .int .i64 (-1), .int .i64 1000000000, .int .i64 1000000001] 3) := ⟨_, rfl⟩
    have bX5 : Below w3.heap.size w3 X5 := by rw [hX5]; exact (Below.refl _ _).alloc (Nat.le_refl _) _
    have kI : X5.heap[w3.heap.size]? = some (.cells #[.int .i64 0, .int .i64 (-1), .int .i64 1000000000, .int .i64 1000000001] 3 (0, 0)) := by rw [hX5]; exact heap_new _ _
    have NE : w3.heap.size ≠ blk := by have := CU.out.lt; omega
    have gz4 := grown_of_below bX5 (some blk)
    have cz4 := CU.out.kept (bX5.mono (Nat.le_trans CU.out.le (Nat.le_of_lt CU.out.lt))) (bX5.block _ CU.out.lt)
    replace KR := tkg gz4 LR KR (by simp; have := LTB.out; omega)
    replace LR := tlz LR gz4.size
    replace KX := tkg gz4 LX KX (by simp; have := LTB.out; omega)
    replace LX := tlz LX gz4.size
    replace CU := Lib.hid cz4
    replace GB := Lib.hid (GB.out.trans gz4)
    clear gz4 cz4
    have hc4 := pickInt_any I64 w3.heap.size 4 4 (by omega) (by omega) B blk X5 NE (ints_of_row kI (by decide) _ rfl) CU.out
    rw [hX5] at hc4
    clear bX5 kI NE
    go_wp2_with (go_at_call 70; refine hc4.mono ?_; rintro e w6 ⟨y, hy, rfl, cu, gr⟩; refine Hid.out ?_)
    refine Lib.hid ?_
    rw [← hX5] at gr
    replace KR := tkg gr LR KR (by simp; have := LTB.out; omega)
    replace LR := tlz LR gr.size
    replace KX := tkg gr LX KX (by simp; have := LTB.out; omega)
    replace LX := tlz LX gr.size
    replace CU := Lib.hid cu
    replace GB := Lib.hid (GB.out.trans gr)
    clear gr cu hc4 hX5
    obtain ⟨y', hy', hyb⟩ := hy
    obtain rfl : y = y' := by simpa using hy'
    clear hy'
    have oz5 := tcr KX 1
    have ozz5 := tfr KX 1
    obtain ⟨z5, hz5⟩ : ∃ Y, Y = w6.setCell ⟨w1.heap.size, 1, none⟩ (.int .i64 y) := ⟨_, rfl⟩
    have ez5 := heap_setCell_same _ (w1.heap.size) 1 _ _ (.int .i64 y) KX.out
    rw [← hz5] at ez5
    simp only [List.setIfInBounds_toArray, List.set_cons_zero, List.set_cons_succ] at ez5
    have gz5 : w6.grownBy z5 (some (w1.heap.size)) := by rw [hz5]; exact grown_set _ ⟨w1.heap.size, 1, none⟩ _
    replace KR := tkg gz5 LR KR (by first | (simp; done) | (simp; have := LTB.out; omega))
    replace LR := tlz LR gz5.size
    replace CU := Lib.hid (CU.out.kept (below_other gz5 (by have := CU.out.le; have := LTB.out; omega) (by have := CU.out.le; have := CU.out.lt; omega)) (gz5.block _ CU.out.lt (by simp; have := LTB.out; omega)))
    replace GB := Lib.hid (grown_far GB.out gz5 (by first | omega | (have := LTB.out; omega)))
    replace KX := Lib.hid ez5
    replace LX := tlz LX gz5.size
    clear gz5
    have fX0 := tcr KX 0
    have fX1 := tcr KX 1
    have fX2 := tcr KX 2
    have fX3 := tcr KX 3
    have fX4 := tcr KX 4
    have fR0 := tcr KR 0
    have qR0 := tfr KR 0
    have fR1 := tcr KR 1
    have qR1 := tfr KR 1
    have fR2 := tcr KR 2
    have qR2 := tfr KR 2
    have fR3 := tcr KR 3
    have qR3 := tfr KR 3
    have fR4 := tcr KR 4
    have qR4 := tfr KR 4
    rw [hz5] at fX0 fX1 fX2 fX3 fX4 fR0 qR0 fR1 qR1 fR2 qR2 fR3 qR3 fR4 qR4
    go_wp2_with fail
    rw [← hz5]
    clear fX0 fX1 fX2 fX3 fX4 fR0 qR0 fR1 qR1 fR2 qR2 fR3 qR3 fR4 qR4 oz5 ozz5 hz5
    obtain ⟨z6, hz6⟩ : ∃ Y, Y = (((((z5).setCell ⟨w.heap.size, 0, none⟩ (.string x.c)).setCell ⟨w.heap.size, 1, none⟩ (.int .i64 y)).setCell ⟨w.heap.size, 2, none⟩ (.int .i64 x.n)).setCell ⟨w.heap.size, 3, none⟩ (.string x.k)).setCell ⟨w.heap.size, 4, none⟩ (.string x.v) := ⟨_, rfl⟩
    rw [← hz6]
    have ez60 := heap_setCell_same _ (w.heap.size) 0 _ _ (.string x.c) KR.out
    have ez61 := heap_setCell_same _ (w.heap.size) 1 _ _ (.int .i64 y) ez60
    have ez62 := heap_setCell_same _ (w.heap.size) 2 _ _ (.int .i64 x.n) ez61
    have ez63 := heap_setCell_same _ (w.heap.size) 3 _ _ (.string x.k) ez62
    have ez64 := heap_setCell_same _ (w.heap.size) 4 _ _ (.string x.v) ez63
    rw [← hz6] at ez64
    simp only [List.setIfInBounds_toArray, List.set_cons_zero, List.set_cons_succ] at ez64
    have gz6 : z5.grownBy z6 (some (w.heap.size)) := by rw [hz6]; exact ((((grown_set _ ⟨w.heap.size, 0, none⟩ _).trans (grown_set _ ⟨w.heap.size, 1, none⟩ _)).trans (grown_set _ ⟨w.heap.size, 2, none⟩ _)).trans (grown_set _ ⟨w.heap.size, 3, none⟩ _)).trans (grown_set _ ⟨w.heap.size, 4, none⟩ _)
    clear hz6
    replace KX := tkg gz6 LX KX (by first | (simp; done) | (simp; have := LTB.out; omega))
    replace LX := tlz LX gz6.size
    replace CU := Lib.hid (CU.out.kept (below_other gz6 (by have := CU.out.le; have := LTB.out; omega) (by have := CU.out.le; have := CU.out.lt; omega)) (gz6.block _ CU.out.lt (by simp; have := LTB.out; omega)))
    replace GB := Lib.hid (grown_far GB.out gz6 (by first | omega | (have := LTB.out; omega)))
    replace KR := Lib.hid ez64
    replace LR := tlz LR gz6.size
    clear ez60 ez61 ez62 ez63 gz6
    obtain ⟨j0, q1, q2, q3, q4⟩ := info_parts infoOpD
    refine bodyPost_ret (results_cell_row (P := Tryd.prog) rfl _ _ (w.heap.size) _ _ (0, 0) _ rfl KR.out Tryd.underlying29 rfl (by rw [q1]; simp [q3])) rfl ⟨⟨x.c, y, x.n, x.k, x.v⟩, ?_, rfl, CU.out, GB.out⟩
    exact ⟨hxc, hxk, hxv, hyb, hxn⟩
  have g1 : (n == 1) = false := by simpa using h1
  clear h1
  by_cases h2 : n = 2
  · subst h2
    obtain ⟨X5, hX5⟩ : ∃ x, x = w3.alloc (.cells #[.int .i64 (-1), .int .i64 3, .int .i64 0] 3) := ⟨_, rfl⟩
    have bX5 : Below w3.heap.size w3 X5 := by rw [hX5]; exact (Below.refl _ _).alloc (Nat.le_refl _) _
    have kI : X5.heap[w3.heap.size]? = some (.cells #[.int .i64 (-1), .int .i64 3, .int .i64 0] 3 (0, 0)) := by rw [hX5]; exact heap_new _ _
    have NE : w3.heap.size ≠ blk := by have := CU.out.lt; omega
    have gz7 := grown_of_below bX5 (some blk)
    have cz7 := CU.out.kept (bX5.mono (Nat.le_trans CU.out.le (Nat.le_of_lt CU.out.lt))) (bX5.block _ CU.out.lt)
    replace KR := tkg gz7 LR KR (by simp; have := LTB.out; omega)
    replace LR := tlz LR gz7.size
    replace KX := tkg gz7 LX KX (by simp; have := LTB.out; omega)
    replace LX := tlz LX gz7.size
    replace CU := Lib.hid cz7
    replace GB := Lib.hid (GB.out.trans gz7)
    clear gz7 cz7
    have hc4 := pickInt_any I64 w3.heap.size 3 3 (by omega) (by omega) B blk X5 NE (ints_of_row kI (by decide) _ rfl) CU.out
    rw [hX5] at hc4
    clear bX5 kI NE
    go_wp2_with (go_at_call 70; refine hc4.mono ?_; rintro e w6 ⟨y, hy, rfl, cu, gr⟩; refine Hid.out ?_)
    refine Lib.hid ?_
    rw [← hX5] at gr
    replace KR := tkg gr LR KR (by simp; have := LTB.out; omega)
    replace LR := tlz LR gr.size
    replace KX := tkg gr LX KX (by simp; have := LTB.out; omega)
    replace LX := tlz LX gr.size
    replace CU := Lib.hid cu
    replace GB := Lib.hid (GB.out.trans gr)
    clear gr cu hc4 hX5
    obtain ⟨y', hy', hyb⟩ := hy
    obtain rfl : y = y' := by simpa using hy'
    clear hy'
    have oz8 := tcr KX 2
    have ozz8 := tfr KX 2
    obtain ⟨z8, hz8⟩ : ∃ Y, Y = w6.setCell ⟨w1.heap.size, 2, none⟩ (.int .i64 y) := ⟨_, rfl⟩
    have ez8 := heap_setCell_same _ (w1.heap.size) 2 _ _ (.int .i64 y) KX.out
    rw [← hz8] at ez8
    simp only [List.setIfInBounds_toArray, List.set_cons_zero, List.set_cons_succ] at ez8
    have gz8 : w6.grownBy z8 (some (w1.heap.size)) := by rw [hz8]; exact grown_set _ ⟨w1.heap.size, 2, none⟩ _
    replace KR := tkg gz8 LR KR (by first | (simp; done) | (simp; have := LTB.out; omega))
    replace LR := tlz LR gz8.size
    replace CU := Lib.hid (CU.out.kept (below_other gz8 (by have := CU.out.le; have := LTB.out; omega) (by have := CU.out.le; have := CU.out.lt; omega)) (gz8.block _ CU.out.lt (by simp; have := LTB.out; omega)))
    replace GB := Lib.hid (grown_far GB.out gz8 (by first | omega | (have := LTB.out; omega)))
    replace KX := Lib.hid ez8
    replace LX := tlz LX gz8.size
    clear gz8
    have fX0 := tcr KX 0
    have fX1 := tcr KX 1
    have fX2 := tcr KX 2
    have fX3 := tcr KX 3
    have fX4 := tcr KX 4
    have fR0 := tcr KR 0
    have qR0 := tfr KR 0
    have fR1 := tcr KR 1
    have qR1 := tfr KR 1
    have fR2 := tcr KR 2
    have qR2 := tfr KR 2
    have fR3 := tcr KR 3
    have qR3 := tfr KR 3
    have fR4 := tcr KR 4
    have qR4 := tfr KR 4
    rw [hz8] at fX0 fX1 fX2 fX3 fX4 fR0 qR0 fR1 qR1 fR2 qR2 fR3 qR3 fR4 qR4
    go_wp2_with fail
    rw [← hz8]
    clear fX0 fX1 fX2 fX3 fX4 fR0 qR0 fR1 qR1 fR2 qR2 fR3 qR3 fR4 qR4 oz8 ozz8 hz8
    obtain ⟨z9, hz9⟩ : ∃ Y, Y = (((((z8).setCell ⟨w.heap.size, 0, none⟩ (.string x.c)).setCell ⟨w.heap.size, 1, none⟩ (.int .i64 x.q)).setCell ⟨w.heap.size, 2, none⟩ (.int .i64 y)).setCell ⟨w.heap.size, 3, none⟩ (.string x.k)).setCell ⟨w.heap.size, 4, none⟩ (.string x.v) := ⟨_, rfl⟩
    rw [← hz9]
    have ez90 := heap_setCell_same _ (w.heap.size) 0 _ _ (.string x.c) KR.out
    have ez91 := heap_setCell_same _ (w.heap.size) 1 _ _ (.int .i64 x.q) ez90
    have ez92 := heap_setCell_same _ (w.heap.size) 2 _ _ (.int .i64 y) ez91
    have ez93 := heap_setCell_same _ (w.heap.size) 3 _ _ (.string x.k) ez92
    have ez94 := heap_setCell_same _ (w.heap.size) 4 _ _ (.string x.v) ez93
    rw [← hz9] at ez94
    simp only [List.setIfInBounds_toArray, List.set_cons_zero, List.set_cons_succ] at ez94
    have gz9 : z8.grownBy z9 (some (w.heap.size)) := by rw [hz9]; exact ((((grown_set _ ⟨w.heap.size, 0, none⟩ _).trans (grown_set _ ⟨w.heap.size, 1, none⟩ _)).trans (grown_set _ ⟨w.heap.size, 2, none⟩ _)).trans (grown_set _ ⟨w.heap.size, 3, none⟩ _)).trans (grown_set _ ⟨w.heap.size, 4, none⟩ _)
    clear hz9
    replace KX := tkg gz9 LX KX (by first | (simp; done) | (simp; have := LTB.out; omega))
    replace LX := tlz LX gz9.size
    replace CU := Lib.hid (CU.out.kept (below_other gz9 (by have := CU.out.le; have := LTB.out; omega) (by have := CU.out.le; have := CU.out.lt; omega)) (gz9.block _ CU.out.lt (by simp; have := LTB.out; omega)))
    replace GB := Lib.hid (grown_far GB.out gz9 (by first | omega | (have := LTB.out; omega)))
    replace KR := Lib.hid ez94
    replace LR := tlz LR gz9.size
    clear ez90 ez91 ez92 ez93 gz9
    obtain ⟨j0, q1, q2, q3, q4⟩ := info_parts infoOpD
    refine bodyPost_ret (results_cell_row (P := Tryd.prog) rfl _ _ (w.heap.size) _ _ (0, 0) _ rfl KR.out Tryd.underlying29 rfl (by rw [q1]; simp [q3])) rfl ⟨⟨x.c, x.q, y, x.k, x.v⟩, ?_, rfl, CU.out, GB.out⟩
    exact ⟨hxc, hxk, hxv, hxq, hyb⟩
  have g2 : (n == 2) = false := by simpa using h2
  clear h2
  by_cases h3 : n = 3
  · subst h3
    have hc4 := value_any B blk w3 CU.out
    go_wp2_with (go_at_call 71; refine hc4.mono ?_; rintro e w6 ⟨t, ht, rfl, cu, gr⟩; refine Hid.out ?_)
    refine Lib.hid ?_
    replace KR := tkg gr LR KR (by simp; have := LTB.out; omega)
    replace LR := tlz LR gr.size
    replace KX := tkg gr LX KX (by simp; have := LTB.out; omega)
    replace LX := tlz LX gr.size
    replace CU := Lib.hid cu
    replace GB := Lib.hid (GB.out.trans gr)
    clear gr cu hc4
    have oz10 := tcr KX 4
    have ozz10 := tfr KX 4
    obtain ⟨z10, hz10⟩ : ∃ Y, Y = w6.setCell ⟨w1.heap.size, 4, none⟩ (.string t) := ⟨_, rfl⟩
    have ez10 := heap_setCell_same _ (w1.heap.size) 4 _ _ (.string t) KX.out
    rw [← hz10] at ez10
    simp only [List.setIfInBounds_toArray, List.set_cons_zero, List.set_cons_succ] at ez10
    have gz10 : w6.grownBy z10 (some (w1.heap.size)) := by rw [hz10]; exact grown_set _ ⟨w1.heap.size, 4, none⟩ _
    replace KR := tkg gz10 LR KR (by first | (simp; done) | (simp; have := LTB.out; omega))
    replace LR := tlz LR gz10.size
    replace CU := Lib.hid (CU.out.kept (below_other gz10 (by have := CU.out.le; have := LTB.out; omega) (by have := CU.out.le; have := CU.out.lt; omega)) (gz10.block _ CU.out.lt (by simp; have := LTB.out; omega)))
    replace GB := Lib.hid (grown_far GB.out gz10 (by first | omega | (have := LTB.out; omega)))
    replace KX := Lib.hid ez10
    replace LX := tlz LX gz10.size
    clear gz10
    have fX0 := tcr KX 0
    have fX1 := tcr KX 1
    have fX2 := tcr KX 2
    have fX3 := tcr KX 3
    have fX4 := tcr KX 4
    have fR0 := tcr KR 0
    have qR0 := tfr KR 0
    have fR1 := tcr KR 1
    have qR1 := tfr KR 1
    have fR2 := tcr KR 2
    have qR2 := tfr KR 2
    have fR3 := tcr KR 3
    have qR3 := tfr KR 3
    have fR4 := tcr KR 4
    have qR4 := tfr KR 4
    rw [hz10] at fX0 fX1 fX2 fX3 fX4 fR0 qR0 fR1 qR1 fR2 qR2 fR3 qR3 fR4 qR4
    go_wp2_with fail
    rw [← hz10]
    clear fX0 fX1 fX2 fX3 fX4 fR0 qR0 fR1 qR1 fR2 qR2 fR3 qR3 fR4 qR4 oz10 ozz10 hz10
    obtain ⟨z11, hz11⟩ : ∃ Y, Y = (((((z10).setCell ⟨w.heap.size, 0, none⟩ (.string x.c)).setCell ⟨w.heap.size, 1, none⟩ (.int .i64 x.q)).setCell ⟨w.heap.size, 2, none⟩ (.int .i64 x.n)).setCell ⟨w.heap.size, 3, none⟩ (.string x.k)).setCell ⟨w.heap.size, 4, none⟩ (.string t) := ⟨_, rfl⟩
    rw [← hz11]
    have ez110 := heap_setCell_same _ (w.heap.size) 0 _ _ (.string x.c) KR.out
    have ez111 := heap_setCell_same _ (w.heap.size) 1 _ _ (.int .i64 x.q) ez110
    have ez112 := heap_setCell_same _ (w.heap.size) 2 _ _ (.int .i64 x.n) ez111
    have ez113 := heap_setCell_same _ (w.heap.size) 3 _ _ (.string x.k) ez112
    have ez114 := heap_setCell_same _ (w.heap.size) 4 _ _ (.string t) ez113
    rw [← hz11] at ez114
    simp only [List.setIfInBounds_toArray, List.set_cons_zero, List.set_cons_succ] at ez114
    have gz11 : z10.grownBy z11 (some (w.heap.size)) := by rw [hz11]; exact ((((grown_set _ ⟨w.heap.size, 0, none⟩ _).trans (grown_set _ ⟨w.heap.size, 1, none⟩ _)).trans (grown_set _ ⟨w.heap.size, 2, none⟩ _)).trans (grown_set _ ⟨w.heap.size, 3, none⟩ _)).trans (grown_set _ ⟨w.heap.size, 4, none⟩ _)
    clear hz11
    replace KX := tkg gz11 LX KX (by first | (simp; done) | (simp; have := LTB.out; omega))
    replace LX := tlz LX gz11.size
    replace CU := Lib.hid (CU.out.kept (below_other gz11 (by have := CU.out.le; have := LTB.out; omega) (by have := CU.out.le; have := CU.out.lt; omega)) (gz11.block _ CU.out.lt (by simp; have := LTB.out; omega)))
    replace GB := Lib.hid (grown_far GB.out gz11 (by first | omega | (have := LTB.out; omega)))
    replace KR := Lib.hid ez114
    replace LR := tlz LR gz11.size
    clear ez110 ez111 ez112 ez113 gz11
    obtain ⟨j0, q1, q2, q3, q4⟩ := info_parts infoOpD
    refine bodyPost_ret (results_cell_row (P := Tryd.prog) rfl _ _ (w.heap.size) _ _ (0, 0) _ rfl KR.out Tryd.underlying29 rfl (by rw [q1]; simp [q3])) rfl ⟨⟨x.c, x.q, x.n, x.k, t⟩, ?_, rfl, CU.out, GB.out⟩
    exact ⟨hxc, hxk, ht, hxq, hxn⟩
  have g3 : (n == 3) = false := by simpa using h3
  clear h3
  by_cases h4 : n = 4
  · subst h4
    have oz12 := tcr KX 3
    have ozz12 := tfr KX 3
    obtain ⟨z12, hz12⟩ : ∃ Y, Y = w3.setCell ⟨w1.heap.size, 3, none⟩ (.string ⟨#[]⟩) := ⟨_, rfl⟩
    have ez12 := heap_setCell_same _ (w1.heap.size) 3 _ _ (.string ⟨#[]⟩) KX.out
    rw [← hz12] at ez12
    simp only [List.setIfInBounds_toArray, List.set_cons_zero, List.set_cons_succ] at ez12
    have gz12 : w3.grownBy z12 (some (w1.heap.size)) := by rw [hz12]; exact grown_set _ ⟨w1.heap.size, 3, none⟩ _
    replace KR := tkg gz12 LR KR (by first | (simp; done) | (simp; have := LTB.out; omega))
    replace LR := tlz LR gz12.size
    replace CU := Lib.hid (CU.out.kept (below_other gz12 (by have := CU.out.le; have := LTB.out; omega) (by have := CU.out.le; have := CU.out.lt; omega)) (gz12.block _ CU.out.lt (by simp; have := LTB.out; omega)))
    replace GB := Lib.hid (grown_far GB.out gz12 (by first | omega | (have := LTB.out; omega)))
    replace KX := Lib.hid ez12
    replace LX := tlz LX gz12.size
    clear gz12
    have fX0 := tcr KX 0
    have fX1 := tcr KX 1
    have fX2 := tcr KX 2
    have fX3 := tcr KX 3
    have fX4 := tcr KX 4
    have fR0 := tcr KR 0
    have qR0 := tfr KR 0
    have fR1 := tcr KR 1
    have qR1 := tfr KR 1
    have fR2 := tcr KR 2
    have qR2 := tfr KR 2
    have fR3 := tcr KR 3
    have qR3 := tfr KR 3
    have fR4 := tcr KR 4
    have qR4 := tfr KR 4
    rw [hz12] at fX0 fX1 fX2 fX3 fX4 fR0 qR0 fR1 qR1 fR2 qR2 fR3 qR3 fR4 qR4
    go_wp2_with fail
    rw [← hz12]
    clear fX0 fX1 fX2 fX3 fX4 fR0 qR0 fR1 qR1 fR2 qR2 fR3 qR3 fR4 qR4 oz12 ozz12 hz12
    obtain ⟨z13, hz13⟩ : ∃ Y, Y = (((((z12).setCell ⟨w.heap.size, 0, none⟩ (.string x.c)).setCell ⟨w.heap.size, 1, none⟩ (.int .i64 x.q)).setCell ⟨w.heap.size, 2, none⟩ (.int .i64 x.n)).setCell ⟨w.heap.size, 3, none⟩ (.string ⟨#[]⟩)).setCell ⟨w.heap.size, 4, none⟩ (.string x.v) := ⟨_, rfl⟩
    rw [← hz13]
    have ez130 := heap_setCell_same _ (w.heap.size) 0 _ _ (.string x.c) KR.out
    have ez131 := heap_setCell_same _ (w.heap.size) 1 _ _ (.int .i64 x.q) ez130
    have ez132 := heap_setCell_same _ (w.heap.size) 2 _ _ (.int .i64 x.n) ez131
    have ez133 := heap_setCell_same _ (w.heap.size) 3 _ _ (.string ⟨#[]⟩) ez132
    have ez134 := heap_setCell_same _ (w.heap.size) 4 _ _ (.string x.v) ez133
    rw [← hz13] at ez134
    simp only [List.setIfInBounds_toArray, List.set_cons_zero, List.set_cons_succ] at ez134
    have gz13 : z12.grownBy z13 (some (w.heap.size)) := by rw [hz13]; exact ((((grown_set _ ⟨w.heap.size, 0, none⟩ _).trans (grown_set _ ⟨w.heap.size, 1, none⟩ _)).trans (grown_set _ ⟨w.heap.size, 2, none⟩ _)).trans (grown_set _ ⟨w.heap.size, 3, none⟩ _)).trans (grown_set _ ⟨w.heap.size, 4, none⟩ _)
    clear hz13
    replace KX := tkg gz13 LX KX (by first | (simp; done) | (simp; have := LTB.out; omega))
    replace LX := tlz LX gz13.size
    replace CU := Lib.hid (CU.out.kept (below_other gz13 (by have := CU.out.le; have := LTB.out; omega) (by have := CU.out.le; have := CU.out.lt; omega)) (gz13.block _ CU.out.lt (by simp; have := LTB.out; omega)))
    replace GB := Lib.hid (grown_far GB.out gz13 (by first | omega | (have := LTB.out; omega)))
    replace KR := Lib.hid ez134
    replace LR := tlz LR gz13.size
    clear ez130 ez131 ez132 ez133 gz13
    obtain ⟨j0, q1, q2, q3, q4⟩ := info_parts infoOpD
    refine bodyPost_ret (results_cell_row (P := Tryd.prog) rfl _ _ (w.heap.size) _ _ (0, 0) _ rfl KR.out Tryd.underlying29 rfl (by rw [q1]; simp [q3])) rfl ⟨⟨x.c, x.q, x.n, ⟨#[]⟩, x.v⟩, ?_, rfl, CU.out, GB.out⟩
    exact ⟨hxc, by show (⟨#[]⟩ : ByteArray).size ≤ 64; decide, hxv, hxq, hxn⟩
  have g4 : (n == 4) = false := by simpa using h4
  clear h4
  have fX0 := tcr KX 0
  have fX1 := tcr KX 1
  have fX2 := tcr KX 2
  have fX3 := tcr KX 3
  have fX4 := tcr KX 4
  have fR0 := tcr KR 0
  have qR0 := tfr KR 0
  have fR1 := tcr KR 1
  have qR1 := tfr KR 1
  have fR2 := tcr KR 2
  have qR2 := tfr KR 2
  have fR3 := tcr KR 3
  have qR3 := tfr KR 3
  have fR4 := tcr KR 4
  have qR4 := tfr KR 4
  go_wp2_with fail
  clear fX0 fX1 fX2 fX3 fX4 fR0 qR0 fR1 qR1 fR2 qR2 fR3 qR3 fR4 qR4
  obtain ⟨z14, hz14⟩ : ∃ Y, Y = (((((w3).setCell ⟨w.heap.size, 0, none⟩ (.string x.c)).setCell ⟨w.heap.size, 1, none⟩ (.int .i64 x.q)).setCell ⟨w.heap.size, 2, none⟩ (.int .i64 x.n)).setCell ⟨w.heap.size, 3, none⟩ (.string x.k)).setCell ⟨w.heap.size, 4, none⟩ (.string x.v) := ⟨_, rfl⟩
  rw [← hz14]
  have ez140 := heap_setCell_same _ (w.heap.size) 0 _ _ (.string x.c) KR.out
  have ez141 := heap_setCell_same _ (w.heap.size) 1 _ _ (.int .i64 x.q) ez140
  have ez142 := heap_setCell_same _ (w.heap.size) 2 _ _ (.int .i64 x.n) ez141
  have ez143 := heap_setCell_same _ (w.heap.size) 3 _ _ (.string x.k) ez142
  have ez144 := heap_setCell_same _ (w.heap.size) 4 _ _ (.string x.v) ez143
  rw [← hz14] at ez144
  simp only [List.setIfInBounds_toArray, List.set_cons_zero, List.set_cons_succ] at ez144
  have gz14 : w3.grownBy z14 (some (w.heap.size)) := by rw [hz14]; exact ((((grown_set _ ⟨w.heap.size, 0, none⟩ _).trans (grown_set _ ⟨w.heap.size, 1, none⟩ _)).trans (grown_set _ ⟨w.heap.size, 2, none⟩ _)).trans (grown_set _ ⟨w.heap.size, 3, none⟩ _)).trans (grown_set _ ⟨w.heap.size, 4, none⟩ _)
  clear hz14
  replace KX := tkg gz14 LX KX (by first | (simp; done) | (simp; have := LTB.out; omega))
  replace LX := tlz LX gz14.size
  replace CU := Lib.hid (CU.out.kept (below_other gz14 (by have := CU.out.le; have := LTB.out; omega) (by have := CU.out.le; have := CU.out.lt; omega)) (gz14.block _ CU.out.lt (by simp; have := LTB.out; omega)))
  replace GB := Lib.hid (grown_far GB.out gz14 (by first | omega | (have := LTB.out; omega)))
  replace KR := Lib.hid ez144
  replace LR := tlz LR gz14.size
  clear ez140 ez141 ez142 ez143 gz14
  obtain ⟨j0, q1, q2, q3, q4⟩ := info_parts infoOpD
  refine bodyPost_ret (results_cell_row (P := Tryd.prog) rfl _ _ (w.heap.size) _ _ (0, 0) _ rfl KR.out Tryd.underlying29 rfl (by rw [q1]; simp [q3])) rfl ⟨x, ?_, rfl, CU.out, GB.out⟩
  exact ⟨hxc, hxk, hxv, hxq, hxn⟩
end Go.Proofs.YtebmaplflpfjbaaDoor
