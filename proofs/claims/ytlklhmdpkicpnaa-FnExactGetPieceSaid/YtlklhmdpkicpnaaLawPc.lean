/- The exact laws of PieceOk, PutPiece, GetPiece, Link and Cut: the program answers as its model. Condition: none beyond what the arguments may be. -/
import Derived.Test.YtlklhmdpkicpnaaBaseA
import Derived.Test.YtlklhmdpkicpnaaImplGet
import Derived.Test.YtlklhmdpkicpnaaImplCut
import Derived.Test.YtlklhmdpkicpnaaTexts
namespace Go.Proofs.Ytlklhmdpkicpnaa
open Go.RowKit
set_option linter.unusedVariables false
set_option linter.unusedSimpArgs false

theorem sz_piece (p : Pc) (w : World) (hb : p.b.size ≤ maxLen) :
    Calls Try.prog 44 #[pcV p, .int .i64 1048576] w fun e w' => ∃ r : Int, e = .returned (.int .i64 r) ∧ (0 ≤ r → p.b.size ≤ 1048576) ∧ Below w.heap.size w w' := by
  unfold maxLen at hb
  obtain ⟨no, of, b, ch⟩ := p
  dsimp only at hb ⊢
  unfold pcV
  dsimp only
  by_cases h1 : 1048576 - (b.size : Int) < 0
  · go_enter Try.func44, Try.ntmps44
    go_wp2
    go_ret
    exact ⟨-1, ret_int rfl, fun h => by omega, (Below.refl _ _).alloc (Nat.le_refl _) _⟩
  · go_enter Try.func44, Try.ntmps44
    go_wp2
    go_ret
    exact ⟨1048576 - b.size, ret_int rfl, fun h => by omega, (Below.refl _ _).alloc (Nat.le_refl _) _⟩
theorem to_piece (p : Pc) (w : World) : Calls Try.prog 45 #[pcV p] w fun e w' => e = .returned (pcV p) ∧ Below w.heap.size w w' := by
  unfold pcV
  go_enter Try.func45, Try.ntmps45
  go_wp2
  refine bodyPost_ret (v := .agg #[.int .i64 p.no, .int .i64 p.of, .string p.b, .int .i64 p.ch]) (by simp [results, Try.results45, go_sem]) rfl ⟨rfl, ?_⟩
  exact (((Below.refl _ _).alloc (Nat.le_refl _) _).alloc (by simp) _).alloc (by simp; omega) _
theorem eq_piece (p : Pc) (w : World) : Calls Try.prog 46 #[pcV p, pcV p] w fun e w' => e = .returned (.bool true) ∧ Below w.heap.size w w' := by
  unfold pcV
  go_enter Try.func46, Try.ntmps46
  go_wp2
  go_ret
  exact ⟨rfl, ((Below.refl _ _).alloc (Nat.le_refl _) _).alloc (by simp) _⟩
set_option maxRecDepth 100000 in
set_option maxHeartbeats 4000000 in
theorem law_pieceOk (p : Pc) (w : World) (hf : FitPc p) : Calls Try.prog 10 #[pcV p] w fun e w' => e = .returned (.bool true) ∧ Below w.heap.size w w' := by
  have c0 := fun w => sz_piece p w hf.2.2.1
  have c1 := fun w => to_piece p w
  have c2 := fun w => spec_pieceOk p w hf.2.2.1
  have c3 := fun w => impl_pieceOk p w hf.2.2.1
  unfold pcV at *
  obtain ⟨q, hq⟩ : ∃ q, q = pcOk p := ⟨_, rfl⟩
  rw [← hq] at c2 c3
  have hqq : (q != q) = false := by simp
  obtain ⟨no, of, b, ch⟩ := p
  dsimp only at c0 c1 c2 c3 ⊢
  clear hf hq
  obtain ⟨W, hW⟩ : ∃ W, W = w.alloc (.cells #[.int .i64 no, .int .i64 of, .string b, .int .i64 ch] 54) := ⟨_, rfl⟩
  have bW : Below w.heap.size w W := by rw [hW]; exact (Below.refl _ _).alloc (Nat.le_refl _) _
  have KP : Hid (W.heap[w.heap.size]? = some (.cells #[.int .i64 no, .int .i64 of, .string b, .int .i64 ch] 54 (0, 0))) := Lib.hid (by rw [hW]; exact heap_new _ _)
  have LP : Hid (w.heap.size < W.heap.size) := Lib.hid (by rw [hW]; simp)
  have BB := Lib.hid bW
  clear bW
  go_enter Try.func10, Try.ntmps10
  have hc := c0 W
  rw [hW] at hc
  go_wp2_with (go_at_call 44; refine hc.mono ?_; rintro e w1 ⟨r, rfl, hr, hb⟩; refine Hid.out ?_)
  refine Lib.hid ?_
  rw [← hW] at hb
  clear hc hW c0
  replace KP := tkb hb LP KP
  replace LP := tlz LP hb.size
  replace BB := tbt BB hb
  clear hb
  by_cases hneg : r < 0
  · clear hr
    go_wp2_with fail
    go_ret
    exact ⟨rfl, BB.out⟩
  have fP0 := tcr KP 0
  have fP1 := tcr KP 1
  have fP2 := tcr KP 2
  have fP3 := tcr KP 3
  go_wp2_with (go_at_call 45; refine (c1 _).mono ?_; rintro e w2 ⟨rfl, hb⟩; refine Hid.out ?_)
  refine Lib.hid ?_
  replace KP := tkb hb LP KP
  replace LP := tlz LP hb.size
  replace BB := tbt BB hb
  clear hb fP0 fP1 fP2 fP3
  go_wp2_with (go_at_call 25; refine (c2 _).mono ?_; rintro e w3 ⟨rfl, hb⟩; refine Hid.out ?_)
  refine Lib.hid ?_
  replace KP := tkb hb LP KP
  replace LP := tlz LP hb.size
  replace BB := tbt BB hb
  clear hb
  have fP0 := tcr KP 0
  have fP1 := tcr KP 1
  have fP2 := tcr KP 2
  have fP3 := tcr KP 3
  go_wp2_with (go_at_call 45; refine (c1 _).mono ?_; rintro e w4 ⟨rfl, hb⟩; refine Hid.out ?_)
  refine Lib.hid ?_
  replace BB := tbt BB hb
  clear hb fP0 fP1 fP2 fP3
  go_wp2_with (go_at_call 24; refine (c3 _).mono ?_; rintro e w5 ⟨rfl, hb⟩; refine Hid.out ?_)
  refine Lib.hid ?_
  replace BB := tbt BB hb
  clear hb
  go_wp2_with fail
  go_ret
  exact ⟨rfl, BB.out⟩
set_option maxRecDepth 100000 in
set_option maxHeartbeats 4000000 in
theorem law_putPiece (p : Pc) (w : World) (hf : FitPc p) : Calls Try.prog 11 #[pcV p] w fun e w' => e = .returned (.bool true) ∧ Below w.heap.size w w' := by
  have c0 := fun w => sz_piece p w hf.2.2.1
  have c1 := fun w => to_piece p w
  have c2 := fun w => spec_putPiece p w hf
  have c3 := fun w => impl_putPiece p w hf
  unfold pcV at *
  obtain ⟨q, hq⟩ : ∃ q, q = pcB p := ⟨_, rfl⟩
  rw [← hq] at c2 c3
  obtain ⟨no, of, b, ch⟩ := p
  dsimp only at c0 c1 c2 c3 ⊢
  clear hf hq
  obtain ⟨W, hW⟩ : ∃ W, W = w.alloc (.cells #[.int .i64 no, .int .i64 of, .string b, .int .i64 ch] 54) := ⟨_, rfl⟩
  have bW : Below w.heap.size w W := by rw [hW]; exact (Below.refl _ _).alloc (Nat.le_refl _) _
  have KP : Hid (W.heap[w.heap.size]? = some (.cells #[.int .i64 no, .int .i64 of, .string b, .int .i64 ch] 54 (0, 0))) := Lib.hid (by rw [hW]; exact heap_new _ _)
  have LP : Hid (w.heap.size < W.heap.size) := Lib.hid (by rw [hW]; simp)
  have BB := Lib.hid bW
  clear bW
  go_enter Try.func11, Try.ntmps11
  have hc := c0 W
  rw [hW] at hc
  go_wp2_with (go_at_call 44; refine hc.mono ?_; rintro e w1 ⟨r, rfl, hr, hb⟩; refine Hid.out ?_)
  refine Lib.hid ?_
  rw [← hW] at hb
  clear hc hW c0
  replace KP := tkb hb LP KP
  replace LP := tlz LP hb.size
  replace BB := tbt BB hb
  clear hb
  by_cases hneg : r < 0
  · clear hr
    go_wp2_with fail
    go_ret
    exact ⟨rfl, BB.out⟩
  have fP0 := tcr KP 0
  have fP1 := tcr KP 1
  have fP2 := tcr KP 2
  have fP3 := tcr KP 3
  go_wp2_with (go_at_call 45; refine (c1 _).mono ?_; rintro e w2 ⟨rfl, hb⟩; refine Hid.out ?_)
  refine Lib.hid ?_
  replace KP := tkb hb LP KP
  replace LP := tlz LP hb.size
  replace BB := tbt BB hb
  clear hb fP0 fP1 fP2 fP3
  go_wp2_with (go_at_call 23; refine (c2 _).mono ?_; rintro e w3 ⟨rfl, hb⟩; refine Hid.out ?_)
  refine Lib.hid ?_
  replace KP := tkb hb LP KP
  replace LP := tlz LP hb.size
  replace BB := tbt BB hb
  clear hb
  have fP0 := tcr KP 0
  have fP1 := tcr KP 1
  have fP2 := tcr KP 2
  have fP3 := tcr KP 3
  go_wp2_with (go_at_call 45; refine (c1 _).mono ?_; rintro e w4 ⟨rfl, hb⟩; refine Hid.out ?_)
  refine Lib.hid ?_
  replace BB := tbt BB hb
  clear hb fP0 fP1 fP2 fP3
  go_wp2_with (go_at_call 19; refine (c3 _).mono ?_; rintro e w5 ⟨rfl, hb⟩; refine Hid.out ?_)
  refine Lib.hid ?_
  replace BB := tbt BB hb
  clear hb
  go_wp2_with fail
  go_ret
  exact ⟨rfl, BB.out⟩
set_option maxRecDepth 100000 in
set_option maxHeartbeats 4000000 in
theorem law_link (n : Int) (s : ByteArray) (w : World) (hn : -9223372036854775808 ≤ n ∧ n ≤ 9223372036854775807) : Calls Try.prog 13 #[.int .i64 n, .string s] w fun e w' => e = .returned (.bool true) ∧ Below w.heap.size w w' := by
  by_cases hbig : 1048576 < s.size
  · have hd : decide (1048576 < (s.size : Int)) = true := by simp; omega
    go_enter Try.func13, Try.ntmps13
    go_wp2_with fail
    go_ret
    exact ⟨rfl, Below.refl _ _⟩
  have hd : decide (1048576 < (s.size : Int)) = false := by simp; omega
  have hbig' : ¬ 1048576 < (s.size : Int) := by omega
  have c1 := fun w => spec_link n s w hn (by omega)
  have c2 := fun w => impl_link n s w hn (by omega)
  obtain ⟨q, hq⟩ : ∃ q, q = linkN n s := ⟨_, rfl⟩
  rw [← hq] at c1 c2
  clear hq
  go_enter Try.func13, Try.ntmps13
  go_wp2_with (first | (go_at_call 33; refine (c1 _).mono ?_; rintro e w1 ⟨rfl, hb1⟩; replace hb1 := Lib.hid hb1) | (go_at_call 31; refine (c2 _).mono ?_; rintro e w2 ⟨rfl, hb2⟩; replace hb2 := Lib.hid hb2))
  go_ret
  exact ⟨rfl, hb1.out.trans (hb2.out.mono hb1.out.size)⟩
set_option maxRecDepth 100000 in
set_option maxHeartbeats 4000000 in
theorem law_getPiece (t : ByteArray) (w : World) : Calls Try.prog 12 #[.string t] w fun e w' => e = .returned (.bool true) ∧ Below w.heap.size w w' := by
  by_cases hbig : 1048576 < t.size
  · have hd : decide (1048576 < (t.size : Int)) = true := by simp; omega
    go_enter Try.func12, Try.ntmps12
    go_wp2_with fail
    go_ret
    exact ⟨rfl, Below.refl _ _⟩
  have hd : decide (1048576 < (t.size : Int)) = false := by simp; omega
  have hbig' : ¬ 1048576 < (t.size : Int) := by omega
  have c1 := fun w => spec_getPiece t w (by omega)
  have c2 := fun w => impl_getPiece t w (by omega)
  obtain ⟨p, hp⟩ : ∃ q, q = (getP t).1 := ⟨_, rfl⟩
  obtain ⟨ok, hok⟩ : ∃ q, q = (getP t).2 := ⟨_, rfl⟩
  rw [← hp, ← hok] at c1 c2
  have c3 := fun w => eq_piece p w
  clear hp hok
  obtain ⟨no, of, b, ch⟩ := p
  unfold pcV at c1 c2 c3
  dsimp only at c1 c2 c3
  go_enter Try.func12, Try.ntmps12
  go_wp2_with (go_at_call 22; refine (c1 _).mono ?_; rintro e w1 ⟨rfl, hb⟩; refine Hid.out ?_)
  refine Lib.hid ?_
  have BB := Lib.hid hb
  clear hb c1
  obtain ⟨X, hX⟩ : ∃ X, X = w1.alloc (.cells #[.int .i64 no, .int .i64 of, .string b, .int .i64 ch] 25) := ⟨_, rfl⟩
  have bX : Below w1.heap.size w1 X := by rw [hX]; exact (Below.refl _ _).alloc (Nat.le_refl _) _
  have KX : Hid (X.heap[w1.heap.size]? = some (.cells #[.int .i64 no, .int .i64 of, .string b, .int .i64 ch] 25 (0, 0))) := Lib.hid (by rw [hX]; exact heap_new _ _)
  have LX : Hid (w1.heap.size < X.heap.size) := Lib.hid (by rw [hX]; simp)
  replace BB := tbt BB bX
  have hc := c2 X
  rw [hX] at hc
  clear bX c2
  go_wp2_with (go_at_call 21; refine hc.mono ?_; rintro e w2 ⟨rfl, hb⟩; refine Hid.out ?_)
  refine Lib.hid ?_
  rw [← hX] at hb
  clear hc hX
  replace KX := tkb hb LX KX
  replace LX := tlz LX hb.size
  replace BB := tbt BB hb
  clear hb
  obtain ⟨Y, hY⟩ : ∃ X, X = w2.alloc (.cells #[.int .i64 no, .int .i64 of, .string b, .int .i64 ch] 25) := ⟨_, rfl⟩
  have bY : Below w2.heap.size w2 Y := by rw [hY]; exact (Below.refl _ _).alloc (Nat.le_refl _) _
  have KY : Hid (Y.heap[w2.heap.size]? = some (.cells #[.int .i64 no, .int .i64 of, .string b, .int .i64 ch] 25 (0, 0))) := Lib.hid (by rw [hY]; exact heap_new _ _)
  replace KX := tkb bY LX KX
  replace BB := tbt BB bY
  have hc := c3 Y
  have fX0 := tcr KX 0
  have fX1 := tcr KX 1
  have fX2 := tcr KX 2
  have fX3 := tcr KX 3
  have fY0 := tcr KY 0
  have fY1 := tcr KY 1
  have fY2 := tcr KY 2
  have fY3 := tcr KY 3
  rw [hY] at hc fX0 fX1 fX2 fX3 fY0 fY1 fY2 fY3
  have hqq : (ok != ok) = false := by simp
  clear bY c3
  go_wp2_with (go_at_call 46; refine hc.mono ?_; rintro e w3 ⟨rfl, hb⟩; refine Hid.out ?_)
  refine Lib.hid ?_
  rw [← hY] at hb
  replace BB := tbt BB hb
  clear hb hc hY fX0 fX1 fX2 fX3 fY0 fY1 fY2 fY3
  go_wp2_with fail
  go_ret
  exact ⟨rfl, BB.out⟩
end Go.Proofs.Ytlklhmdpkicpnaa
