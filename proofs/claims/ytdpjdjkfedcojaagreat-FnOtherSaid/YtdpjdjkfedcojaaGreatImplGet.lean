/- What the program's GetPiece answers. Condition: texts of at most 2^40 bytes. -/
import Derived.Test.YtdpjdjkfedcojaaGreatBaseA
import Derived.Test.YtdpjdjkfedcojaaGreatImplPut
import Derived.Test.YtdpjdjkfedcojaaGreatRdA
import Derived.Test.YtdpjdjkfedcojaaGreatShelf
namespace Go.Proofs.YtdpjdjkfedcojaaGreat
open Go.RowKit
set_option linter.unusedVariables false
set_option linter.unusedSimpArgs false

set_option maxRecDepth 100000 in
set_option maxHeartbeats 8000000 in
theorem impl_getPiece (t : ByteArray) (w : World) (ht : t.size ≤ 1099511627776) :
    Calls Tryz.prog 37 #[.string t] w fun e w' => e = .returned (.tuple #[pcV (getP t).1, .bool (getP t).2]) ∧ Below w.heap.size w w' := by
  obtain ⟨u, hu⟩ : ∃ u, u = cutP t := ⟨_, rfl⟩
  have hus : u.size ≤ 1099511627776 := by have := cutP_size t; rw [hu]; omega
  have ktrim : ∀ w, Calls Tryz.prog 72 #[.string t, .string ⟨#[80]⟩] w fun e w' => e = .returned (.string u) ∧ w' = w := fun w => by
    rw [hu]; exact Tryz.strings_TrimPrefix t ⟨#[80]⟩ w
  have HU := Lib.hid hu
  clear hu
  obtain ⟨W, hW⟩ : ∃ W, W = w.alloc (.cells #[.int .i64 0, .int .i64 0, .string ⟨#[]⟩, .int .i64 0] 67) := ⟨_, rfl⟩
  have bW : Below w.heap.size w W := by rw [hW]; exact (Below.refl _ _).alloc (Nat.le_refl _) _
  have KR : Hid (W.heap[w.heap.size]? = some (.cells #[.int .i64 0, .int .i64 0, .string ⟨#[]⟩, .int .i64 0] 67 (0, 0))) := Lib.hid (by rw [hW]; exact heap_new _ _)
  have LR : Hid (w.heap.size < W.heap.size) := Lib.hid (by rw [hW]; simp)
  have hWs : W.heap.size = w.heap.size + 1 := by rw [hW]; simp
  obtain ⟨X, hX⟩ : ∃ A, A = W.alloc (.cells #[.string u] 102) := ⟨_, rfl⟩
  have b1 : Below W.heap.size W X := by rw [hX]; exact (Below.refl _ _).alloc (Nat.le_refl _) _
  have A0 : At1 X W.heap.size u := by rw [hX]; exact heap_new _ _
  have s1 : X.heap.size = W.heap.size + 1 := by rw [hX]; simp
  have BB := Lib.hid bW
  replace KR := tkb b1 LR KR
  replace LR := tlz LR b1.size
  replace BB := tbt BB b1
  have hc := rd_num u 2 W.heap.size X A0 (.inl rfl) hus
  obtain ⟨u1, hu1⟩ : ∃ z, z = restN u 2 := ⟨_, rfl⟩
  obtain ⟨u2, hu2⟩ : ∃ z, z = restN u1 2 := ⟨_, rfl⟩
  obtain ⟨u3, hu3⟩ : ∃ z, z = restT u2 := ⟨_, rfl⟩
  have hus1 : u1.size ≤ 1099511627776 := by have := restN_size u 2; rw [hu1]; omega
  have hus2 : u2.size ≤ 1099511627776 := by have := restN_size u1 2; rw [hu2]; omega
  have hus3 : u3.size ≤ 1099511627776 := by have := restT_size u2; rw [hu3]; omega
  rw [← hu1] at hc
  obtain ⟨no, hno⟩ : ∃ z, z = getN u 0 2 := ⟨_, rfl⟩
  obtain ⟨of, hof⟩ : ∃ z, z = getN u1 0 2 := ⟨_, rfl⟩
  obtain ⟨pb, hpb⟩ : ∃ z, z = (getTextB u2 0).1 := ⟨_, rfl⟩
  obtain ⟨ch, hch⟩ : ∃ z, z = getN u3 0 4 := ⟨_, rfl⟩
  have HP : Hid (rdP (cutP t) = ⟨no, of, pb, ch⟩) := Lib.hid (by rw [← HU.out]; unfold rdP; rw [← hu1, ← hu2, ← hu3, ← hno, ← hof, ← hpb, ← hch])
  have hfit : FitPc ⟨no, of, pb, ch⟩ := by
    have h := rdP_fit u hus
    rw [HU.out, HP.out] at h
    obtain ⟨⟨h1, h2⟩, ⟨h3, h4⟩, h5, h6, h7⟩ := h
    rw [← HU.out] at h5
    dsimp only at h1 h2 h3 h4 h5 h6 h7
    exact ⟨⟨by show _ ≤ no; omega, by show no ≤ _; omega⟩, ⟨by show _ ≤ of; omega, by show of ≤ _; omega⟩, by show pb.size ≤ _; unfold maxLen; omega, ⟨by show _ ≤ ch; omega, by show ch ≤ _; omega⟩⟩
  have kok := fun w => impl_pieceOk ⟨no, of, pb, ch⟩ w hfit.2.2.1
  have kput := fun w => impl_putPiece ⟨no, of, pb, ch⟩ w hfit
  unfold pcV at kok kput
  dsimp only at kok kput
  rw [show ((2 : Nat) : Int) = 2 from rfl, ← hno] at hc
  have c2 := fun w h => rd_num u1 2 W.heap.size w h (.inl rfl) hus1
  rw [show ((2 : Nat) : Int) = 2 from rfl, ← hof, ← hu2] at c2
  have c3 := fun w h => rd_text u2 W.heap.size w h hus2
  rw [← hpb, ← hu3] at c3
  have c4 := fun w h => rd_num u3 4 W.heap.size w h (.inr rfl) hus3
  rw [show ((4 : Nat) : Int) = 4 from rfl, ← hch] at c4
  have HWs := Lib.hid hWs
  have HXs := Lib.hid s1
  have GX : Hid (X.grownBy X (some W.heap.size)) := Lib.hid ⟨rfl, rfl, rfl, Nat.le_refl _, fun _ _ _ => rfl⟩
  clear A0 b1 bW hfit hno hof hpb hch hu1 hu2 hu3 hWs s1 hus hus1 hus2 hus3
  go_enter Tryz.func37, Tryz.ntmps37
  go_wp2_with (go_at_call 72; refine (ktrim _).mono ?_; rintro e w0 ⟨rfl, rfl⟩; refine Hid.out ?_)
  refine Lib.hid ?_
  rw [← hW]
  clear hW ktrim
  rw [hX] at hc
  go_wp2_with (go_at_call 73; refine hc.mono ?_; rintro e w1 ⟨rfl, a1, g1⟩; refine Hid.out ?_)
  refine Lib.hid ?_
  rw [← hX] at g1
  clear hc hX
  have hw1 := HWs.out
  replace KR := tkg g1 LR KR (by simp; omega)
  replace LR := tlz LR g1.size
  replace BB := Lib.hid (BB.out.grown g1 BB.out.size (fun j e => by cases e; omega))
  clear g1 hw1
  have hc := c2 w1 a1
  clear a1 c2
  go_wp2_with (go_at_call 73; refine hc.mono ?_; rintro e w2 ⟨rfl, a2, g1⟩; refine Hid.out ?_)
  refine Lib.hid ?_
  clear hc
  have hw1 := HWs.out
  replace KR := tkg g1 LR KR (by simp; omega)
  replace LR := tlz LR g1.size
  replace BB := Lib.hid (BB.out.grown g1 BB.out.size (fun j e => by cases e; omega))
  clear g1 hw1
  have hc := c3 w2 a2
  clear a2 c3
  go_wp2_with (go_at_call 74; refine hc.mono ?_; rintro e w3 ⟨rfl, a3, g1⟩; refine Hid.out ?_)
  refine Lib.hid ?_
  clear hc
  have hw1 := HWs.out
  replace KR := tkg g1 LR KR (by simp; omega)
  replace LR := tlz LR g1.size
  replace BB := Lib.hid (BB.out.grown g1 BB.out.size (fun j e => by cases e; omega))
  clear g1 hw1
  have hc := c4 w3 a3
  clear a3 c4
  go_wp2_with (go_at_call 73; refine hc.mono ?_; rintro e w4 ⟨rfl, -, g1⟩; refine Hid.out ?_)
  refine Lib.hid ?_
  clear hc
  have hw1 := HWs.out
  replace KR := tkg g1 LR KR (by simp; omega)
  replace LR := tlz LR g1.size
  replace BB := Lib.hid (BB.out.grown g1 BB.out.size (fun j e => by cases e; omega))
  clear g1 hw1
  obtain ⟨Y, hY⟩ : ∃ A, A = w4.alloc (.cells #[.int .i64 no, .int .i64 of, .string pb, .int .i64 ch] 67) := ⟨_, rfl⟩
  have b2 : Below w4.heap.size w4 Y := by rw [hY]; exact (Below.refl _ _).alloc (Nat.le_refl _) _
  have KX : Hid (Y.heap[w4.heap.size]? = some (.cells #[.int .i64 no, .int .i64 of, .string pb, .int .i64 ch] 67 (0, 0))) := Lib.hid (by rw [hY]; exact heap_new _ _)
  have LX : Hid (w4.heap.size < Y.heap.size) := Lib.hid (by rw [hY]; simp)
  replace KR := tkb b2 LR KR
  replace LR := tlz LR b2.size
  replace BB := tbt BB b2
  clear b2
  have hc := kok Y
  rw [hY] at hc
  clear kok
  cases hok : pcOk ⟨no, of, pb, ch⟩
  · rw [hok] at hc
    have HRES : Hid (getP t = (pc0, false)) := Lib.hid (pcR_no (.inl (by rw [HP.out]; exact hok)))
    clear hok
    go_wp2_with (go_at_call 75; refine hc.mono ?_; rintro e w5 ⟨rfl, hb⟩; refine Hid.out ?_)
    refine Lib.hid ?_
    rw [← hY] at hb
    clear hc hY
    replace KR := tkb hb LR KR
    replace BB := tbt BB hb
    clear hb
    have fR0 := tcr KR 0
    have fR1 := tcr KR 1
    have fR2 := tcr KR 2
    have fR3 := tcr KR 3
    have zR0 := tfr KR 0
    have zR1 := tfr KR 1
    have zR2 := tfr KR 2
    have zR3 := tfr KR 3
    go_wp2_with fail
    obtain ⟨j0, q1, q2, q3, q4⟩ := info_parts infoPc
    refine bodyPost_ret (results_cell_row2 (P := Tryz.prog) rfl _ _ w.heap.size _ _ (0, 0) _ _ rfl rfl (store4 KR.out) Tryz.underlying67 rfl (by rw [q1]; simp [q3])) rfl ⟨by rw [HRES.out]; rfl, below4 BB.out (Nat.le_refl _)⟩
  · rw [hok] at hc
    have Hok := Lib.hid hok
    clear hok
    go_wp2_with (go_at_call 75; refine hc.mono ?_; rintro e w5 ⟨rfl, hb⟩; refine Hid.out ?_)
    refine Lib.hid ?_
    rw [← hY] at hb
    clear hc hY
    replace KR := tkb hb LR KR
    replace LR := tlz LR hb.size
    replace KX := tkb hb LX KX
    replace LX := tlz LX hb.size
    replace BB := tbt BB hb
    clear hb
    have hc := kput w5
    clear kput
    have fX0 := tcr KX 0
    have fX1 := tcr KX 1
    have fX2 := tcr KX 2
    have fX3 := tcr KX 3
    go_wp2_with (go_at_call 59; refine hc.mono ?_; rintro e w6 ⟨rfl, hb⟩; refine Hid.out ?_)
    refine Lib.hid ?_
    clear hc fX0 fX1 fX2 fX3
    replace KR := tkb hb LR KR
    replace KX := tkb hb LX KX
    replace BB := tbt BB hb
    clear hb LR LX
    obtain ⟨E, hE⟩ : ∃ z, z = pcB ⟨no, of, pb, ch⟩ := ⟨_, rfl⟩
    rw [← hE]
    by_cases hEt : E = t
    · have hqt := str_eq hEt
      have HRES : Hid (getP t = (⟨no, of, pb, ch⟩, true)) := Lib.hid (by rw [pcR_yes (by rw [HP.out]; exact Hok.out) (by rw [HP.out, ← hE]; exact hEt), HP.out])
      clear hEt hE
      have fX0 := tcr KX 0
      have fX1 := tcr KX 1
      have fX2 := tcr KX 2
      have fX3 := tcr KX 3
      have fR0 := tcr KR 0
      have fR1 := tcr KR 1
      have fR2 := tcr KR 2
      have fR3 := tcr KR 3
      have zR0 := tfr KR 0
      have zR1 := tfr KR 1
      have zR2 := tfr KR 2
      have zR3 := tfr KR 3
      go_wp2_with fail
      obtain ⟨j0, q1, q2, q3, q4⟩ := info_parts infoPc
      refine bodyPost_ret (results_cell_row2 (P := Tryz.prog) rfl _ _ w.heap.size _ _ (0, 0) _ _ rfl rfl (store4 KR.out) Tryz.underlying67 rfl (by rw [q1]; simp [q3])) rfl ⟨by rw [HRES.out]; rfl, below4 BB.out (Nat.le_refl _)⟩
    · have hqt := str_ne hEt
      have HRES : Hid (getP t = (pc0, false)) := Lib.hid (pcR_no (.inr (by rw [HP.out, ← hE]; exact hEt)))
      clear hEt hE
      have fR0 := tcr KR 0
      have fR1 := tcr KR 1
      have fR2 := tcr KR 2
      have fR3 := tcr KR 3
      have zR0 := tfr KR 0
      have zR1 := tfr KR 1
      have zR2 := tfr KR 2
      have zR3 := tfr KR 3
      go_wp2_with fail
      obtain ⟨j0, q1, q2, q3, q4⟩ := info_parts infoPc
      refine bodyPost_ret (results_cell_row2 (P := Tryz.prog) rfl _ _ w.heap.size _ _ (0, 0) _ _ rfl rfl (store4 KR.out) Tryz.underlying67 rfl (by rw [q1]; simp [q3])) rfl ⟨by rw [HRES.out]; rfl, below4 BB.out (Nat.le_refl _)⟩
end Go.Proofs.YtdpjdjkfedcojaaGreat
