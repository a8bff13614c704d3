/- What the program's pieceAt answers. Condition: texts of at most 2^40 bytes. -/
import Derived.Test.YtlklhmdpkicpnaaBaseA
import Derived.Test.YtlklhmdpkicpnaaImplGet
import Derived.Test.YtlklhmdpkicpnaaFmtA
namespace Go.Proofs.Ytlklhmdpkicpnaa
open Go.RowKit
set_option linter.unusedVariables false
set_option linter.unusedSimpArgs false

/-- A piece in its place, or a code. -/
def atP (t : ByteArray) (n m : Int) (c : Nat) : Pc × Int :=
  if (getP t).2 = false then (pc0, 2) else if ¬ ((getP t).1.no = n ∧ (getP t).1.of = m) then (pc0, 3) else if ¬ (getP t).1.ch = (linkN (c : Int) (getP t).1.b : Nat) then (pc0, 4) else ((getP t).1, 0)
section
variable {t : ByteArray} {n m : Int} {c : Nat}
theorem at_2 (h : (getP t).2 = false) : atP t n m c = (pc0, 2) := by unfold atP; rw [if_pos h]
theorem at_3 (h : (getP t).2 = true) (h2 : ¬ ((getP t).1.no = n ∧ (getP t).1.of = m)) : atP t n m c = (pc0, 3) := by unfold atP; rw [if_neg (by rw [h]; decide), if_pos h2]
theorem at_4 (h : (getP t).2 = true) (h2 : (getP t).1.no = n ∧ (getP t).1.of = m) (h3 : ¬ (getP t).1.ch = (linkN (c : Int) (getP t).1.b : Nat)) : atP t n m c = (pc0, 4) := by unfold atP; rw [if_neg (by rw [h]; decide), if_neg (fun q => q h2), if_pos h3]
theorem at_0 (h : (getP t).2 = true) (h2 : (getP t).1.no = n ∧ (getP t).1.of = m) (h3 : (getP t).1.ch = (linkN (c : Int) (getP t).1.b : Nat)) : atP t n m c = ((getP t).1, 0) := by unfold atP; rw [if_neg (by rw [h]; decide), if_neg (fun q => q h2), if_neg (fun q => q h3)]
end
set_option maxRecDepth 100000 in
set_option maxHeartbeats 8000000 in
theorem impl_pieceAt (t : ByteArray) (n m : Int) (c : Nat) (w : World) (ht : t.size ≤ 1099511627776) (hc : c < 4294967296) :
    Calls Try.prog 87 #[.string t, .int .i64 n, .int .i64 m, .int .i64 c] w fun e w' => e = .returned (.tuple #[pcV (atP t n m c).1, .int .i64 (atP t n m c).2]) ∧ Below w.heap.size w w' := by
  have kg := fun w => impl_getPiece t w ht
  obtain ⟨p, hp⟩ : ∃ z, z = (getP t).1 := ⟨_, rfl⟩
  obtain ⟨ok, hok⟩ : ∃ z, z = (getP t).2 := ⟨_, rfl⟩
  have hput : (getP t).2 = true → pcB (getP t).1 = t ∧ pcOk (getP t).1 = true := pc_put
  rw [← hp, ← hok] at kg
  have HP := Lib.hid hp
  have HOK := Lib.hid hok
  clear hp hok
  obtain ⟨no, of, pb, pch⟩ := p
  unfold pcV at kg
  dsimp only at kg
  obtain ⟨W, hW⟩ : ∃ A, A = w.alloc (.cells #[.int .i64 0, .int .i64 0, .string ⟨#[]⟩, .int .i64 0] 25) := ⟨_, rfl⟩
  have bR : Below w.heap.size w W := by rw [hW]; exact (Below.refl _ _).alloc (Nat.le_refl _) _
  have KR : Hid (W.heap[w.heap.size]? = some (.cells #[.int .i64 0, .int .i64 0, .string ⟨#[]⟩, .int .i64 0] 25 (0, 0))) := Lib.hid (by rw [hW]; exact heap_new _ _)
  have LR : Hid (w.heap.size < W.heap.size) := Lib.hid (by rw [hW]; simp)
  have BB := Lib.hid bR
  clear bR
  go_enter Try.func87, Try.ntmps87
  have hc1 := kg W
  rw [hW] at hc1
  go_wp2_with (go_at_call 21; refine hc1.mono ?_; rintro e w1 ⟨rfl, hb⟩; refine Hid.out ?_)
  refine Lib.hid ?_
  rw [← hW] at hb
  clear hc1 kg hW
  replace KR := tkb hb LR KR
  replace LR := tlz LR hb.size
  replace BB := tbt BB hb
  clear hb
  obtain ⟨X, hX⟩ : ∃ A, A = w1.alloc (.cells #[.int .i64 no, .int .i64 of, .string pb, .int .i64 pch] 25) := ⟨_, rfl⟩
  have bX : Below w1.heap.size w1 X := by rw [hX]; exact (Below.refl _ _).alloc (Nat.le_refl _) _
  have KX : Hid (X.heap[w1.heap.size]? = some (.cells #[.int .i64 no, .int .i64 of, .string pb, .int .i64 pch] 25 (0, 0))) := Lib.hid (by rw [hX]; exact heap_new _ _)
  have LX : Hid (w1.heap.size < X.heap.size) := Lib.hid (by rw [hX]; simp)
  replace KR := tkb bX LR KR
  replace LR := tlz LR bX.size
  replace BB := tbt BB bX
  clear bX
  cases ok
  · have HRES : Hid (atP t n m c = (pc0, 2)) := Lib.hid (at_2 HOK.out.symm)
    have fR0 := tcr KR 0
    have fR1 := tcr KR 1
    have fR2 := tcr KR 2
    have fR3 := tcr KR 3
    have zR0 := tfr KR 0
    have zR1 := tfr KR 1
    have zR2 := tfr KR 2
    have zR3 := tfr KR 3
    rw [hX] at fR0 fR1 fR2 fR3 zR0 zR1 zR2 zR3
    go_wp2_with fail
    rw [← hX]
    obtain ⟨j0, q1, q2, q3, q4⟩ := info_parts infoPc
    refine bodyPost_ret (results_cell_row2 (P := Try.prog) rfl _ _ w.heap.size _ _ (0, 0) _ _ rfl rfl (store4 KR.out) Try.underlying25 rfl (by rw [q1]; simp [q3])) rfl ⟨by rw [HRES.out]; rfl, below4 BB.out (Nat.le_refl _)⟩
  · obtain ⟨_, hpk⟩ := hput HOK.out.symm
    rw [← HP.out] at hpk
    obtain ⟨⟨o1, o2⟩, ⟨n1, n2⟩, ⟨b1, b2⟩, ⟨c1, c2⟩⟩ := pc_in hpk
    dsimp only at o1 o2 n1 n2 b1 b2 c1 c2
    clear hput hpk
    have fX0 := tcr KX 0
    have fX1 := tcr KX 1
    have fX2 := tcr KX 2
    have fX3 := tcr KX 3
    rw [hX] at fX0 fX1 fX2 fX3
    by_cases hno : no = n
    · by_cases hof : of = m
      · have h2 : (getP t).1.no = n ∧ (getP t).1.of = m := by rw [← HP.out]; exact ⟨hno, hof⟩
        have kl := fun w => impl_link (c : Int) pb w (by omega) (by omega)
        have hll := link_lt (c : Int) pb
        obtain ⟨lk, hlk⟩ : ∃ z, z = linkN (c : Int) pb := ⟨_, rfl⟩
        rw [← hlk] at kl hll
        have HLK := Lib.hid hlk
        clear hlk
        have HC : Hid (pch = (lk : Int) ∧ atP t n m c = (⟨n, m, pb, (lk : Nat)⟩, 0) ∨ ¬ pch = (lk : Int) ∧ atP t n m c = (pc0, 4)) := Lib.hid (by
          by_cases hch : pch = (lk : Int)
          · refine .inl ⟨hch, ?_⟩
            rw [at_0 HOK.out.symm h2 (by rw [← HP.out]; show pch = _; rw [hch, HLK.out]), ← HP.out, hno, hof, hch]
          · exact .inr ⟨hch, at_4 HOK.out.symm h2 (by rw [← HP.out]; show ¬ pch = _; rw [← HLK.out]; exact hch)⟩)
        clear h2
        subst hno hof
        go_wp2_with fail
        rw [← hX]
        clear hX fX0 fX1 fX2 fX3
        have FX : Hid (∀ w', Below X.heap.size X w' → w'.cell? ⟨w1.heap.size, 0, none⟩ = some (.int .i64 no) ∧ w'.cell? ⟨w1.heap.size, 1, none⟩ = some (.int .i64 of) ∧ w'.cell? ⟨w1.heap.size, 2, none⟩ = some (.string pb) ∧ w'.cell? ⟨w1.heap.size, 3, none⟩ = some (.int .i64 pch)) := Lib.hid (fun w' h => by have K := tkb h LX KX; exact ⟨tcr K 0, tcr K 1, tcr K 2, tcr K 3⟩)
        refine wp_region_held_drew (S := (fun w' => Below X.heap.size X w')) (by kernel_rfl) (Below.refl _ _).drew (fun hHeld => ?_)
        obtain ⟨zD, hzD⟩ : ∃ zz, zz = X.drew := ⟨_, rfl⟩
        rw [← hzD] at hHeld ⊢
        clear hzD
        have BD := Lib.hid hHeld
        refine tk0 0 ?_
        refine tk 1 (v := ?_) ?_ ?_; rotate_left
        · refine Or.inl ⟨by rfl, ?_⟩; intro w hSw; obtain ⟨f0, f1, f2, f3⟩ := FX.out w hSw; go_simp; first | done | with_reducible rfl
        refine tk0 2 ?_
        refine tk0 3 ?_
        refine tk 4 (v := ?_) ?_ ?_; rotate_left
        · refine Or.inl ⟨by rfl, ?_⟩; intro w hSw; obtain ⟨f0, f1, f2, f3⟩ := FX.out w hSw; go_simp; first | done | with_reducible rfl
        refine rd1 5 (fun K hK => ?_)
        go_simp
        go_at_call 31
        refine (kl _).mono ?_
        rintro e x0 ⟨rfl, hb⟩
        replace BD := tbt BD hb
        clear hb
        go_wp2_with fail
        refine hK.out _ _ BD.out (fun hHeld => ?_)
        clear hK K
        refine tk0 6 ?_
        refine tk0 7 ?_
        refine wpAnyH_done (by kernel_rfl) ?_ _
        clear hHeld FX kl
        have hb := BD.out
        replace KR := tkb hb LR KR
        replace KX := tkb hb LX KX
        replace BB := tbt BB hb
        clear hb BD LR LX
        rcases HC.out with ⟨hch, hr⟩ | ⟨hch, hr⟩
        · have HRES := Lib.hid hr
          clear hr HC
          subst hch
          have fX0 := tcr KX 0
          have fX1 := tcr KX 1
          have fX2 := tcr KX 2
          have fX3 := tcr KX 3
          have fR0 := tcr KR 0
          have fR1 := tcr KR 1
          have fR2 := tcr KR 2
          have fR3 := tcr KR 3
          have zR0 := tfr KR 0
          have zR1 := tfr KR 1
          have zR2 := tfr KR 2
          have zR3 := tfr KR 3
          go_wp2_with fail
          obtain ⟨j0, q1, q2, q3, q4⟩ := info_parts infoPc
          refine bodyPost_ret (results_cell_row2 (P := Try.prog) rfl _ _ w.heap.size _ _ (0, 0) _ _ rfl rfl (store4 KR.out) Try.underlying25 rfl (by rw [q1]; simp [q3])) rfl ⟨by rw [HRES.out]; rfl, below4 BB.out (Nat.le_refl _)⟩
        · have HRES := Lib.hid hr
          clear hr HC
          have fR0 := tcr KR 0
          have fR1 := tcr KR 1
          have fR2 := tcr KR 2
          have fR3 := tcr KR 3
          have zR0 := tfr KR 0
          have zR1 := tfr KR 1
          have zR2 := tfr KR 2
          have zR3 := tfr KR 3
          go_wp2_with fail
          obtain ⟨j0, q1, q2, q3, q4⟩ := info_parts infoPc
          refine bodyPost_ret (results_cell_row2 (P := Try.prog) rfl _ _ w.heap.size _ _ (0, 0) _ _ rfl rfl (store4 KR.out) Try.underlying25 rfl (by rw [q1]; simp [q3])) rfl ⟨by rw [HRES.out]; rfl, below4 BB.out (Nat.le_refl _)⟩
      · have HRES : Hid (atP t n m c = (pc0, 3)) := Lib.hid (at_3 HOK.out.symm (by rw [← HP.out]; exact fun q => hof q.2))
        subst hno
        have fR0 := tcr KR 0
        have fR1 := tcr KR 1
        have fR2 := tcr KR 2
        have fR3 := tcr KR 3
        have zR0 := tfr KR 0
        have zR1 := tfr KR 1
        have zR2 := tfr KR 2
        have zR3 := tfr KR 3
        rw [hX] at fR0 fR1 fR2 fR3 zR0 zR1 zR2 zR3
        go_wp2_with fail
        rw [← hX]
        obtain ⟨j0, q1, q2, q3, q4⟩ := info_parts infoPc
        refine bodyPost_ret (results_cell_row2 (P := Try.prog) rfl _ _ w.heap.size _ _ (0, 0) _ _ rfl rfl (store4 KR.out) Try.underlying25 rfl (by rw [q1]; simp [q3])) rfl ⟨by rw [HRES.out]; rfl, below4 BB.out (Nat.le_refl _)⟩
    · have HRES : Hid (atP t n m c = (pc0, 3)) := Lib.hid (at_3 HOK.out.symm (by rw [← HP.out]; exact fun q => hno q.1))
      have fR0 := tcr KR 0
      have fR1 := tcr KR 1
      have fR2 := tcr KR 2
      have fR3 := tcr KR 3
      have zR0 := tfr KR 0
      have zR1 := tfr KR 1
      have zR2 := tfr KR 2
      have zR3 := tfr KR 3
      rw [hX] at fR0 fR1 fR2 fR3 zR0 zR1 zR2 zR3
      go_wp2_with fail
      rw [← hX]
      obtain ⟨j0, q1, q2, q3, q4⟩ := info_parts infoPc
      refine bodyPost_ret (results_cell_row2 (P := Try.prog) rfl _ _ w.heap.size _ _ (0, 0) _ _ rfl rfl (store4 KR.out) Try.underlying25 rfl (by rw [q1]; simp [q3])) rfl ⟨by rw [HRES.out]; rfl, below4 BB.out (Nat.le_refl _)⟩
end Go.Proofs.Ytlklhmdpkicpnaa
