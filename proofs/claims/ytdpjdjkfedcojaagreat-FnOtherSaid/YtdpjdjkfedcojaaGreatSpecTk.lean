/- What spec.Offer answer. Condition: texts of a size that a text may have. -/
import Derived.Test.YtdpjdjkfedcojaaGreatTkForms
import Derived.Test.YtdpjdjkfedcojaaGreatSpecGet
import Derived.Test.YtdpjdjkfedcojaaGreatSpecDec
import Derived.Test.YtdpjdjkfedcojaaGreatBaseA
import Derived.Test.YtdpjdjkfedcojaaGreatSpecTkA
namespace Go.Proofs.YtdpjdjkfedcojaaGreat
open Go.RowKit
set_option linter.unusedVariables false
set_option linter.unusedSimpArgs false

theorem getP_fit (s : ByteArray) : (-9223372036854775808 ≤ (getP s).1.no ∧ (getP s).1.no ≤ 9223372036854775807) ∧ (-9223372036854775808 ≤ (getP s).1.of ∧ (getP s).1.of ≤ 9223372036854775807) ∧ (-9223372036854775808 ≤ (getP s).1.ch ∧ (getP s).1.ch ≤ 9223372036854775807) ∧ (getP s).1.b.size ≤ 200 ∧ True := by
  cases h : (getP s).2 with
  | true =>
    have hp := pc_in (pc_put h).2
    exact ⟨by omega, by omega, by omega, by omega, trivial⟩
  | false =>
    rw [pc_no h]
    exact ⟨by decide, by decide, by decide, by decide, trivial⟩
set_option maxRecDepth 100000 in
set_option maxHeartbeats 8000000 in
theorem spec_offer (t : Tkr) (s : ByteArray) (w : World) (hf : FitTkr t) (hb8 : t.b.size ≤ 1099511627776) (hs : s.size ≤ 1099511627776) :
    Calls Tryz.prog 16 #[tkrV t, .string s] w fun e w' => e = .returned (.tuple #[tkrV (offerS t s).1, .int .i64 (offerS t s).2]) ∧ Below w.heap.size w w' := by
  have kt := fun w => spec_takerOk t w hf
  have kg := fun w => spec_getPiece s w hs
  have hgp := getP_fit s
  obtain ⟨⟨o1, o2⟩, ⟨n1, n2⟩, ⟨c1, c2⟩, hb⟩ := hf
  obtain ⟨⟨pn, po, pb, pch⟩, hp⟩ : ∃ p, p = (getP s).1 := ⟨_, rfl⟩
  obtain ⟨q, hq⟩ : ∃ q, q = (getP s).2 := ⟨_, rfl⟩
  have HO : Hid (offerS t s = if tkrOk t = false then (t, 4) else if q = false then (t, 4) else if 0 < t.of ∧ ¬ t.of = po then (t, 4) else if pn = t.nx ∧ ¬ pch = (linkN t.ch pb : Nat) then (t, 4) else if pn < t.nx then (t, 2) else if t.nx < pn then (t, 3) else (⟨po, t.nx + 1, pch, t.b ++ pb⟩, if pn = po then 1 else 0)) := Lib.hid (by unfold offerS; rw [← hp, ← hq])
  rw [← hp] at kg hgp
  rw [← hq] at kg
  dsimp only at hgp
  obtain ⟨g1, g2, g3, g4, g5⟩ := hgp
  clear hp hq
  have HT := fun (h : tkrOk t = true) (h0 : ¬ t.of = 0) => tkr_in h h0
  have HN : tkrOk t = true → t.of = 0 → t.nx = 1 := fun h h0 => by rw [tkr_new h h0]; rfl
  obtain ⟨r, hr⟩ : ∃ r, r = tkrOk t := ⟨_, rfl⟩
  rw [← hr] at kt HO HT HN
  clear hr
  obtain ⟨o, n, c, b⟩ := t
  dsimp only at o1 o2 n1 n2 c1 c2 hb hb8 HO HT HN
  have kl := fun w => spec_link c pb w ⟨c1, c2⟩ (by omega)
  obtain ⟨lk, hlk⟩ : ∃ z : Nat, z = linkN c pb := ⟨_, rfl⟩
  rw [← hlk] at kl HO
  clear hlk
  unfold tkrV pcV at *
  try dsimp only at *
  obtain ⟨W, hW⟩ : ∃ W, W = (w.alloc (.cells #[.int .i64 o, .int .i64 n, .int .i64 c, .string b] 34)).alloc (.cells #[.int .i64 0, .int .i64 0, .int .i64 0, .string ⟨#[]⟩] 34) := ⟨_, rfl⟩
  have BB : Hid (Below w.heap.size w W) := Lib.hid (by rw [hW]; exact ((Below.refl _ _).alloc (Nat.le_refl _) _).alloc (by simp) _)
  have hWs : W.heap.size = w.heap.size + 2 := by rw [hW]; simp
  have KT : Hid (W.heap[w.heap.size]? = some (.cells #[.int .i64 o, .int .i64 n, .int .i64 c, .string b] 34 (0, 0))) := Lib.hid (by rw [hW, Below.heap_alloc _ _ _ (by simp)]; exact heap_new _ _)
  have KR : Hid (W.heap[w.heap.size + 1]? = some (.cells #[.int .i64 0, .int .i64 0, .int .i64 0, .string ⟨#[]⟩] 34 (0, 0))) := Lib.hid (by rw [hW]; simpa using heap_new (w.alloc (.cells #[.int .i64 o, .int .i64 n, .int .i64 c, .string b] 34)) (.cells #[.int .i64 0, .int .i64 0, .int .i64 0, .string ⟨#[]⟩] 34))
  have LT : Hid (w.heap.size < W.heap.size) := Lib.hid (by omega)
  have LR : Hid (w.heap.size + 1 < W.heap.size) := Lib.hid (by omega)
  clear hWs
  go_enter Tryz.func16, Tryz.ntmps16
  have hc := kg W
  rw [hW] at hc
  go_wp2_with (go_at_call 42; refine hc.mono ?_; rintro e w1 ⟨rfl, hb1⟩; refine Hid.out ?_)
  refine Lib.hid ?_
  rw [← hW] at hb1
  clear hc hW kg
  replace KT := tkb hb1 LT KT
  replace KR := tkb hb1 LR KR
  replace LT := tlz LT hb1.size
  replace LR := tlz LR hb1.size
  replace BB := tbt BB hb1
  clear hb1
  obtain ⟨X, hX⟩ : ∃ X, X = w1.alloc (.cells #[.int .i64 pn, .int .i64 po, .string pb, .int .i64 pch] 67) := ⟨_, rfl⟩
  have bX : Below w1.heap.size w1 X := by rw [hX]; exact (Below.refl _ _).alloc (Nat.le_refl _) _
  have KP : Hid (X.heap[w1.heap.size]? = some (.cells #[.int .i64 pn, .int .i64 po, .string pb, .int .i64 pch] 67 (0, 0))) := Lib.hid (by rw [hX]; exact heap_new _ _)
  have LP : Hid (w1.heap.size < X.heap.size) := Lib.hid (by rw [hX]; simp)
  replace KT := tkb bX LT KT
  replace KR := tkb bX LR KR
  replace LT := tlz LT bX.size
  replace LR := tlz LR bX.size
  replace BB := tbt BB bX
  clear bX
  go_wp2_with fail
  rw [← hX]
  clear hX
  have FT : Hid (∀ w', Below X.heap.size X w' → w'.cell? ⟨w.heap.size, 0, none⟩ = some (.int .i64 o) ∧ w'.cell? ⟨w.heap.size, 1, none⟩ = some (.int .i64 n) ∧ w'.cell? ⟨w.heap.size, 2, none⟩ = some (.int .i64 c) ∧ w'.cell? ⟨w.heap.size, 3, none⟩ = some (.string b)) := Lib.hid (fun w' h => by have K := tkb h LT KT; exact ⟨tcr K 0, tcr K 1, tcr K 2, tcr K 3⟩)
  have FP : Hid (∀ w', Below X.heap.size X w' → w'.cell? ⟨w1.heap.size, 0, none⟩ = some (.int .i64 pn) ∧ w'.cell? ⟨w1.heap.size, 1, none⟩ = some (.int .i64 po) ∧ w'.cell? ⟨w1.heap.size, 2, none⟩ = some (.string pb) ∧ w'.cell? ⟨w1.heap.size, 3, none⟩ = some (.int .i64 pch)) := Lib.hid (fun w' h => by have K := tkb h LP KP; exact ⟨tcr K 0, tcr K 1, tcr K 2, tcr K 3⟩)
  have FR : Hid (∀ w', Below X.heap.size X w' → w'.heap[w.heap.size + 1]? = some (.cells #[.int .i64 0, .int .i64 0, .int .i64 0, .string ⟨#[]⟩] 34 (0, 0))) := Lib.hid (fun w' h => (tkb h LR KR).out)
  clear KT KR KP LT LR LP
  refine wp_region_held_drew (S := (fun w' => Below X.heap.size X w')) (by kernel_rfl) (Below.refl _ _).drew (fun hHeld => ?_)
  obtain ⟨zD, hzD⟩ : ∃ zz, zz = X.drew := ⟨_, rfl⟩
  rw [← hzD] at hHeld ⊢
  clear hzD
  have BD := Lib.hid hHeld
  cases r
  · skip
    refine tk 0 (v := ?_) ?_ ?_; rotate_left
    · refine Or.inl ⟨by rfl, ?_⟩; intro w hSw; obtain ⟨f0, f1, f2, f3⟩ := FT.out w hSw; go_simp; first | done | with_reducible rfl
    refine rd1 1 (fun K hK => ?_)
    go_simp
    have hc := kt zD
    go_at_call 43
    refine hc.mono ?_
    rintro e w2 ⟨rfl, hb⟩
    replace BD := tbt BD hb
    clear hc hb
    go_wp2_with fail
    refine hK.out _ _ BD.out (fun hHeld => ?_)
    clear hK K
    refine tk0 2 ?_
    refine tk0 3 ?_
    refine tku 4 ?_
    refine tku 5 ?_
    refine tk0 6 ?_
    refine tk0 7 ?_
    refine tku 8 ?_
    refine tku 9 ?_
    refine tku 10 ?_
    refine tku 11 ?_
    refine tku 12 ?_
    refine tku 13 ?_
    refine tku 14 ?_
    refine tku 15 ?_
    refine tku 16 ?_
    refine tku 17 ?_
    refine tk0 18 ?_
    refine tk0 19 ?_
    refine tku 20 ?_
    refine tku 21 ?_
    refine tku 22 ?_
    refine tku 23 ?_
    refine tku 24 ?_
    refine tku 25 ?_
    refine tku 26 ?_
    refine tku 27 ?_
    refine tku 28 ?_
    refine tku 29 ?_
    refine tku 30 ?_
    refine tku 31 ?_
    refine tku 32 ?_
    refine tku 33 ?_
    refine tku 34 ?_
    refine tk0 35 ?_
    refine tk0 36 ?_
    refine wpAnyH_done (by kernel_rfl) ?_ _
    clear hHeld
    have HRES : Hid (offerS ⟨o, n, c, b⟩ s = (⟨o, n, c, b⟩, 4)) := Lib.hid (by rw [HO.out]; rfl)
    have KR : Hid (w2.heap[w.heap.size + 1]? = some (.cells #[.int .i64 0, .int .i64 0, .int .i64 0, .string ⟨#[]⟩] 34 (0, 0))) := Lib.hid (FR.out _ BD.out)
    obtain ⟨t0, t1, t2, t3⟩ := FT.out _ BD.out
    obtain ⟨p0, p1, p2, p3⟩ := FP.out _ BD.out
    have f0 := tcr KR 0
    have f1 := tcr KR 1
    have f2 := tcr KR 2
    have f3 := tcr KR 3
    have z0 := tfr KR 0
    have z1 := tfr KR 1
    have z2 := tfr KR 2
    have z3 := tfr KR 3
    replace BB := Lib.hid (BB.out.trans (BD.out.mono BB.out.size))
    clear HO FT FR kt kl HT HN FP BD
    go_wp2_with fail
    obtain ⟨j0, q1, q2, q3, q4⟩ := info_parts infoTkr
    refine bodyPost_ret (results_cell_row2 (P := Tryz.prog) rfl _ _ (w.heap.size + 1) _ _ (0, 0) _ _ rfl rfl (storeT KR.out) Tryz.underlying34 rfl (by rw [q1]; simp [q3])) rfl ⟨by rw [HRES.out]; rfl, below4 BB.out (by omega)⟩
  cases q
  · skip
    refine tk 0 (v := ?_) ?_ ?_; rotate_left
    · refine Or.inl ⟨by rfl, ?_⟩; intro w hSw; obtain ⟨f0, f1, f2, f3⟩ := FT.out w hSw; go_simp; first | done | with_reducible rfl
    refine rd1 1 (fun K hK => ?_)
    go_simp
    have hc := kt zD
    go_at_call 43
    refine hc.mono ?_
    rintro e w2 ⟨rfl, hb⟩
    replace BD := tbt BD hb
    clear hc hb
    go_wp2_with fail
    refine hK.out _ _ BD.out (fun hHeld => ?_)
    clear hK K
    refine tk0 2 ?_
    refine tk0 3 ?_
    refine tk0 4 ?_
    refine tk0 5 ?_
    refine tk0 6 ?_
    refine tk0 7 ?_
    refine tku 8 ?_
    refine tku 9 ?_
    refine tku 10 ?_
    refine tku 11 ?_
    refine tku 12 ?_
    refine tku 13 ?_
    refine tku 14 ?_
    refine tku 15 ?_
    refine tku 16 ?_
    refine tku 17 ?_
    refine tk0 18 ?_
    refine tk0 19 ?_
    refine tku 20 ?_
    refine tku 21 ?_
    refine tku 22 ?_
    refine tku 23 ?_
    refine tku 24 ?_
    refine tku 25 ?_
    refine tku 26 ?_
    refine tku 27 ?_
    refine tku 28 ?_
    refine tku 29 ?_
    refine tku 30 ?_
    refine tku 31 ?_
    refine tku 32 ?_
    refine tku 33 ?_
    refine tku 34 ?_
    refine tk0 35 ?_
    refine tk0 36 ?_
    refine wpAnyH_done (by kernel_rfl) ?_ _
    clear hHeld
    have HRES : Hid (offerS ⟨o, n, c, b⟩ s = (⟨o, n, c, b⟩, 4)) := Lib.hid (by rw [HO.out]; rfl)
    have KR : Hid (w2.heap[w.heap.size + 1]? = some (.cells #[.int .i64 0, .int .i64 0, .int .i64 0, .string ⟨#[]⟩] 34 (0, 0))) := Lib.hid (FR.out _ BD.out)
    obtain ⟨t0, t1, t2, t3⟩ := FT.out _ BD.out
    obtain ⟨p0, p1, p2, p3⟩ := FP.out _ BD.out
    have f0 := tcr KR 0
    have f1 := tcr KR 1
    have f2 := tcr KR 2
    have f3 := tcr KR 3
    have z0 := tfr KR 0
    have z1 := tfr KR 1
    have z2 := tfr KR 2
    have z3 := tfr KR 3
    replace BB := Lib.hid (BB.out.trans (BD.out.mono BB.out.size))
    clear HO FT FR kt kl HT HN FP BD
    go_wp2_with fail
    obtain ⟨j0, q1, q2, q3, q4⟩ := info_parts infoTkr
    refine bodyPost_ret (results_cell_row2 (P := Tryz.prog) rfl _ _ (w.heap.size + 1) _ _ (0, 0) _ _ rfl rfl (storeT KR.out) Tryz.underlying34 rfl (by rw [q1]; simp [q3])) rfl ⟨by rw [HRES.out]; rfl, below4 BB.out (by omega)⟩
  replace HO := Lib.hid (HO.out.trans ((if_neg (by decide)).trans (if_neg (by decide))))
  replace HT := HT rfl
  replace HN := HN rfl
  by_cases hbad : 0 < o ∧ ¬ o = po
  · have e1 : decide (0 < o) = true := decide_eq_true hbad.1
    have e2 : (o != po) = true := by rw [bne_iff_ne]; exact hbad.2
    refine tk 0 (v := ?_) ?_ ?_; rotate_left
    · refine Or.inl ⟨by rfl, ?_⟩; intro w hSw; obtain ⟨f0, f1, f2, f3⟩ := FT.out w hSw; go_simp; first | done | with_reducible rfl
    refine rd1 1 (fun K hK => ?_)
    go_simp
    have hc := kt zD
    go_at_call 43
    refine hc.mono ?_
    rintro e w2 ⟨rfl, hb⟩
    replace BD := tbt BD hb
    clear hc hb
    go_wp2_with fail
    refine hK.out _ _ BD.out (fun hHeld => ?_)
    clear hK K
    refine tk0 2 ?_
    refine tk0 3 ?_
    refine tk0 4 ?_
    refine tk0 5 ?_
    refine tk0 6 ?_
    refine tk0 7 ?_
    refine tk0 8 ?_
    refine tk 9 (v := ?_) ?_ ?_; rotate_left
    · refine Or.inl ⟨by rfl, ?_⟩; intro w hSw; obtain ⟨f0, f1, f2, f3⟩ := FT.out w hSw; go_simp; first | done | with_reducible rfl
    refine tk0 10 ?_
    refine tk0 11 ?_
    refine tk0 12 ?_
    refine tk 13 (v := ?_) ?_ ?_; rotate_left
    · refine Or.inl ⟨by rfl, ?_⟩; intro w hSw; obtain ⟨f0, f1, f2, f3⟩ := FT.out w hSw; go_simp; first | done | with_reducible rfl
    refine tk0 14 ?_
    refine tk 15 (v := ?_) ?_ ?_; rotate_left
    · refine Or.inl ⟨by rfl, ?_⟩; intro w hSw; obtain ⟨f0, f1, f2, f3⟩ := FP.out w hSw; go_simp; first | done | with_reducible rfl
    refine tk0 16 ?_
    refine tk0 17 ?_
    refine tk0 18 ?_
    refine tk0 19 ?_
    refine tku 20 ?_
    refine tku 21 ?_
    refine tku 22 ?_
    refine tku 23 ?_
    refine tku 24 ?_
    refine tku 25 ?_
    refine tku 26 ?_
    refine tku 27 ?_
    refine tku 28 ?_
    refine tku 29 ?_
    refine tku 30 ?_
    refine tku 31 ?_
    refine tku 32 ?_
    refine tku 33 ?_
    refine tku 34 ?_
    refine tk0 35 ?_
    refine tk0 36 ?_
    refine wpAnyH_done (by kernel_rfl) ?_ _
    clear hHeld
    have HRES : Hid (offerS ⟨o, n, c, b⟩ s = (⟨o, n, c, b⟩, 4)) := Lib.hid (by rw [HO.out]; rw [if_pos hbad])
    have KR : Hid (w2.heap[w.heap.size + 1]? = some (.cells #[.int .i64 0, .int .i64 0, .int .i64 0, .string ⟨#[]⟩] 34 (0, 0))) := Lib.hid (FR.out _ BD.out)
    obtain ⟨t0, t1, t2, t3⟩ := FT.out _ BD.out
    obtain ⟨p0, p1, p2, p3⟩ := FP.out _ BD.out
    have f0 := tcr KR 0
    have f1 := tcr KR 1
    have f2 := tcr KR 2
    have f3 := tcr KR 3
    have z0 := tfr KR 0
    have z1 := tfr KR 1
    have z2 := tfr KR 2
    have z3 := tfr KR 3
    replace BB := Lib.hid (BB.out.trans (BD.out.mono BB.out.size))
    clear HO FT FR kt kl HT HN FP BD
    go_wp2_with fail
    obtain ⟨j0, q1, q2, q3, q4⟩ := info_parts infoTkr
    refine bodyPost_ret (results_cell_row2 (P := Tryz.prog) rfl _ _ (w.heap.size + 1) _ _ (0, 0) _ _ rfl rfl (storeT KR.out) Tryz.underlying34 rfl (by rw [q1]; simp [q3])) rfl ⟨by rw [HRES.out]; rfl, below4 BB.out (by omega)⟩
  replace HO := Lib.hid (HO.out.trans (if_neg hbad))
  by_cases hpos : 0 < o
  · have e1 : decide (0 < o) = true := decide_eq_true hpos
    have hsame : o = po := Classical.byContradiction fun h => hbad ⟨hpos, h⟩
    have e2 : (o != po) = false := by rw [hsame]; simp
    clear hbad hsame
    by_cases hnx : pn = n
    · have e3 : (pn == n) = true := by rw [hnx]; simp
      have HNX := Lib.hid hnx
      clear hnx
      by_cases hch : pch = (lk : Int)
      · have e4 : (pch != (lk : Int)) = false := by rw [hch]; simp
        have HCH := Lib.hid hch
        clear hch
        refine tk 0 (v := ?_) ?_ ?_; rotate_left
        · refine Or.inl ⟨by rfl, ?_⟩; intro w hSw; obtain ⟨f0, f1, f2, f3⟩ := FT.out w hSw; go_simp; first | done | with_reducible rfl
        refine rd1 1 (fun K hK => ?_)
        go_simp
        have hc := kt zD
        go_at_call 43
        refine hc.mono ?_
        rintro e w2 ⟨rfl, hb⟩
        replace BD := tbt BD hb
        clear hc hb
        go_wp2_with fail
        refine hK.out _ _ BD.out (fun hHeld => ?_)
        clear hK K
        refine tk0 2 ?_
        refine tk0 3 ?_
        refine tk0 4 ?_
        refine tk0 5 ?_
        refine tk0 6 ?_
        refine tk0 7 ?_
        refine tk0 8 ?_
        refine tk 9 (v := ?_) ?_ ?_; rotate_left
        · refine Or.inl ⟨by rfl, ?_⟩; intro w hSw; obtain ⟨f0, f1, f2, f3⟩ := FT.out w hSw; go_simp; first | done | with_reducible rfl
        refine tk0 10 ?_
        refine tk0 11 ?_
        refine tk0 12 ?_
        refine tk 13 (v := ?_) ?_ ?_; rotate_left
        · refine Or.inl ⟨by rfl, ?_⟩; intro w hSw; obtain ⟨f0, f1, f2, f3⟩ := FT.out w hSw; go_simp; first | done | with_reducible rfl
        refine tk0 14 ?_
        refine tk 15 (v := ?_) ?_ ?_; rotate_left
        · refine Or.inl ⟨by rfl, ?_⟩; intro w hSw; obtain ⟨f0, f1, f2, f3⟩ := FP.out w hSw; go_simp; first | done | with_reducible rfl
        refine tk0 16 ?_
        refine tk0 17 ?_
        refine tk0 18 ?_
        refine tk0 19 ?_
        refine tk0 20 ?_
        refine tk 21 (v := ?_) ?_ ?_; rotate_left
        · refine Or.inl ⟨by rfl, ?_⟩; intro w hSw; obtain ⟨f0, f1, f2, f3⟩ := FP.out w hSw; go_simp; first | done | with_reducible rfl
        refine tk0 22 ?_
        refine tk 23 (v := ?_) ?_ ?_; rotate_left
        · refine Or.inl ⟨by rfl, ?_⟩; intro w hSw; obtain ⟨f0, f1, f2, f3⟩ := FT.out w hSw; go_simp; first | done | with_reducible rfl
        refine tk0 24 ?_
        refine tk0 25 ?_
        refine tk0 26 ?_
        refine tk 27 (v := ?_) ?_ ?_; rotate_left
        · refine Or.inl ⟨by rfl, ?_⟩; intro w hSw; obtain ⟨f0, f1, f2, f3⟩ := FP.out w hSw; go_simp; first | done | with_reducible rfl
        refine tk0 28 ?_
        refine tk 29 (v := ?_) ?_ ?_; rotate_left
        · refine Or.inl ⟨by rfl, ?_⟩; intro w hSw; obtain ⟨f0, f1, f2, f3⟩ := FT.out w hSw; go_simp; first | done | with_reducible rfl
        refine tk0 30 ?_
        refine tk 31 (v := ?_) ?_ ?_; rotate_left
        · refine Or.inl ⟨by rfl, ?_⟩; intro w hSw; obtain ⟨f0, f1, f2, f3⟩ := FP.out w hSw; go_simp; first | done | with_reducible rfl
        refine rd1 32 (fun K hK => ?_)
        go_simp
        have hc := kl w2
        go_at_call 44
        refine hc.mono ?_
        rintro e w3 ⟨rfl, hb⟩
        replace BD := tbt BD hb
        clear hc hb
        go_wp2_with fail
        refine hK.out _ _ BD.out (fun hHeld => ?_)
        clear hK K
        refine tk0 33 ?_
        refine tk0 34 ?_
        refine tk0 35 ?_
        refine tk0 36 ?_
        refine wpAnyH_done (by kernel_rfl) ?_ _
        clear hHeld
        have hnx := HNX.out
        have hlt : decide (pn < n) = false := by rw [decide_eq_false_iff_not]; omega
        have hgt : decide (n < pn) = false := by rw [decide_eq_false_iff_not]; omega
        have hn600 : n ≤ 601 := by rcases Classical.em (o = 0) with h | h; have := HN h; omega; have := HT h; omega
        have hwn : IntKind.i64.wrap (n + 1) = n + 1 := by rw [IntKind.wrap_i64]; omega
        have ns : ¬ 9223372036854775807 < b.size + pb.size := by omega
        clear hnx
        by_cases hlast : pn = po
        · have e5 : (pn == po) = true := by rw [hlast]; simp
          have HLA := Lib.hid hlast
          clear hlast
          have HRES : Hid (offerS ⟨o, n, c, b⟩ s = (⟨po, n + 1, pch, b ++ pb⟩, 1)) := Lib.hid (by rw [HO.out]; rw [if_neg (fun h => h.2 HCH.out), if_neg (by have := HNX.out; omega), if_neg (by have := HNX.out; omega), if_pos HLA.out])
          have KR : Hid (w3.heap[w.heap.size + 1]? = some (.cells #[.int .i64 0, .int .i64 0, .int .i64 0, .string ⟨#[]⟩] 34 (0, 0))) := Lib.hid (FR.out _ BD.out)
          obtain ⟨t0, t1, t2, t3⟩ := FT.out _ BD.out
          obtain ⟨p0, p1, p2, p3⟩ := FP.out _ BD.out
          have f0 := tcr KR 0
          have f1 := tcr KR 1
          have f2 := tcr KR 2
          have f3 := tcr KR 3
          have z0 := tfr KR 0
          have z1 := tfr KR 1
          have z2 := tfr KR 2
          have z3 := tfr KR 3
          replace BB := Lib.hid (BB.out.trans (BD.out.mono BB.out.size))
          clear HO FT FR kt kl HT HN
          obtain ⟨V, hV⟩ : ∃ V, V = w3.alloc (.cells #[.int .i64 po, .int .i64 (n + 1), .int .i64 pch, .string (b ++ pb)] 34) := ⟨_, rfl⟩
          have bV : Below w3.heap.size w3 V := by rw [hV]; exact (Below.refl _ _).alloc (Nat.le_refl _) _
          have LR : Hid (w.heap.size + 1 < w3.heap.size) := Lib.hid (Array.getElem?_eq_some_iff.1 KR.out).1
          replace KR := tkb bV LR KR
          have KV : Hid (V.heap[w3.heap.size]? = some (.cells #[.int .i64 po, .int .i64 (n + 1), .int .i64 pch, .string (b ++ pb)] 34 (0, 0))) := Lib.hid (by rw [hV]; exact heap_new _ _)
          replace BB := tbt BB bV
          have v0 := tcr KV 0
          have v1 := tcr KV 1
          have v2 := tcr KV 2
          have v3 := tcr KV 3
          replace f0 := tcr KR 0
          replace f1 := tcr KR 1
          replace f2 := tcr KR 2
          replace f3 := tcr KR 3
          replace z0 := tfr KR 0
          replace z1 := tfr KR 1
          replace z2 := tfr KR 2
          replace z3 := tfr KR 3
          rw [hV] at v0 v1 v2 v3 f0 f1 f2 f3 z0 z1 z2 z3
          obtain ⟨r0, r1, r2, r3⟩ := FP.out V (BD.out.trans (bV.mono BD.out.size))
          rw [hV] at r0 r1 r2 r3
          clear FP BD bV
          go_wp2_with fail
          rw [← hV]
          obtain ⟨j0, q1, q2, q3, q4⟩ := info_parts infoTkr
          refine bodyPost_ret (results_cell_row2 (P := Tryz.prog) rfl _ _ (w.heap.size + 1) _ _ (0, 0) _ _ rfl rfl (storeT KR.out) Tryz.underlying34 rfl (by rw [q1]; simp [q3])) rfl ⟨by rw [HRES.out]; rfl, below4 BB.out (by omega)⟩
        · have e5 : (pn == po) = false := by rw [beq_eq_false_iff_ne]; exact hlast
          have HLA := Lib.hid hlast
          clear hlast
          have HRES : Hid (offerS ⟨o, n, c, b⟩ s = (⟨po, n + 1, pch, b ++ pb⟩, 0)) := Lib.hid (by rw [HO.out]; rw [if_neg (fun h => h.2 HCH.out), if_neg (by have := HNX.out; omega), if_neg (by have := HNX.out; omega), if_neg HLA.out])
          have KR : Hid (w3.heap[w.heap.size + 1]? = some (.cells #[.int .i64 0, .int .i64 0, .int .i64 0, .string ⟨#[]⟩] 34 (0, 0))) := Lib.hid (FR.out _ BD.out)
          obtain ⟨t0, t1, t2, t3⟩ := FT.out _ BD.out
          obtain ⟨p0, p1, p2, p3⟩ := FP.out _ BD.out
          have f0 := tcr KR 0
          have f1 := tcr KR 1
          have f2 := tcr KR 2
          have f3 := tcr KR 3
          have z0 := tfr KR 0
          have z1 := tfr KR 1
          have z2 := tfr KR 2
          have z3 := tfr KR 3
          replace BB := Lib.hid (BB.out.trans (BD.out.mono BB.out.size))
          clear HO FT FR kt kl HT HN
          obtain ⟨V, hV⟩ : ∃ V, V = w3.alloc (.cells #[.int .i64 po, .int .i64 (n + 1), .int .i64 pch, .string (b ++ pb)] 34) := ⟨_, rfl⟩
          have bV : Below w3.heap.size w3 V := by rw [hV]; exact (Below.refl _ _).alloc (Nat.le_refl _) _
          have LR : Hid (w.heap.size + 1 < w3.heap.size) := Lib.hid (Array.getElem?_eq_some_iff.1 KR.out).1
          replace KR := tkb bV LR KR
          have KV : Hid (V.heap[w3.heap.size]? = some (.cells #[.int .i64 po, .int .i64 (n + 1), .int .i64 pch, .string (b ++ pb)] 34 (0, 0))) := Lib.hid (by rw [hV]; exact heap_new _ _)
          replace BB := tbt BB bV
          have v0 := tcr KV 0
          have v1 := tcr KV 1
          have v2 := tcr KV 2
          have v3 := tcr KV 3
          replace f0 := tcr KR 0
          replace f1 := tcr KR 1
          replace f2 := tcr KR 2
          replace f3 := tcr KR 3
          replace z0 := tfr KR 0
          replace z1 := tfr KR 1
          replace z2 := tfr KR 2
          replace z3 := tfr KR 3
          rw [hV] at v0 v1 v2 v3 f0 f1 f2 f3 z0 z1 z2 z3
          obtain ⟨r0, r1, r2, r3⟩ := FP.out V (BD.out.trans (bV.mono BD.out.size))
          rw [hV] at r0 r1 r2 r3
          clear FP BD bV
          go_wp2_with fail
          rw [← hV]
          obtain ⟨j0, q1, q2, q3, q4⟩ := info_parts infoTkr
          refine bodyPost_ret (results_cell_row2 (P := Tryz.prog) rfl _ _ (w.heap.size + 1) _ _ (0, 0) _ _ rfl rfl (storeT KR.out) Tryz.underlying34 rfl (by rw [q1]; simp [q3])) rfl ⟨by rw [HRES.out]; rfl, below4 BB.out (by omega)⟩
      · have e4 : (pch != (lk : Int)) = true := by rw [bne_iff_ne]; exact hch
        refine tk 0 (v := ?_) ?_ ?_; rotate_left
        · refine Or.inl ⟨by rfl, ?_⟩; intro w hSw; obtain ⟨f0, f1, f2, f3⟩ := FT.out w hSw; go_simp; first | done | with_reducible rfl
        refine rd1 1 (fun K hK => ?_)
        go_simp
        have hc := kt zD
        go_at_call 43
        refine hc.mono ?_
        rintro e w2 ⟨rfl, hb⟩
        replace BD := tbt BD hb
        clear hc hb
        go_wp2_with fail
        refine hK.out _ _ BD.out (fun hHeld => ?_)
        clear hK K
        refine tk0 2 ?_
        refine tk0 3 ?_
        refine tk0 4 ?_
        refine tk0 5 ?_
        refine tk0 6 ?_
        refine tk0 7 ?_
        refine tk0 8 ?_
        refine tk 9 (v := ?_) ?_ ?_; rotate_left
        · refine Or.inl ⟨by rfl, ?_⟩; intro w hSw; obtain ⟨f0, f1, f2, f3⟩ := FT.out w hSw; go_simp; first | done | with_reducible rfl
        refine tk0 10 ?_
        refine tk0 11 ?_
        refine tk0 12 ?_
        refine tk 13 (v := ?_) ?_ ?_; rotate_left
        · refine Or.inl ⟨by rfl, ?_⟩; intro w hSw; obtain ⟨f0, f1, f2, f3⟩ := FT.out w hSw; go_simp; first | done | with_reducible rfl
        refine tk0 14 ?_
        refine tk 15 (v := ?_) ?_ ?_; rotate_left
        · refine Or.inl ⟨by rfl, ?_⟩; intro w hSw; obtain ⟨f0, f1, f2, f3⟩ := FP.out w hSw; go_simp; first | done | with_reducible rfl
        refine tk0 16 ?_
        refine tk0 17 ?_
        refine tk0 18 ?_
        refine tk0 19 ?_
        refine tk0 20 ?_
        refine tk 21 (v := ?_) ?_ ?_; rotate_left
        · refine Or.inl ⟨by rfl, ?_⟩; intro w hSw; obtain ⟨f0, f1, f2, f3⟩ := FP.out w hSw; go_simp; first | done | with_reducible rfl
        refine tk0 22 ?_
        refine tk 23 (v := ?_) ?_ ?_; rotate_left
        · refine Or.inl ⟨by rfl, ?_⟩; intro w hSw; obtain ⟨f0, f1, f2, f3⟩ := FT.out w hSw; go_simp; first | done | with_reducible rfl
        refine tk0 24 ?_
        refine tk0 25 ?_
        refine tk0 26 ?_
        refine tk 27 (v := ?_) ?_ ?_; rotate_left
        · refine Or.inl ⟨by rfl, ?_⟩; intro w hSw; obtain ⟨f0, f1, f2, f3⟩ := FP.out w hSw; go_simp; first | done | with_reducible rfl
        refine tk0 28 ?_
        refine tk 29 (v := ?_) ?_ ?_; rotate_left
        · refine Or.inl ⟨by rfl, ?_⟩; intro w hSw; obtain ⟨f0, f1, f2, f3⟩ := FT.out w hSw; go_simp; first | done | with_reducible rfl
        refine tk0 30 ?_
        refine tk 31 (v := ?_) ?_ ?_; rotate_left
        · refine Or.inl ⟨by rfl, ?_⟩; intro w hSw; obtain ⟨f0, f1, f2, f3⟩ := FP.out w hSw; go_simp; first | done | with_reducible rfl
        refine rd1 32 (fun K hK => ?_)
        go_simp
        have hc := kl w2
        go_at_call 44
        refine hc.mono ?_
        rintro e w3 ⟨rfl, hb⟩
        replace BD := tbt BD hb
        clear hc hb
        go_wp2_with fail
        refine hK.out _ _ BD.out (fun hHeld => ?_)
        clear hK K
        refine tk0 33 ?_
        refine tk0 34 ?_
        refine tk0 35 ?_
        refine tk0 36 ?_
        refine wpAnyH_done (by kernel_rfl) ?_ _
        clear hHeld
        have HRES : Hid (offerS ⟨o, n, c, b⟩ s = (⟨o, n, c, b⟩, 4)) := Lib.hid (by rw [HO.out]; rw [if_pos ⟨HNX.out, hch⟩])
        have KR : Hid (w3.heap[w.heap.size + 1]? = some (.cells #[.int .i64 0, .int .i64 0, .int .i64 0, .string ⟨#[]⟩] 34 (0, 0))) := Lib.hid (FR.out _ BD.out)
        obtain ⟨t0, t1, t2, t3⟩ := FT.out _ BD.out
        obtain ⟨p0, p1, p2, p3⟩ := FP.out _ BD.out
        have f0 := tcr KR 0
        have f1 := tcr KR 1
        have f2 := tcr KR 2
        have f3 := tcr KR 3
        have z0 := tfr KR 0
        have z1 := tfr KR 1
        have z2 := tfr KR 2
        have z3 := tfr KR 3
        replace BB := Lib.hid (BB.out.trans (BD.out.mono BB.out.size))
        clear HO FT FR kt kl HT HN FP BD
        go_wp2_with fail
        obtain ⟨j0, q1, q2, q3, q4⟩ := info_parts infoTkr
        refine bodyPost_ret (results_cell_row2 (P := Tryz.prog) rfl _ _ (w.heap.size + 1) _ _ (0, 0) _ _ rfl rfl (storeT KR.out) Tryz.underlying34 rfl (by rw [q1]; simp [q3])) rfl ⟨by rw [HRES.out]; rfl, below4 BB.out (by omega)⟩
    · have e3 : (pn == n) = false := by rw [beq_eq_false_iff_ne]; exact hnx
      refine tk 0 (v := ?_) ?_ ?_; rotate_left
      · refine Or.inl ⟨by rfl, ?_⟩; intro w hSw; obtain ⟨f0, f1, f2, f3⟩ := FT.out w hSw; go_simp; first | done | with_reducible rfl
      refine rd1 1 (fun K hK => ?_)
      go_simp
      have hc := kt zD
      go_at_call 43
      refine hc.mono ?_
      rintro e w2 ⟨rfl, hb⟩
      replace BD := tbt BD hb
      clear hc hb
      go_wp2_with fail
      refine hK.out _ _ BD.out (fun hHeld => ?_)
      clear hK K
      refine tk0 2 ?_
      refine tk0 3 ?_
      refine tk0 4 ?_
      refine tk0 5 ?_
      refine tk0 6 ?_
      refine tk0 7 ?_
      refine tk0 8 ?_
      refine tk 9 (v := ?_) ?_ ?_; rotate_left
      · refine Or.inl ⟨by rfl, ?_⟩; intro w hSw; obtain ⟨f0, f1, f2, f3⟩ := FT.out w hSw; go_simp; first | done | with_reducible rfl
      refine tk0 10 ?_
      refine tk0 11 ?_
      refine tk0 12 ?_
      refine tk 13 (v := ?_) ?_ ?_; rotate_left
      · refine Or.inl ⟨by rfl, ?_⟩; intro w hSw; obtain ⟨f0, f1, f2, f3⟩ := FT.out w hSw; go_simp; first | done | with_reducible rfl
      refine tk0 14 ?_
      refine tk 15 (v := ?_) ?_ ?_; rotate_left
      · refine Or.inl ⟨by rfl, ?_⟩; intro w hSw; obtain ⟨f0, f1, f2, f3⟩ := FP.out w hSw; go_simp; first | done | with_reducible rfl
      refine tk0 16 ?_
      refine tk0 17 ?_
      refine tk0 18 ?_
      refine tk0 19 ?_
      refine tk0 20 ?_
      refine tk 21 (v := ?_) ?_ ?_; rotate_left
      · refine Or.inl ⟨by rfl, ?_⟩; intro w hSw; obtain ⟨f0, f1, f2, f3⟩ := FP.out w hSw; go_simp; first | done | with_reducible rfl
      refine tk0 22 ?_
      refine tk 23 (v := ?_) ?_ ?_; rotate_left
      · refine Or.inl ⟨by rfl, ?_⟩; intro w hSw; obtain ⟨f0, f1, f2, f3⟩ := FT.out w hSw; go_simp; first | done | with_reducible rfl
      refine tk0 24 ?_
      refine tk0 25 ?_
      refine tku 26 ?_
      refine tku 27 ?_
      refine tku 28 ?_
      refine tku 29 ?_
      refine tku 30 ?_
      refine tku 31 ?_
      refine tku 32 ?_
      refine tku 33 ?_
      refine tk0 34 ?_
      refine tk0 35 ?_
      refine tk0 36 ?_
      refine wpAnyH_done (by kernel_rfl) ?_ _
      clear hHeld
      by_cases hl : pn < n
      · have e6 : decide (pn < n) = true := decide_eq_true hl
        have HRES : Hid (offerS ⟨o, n, c, b⟩ s = (⟨o, n, c, b⟩, 2)) := Lib.hid (by rw [HO.out]; rw [if_neg (fun h => hnx h.1), if_pos hl])
        have KR : Hid (w2.heap[w.heap.size + 1]? = some (.cells #[.int .i64 0, .int .i64 0, .int .i64 0, .string ⟨#[]⟩] 34 (0, 0))) := Lib.hid (FR.out _ BD.out)
        obtain ⟨t0, t1, t2, t3⟩ := FT.out _ BD.out
        obtain ⟨p0, p1, p2, p3⟩ := FP.out _ BD.out
        have f0 := tcr KR 0
        have f1 := tcr KR 1
        have f2 := tcr KR 2
        have f3 := tcr KR 3
        have z0 := tfr KR 0
        have z1 := tfr KR 1
        have z2 := tfr KR 2
        have z3 := tfr KR 3
        replace BB := Lib.hid (BB.out.trans (BD.out.mono BB.out.size))
        clear HO FT FR kt kl HT HN FP BD
        go_wp2_with fail
        obtain ⟨j0, q1, q2, q3, q4⟩ := info_parts infoTkr
        refine bodyPost_ret (results_cell_row2 (P := Tryz.prog) rfl _ _ (w.heap.size + 1) _ _ (0, 0) _ _ rfl rfl (storeT KR.out) Tryz.underlying34 rfl (by rw [q1]; simp [q3])) rfl ⟨by rw [HRES.out]; rfl, below4 BB.out (by omega)⟩
      · have e6 : decide (pn < n) = false := by rw [decide_eq_false_iff_not]; exact hl
        have e7 : decide (n < pn) = true := by rw [decide_eq_true_iff]; omega
        have HRES : Hid (offerS ⟨o, n, c, b⟩ s = (⟨o, n, c, b⟩, 3)) := Lib.hid (by rw [HO.out]; rw [if_neg (fun h => hnx h.1), if_neg hl, if_pos (by omega)])
        have KR : Hid (w2.heap[w.heap.size + 1]? = some (.cells #[.int .i64 0, .int .i64 0, .int .i64 0, .string ⟨#[]⟩] 34 (0, 0))) := Lib.hid (FR.out _ BD.out)
        obtain ⟨t0, t1, t2, t3⟩ := FT.out _ BD.out
        obtain ⟨p0, p1, p2, p3⟩ := FP.out _ BD.out
        have f0 := tcr KR 0
        have f1 := tcr KR 1
        have f2 := tcr KR 2
        have f3 := tcr KR 3
        have z0 := tfr KR 0
        have z1 := tfr KR 1
        have z2 := tfr KR 2
        have z3 := tfr KR 3
        replace BB := Lib.hid (BB.out.trans (BD.out.mono BB.out.size))
        clear HO FT FR kt kl HT HN FP BD
        go_wp2_with fail
        obtain ⟨j0, q1, q2, q3, q4⟩ := info_parts infoTkr
        refine bodyPost_ret (results_cell_row2 (P := Tryz.prog) rfl _ _ (w.heap.size + 1) _ _ (0, 0) _ _ rfl rfl (storeT KR.out) Tryz.underlying34 rfl (by rw [q1]; simp [q3])) rfl ⟨by rw [HRES.out]; rfl, below4 BB.out (by omega)⟩
  · have e1 : decide (0 < o) = false := by rw [decide_eq_false_iff_not]; exact hpos
    clear hbad
    by_cases hnx : pn = n
    · have e3 : (pn == n) = true := by rw [hnx]; simp
      have HNX := Lib.hid hnx
      clear hnx
      by_cases hch : pch = (lk : Int)
      · have e4 : (pch != (lk : Int)) = false := by rw [hch]; simp
        have HCH := Lib.hid hch
        clear hch
        refine tk 0 (v := ?_) ?_ ?_; rotate_left
        · refine Or.inl ⟨by rfl, ?_⟩; intro w hSw; obtain ⟨f0, f1, f2, f3⟩ := FT.out w hSw; go_simp; first | done | with_reducible rfl
        refine rd1 1 (fun K hK => ?_)
        go_simp
        have hc := kt zD
        go_at_call 43
        refine hc.mono ?_
        rintro e w2 ⟨rfl, hb⟩
        replace BD := tbt BD hb
        clear hc hb
        go_wp2_with fail
        refine hK.out _ _ BD.out (fun hHeld => ?_)
        clear hK K
        refine tk0 2 ?_
        refine tk0 3 ?_
        refine tk0 4 ?_
        refine tk0 5 ?_
        refine tk0 6 ?_
        refine tk0 7 ?_
        refine tk0 8 ?_
        refine tk 9 (v := ?_) ?_ ?_; rotate_left
        · refine Or.inl ⟨by rfl, ?_⟩; intro w hSw; obtain ⟨f0, f1, f2, f3⟩ := FT.out w hSw; go_simp; first | done | with_reducible rfl
        refine tk0 10 ?_
        refine tk0 11 ?_
        refine tku 12 ?_
        refine tku 13 ?_
        refine tku 14 ?_
        refine tku 15 ?_
        refine tku 16 ?_
        refine tk0 17 ?_
        refine tk0 18 ?_
        refine tk0 19 ?_
        refine tk0 20 ?_
        refine tk 21 (v := ?_) ?_ ?_; rotate_left
        · refine Or.inl ⟨by rfl, ?_⟩; intro w hSw; obtain ⟨f0, f1, f2, f3⟩ := FP.out w hSw; go_simp; first | done | with_reducible rfl
        refine tk0 22 ?_
        refine tk 23 (v := ?_) ?_ ?_; rotate_left
        · refine Or.inl ⟨by rfl, ?_⟩; intro w hSw; obtain ⟨f0, f1, f2, f3⟩ := FT.out w hSw; go_simp; first | done | with_reducible rfl
        refine tk0 24 ?_
        refine tk0 25 ?_
        refine tk0 26 ?_
        refine tk 27 (v := ?_) ?_ ?_; rotate_left
        · refine Or.inl ⟨by rfl, ?_⟩; intro w hSw; obtain ⟨f0, f1, f2, f3⟩ := FP.out w hSw; go_simp; first | done | with_reducible rfl
        refine tk0 28 ?_
        refine tk 29 (v := ?_) ?_ ?_; rotate_left
        · refine Or.inl ⟨by rfl, ?_⟩; intro w hSw; obtain ⟨f0, f1, f2, f3⟩ := FT.out w hSw; go_simp; first | done | with_reducible rfl
        refine tk0 30 ?_
        refine tk 31 (v := ?_) ?_ ?_; rotate_left
        · refine Or.inl ⟨by rfl, ?_⟩; intro w hSw; obtain ⟨f0, f1, f2, f3⟩ := FP.out w hSw; go_simp; first | done | with_reducible rfl
        refine rd1 32 (fun K hK => ?_)
        go_simp
        have hc := kl w2
        go_at_call 44
        refine hc.mono ?_
        rintro e w3 ⟨rfl, hb⟩
        replace BD := tbt BD hb
        clear hc hb
        go_wp2_with fail
        refine hK.out _ _ BD.out (fun hHeld => ?_)
        clear hK K
        refine tk0 33 ?_
        refine tk0 34 ?_
        refine tk0 35 ?_
        refine tk0 36 ?_
        refine wpAnyH_done (by kernel_rfl) ?_ _
        clear hHeld
        have hnx := HNX.out
        have hlt : decide (pn < n) = false := by rw [decide_eq_false_iff_not]; omega
        have hgt : decide (n < pn) = false := by rw [decide_eq_false_iff_not]; omega
        have hn600 : n ≤ 601 := by rcases Classical.em (o = 0) with h | h; have := HN h; omega; have := HT h; omega
        have hwn : IntKind.i64.wrap (n + 1) = n + 1 := by rw [IntKind.wrap_i64]; omega
        have ns : ¬ 9223372036854775807 < b.size + pb.size := by omega
        clear hnx
        by_cases hlast : pn = po
        · have e5 : (pn == po) = true := by rw [hlast]; simp
          have HLA := Lib.hid hlast
          clear hlast
          have HRES : Hid (offerS ⟨o, n, c, b⟩ s = (⟨po, n + 1, pch, b ++ pb⟩, 1)) := Lib.hid (by rw [HO.out]; rw [if_neg (fun h => h.2 HCH.out), if_neg (by have := HNX.out; omega), if_neg (by have := HNX.out; omega), if_pos HLA.out])
          have KR : Hid (w3.heap[w.heap.size + 1]? = some (.cells #[.int .i64 0, .int .i64 0, .int .i64 0, .string ⟨#[]⟩] 34 (0, 0))) := Lib.hid (FR.out _ BD.out)
          obtain ⟨t0, t1, t2, t3⟩ := FT.out _ BD.out
          obtain ⟨p0, p1, p2, p3⟩ := FP.out _ BD.out
          have f0 := tcr KR 0
          have f1 := tcr KR 1
          have f2 := tcr KR 2
          have f3 := tcr KR 3
          have z0 := tfr KR 0
          have z1 := tfr KR 1
          have z2 := tfr KR 2
          have z3 := tfr KR 3
          replace BB := Lib.hid (BB.out.trans (BD.out.mono BB.out.size))
          clear HO FT FR kt kl HT HN
          obtain ⟨V, hV⟩ : ∃ V, V = w3.alloc (.cells #[.int .i64 po, .int .i64 (n + 1), .int .i64 pch, .string (b ++ pb)] 34) := ⟨_, rfl⟩
          have bV : Below w3.heap.size w3 V := by rw [hV]; exact (Below.refl _ _).alloc (Nat.le_refl _) _
          have LR : Hid (w.heap.size + 1 < w3.heap.size) := Lib.hid (Array.getElem?_eq_some_iff.1 KR.out).1
          replace KR := tkb bV LR KR
          have KV : Hid (V.heap[w3.heap.size]? = some (.cells #[.int .i64 po, .int .i64 (n + 1), .int .i64 pch, .string (b ++ pb)] 34 (0, 0))) := Lib.hid (by rw [hV]; exact heap_new _ _)
          replace BB := tbt BB bV
          have v0 := tcr KV 0
          have v1 := tcr KV 1
          have v2 := tcr KV 2
          have v3 := tcr KV 3
          replace f0 := tcr KR 0
          replace f1 := tcr KR 1
          replace f2 := tcr KR 2
          replace f3 := tcr KR 3
          replace z0 := tfr KR 0
          replace z1 := tfr KR 1
          replace z2 := tfr KR 2
          replace z3 := tfr KR 3
          rw [hV] at v0 v1 v2 v3 f0 f1 f2 f3 z0 z1 z2 z3
          obtain ⟨r0, r1, r2, r3⟩ := FP.out V (BD.out.trans (bV.mono BD.out.size))
          rw [hV] at r0 r1 r2 r3
          clear FP BD bV
          go_wp2_with fail
          rw [← hV]
          obtain ⟨j0, q1, q2, q3, q4⟩ := info_parts infoTkr
          refine bodyPost_ret (results_cell_row2 (P := Tryz.prog) rfl _ _ (w.heap.size + 1) _ _ (0, 0) _ _ rfl rfl (storeT KR.out) Tryz.underlying34 rfl (by rw [q1]; simp [q3])) rfl ⟨by rw [HRES.out]; rfl, below4 BB.out (by omega)⟩
        · have e5 : (pn == po) = false := by rw [beq_eq_false_iff_ne]; exact hlast
          have HLA := Lib.hid hlast
          clear hlast
          have HRES : Hid (offerS ⟨o, n, c, b⟩ s = (⟨po, n + 1, pch, b ++ pb⟩, 0)) := Lib.hid (by rw [HO.out]; rw [if_neg (fun h => h.2 HCH.out), if_neg (by have := HNX.out; omega), if_neg (by have := HNX.out; omega), if_neg HLA.out])
          have KR : Hid (w3.heap[w.heap.size + 1]? = some (.cells #[.int .i64 0, .int .i64 0, .int .i64 0, .string ⟨#[]⟩] 34 (0, 0))) := Lib.hid (FR.out _ BD.out)
          obtain ⟨t0, t1, t2, t3⟩ := FT.out _ BD.out
          obtain ⟨p0, p1, p2, p3⟩ := FP.out _ BD.out
          have f0 := tcr KR 0
          have f1 := tcr KR 1
          have f2 := tcr KR 2
          have f3 := tcr KR 3
          have z0 := tfr KR 0
          have z1 := tfr KR 1
          have z2 := tfr KR 2
          have z3 := tfr KR 3
          replace BB := Lib.hid (BB.out.trans (BD.out.mono BB.out.size))
          clear HO FT FR kt kl HT HN
          obtain ⟨V, hV⟩ : ∃ V, V = w3.alloc (.cells #[.int .i64 po, .int .i64 (n + 1), .int .i64 pch, .string (b ++ pb)] 34) := ⟨_, rfl⟩
          have bV : Below w3.heap.size w3 V := by rw [hV]; exact (Below.refl _ _).alloc (Nat.le_refl _) _
          have LR : Hid (w.heap.size + 1 < w3.heap.size) := Lib.hid (Array.getElem?_eq_some_iff.1 KR.out).1
          replace KR := tkb bV LR KR
          have KV : Hid (V.heap[w3.heap.size]? = some (.cells #[.int .i64 po, .int .i64 (n + 1), .int .i64 pch, .string (b ++ pb)] 34 (0, 0))) := Lib.hid (by rw [hV]; exact heap_new _ _)
          replace BB := tbt BB bV
          have v0 := tcr KV 0
          have v1 := tcr KV 1
          have v2 := tcr KV 2
          have v3 := tcr KV 3
          replace f0 := tcr KR 0
          replace f1 := tcr KR 1
          replace f2 := tcr KR 2
          replace f3 := tcr KR 3
          replace z0 := tfr KR 0
          replace z1 := tfr KR 1
          replace z2 := tfr KR 2
          replace z3 := tfr KR 3
          rw [hV] at v0 v1 v2 v3 f0 f1 f2 f3 z0 z1 z2 z3
          obtain ⟨r0, r1, r2, r3⟩ := FP.out V (BD.out.trans (bV.mono BD.out.size))
          rw [hV] at r0 r1 r2 r3
          clear FP BD bV
          go_wp2_with fail
          rw [← hV]
          obtain ⟨j0, q1, q2, q3, q4⟩ := info_parts infoTkr
          refine bodyPost_ret (results_cell_row2 (P := Tryz.prog) rfl _ _ (w.heap.size + 1) _ _ (0, 0) _ _ rfl rfl (storeT KR.out) Tryz.underlying34 rfl (by rw [q1]; simp [q3])) rfl ⟨by rw [HRES.out]; rfl, below4 BB.out (by omega)⟩
      · have e4 : (pch != (lk : Int)) = true := by rw [bne_iff_ne]; exact hch
        refine tk 0 (v := ?_) ?_ ?_; rotate_left
        · refine Or.inl ⟨by rfl, ?_⟩; intro w hSw; obtain ⟨f0, f1, f2, f3⟩ := FT.out w hSw; go_simp; first | done | with_reducible rfl
        refine rd1 1 (fun K hK => ?_)
        go_simp
        have hc := kt zD
        go_at_call 43
        refine hc.mono ?_
        rintro e w2 ⟨rfl, hb⟩
        replace BD := tbt BD hb
        clear hc hb
        go_wp2_with fail
        refine hK.out _ _ BD.out (fun hHeld => ?_)
        clear hK K
        refine tk0 2 ?_
        refine tk0 3 ?_
        refine tk0 4 ?_
        refine tk0 5 ?_
        refine tk0 6 ?_
        refine tk0 7 ?_
        refine tk0 8 ?_
        refine tk 9 (v := ?_) ?_ ?_; rotate_left
        · refine Or.inl ⟨by rfl, ?_⟩; intro w hSw; obtain ⟨f0, f1, f2, f3⟩ := FT.out w hSw; go_simp; first | done | with_reducible rfl
        refine tk0 10 ?_
        refine tk0 11 ?_
        refine tku 12 ?_
        refine tku 13 ?_
        refine tku 14 ?_
        refine tku 15 ?_
        refine tku 16 ?_
        refine tk0 17 ?_
        refine tk0 18 ?_
        refine tk0 19 ?_
        refine tk0 20 ?_
        refine tk 21 (v := ?_) ?_ ?_; rotate_left
        · refine Or.inl ⟨by rfl, ?_⟩; intro w hSw; obtain ⟨f0, f1, f2, f3⟩ := FP.out w hSw; go_simp; first | done | with_reducible rfl
        refine tk0 22 ?_
        refine tk 23 (v := ?_) ?_ ?_; rotate_left
        · refine Or.inl ⟨by rfl, ?_⟩; intro w hSw; obtain ⟨f0, f1, f2, f3⟩ := FT.out w hSw; go_simp; first | done | with_reducible rfl
        refine tk0 24 ?_
        refine tk0 25 ?_
        refine tk0 26 ?_
        refine tk 27 (v := ?_) ?_ ?_; rotate_left
        · refine Or.inl ⟨by rfl, ?_⟩; intro w hSw; obtain ⟨f0, f1, f2, f3⟩ := FP.out w hSw; go_simp; first | done | with_reducible rfl
        refine tk0 28 ?_
        refine tk 29 (v := ?_) ?_ ?_; rotate_left
        · refine Or.inl ⟨by rfl, ?_⟩; intro w hSw; obtain ⟨f0, f1, f2, f3⟩ := FT.out w hSw; go_simp; first | done | with_reducible rfl
        refine tk0 30 ?_
        refine tk 31 (v := ?_) ?_ ?_; rotate_left
        · refine Or.inl ⟨by rfl, ?_⟩; intro w hSw; obtain ⟨f0, f1, f2, f3⟩ := FP.out w hSw; go_simp; first | done | with_reducible rfl
        refine rd1 32 (fun K hK => ?_)
        go_simp
        have hc := kl w2
        go_at_call 44
        refine hc.mono ?_
        rintro e w3 ⟨rfl, hb⟩
        replace BD := tbt BD hb
        clear hc hb
        go_wp2_with fail
        refine hK.out _ _ BD.out (fun hHeld => ?_)
        clear hK K
        refine tk0 33 ?_
        refine tk0 34 ?_
        refine tk0 35 ?_
        refine tk0 36 ?_
        refine wpAnyH_done (by kernel_rfl) ?_ _
        clear hHeld
        have HRES : Hid (offerS ⟨o, n, c, b⟩ s = (⟨o, n, c, b⟩, 4)) := Lib.hid (by rw [HO.out]; rw [if_pos ⟨HNX.out, hch⟩])
        have KR : Hid (w3.heap[w.heap.size + 1]? = some (.cells #[.int .i64 0, .int .i64 0, .int .i64 0, .string ⟨#[]⟩] 34 (0, 0))) := Lib.hid (FR.out _ BD.out)
        obtain ⟨t0, t1, t2, t3⟩ := FT.out _ BD.out
        obtain ⟨p0, p1, p2, p3⟩ := FP.out _ BD.out
        have f0 := tcr KR 0
        have f1 := tcr KR 1
        have f2 := tcr KR 2
        have f3 := tcr KR 3
        have z0 := tfr KR 0
        have z1 := tfr KR 1
        have z2 := tfr KR 2
        have z3 := tfr KR 3
        replace BB := Lib.hid (BB.out.trans (BD.out.mono BB.out.size))
        clear HO FT FR kt kl HT HN FP BD
        go_wp2_with fail
        obtain ⟨j0, q1, q2, q3, q4⟩ := info_parts infoTkr
        refine bodyPost_ret (results_cell_row2 (P := Tryz.prog) rfl _ _ (w.heap.size + 1) _ _ (0, 0) _ _ rfl rfl (storeT KR.out) Tryz.underlying34 rfl (by rw [q1]; simp [q3])) rfl ⟨by rw [HRES.out]; rfl, below4 BB.out (by omega)⟩
    · have e3 : (pn == n) = false := by rw [beq_eq_false_iff_ne]; exact hnx
      refine tk 0 (v := ?_) ?_ ?_; rotate_left
      · refine Or.inl ⟨by rfl, ?_⟩; intro w hSw; obtain ⟨f0, f1, f2, f3⟩ := FT.out w hSw; go_simp; first | done | with_reducible rfl
      refine rd1 1 (fun K hK => ?_)
      go_simp
      have hc := kt zD
      go_at_call 43
      refine hc.mono ?_
      rintro e w2 ⟨rfl, hb⟩
      replace BD := tbt BD hb
      clear hc hb
      go_wp2_with fail
      refine hK.out _ _ BD.out (fun hHeld => ?_)
      clear hK K
      refine tk0 2 ?_
      refine tk0 3 ?_
      refine tk0 4 ?_
      refine tk0 5 ?_
      refine tk0 6 ?_
      refine tk0 7 ?_
      refine tk0 8 ?_
      refine tk 9 (v := ?_) ?_ ?_; rotate_left
      · refine Or.inl ⟨by rfl, ?_⟩; intro w hSw; obtain ⟨f0, f1, f2, f3⟩ := FT.out w hSw; go_simp; first | done | with_reducible rfl
      refine tk0 10 ?_
      refine tk0 11 ?_
      refine tku 12 ?_
      refine tku 13 ?_
      refine tku 14 ?_
      refine tku 15 ?_
      refine tku 16 ?_
      refine tk0 17 ?_
      refine tk0 18 ?_
      refine tk0 19 ?_
      refine tk0 20 ?_
      refine tk 21 (v := ?_) ?_ ?_; rotate_left
      · refine Or.inl ⟨by rfl, ?_⟩; intro w hSw; obtain ⟨f0, f1, f2, f3⟩ := FP.out w hSw; go_simp; first | done | with_reducible rfl
      refine tk0 22 ?_
      refine tk 23 (v := ?_) ?_ ?_; rotate_left
      · refine Or.inl ⟨by rfl, ?_⟩; intro w hSw; obtain ⟨f0, f1, f2, f3⟩ := FT.out w hSw; go_simp; first | done | with_reducible rfl
      refine tk0 24 ?_
      refine tk0 25 ?_
      refine tku 26 ?_
      refine tku 27 ?_
      refine tku 28 ?_
      refine tku 29 ?_
      refine tku 30 ?_
      refine tku 31 ?_
      refine tku 32 ?_
      refine tku 33 ?_
      refine tk0 34 ?_
      refine tk0 35 ?_
      refine tk0 36 ?_
      refine wpAnyH_done (by kernel_rfl) ?_ _
      clear hHeld
      by_cases hl : pn < n
      · have e6 : decide (pn < n) = true := decide_eq_true hl
        have HRES : Hid (offerS ⟨o, n, c, b⟩ s = (⟨o, n, c, b⟩, 2)) := Lib.hid (by rw [HO.out]; rw [if_neg (fun h => hnx h.1), if_pos hl])
        have KR : Hid (w2.heap[w.heap.size + 1]? = some (.cells #[.int .i64 0, .int .i64 0, .int .i64 0, .string ⟨#[]⟩] 34 (0, 0))) := Lib.hid (FR.out _ BD.out)
        obtain ⟨t0, t1, t2, t3⟩ := FT.out _ BD.out
        obtain ⟨p0, p1, p2, p3⟩ := FP.out _ BD.out
        have f0 := tcr KR 0
        have f1 := tcr KR 1
        have f2 := tcr KR 2
        have f3 := tcr KR 3
        have z0 := tfr KR 0
        have z1 := tfr KR 1
        have z2 := tfr KR 2
        have z3 := tfr KR 3
        replace BB := Lib.hid (BB.out.trans (BD.out.mono BB.out.size))
        clear HO FT FR kt kl HT HN FP BD
        go_wp2_with fail
        obtain ⟨j0, q1, q2, q3, q4⟩ := info_parts infoTkr
        refine bodyPost_ret (results_cell_row2 (P := Tryz.prog) rfl _ _ (w.heap.size + 1) _ _ (0, 0) _ _ rfl rfl (storeT KR.out) Tryz.underlying34 rfl (by rw [q1]; simp [q3])) rfl ⟨by rw [HRES.out]; rfl, below4 BB.out (by omega)⟩
      · have e6 : decide (pn < n) = false := by rw [decide_eq_false_iff_not]; exact hl
        have e7 : decide (n < pn) = true := by rw [decide_eq_true_iff]; omega
        have HRES : Hid (offerS ⟨o, n, c, b⟩ s = (⟨o, n, c, b⟩, 3)) := Lib.hid (by rw [HO.out]; rw [if_neg (fun h => hnx h.1), if_neg hl, if_pos (by omega)])
        have KR : Hid (w2.heap[w.heap.size + 1]? = some (.cells #[.int .i64 0, .int .i64 0, .int .i64 0, .string ⟨#[]⟩] 34 (0, 0))) := Lib.hid (FR.out _ BD.out)
        obtain ⟨t0, t1, t2, t3⟩ := FT.out _ BD.out
        obtain ⟨p0, p1, p2, p3⟩ := FP.out _ BD.out
        have f0 := tcr KR 0
        have f1 := tcr KR 1
        have f2 := tcr KR 2
        have f3 := tcr KR 3
        have z0 := tfr KR 0
        have z1 := tfr KR 1
        have z2 := tfr KR 2
        have z3 := tfr KR 3
        replace BB := Lib.hid (BB.out.trans (BD.out.mono BB.out.size))
        clear HO FT FR kt kl HT HN FP BD
        go_wp2_with fail
        obtain ⟨j0, q1, q2, q3, q4⟩ := info_parts infoTkr
        refine bodyPost_ret (results_cell_row2 (P := Tryz.prog) rfl _ _ (w.heap.size + 1) _ _ (0, 0) _ _ rfl rfl (storeT KR.out) Tryz.underlying34 rfl (by rw [q1]; simp [q3])) rfl ⟨by rw [HRES.out]; rfl, below4 BB.out (by omega)⟩
end Go.Proofs.YtdpjdjkfedcojaaGreat
