/- What the program's Offer answers. Condition: texts of a size that a text may have. -/
import Derived.Test.YtdpjdjkfedcojaaBaseA
import Derived.Test.YtdpjdjkfedcojaaImplTkA
import Derived.Test.YtdpjdjkfedcojaaImplTkB
import Derived.Test.YtdpjdjkfedcojaaSpecTk
import Derived.Test.YtdpjdjkfedcojaaImplGet
namespace Go.Proofs.Ytdpjdjkfedcojaa
open Go.RowKit
set_option linter.unusedVariables false
set_option linter.unusedSimpArgs false

theorem offer_codeI (t : Tkr) (s : ByteArray) : offerS t s = if (!tkrOk t || (!(getP s).2 || rejS t (getP s).1)) = true then (t, 4) else if (getP s).1.no < t.nx then (t, 2) else if t.nx < (getP s).1.no then (t, 3) else (⟨(getP s).1.of, t.nx + 1, (getP s).1.ch, t.b ++ (getP s).1.b⟩, if (getP s).1.no = (getP s).1.of then 1 else 0) := by
  obtain ⟨p, hp⟩ : ∃ p, p = (getP s).1 := ⟨_, rfl⟩
  unfold offerS
  rw [← hp]
  cases h1 : tkrOk t
  · simp
  cases h2 : (getP s).2
  · simp
  simp only [Bool.not_true, Bool.false_or]
  rw [if_neg (by decide), if_neg (by decide)]
  unfold rejS
  by_cases ha : 0 < t.of ∧ ¬ t.of = p.of
  · rw [if_pos ha, if_pos (by simp [ha.1, ha.2])]
  · rw [if_neg ha]
    by_cases hb : p.no = t.nx ∧ ¬ p.ch = (linkN t.ch p.b : Nat)
    · rw [if_pos hb, if_pos (by simp [hb.1, hb.2])]
    · rw [if_neg hb]
      have e : (decide (0 < t.of) && !decide (t.of = p.of) || decide (p.no = t.nx) && !decide (p.ch = (linkN t.ch p.b : Nat))) = false := by
        rw [Bool.eq_false_iff]
        intro h
        simp only [Bool.or_eq_true, Bool.and_eq_true, decide_eq_true_eq, Bool.not_eq_true', decide_eq_false_iff_not] at h
        exact h.elim ha hb
      rw [e, if_neg (show ¬ (false = true) by decide)]
theorem hp0_new {X : World} : Hp0 ((X.alloc (.cells #[] 3)).alloc (.cells #[.slice (some ⟨X.heap.size, 0, none⟩) 0 0] 67)) X.heap.size (X.heap.size + 1) := by
  refine ⟨X.heap.size, 0, ?_, by omega, by omega, rfl, Nat.le_refl _, Nat.zero_le _, Nat.le_refl _, by simp; omega, .inl ⟨rfl, rfl⟩⟩
  simpa using heap_new (X.alloc (.cells #[] 3)) (.cells #[.slice (some ⟨X.heap.size, 0, none⟩) 0 0] 67)
set_option maxRecDepth 100000 in
set_option maxHeartbeats 8000000 in
theorem impl_offer (t : Tkr) (s : ByteArray) (w : World) (hf : FitTkr t) (hb8 : t.b.size ≤ 1099511627776) (hs : s.size ≤ 1099511627776) :
    Calls Try.prog 11 #[tkrV t, .string s] w fun e w' => e = .returned (.tuple #[tkrV (offerS t s).1, .int .i64 (offerS t s).2]) ∧ Below w.heap.size w w' := by
  have kt := fun w => impl_takerOk t w hf
  have kg := fun w => impl_getPiece s w hs
  have hgp := getP_fit s
  have HO := Lib.hid (offer_codeI t s)
  have krj := fun w => impl_rejects t (getP s).1 w hf (by omega)
  have kw := fun w (h : t.nx ≤ 601) => impl_with t (getP s).1 w hf h hb8 (by omega)
  obtain ⟨⟨o1, o2⟩, ⟨n1, n2⟩, ⟨c1, c2⟩, hb⟩ := hf
  obtain ⟨p, hp⟩ : ∃ p, p = (getP s).1 := ⟨_, rfl⟩
  obtain ⟨q, hq⟩ : ∃ q, q = (getP s).2 := ⟨_, rfl⟩
  rw [← hp] at kg hgp HO krj kw
  rw [← hq] at kg HO
  clear hp hq
  have HT := fun (h : tkrOk t = true) (h0 : ¬ t.of = 0) => tkr_in h h0
  have HN : tkrOk t = true → t.of = 0 → t.nx = 1 := fun h h0 => by rw [tkr_new h h0]; rfl
  obtain ⟨r, hr⟩ : ∃ r, r = tkrOk t := ⟨_, rfl⟩
  rw [← hr] at kt HO HT HN
  clear hr
  obtain ⟨rj, hrj⟩ : ∃ r, r = rejS t p := ⟨_, rfl⟩
  rw [← hrj] at krj HO
  clear hrj
  obtain ⟨pn, po, pb, pch⟩ := p
  dsimp only at hgp
  obtain ⟨g1, g2, g3, g4, g5⟩ := hgp
  obtain ⟨o, n, c, b⟩ := t
  dsimp only at o1 o2 n1 n2 c1 c2 hb hb8 HO HT HN kw
  unfold tkrV pcV at *
  try dsimp only at *
  obtain ⟨W, hW⟩ : ∃ W, W = (w.alloc (.cells #[.int .i64 o, .int .i64 n, .int .i64 c, .string b] 25)).alloc (.cells #[.int .i64 0, .int .i64 0, .int .i64 0, .string ⟨#[]⟩] 25) := ⟨_, rfl⟩
  have BB : Hid (Below w.heap.size w W) := Lib.hid (by rw [hW]; exact ((Below.refl _ _).alloc (Nat.le_refl _) _).alloc (by simp) _)
  have hWs : W.heap.size = w.heap.size + 2 := by rw [hW]; simp
  have KT : Hid (W.heap[w.heap.size]? = some (.cells #[.int .i64 o, .int .i64 n, .int .i64 c, .string b] 25 (0, 0))) := Lib.hid (by rw [hW, Below.heap_alloc _ _ _ (by simp)]; exact heap_new _ _)
  have KR : Hid (W.heap[w.heap.size + 1]? = some (.cells #[.int .i64 0, .int .i64 0, .int .i64 0, .string ⟨#[]⟩] 25 (0, 0))) := Lib.hid (by rw [hW]; simpa using heap_new (w.alloc (.cells #[.int .i64 o, .int .i64 n, .int .i64 c, .string b] 25)) (.cells #[.int .i64 0, .int .i64 0, .int .i64 0, .string ⟨#[]⟩] 25))
  have LT : Hid (w.heap.size < W.heap.size) := Lib.hid (by omega)
  have LR : Hid (w.heap.size + 1 < W.heap.size) := Lib.hid (by omega)
  clear hWs
  go_enter Try.func11, Try.ntmps11
  have hc := kg W
  rw [hW] at hc
  go_wp2_with (go_at_call 38; refine hc.mono ?_; rintro e w1 ⟨rfl, hb1⟩; refine Hid.out ?_)
  refine Lib.hid ?_
  rw [← hW] at hb1
  clear hc hW kg
  replace KT := tkb hb1 LT KT
  replace KR := tkb hb1 LR KR
  replace LT := tlz LT hb1.size
  replace LR := tlz LR hb1.size
  replace BB := tbt BB hb1
  clear hb1
  obtain ⟨X, hX⟩ : ∃ X, X = w1.alloc (.cells #[.int .i64 pn, .int .i64 po, .string pb, .int .i64 pch] 58) := ⟨_, rfl⟩
  have bX : Below w1.heap.size w1 X := by rw [hX]; exact (Below.refl _ _).alloc (Nat.le_refl _) _
  have hXs : X.heap.size = w1.heap.size + 1 := by rw [hX]; simp
  have KP : Hid (X.heap[w1.heap.size]? = some (.cells #[.int .i64 pn, .int .i64 po, .string pb, .int .i64 pch] 58 (0, 0))) := Lib.hid (by rw [hX]; exact heap_new _ _)
  have LP : Hid (w1.heap.size < X.heap.size) := Lib.hid (by omega)
  replace KT := tkb bX LT KT
  replace KR := tkb bX LR KR
  replace LT := tlz LT bX.size
  replace LR := tlz LR bX.size
  replace BB := tbt BB bX
  clear bX
  obtain ⟨Y, hY⟩ : ∃ Y, Y = (X.alloc (.cells #[] 3)).alloc (.cells #[.slice (some ⟨X.heap.size, 0, none⟩) 0 0] 67) := ⟨_, rfl⟩
  have bY : Below X.heap.size X Y := by rw [hY]; exact ((Below.refl _ _).alloc (Nat.le_refl _) _).alloc (by simp) _
  have h0 : Hp0 Y X.heap.size (X.heap.size + 1) := by rw [hY]; exact hp0_new
  have FT : Hid (∀ w', Below X.heap.size X w' → w'.cell? ⟨w.heap.size, 0, none⟩ = some (.int .i64 o) ∧ w'.cell? ⟨w.heap.size, 1, none⟩ = some (.int .i64 n) ∧ w'.cell? ⟨w.heap.size, 2, none⟩ = some (.int .i64 c) ∧ w'.cell? ⟨w.heap.size, 3, none⟩ = some (.string b)) := Lib.hid (fun w' h => by have K := tkb h LT KT; exact ⟨tcr K 0, tcr K 1, tcr K 2, tcr K 3⟩)
  have FP : Hid (∀ w', Below X.heap.size X w' → w'.cell? ⟨w1.heap.size, 0, none⟩ = some (.int .i64 pn) ∧ w'.cell? ⟨w1.heap.size, 1, none⟩ = some (.int .i64 po) ∧ w'.cell? ⟨w1.heap.size, 2, none⟩ = some (.string pb) ∧ w'.cell? ⟨w1.heap.size, 3, none⟩ = some (.int .i64 pch)) := Lib.hid (fun w' h => by have K := tkb h LP KP; exact ⟨tcr K 0, tcr K 1, tcr K 2, tcr K 3⟩)
  have FR : Hid (∀ w', Below X.heap.size X w' → w'.heap[w.heap.size + 1]? = some (.cells #[.int .i64 0, .int .i64 0, .int .i64 0, .string ⟨#[]⟩] 25 (0, 0))) := Lib.hid (fun w' h => (tkb h LR KR).out)
  clear KT KR KP LT LR LP
  obtain ⟨hh, hhh⟩ : ∃ hh, hh = X.heap.size + 1 := ⟨_, rfl⟩
  obtain ⟨BX, hBX⟩ : ∃ k, k = X.heap.size := ⟨_, rfl⟩
  have HHX : Hid (hh = X.heap.size + 1) := Lib.hid hhh
  have HYX : Hid (w1.heap.size + 1 = X.heap.size) := Lib.hid (by omega)
  have kn0 := fun hB => impl_note0 0 BX hh Y (by rw [hBX, hhh]; exact h0) hB
  have hB0 : BX ≤ Y.heap.size := by rw [hBX]; exact bY.size
  rw [← hBX] at FT FP FR
  have BY : Hid (Below BX X Y) := Lib.hid (by rw [hBX]; exact bY)
  have HBX := Lib.hid hBX
  clear bY h0 hhh hBX hXs
  go_wp2_with fail
  rw [← hX, HYX.out, ← HHX.out, ← hY]
  clear hX hY HYX HHX
  refine (kn0 hB0).mono ?_
  rintro e y1 ⟨rfl, hp1, b1⟩
  refine Hid.out ?_
  refine Lib.hid ?_
  have B1 := Lib.hid (BY.out.trans b1)
  have L1 : Hid (BX ≤ y1.heap.size) := Lib.hid (Nat.le_trans hB0 b1.size)
  clear kn0 hB0 BY b1
  obtain ⟨a1, ha1⟩ : ∃ a, (pn == po) = a := ⟨_, rfl⟩
  obtain ⟨p0, p1, p2, p3⟩ := FP.out _ B1.out
  have hc := impl_note 1 (0) a1 BX hh 1 y1 hp1 (by omega) L1.out
  go_wp2_with (go_at_call 39; refine hc.mono ?_; rintro e y2 ⟨rfl, hp2, b2⟩; refine Hid.out ?_)
  refine Lib.hid ?_
  have B2 := Lib.hid (B1.out.trans b2)
  have L2 : Hid (BX ≤ y2.heap.size) := Lib.hid (Nat.le_trans L1.out b2.size)
  clear hc b2 hp1 p0 p1 p2 p3
  cases r
  · skip
    obtain ⟨p0, p1, p2, p3⟩ := FP.out _ B2.out
    obtain ⟨t0, t1, t2, t3⟩ := FT.out _ B2.out
    have hk := kt y2
    go_wp2_with (go_at_call 14; refine hk.mono ?_; rintro e z1 ⟨rfl, c1⟩; refine Hid.out ?_)
    refine Lib.hid ?_
    have BZ := Lib.hid (B2.out.trans (c1.mono L2.out))
    have hpz := hp2.later c1
    have LZ : Hid (BX ≤ z1.heap.size) := Lib.hid (Nat.le_trans L2.out c1.size)
    clear hk c1 hp2 p0 p1 p2 p3 t0 t1 t2 t3
    have hc := impl_note 4 (mxN a1 1 0) true BX hh 2 z1 hpz (by omega) LZ.out
    go_wp2_with (go_at_call 39; refine hc.mono ?_; rintro e y3 ⟨rfl, hp3, b3⟩; refine Hid.out ?_)
    refine Lib.hid ?_
    have B3 := Lib.hid (BZ.out.trans b3)
    have L3 : Hid (BX ≤ y3.heap.size) := Lib.hid (Nat.le_trans LZ.out b3.size)
    clear hc b3 hpz BZ LZ
    obtain ⟨a2, ha2⟩ : ∃ a, decide (pn < n) = a := ⟨_, rfl⟩
    obtain ⟨a3, ha3⟩ : ∃ a, decide (n < pn) = a := ⟨_, rfl⟩
    have hmx : ∀ u v w : Bool, mxN w 3 (mxN v 2 (mxN true 4 (mxN u 1 0))) = 4 := by decide
    have HRES : Hid (offerS ⟨o, n, c, b⟩ s = (⟨o, n, c, b⟩, 4)) := Lib.hid (by rw [HO.out]; rfl)
    obtain ⟨p0, p1, p2, p3⟩ := FP.out _ B3.out
    obtain ⟨t0, t1, t2, t3⟩ := FT.out _ B3.out
    have hc := impl_note 2 (mxN true 4 (mxN a1 1 0)) a2 BX hh 3 y3 hp3 (by omega) L3.out
    go_wp2_with (go_at_call 39; refine hc.mono ?_; rintro e y4 ⟨rfl, hp4, b4⟩; refine Hid.out ?_)
    refine Lib.hid ?_
    have B4 := Lib.hid (B3.out.trans b4)
    have L4 : Hid (BX ≤ y4.heap.size) := Lib.hid (Nat.le_trans L3.out b4.size)
    clear hc b4 hp3 p0 p1 p2 p3 t0 t1 t2 t3
    obtain ⟨p0, p1, p2, p3⟩ := FP.out _ B4.out
    obtain ⟨t0, t1, t2, t3⟩ := FT.out _ B4.out
    have hc := impl_note 3 (mxN a2 2 (mxN true 4 (mxN a1 1 0))) a3 BX hh 4 y4 hp4 (by omega) L4.out
    go_wp2_with (go_at_call 39; refine hc.mono ?_; rintro e y5 ⟨rfl, hp5, b5⟩; refine Hid.out ?_)
    refine Lib.hid ?_
    have B5 := Lib.hid (B4.out.trans b5)
    have L5 : Hid (BX ≤ y5.heap.size) := Lib.hid (Nat.le_trans L4.out b5.size)
    clear hc b5 hp4 p0 p1 p2 p3 t0 t1 t2 t3
    have hcode : mxN a3 3 (mxN a2 2 (mxN true 4 (mxN a1 1 0))) = 4 := by first | exact hmx a1 a2 a3 | (cases a1 <;> decide)
    rw [hcode] at hp5
    have hc := impl_take 4 BX hh 5 y5 hp5 (by omega) L5.out
    clear hcode
    go_wp2_with (go_at_call 41; refine hc.mono ?_; rintro e y6 ⟨rfl, b6⟩; refine Hid.out ?_)
    refine Lib.hid ?_
    have B6 := Lib.hid (B5.out.trans b6)
    clear hc b6 hp5
    have LXY : Hid (w.heap.size ≤ X.heap.size) := Lib.hid BB.out.size
    have BF : Hid (Below w.heap.size w y6) := Lib.hid (BB.out.trans (B6.out.mono (by rw [HBX.out]; exact LXY.out)))
    have KR : Hid (y6.heap[w.heap.size + 1]? = some (.cells #[.int .i64 0, .int .i64 0, .int .i64 0, .string ⟨#[]⟩] 25 (0, 0))) := Lib.hid (FR.out _ B6.out)
    obtain ⟨t0, t1, t2, t3⟩ := FT.out _ B6.out
    have f0 := tcr KR 0
    have f1 := tcr KR 1
    have f2 := tcr KR 2
    have f3 := tcr KR 3
    have z0 := tfr KR 0
    have z1 := tfr KR 1
    have z2 := tfr KR 2
    have z3 := tfr KR 3
    clear HO FT FR FP kt krj kw HT HN
    go_wp2_with fail
    obtain ⟨j0, q1, q2, q3, q4⟩ := info_parts infoTkr
    refine bodyPost_ret (results_cell_row2 (P := Try.prog) rfl _ _ (w.heap.size + 1) _ _ (0, 0) _ _ rfl rfl (storeT KR.out) Try.underlying25 rfl (by rw [q1]; simp [q3])) rfl ⟨by rw [HRES.out]; rfl, below4 BF.out (by omega)⟩
  cases q
  · skip
    obtain ⟨p0, p1, p2, p3⟩ := FP.out _ B2.out
    obtain ⟨t0, t1, t2, t3⟩ := FT.out _ B2.out
    have hk := kt y2
    go_wp2_with (go_at_call 14; refine hk.mono ?_; rintro e z1 ⟨rfl, c1⟩; refine Hid.out ?_)
    refine Lib.hid ?_
    have BZ := Lib.hid (B2.out.trans (c1.mono L2.out))
    have hpz := hp2.later c1
    have LZ : Hid (BX ≤ z1.heap.size) := Lib.hid (Nat.le_trans L2.out c1.size)
    clear hk c1 hp2 p0 p1 p2 p3 t0 t1 t2 t3
    have hc := impl_note 4 (mxN a1 1 0) true BX hh 2 z1 hpz (by omega) LZ.out
    go_wp2_with (go_at_call 39; refine hc.mono ?_; rintro e y3 ⟨rfl, hp3, b3⟩; refine Hid.out ?_)
    refine Lib.hid ?_
    have B3 := Lib.hid (BZ.out.trans b3)
    have L3 : Hid (BX ≤ y3.heap.size) := Lib.hid (Nat.le_trans LZ.out b3.size)
    clear hc b3 hpz BZ LZ
    obtain ⟨a2, ha2⟩ : ∃ a, decide (pn < n) = a := ⟨_, rfl⟩
    obtain ⟨a3, ha3⟩ : ∃ a, decide (n < pn) = a := ⟨_, rfl⟩
    have hmx : ∀ u v w : Bool, mxN w 3 (mxN v 2 (mxN true 4 (mxN u 1 0))) = 4 := by decide
    have HRES : Hid (offerS ⟨o, n, c, b⟩ s = (⟨o, n, c, b⟩, 4)) := Lib.hid (by rw [HO.out]; rfl)
    obtain ⟨p0, p1, p2, p3⟩ := FP.out _ B3.out
    obtain ⟨t0, t1, t2, t3⟩ := FT.out _ B3.out
    have hc := impl_note 2 (mxN true 4 (mxN a1 1 0)) a2 BX hh 3 y3 hp3 (by omega) L3.out
    go_wp2_with (go_at_call 39; refine hc.mono ?_; rintro e y4 ⟨rfl, hp4, b4⟩; refine Hid.out ?_)
    refine Lib.hid ?_
    have B4 := Lib.hid (B3.out.trans b4)
    have L4 : Hid (BX ≤ y4.heap.size) := Lib.hid (Nat.le_trans L3.out b4.size)
    clear hc b4 hp3 p0 p1 p2 p3 t0 t1 t2 t3
    obtain ⟨p0, p1, p2, p3⟩ := FP.out _ B4.out
    obtain ⟨t0, t1, t2, t3⟩ := FT.out _ B4.out
    have hc := impl_note 3 (mxN a2 2 (mxN true 4 (mxN a1 1 0))) a3 BX hh 4 y4 hp4 (by omega) L4.out
    go_wp2_with (go_at_call 39; refine hc.mono ?_; rintro e y5 ⟨rfl, hp5, b5⟩; refine Hid.out ?_)
    refine Lib.hid ?_
    have B5 := Lib.hid (B4.out.trans b5)
    have L5 : Hid (BX ≤ y5.heap.size) := Lib.hid (Nat.le_trans L4.out b5.size)
    clear hc b5 hp4 p0 p1 p2 p3 t0 t1 t2 t3
    have hcode : mxN a3 3 (mxN a2 2 (mxN true 4 (mxN a1 1 0))) = 4 := by first | exact hmx a1 a2 a3 | (cases a1 <;> decide)
    rw [hcode] at hp5
    have hc := impl_take 4 BX hh 5 y5 hp5 (by omega) L5.out
    clear hcode
    go_wp2_with (go_at_call 41; refine hc.mono ?_; rintro e y6 ⟨rfl, b6⟩; refine Hid.out ?_)
    refine Lib.hid ?_
    have B6 := Lib.hid (B5.out.trans b6)
    clear hc b6 hp5
    have LXY : Hid (w.heap.size ≤ X.heap.size) := Lib.hid BB.out.size
    have BF : Hid (Below w.heap.size w y6) := Lib.hid (BB.out.trans (B6.out.mono (by rw [HBX.out]; exact LXY.out)))
    have KR : Hid (y6.heap[w.heap.size + 1]? = some (.cells #[.int .i64 0, .int .i64 0, .int .i64 0, .string ⟨#[]⟩] 25 (0, 0))) := Lib.hid (FR.out _ B6.out)
    obtain ⟨t0, t1, t2, t3⟩ := FT.out _ B6.out
    have f0 := tcr KR 0
    have f1 := tcr KR 1
    have f2 := tcr KR 2
    have f3 := tcr KR 3
    have z0 := tfr KR 0
    have z1 := tfr KR 1
    have z2 := tfr KR 2
    have z3 := tfr KR 3
    clear HO FT FR FP kt krj kw HT HN
    go_wp2_with fail
    obtain ⟨j0, q1, q2, q3, q4⟩ := info_parts infoTkr
    refine bodyPost_ret (results_cell_row2 (P := Try.prog) rfl _ _ (w.heap.size + 1) _ _ (0, 0) _ _ rfl rfl (storeT KR.out) Try.underlying25 rfl (by rw [q1]; simp [q3])) rfl ⟨by rw [HRES.out]; rfl, below4 BF.out (by omega)⟩
  cases rj
  · skip
    replace HO := Lib.hid (HO.out.trans (if_neg (show ¬ ((!true || (!true || false)) = true) by decide)))
    have hn600 : n ≤ 601 := by rcases Classical.em (o = 0) with h | h; have := HN rfl h; omega; have := HT rfl h; omega
    have HN6 := Lib.hid hn600
    clear hn600
    obtain ⟨p0, p1, p2, p3⟩ := FP.out _ B2.out
    obtain ⟨t0, t1, t2, t3⟩ := FT.out _ B2.out
    have hk := kt y2
    go_wp2_with (go_at_call 14; refine hk.mono ?_; rintro e z1 ⟨rfl, c1⟩; refine Hid.out ?_)
    refine Lib.hid ?_
    have BZ := Lib.hid (B2.out.trans (c1.mono L2.out))
    have hpz := hp2.later c1
    have LZ : Hid (BX ≤ z1.heap.size) := Lib.hid (Nat.le_trans L2.out c1.size)
    clear hk c1 hp2 p0 p1 p2 p3 t0 t1 t2 t3
    obtain ⟨p0, p1, p2, p3⟩ := FP.out _ BZ.out
    obtain ⟨t0, t1, t2, t3⟩ := FT.out _ BZ.out
    have hk := krj z1
    go_wp2_with (go_at_call 40; refine hk.mono ?_; rintro e z2 ⟨rfl, c1⟩; refine Hid.out ?_)
    refine Lib.hid ?_
    have BZ2 := Lib.hid (BZ.out.trans (c1.mono LZ.out))
    have hpz2 := hpz.later c1
    have LZ2 : Hid (BX ≤ z2.heap.size) := Lib.hid (Nat.le_trans LZ.out c1.size)
    clear hk c1 hpz BZ LZ p0 p1 p2 p3 t0 t1 t2 t3
    have BZ := BZ2
    have hpz := hpz2
    have LZ := LZ2
    clear BZ2 hpz2 LZ2
    have hc := impl_note 4 (mxN a1 1 0) false BX hh 2 z2 hpz (by omega) LZ.out
    go_wp2_with (go_at_call 39; refine hc.mono ?_; rintro e y3 ⟨rfl, hp3, b3⟩; refine Hid.out ?_)
    refine Lib.hid ?_
    have B3 := Lib.hid (BZ.out.trans b3)
    have L3 : Hid (BX ≤ y3.heap.size) := Lib.hid (Nat.le_trans LZ.out b3.size)
    clear hc b3 hpz BZ LZ
    by_cases hl : pn < n
    · have ha2 : decide (pn < n) = true := decide_eq_true hl
      have ha3 : decide (n < pn) = false := by rw [decide_eq_false_iff_not]; omega
      have HRES : Hid (offerS ⟨o, n, c, b⟩ s = (⟨o, n, c, b⟩, 2)) := Lib.hid (by rw [HO.out]; rw [if_pos hl])
      obtain ⟨p0, p1, p2, p3⟩ := FP.out _ B3.out
      obtain ⟨t0, t1, t2, t3⟩ := FT.out _ B3.out
      have hc := impl_note 2 (mxN false 4 (mxN a1 1 0)) true BX hh 3 y3 hp3 (by omega) L3.out
      go_wp2_with (go_at_call 39; refine hc.mono ?_; rintro e y4 ⟨rfl, hp4, b4⟩; refine Hid.out ?_)
      refine Lib.hid ?_
      have B4 := Lib.hid (B3.out.trans b4)
      have L4 : Hid (BX ≤ y4.heap.size) := Lib.hid (Nat.le_trans L3.out b4.size)
      clear hc b4 hp3 p0 p1 p2 p3 t0 t1 t2 t3
      obtain ⟨p0, p1, p2, p3⟩ := FP.out _ B4.out
      obtain ⟨t0, t1, t2, t3⟩ := FT.out _ B4.out
      have hc := impl_note 3 (mxN true 2 (mxN false 4 (mxN a1 1 0))) false BX hh 4 y4 hp4 (by omega) L4.out
      go_wp2_with (go_at_call 39; refine hc.mono ?_; rintro e y5 ⟨rfl, hp5, b5⟩; refine Hid.out ?_)
      refine Lib.hid ?_
      have B5 := Lib.hid (B4.out.trans b5)
      have L5 : Hid (BX ≤ y5.heap.size) := Lib.hid (Nat.le_trans L4.out b5.size)
      clear hc b5 hp4 p0 p1 p2 p3 t0 t1 t2 t3
      have hcode : mxN false 3 (mxN true 2 (mxN false 4 (mxN a1 1 0))) = 2 := by first | exact hmx a1 a2 a3 | (cases a1 <;> decide)
      rw [hcode] at hp5
      have hc := impl_take 2 BX hh 5 y5 hp5 (by omega) L5.out
      clear hcode
      go_wp2_with (go_at_call 41; refine hc.mono ?_; rintro e y6 ⟨rfl, b6⟩; refine Hid.out ?_)
      refine Lib.hid ?_
      have B6 := Lib.hid (B5.out.trans b6)
      clear hc b6 hp5
      have LXY : Hid (w.heap.size ≤ X.heap.size) := Lib.hid BB.out.size
      have BF : Hid (Below w.heap.size w y6) := Lib.hid (BB.out.trans (B6.out.mono (by rw [HBX.out]; exact LXY.out)))
      have KR : Hid (y6.heap[w.heap.size + 1]? = some (.cells #[.int .i64 0, .int .i64 0, .int .i64 0, .string ⟨#[]⟩] 25 (0, 0))) := Lib.hid (FR.out _ B6.out)
      obtain ⟨t0, t1, t2, t3⟩ := FT.out _ B6.out
      have f0 := tcr KR 0
      have f1 := tcr KR 1
      have f2 := tcr KR 2
      have f3 := tcr KR 3
      have z0 := tfr KR 0
      have z1 := tfr KR 1
      have z2 := tfr KR 2
      have z3 := tfr KR 3
      clear HO FT FR FP kt krj kw HT HN
      go_wp2_with fail
      obtain ⟨j0, q1, q2, q3, q4⟩ := info_parts infoTkr
      refine bodyPost_ret (results_cell_row2 (P := Try.prog) rfl _ _ (w.heap.size + 1) _ _ (0, 0) _ _ rfl rfl (storeT KR.out) Try.underlying25 rfl (by rw [q1]; simp [q3])) rfl ⟨by rw [HRES.out]; rfl, below4 BF.out (by omega)⟩
    have ha2 : decide (pn < n) = false := decide_eq_false hl
    by_cases hg : n < pn
    · have ha3 : decide (n < pn) = true := decide_eq_true hg
      have HRES : Hid (offerS ⟨o, n, c, b⟩ s = (⟨o, n, c, b⟩, 3)) := Lib.hid (by rw [HO.out]; rw [if_neg hl, if_pos hg])
      obtain ⟨p0, p1, p2, p3⟩ := FP.out _ B3.out
      obtain ⟨t0, t1, t2, t3⟩ := FT.out _ B3.out
      have hc := impl_note 2 (mxN false 4 (mxN a1 1 0)) false BX hh 3 y3 hp3 (by omega) L3.out
      go_wp2_with (go_at_call 39; refine hc.mono ?_; rintro e y4 ⟨rfl, hp4, b4⟩; refine Hid.out ?_)
      refine Lib.hid ?_
      have B4 := Lib.hid (B3.out.trans b4)
      have L4 : Hid (BX ≤ y4.heap.size) := Lib.hid (Nat.le_trans L3.out b4.size)
      clear hc b4 hp3 p0 p1 p2 p3 t0 t1 t2 t3
      obtain ⟨p0, p1, p2, p3⟩ := FP.out _ B4.out
      obtain ⟨t0, t1, t2, t3⟩ := FT.out _ B4.out
      have hc := impl_note 3 (mxN false 2 (mxN false 4 (mxN a1 1 0))) true BX hh 4 y4 hp4 (by omega) L4.out
      go_wp2_with (go_at_call 39; refine hc.mono ?_; rintro e y5 ⟨rfl, hp5, b5⟩; refine Hid.out ?_)
      refine Lib.hid ?_
      have B5 := Lib.hid (B4.out.trans b5)
      have L5 : Hid (BX ≤ y5.heap.size) := Lib.hid (Nat.le_trans L4.out b5.size)
      clear hc b5 hp4 p0 p1 p2 p3 t0 t1 t2 t3
      have hcode : mxN true 3 (mxN false 2 (mxN false 4 (mxN a1 1 0))) = 3 := by first | exact hmx a1 a2 a3 | (cases a1 <;> decide)
      rw [hcode] at hp5
      have hc := impl_take 3 BX hh 5 y5 hp5 (by omega) L5.out
      clear hcode
      go_wp2_with (go_at_call 41; refine hc.mono ?_; rintro e y6 ⟨rfl, b6⟩; refine Hid.out ?_)
      refine Lib.hid ?_
      have B6 := Lib.hid (B5.out.trans b6)
      clear hc b6 hp5
      have LXY : Hid (w.heap.size ≤ X.heap.size) := Lib.hid BB.out.size
      have BF : Hid (Below w.heap.size w y6) := Lib.hid (BB.out.trans (B6.out.mono (by rw [HBX.out]; exact LXY.out)))
      have KR : Hid (y6.heap[w.heap.size + 1]? = some (.cells #[.int .i64 0, .int .i64 0, .int .i64 0, .string ⟨#[]⟩] 25 (0, 0))) := Lib.hid (FR.out _ B6.out)
      obtain ⟨t0, t1, t2, t3⟩ := FT.out _ B6.out
      have f0 := tcr KR 0
      have f1 := tcr KR 1
      have f2 := tcr KR 2
      have f3 := tcr KR 3
      have z0 := tfr KR 0
      have z1 := tfr KR 1
      have z2 := tfr KR 2
      have z3 := tfr KR 3
      clear HO FT FR FP kt krj kw HT HN
      go_wp2_with fail
      obtain ⟨j0, q1, q2, q3, q4⟩ := info_parts infoTkr
      refine bodyPost_ret (results_cell_row2 (P := Try.prog) rfl _ _ (w.heap.size + 1) _ _ (0, 0) _ _ rfl rfl (storeT KR.out) Try.underlying25 rfl (by rw [q1]; simp [q3])) rfl ⟨by rw [HRES.out]; rfl, below4 BF.out (by omega)⟩
    have ha3 : decide (n < pn) = false := decide_eq_false hg
    cases a1
    · have HA1 : Hid (True) := Lib.hid trivial
      have hlast : ¬ pn = po := by simpa using ha1
      have HLA := Lib.hid hlast
      clear hlast ha1
      have HRES : Hid (offerS ⟨o, n, c, b⟩ s = (⟨po, n + 1, pch, b ++ pb⟩, 0)) := Lib.hid (by rw [HO.out]; rw [if_neg hl, if_neg hg, if_neg HLA.out])
      obtain ⟨p0, p1, p2, p3⟩ := FP.out _ B3.out
      obtain ⟨t0, t1, t2, t3⟩ := FT.out _ B3.out
      have hc := impl_note 2 (mxN false 4 (mxN false 1 0)) false BX hh 3 y3 hp3 (by omega) L3.out
      go_wp2_with (go_at_call 39; refine hc.mono ?_; rintro e y4 ⟨rfl, hp4, b4⟩; refine Hid.out ?_)
      refine Lib.hid ?_
      have B4 := Lib.hid (B3.out.trans b4)
      have L4 : Hid (BX ≤ y4.heap.size) := Lib.hid (Nat.le_trans L3.out b4.size)
      clear hc b4 hp3 p0 p1 p2 p3 t0 t1 t2 t3
      obtain ⟨p0, p1, p2, p3⟩ := FP.out _ B4.out
      obtain ⟨t0, t1, t2, t3⟩ := FT.out _ B4.out
      have hc := impl_note 3 (mxN false 2 (mxN false 4 (mxN false 1 0))) false BX hh 4 y4 hp4 (by omega) L4.out
      go_wp2_with (go_at_call 39; refine hc.mono ?_; rintro e y5 ⟨rfl, hp5, b5⟩; refine Hid.out ?_)
      refine Lib.hid ?_
      have B5 := Lib.hid (B4.out.trans b5)
      have L5 : Hid (BX ≤ y5.heap.size) := Lib.hid (Nat.le_trans L4.out b5.size)
      clear hc b5 hp4 p0 p1 p2 p3 t0 t1 t2 t3
      have hcode : mxN false 3 (mxN false 2 (mxN false 4 (mxN false 1 0))) = 0 := by decide
      rw [hcode] at hp5
      have hc := impl_take 0 BX hh 5 y5 hp5 (by omega) L5.out
      clear hcode
      go_wp2_with (go_at_call 41; refine hc.mono ?_; rintro e y6 ⟨rfl, b6⟩; refine Hid.out ?_)
      refine Lib.hid ?_
      have B6 := Lib.hid (B5.out.trans b6)
      clear hc b6 hp5
      have LXY : Hid (w.heap.size ≤ X.heap.size) := Lib.hid BB.out.size
      have BF : Hid (Below w.heap.size w y6) := Lib.hid (BB.out.trans (B6.out.mono (by rw [HBX.out]; exact LXY.out)))
      have LBX : Hid (BX ≤ y6.heap.size) := Lib.hid (by have h := B6.out.size; have h2 := HBX.out; omega)
      obtain ⟨t0, t1, t2, t3⟩ := FT.out _ B6.out
      obtain ⟨p0, p1, p2, p3⟩ := FP.out _ B6.out
      have hk := kw y6 HN6.out
      go_wp2_with (go_at_call 42; refine hk.mono ?_; rintro e y7 ⟨rfl, b7⟩; refine Hid.out ?_)
      refine Lib.hid ?_
      have B7 := Lib.hid (B6.out.trans (b7.mono LBX.out))
      have BF7 : Hid (Below w.heap.size w y7) := Lib.hid (BF.out.trans (b7.mono BF.out.size))
      clear hk b7 t0 t1 t2 t3 p0 p1 p2 p3
      have KR : Hid (y7.heap[w.heap.size + 1]? = some (.cells #[.int .i64 0, .int .i64 0, .int .i64 0, .string ⟨#[]⟩] 25 (0, 0))) := Lib.hid (FR.out _ B7.out)
      have f0 := tcr KR 0
      have f1 := tcr KR 1
      have f2 := tcr KR 2
      have f3 := tcr KR 3
      have z0 := tfr KR 0
      have z1 := tfr KR 1
      have z2 := tfr KR 2
      have z3 := tfr KR 3
      clear HO FT FR FP kt krj kw HT HN
      go_wp2_with fail
      obtain ⟨j0, q1, q2, q3, q4⟩ := info_parts infoTkr
      refine bodyPost_ret (results_cell_row2 (P := Try.prog) rfl _ _ (w.heap.size + 1) _ _ (0, 0) _ _ rfl rfl (storeT KR.out) Try.underlying25 rfl (by rw [q1]; simp [q3])) rfl ⟨by rw [HRES.out]; rfl, below4 BF7.out (by omega)⟩
    · have HA1 : Hid (True) := Lib.hid trivial
      have hlast : pn = po := by simpa using ha1
      have HLA := Lib.hid hlast
      clear hlast ha1
      have HRES : Hid (offerS ⟨o, n, c, b⟩ s = (⟨po, n + 1, pch, b ++ pb⟩, 1)) := Lib.hid (by rw [HO.out]; rw [if_neg hl, if_neg hg, if_pos HLA.out])
      obtain ⟨p0, p1, p2, p3⟩ := FP.out _ B3.out
      obtain ⟨t0, t1, t2, t3⟩ := FT.out _ B3.out
      have hc := impl_note 2 (mxN false 4 (mxN true 1 0)) false BX hh 3 y3 hp3 (by omega) L3.out
      go_wp2_with (go_at_call 39; refine hc.mono ?_; rintro e y4 ⟨rfl, hp4, b4⟩; refine Hid.out ?_)
      refine Lib.hid ?_
      have B4 := Lib.hid (B3.out.trans b4)
      have L4 : Hid (BX ≤ y4.heap.size) := Lib.hid (Nat.le_trans L3.out b4.size)
      clear hc b4 hp3 p0 p1 p2 p3 t0 t1 t2 t3
      obtain ⟨p0, p1, p2, p3⟩ := FP.out _ B4.out
      obtain ⟨t0, t1, t2, t3⟩ := FT.out _ B4.out
      have hc := impl_note 3 (mxN false 2 (mxN false 4 (mxN true 1 0))) false BX hh 4 y4 hp4 (by omega) L4.out
      go_wp2_with (go_at_call 39; refine hc.mono ?_; rintro e y5 ⟨rfl, hp5, b5⟩; refine Hid.out ?_)
      refine Lib.hid ?_
      have B5 := Lib.hid (B4.out.trans b5)
      have L5 : Hid (BX ≤ y5.heap.size) := Lib.hid (Nat.le_trans L4.out b5.size)
      clear hc b5 hp4 p0 p1 p2 p3 t0 t1 t2 t3
      have hcode : mxN false 3 (mxN false 2 (mxN false 4 (mxN true 1 0))) = 1 := by decide
      rw [hcode] at hp5
      have hc := impl_take 1 BX hh 5 y5 hp5 (by omega) L5.out
      clear hcode
      go_wp2_with (go_at_call 41; refine hc.mono ?_; rintro e y6 ⟨rfl, b6⟩; refine Hid.out ?_)
      refine Lib.hid ?_
      have B6 := Lib.hid (B5.out.trans b6)
      clear hc b6 hp5
      have LXY : Hid (w.heap.size ≤ X.heap.size) := Lib.hid BB.out.size
      have BF : Hid (Below w.heap.size w y6) := Lib.hid (BB.out.trans (B6.out.mono (by rw [HBX.out]; exact LXY.out)))
      have LBX : Hid (BX ≤ y6.heap.size) := Lib.hid (by have h := B6.out.size; have h2 := HBX.out; omega)
      obtain ⟨t0, t1, t2, t3⟩ := FT.out _ B6.out
      obtain ⟨p0, p1, p2, p3⟩ := FP.out _ B6.out
      have hk := kw y6 HN6.out
      go_wp2_with (go_at_call 42; refine hk.mono ?_; rintro e y7 ⟨rfl, b7⟩; refine Hid.out ?_)
      refine Lib.hid ?_
      have B7 := Lib.hid (B6.out.trans (b7.mono LBX.out))
      have BF7 : Hid (Below w.heap.size w y7) := Lib.hid (BF.out.trans (b7.mono BF.out.size))
      clear hk b7 t0 t1 t2 t3 p0 p1 p2 p3
      have KR : Hid (y7.heap[w.heap.size + 1]? = some (.cells #[.int .i64 0, .int .i64 0, .int .i64 0, .string ⟨#[]⟩] 25 (0, 0))) := Lib.hid (FR.out _ B7.out)
      have f0 := tcr KR 0
      have f1 := tcr KR 1
      have f2 := tcr KR 2
      have f3 := tcr KR 3
      have z0 := tfr KR 0
      have z1 := tfr KR 1
      have z2 := tfr KR 2
      have z3 := tfr KR 3
      clear HO FT FR FP kt krj kw HT HN
      go_wp2_with fail
      obtain ⟨j0, q1, q2, q3, q4⟩ := info_parts infoTkr
      refine bodyPost_ret (results_cell_row2 (P := Try.prog) rfl _ _ (w.heap.size + 1) _ _ (0, 0) _ _ rfl rfl (storeT KR.out) Try.underlying25 rfl (by rw [q1]; simp [q3])) rfl ⟨by rw [HRES.out]; rfl, below4 BF7.out (by omega)⟩
  · skip
    obtain ⟨p0, p1, p2, p3⟩ := FP.out _ B2.out
    obtain ⟨t0, t1, t2, t3⟩ := FT.out _ B2.out
    have hk := kt y2
    go_wp2_with (go_at_call 14; refine hk.mono ?_; rintro e z1 ⟨rfl, c1⟩; refine Hid.out ?_)
    refine Lib.hid ?_
    have BZ := Lib.hid (B2.out.trans (c1.mono L2.out))
    have hpz := hp2.later c1
    have LZ : Hid (BX ≤ z1.heap.size) := Lib.hid (Nat.le_trans L2.out c1.size)
    clear hk c1 hp2 p0 p1 p2 p3 t0 t1 t2 t3
    obtain ⟨p0, p1, p2, p3⟩ := FP.out _ BZ.out
    obtain ⟨t0, t1, t2, t3⟩ := FT.out _ BZ.out
    have hk := krj z1
    go_wp2_with (go_at_call 40; refine hk.mono ?_; rintro e z2 ⟨rfl, c1⟩; refine Hid.out ?_)
    refine Lib.hid ?_
    have BZ2 := Lib.hid (BZ.out.trans (c1.mono LZ.out))
    have hpz2 := hpz.later c1
    have LZ2 : Hid (BX ≤ z2.heap.size) := Lib.hid (Nat.le_trans LZ.out c1.size)
    clear hk c1 hpz BZ LZ p0 p1 p2 p3 t0 t1 t2 t3
    have BZ := BZ2
    have hpz := hpz2
    have LZ := LZ2
    clear BZ2 hpz2 LZ2
    have hc := impl_note 4 (mxN a1 1 0) true BX hh 2 z2 hpz (by omega) LZ.out
    go_wp2_with (go_at_call 39; refine hc.mono ?_; rintro e y3 ⟨rfl, hp3, b3⟩; refine Hid.out ?_)
    refine Lib.hid ?_
    have B3 := Lib.hid (BZ.out.trans b3)
    have L3 : Hid (BX ≤ y3.heap.size) := Lib.hid (Nat.le_trans LZ.out b3.size)
    clear hc b3 hpz BZ LZ
    obtain ⟨a2, ha2⟩ : ∃ a, decide (pn < n) = a := ⟨_, rfl⟩
    obtain ⟨a3, ha3⟩ : ∃ a, decide (n < pn) = a := ⟨_, rfl⟩
    have hmx : ∀ u v w : Bool, mxN w 3 (mxN v 2 (mxN true 4 (mxN u 1 0))) = 4 := by decide
    have HRES : Hid (offerS ⟨o, n, c, b⟩ s = (⟨o, n, c, b⟩, 4)) := Lib.hid (by rw [HO.out]; rfl)
    obtain ⟨p0, p1, p2, p3⟩ := FP.out _ B3.out
    obtain ⟨t0, t1, t2, t3⟩ := FT.out _ B3.out
    have hc := impl_note 2 (mxN true 4 (mxN a1 1 0)) a2 BX hh 3 y3 hp3 (by omega) L3.out
    go_wp2_with (go_at_call 39; refine hc.mono ?_; rintro e y4 ⟨rfl, hp4, b4⟩; refine Hid.out ?_)
    refine Lib.hid ?_
    have B4 := Lib.hid (B3.out.trans b4)
    have L4 : Hid (BX ≤ y4.heap.size) := Lib.hid (Nat.le_trans L3.out b4.size)
    clear hc b4 hp3 p0 p1 p2 p3 t0 t1 t2 t3
    obtain ⟨p0, p1, p2, p3⟩ := FP.out _ B4.out
    obtain ⟨t0, t1, t2, t3⟩ := FT.out _ B4.out
    have hc := impl_note 3 (mxN a2 2 (mxN true 4 (mxN a1 1 0))) a3 BX hh 4 y4 hp4 (by omega) L4.out
    go_wp2_with (go_at_call 39; refine hc.mono ?_; rintro e y5 ⟨rfl, hp5, b5⟩; refine Hid.out ?_)
    refine Lib.hid ?_
    have B5 := Lib.hid (B4.out.trans b5)
    have L5 : Hid (BX ≤ y5.heap.size) := Lib.hid (Nat.le_trans L4.out b5.size)
    clear hc b5 hp4 p0 p1 p2 p3 t0 t1 t2 t3
    have hcode : mxN a3 3 (mxN a2 2 (mxN true 4 (mxN a1 1 0))) = 4 := by first | exact hmx a1 a2 a3 | (cases a1 <;> decide)
    rw [hcode] at hp5
    have hc := impl_take 4 BX hh 5 y5 hp5 (by omega) L5.out
    clear hcode
    go_wp2_with (go_at_call 41; refine hc.mono ?_; rintro e y6 ⟨rfl, b6⟩; refine Hid.out ?_)
    refine Lib.hid ?_
    have B6 := Lib.hid (B5.out.trans b6)
    clear hc b6 hp5
    have LXY : Hid (w.heap.size ≤ X.heap.size) := Lib.hid BB.out.size
    have BF : Hid (Below w.heap.size w y6) := Lib.hid (BB.out.trans (B6.out.mono (by rw [HBX.out]; exact LXY.out)))
    have KR : Hid (y6.heap[w.heap.size + 1]? = some (.cells #[.int .i64 0, .int .i64 0, .int .i64 0, .string ⟨#[]⟩] 25 (0, 0))) := Lib.hid (FR.out _ B6.out)
    obtain ⟨t0, t1, t2, t3⟩ := FT.out _ B6.out
    have f0 := tcr KR 0
    have f1 := tcr KR 1
    have f2 := tcr KR 2
    have f3 := tcr KR 3
    have z0 := tfr KR 0
    have z1 := tfr KR 1
    have z2 := tfr KR 2
    have z3 := tfr KR 3
    clear HO FT FR FP kt krj kw HT HN
    go_wp2_with fail
    obtain ⟨j0, q1, q2, q3, q4⟩ := info_parts infoTkr
    refine bodyPost_ret (results_cell_row2 (P := Try.prog) rfl _ _ (w.heap.size + 1) _ _ (0, 0) _ _ rfl rfl (storeT KR.out) Try.underlying25 rfl (by rw [q1]; simp [q3])) rfl ⟨by rw [HRES.out]; rfl, below4 BF.out (by omega)⟩
end Go.Proofs.Ytdpjdjkfedcojaa
