/- What spec.Decode answers. Condition: a text of at most 2^40 bytes. -/
import Derived.Test.YtdpjdjkfedcojaaBaseA
import Derived.Test.YtdpjdjkfedcojaaSpecRows
import Derived.Test.YtdpjdjkfedcojaaFmtA
import Derived.Test.YtdpjdjkfedcojaaSpecEnc
namespace Go.Proofs.Ytdpjdjkfedcojaa
open Go.RowKit
set_option linter.unusedVariables false
set_option linter.unusedSimpArgs false

theorem own_set {w : World} {base b : Nat} {v : Value} {s : St} (h : OwnN w (base + 1) v s) (hb : b ≤ base) (x y : Value) : OwnN ((w.setCell ⟨b, 0, none⟩ x).setCell ⟨b, 1, none⟩ y) base v s :=
  (h.kept ((grown_set w ⟨b, 0, none⟩ x).trans (grown_set _ ⟨b, 1, none⟩ y)) (show b < base + 1 by omega)).base (by omega)
set_option maxRecDepth 100000 in
set_option maxHeartbeats 8000000 in
theorem spec_decode (t : ByteArray) (w : World) (ht : t.size ≤ 1099511627776) :
    Calls Try.prog 49 #[.string t] w fun e w' => ∃ v, e = .returned (.tuple #[v, .int .i64 (decS t).2]) ∧ DecV w' w.heap.size v (decS t).1 ∧ Below w.heap.size w w' ∧ w.heap.size < w'.heap.size := by
  obtain ⟨v1, hv1⟩ : ∃ z, z = getN t 1 1 := ⟨_, rfl⟩
  have HV := Lib.hid hv1
  obtain ⟨W, hW⟩ : ∃ W, W = w.alloc (.cells #[.slice none 0 0, .slice none 0 0] 35) := ⟨_, rfl⟩
  have bW : Below w.heap.size w W := by rw [hW]; exact (Below.refl _ _).alloc (Nat.le_refl _) _
  have KR : Hid (W.heap[w.heap.size]? = some (.cells #[.slice none 0 0, .slice none 0 0] 35 (0, 0))) := Lib.hid (by rw [hW]; exact heap_new _ _)
  have hWs : W.heap.size = w.heap.size + 1 := by rw [hW]; simp
  have LR : Hid (w.heap.size < W.heap.size) := Lib.hid (by omega)
  have HWs := Lib.hid hWs
  have BB := Lib.hid bW
  have hc := spec_getNum t 1 1 (by omega) (by omega) W (by unfold maxLen; omega)
  rw [← hv1, hW] at hc
  clear hv1 bW hWs
  go_enter Try.func49, Try.ntmps49
  go_wp2_with (go_at_call 79; refine hc.mono ?_; rintro e w1 ⟨rfl, rfl⟩; refine Hid.out ?_)
  refine Lib.hid ?_
  rw [← hW]
  clear hc hW
  have hc := in_any v1 1 3 W
  cases hin : inB v1 1 3
  · rw [hin] at hc
    have HRES : Hid (decS t = (⟨[], []⟩, 0)) := Lib.hid (dec_bad (by rw [← HV.out]; exact hin))
    clear hin
    have fR0 := tcr KR 0
    have fR1 := tcr KR 1
    have zR0 := tfr KR 0
    have zR1 := tfr KR 1
    go_wp2_with (go_at_call 46; refine hc.mono ?_; rintro e w1 ⟨rfl, rfl⟩)
    have f1 := heap_setCell_same _ w.heap.size 0 _ _ (.slice none 0 0) KR.out
    have f2 := heap_setCell_same _ w.heap.size 1 _ _ (.slice none 0 0) f1
    obtain ⟨j0, q1, q2, q3, q4⟩ := info_parts infoSt
    refine bodyPost_ret (results_cell_row2 (P := Try.prog) rfl _ _ w.heap.size _ _ (0, 0) _ _ rfl rfl f2 Try.underlying35 rfl (by rw [q1]; simp [q3])) rfl ⟨.agg #[.slice none 0 0, .slice none 0 0], by rw [HRES.out]; rfl, ?_, ?_, by rw [World.size_setCell, World.size_setCell]; exact LR.out⟩
    · rw [HRES.out]
      exact .inl ⟨rfl, rfl⟩
    · exact (BB.out.setCell (p := ⟨w.heap.size, 0, none⟩) (Nat.le_refl _) _).setCell (p := ⟨w.heap.size, 1, none⟩) (Nat.le_refl _) _
  · rw [hin] at hc
    have Hin := Lib.hid hin
    have hvv := inB_true hin
    clear hin
    go_wp2_with (go_at_call 46; refine hc.mono ?_; rintro e w1 ⟨rfl, rfl⟩; refine Hid.out ?_)
    refine Lib.hid ?_
    clear hc
    have hc := spec_items t 2 W ht (by omega)
    go_wp2_with (go_at_call 87; refine hc.mono ?_; rintro e w1 ⟨g, n, cap, q, rfl, hno, hyes, hb⟩; refine Hid.out ?_)
    refine Lib.hid ?_
    replace KR := tkb hb LR KR
    replace LR := tlz LR hb.size
    replace BB := tbt BB hb
    have HW1 : Hid (W.heap.size ≤ w1.heap.size) := Lib.hid hb.size
    clear hc hb
    obtain ⟨A1, hA1⟩ : ∃ A, A = w1.alloc (.cells #[] 79) := ⟨_, rfl⟩
    obtain ⟨X, hX⟩ : ∃ A, A = A1.alloc (.cells #[.slice (some ⟨g, 0, none⟩) n cap, .slice (some ⟨w1.heap.size, 0, none⟩) 0 0] 35) := ⟨_, rfl⟩
    have b1 : Below w1.heap.size w1 A1 := by rw [hA1]; exact (Below.refl _ _).alloc (Nat.le_refl _) _
    have b2 : Below A1.heap.size A1 X := by rw [hX]; exact (Below.refl _ _).alloc (Nat.le_refl _) _
    have s1 : A1.heap.size = w1.heap.size + 1 := by rw [hA1]; simp
    have s2 : X.heap.size = w1.heap.size + 1 + 1 := by rw [hX]; simp [s1]
    have bX : Below w1.heap.size w1 X := b1.trans (b2.mono b1.size)
    have KX : Hid (X.heap[w1.heap.size + 1]? = some (.cells #[.slice (some ⟨g, 0, none⟩) n cap, .slice (some ⟨w1.heap.size, 0, none⟩) 0 0] 35 (0, 0))) := Lib.hid (by rw [hX, ← s1]; exact heap_new _ _)
    have LX : Hid (w1.heap.size + 1 < X.heap.size) := Lib.hid (by omega)
    have HXs : Hid (X.heap.size = w1.heap.size + 1 + 1) := Lib.hid s2
    have GT : Hid (Got X (w.heap.size + 1) 79 3 w1.heap.size 0 0 []) := Lib.hid ⟨rfl, Nat.le_refl _, Nat.zero_le _, by have := HWs.out; have := HW1.out; omega, by omega, .inl ⟨rfl, rfl⟩⟩
    replace KR := tkb bX LR KR
    have L1 := LR
    replace LR := tlz LR bX.size
    replace BB := tbt BB bX
    have BX := Lib.hid bX
    clear b1 b2 s1 s2 bX
    cases hi : itsAt t 2 with
    | none =>
      obtain rfl : q = -1 := hno hi
      have HRES : Hid (decS t = (⟨[], []⟩, 0)) := Lib.hid (dec_none (raw_none _ hi))
      clear hi hno hyes
      have fR0 := tcr KR 0
      have fR1 := tcr KR 1
      have zR0 := tfr KR 0
      have zR1 := tfr KR 1
      rw [hX, hA1] at fR0 fR1 zR0 zR1 
      go_wp2_with (fail)
      rw [← hA1, ← hX]
      have f1 := heap_setCell_same _ w.heap.size 0 _ _ (.slice none 0 0) KR.out
      have f2 := heap_setCell_same _ w.heap.size 1 _ _ (.slice none 0 0) f1
      obtain ⟨j0, q1, q2, q3, q4⟩ := info_parts infoSt
      refine bodyPost_ret (results_cell_row2 (P := Try.prog) rfl _ _ w.heap.size _ _ (0, 0) _ _ rfl rfl f2 Try.underlying35 rfl (by rw [q1]; simp [q3])) rfl ⟨.agg #[.slice none 0 0, .slice none 0 0], by rw [HRES.out]; rfl, ?_, ?_, by rw [World.size_setCell, World.size_setCell]; exact LR.out⟩
      · rw [HRES.out]
        exact .inl ⟨rfl, rfl⟩
      · exact (BB.out.setCell (p := ⟨w.heap.size, 0, none⟩) (Nat.le_refl _) _).setCell (p := ⟨w.heap.size, 1, none⟩) (Nat.le_refl _) _
    | some r =>
      obtain ⟨xs, q'⟩ := r
      obtain ⟨rfl, rfl, hgot⟩ := hyes xs q' hi
      have HI := Lib.hid hi
      have hq := its_end hi
      have GI := Lib.hid ((hgot.later BX.out).base (show w.heap.size + 1 ≤ W.heap.size by have := HWs.out; omega))
      have Hne : Hid (g < w1.heap.size) := Lib.hid hgot.2.2.2.2.1
      have hq0 : decide (0 ≤ q) = true := by simp; omega
      have hq1 : decide (q < 0) = false := by simp; omega
      clear hgot hno hyes hi
      by_cases hv : v1 = 1
      · have HV1 := Lib.hid hv
        have hgt : decide (1 < v1) = false := by simp; omega
        clear hv
        have OS : Hid (OwnN X (w.heap.size + 1) (.agg #[.slice (some ⟨g, 0, none⟩) xs.length cap, .slice (some ⟨w1.heap.size, 0, none⟩) 0 0]) ⟨xs, []⟩) := Lib.hid ⟨_, _, g, cap, w1.heap.size, 0, rfl, Nat.ne_of_lt Hne.out, ⟨_, rfl, .inl rfl⟩, ⟨_, rfl, .inl rfl⟩, GI.out, GT.out⟩
        clear GI GT
        obtain ⟨E, hE⟩ : ∃ E, E = fmtS ⟨xs, []⟩ v1 := ⟨_, rfl⟩
        have HE := Lib.hid hE
        have HRAW : Hid (rawS t (getN t 1 1) = some ⟨xs, []⟩) := Lib.hid (by rw [← HV.out, HV1.out]; exact raw_one HI.out)
        clear hE
        have hc := spec_encode ⟨xs, []⟩ _ v1 _ X OS.out.st (Nat.le_refl _) (raw_fits (p' := 0) (q' := 0) ht HI.out (.inl rfl))
        rw [← HE.out] at hc
        have fX0 := tcr KX 0
        have fX1 := tcr KX 1
        rw [hX, hA1] at hc fX0 fX1
        go_wp2_with (go_at_call 89; refine hc.mono ?_; rintro e w4 ⟨rfl, hb⟩; refine Hid.out ?_)
        refine Lib.hid ?_
        rw [← hA1, ← hX] at hb
        replace KR := tkb hb LR KR
        replace LR := tlz LR hb.size
        replace KX := tkb hb LX KX
        replace OS := Lib.hid (OS.out.later hb)
        replace BB := tbt BB hb
        clear hc hb fX0 fX1 hX hA1
        by_cases hEt : E = t
        · have hqt := str_eq hEt
          have HRES : Hid (decS t = (⟨xs, []⟩, v1)) := Lib.hid (by rw [HV.out]; exact dec_yes (by rw [← HV.out]; exact Hin.out) HRAW.out (by rw [← HV.out, ← HE.out]; exact hEt))
          clear hEt
          have fR0 := tcr KR 0
          have fR1 := tcr KR 1
          have zR0 := tfr KR 0
          have zR1 := tfr KR 1
          have fX0 := tcr KX 0
          have fX1 := tcr KX 1
          go_wp2_with fail
          have f1 := heap_setCell_same _ w.heap.size 0 _ _ (.slice (some ⟨g, 0, none⟩) xs.length cap) KR.out
          have f2 := heap_setCell_same _ w.heap.size 1 _ _ (.slice (some ⟨w1.heap.size, 0, none⟩) 0 0) f1
          obtain ⟨j0, q1, q2, q3, q4⟩ := info_parts infoSt
          refine bodyPost_ret (results_cell_row2 (P := Try.prog) rfl _ _ w.heap.size _ _ (0, 0) _ _ rfl rfl f2 Try.underlying35 rfl (by rw [q1]; simp [q3])) rfl ⟨.agg #[.slice (some ⟨g, 0, none⟩) xs.length cap, .slice (some ⟨w1.heap.size, 0, none⟩) 0 0], by rw [HRES.out]; rfl, ?_, ?_, by rw [World.size_setCell, World.size_setCell]; exact LR.out⟩
          · rw [HRES.out]
            exact .inr (own_set OS.out (Nat.le_refl _) _ _)
          · exact (BB.out.setCell (p := ⟨w.heap.size, 0, none⟩) (Nat.le_refl _) _).setCell (p := ⟨w.heap.size, 1, none⟩) (Nat.le_refl _) _
        · have hqt := str_ne hEt
          have HRES : Hid (decS t = (⟨[], []⟩, 0)) := Lib.hid (dec_no HRAW.out (by rw [← HV.out, ← HE.out]; exact hEt))
          clear hEt
          have fR0 := tcr KR 0
          have fR1 := tcr KR 1
          have zR0 := tfr KR 0
          have zR1 := tfr KR 1
          go_wp2_with (fail)
          have f1 := heap_setCell_same _ w.heap.size 0 _ _ (.slice none 0 0) KR.out
          have f2 := heap_setCell_same _ w.heap.size 1 _ _ (.slice none 0 0) f1
          obtain ⟨j0, q1, q2, q3, q4⟩ := info_parts infoSt
          refine bodyPost_ret (results_cell_row2 (P := Try.prog) rfl _ _ w.heap.size _ _ (0, 0) _ _ rfl rfl f2 Try.underlying35 rfl (by rw [q1]; simp [q3])) rfl ⟨.agg #[.slice none 0 0, .slice none 0 0], by rw [HRES.out]; rfl, ?_, ?_, by rw [World.size_setCell, World.size_setCell]; exact LR.out⟩
          · rw [HRES.out]
            exact .inl ⟨rfl, rfl⟩
          · exact (BB.out.setCell (p := ⟨w.heap.size, 0, none⟩) (Nat.le_refl _) _).setCell (p := ⟨w.heap.size, 1, none⟩) (Nat.le_refl _) _
      · have HV1 := Lib.hid hv
        have hgt : decide (1 < v1) = true := by simp; omega
        clear hv
        have hc := spec_talks t q X ht (by omega)
        rw [hX, hA1] at hc
        go_wp2_with (go_at_call 88; refine hc.mono ?_; rintro e w2 ⟨h, m, cap2, q2, rfl, hno, hyes, hb⟩; refine Hid.out ?_)
        refine Lib.hid ?_
        rw [← hA1, ← hX] at hb hyes
        replace KR := tkb hb LR KR
        replace KX := tkb hb LX KX
        replace LR := tlz LR hb.size
        replace LX := tlz LX hb.size
        replace GI := Lib.hid (GI.out.later hb)
        replace BB := tbt BB hb
        clear hc hb GT hX hA1
        have zX1 := tfr KX 1
        have fX1 := tcr KX 1
        obtain ⟨Z, hZ⟩ : ∃ Z, Z = w2.setCell ⟨w1.heap.size + 1, 1, none⟩ (.slice (some ⟨h, 0, none⟩) m cap2) := ⟨_, rfl⟩
        have gZ : w2.grownBy Z (some (w1.heap.size + 1)) := by rw [hZ]; exact grown_set _ _ _
        have KZ : Hid (Z.heap[w1.heap.size + 1]? = some (.cells #[.slice (some ⟨g, 0, none⟩) xs.length cap, .slice (some ⟨h, 0, none⟩) m cap2] 35 (0, 0))) := Lib.hid (by rw [hZ]; exact heap_setCell_same _ _ 1 _ _ _ KX.out)
        have l1 := L1.out
        have ln := Hne.out
        replace KR := tkg gZ LR KR (by simp; omega)
        replace LR := tlz LR gZ.size
        replace LX := tlz LX gZ.size
        replace GI := Lib.hid (GI.out.grown gZ (by omega))
        replace BB := Lib.hid (BB.out.grown gZ BB.out.size (fun j e => by cases e; omega))
        cases ht2 : tksAt t q with
        | none =>
          obtain rfl : q2 = -1 := hno ht2
          have HRES : Hid (decS t = (⟨[], []⟩, 0)) := Lib.hid (dec_none (by rw [← HV.out]; exact raw_two HV1.out HI.out ht2))
          clear ht2 hno hyes gZ KZ
          have fR0 := tcr KR 0
          have fR1 := tcr KR 1
          have zR0 := tfr KR 0
          have zR1 := tfr KR 1
          rw [hZ] at fR0 fR1 zR0 zR1 
          go_wp2_with (fail)
          rw [← hZ]
          have f1 := heap_setCell_same _ w.heap.size 0 _ _ (.slice none 0 0) KR.out
          have f2 := heap_setCell_same _ w.heap.size 1 _ _ (.slice none 0 0) f1
          obtain ⟨j0, q1, q2, q3, q4⟩ := info_parts infoSt
          refine bodyPost_ret (results_cell_row2 (P := Try.prog) rfl _ _ w.heap.size _ _ (0, 0) _ _ rfl rfl f2 Try.underlying35 rfl (by rw [q1]; simp [q3])) rfl ⟨.agg #[.slice none 0 0, .slice none 0 0], by rw [HRES.out]; rfl, ?_, ?_, by rw [World.size_setCell, World.size_setCell]; exact LR.out⟩
          · rw [HRES.out]
            exact .inl ⟨rfl, rfl⟩
          · exact (BB.out.setCell (p := ⟨w.heap.size, 0, none⟩) (Nat.le_refl _) _).setCell (p := ⟨w.heap.size, 1, none⟩) (Nat.le_refl _) _
        | some r =>
          obtain ⟨ts, q3⟩ := r
          obtain ⟨rfl, rfl, hgot⟩ := hyes ts q3 ht2
          have HT2 := Lib.hid ht2
          have hq2 : decide (q2 < 0) = false := by have := tks_end ht2; simp; omega
          have lx := HXs.out
          have hgl := hgot.2.2.2.1
          have GT : Hid (Got Z (w.heap.size + 1) 79 3 h ts.length cap2 (ts.flatMap tkC)) := Lib.hid ((hgot.grown gZ (by omega)).base (by omega))
          have OS : Hid (OwnN Z (w.heap.size + 1) (.agg #[.slice (some ⟨g, 0, none⟩) xs.length cap, .slice (some ⟨h, 0, none⟩) ts.length cap2]) ⟨xs, ts⟩) := Lib.hid ⟨_, _, g, cap, h, cap2, rfl, by omega, ⟨_, rfl, .inl rfl⟩, ⟨_, rfl, .inl rfl⟩, GI.out, GT.out⟩
          clear ht2 hno hyes gZ hgot hgl lx GI GT KX
          have KX := KZ
          clear KZ
          obtain ⟨E, hE⟩ : ∃ E, E = fmtS ⟨xs, ts⟩ v1 := ⟨_, rfl⟩
          have HE := Lib.hid hE
          have HRAW : Hid (rawS t (getN t 1 1) = some ⟨xs, ts⟩) := Lib.hid (by rw [← HV.out]; exact raw_all HV1.out HI.out HT2.out)
          clear hE
          have hc := spec_encode ⟨xs, ts⟩ _ v1 _ Z OS.out.st (Nat.le_refl _) (raw_fits ht HI.out (.inr HT2.out))
          rw [← HE.out] at hc
          have fX0 := tcr KX 0
          have fX1 := tcr KX 1
          rw [hZ] at hc fX0 fX1
          go_wp2_with (go_at_call 89; refine hc.mono ?_; rintro e w4 ⟨rfl, hb⟩; refine Hid.out ?_)
          refine Lib.hid ?_
          rw [← hZ] at hb
          replace KR := tkb hb LR KR
          replace LR := tlz LR hb.size
          replace KX := tkb hb LX KX
          replace OS := Lib.hid (OS.out.later hb)
          replace BB := tbt BB hb
          clear hc hb fX0 fX1 hZ
          by_cases hEt : E = t
          · have hqt := str_eq hEt
            have HRES : Hid (decS t = (⟨xs, ts⟩, v1)) := Lib.hid (by rw [HV.out]; exact dec_yes (by rw [← HV.out]; exact Hin.out) HRAW.out (by rw [← HV.out, ← HE.out]; exact hEt))
            clear hEt
            have fR0 := tcr KR 0
            have fR1 := tcr KR 1
            have zR0 := tfr KR 0
            have zR1 := tfr KR 1
            have fX0 := tcr KX 0
            have fX1 := tcr KX 1
            go_wp2_with fail
            have f1 := heap_setCell_same _ w.heap.size 0 _ _ (.slice (some ⟨g, 0, none⟩) xs.length cap) KR.out
            have f2 := heap_setCell_same _ w.heap.size 1 _ _ (.slice (some ⟨h, 0, none⟩) ts.length cap2) f1
            obtain ⟨j0, q1, q2, q3, q4⟩ := info_parts infoSt
            refine bodyPost_ret (results_cell_row2 (P := Try.prog) rfl _ _ w.heap.size _ _ (0, 0) _ _ rfl rfl f2 Try.underlying35 rfl (by rw [q1]; simp [q3])) rfl ⟨.agg #[.slice (some ⟨g, 0, none⟩) xs.length cap, .slice (some ⟨h, 0, none⟩) ts.length cap2], by rw [HRES.out]; rfl, ?_, ?_, by rw [World.size_setCell, World.size_setCell]; exact LR.out⟩
            · rw [HRES.out]
              exact .inr (own_set OS.out (Nat.le_refl _) _ _)
            · exact (BB.out.setCell (p := ⟨w.heap.size, 0, none⟩) (Nat.le_refl _) _).setCell (p := ⟨w.heap.size, 1, none⟩) (Nat.le_refl _) _
          · have hqt := str_ne hEt
            have HRES : Hid (decS t = (⟨[], []⟩, 0)) := Lib.hid (dec_no HRAW.out (by rw [← HV.out, ← HE.out]; exact hEt))
            clear hEt
            have fR0 := tcr KR 0
            have fR1 := tcr KR 1
            have zR0 := tfr KR 0
            have zR1 := tfr KR 1
            go_wp2_with (fail)
            have f1 := heap_setCell_same _ w.heap.size 0 _ _ (.slice none 0 0) KR.out
            have f2 := heap_setCell_same _ w.heap.size 1 _ _ (.slice none 0 0) f1
            obtain ⟨j0, q1, q2, q3, q4⟩ := info_parts infoSt
            refine bodyPost_ret (results_cell_row2 (P := Try.prog) rfl _ _ w.heap.size _ _ (0, 0) _ _ rfl rfl f2 Try.underlying35 rfl (by rw [q1]; simp [q3])) rfl ⟨.agg #[.slice none 0 0, .slice none 0 0], by rw [HRES.out]; rfl, ?_, ?_, by rw [World.size_setCell, World.size_setCell]; exact LR.out⟩
            · rw [HRES.out]
              exact .inl ⟨rfl, rfl⟩
            · exact (BB.out.setCell (p := ⟨w.heap.size, 0, none⟩) (Nat.le_refl _) _).setCell (p := ⟨w.heap.size, 1, none⟩) (Nat.le_refl _) _
end Go.Proofs.Ytdpjdjkfedcojaa
