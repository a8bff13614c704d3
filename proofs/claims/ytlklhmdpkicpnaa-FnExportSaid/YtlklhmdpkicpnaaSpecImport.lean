/- What spec.Import answers. Condition: a row of texts that can be read, of at most 2^40 bytes each. -/
import Derived.Test.YtlklhmdpkicpnaaBaseA
import Derived.Test.YtlklhmdpkicpnaaSpecGet
import Derived.Test.YtlklhmdpkicpnaaFmtA
import Derived.Test.YtlklhmdpkicpnaaSpecDec
namespace Go.Proofs.Ytlklhmdpkicpnaa
open Go.RowKit
set_option linter.unusedVariables false
set_option linter.unusedSimpArgs false

theorem imp_none : importS [] = (⟨[], []⟩, 1) := rfl
theorem imp_bad {l : List ByteArray} {z : Int × ByteArray} (hl : ¬ l = []) (h : impGo l.length l 0 (hashN []) ⟨#[]⟩ = z) (hz : ¬ z.1 = 0) : importS l = (⟨[], []⟩, z.1) := by
  unfold importS
  rw [if_neg hl, h, if_pos hz]
theorem imp_good {l : List ByteArray} {b : ByteArray} (hl : ¬ l = []) (h : impGo l.length l 0 (hashN []) ⟨#[]⟩ = (0, b)) : importS l = if (decS b).2 = 0 then (⟨[], []⟩, 5) else ((decS b).1, 0) := by
  unfold importS
  rw [if_neg hl, h, if_neg (fun q => q rfl)]
set_option maxRecDepth 100000 in
set_option maxHeartbeats 8000000 in
theorem spec_import (xs : List ByteArray) (v : Value) (w : World) (hl : xs.length ≤ 1099511627776) (hx : ∀ x ∈ xs, x.size ≤ 1099511627776) (hr : Raw w w.heap.size v xs.length (xs.map Value.string)) :
    Calls Try.prog 40 #[v] w fun e w' => ∃ v, e = .returned (.tuple #[v, .int .i64 (importS xs).2]) ∧ DecV w' w.heap.size v (importS xs).1 ∧ Below w.heap.size w w' := by
  obtain ⟨W, hW⟩ : ∃ W, W = w.alloc (.cells #[.slice none 0 0, .slice none 0 0] 44) := ⟨_, rfl⟩
  have bW : Below w.heap.size w W := by rw [hW]; exact (Below.refl _ _).alloc (Nat.le_refl _) _
  have KR : Hid (W.heap[w.heap.size]? = some (.cells #[.slice none 0 0, .slice none 0 0] 44 (0, 0))) := Lib.hid (by rw [hW]; exact heap_new _ _)
  have LR : Hid (w.heap.size < W.heap.size) := Lib.hid (by rw [hW]; simp)
  have BB := Lib.hid bW
  clear bW
  by_cases h0 : xs = []
  · subst h0
    obtain ⟨a, cap, rfl, -⟩ := hr
    have HRES := Lib.hid imp_none
    have fR0 := tcr KR 0
    have fR1 := tcr KR 1
    have zR0 := tfr KR 0
    have zR1 := tfr KR 1
    rw [hW] at fR0 fR1 zR0 zR1
    go_enter Try.func40, Try.ntmps40
    go_wp2_with fail
    rw [← hW]
    obtain ⟨j0, q1, q2, q3, q4⟩ := info_parts infoSt
    refine bodyPost_ret (results_cell_row2 (P := Try.prog) rfl _ _ w.heap.size _ _ (0, 0) _ _ rfl rfl KR.out Try.underlying44 rfl (by rw [q1]; simp [q3])) rfl ⟨.agg #[.slice none 0 0, .slice none 0 0], by rw [HRES.out]; rfl, ?_, BB.out⟩
    rw [HRES.out]
    exact .inl ⟨rfl, rfl⟩
  · have hpos : 0 < xs.length := List.length_pos_iff.2 h0
    obtain ⟨a, cap, rfl, -, -, -, hA⟩ := hr
    obtain ⟨g, o, rfl, hg, hAt⟩ := hA hpos
    have HC : Hid (∀ w', Below w.heap.size w w' → ∀ k (hk : k < xs.length), w'.cell? ⟨g, o + k, none⟩ = some (.string xs[k])) := Lib.hid (fun w' hb k hk => (hAt.below hb hg) k _ (by simp [hk]))
    have Hx := Lib.hid hx
    have kh := fun w => spec_hash ⟨#[]⟩ w (by unfold maxLen; exact Nat.zero_le _)
    obtain ⟨h00, hh00⟩ : ∃ z, z = hashN [] := ⟨_, rfl⟩
    have HH := Lib.hid hh00
    change ∀ w, Calls Try.prog 81 #[.string ⟨#[]⟩] w fun e w' => e = .returned (.int .i64 ((hashN [] : Nat) : Int)) ∧ w = w' at kh
    rw [← hh00] at kh
    clear hh00 hA hAt hg hx
    have hl0 : ¬ (xs.length : Int) = 0 := by omega
    go_enter Try.func40, Try.ntmps40
    go_wp2_with (go_at_call 81; refine (kh _).mono ?_; rintro e w1 ⟨rfl, rfl⟩; refine Hid.out ?_)
    refine Lib.hid ?_
    rw [← hW]
    clear kh hW
    go_wp2_with fail
    go_loopw [4, 5, 6] (fun ch b i wr => ∃ k : Nat, k ≤ xs.length ∧ i = .int .i64 k ∧ (∃ c : Nat, ch = .int .i64 c ∧ c < 4294967296 ∧ ∃ B, b = .string B ∧ B.size ≤ 200 * k ∧ (k = 0 ∨ xs.length ≤ 600) ∧ Hid (impGo xs.length xs 0 (hashN []) ⟨#[]⟩ = impGo xs.length (xs.drop k) k c B)) ∧ Hid (Below w.heap.size w wr) ∧ Hid (wr.heap[w.heap.size]? = some (.cells #[.slice none 0 0, .slice none 0 0] 44 (0, 0)))) (fun _ _ i _ => xs.length - (intOf i).toNat)
    case atStart => exact ⟨0, Nat.zero_le _, rfl, ⟨h00, rfl, by rw [HH.out]; exact hashN_lt _, ⟨#[]⟩, rfl, Nat.zero_le _, .inl rfl, Lib.hid (by rw [HH.out]; rfl)⟩, BB, KR⟩
    case round =>
      clear BB KR LR
      obtain ⟨k, hk, rfl, ⟨c, rfl, hcl, B, rfl, hB, h6, HI⟩, BB, KR⟩ := hrel
      have LR : Hid (w.heap.size < wr.heap.size) := Lib.hid (by
        rcases Nat.lt_or_ge w.heap.size wr.heap.size with h | h
        · exact h
        · have := KR.out; rw [Array.getElem?_eq_none h] at this; cases this)
      by_cases hlt : k < xs.length
      · have hcell := HC.out wr BB.out k hlt
        have hdrop : xs.drop k = xs[k] :: xs.drop (k + 1) := List.drop_eq_getElem_cons hlt
        have kg := spec_getPiece xs[k] wr (Hx.out _ (List.getElem_mem hlt))
        rw [hdrop] at HI
        have hput : (getP xs[k]).2 = true → pcB (getP xs[k]).1 = xs[k] ∧ pcOk (getP xs[k]).1 = true := pc_put
        obtain ⟨t, ht⟩ : ∃ t, t = xs[k] := ⟨_, rfl⟩
        rw [← ht] at kg HI hput hcell
        clear ht hdrop
        obtain ⟨p, hp⟩ : ∃ z, z = (getP t).1 := ⟨_, rfl⟩
        obtain ⟨ok, hok⟩ : ∃ z, z = (getP t).2 := ⟨_, rfl⟩
        rw [← hp, ← hok] at kg
        have HP := Lib.hid hp
        have HOK := Lib.hid hok
        clear hp hok
        obtain ⟨no, of, pb, pch⟩ := p
        unfold pcV at kg
        dsimp only at kg
        go_wp2_with (go_at_call 22; refine kg.mono ?_; rintro e w1 ⟨rfl, hb⟩; refine Hid.out ?_)
        refine Lib.hid ?_
        obtain ⟨X, hX⟩ : ∃ X, X = w1.alloc (.cells #[.int .i64 no, .int .i64 of, .string pb, .int .i64 pch] 25) := ⟨_, rfl⟩
        have bX : Below w1.heap.size w1 X := by rw [hX]; exact (Below.refl _ _).alloc (Nat.le_refl _) _
        have KX : Hid (X.heap[w1.heap.size]? = some (.cells #[.int .i64 no, .int .i64 of, .string pb, .int .i64 pch] 25 (0, 0))) := Lib.hid (by rw [hX]; exact heap_new _ _)
        have LX : Hid (w1.heap.size < X.heap.size) := Lib.hid (by rw [hX]; simp)
        replace KR := tkb hb LR KR
        replace LR := tlz LR hb.size
        replace BB := tbt BB hb
        replace KR := tkb bX LR KR
        replace LR := tlz LR bX.size
        replace BB := tbt BB bX
        clear hb bX kg hcell
        cases ok
        · have HRES : Hid (importS xs = (⟨[], []⟩, 2)) := Lib.hid (imp_bad h0 (HI.out.trans (imp_piece HOK.out.symm)) (by decide))
          have fR0 := tcr KR 0
          have fR1 := tcr KR 1
          have zR0 := tfr KR 0
          have zR1 := tfr KR 1
          rw [hX] at fR0 fR1 zR0 zR1
          go_wp2_with fail
          rw [← hX]
          have f1 := heap_setCell_same _ w.heap.size 0 _ _ (.slice none 0 0) KR.out
          have f2 := heap_setCell_same _ w.heap.size 1 _ _ (.slice none 0 0) f1
          obtain ⟨j0, q1, q2, q3, q4⟩ := info_parts infoSt
          refine bodyPost_ret (results_cell_row2 (P := Try.prog) rfl _ _ w.heap.size _ _ (0, 0) _ _ rfl rfl f2 Try.underlying44 rfl (by rw [q1]; simp [q3])) rfl ⟨.agg #[.slice none 0 0, .slice none 0 0], by rw [HRES.out]; rfl, ?_, ?_⟩
          · rw [HRES.out]
            exact .inl ⟨rfl, rfl⟩
          · exact (BB.out.setCell (p := ⟨w.heap.size, 0, none⟩) (Nat.le_refl _) _).setCell (p := ⟨w.heap.size, 1, none⟩) (Nat.le_refl _) _
        · obtain ⟨_, hpk⟩ := hput HOK.out.symm
          rw [← HP.out] at hpk
          obtain ⟨⟨o1, o2⟩, ⟨n1, n2⟩, ⟨b1, b2⟩, ⟨c1, c2⟩⟩ := pc_in hpk
          dsimp only at o1 o2 n1 n2 b1 b2 c1 c2
          clear hput hpk
          have fX0 := tcr KX 0
          have fX1 := tcr KX 1
          have fX2 := tcr KX 2
          have fX3 := tcr KX 3
          by_cases hno : no = (k : Int) + 1
          · by_cases hof : of = (xs.length : Int)
            · have h2 : (getP t).1.no = (k : Int) + 1 ∧ (getP t).1.of = (xs.length : Int) := by rw [← HP.out]; exact ⟨hno, hof⟩
              have h600 : xs.length ≤ 600 := by omega
              have kl := fun w => spec_link (c : Int) pb w (by omega) (by omega)
              have hll := link_lt (c : Int) pb
              obtain ⟨lk, hlk⟩ : ∃ z, z = linkN (c : Int) pb := ⟨_, rfl⟩
              rw [← hlk] at kl hll
              have HLK := Lib.hid hlk
              clear hlk
              by_cases hch : pch = (lk : Int)
              · have HI2 : Hid (impGo xs.length xs 0 (hashN []) ⟨#[]⟩ = impGo xs.length (xs.drop (k + 1)) (k + 1) lk (B ++ pb)) := Lib.hid (by
                  rw [HI.out, imp_next HOK.out.symm h2 (by rw [← HP.out]; show pch = _; rw [hch, HLK.out]), ← HP.out]
                  show impGo _ _ _ (linkN (c : Int) pb) (B ++ pb) = _
                  rw [HLK.out])
                clear HI h2
                subst hno hof hch
                rw [hX] at fX0 fX1 fX2 fX3
                have ns : ¬ 9223372036854775807 < B.size + pb.size := by omega
                go_wp2_with (go_at_call 33; refine (kl _).mono ?_; rintro e w2 ⟨rfl, hb⟩; refine Hid.out ?_)
                refine Lib.hid ?_
                rw [← hX] at hb
                replace KR := tkb hb LR KR
                replace KX := tkb hb LX KX
                replace BB := tbt BB hb
                clear hb fX0 fX1 fX2 fX3 kl
                have fX2 := tcr KX 2
                have fX3 := tcr KX 3
                go_wp2_with fail
                go_roundw
                case rel => exact ⟨k + 1, by omega, by go_num, ⟨lk, rfl, hll, B ++ pb, rfl, by rw [ByteArray.size_append]; omega, .inr h600, HI2⟩, BB, KR⟩
                case measure => simp [intOf]; omega
              · have HRES : Hid (importS xs = (⟨[], []⟩, 4)) := Lib.hid (imp_bad h0 (HI.out.trans (imp_chain HOK.out.symm h2 (by rw [← HP.out]; show ¬ pch = _; rw [← HLK.out]; exact hch))) (by decide))
                clear HI h2
                subst hno hof
                rw [hX] at fX0 fX1 fX2 fX3
                go_wp2_with (go_at_call 33; refine (kl _).mono ?_; rintro e w2 ⟨rfl, hb⟩; refine Hid.out ?_)
                refine Lib.hid ?_
                rw [← hX] at hb
                replace KR := tkb hb LR KR
                replace KX := tkb hb LX KX
                replace LR := tlz LR hb.size
                replace BB := tbt BB hb
                clear hb fX0 fX1 fX2 fX3 kl
                have fX3 := tcr KX 3
                have fR0 := tcr KR 0
                have fR1 := tcr KR 1
                have zR0 := tfr KR 0
                have zR1 := tfr KR 1
                go_wp2_with fail
                have f1 := heap_setCell_same _ w.heap.size 0 _ _ (.slice none 0 0) KR.out
                have f2 := heap_setCell_same _ w.heap.size 1 _ _ (.slice none 0 0) f1
                obtain ⟨j0, q1, q2, q3, q4⟩ := info_parts infoSt
                refine bodyPost_ret (results_cell_row2 (P := Try.prog) rfl _ _ w.heap.size _ _ (0, 0) _ _ rfl rfl f2 Try.underlying44 rfl (by rw [q1]; simp [q3])) rfl ⟨.agg #[.slice none 0 0, .slice none 0 0], by rw [HRES.out]; rfl, ?_, ?_⟩
                · rw [HRES.out]
                  exact .inl ⟨rfl, rfl⟩
                · exact (BB.out.setCell (p := ⟨w.heap.size, 0, none⟩) (Nat.le_refl _) _).setCell (p := ⟨w.heap.size, 1, none⟩) (Nat.le_refl _) _
            · have HRES : Hid (importS xs = (⟨[], []⟩, 3)) := Lib.hid (imp_bad h0 (HI.out.trans (imp_order HOK.out.symm (by rw [← HP.out]; exact fun q => hof q.2))) (by decide))
              subst hno
              have fR0 := tcr KR 0
              have fR1 := tcr KR 1
              have zR0 := tfr KR 0
              have zR1 := tfr KR 1
              rw [hX] at fR0 fR1 zR0 zR1 fX0 fX1 fX2 fX3
              go_wp2_with fail
              rw [← hX]
              have f1 := heap_setCell_same _ w.heap.size 0 _ _ (.slice none 0 0) KR.out
              have f2 := heap_setCell_same _ w.heap.size 1 _ _ (.slice none 0 0) f1
              obtain ⟨j0, q1, q2, q3, q4⟩ := info_parts infoSt
              refine bodyPost_ret (results_cell_row2 (P := Try.prog) rfl _ _ w.heap.size _ _ (0, 0) _ _ rfl rfl f2 Try.underlying44 rfl (by rw [q1]; simp [q3])) rfl ⟨.agg #[.slice none 0 0, .slice none 0 0], by rw [HRES.out]; rfl, ?_, ?_⟩
              · rw [HRES.out]
                exact .inl ⟨rfl, rfl⟩
              · exact (BB.out.setCell (p := ⟨w.heap.size, 0, none⟩) (Nat.le_refl _) _).setCell (p := ⟨w.heap.size, 1, none⟩) (Nat.le_refl _) _
          · have HRES : Hid (importS xs = (⟨[], []⟩, 3)) := Lib.hid (imp_bad h0 (HI.out.trans (imp_order HOK.out.symm (by rw [← HP.out]; exact fun q => hno q.1))) (by decide))
            have fR0 := tcr KR 0
            have fR1 := tcr KR 1
            have zR0 := tfr KR 0
            have zR1 := tfr KR 1
            rw [hX] at fR0 fR1 zR0 zR1 fX0 fX1 fX2 fX3
            go_wp2_with fail
            rw [← hX]
            have f1 := heap_setCell_same _ w.heap.size 0 _ _ (.slice none 0 0) KR.out
            have f2 := heap_setCell_same _ w.heap.size 1 _ _ (.slice none 0 0) f1
            obtain ⟨j0, q1, q2, q3, q4⟩ := info_parts infoSt
            refine bodyPost_ret (results_cell_row2 (P := Try.prog) rfl _ _ w.heap.size _ _ (0, 0) _ _ rfl rfl f2 Try.underlying44 rfl (by rw [q1]; simp [q3])) rfl ⟨.agg #[.slice none 0 0, .slice none 0 0], by rw [HRES.out]; rfl, ?_, ?_⟩
            · rw [HRES.out]
              exact .inl ⟨rfl, rfl⟩
            · exact (BB.out.setCell (p := ⟨w.heap.size, 0, none⟩) (Nat.le_refl _) _).setCell (p := ⟨w.heap.size, 1, none⟩) (Nat.le_refl _) _
      · obtain rfl : k = xs.length := by omega
        have hB2 : B.size ≤ 120000 := by omega
        have HG : Hid (importS xs = if (decS B).2 = 0 then (⟨[], []⟩, 5) else ((decS B).1, 0)) := Lib.hid (imp_good h0 (HI.out.trans (by rw [List.drop_length]; rfl)))
        clear HI
        have hc := spec_decode B wr (by omega)
        obtain ⟨ds, hds⟩ : ∃ z, z = (decS B).1 := ⟨_, rfl⟩
        obtain ⟨dv, hdv⟩ : ∃ z, z = (decS B).2 := ⟨_, rfl⟩
        rw [← hds, ← hdv] at HG hc
        clear hds hdv
        go_wp2_with (go_at_call 92; refine hc.mono ?_; rintro e w1 ⟨dvv, rfl, hdec, hb, hlt1⟩; refine Hid.out ?_)
        refine Lib.hid ?_
        obtain ⟨vi, vt, rfl, r1, r2⟩ := hdec.st
        obtain ⟨sa, sc, rfl⟩ := slice_rowE r1
        obtain ⟨ta, tc, rfl⟩ := slice_rowE r2
        clear r1 r2 hc
        obtain ⟨X, hX⟩ : ∃ X, X = w1.alloc (.cells #[.slice sa ds.items.length sc, .slice ta ds.talks.length tc] 44) := ⟨_, rfl⟩
        have bX : Below w1.heap.size w1 X := by rw [hX]; exact (Below.refl _ _).alloc (Nat.le_refl _) _
        have KX : Hid (X.heap[w1.heap.size]? = some (.cells #[.slice sa ds.items.length sc, .slice ta ds.talks.length tc] 44 (0, 0))) := Lib.hid (by rw [hX]; exact heap_new _ _)
        have HB : Hid (w.heap.size + 1 ≤ wr.heap.size) := Lib.hid LR.out
        replace KR := tkb hb LR KR
        replace LR := tlz LR hb.size
        replace BB := tbt BB hb
        replace KR := tkb bX LR KR
        replace LR := tlz LR bX.size
        replace BB := tbt BB bX
        have HD := Lib.hid (hdec.later bX)
        clear hb bX hdec
        have fR0 := tcr KR 0
        have fR1 := tcr KR 1
        have zR0 := tfr KR 0
        have zR1 := tfr KR 1
        rw [hX] at fR0 fR1 zR0 zR1
        by_cases hz : dv = 0
        · have HRES : Hid (importS xs = (⟨[], []⟩, 5)) := Lib.hid (by rw [HG.out, if_pos hz])
          subst hz
          go_wp2_with fail
          rw [← hX]
          have f1 := heap_setCell_same _ w.heap.size 0 _ _ (.slice none 0 0) KR.out
          have f2 := heap_setCell_same _ w.heap.size 1 _ _ (.slice none 0 0) f1
          obtain ⟨j0, q1, q2, q3, q4⟩ := info_parts infoSt
          refine bodyPost_ret (results_cell_row2 (P := Try.prog) rfl _ _ w.heap.size _ _ (0, 0) _ _ rfl rfl f2 Try.underlying44 rfl (by rw [q1]; simp [q3])) rfl ⟨.agg #[.slice none 0 0, .slice none 0 0], by rw [HRES.out]; rfl, ?_, ?_⟩
          · rw [HRES.out]
            exact .inl ⟨rfl, rfl⟩
          · exact (BB.out.setCell (p := ⟨w.heap.size, 0, none⟩) (Nat.le_refl _) _).setCell (p := ⟨w.heap.size, 1, none⟩) (Nat.le_refl _) _
        · have HRES : Hid (importS xs = (ds, 0)) := Lib.hid (by rw [HG.out, if_neg hz])
          have fX0 := tcr KX 0
          have fX1 := tcr KX 1
          rw [hX] at fX0 fX1
          go_wp2_with fail
          rw [← hX]
          have f1 := heap_setCell_same _ w.heap.size 0 _ _ (.slice sa ds.items.length sc) KR.out
          have f2 := heap_setCell_same _ w.heap.size 1 _ _ (.slice ta ds.talks.length tc) f1
          obtain ⟨j0, q1, q2, q3, q4⟩ := info_parts infoSt
          refine bodyPost_ret (results_cell_row2 (P := Try.prog) rfl _ _ w.heap.size _ _ (0, 0) _ _ rfl rfl f2 Try.underlying44 rfl (by rw [q1]; simp [q3])) rfl ⟨.agg #[.slice sa ds.items.length sc, .slice ta ds.talks.length tc], by rw [HRES.out]; rfl, ?_, ?_⟩
          · rw [HRES.out]
            rcases HD.out with ⟨e1, e2⟩ | ho
            · exact .inl ⟨e1, e2⟩
            · exact .inr (own_set (ho.base HB.out) (Nat.le_refl _) _ _)
          · exact (BB.out.setCell (p := ⟨w.heap.size, 0, none⟩) (Nat.le_refl _) _).setCell (p := ⟨w.heap.size, 1, none⟩) (Nat.le_refl _) _
end Go.Proofs.Ytlklhmdpkicpnaa
