/- What the proofs of this seat have in common: plain facts, rows in memory, the laws' own helpers, the small functions' contracts. Condition: none. -/
import Derived.Test.YtlklhmdpkicpnaaSpecGet
import Derived.Test.YtlklhmdpkicpnaaFmtA
import Derived.Test.YtlklhmdpkicpnaaTexts
import Derived.Test.YtlklhmdpkicpnaaBaseA
import Derived.Test.YtlklhmdpkicpnaaSpecEnc
import Derived.Test.YtlklhmdpkicpnaaDrawFmt
import Derived.Test.YtlklhmdpkicpnaaSpecDec
namespace Go.Proofs.Ytlklhmdpkicpnaa
open Go.RowKit
set_option linter.unusedVariables false
set_option linter.unusedSimpArgs false

theorem infoS7 : (Try.prog.info? 9).map (fun i => (i.zero, i.size, i.bytes)) = some (some (.string ⟨#[]⟩), 1, 16) := by kernel_rfl
theorem ok_fit {p : Pc} (h : pcOk p = true) : FitPc p := by
  obtain ⟨h1, h2, h3, h4⟩ := pc_in h
  exact ⟨by omega, by omega, by unfold maxLen; omega, by omega⟩
theorem cut_none (size : Int) : cutS ⟨#[]⟩ size = [] := by unfold cutS; rw [if_pos rfl]
theorem cut_size {s : ByteArray} {size : Int} (h : inB size 8 200 = false) : cutS s size = [] := by
  unfold cutS
  split
  · rfl
  · first | rfl | rw [if_pos h] | simp [h]
theorem cut_many {s : ByteArray} {n : Nat} (h : 600 < manyN s n) : cutS s (n : Int) = [] := by
  unfold cutS
  rw [Int.toNat_natCast, if_pos h]
  split
  · rfl
  · split <;> rfl
theorem cut_ok {s : ByteArray} {n : Nat} (h0 : ¬ s = ⟨#[]⟩) (h1 : inB (n : Int) 8 200 = true) (h : ¬ 600 < manyN s n) : cutS s (n : Int) = cutUp s n (manyN s n) := by
  unfold cutS
  rw [if_neg h0, h1, if_neg (by decide), Int.toNat_natCast, if_neg h]

set_option maxRecDepth 100000 in
set_option maxHeartbeats 8000000 in
theorem spec_cut (s : ByteArray) (size : Int) (w : World) (hs : s.size ≤ 1099511627776) :
    Calls Try.prog 29 #[.string s, .int .i64 size] w fun e w' => ∃ v, e = .returned v ∧ Texts w' w.heap.size v (cutS s size) ∧ Below w.heap.size w w' := by
  by_cases h0 : s = ⟨#[]⟩
  · subst h0
    have HR := Lib.hid (cut_none size)
    go_enter Try.func29, Try.ntmps29
    go_wp2
    go_ret
    exact ⟨_, rfl, by rw [HR.out]; exact Texts.empty _ _ (Nat.le_refl _), (Below.refl _ _).alloc (Nat.le_refl _) _⟩
  · have hl : ¬ s.toList = [] := fun h => h0 (by
      apply ByteArray.ext; apply Array.toList_inj.mp
      rw [← ByteArray.toList_eq]; exact h)
    have hq : s.toList.isEmpty = false := by simpa using hl
    have hq2 : (s.toList == []) = false := by simpa using hl
    have hpos : 0 < s.size := by
      rcases Nat.eq_zero_or_pos s.size with h | h
      · exact absurd (ByteArray.size_eq_zero_iff.1 h) h0
      · exact h
    have hc := fun w => in_any size 8 200 w
    cases hin : inB size 8 200
    · rw [hin] at hc
      have HR := Lib.hid (cut_size (s := s) hin)
      clear hin h0
      go_enter Try.func29, Try.ntmps29
      go_wp2_with (go_at_call 75; refine (hc _).mono ?_; rintro e w1 ⟨rfl, rfl⟩)
      go_ret
      exact ⟨_, rfl, by rw [HR.out]; exact Texts.empty _ _ (Nat.le_refl _), (Below.refl _ _).alloc (Nat.le_refl _) _⟩
    · rw [hin] at hc
      have hb := inB_true hin
      obtain ⟨n, rfl⟩ := Int.eq_ofNat_of_zero_le (show 0 ≤ size by omega)
      obtain ⟨M, hM⟩ : ∃ m, m = manyN s n := ⟨_, rfl⟩
      have hquo : Int.tdiv ((s.size : Int) + (n : Int) - 1) (n : Int) = (M : Int) := by
        rw [hM]; unfold manyN
        rw [show ((s.size : Int) + (n : Int) - 1) = ((s.size + n - 1 : Nat) : Int) by omega, Int.tdiv_eq_ediv_of_nonneg (by omega)]
        exact (Int.natCast_ediv _ _).symm
      have hMle : M ≤ s.size + n := by rw [hM]; unfold manyN; exact Nat.le_trans (Nat.div_le_self _ _) (by omega)
      have hwM : wrap64 (M : Int) = (M : Int) := IntWalk.wrap64_in _ ⟨by omega, by omega⟩
      have hn0 : ¬ (n : Int) = 0 := by omega
      have hn1 : ((n : Int) == 0) = false := by simp; omega
      by_cases hmany : 600 < M
      · have HR := Lib.hid (cut_many (s := s) (n := n) (by rw [← hM]; exact hmany))
        clear hin h0 hM
        go_enter Try.func29, Try.ntmps29
        go_wp2_with (go_at_call 75; refine (hc _).mono ?_; rintro e w1 ⟨rfl, rfl⟩)
        go_ret
        exact ⟨_, rfl, by rw [HR.out]; exact Texts.empty _ _ (Nat.le_refl _), (Below.refl _ _).alloc (Nat.le_refl _) _⟩
      · have HR := Lib.hid (cut_ok h0 hin (by rw [← hM]; exact hmany))
        have HM := Lib.hid hM
        rw [← hM] at HR
        have hm6 : M ≤ 600 := by omega
        clear hin h0 hM hmany hMle
        have kh := fun w => spec_hash ⟨#[]⟩ w (by unfold maxLen; exact Nat.zero_le _)
        obtain ⟨h00, hh00⟩ : ∃ z, z = hashN [] := ⟨_, rfl⟩
        have HH := Lib.hid hh00
        change ∀ w, Calls Try.prog 81 #[.string ⟨#[]⟩] w fun e w' => e = .returned (.int .i64 ((hashN [] : Nat) : Int)) ∧ w = w' at kh
        rw [← hh00] at kh
        clear hh00
        obtain ⟨i0, hi, hz0, hz1, hz2⟩ := info_parts infoS7
        go_enter Try.func29, Try.ntmps29
        go_wp2_with (first | (go_at_call 75; refine (hc _).mono ?_; rintro e w1 ⟨rfl, rfl⟩) | (go_at_call 81; refine (kh _).mono ?_; rintro e w1 ⟨rfl, rfl⟩))
        go_loopw [5, 7, 8] (fun out ch i wr => ∃ k : Nat, k ≤ M ∧ i = .int .i64 k ∧ (∃ c : Nat, ch = .int .i64 c ∧ c < 4294967296 ∧ Hid (c = chainN s n k)) ∧ Texts wr w.heap.size out (cutUp s n k) ∧ Below w.heap.size w wr) (fun _ _ i _ => M - (intOf i).toNat)
        case atStart => exact ⟨0, Nat.zero_le _, rfl, ⟨h00, rfl, by rw [HH.out]; exact hashN_lt _, Lib.hid (by rw [HH.out]; rfl)⟩, by rw [cutUp_zero]; exact Texts.empty _ _ (Nat.le_refl _), (Below.refl _ _).alloc (Nat.le_refl _) _⟩
        case round =>
          obtain ⟨k, hk, rfl, ⟨c, rfl, hcl, HC⟩, hrow, hB⟩ := hrel
          have hsz := hB.size
          by_cases hlt : k < M
          · have hnp : 0 < n := by omega
            have hin' := many_in hnp (by rw [← HM.out]; exact hlt)
            have hend := end_in hnp (by rw [← HM.out]; exact hlt)
            have hpo := piece_ok hnp (by omega) (by rw [← HM.out]; exact hm6) (by rw [← HM.out]; exact hlt)
            have hps := part_size hnp (by rw [← HM.out]; exact hlt)
            have hlen := cutUp_len s n k
            have kl := fun w => spec_link (c : Int) (partB s n k) w (by omega) (by omega)
            have kp := fun w => spec_putPiece (pieceN s n k) w (ok_fit hpo)
            have hlk : Hid (linkN (c : Int) (partB s n k) = chainN s n (k + 1)) := Lib.hid (by rw [HC.out]; rfl)
            have hcl2 := chain_lt s n (k + 1)
            obtain ⟨c2, hc2⟩ : ∃ z, z = chainN s n (k + 1) := ⟨_, rfl⟩
            rw [hlk.out, ← hc2] at kl
            have hsn := Lib.hid (cutUp_succ s n k)
            obtain ⟨PB, hPB⟩ : ∃ z, z = pcB (pieceN s n k) := ⟨_, rfl⟩
            rw [← hPB] at kp hsn
            have hpiece : pieceN s n k = ⟨(k : Int) + 1, (M : Int), partB s n k, (c2 : Int)⟩ := by unfold pieceN; rw [← hc2, ← HM.out]
            rw [hpiece] at kp
            unfold pcV at kp
            dsimp only at kp
            rw [← hc2] at hcl2
            have HC2 := Lib.hid hc2
            clear hpo hPB hpiece hc2 hlk
            obtain ⟨A, hA⟩ : ∃ a, a = k * n := ⟨_, rfl⟩
            obtain ⟨E, hE⟩ : ∃ a, a = endN s n k := ⟨_, rfl⟩
            have hE' : E = if A + n ≤ s.size then A + n else s.size := by rw [hE, hA]; unfold endN; rw [Nat.add_mul, Nat.one_mul]
            have hP : partB s n k = s.extract A E := by unfold partB; rw [← hA, ← hE]
            rw [hP] at kl kp hps
            rw [← hA, ← hE] at hend
            rw [← hA] at hin'
            obtain ⟨U, hU⟩ : ∃ a, a = A + n := ⟨_, rfl⟩
            rw [← hU] at hE'
            have hw1 : wrap64 (((k : Int) + 1) * (n : Int)) = (U : Int) := by
              have e : ((k : Int) + 1) * (n : Int) = (U : Int) := by rw [hU, hA, Int.natCast_add, Int.natCast_mul, Int.add_mul, Int.one_mul]
              rw [e]; exact IntWalk.wrap64_in _ ⟨by omega, by omega⟩
            have hw2 : wrap64 ((k : Int) * (n : Int)) = (A : Int) := by
              have e : (k : Int) * (n : Int) = (A : Int) := by rw [hA, Int.natCast_mul]
              rw [e]; exact IntWalk.wrap64_in _ ⟨by omega, by omega⟩
            obtain ⟨hend1, hend2, -⟩ := hend
            clear hA hE hP hq hq2 hl hquo hwM hn0 hn1 HC hc kh hU hin' hps
            have HW1 : ∀ z : Int, z = ((k : Int) + 1) * (n : Int) → wrap64 z = (U : Int) := fun z h => by rw [h]; exact hw1
            have HW2 : ∀ z : Int, z = (k : Int) * (n : Int) → wrap64 z = (A : Int) := fun z h => by rw [h]; exact hw2
            clear hw1 hw2
            by_cases hle : U ≤ s.size
            · rw [if_pos hle] at hE'
              subst hE'
              go_wp2_with fail
              all_goals first
                | (exfalso; have e1 := HW1 _ rfl; have e2 := HW2 _ rfl; clear HW1 HW2; simp only [e1, e2] at *; omega)
                | skip
              have e1 := HW1 _ rfl
              have e2 := HW2 _ rfl
              clear HW1
              simp only [e1, e2, Int.toNat_natCast] at *
              refine (kl _).mono ?_
              rintro e w1 ⟨rfl, hb⟩
              replace hrow := hrow.later hb
              replace hB := hB.trans (hb.mono hB.size)
              replace hsz := hB.size
              clear hb kl
              go_wp2_with (go_at_call 23; refine Hid.out ?_)
              all_goals first
                | (exfalso; have e2 := HW2 _ rfl; clear HW2; simp only [e2] at *; omega)
                | skip
              refine Lib.hid ?_
              simp only [HW2 _ rfl, Int.toNat_natCast]
              refine (kp _).mono ?_
              rintro e w2 ⟨rfl, hb⟩
              replace hrow := hrow.later hb
              replace hB := hB.trans (hb.mono hB.size)
              replace hsz := hB.size
              clear hb HW2 kp
              go_wp2_with (at_builtin; refine wpList_append_own _ rfl _ _ 34 rfl w.heap.size 9 i0 (.string ⟨#[]⟩) 1 16 Try.underlying34 hi hz0 hz1 hz2 rfl (by decide) _ _ _ rfl (World.ownsRow.alloc hrow _) ⟨_, 0, none⟩ 1 1 [.string PB] rfl rfl (cell_one_new _ _ _) (by simp [Value.oneCell']) (by unfold maxLen; omega) (by omega) (by simp; omega) ?_; intro v' w3 hown' hgrow _)
              go_roundw
              case rel => exact ⟨k + 1, by omega, by go_num, ⟨c2, rfl, hcl2, HC2⟩, by rw [hsn.out]; exact Texts.snoc hown', hrow.grown hB hsz hgrow⟩
              case measure => simp [intOf]; omega
            · rw [if_neg hle] at hE'
              subst hE'
              go_wp2_with fail
              all_goals first
                | (exfalso; have e1 := HW1 _ rfl; have e2 := HW2 _ rfl; clear HW1 HW2; simp only [e1, e2] at *; omega)
                | skip
              have e1 := HW1 _ rfl
              have e2 := HW2 _ rfl
              clear HW1
              simp only [e1, e2, Int.toNat_natCast] at *
              refine (kl _).mono ?_
              rintro e w1 ⟨rfl, hb⟩
              replace hrow := hrow.later hb
              replace hB := hB.trans (hb.mono hB.size)
              replace hsz := hB.size
              clear hb kl
              go_wp2_with (go_at_call 23; refine Hid.out ?_)
              all_goals first
                | (exfalso; have e2 := HW2 _ rfl; clear HW2; simp only [e2] at *; omega)
                | skip
              refine Lib.hid ?_
              simp only [HW2 _ rfl, Int.toNat_natCast]
              refine (kp _).mono ?_
              rintro e w2 ⟨rfl, hb⟩
              replace hrow := hrow.later hb
              replace hB := hB.trans (hb.mono hB.size)
              replace hsz := hB.size
              clear hb HW2 kp
              go_wp2_with (at_builtin; refine wpList_append_own _ rfl _ _ 34 rfl w.heap.size 9 i0 (.string ⟨#[]⟩) 1 16 Try.underlying34 hi hz0 hz1 hz2 rfl (by decide) _ _ _ rfl (World.ownsRow.alloc hrow _) ⟨_, 0, none⟩ 1 1 [.string PB] rfl rfl (cell_one_new _ _ _) (by simp [Value.oneCell']) (by unfold maxLen; omega) (by omega) (by simp; omega) ?_; intro v' w3 hown' hgrow _)
              go_roundw
              case rel => exact ⟨k + 1, by omega, by go_num, ⟨c2, rfl, hcl2, HC2⟩, by rw [hsn.out]; exact Texts.snoc hown', hrow.grown hB hsz hgrow⟩
              case measure => simp [intOf]; omega
          · obtain rfl : k = M := by omega
            go_wp2_with fail
            go_ret
            exact ⟨_, rfl, by rw [HR.out]; exact hrow, hB⟩
end Go.Proofs.Ytlklhmdpkicpnaa

namespace Go.Proofs.Ytlklhmdpkicpnaa
open Go.RowKit
set_option linter.unusedVariables false
set_option linter.unusedSimpArgs false

theorem Texts.lower {w : World} {B B' : Nat} {v : Value} {xs : List ByteArray} (h : Texts w B v xs) (hB : B' ≤ B) : Texts w B' v xs := by
  obtain ⟨h1, h | ⟨g, cap, cur, a, b, c⟩⟩ := h
  · exact ⟨h1, .inl h⟩
  · exact ⟨h1, .inr ⟨g, cap, cur, a, Nat.le_trans hB b, c⟩⟩
set_option maxRecDepth 100000 in
set_option maxHeartbeats 4000000 in
theorem spec_export (s : St) (v : Value) (n size : Int) (B : Nat) (w : World) (hs : StV w B v s) (hB : B ≤ w.heap.size) (hfit : Fits s) :
    Calls Try.prog 36 #[v, .int .i64 n, .int .i64 size] w fun e w' => ∃ r, e = .returned r ∧ Texts w' w.heap.size r (cutS (fmtS s n) size) ∧ Below w.heap.size w w' := by
  obtain ⟨vi, vt, rfl, hri, hrt⟩ := hs.rd
  obtain ⟨W, hW⟩ : ∃ W, W = w.alloc (.cells #[vi, vt] 44) := ⟨_, rfl⟩
  have bW : Below w.heap.size w W := by rw [hW]; exact (Below.refl _ _).alloc (Nat.le_refl _) _
  have hc0 := spec_encode s _ n B W (hs.later (bW.mono hB) (Nat.le_refl _)) (Nat.le_trans hB bW.size) hfit
  have hle := fmt_le s n
  have BB := Lib.hid bW
  clear bW hs hri hrt
  obtain ⟨E, hE⟩ : ∃ z, z = fmtS s n := ⟨_, rfl⟩
  rw [← hE] at hc0 hle ⊢
  have k2 := fun w => spec_cut E size w (by omega)
  clear hE
  rw [hW] at hc0
  go_enter Try.func36, Try.ntmps36
  go_wp2_with (first | (go_at_call 86; refine hc0.mono ?_; rintro e w1 ⟨rfl, hb⟩; rw [← hW] at hb; replace BB := tbt BB hb; clear hb) | (go_at_call 29; refine (k2 _).mono ?_; rintro e w2 ⟨r, rfl, hr, hb⟩))
  go_ret
  exact ⟨_, rfl, hr.lower BB.out.size, BB.out.trans (hb.mono BB.out.size)⟩
end Go.Proofs.Ytlklhmdpkicpnaa

namespace Go.Proofs.Ytlklhmdpkicpnaa
open Go.RowKit
set_option linter.unusedVariables false
set_option linter.unusedSimpArgs false

theorem imp_none : importS [] = (⟨[], []⟩, 1) := rfl
theorem imp_bad {l : List ByteArray} {z : Int × ByteArray} (hl : ¬ l = []) (h : impGo l.length l 0 (hashN []) ⟨#[]⟩ = z) (hz : ¬ z.1 = 0) : importS l = (⟨[], []⟩, z.1) := by
  unfold importS
  rw [if_neg hl, h, if_pos hz]
theorem imp_good {l : List ByteArray} {b : ByteArray} (hl : ¬ l = []) (h : impGo l.length l 0 (hashN []) ⟨#[]⟩ = (0, b)) : importS l = if (decS b).2 = 0 then (⟨[], []⟩, 5) else ((decS b).1, 0) := by
  unfold importS
  rw [if_neg hl, h, if_neg (fun q => q rfl)]
set_option maxRecDepth 100000 in
set_option maxHeartbeats 8000000 in
theorem spec_import (xs : List ByteArray) (v : Value) (w : World) (hl : xs.length ≤ 1099511627776) (hx : ∀ x ∈ xs, x.size ≤ 1099511627776) (hr : Raw w w.heap.size v xs.length (xs.map Value.string)) :
    Calls Try.prog 40 #[v] w fun e w' => ∃ v, e = .returned (.tuple #[v, .int .i64 (importS xs).2]) ∧ DecV w' w.heap.size v (importS xs).1 ∧ Below w.heap.size w w' := by
  obtain ⟨W, hW⟩ : ∃ W, W = w.alloc (.cells #[.slice none 0 0, .slice none 0 0] 44) := ⟨_, rfl⟩
  have bW : Below w.heap.size w W := by rw [hW]; exact (Below.refl _ _).alloc (Nat.le_refl _) _
  have KR : Hid (W.heap[w.heap.size]? = some (.cells #[.slice none 0 0, .slice none 0 0] 44 (0, 0))) := Lib.hid (by rw [hW]; exact heap_new _ _)
  have LR : Hid (w.heap.size < W.heap.size) := Lib.hid (by rw [hW]; simp)
  have BB := Lib.hid bW
  clear bW
  by_cases h0 : xs = []
  · subst h0
    obtain ⟨a, cap, rfl, -⟩ := hr
    have HRES := Lib.hid imp_none
    have fR0 := tcr KR 0
    have fR1 := tcr KR 1
    have zR0 := tfr KR 0
    have zR1 := tfr KR 1
    rw [hW] at fR0 fR1 zR0 zR1
    go_enter Try.func40, Try.ntmps40
    go_wp2_with fail
    rw [← hW]
    obtain ⟨j0, q1, q2, q3, q4⟩ := info_parts infoSt
    refine bodyPost_ret (results_cell_row2 (P := Try.prog) rfl _ _ w.heap.size _ _ (0, 0) _ _ rfl rfl KR.out Try.underlying44 rfl (by rw [q1]; simp [q3])) rfl ⟨.agg #[.slice none 0 0, .slice none 0 0], by rw [HRES.out]; rfl, ?_, BB.out⟩
    rw [HRES.out]
    exact .inl ⟨rfl, rfl⟩
  · have hpos : 0 < xs.length := List.length_pos_iff.2 h0
    obtain ⟨a, cap, rfl, -, -, -, hA⟩ := hr
    obtain ⟨g, o, rfl, hg, hAt⟩ := hA hpos
    have HC : Hid (∀ w', Below w.heap.size w w' → ∀ k (hk : k < xs.length), w'.cell? ⟨g, o + k, none⟩ = some (.string xs[k])) := Lib.hid (fun w' hb k hk => (hAt.below hb hg) k _ (by simp [hk]))
    have Hx := Lib.hid hx
    have kh := fun w => spec_hash ⟨#[]⟩ w (by unfold maxLen; exact Nat.zero_le _)
    obtain ⟨h00, hh00⟩ : ∃ z, z = hashN [] := ⟨_, rfl⟩
    have HH := Lib.hid hh00
    change ∀ w, Calls Try.prog 81 #[.string ⟨#[]⟩] w fun e w' => e = .returned (.int .i64 ((hashN [] : Nat) : Int)) ∧ w = w' at kh
    rw [← hh00] at kh
    clear hh00 hA hAt hg hx
    have hl0 : ¬ (xs.length : Int) = 0 := by omega
    go_enter Try.func40, Try.ntmps40
    go_wp2_with (go_at_call 81; refine (kh _).mono ?_; rintro e w1 ⟨rfl, rfl⟩; refine Hid.out ?_)
    refine Lib.hid ?_
    rw [← hW]
    clear kh hW
    go_wp2_with fail
    go_loopw [4, 5, 6] (fun ch b i wr => ∃ k : Nat, k ≤ xs.length ∧ i = .int .i64 k ∧ (∃ c : Nat, ch = .int .i64 c ∧ c < 4294967296 ∧ ∃ B, b = .string B ∧ B.size ≤ 200 * k ∧ (k = 0 ∨ xs.length ≤ 600) ∧ Hid (impGo xs.length xs 0 (hashN []) ⟨#[]⟩ = impGo xs.length (xs.drop k) k c B)) ∧ Hid (Below w.heap.size w wr) ∧ Hid (wr.heap[w.heap.size]? = some (.cells #[.slice none 0 0, .slice none 0 0] 44 (0, 0)))) (fun _ _ i _ => xs.length - (intOf i).toNat)
    case atStart => exact ⟨0, Nat.zero_le _, rfl, ⟨h00, rfl, by rw [HH.out]; exact hashN_lt _, ⟨#[]⟩, rfl, Nat.zero_le _, .inl rfl, Lib.hid (by rw [HH.out]; rfl)⟩, BB, KR⟩
    case round =>
      clear BB KR LR
      obtain ⟨k, hk, rfl, ⟨c, rfl, hcl, B, rfl, hB, h6, HI⟩, BB, KR⟩ := hrel
      have LR : Hid (w.heap.size < wr.heap.size) := Lib.hid (by
        rcases Nat.lt_or_ge w.heap.size wr.heap.size with h | h
        · exact h
        · have := KR.out; rw [Array.getElem?_eq_none h] at this; cases this)
      by_cases hlt : k < xs.length
      · have hcell := HC.out wr BB.out k hlt
        have hdrop : xs.drop k = xs[k] :: xs.drop (k + 1) := List.drop_eq_getElem_cons hlt
        have kg := spec_getPiece xs[k] wr (Hx.out _ (List.getElem_mem hlt))
        rw [hdrop] at HI
        have hput : (getP xs[k]).2 = true → pcB (getP xs[k]).1 = xs[k] ∧ pcOk (getP xs[k]).1 = true := pc_put
        obtain ⟨t, ht⟩ : ∃ t, t = xs[k] := ⟨_, rfl⟩
        rw [← ht] at kg HI hput hcell
        clear ht hdrop
        obtain ⟨p, hp⟩ : ∃ z, z = (getP t).1 := ⟨_, rfl⟩
        obtain ⟨ok, hok⟩ : ∃ z, z = (getP t).2 := ⟨_, rfl⟩
        rw [← hp, ← hok] at kg
        have HP := Lib.hid hp
        have HOK := Lib.hid hok
        clear hp hok
        obtain ⟨no, of, pb, pch⟩ := p
        unfold pcV at kg
        dsimp only at kg
        go_wp2_with (go_at_call 22; refine kg.mono ?_; rintro e w1 ⟨rfl, hb⟩; refine Hid.out ?_)
        refine Lib.hid ?_
        obtain ⟨X, hX⟩ : ∃ X, X = w1.alloc (.cells #[.int .i64 no, .int .i64 of, .string pb, .int .i64 pch] 25) := ⟨_, rfl⟩
        have bX : Below w1.heap.size w1 X := by rw [hX]; exact (Below.refl _ _).alloc (Nat.le_refl _) _
        have KX : Hid (X.heap[w1.heap.size]? = some (.cells #[.int .i64 no, .int .i64 of, .string pb, .int .i64 pch] 25 (0, 0))) := Lib.hid (by rw [hX]; exact heap_new _ _)
        have LX : Hid (w1.heap.size < X.heap.size) := Lib.hid (by rw [hX]; simp)
        replace KR := tkb hb LR KR
        replace LR := tlz LR hb.size
        replace BB := tbt BB hb
        replace KR := tkb bX LR KR
        replace LR := tlz LR bX.size
        replace BB := tbt BB bX
        clear hb bX kg hcell
        cases ok
        · have HRES : Hid (importS xs = (⟨[], []⟩, 2)) := Lib.hid (imp_bad h0 (HI.out.trans (imp_piece HOK.out.symm)) (by decide))
          have fR0 := tcr KR 0
          have fR1 := tcr KR 1
          have zR0 := tfr KR 0
          have zR1 := tfr KR 1
          rw [hX] at fR0 fR1 zR0 zR1
          go_wp2_with fail
          rw [← hX]
          have f1 := heap_setCell_same _ w.heap.size 0 _ _ (.slice none 0 0) KR.out
          have f2 := heap_setCell_same _ w.heap.size 1 _ _ (.slice none 0 0) f1
          obtain ⟨j0, q1, q2, q3, q4⟩ := info_parts infoSt
          refine bodyPost_ret (results_cell_row2 (P := Try.prog) rfl _ _ w.heap.size _ _ (0, 0) _ _ rfl rfl f2 Try.underlying44 rfl (by rw [q1]; simp [q3])) rfl ⟨.agg #[.slice none 0 0, .slice none 0 0], by rw [HRES.out]; rfl, ?_, ?_⟩
          · rw [HRES.out]
            exact .inl ⟨rfl, rfl⟩
          · exact (BB.out.setCell (p := ⟨w.heap.size, 0, none⟩) (Nat.le_refl _) _).setCell (p := ⟨w.heap.size, 1, none⟩) (Nat.le_refl _) _
        · obtain ⟨_, hpk⟩ := hput HOK.out.symm
          rw [← HP.out] at hpk
          obtain ⟨⟨o1, o2⟩, ⟨n1, n2⟩, ⟨b1, b2⟩, ⟨c1, c2⟩⟩ := pc_in hpk
          dsimp only at o1 o2 n1 n2 b1 b2 c1 c2
          clear hput hpk
          have fX0 := tcr KX 0
          have fX1 := tcr KX 1
          have fX2 := tcr KX 2
          have fX3 := tcr KX 3
          by_cases hno : no = (k : Int) + 1
          · by_cases hof : of = (xs.length : Int)
            · have h2 : (getP t).1.no = (k : Int) + 1 ∧ (getP t).1.of = (xs.length : Int) := by rw [← HP.out]; exact ⟨hno, hof⟩
              have h600 : xs.length ≤ 600 := by omega
              have kl := fun w => spec_link (c : Int) pb w (by omega) (by omega)
              have hll := link_lt (c : Int) pb
              obtain ⟨lk, hlk⟩ : ∃ z, z = linkN (c : Int) pb := ⟨_, rfl⟩
              rw [← hlk] at kl hll
              have HLK := Lib.hid hlk
              clear hlk
              by_cases hch : pch = (lk : Int)
              · have HI2 : Hid (impGo xs.length xs 0 (hashN []) ⟨#[]⟩ = impGo xs.length (xs.drop (k + 1)) (k + 1) lk (B ++ pb)) := Lib.hid (by
                  rw [HI.out, imp_next HOK.out.symm h2 (by rw [← HP.out]; show pch = _; rw [hch, HLK.out]), ← HP.out]
                  show impGo _ _ _ (linkN (c : Int) pb) (B ++ pb) = _
                  rw [HLK.out])
                clear HI h2
                subst hno hof hch
                rw [hX] at fX0 fX1 fX2 fX3
                have ns : ¬ 9223372036854775807 < B.size + pb.size := by omega
                go_wp2_with (go_at_call 33; refine (kl _).mono ?_; rintro e w2 ⟨rfl, hb⟩; refine Hid.out ?_)
                refine Lib.hid ?_
                rw [← hX] at hb
                replace KR := tkb hb LR KR
                replace KX := tkb hb LX KX
                replace BB := tbt BB hb
                clear hb fX0 fX1 fX2 fX3 kl
                have fX2 := tcr KX 2
                have fX3 := tcr KX 3
                go_wp2_with fail
                go_roundw
                case rel => exact ⟨k + 1, by omega, by go_num, ⟨lk, rfl, hll, B ++ pb, rfl, by rw [ByteArray.size_append]; omega, .inr h600, HI2⟩, BB, KR⟩
                case measure => simp [intOf]; omega
              · have HRES : Hid (importS xs = (⟨[], []⟩, 4)) := Lib.hid (imp_bad h0 (HI.out.trans (imp_chain HOK.out.symm h2 (by rw [← HP.out]; show ¬ pch = _; rw [← HLK.out]; exact hch))) (by decide))
                clear HI h2
                subst hno hof
                rw [hX] at fX0 fX1 fX2 fX3
                go_wp2_with (go_at_call 33; refine (kl _).mono ?_; rintro e w2 ⟨rfl, hb⟩; refine Hid.out ?_)
                refine Lib.hid ?_
                rw [← hX] at hb
                replace KR := tkb hb LR KR
                replace KX := tkb hb LX KX
                replace LR := tlz LR hb.size
                replace BB := tbt BB hb
                clear hb fX0 fX1 fX2 fX3 kl
                have fX3 := tcr KX 3
                have fR0 := tcr KR 0
                have fR1 := tcr KR 1
                have zR0 := tfr KR 0
                have zR1 := tfr KR 1
                go_wp2_with fail
                have f1 := heap_setCell_same _ w.heap.size 0 _ _ (.slice none 0 0) KR.out
                have f2 := heap_setCell_same _ w.heap.size 1 _ _ (.slice none 0 0) f1
                obtain ⟨j0, q1, q2, q3, q4⟩ := info_parts infoSt
                refine bodyPost_ret (results_cell_row2 (P := Try.prog) rfl _ _ w.heap.size _ _ (0, 0) _ _ rfl rfl f2 Try.underlying44 rfl (by rw [q1]; simp [q3])) rfl ⟨.agg #[.slice none 0 0, .slice none 0 0], by rw [HRES.out]; rfl, ?_, ?_⟩
                · rw [HRES.out]
                  exact .inl ⟨rfl, rfl⟩
                · exact (BB.out.setCell (p := ⟨w.heap.size, 0, none⟩) (Nat.le_refl _) _).setCell (p := ⟨w.heap.size, 1, none⟩) (Nat.le_refl _) _
            · have HRES : Hid (importS xs = (⟨[], []⟩, 3)) := Lib.hid (imp_bad h0 (HI.out.trans (imp_order HOK.out.symm (by rw [← HP.out]; exact fun q => hof q.2))) (by decide))
              subst hno
              have fR0 := tcr KR 0
              have fR1 := tcr KR 1
              have zR0 := tfr KR 0
              have zR1 := tfr KR 1
              rw [hX] at fR0 fR1 zR0 zR1 fX0 fX1 fX2 fX3
              go_wp2_with fail
              rw [← hX]
              have f1 := heap_setCell_same _ w.heap.size 0 _ _ (.slice none 0 0) KR.out
              have f2 := heap_setCell_same _ w.heap.size 1 _ _ (.slice none 0 0) f1
              obtain ⟨j0, q1, q2, q3, q4⟩ := info_parts infoSt
              refine bodyPost_ret (results_cell_row2 (P := Try.prog) rfl _ _ w.heap.size _ _ (0, 0) _ _ rfl rfl f2 Try.underlying44 rfl (by rw [q1]; simp [q3])) rfl ⟨.agg #[.slice none 0 0, .slice none 0 0], by rw [HRES.out]; rfl, ?_, ?_⟩
              · rw [HRES.out]
                exact .inl ⟨rfl, rfl⟩
              · exact (BB.out.setCell (p := ⟨w.heap.size, 0, none⟩) (Nat.le_refl _) _).setCell (p := ⟨w.heap.size, 1, none⟩) (Nat.le_refl _) _
          · have HRES : Hid (importS xs = (⟨[], []⟩, 3)) := Lib.hid (imp_bad h0 (HI.out.trans (imp_order HOK.out.symm (by rw [← HP.out]; exact fun q => hno q.1))) (by decide))
            have fR0 := tcr KR 0
            have fR1 := tcr KR 1
            have zR0 := tfr KR 0
            have zR1 := tfr KR 1
            rw [hX] at fR0 fR1 zR0 zR1 fX0 fX1 fX2 fX3
            go_wp2_with fail
            rw [← hX]
            have f1 := heap_setCell_same _ w.heap.size 0 _ _ (.slice none 0 0) KR.out
            have f2 := heap_setCell_same _ w.heap.size 1 _ _ (.slice none 0 0) f1
            obtain ⟨j0, q1, q2, q3, q4⟩ := info_parts infoSt
            refine bodyPost_ret (results_cell_row2 (P := Try.prog) rfl _ _ w.heap.size _ _ (0, 0) _ _ rfl rfl f2 Try.underlying44 rfl (by rw [q1]; simp [q3])) rfl ⟨.agg #[.slice none 0 0, .slice none 0 0], by rw [HRES.out]; rfl, ?_, ?_⟩
            · rw [HRES.out]
              exact .inl ⟨rfl, rfl⟩
            · exact (BB.out.setCell (p := ⟨w.heap.size, 0, none⟩) (Nat.le_refl _) _).setCell (p := ⟨w.heap.size, 1, none⟩) (Nat.le_refl _) _
      · obtain rfl : k = xs.length := by omega
        have hB2 : B.size ≤ 120000 := by omega
        have HG : Hid (importS xs = if (decS B).2 = 0 then (⟨[], []⟩, 5) else ((decS B).1, 0)) := Lib.hid (imp_good h0 (HI.out.trans (by rw [List.drop_length]; rfl)))
        clear HI
        have hc := spec_decode B wr (by omega)
        obtain ⟨ds, hds⟩ : ∃ z, z = (decS B).1 := ⟨_, rfl⟩
        obtain ⟨dv, hdv⟩ : ∃ z, z = (decS B).2 := ⟨_, rfl⟩
        rw [← hds, ← hdv] at HG hc
        clear hds hdv
        go_wp2_with (go_at_call 92; refine hc.mono ?_; rintro e w1 ⟨dvv, rfl, hdec, hb, hlt1⟩; refine Hid.out ?_)
        refine Lib.hid ?_
        obtain ⟨vi, vt, rfl, r1, r2⟩ := hdec.st
        obtain ⟨sa, sc, rfl⟩ := slice_rowE r1
        obtain ⟨ta, tc, rfl⟩ := slice_rowE r2
        clear r1 r2 hc
        obtain ⟨X, hX⟩ : ∃ X, X = w1.alloc (.cells #[.slice sa ds.items.length sc, .slice ta ds.talks.length tc] 44) := ⟨_, rfl⟩
        have bX : Below w1.heap.size w1 X := by rw [hX]; exact (Below.refl _ _).alloc (Nat.le_refl _) _
        have KX : Hid (X.heap[w1.heap.size]? = some (.cells #[.slice sa ds.items.length sc, .slice ta ds.talks.length tc] 44 (0, 0))) := Lib.hid (by rw [hX]; exact heap_new _ _)
        have HB : Hid (w.heap.size + 1 ≤ wr.heap.size) := Lib.hid LR.out
        replace KR := tkb hb LR KR
        replace LR := tlz LR hb.size
        replace BB := tbt BB hb
        replace KR := tkb bX LR KR
        replace LR := tlz LR bX.size
        replace BB := tbt BB bX
        have HD := Lib.hid (hdec.later bX)
        clear hb bX hdec
        have fR0 := tcr KR 0
        have fR1 := tcr KR 1
        have zR0 := tfr KR 0
        have zR1 := tfr KR 1
        rw [hX] at fR0 fR1 zR0 zR1
        by_cases hz : dv = 0
        · have HRES : Hid (importS xs = (⟨[], []⟩, 5)) := Lib.hid (by rw [HG.out, if_pos hz])
          subst hz
          go_wp2_with fail
          rw [← hX]
          have f1 := heap_setCell_same _ w.heap.size 0 _ _ (.slice none 0 0) KR.out
          have f2 := heap_setCell_same _ w.heap.size 1 _ _ (.slice none 0 0) f1
          obtain ⟨j0, q1, q2, q3, q4⟩ := info_parts infoSt
          refine bodyPost_ret (results_cell_row2 (P := Try.prog) rfl _ _ w.heap.size _ _ (0, 0) _ _ rfl rfl f2 Try.underlying44 rfl (by rw [q1]; simp [q3])) rfl ⟨.agg #[.slice none 0 0, .slice none 0 0], by rw [HRES.out]; rfl, ?_, ?_⟩
          · rw [HRES.out]
            exact .inl ⟨rfl, rfl⟩
          · exact (BB.out.setCell (p := ⟨w.heap.size, 0, none⟩) (Nat.le_refl _) _).setCell (p := ⟨w.heap.size, 1, none⟩) (Nat.le_refl _) _
        · have HRES : Hid (importS xs = (ds, 0)) := Lib.hid (by rw [HG.out, if_neg hz])
          have fX0 := tcr KX 0
          have fX1 := tcr KX 1
          rw [hX] at fX0 fX1
          go_wp2_with fail
          rw [← hX]
          have f1 := heap_setCell_same _ w.heap.size 0 _ _ (.slice sa ds.items.length sc) KR.out
          have f2 := heap_setCell_same _ w.heap.size 1 _ _ (.slice ta ds.talks.length tc) f1
          obtain ⟨j0, q1, q2, q3, q4⟩ := info_parts infoSt
          refine bodyPost_ret (results_cell_row2 (P := Try.prog) rfl _ _ w.heap.size _ _ (0, 0) _ _ rfl rfl f2 Try.underlying44 rfl (by rw [q1]; simp [q3])) rfl ⟨.agg #[.slice sa ds.items.length sc, .slice ta ds.talks.length tc], by rw [HRES.out]; rfl, ?_, ?_⟩
          · rw [HRES.out]
            rcases HD.out with ⟨e1, e2⟩ | ho
            · exact .inl ⟨e1, e2⟩
            · exact .inr (own_set (ho.base HB.out) (Nat.le_refl _) _ _)
          · exact (BB.out.setCell (p := ⟨w.heap.size, 0, none⟩) (Nat.le_refl _) _).setCell (p := ⟨w.heap.size, 1, none⟩) (Nat.le_refl _) _
end Go.Proofs.Ytlklhmdpkicpnaa

namespace Go.Proofs.Ytlklhmdpkicpnaa
open Go.RowKit
set_option linter.unusedVariables false
set_option linter.unusedSimpArgs false

theorem pt_len {b : ByteArray} (h : b.size ≤ 65535) : (pt b).length = b.size + 2 := by
  unfold pt
  rw [List.length_append, be8_len]
  simp; omega
theorem flat_len {α : Type} {f : α → List UInt8} {n : Nat} : ∀ {xs : List α}, (∀ x ∈ xs, (f x).length ≤ n) → (xs.flatMap f).length ≤ xs.length * n
  | [], _ => by simp
  | x :: xs, h => by
    have h1 := h x (by simp)
    have h2 := flat_len (xs := xs) (fun y hy => h y (by simp [hy]))
    rw [List.flatMap_cons, List.length_append, List.length_cons, Nat.add_mul, Nat.one_mul]; omega
theorem it_len {x : It} (h : itOk x = true) : (encIt x).length ≤ 76 := by
  unfold itOk at h
  rw [Bool.and_eq_true] at h
  have h2 := name_size h.1
  have h3 := of_decide_eq_true h.2
  unfold encIt
  rw [List.length_append, pt_len (by omega), pt_len (by omega)]; omega
theorem tk_len {x : Tk} (h : tkOk x = true) : (encTk x).length ≤ 80 := by
  unfold tkOk at h
  rw [Bool.and_eq_true, Bool.and_eq_true] at h
  have h2 := name_size h.1.1
  have h3 := of_decide_eq_true h.2
  unfold encTk
  rw [List.length_append, List.length_append, pt_len (by omega), pt_len (by omega), be8_len]; omega
theorem body_small {s : St} (h : stOk s = true) (n : Nat) : (bodyL n s).length ≤ 4646 := by
  obtain ⟨⟨a, _, c⟩, d, _, e⟩ := (stOk_iff s).1 h
  have h1 := flat_len (n := 76) (f := encIt) (xs := s.items) (fun x hx => it_len (a x hx))
  have h2 := flat_len (n := 80) (f := encTk) (xs := s.talks) (fun x hx => tk_len (d x hx))
  unfold bodyL
  rw [List.length_append, List.length_append, List.length_append, List.length_append, be8_len, be8_len]
  split
  · simp only [List.length_cons, List.length_nil]; omega
  · rw [List.length_append, be8_len]; simp only [List.length_cons, List.length_nil]; omega
theorem fmt_small (s : St) (v : Int) : (fmtS s v).size ≤ 4800 := by
  unfold fmtS
  split
  · rename_i h
    have hs : ∀ n, (bodyB n s).size ≤ 4646 := fun n => body_small h.1 n
    split
    · unfold sealB
      rw [ByteArray.size_append, leB_size]
      have := hs 3; omega
    · have := hs v.toNat; omega
  · exact Nat.zero_le _
theorem fmt_ten {s : St} (h : stOk s = true) : 10 ≤ (fmtS s 3).size := by
  rw [fmtS_seal h, seal_size]
  have h3 := three_sizes s
  rw [h3.2.1]
  have h4 : 2 ≤ (midL s).length := by unfold midL; rw [List.length_append, be8_len]; omega
  omega
/-- There is a text where the state and the version are right. -/
theorem fmt_some {s : St} {v : Int} (h : stOk s = true) (hv : inB v 1 3 = true) : 0 < (fmtS s v).size := by
  have hb := inB_true hv
  rcases (show v = 1 ∨ v = 2 ∨ v = 3 by omega) with rfl | rfl | rfl
  · rw [fmtS_low h (by rfl) (by decide)]
    show 0 < (bodyB 1 s).size
    rw [(three_sizes s).1]; omega
  · rw [fmtS_low h (by rfl) (by decide)]
    show 0 < (bodyB 2 s).size
    rw [(three_sizes s).2.1]; omega
  · have := fmt_ten h; omega
theorem fmt_none {s : St} {v : Int} (h : ¬ (stOk s = true ∧ inB v 1 3 = true)) : fmtS s v = ⟨#[]⟩ := by unfold fmtS; rw [if_neg h]
end Go.Proofs.Ytlklhmdpkicpnaa

namespace Go.Proofs.Ytlklhmdpkicpnaa
open Go.RowKit
set_option linter.unusedVariables false
set_option linter.unusedSimpArgs false
theorem exp_len (s : ByteArray) (n : Int) : (cutS s n).length ≤ 600 := by
  unfold cutS
  split
  · exact Nat.zero_le _
  · split
    · exact Nat.zero_le _
    · split
      · exact Nat.zero_le _
      · rw [cutUp_len]; omega
theorem exp_mem {s : ByteArray} {n : Int} : ∀ x ∈ cutS s n, x.size ≤ 215 := by
  intro x hx
  unfold cutS at hx
  split at hx
  · cases hx
  · split at hx
    · cases hx
    · split at hx
      · cases hx
      · unfold cutUp at hx
        obtain ⟨i, _, rfl⟩ := List.mem_map.1 hx
        exact pc_le _
theorem exp_none {s : St} {n size : Int} (h : ¬ (stOk s = true ∧ inB n 1 3 = true)) : cutS (fmtS s n) size = [] := by rw [fmt_none h]; exact cut_none _
theorem exp_is {s : St} {n : Int} {m : Nat} (hs : stOk s = true) (hv : inB n 1 3 = true) (h1 : 8 ≤ m) (h2 : m ≤ 200) : cutS (fmtS s n) (m : Int) = cutUp (fmtS s n) m (manyN (fmtS s n) m) ∧ manyN (fmtS s n) m ≤ 600 ∧ 0 < manyN (fmtS s n) m := by
  have hz := fmt_some hs hv
  have hm := many_small (fmt_small s n) h1
  have hp := many_pos hz (show 0 < m by omega)
  refine ⟨?_, hm, hp⟩
  exact cut_ok (fun e => by rw [e] at hz; exact absurd hz (Nat.lt_irrefl 0)) (by unfold inB; simp; omega) (by omega)
theorem exp_read {s : St} {n : Int} {m : Nat} (hs : stOk s = true) (hv : inB n 1 3 = true) (h1 : 8 ≤ m) (h2 : m ≤ 200) : importS (cutS (fmtS s n) (m : Int)) = (keptS s n, 0) := by
  obtain ⟨e, hm, hp⟩ := exp_is hs hv h1 h2
  have hb := inB_true hv
  rw [e, import_back (by omega) h2 hm hp, dec_back hs hv, if_neg (show ¬ n = 0 by omega)]
theorem exp_back {s : St} {n size : Int} (h : ¬ cutS (fmtS s n) size = []) : importS (cutS (fmtS s n) size) = (keptS s n, 0) ∧ stOk s = true ∧ inB n 1 3 = true := by
  by_cases hok : stOk s = true ∧ inB n 1 3 = true
  · by_cases hz : inB size 8 200 = true
    · have hb := inB_true hz
      obtain ⟨m, rfl⟩ := Int.eq_ofNat_of_zero_le (show 0 ≤ size by omega)
      exact ⟨exp_read hok.1 hok.2 (by omega) (by omega), hok⟩
    · exact absurd (cut_size (by simpa using hz)) h
  · exact absurd (exp_none hok) h
theorem slice_rowX {w : World} {B sz n : Nat} {v : Value} {cs : List Value} (h : Row w B sz v n cs) : ∃ a c, v = .slice a n c := by
  rcases h with ⟨_, ⟨rfl, rfl⟩ | ⟨g, o, cap, rfl, _⟩⟩ <;> exact ⟨_, _, rfl⟩
theorem dv_kept {w w' : World} {base b : Nat} {v : Value} {s : St} (h : DecV w base v s) (hg : w.grownBy w' (some b)) (hb : b < base) : DecV w' base v s := h.imp id (fun h => h.kept hg hb)
theorem rd_cutX {w : World} {B : Nat} {vi vt : Value} {s : St} (h : Rd w B (.agg #[vi, vt]) s) : Rd w B (.agg #[vi, .slice none 0 0]) ⟨s.items, []⟩ := by
  obtain ⟨ai, at_, h0, h1, _⟩ := h
  obtain ⟨rfl, rfl⟩ : vi = ai ∧ vt = at_ := by simpa using h0
  exact ⟨_, _, rfl, h1, ⟨none, 0, rfl, Nat.le_refl _, Nat.zero_le _, fun _ => rfl, fun h => absurd h (Nat.lt_irrefl _)⟩⟩
end Go.Proofs.Ytlklhmdpkicpnaa
