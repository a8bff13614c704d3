/- What spec.Cut answers. Condition: a text of at most 2^40 bytes. -/
import Derived.Test.YtlklhmdpkicpnaaSpecGet
import Derived.Test.YtlklhmdpkicpnaaFmtA
import Derived.Test.YtlklhmdpkicpnaaTexts
namespace Go.Proofs.Ytlklhmdpkicpnaa
open Go.RowKit
set_option linter.unusedVariables false
set_option linter.unusedSimpArgs false

theorem infoS7 : (Try.prog.info? 9).map (fun i => (i.zero, i.size, i.bytes)) = some (some (.string ⟨#[]⟩), 1, 16) := by kernel_rfl
theorem ok_fit {p : Pc} (h : pcOk p = true) : FitPc p := by
  obtain ⟨h1, h2, h3, h4⟩ := pc_in h
  exact ⟨by omega, by omega, by unfold maxLen; omega, by omega⟩
theorem cut_none (size : Int) : cutS ⟨#[]⟩ size = [] := by unfold cutS; rw [if_pos rfl]
theorem cut_size {s : ByteArray} {size : Int} (h : inB size 8 200 = false) : cutS s size = [] := by
  unfold cutS
  split
  · rfl
  · first | rfl | rw [if_pos h] | simp [h]
theorem cut_many {s : ByteArray} {n : Nat} (h : 600 < manyN s n) : cutS s (n : Int) = [] := by
  unfold cutS
  rw [Int.toNat_natCast, if_pos h]
  split
  · rfl
  · split <;> rfl
theorem cut_ok {s : ByteArray} {n : Nat} (h0 : ¬ s = ⟨#[]⟩) (h1 : inB (n : Int) 8 200 = true) (h : ¬ 600 < manyN s n) : cutS s (n : Int) = cutUp s n (manyN s n) := by
  unfold cutS
  rw [if_neg h0, h1, if_neg (by decide), Int.toNat_natCast, if_neg h]

set_option maxRecDepth 100000 in
set_option maxHeartbeats 8000000 in
theorem spec_cut (s : ByteArray) (size : Int) (w : World) (hs : s.size ≤ 1099511627776) :
    Calls Try.prog 29 #[.string s, .int .i64 size] w fun e w' => ∃ v, e = .returned v ∧ Texts w' w.heap.size v (cutS s size) ∧ Below w.heap.size w w' := by
  by_cases h0 : s = ⟨#[]⟩
  · subst h0
    have HR := Lib.hid (cut_none size)
    go_enter Try.func29, Try.ntmps29
    go_wp2
    go_ret
    exact ⟨_, rfl, by rw [HR.out]; exact Texts.empty _ _ (Nat.le_refl _), (Below.refl _ _).alloc (Nat.le_refl _) _⟩
  · have hl : ¬ s.toList = [] := fun h => h0 (by
      apply ByteArray.ext; apply Array.toList_inj.mp
      rw [← ByteArray.toList_eq]; exact h)
    have hq : s.toList.isEmpty = false := by simpa using hl
    have hq2 : (s.toList == []) = false := by simpa using hl
    have hpos : 0 < s.size := by
      rcases Nat.eq_zero_or_pos s.size with h | h
      · exact absurd (ByteArray.size_eq_zero_iff.1 h) h0
      · exact h
    have hc := fun w => in_any size 8 200 w
    cases hin : inB size 8 200
    · rw [hin] at hc
      have HR := Lib.hid (cut_size (s := s) hin)
      clear hin h0
      go_enter Try.func29, Try.ntmps29
      go_wp2_with (go_at_call 75; refine (hc _).mono ?_; rintro e w1 ⟨rfl, rfl⟩)
      go_ret
      exact ⟨_, rfl, by rw [HR.out]; exact Texts.empty _ _ (Nat.le_refl _), (Below.refl _ _).alloc (Nat.le_refl _) _⟩
    · rw [hin] at hc
      have hb := inB_true hin
      obtain ⟨n, rfl⟩ := Int.eq_ofNat_of_zero_le (show 0 ≤ size by omega)
      obtain ⟨M, hM⟩ : ∃ m, m = manyN s n := ⟨_, rfl⟩
      have hquo : Int.tdiv ((s.size : Int) + (n : Int) - 1) (n : Int) = (M : Int) := by
        rw [hM]; unfold manyN
        rw [show ((s.size : Int) + (n : Int) - 1) = ((s.size + n - 1 : Nat) : Int) by omega, Int.tdiv_eq_ediv_of_nonneg (by omega)]
        exact (Int.natCast_ediv _ _).symm
      have hMle : M ≤ s.size + n := by rw [hM]; unfold manyN; exact Nat.le_trans (Nat.div_le_self _ _) (by omega)
      have hwM : wrap64 (M : Int) = (M : Int) := IntWalk.wrap64_in _ ⟨by omega, by omega⟩
      have hn0 : ¬ (n : Int) = 0 := by omega
      have hn1 : ((n : Int) == 0) = false := by simp; omega
      by_cases hmany : 600 < M
      · have HR := Lib.hid (cut_many (s := s) (n := n) (by rw [← hM]; exact hmany))
        clear hin h0 hM
        go_enter Try.func29, Try.ntmps29
        go_wp2_with (go_at_call 75; refine (hc _).mono ?_; rintro e w1 ⟨rfl, rfl⟩)
        go_ret
        exact ⟨_, rfl, by rw [HR.out]; exact Texts.empty _ _ (Nat.le_refl _), (Below.refl _ _).alloc (Nat.le_refl _) _⟩
      · have HR := Lib.hid (cut_ok h0 hin (by rw [← hM]; exact hmany))
        have HM := Lib.hid hM
        rw [← hM] at HR
        have hm6 : M ≤ 600 := by omega
        clear hin h0 hM hmany hMle
        have kh := fun w => spec_hash ⟨#[]⟩ w (by unfold maxLen; exact Nat.zero_le _)
        obtain ⟨h00, hh00⟩ : ∃ z, z = hashN [] := ⟨_, rfl⟩
        have HH := Lib.hid hh00
        change ∀ w, Calls Try.prog 81 #[.string ⟨#[]⟩] w fun e w' => e = .returned (.int .i64 ((hashN [] : Nat) : Int)) ∧ w = w' at kh
        rw [← hh00] at kh
        clear hh00
        obtain ⟨i0, hi, hz0, hz1, hz2⟩ := info_parts infoS7
        go_enter Try.func29, Try.ntmps29
        go_wp2_with (first | (go_at_call 75; refine (hc _).mono ?_; rintro e w1 ⟨rfl, rfl⟩) | (go_at_call 81; refine (kh _).mono ?_; rintro e w1 ⟨rfl, rfl⟩))
        go_loopw [5, 7, 8] (fun out ch i wr => ∃ k : Nat, k ≤ M ∧ i = .int .i64 k ∧ (∃ c : Nat, ch = .int .i64 c ∧ c < 4294967296 ∧ Hid (c = chainN s n k)) ∧ Texts wr w.heap.size out (cutUp s n k) ∧ Below w.heap.size w wr) (fun _ _ i _ => M - (intOf i).toNat)
        case atStart => exact ⟨0, Nat.zero_le _, rfl, ⟨h00, rfl, by rw [HH.out]; exact hashN_lt _, Lib.hid (by rw [HH.out]; rfl)⟩, by rw [cutUp_zero]; exact Texts.empty _ _ (Nat.le_refl _), (Below.refl _ _).alloc (Nat.le_refl _) _⟩
        case round =>
          obtain ⟨k, hk, rfl, ⟨c, rfl, hcl, HC⟩, hrow, hB⟩ := hrel
          have hsz := hB.size
          by_cases hlt : k < M
          · have hnp : 0 < n := by omega
            have hin' := many_in hnp (by rw [← HM.out]; exact hlt)
            have hend := end_in hnp (by rw [← HM.out]; exact hlt)
            have hpo := piece_ok hnp (by omega) (by rw [← HM.out]; exact hm6) (by rw [← HM.out]; exact hlt)
            have hps := part_size hnp (by rw [← HM.out]; exact hlt)
            have hlen := cutUp_len s n k
            have kl := fun w => spec_link (c : Int) (partB s n k) w (by omega) (by omega)
            have kp := fun w => spec_putPiece (pieceN s n k) w (ok_fit hpo)
            have hlk : Hid (linkN (c : Int) (partB s n k) = chainN s n (k + 1)) := Lib.hid (by rw [HC.out]; rfl)
            have hcl2 := chain_lt s n (k + 1)
            obtain ⟨c2, hc2⟩ : ∃ z, z = chainN s n (k + 1) := ⟨_, rfl⟩
            rw [hlk.out, ← hc2] at kl
            have hsn := Lib.hid (cutUp_succ s n k)
            obtain ⟨PB, hPB⟩ : ∃ z, z = pcB (pieceN s n k) := ⟨_, rfl⟩
            rw [← hPB] at kp hsn
            have hpiece : pieceN s n k = ⟨(k : Int) + 1, (M : Int), partB s n k, (c2 : Int)⟩ := by unfold pieceN; rw [← hc2, ← HM.out]
            rw [hpiece] at kp
            unfold pcV at kp
            dsimp only at kp
            rw [← hc2] at hcl2
            have HC2 := Lib.hid hc2
            clear hpo hPB hpiece hc2 hlk
            obtain ⟨A, hA⟩ : ∃ a, a = k * n := ⟨_, rfl⟩
            obtain ⟨E, hE⟩ : ∃ a, a = endN s n k := ⟨_, rfl⟩
            have hE' : E = if A + n ≤ s.size then A + n else s.size := by rw [hE, hA]; unfold endN; rw [Nat.add_mul, Nat.one_mul]
            have hP : partB s n k = s.extract A E := by unfold partB; rw [← hA, ← hE]
            rw [hP] at kl kp hps
            rw [← hA, ← hE] at hend
            rw [← hA] at hin'
            obtain ⟨U, hU⟩ : ∃ a, a = A + n := ⟨_, rfl⟩
            rw [← hU] at hE'
            have hw1 : wrap64 (((k : Int) + 1) * (n : Int)) = (U : Int) := by
              have e : ((k : Int) + 1) * (n : Int) = (U : Int) := by rw [hU, hA, Int.natCast_add, Int.natCast_mul, Int.add_mul, Int.one_mul]
              rw [e]; exact IntWalk.wrap64_in _ ⟨by omega, by omega⟩
            have hw2 : wrap64 ((k : Int) * (n : Int)) = (A : Int) := by
              have e : (k : Int) * (n : Int) = (A : Int) := by rw [hA, Int.natCast_mul]
              rw [e]; exact IntWalk.wrap64_in _ ⟨by omega, by omega⟩
            obtain ⟨hend1, hend2, -⟩ := hend
            clear hA hE hP hq hq2 hl hquo hwM hn0 hn1 HC hc kh hU hin' hps
            have HW1 : ∀ z : Int, z = ((k : Int) + 1) * (n : Int) → wrap64 z = (U : Int) := fun z h => by rw [h]; exact hw1
            have HW2 : ∀ z : Int, z = (k : Int) * (n : Int) → wrap64 z = (A : Int) := fun z h => by rw [h]; exact hw2
            clear hw1 hw2
            by_cases hle : U ≤ s.size
            · rw [if_pos hle] at hE'
              subst hE'
              go_wp2_with fail
              all_goals first
                | (exfalso; have e1 := HW1 _ rfl; have e2 := HW2 _ rfl; clear HW1 HW2; simp only [e1, e2] at *; omega)
                | skip
              have e1 := HW1 _ rfl
              have e2 := HW2 _ rfl
              clear HW1
              simp only [e1, e2, Int.toNat_natCast] at *
              refine (kl _).mono ?_
              rintro e w1 ⟨rfl, hb⟩
              replace hrow := hrow.later hb
              replace hB := hB.trans (hb.mono hB.size)
              replace hsz := hB.size
              clear hb kl
              go_wp2_with (go_at_call 23; refine Hid.out ?_)
              all_goals first
                | (exfalso; have e2 := HW2 _ rfl; clear HW2; simp only [e2] at *; omega)
                | skip
              refine Lib.hid ?_
              simp only [HW2 _ rfl, Int.toNat_natCast]
              refine (kp _).mono ?_
              rintro e w2 ⟨rfl, hb⟩
              replace hrow := hrow.later hb
              replace hB := hB.trans (hb.mono hB.size)
              replace hsz := hB.size
              clear hb HW2 kp
              go_wp2_with (at_builtin; refine wpList_append_own _ rfl _ _ 34 rfl w.heap.size 9 i0 (.string ⟨#[]⟩) 1 16 Try.underlying34 hi hz0 hz1 hz2 rfl (by decide) _ _ _ rfl (World.ownsRow.alloc hrow _) ⟨_, 0, none⟩ 1 1 [.string PB] rfl rfl (cell_one_new _ _ _) (by simp [Value.oneCell']) (by unfold maxLen; omega) (by omega) (by simp; omega) ?_; intro v' w3 hown' hgrow _)
              go_roundw
              case rel => exact ⟨k + 1, by omega, by go_num, ⟨c2, rfl, hcl2, HC2⟩, by rw [hsn.out]; exact Texts.snoc hown', hrow.grown hB hsz hgrow⟩
              case measure => simp [intOf]; omega
            · rw [if_neg hle] at hE'
              subst hE'
              go_wp2_with fail
              all_goals first
                | (exfalso; have e1 := HW1 _ rfl; have e2 := HW2 _ rfl; clear HW1 HW2; simp only [e1, e2] at *; omega)
                | skip
              have e1 := HW1 _ rfl
              have e2 := HW2 _ rfl
              clear HW1
              simp only [e1, e2, Int.toNat_natCast] at *
              refine (kl _).mono ?_
              rintro e w1 ⟨rfl, hb⟩
              replace hrow := hrow.later hb
              replace hB := hB.trans (hb.mono hB.size)
              replace hsz := hB.size
              clear hb kl
              go_wp2_with (go_at_call 23; refine Hid.out ?_)
              all_goals first
                | (exfalso; have e2 := HW2 _ rfl; clear HW2; simp only [e2] at *; omega)
                | skip
              refine Lib.hid ?_
              simp only [HW2 _ rfl, Int.toNat_natCast]
              refine (kp _).mono ?_
              rintro e w2 ⟨rfl, hb⟩
              replace hrow := hrow.later hb
              replace hB := hB.trans (hb.mono hB.size)
              replace hsz := hB.size
              clear hb HW2 kp
              go_wp2_with (at_builtin; refine wpList_append_own _ rfl _ _ 34 rfl w.heap.size 9 i0 (.string ⟨#[]⟩) 1 16 Try.underlying34 hi hz0 hz1 hz2 rfl (by decide) _ _ _ rfl (World.ownsRow.alloc hrow _) ⟨_, 0, none⟩ 1 1 [.string PB] rfl rfl (cell_one_new _ _ _) (by simp [Value.oneCell']) (by unfold maxLen; omega) (by omega) (by simp; omega) ?_; intro v' w3 hown' hgrow _)
              go_roundw
              case rel => exact ⟨k + 1, by omega, by go_num, ⟨c2, rfl, hcl2, HC2⟩, by rw [hsn.out]; exact Texts.snoc hown', hrow.grown hB hsz hgrow⟩
              case measure => simp [intOf]; omega
          · obtain rfl : k = M := by omega
            go_wp2_with fail
            go_ret
            exact ⟨_, rfl, by rw [HR.out]; exact hrow, hB⟩
end Go.Proofs.Ytlklhmdpkicpnaa
