/- What the proofs of this seat have in common: plain facts, rows in memory, the laws' own helpers, the small functions' contracts. Condition: none. -/
import Derived.Test.YtdpjdjkfedcojaaGreatSpecGet
import Derived.Test.YtdpjdjkfedcojaaGreatFmtA
import Derived.Test.YtdpjdjkfedcojaaGreatTexts
import Derived.Test.YtdpjdjkfedcojaaGreatBaseA
import Derived.Test.YtdpjdjkfedcojaaGreatSpecEnc
import Derived.Test.YtdpjdjkfedcojaaGreatDrawFmt
import Derived.Test.YtdpjdjkfedcojaaGreatSpecDec
namespace Go.Proofs.YtdpjdjkfedcojaaGreat
open Go.RowKit
set_option linter.unusedVariables false
set_option linter.unusedSimpArgs false

theorem infoS7 : (Tryz.prog.info? 9).map (fun i => (i.zero, i.size, i.bytes)) = some (some (.string ⟨#[]⟩), 1, 16) := by kernel_rfl
theorem ok_fit {p : Pc} (h : pcOk p = true) : FitPc p := by
  obtain ⟨h1, h2, h3, h4⟩ := pc_in h
  exact ⟨by omega, by omega, by unfold maxLen; omega, by omega⟩
theorem cut_none (size : Int) : cutS ⟨#[]⟩ size = [] := by unfold cutS; rw [if_pos rfl]
theorem cut_size {s : ByteArray} {size : Int} (h : inB size 8 200 = false) : cutS s size = [] := by
  unfold cutS
  split
  · rfl
  · first | rfl | rw [if_pos h] | simp [h]
theorem cut_many {s : ByteArray} {n : Nat} (h : 600 < manyN s n) : cutS s (n : Int) = [] := by
  unfold cutS
  rw [Int.toNat_natCast, if_pos h]
  split
  · rfl
  · split <;> rfl
theorem cut_ok {s : ByteArray} {n : Nat} (h0 : ¬ s = ⟨#[]⟩) (h1 : inB (n : Int) 8 200 = true) (h : ¬ 600 < manyN s n) : cutS s (n : Int) = cutUp s n (manyN s n) := by
  unfold cutS
  rw [if_neg h0, h1, if_neg (by decide), Int.toNat_natCast, if_neg h]

set_option maxRecDepth 100000 in
set_option maxHeartbeats 8000000 in
theorem spec_cut (s : ByteArray) (size : Int) (w : World) (hs : s.size ≤ 1099511627776) :
    Calls Tryz.prog 32 #[.string s, .int .i64 size] w fun e w' => ∃ v, e = .returned v ∧ Texts w' w.heap.size v (cutS s size) ∧ Below w.heap.size w w' := by
  by_cases h0 : s = ⟨#[]⟩
  · subst h0
    have HR := Lib.hid (cut_none size)
    go_enter Tryz.func32, Tryz.ntmps32
    go_wp2
    go_ret
    exact ⟨_, rfl, by rw [HR.out]; exact Texts.empty _ _ (Nat.le_refl _), (Below.refl _ _).alloc (Nat.le_refl _) _⟩
  · have hl : ¬ s.toList = [] := fun h => h0 (by
      apply ByteArray.ext; apply Array.toList_inj.mp
      rw [← ByteArray.toList_eq]; exact h)
    have hq : s.toList.isEmpty = false := by simpa using hl
    have hq2 : (s.toList == []) = false := by simpa using hl
    have hpos : 0 < s.size := by
      rcases Nat.eq_zero_or_pos s.size with h | h
      · exact absurd (ByteArray.size_eq_zero_iff.1 h) h0
      · exact h
    have hc := fun w => in_any size 8 200 w
    cases hin : inB size 8 200
    · rw [hin] at hc
      have HR := Lib.hid (cut_size (s := s) hin)
      clear hin h0
      go_enter Tryz.func32, Tryz.ntmps32
      go_wp2_with (go_at_call 66; refine (hc _).mono ?_; rintro e w1 ⟨rfl, rfl⟩)
      go_ret
      exact ⟨_, rfl, by rw [HR.out]; exact Texts.empty _ _ (Nat.le_refl _), (Below.refl _ _).alloc (Nat.le_refl _) _⟩
    · rw [hin] at hc
      have hb := inB_true hin
      obtain ⟨n, rfl⟩ := Int.eq_ofNat_of_zero_le (show 0 ≤ size by omega)
      obtain ⟨M, hM⟩ : ∃ m, m = manyN s n := ⟨_, rfl⟩
      have hquo : Int.tdiv ((s.size : Int) + (n : Int) - 1) (n : Int) = (M : Int) := by
        rw [hM]; unfold manyN
        rw [show ((s.size : Int) + (n : Int) - 1) = ((s.size + n - 1 : Nat) : Int) by omega, Int.tdiv_eq_ediv_of_nonneg (by omega)]
        exact (Int.natCast_ediv _ _).symm
      have hMle : M ≤ s.size + n := by rw [hM]; unfold manyN; exact Nat.le_trans (Nat.div_le_self _ _) (by omega)
      have hwM : wrap64 (M : Int) = (M : Int) := IntWalk.wrap64_in _ ⟨by omega, by omega⟩
      have hn0 : ¬ (n : Int) = 0 := by omega
      have hn1 : ((n : Int) == 0) = false := by simp; omega
      by_cases hmany : 600 < M
      · have HR := Lib.hid (cut_many (s := s) (n := n) (by rw [← hM]; exact hmany))
        clear hin h0 hM
        go_enter Tryz.func32, Tryz.ntmps32
        go_wp2_with (go_at_call 66; refine (hc _).mono ?_; rintro e w1 ⟨rfl, rfl⟩)
        go_ret
        exact ⟨_, rfl, by rw [HR.out]; exact Texts.empty _ _ (Nat.le_refl _), (Below.refl _ _).alloc (Nat.le_refl _) _⟩
      · have HR := Lib.hid (cut_ok h0 hin (by rw [← hM]; exact hmany))
        have HM := Lib.hid hM
        rw [← hM] at HR
        have hm6 : M ≤ 600 := by omega
        clear hin h0 hM hmany hMle
        have kh := fun w => spec_hash ⟨#[]⟩ w (by unfold maxLen; exact Nat.zero_le _)
        obtain ⟨h00, hh00⟩ : ∃ z, z = hashN [] := ⟨_, rfl⟩
        have HH := Lib.hid hh00
        change ∀ w, Calls Tryz.prog 30 #[.string ⟨#[]⟩] w fun e w' => e = .returned (.int .i64 ((hashN [] : Nat) : Int)) ∧ w = w' at kh
        rw [← hh00] at kh
        clear hh00
        obtain ⟨i0, hi, hz0, hz1, hz2⟩ := info_parts infoS7
        go_enter Tryz.func32, Tryz.ntmps32
        go_wp2_with (first | (go_at_call 66; refine (hc _).mono ?_; rintro e w1 ⟨rfl, rfl⟩) | (go_at_call 30; refine (kh _).mono ?_; rintro e w1 ⟨rfl, rfl⟩))
        go_loopw [5, 7, 8] (fun out ch i wr => ∃ k : Nat, k ≤ M ∧ i = .int .i64 k ∧ (∃ c : Nat, ch = .int .i64 c ∧ c < 4294967296 ∧ Hid (c = chainN s n k)) ∧ Texts wr w.heap.size out (cutUp s n k) ∧ Below w.heap.size w wr) (fun _ _ i _ => M - (intOf i).toNat)
        case atStart => exact ⟨0, Nat.zero_le _, rfl, ⟨h00, rfl, by rw [HH.out]; exact hashN_lt _, Lib.hid (by rw [HH.out]; rfl)⟩, by rw [cutUp_zero]; exact Texts.empty _ _ (Nat.le_refl _), (Below.refl _ _).alloc (Nat.le_refl _) _⟩
        case round =>
          obtain ⟨k, hk, rfl, ⟨c, rfl, hcl, HC⟩, hrow, hB⟩ := hrel
          have hsz := hB.size
          by_cases hlt : k < M
          · have hnp : 0 < n := by omega
            have hin' := many_in hnp (by rw [← HM.out]; exact hlt)
            have hend := end_in hnp (by rw [← HM.out]; exact hlt)
            have hpo := piece_ok hnp (by omega) (by rw [← HM.out]; exact hm6) (by rw [← HM.out]; exact hlt)
            have hps := part_size hnp (by rw [← HM.out]; exact hlt)
            have hlen := cutUp_len s n k
            have kl := fun w => spec_link (c : Int) (partB s n k) w (by omega) (by omega)
            have kp := fun w => spec_putPiece (pieceN s n k) w (ok_fit hpo)
            have hlk : Hid (linkN (c : Int) (partB s n k) = chainN s n (k + 1)) := Lib.hid (by rw [HC.out]; rfl)
            have hcl2 := chain_lt s n (k + 1)
            obtain ⟨c2, hc2⟩ : ∃ z, z = chainN s n (k + 1) := ⟨_, rfl⟩
            rw [hlk.out, ← hc2] at kl
            have hsn := Lib.hid (cutUp_succ s n k)
            obtain ⟨PB, hPB⟩ : ∃ z, z = pcB (pieceN s n k) := ⟨_, rfl⟩
            rw [← hPB] at kp hsn
            have hpiece : pieceN s n k = ⟨(k : Int) + 1, (M : Int), partB s n k, (c2 : Int)⟩ := by unfold pieceN; rw [← hc2, ← HM.out]
            rw [hpiece] at kp
            unfold pcV at kp
            dsimp only at kp
            rw [← hc2] at hcl2
            have HC2 := Lib.hid hc2
            clear hpo hPB hpiece hc2 hlk
            obtain ⟨A, hA⟩ : ∃ a, a = k * n := ⟨_, rfl⟩
            obtain ⟨E, hE⟩ : ∃ a, a = endN s n k := ⟨_, rfl⟩
            have hE' : E = if A + n ≤ s.size then A + n else s.size := by rw [hE, hA]; unfold endN; rw [Nat.add_mul, Nat.one_mul]
            have hP : partB s n k = s.extract A E := by unfold partB; rw [← hA, ← hE]
            rw [hP] at kl kp hps
            rw [← hA, ← hE] at hend
            rw [← hA] at hin'
            obtain ⟨U, hU⟩ : ∃ a, a = A + n := ⟨_, rfl⟩
            rw [← hU] at hE'
            have hw1 : wrap64 (((k : Int) + 1) * (n : Int)) = (U : Int) := by
              have e : ((k : Int) + 1) * (n : Int) = (U : Int) := by rw [hU, hA, Int.natCast_add, Int.natCast_mul, Int.add_mul, Int.one_mul]
              rw [e]; exact IntWalk.wrap64_in _ ⟨by omega, by omega⟩
            have hw2 : wrap64 ((k : Int) * (n : Int)) = (A : Int) := by
              have e : (k : Int) * (n : Int) = (A : Int) := by rw [hA, Int.natCast_mul]
              rw [e]; exact IntWalk.wrap64_in _ ⟨by omega, by omega⟩
            obtain ⟨hend1, hend2, -⟩ := hend
            clear hA hE hP hq hq2 hl hquo hwM hn0 hn1 HC hc kh hU hin' hps
            have HW1 : ∀ z : Int, z = ((k : Int) + 1) * (n : Int) → wrap64 z = (U : Int) := fun z h => by rw [h]; exact hw1
            have HW2 : ∀ z : Int, z = (k : Int) * (n : Int) → wrap64 z = (A : Int) := fun z h => by rw [h]; exact hw2
            clear hw1 hw2
            by_cases hle : U ≤ s.size
            · rw [if_pos hle] at hE'
              subst hE'
              go_wp2_with fail
              all_goals first
                | (exfalso; have e1 := HW1 _ rfl; have e2 := HW2 _ rfl; clear HW1 HW2; simp only [e1, e2] at *; omega)
                | skip
              have e1 := HW1 _ rfl
              have e2 := HW2 _ rfl
              clear HW1
              simp only [e1, e2, Int.toNat_natCast] at *
              refine (kl _).mono ?_
              rintro e w1 ⟨rfl, hb⟩
              replace hrow := hrow.later hb
              replace hB := hB.trans (hb.mono hB.size)
              replace hsz := hB.size
              clear hb kl
              go_wp2_with (go_at_call 67; refine Hid.out ?_)
              all_goals first
                | (exfalso; have e2 := HW2 _ rfl; clear HW2; simp only [e2] at *; omega)
                | skip
              refine Lib.hid ?_
              simp only [HW2 _ rfl, Int.toNat_natCast]
              refine (kp _).mono ?_
              rintro e w2 ⟨rfl, hb⟩
              replace hrow := hrow.later hb
              replace hB := hB.trans (hb.mono hB.size)
              replace hsz := hB.size
              clear hb HW2 kp
              go_wp2_with (at_builtin; refine wpList_append_own _ rfl _ _ 30 rfl w.heap.size 9 i0 (.string ⟨#[]⟩) 1 16 Tryz.underlying30 hi hz0 hz1 hz2 rfl (by decide) _ _ _ rfl (World.ownsRow.alloc hrow _) ⟨_, 0, none⟩ 1 1 [.string PB] rfl rfl (cell_one_new _ _ _) (by simp [Value.oneCell']) (by unfold maxLen; omega) (by omega) (by simp; omega) ?_; intro v' w3 hown' hgrow _)
              go_roundw
              case rel => exact ⟨k + 1, by omega, by go_num, ⟨c2, rfl, hcl2, HC2⟩, by rw [hsn.out]; exact Texts.snoc hown', hrow.grown hB hsz hgrow⟩
              case measure => simp [intOf]; omega
            · rw [if_neg hle] at hE'
              subst hE'
              go_wp2_with fail
              all_goals first
                | (exfalso; have e1 := HW1 _ rfl; have e2 := HW2 _ rfl; clear HW1 HW2; simp only [e1, e2] at *; omega)
                | skip
              have e1 := HW1 _ rfl
              have e2 := HW2 _ rfl
              clear HW1
              simp only [e1, e2, Int.toNat_natCast] at *
              refine (kl _).mono ?_
              rintro e w1 ⟨rfl, hb⟩
              replace hrow := hrow.later hb
              replace hB := hB.trans (hb.mono hB.size)
              replace hsz := hB.size
              clear hb kl
              go_wp2_with (go_at_call 67; refine Hid.out ?_)
              all_goals first
                | (exfalso; have e2 := HW2 _ rfl; clear HW2; simp only [e2] at *; omega)
                | skip
              refine Lib.hid ?_
              simp only [HW2 _ rfl, Int.toNat_natCast]
              refine (kp _).mono ?_
              rintro e w2 ⟨rfl, hb⟩
              replace hrow := hrow.later hb
              replace hB := hB.trans (hb.mono hB.size)
              replace hsz := hB.size
              clear hb HW2 kp
              go_wp2_with (at_builtin; refine wpList_append_own _ rfl _ _ 30 rfl w.heap.size 9 i0 (.string ⟨#[]⟩) 1 16 Tryz.underlying30 hi hz0 hz1 hz2 rfl (by decide) _ _ _ rfl (World.ownsRow.alloc hrow _) ⟨_, 0, none⟩ 1 1 [.string PB] rfl rfl (cell_one_new _ _ _) (by simp [Value.oneCell']) (by unfold maxLen; omega) (by omega) (by simp; omega) ?_; intro v' w3 hown' hgrow _)
              go_roundw
              case rel => exact ⟨k + 1, by omega, by go_num, ⟨c2, rfl, hcl2, HC2⟩, by rw [hsn.out]; exact Texts.snoc hown', hrow.grown hB hsz hgrow⟩
              case measure => simp [intOf]; omega
          · obtain rfl : k = M := by omega
            go_wp2_with fail
            go_ret
            exact ⟨_, rfl, by rw [HR.out]; exact hrow, hB⟩
end Go.Proofs.YtdpjdjkfedcojaaGreat

namespace Go.Proofs.YtdpjdjkfedcojaaGreat
open Go.RowKit
set_option linter.unusedVariables false
set_option linter.unusedSimpArgs false

theorem Texts.lower {w : World} {B B' : Nat} {v : Value} {xs : List ByteArray} (h : Texts w B v xs) (hB : B' ≤ B) : Texts w B' v xs := by
  obtain ⟨h1, h | ⟨g, cap, cur, a, b, c⟩⟩ := h
  · exact ⟨h1, .inl h⟩
  · exact ⟨h1, .inr ⟨g, cap, cur, a, Nat.le_trans hB b, c⟩⟩
set_option maxRecDepth 100000 in
set_option maxHeartbeats 4000000 in
theorem spec_export (s : St) (v : Value) (n size : Int) (B : Nat) (w : World) (hs : StV w B v s) (hB : B ≤ w.heap.size) (hfit : Fits s) :
    Calls Tryz.prog 13 #[v, .int .i64 n, .int .i64 size] w fun e w' => ∃ r, e = .returned r ∧ Texts w' w.heap.size r (cutS (fmtS s n) size) ∧ Below w.heap.size w w' := by
  obtain ⟨vi, vt, rfl, hri, hrt⟩ := hs.rd
  obtain ⟨W, hW⟩ : ∃ W, W = w.alloc (.cells #[vi, vt] 27) := ⟨_, rfl⟩
  have bW : Below w.heap.size w W := by rw [hW]; exact (Below.refl _ _).alloc (Nat.le_refl _) _
  have hc0 := spec_encode s _ n B W (hs.later (bW.mono hB) (Nat.le_refl _)) (Nat.le_trans hB bW.size) hfit
  have hle := fmt_le s n
  have BB := Lib.hid bW
  clear bW hs hri hrt
  obtain ⟨E, hE⟩ : ∃ z, z = fmtS s n := ⟨_, rfl⟩
  rw [← hE] at hc0 hle ⊢
  have k2 := fun w => spec_cut E size w (by omega)
  clear hE
  rw [hW] at hc0
  go_enter Tryz.func13, Tryz.ntmps13
  go_wp2_with (first | (go_at_call 33; refine hc0.mono ?_; rintro e w1 ⟨rfl, hb⟩; rw [← hW] at hb; replace BB := tbt BB hb; clear hb) | (go_at_call 32; refine (k2 _).mono ?_; rintro e w2 ⟨r, rfl, hr, hb⟩))
  go_ret
  exact ⟨_, rfl, hr.lower BB.out.size, BB.out.trans (hb.mono BB.out.size)⟩
end Go.Proofs.YtdpjdjkfedcojaaGreat

namespace Go.Proofs.YtdpjdjkfedcojaaGreat
open Go.RowKit
set_option linter.unusedVariables false
set_option linter.unusedSimpArgs false

theorem imp_none : importS [] = (⟨[], []⟩, 1) := rfl
theorem imp_bad {l : List ByteArray} {z : Int × ByteArray} (hl : ¬ l = []) (h : impGo l.length l 0 (hashN []) ⟨#[]⟩ = z) (hz : ¬ z.1 = 0) : importS l = (⟨[], []⟩, z.1) := by
  unfold importS
  rw [if_neg hl, h, if_pos hz]
theorem imp_good {l : List ByteArray} {b : ByteArray} (hl : ¬ l = []) (h : impGo l.length l 0 (hashN []) ⟨#[]⟩ = (0, b)) : importS l = if (decS b).2 = 0 then (⟨[], []⟩, 5) else ((decS b).1, 0) := by
  unfold importS
  rw [if_neg hl, h, if_neg (fun q => q rfl)]
end Go.Proofs.YtdpjdjkfedcojaaGreat

namespace Go.Proofs.YtdpjdjkfedcojaaGreat
open Go.RowKit
set_option linter.unusedVariables false
set_option linter.unusedSimpArgs false

theorem pt_len {b : ByteArray} (h : b.size ≤ 65535) : (pt b).length = b.size + 2 := by
  unfold pt
  rw [List.length_append, be8_len]
  simp; omega
theorem flat_len {α : Type} {f : α → List UInt8} {n : Nat} : ∀ {xs : List α}, (∀ x ∈ xs, (f x).length ≤ n) → (xs.flatMap f).length ≤ xs.length * n
  | [], _ => by simp
  | x :: xs, h => by
    have h1 := h x (by simp)
    have h2 := flat_len (xs := xs) (fun y hy => h y (by simp [hy]))
    rw [List.flatMap_cons, List.length_append, List.length_cons, Nat.add_mul, Nat.one_mul]; omega
theorem it_len {x : It} (h : itOk x = true) : (encIt x).length ≤ 76 := by
  unfold itOk at h
  rw [Bool.and_eq_true] at h
  have h2 := name_size h.1
  have h3 := of_decide_eq_true h.2
  unfold encIt
  rw [List.length_append, pt_len (by omega), pt_len (by omega)]; omega
theorem tk_len {x : Tk} (h : tkOk x = true) : (encTk x).length ≤ 80 := by
  unfold tkOk at h
  rw [Bool.and_eq_true, Bool.and_eq_true] at h
  have h2 := name_size h.1.1
  have h3 := of_decide_eq_true h.2
  unfold encTk
  rw [List.length_append, List.length_append, pt_len (by omega), pt_len (by omega), be8_len]; omega
theorem body_small {s : St} (h : stOk s = true) (n : Nat) : (bodyL n s).length ≤ 4646 := by
  obtain ⟨⟨a, _, c⟩, d, _, e⟩ := (stOk_iff s).1 h
  have h1 := flat_len (n := 76) (f := encIt) (xs := s.items) (fun x hx => it_len (a x hx))
  have h2 := flat_len (n := 80) (f := encTk) (xs := s.talks) (fun x hx => tk_len (d x hx))
  unfold bodyL
  rw [List.length_append, List.length_append, List.length_append, List.length_append, be8_len, be8_len]
  split
  · simp only [List.length_cons, List.length_nil]; omega
  · rw [List.length_append, be8_len]; simp only [List.length_cons, List.length_nil]; omega
theorem fmt_small (s : St) (v : Int) : (fmtS s v).size ≤ 4800 := by
  unfold fmtS
  split
  · rename_i h
    have hs : ∀ n, (bodyB n s).size ≤ 4646 := fun n => body_small h.1 n
    split
    · unfold sealB
      rw [ByteArray.size_append, leB_size]
      have := hs 3; omega
    · have := hs v.toNat; omega
  · exact Nat.zero_le _
theorem fmt_ten {s : St} (h : stOk s = true) : 10 ≤ (fmtS s 3).size := by
  rw [fmtS_seal h, seal_size]
  have h3 := three_sizes s
  rw [h3.2.1]
  have h4 : 2 ≤ (midL s).length := by unfold midL; rw [List.length_append, be8_len]; omega
  omega
/-- There is a text where the state and the version are right. -/
theorem fmt_some {s : St} {v : Int} (h : stOk s = true) (hv : inB v 1 3 = true) : 0 < (fmtS s v).size := by
  have hb := inB_true hv
  rcases (show v = 1 ∨ v = 2 ∨ v = 3 by omega) with rfl | rfl | rfl
  · rw [fmtS_low h (by rfl) (by decide)]
    show 0 < (bodyB 1 s).size
    rw [(three_sizes s).1]; omega
  · rw [fmtS_low h (by rfl) (by decide)]
    show 0 < (bodyB 2 s).size
    rw [(three_sizes s).2.1]; omega
  · have := fmt_ten h; omega
theorem fmt_none {s : St} {v : Int} (h : ¬ (stOk s = true ∧ inB v 1 3 = true)) : fmtS s v = ⟨#[]⟩ := by unfold fmtS; rw [if_neg h]
end Go.Proofs.YtdpjdjkfedcojaaGreat

namespace Go.Proofs.YtdpjdjkfedcojaaGreat
open Go.RowKit
set_option linter.unusedVariables false
set_option linter.unusedSimpArgs false
theorem exp_len (s : ByteArray) (n : Int) : (cutS s n).length ≤ 600 := by
  unfold cutS
  split
  · exact Nat.zero_le _
  · split
    · exact Nat.zero_le _
    · split
      · exact Nat.zero_le _
      · rw [cutUp_len]; omega
theorem exp_mem {s : ByteArray} {n : Int} : ∀ x ∈ cutS s n, x.size ≤ 215 := by
  intro x hx
  unfold cutS at hx
  split at hx
  · cases hx
  · split at hx
    · cases hx
    · split at hx
      · cases hx
      · unfold cutUp at hx
        obtain ⟨i, _, rfl⟩ := List.mem_map.1 hx
        exact pc_le _
theorem exp_none {s : St} {n size : Int} (h : ¬ (stOk s = true ∧ inB n 1 3 = true)) : cutS (fmtS s n) size = [] := by rw [fmt_none h]; exact cut_none _
theorem exp_is {s : St} {n : Int} {m : Nat} (hs : stOk s = true) (hv : inB n 1 3 = true) (h1 : 8 ≤ m) (h2 : m ≤ 200) : cutS (fmtS s n) (m : Int) = cutUp (fmtS s n) m (manyN (fmtS s n) m) ∧ manyN (fmtS s n) m ≤ 600 ∧ 0 < manyN (fmtS s n) m := by
  have hz := fmt_some hs hv
  have hm := many_small (fmt_small s n) h1
  have hp := many_pos hz (show 0 < m by omega)
  refine ⟨?_, hm, hp⟩
  exact cut_ok (fun e => by rw [e] at hz; exact absurd hz (Nat.lt_irrefl 0)) (by unfold inB; simp; omega) (by omega)
theorem exp_read {s : St} {n : Int} {m : Nat} (hs : stOk s = true) (hv : inB n 1 3 = true) (h1 : 8 ≤ m) (h2 : m ≤ 200) : importS (cutS (fmtS s n) (m : Int)) = (keptS s n, 0) := by
  obtain ⟨e, hm, hp⟩ := exp_is hs hv h1 h2
  have hb := inB_true hv
  rw [e, import_back (by omega) h2 hm hp, dec_back hs hv, if_neg (show ¬ n = 0 by omega)]
theorem exp_back {s : St} {n size : Int} (h : ¬ cutS (fmtS s n) size = []) : importS (cutS (fmtS s n) size) = (keptS s n, 0) ∧ stOk s = true ∧ inB n 1 3 = true := by
  by_cases hok : stOk s = true ∧ inB n 1 3 = true
  · by_cases hz : inB size 8 200 = true
    · have hb := inB_true hz
      obtain ⟨m, rfl⟩ := Int.eq_ofNat_of_zero_le (show 0 ≤ size by omega)
      exact ⟨exp_read hok.1 hok.2 (by omega) (by omega), hok⟩
    · exact absurd (cut_size (by simpa using hz)) h
  · exact absurd (exp_none hok) h
theorem slice_rowX {w : World} {B sz n : Nat} {v : Value} {cs : List Value} (h : Row w B sz v n cs) : ∃ a c, v = .slice a n c := by
  rcases h with ⟨_, ⟨rfl, rfl⟩ | ⟨g, o, cap, rfl, _⟩⟩ <;> exact ⟨_, _, rfl⟩
theorem dv_kept {w w' : World} {base b : Nat} {v : Value} {s : St} (h : DecV w base v s) (hg : w.grownBy w' (some b)) (hb : b < base) : DecV w' base v s := h.imp id (fun h => h.kept hg hb)
theorem rd_cutX {w : World} {B : Nat} {vi vt : Value} {s : St} (h : Rd w B (.agg #[vi, vt]) s) : Rd w B (.agg #[vi, .slice none 0 0]) ⟨s.items, []⟩ := by
  obtain ⟨ai, at_, h0, h1, _⟩ := h
  obtain ⟨rfl, rfl⟩ : vi = ai ∧ vt = at_ := by simpa using h0
  exact ⟨_, _, rfl, h1, ⟨none, 0, rfl, Nat.le_refl _, Nat.zero_le _, fun _ => rfl, fun h => absurd h (Nat.lt_irrefl _)⟩⟩
end Go.Proofs.YtdpjdjkfedcojaaGreat
