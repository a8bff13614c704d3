/- What spec.PutNum answers at every two numbers. Condition: none. -/
import Derived.Test.YtkkmjlpeahkiaaaBytes
import Derived.Test.YtkkmjlpeahkiaaaNumPlain
import Derived.Test.YtkkmjlpeahkiaaaIn
import Derived.WalkKit
import Derived.WalkSpells
import Derived.WalkLawsBesides
import Derived.LoopTactic
namespace Go.Proofs.Ytkkmjlpeahkiaaa
open Go.RowKit
set_option linter.unusedVariables false

theorem ret_txt {a b : ByteArray} (h : a = b) : Ending.returned (.string a) = .returned (.string b) := by rw [h]
theorem ret_empty {s : ByteArray} (h : txt [] = s) : Ending.returned (.string ⟨#[]⟩) = .returned (.string s) := by rw [← h]; rfl

set_option maxHeartbeats 1000000 in
theorem spec_putNum (n b : Int) (hn : -9223372036854775808 ≤ n ∧ n ≤ 9223372036854775807) (hb : -9223372036854775808 ≤ b ∧ b ≤ 9223372036854775807) (w : World) :
    Calls Try.prog 73 #[.int .i64 n, .int .i64 b] w fun e w' => e = .returned (.string (txt (putN n b))) ∧ Below w.heap.size w w' := by
  obtain ⟨i0, hi, hz0, hz1, hz2⟩ := info_parts infoB
  by_cases hn0 : n < 0
  · have hv : Hid (txt [] = txt (putN n b)) := Lib.hid (by unfold putN; rw [if_pos (by omega)])
    go_enter Try.func73, Try.ntmps73
    go_wp2_with fail
    go_ret
    exact ⟨ret_empty hv.out, Below.refl _ _⟩
  · by_cases hout : b < 1 ∨ 4 < b
    · have hin : inB b 1 4 = false := by simp [inB]; omega
      have hv : Hid (txt [] = txt (putN n b)) := Lib.hid (by unfold putN; rw [if_pos (by omega)])
      go_enter Try.func73, Try.ntmps73
      go_wp2_with (go_at_call 53; refine (in_any _ _ _ _).mono ?_; rintro e w' ⟨rfl, rfl⟩)
      go_ret
      exact ⟨ret_empty hv.out, Below.refl _ _⟩
    · have hin : inB b 1 4 = true := by simp [inB]; omega
      obtain ⟨N, rfl⟩ := Int.eq_ofNat_of_zero_le (show 0 ≤ n by omega)
      obtain ⟨B, rfl⟩ := Int.eq_ofNat_of_zero_le (show 0 ≤ b by omega)
      have hv : Hid (beB N B = putN N B) := Lib.hid (by unfold putN; rw [if_neg (by omega)]; rfl)
      go_enter Try.func73, Try.ntmps73
      go_wp2_with (go_at_call 53; refine (in_any _ _ _ _).mono ?_; rintro e w' ⟨rfl, rfl⟩)
      go_loopw [5, 6] (fun out i wr => ∃ k : Nat, k ≤ B ∧ i = .int .i64 ((k : Int) - 1) ∧ Hid (Bytes8 wr w.heap.size out (beB (N / 256 ^ k) (B - k))) ∧ Hid (Below w.heap.size w wr)) (fun _ i _ => (intOf i + 1).toNat)
      case atStart => exact ⟨B, Nat.le_refl _, rfl, Lib.hid ⟨by rw [Nat.sub_self]; exact World.ownsRow_made w #[] 0 (Nat.le_refl _) (Nat.zero_le _) rfl, by simp [beB]⟩, Lib.hid ((Below.refl _ _).alloc (Nat.le_refl _) _)⟩
      case round =>
        obtain ⟨k, hk, rfl, hrow, hbel⟩ := hrel
        have hsz := hbel.out.size
        have hB4 : B ≤ 4 := by omega
        obtain ⟨xs, hxs⟩ : ∃ xs, xs = beB (N / 256 ^ k) (B - k) := ⟨_, rfl⟩
        have hlen : xs.length = B - k := by rw [hxs]; exact beB_len _ _
        rw [← hxs] at hrow
        have HX := Lib.hid hxs
        clear hxs
        rcases (show k = 0 ∨ k = 1 ∨ k = 2 ∨ k = 3 ∨ k = 4 by omega) with hk0 | hk0 | hk0 | hk0 | hk0
        · have hk1 : ((k : Int) - 1) = -1 := by omega
          rw [hk1]
          obtain ⟨g, oc, hov, hlc, hm, hconv⟩ := hrow.out.str (by omega)
          subst hov
          rw [show xs.length = B by omega] at hconv
          unfold maxLen at hm
          have hfin : Hid (txt xs = txt (putN N B)) := Lib.hid (by rw [HX.out, ← hv.out, hk0, Nat.pow_zero, Nat.div_one, Nat.sub_zero])
          clear hk1 hv
          go_wp2_with fail
          go_ret
          exact ⟨ret_txt hfin.out, hbel.out⟩
        · have hk1 : ((k : Int) - 1) = 0 := by omega
          rw [hk1]
          have hst : Hid (xs ++ [(N : Int) % 256] = beB (N / 256 ^ 0) (B - 0)) := Lib.hid (by
            rw [HX.out, hk0, beB_step N (B - 1) 0 _ (by omega), show B - 1 + 1 = B - 0 by omega])
          obtain ⟨oa, oc, hov⟩ := hrow.out.shape
          subst hov
          have hx0 : 0 ≤ (N : Int) % 256 := by omega
          have hx1 : (N : Int) % 256 ≤ 255 := by omega
          clear hk1
          go_wp2_with (at_builtin; refine wpList_append_own _ rfl _ _ 45 rfl w.heap.size 5 i0 (.int .u8 0) 1 1 Try.underlying45 hi hz0 hz1 hz2 rfl (by decide) _ _ _ rfl (World.ownsRow.alloc hrow.out.1 _) ⟨_, 0, none⟩ 1 1 [.int .u8 ((N : Int) % 256)] rfl rfl (cell_one_new _ _ _) (by simp [Value.oneCell']) (by unfold maxLen; omega) (by omega) (by simp; omega) ?_; intro v' w9 hown' hgrow _)
          have hr9 := hrow.out.snoc hown' ⟨hx0, hx1⟩
          have hb9 := hrow.out.grown hbel.out hsz hgrow
          go_roundw
          case rel => exact ⟨0, by omega, by go_num, by rw [← hst.out]; exact Lib.hid hr9, Lib.hid hb9⟩
          case measure => simp [intOf]
        · have hk1 : ((k : Int) - 1) = 1 := by omega
          rw [hk1]
          have hst : Hid (xs ++ [(N : Int) / 256 % 256] = beB (N / 256 ^ 1) (B - 1)) := Lib.hid (by
            rw [HX.out, hk0, beB_step N (B - 2) 1 _ (by omega), show B - 2 + 1 = B - 1 by omega])
          obtain ⟨oa, oc, hov⟩ := hrow.out.shape
          subst hov
          have hx0 : 0 ≤ (N : Int) / 256 % 256 := by omega
          have hx1 : (N : Int) / 256 % 256 ≤ 255 := by omega
          clear hk1
          go_wp2_with (at_builtin; refine wpList_append_own _ rfl _ _ 45 rfl w.heap.size 5 i0 (.int .u8 0) 1 1 Try.underlying45 hi hz0 hz1 hz2 rfl (by decide) _ _ _ rfl (World.ownsRow.alloc hrow.out.1 _) ⟨_, 0, none⟩ 1 1 [.int .u8 ((N : Int) / 256 % 256)] rfl rfl (cell_one_new _ _ _) (by simp [Value.oneCell']) (by unfold maxLen; omega) (by omega) (by simp; omega) ?_; intro v' w9 hown' hgrow _)
          have hr9 := hrow.out.snoc hown' ⟨hx0, hx1⟩
          have hb9 := hrow.out.grown hbel.out hsz hgrow
          go_roundw
          case rel => exact ⟨1, by omega, by go_num, by rw [← hst.out]; exact Lib.hid hr9, Lib.hid hb9⟩
          case measure => simp [intOf]
        · have hk1 : ((k : Int) - 1) = 2 := by omega
          rw [hk1]
          have hst : Hid (xs ++ [(N : Int) / 65536 % 256] = beB (N / 256 ^ 2) (B - 2)) := Lib.hid (by
            rw [HX.out, hk0, beB_step N (B - 3) 2 _ (by omega), show B - 3 + 1 = B - 2 by omega])
          obtain ⟨oa, oc, hov⟩ := hrow.out.shape
          subst hov
          have hx0 : 0 ≤ (N : Int) / 65536 % 256 := by omega
          have hx1 : (N : Int) / 65536 % 256 ≤ 255 := by omega
          clear hk1
          go_wp2_with (at_builtin; refine wpList_append_own _ rfl _ _ 45 rfl w.heap.size 5 i0 (.int .u8 0) 1 1 Try.underlying45 hi hz0 hz1 hz2 rfl (by decide) _ _ _ rfl (World.ownsRow.alloc hrow.out.1 _) ⟨_, 0, none⟩ 1 1 [.int .u8 ((N : Int) / 65536 % 256)] rfl rfl (cell_one_new _ _ _) (by simp [Value.oneCell']) (by unfold maxLen; omega) (by omega) (by simp; omega) ?_; intro v' w9 hown' hgrow _)
          have hr9 := hrow.out.snoc hown' ⟨hx0, hx1⟩
          have hb9 := hrow.out.grown hbel.out hsz hgrow
          go_roundw
          case rel => exact ⟨2, by omega, by go_num, by rw [← hst.out]; exact Lib.hid hr9, Lib.hid hb9⟩
          case measure => simp [intOf]
        · have hk1 : ((k : Int) - 1) = 3 := by omega
          rw [hk1]
          have hst : Hid (xs ++ [(N : Int) / 16777216 % 256] = beB (N / 256 ^ 3) (B - 3)) := Lib.hid (by
            rw [HX.out, hk0, beB_step N (B - 4) 3 _ (by omega), show B - 4 + 1 = B - 3 by omega])
          obtain ⟨oa, oc, hov⟩ := hrow.out.shape
          subst hov
          have hx0 : 0 ≤ (N : Int) / 16777216 % 256 := by omega
          have hx1 : (N : Int) / 16777216 % 256 ≤ 255 := by omega
          clear hk1
          go_wp2_with (at_builtin; refine wpList_append_own _ rfl _ _ 45 rfl w.heap.size 5 i0 (.int .u8 0) 1 1 Try.underlying45 hi hz0 hz1 hz2 rfl (by decide) _ _ _ rfl (World.ownsRow.alloc hrow.out.1 _) ⟨_, 0, none⟩ 1 1 [.int .u8 ((N : Int) / 16777216 % 256)] rfl rfl (cell_one_new _ _ _) (by simp [Value.oneCell']) (by unfold maxLen; omega) (by omega) (by simp; omega) ?_; intro v' w9 hown' hgrow _)
          have hr9 := hrow.out.snoc hown' ⟨hx0, hx1⟩
          have hb9 := hrow.out.grown hbel.out hsz hgrow
          go_roundw
          case rel => exact ⟨3, by omega, by go_num, by rw [← hst.out]; exact Lib.hid hr9, Lib.hid hb9⟩
          case measure => simp [intOf]
end Go.Proofs.Ytkkmjlpeahkiaaa
