/- What spec.Lines answers at every text: its pieces between newlines, in a row of the call's own. Condition: the text has at most 2^40 bytes. -/
import Derived.Test.YtcehmcnkalilnaaRows
import Derived.Test.YtcehmcnkalilnaaSplitPlain
import Derived.WalkKit
import Derived.WalkSpells
import Derived.WalkLawsBesides
import Derived.LoopTactic
import Derived.Lib.Hide
namespace Go.Proofs.Ytcehmcnkalilnaa
open Go.RowKit
set_option linter.unusedVariables false

theorem infoS : (Try.prog.info? 9).map (fun i => (i.zero, i.size, i.bytes)) = some (some (.string ⟨#[]⟩), 1, 16) := by kernel_rfl

set_option maxHeartbeats 1000000 in
theorem spec_lines (s : ByteArray) (w : World) (hs : s.size ≤ 1099511627776) :
    Calls Try.prog 15 #[.string s] w fun e w' => ∃ v, e = .returned v ∧ Texts w' w.heap.size v (linesOf s) ∧ Below w.heap.size w w' := by
  obtain ⟨i0, hi, hz0, hz1, hz2⟩ := info_parts infoS
  by_cases h0 : s.toList = []
  · have h1 : s.toList.isEmpty = true := by simp [h0]
    have hl := Lib.hid (lines_eq s h0)
    go_enter Try.func15, Try.ntmps15
    go_wp2
    go_ret
    exact ⟨_, rfl, by rw [hl.out]; exact Texts.empty _ _ (Nat.le_refl _), (Below.refl _ _).alloc (Nat.le_refl _) _⟩
  · have h1 : s.toList.isEmpty = false := by simpa using h0
    have hl := Lib.hid (lines_ne s h0)
    clear h0
    go_enter Try.func15, Try.ntmps15
    go_wp2
    go_loopw [3, 4, 5] (fun out st i wr => ∃ (k t : Nat), k ≤ s.size ∧ t ≤ k ∧ i = .int .i64 k ∧ st = .int .i64 t ∧ Hid (t = (cutAt isNl s k).2) ∧ Texts wr w.heap.size out (cutAt isNl s k).1 ∧ Below w.heap.size w wr) (fun _ _ i _ => s.size - (intOf i).toNat)
    case atStart => exact ⟨0, 0, Nat.zero_le _, Nat.le_refl _, rfl, rfl, Lib.hid rfl, Texts.empty _ _ (Nat.le_refl _), (Below.refl _ _).alloc (Nat.le_refl _) _⟩
    case round =>
      obtain ⟨k, t, hk, htk, rfl, rfl, ht, hrow, hB⟩ := hrel
      have hsz := hB.size
      have hcl := cut_len isNl s k
      by_cases hlt : k < s.size
      · by_cases hnl : ((s[k].toNat : Int) == 10) = true
        · have hcut := Lib.hid (cut_yes hlt (isNl_yes hnl))
          go_wp2_with (at_builtin; refine wpList_append_own _ rfl _ _ 25 rfl w.heap.size 9 i0 (.string ⟨#[]⟩) 1 16 Try.underlying25 hi hz0 hz1 hz2 rfl (by decide) _ _ _ rfl (World.ownsRow.alloc hrow _) ⟨_, 0, none⟩ 1 1 [.string (s.extract t k)] rfl rfl (cell_one_new _ _ _) (by simp [Value.oneCell']) (by unfold maxLen; omega) (by omega) (by simp; omega) ?_; intro v' w1 hown' hgrow _)
          go_roundw
          case rel => exact ⟨k + 1, k + 1, by omega, by omega, by go_num, by go_num, Lib.hid (by rw [hcut.out]), by rw [hcut.out, ← ht.out]; exact Texts.snoc hown', hrow.grown hB hsz hgrow⟩
          case measure => simp [intOf]; omega
        · have hnl : ((s[k].toNat : Int) == 10) = false := by simpa using hnl
          have hcut := Lib.hid (cut_no hlt (isNl_no hnl))
          go_wp2
          go_roundw
          case rel => exact ⟨k + 1, t, by omega, by omega, by go_num, rfl, by rw [hcut.out]; exact ht, by rw [hcut.out]; exact hrow, hB⟩
          case measure => simp [intOf]; omega
      · obtain rfl : k = s.size := by omega
        go_wp2_with (at_builtin; refine wpList_append_own _ rfl _ _ 25 rfl w.heap.size 9 i0 (.string ⟨#[]⟩) 1 16 Try.underlying25 hi hz0 hz1 hz2 rfl (by decide) _ _ _ rfl (World.ownsRow.alloc hrow _) ⟨_, 0, none⟩ 1 1 [.string (s.extract t s.size)] rfl rfl (cell_one_new _ _ _) (by simp [Value.oneCell']) (by unfold maxLen; omega) (by omega) (by simp; omega) ?_; intro v' w1 hown' hgrow _)
        go_ret
        exact ⟨v', rfl, by rw [hl.out]; unfold pieces; rw [← ht.out]; exact Texts.snoc hown', hrow.grown hB hsz hgrow⟩
end Go.Proofs.Ytcehmcnkalilnaa
