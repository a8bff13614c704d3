/- What spec.Words answers at every text: its words, in a row of the call's own. Condition: the text has at most 2^40 bytes. -/
import Derived.Test.YtebmaplflpfjbaaDoorLines
import Derived.Deep.LoopGhost
import Derived.Deep.Cut
import Derived.Deep.CutBlock
namespace Go.Proofs.YtebmaplflpfjbaaDoor
open Go.RowKit
set_option linter.unusedVariables false

theorem blank_any (c : UInt8) (b : Bool) (w : World) (h : isBl c = b) : Calls Tryd.prog 93 #[.int .u8 c.toNat] w fun e w' => e = .returned (.bool b) ∧ w = w' := by
  subst h
  have hc : c.toNat < 256 := c.toNat_lt
  by_cases h1 : ((c.toNat : Int) == 32) = true
  · have h2 := Lib.hid (isBl_1 h1)
    go_enter Tryd.func93, Tryd.ntmps93
    go_wp2
    go_ret
    exact ⟨ret_bool (by rw [h2.out]), rfl⟩
  · have h1 : ((c.toNat : Int) == 32) = false := by simpa using h1
    by_cases h3 : ((c.toNat : Int) == 9) = true
    · have h2 := Lib.hid (isBl_2 h3)
      go_enter Tryd.func93, Tryd.ntmps93
      go_wp2
      go_ret
      exact ⟨ret_bool (by rw [h2.out]), rfl⟩
    · have h3 : ((c.toNat : Int) == 9) = false := by simpa using h3
      have h2 := Lib.hid (isBl_0 h1 h3)
      go_enter Tryd.func93, Tryd.ntmps93
      go_wp2
      go_ret
      exact ⟨ret_bool (by rw [h2.out]), rfl⟩

set_option maxHeartbeats 1000000 in
theorem spec_words (s : ByteArray) (w : World) (hs : s.size ≤ 1099511627776) :
    Calls Tryd.prog 56 #[.string s] w fun e w' => ∃ v, e = .returned v ∧ Texts w' w.heap.size v (wordsOf s) ∧ Below w.heap.size w w' := by
  obtain ⟨i0, hi, hz0, hz1, hz2⟩ := info_parts infoS
  go_enter Tryd.func56, Tryd.ntmps56
  go_wp2
  go_loopw [3, 4] (fun out i wr => ∃ k : Nat, k ≤ s.size ∧ i = .int .i64 k ∧ Hid (∀ h : k < s.size, isBl s[k] = false → (cutAt isBl s k).2 = k) ∧ Texts wr w.heap.size out (wordsAt s k) ∧ Below w.heap.size w wr) (fun _ i _ => s.size - (intOf i).toNat)
  case atStart => exact ⟨0, Nat.zero_le _, rfl, Lib.hid (fun _ _ => rfl), by rw [wordsAt_zero]; exact Texts.empty _ _ (Nat.le_refl _), (Below.refl _ _).alloc (Nat.le_refl _) _⟩
  case round =>
    obtain ⟨k, hk, rfl, hcut, hrow, hB⟩ := hrel
    have hsz := hB.size
    have hwl := wordsAt_len s k
    by_cases hlt : k < s.size
    · by_cases hbl : isBl s[k] = true
      · have h1 := Lib.hid (wordsAt_blank s k hlt hbl)
        have h2 := Lib.hid (cut_blank s k hlt hbl)
        go_wp2_with (go_at_call 93; refine (blank_any _ _ _ hbl).mono ?_; rintro e w' ⟨rfl, rfl⟩)
        go_roundw
        case rel => exact ⟨k + 1, by omega, by go_num, Lib.hid (fun _ _ => h2.out), by rw [h1.out]; exact hrow, hB⟩
        case measure => simp [intOf]; omega
      · have hbl : isBl s[k] = false := by simpa using hbl
        have hck := Lib.hid (hcut.out hlt hbl)
        go_wp2_with (go_at_call 93; refine (blank_any _ _ _ hbl).mono ?_; rintro e w' ⟨rfl, rfl⟩)
        go_loopw [5] (fun i wr' => ∃ m : Nat, k ≤ m ∧ m ≤ s.size ∧ i = .int .i64 m ∧ Hid (cutAt isBl s m = cutAt isBl s k) ∧ wr' = wr) (fun i _ => s.size - (intOf i).toNat)
        case atStart => exact ⟨k, Nat.le_refl _, hk, rfl, Lib.hid rfl, rfl⟩
        case round =>
          obtain ⟨m, hkm, hm, rfl, hcm, rfl⟩ := hrel
          by_cases hml : m < s.size
          · by_cases hmb : isBl s[m] = true
            · have hkm' : k < m := by
                rcases Nat.lt_or_ge k m with h | h
                · exact h
                · obtain rfl : k = m := by omega
                  rw [hbl] at hmb; cases hmb
              have hw := Lib.hid (wordsAt_word s k m (by omega) hck.out hcm.out)
              go_wp2_with (first | (go_at_call 93; refine (blank_any _ _ _ hmb).mono ?_; rintro e w' ⟨rfl, rfl⟩) | (at_builtin; refine wpList_append_own _ rfl _ _ 50 rfl w.heap.size 9 i0 (.string ⟨#[]⟩) 1 16 Tryd.underlying50 hi hz0 hz1 hz2 rfl (by decide) _ _ _ rfl (World.ownsRow.alloc hrow _) ⟨_, 0, none⟩ 1 1 [.string (s.extract k m)] rfl rfl (cell_one_new _ _ _) (by simp [Value.oneCell']) (by unfold maxLen; omega) (by omega) (by simp; omega) ?_; intro v' w1 hown' hgrow _))
              go_roundw
              case rel => exact ⟨m, hm, rfl, Lib.hid (fun _ h => by first | exact absurd h (by rw [hmb]; decide) | omega), by rw [hw.out]; exact Texts.snoc hown', hrow.grown hB hsz hgrow⟩
              case measure => simp [intOf]; omega
            · have hmb : isBl s[m] = false := by simpa using hmb
              have hnext := Lib.hid ((cut_no hml hmb).trans hcm.out)
              go_wp2_with (go_at_call 93; refine (blank_any _ _ _ hmb).mono ?_; rintro e w' ⟨rfl, rfl⟩)
              go_roundw
              case rel => exact ⟨m + 1, by omega, by omega, by go_num, hnext, trivial⟩
              case measure => simp [intOf]; omega
          · obtain rfl : m = s.size := by omega
            have hw := Lib.hid (wordsAt_word s k s.size (by omega) hck.out hcm.out)
            go_wp2_with ((at_builtin; refine wpList_append_own _ rfl _ _ 50 rfl w.heap.size 9 i0 (.string ⟨#[]⟩) 1 16 Tryd.underlying50 hi hz0 hz1 hz2 rfl (by decide) _ _ _ rfl (World.ownsRow.alloc hrow _) ⟨_, 0, none⟩ 1 1 [.string (s.extract k s.size)] rfl rfl (cell_one_new _ _ _) (by simp [Value.oneCell']) (by unfold maxLen; omega) (by omega) (by simp; omega) ?_; intro v' w1 hown' hgrow _))
            go_roundw
            case rel => exact ⟨s.size, hm, rfl, Lib.hid (fun _ h => by first | exact absurd (by assumption) (Nat.lt_irrefl _)), by rw [hw.out]; exact Texts.snoc hown', hrow.grown hB hsz hgrow⟩
            case measure => simp [intOf]; omega
    · obtain rfl : k = s.size := by omega
      go_wp2_with fail
      go_ret
      exact ⟨_, rfl, by rw [← wordsAt_end]; exact hrow, hB⟩
end Go.Proofs.YtebmaplflpfjbaaDoor
