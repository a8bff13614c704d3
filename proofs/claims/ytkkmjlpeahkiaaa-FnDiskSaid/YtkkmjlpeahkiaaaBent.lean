/- The draw of a text bent in one place. Condition: a text of at most 2^40 bytes. -/
import Derived.Test.YtkkmjlpeahkiaaaCur
import Derived.Deep.RegionWith
namespace Go.Proofs.Ytkkmjlpeahkiaaa
open Go.RowKit
set_option linter.unusedVariables false

theorem Cu.later {T : TypeId} {w : World} {B blk : Nat} (c : Cu T w B blk) : Hid (Cu T w B blk) := Lib.hid c

set_option maxHeartbeats 16000000 in
theorem bent_any (s : ByteArray) (k : Nat) (hk : k ≤ 1099511627776) (hs : s.size ≤ k) (B blk : Nat) (w : World) (c : Cu TC w B blk) :
    Calls Try.prog 71 #[.pointer (some ⟨blk, 0, none⟩), .string s] w (DrewText TC w B blk (k + 1)) := by
  go_enter Try.func71, Try.ntmps71
  go_wp2_with (go_at_call 68; refine (below_any _ (by omega) B blk _ c).mono ?_; rintro e w1 ⟨i, ⟨hi0, hi1, _⟩, rfl, hc1, hg1⟩; refine Hid.out ?_)
  refine Lib.hid ?_
  have hi1 := hi1 (by omega)
  obtain ⟨i, rfl⟩ := Int.eq_ofNat_of_zero_le hi0
  have hc1 := Lib.hid hc1
  go_wp2_with (go_at_call 68; refine (below_any _ (by omega) B blk _ hc1.out).mono ?_; rintro e w2 ⟨q, ⟨hq0, hq1, _⟩, rfl, hc2, hg2⟩; refine Hid.out ?_)
  refine Lib.hid ?_
  have hq1 := hq1 (by omega)
  have hg2 := hg1.trans hg2
  have hc2 := Lib.hid hc2
  clear hc1 hg1
  have z1 : (s.extract 0 i).size = i := by simp; omega
  have z2 : (s.extract i s.size).size = s.size - i := by simp
  by_cases h0 : q = 0
  · subst h0
    go_wp2_with fail
    go_ret
    exact ⟨_, by omega, rfl, hc2.out, hg2⟩
  · by_cases h1 : q = 1
    · subst h1
      go_wp2_with fail
      go_region_with (go_at_call 70; refine (pick_lit 1 _ _ 6 6 _ _ _ (hc2.out.drewN _) rfl (by decide) (by decide) rfl).mono ?_; rintro e w3 ⟨t, ht, rfl, hc3, hg3⟩)
      all_goals (go_wp2_with fail; go_ret; exact ⟨_, by rw [ByteArray.size_append, ByteArray.size_append]; omega, rfl, hc3, hg2.trans ((grown_draws _ _ _).trans hg3)⟩)
    · by_cases h2 : q = 2
      · subst h2
        by_cases hlt : i < s.size
        · have e1 : ((i : Int) + 1).toNat = i + 1 := by omega
          have e2 : i + 1 ≤ s.size := by omega
          have e3 : (i : Int) + 1 ≤ s.size := by omega
          have e4 : IntKind.i64.wrap ((i : Int) + 1) = (i : Int) + 1 := by rw [IntKind.wrap_i64]; omega
          have e5 : ¬ (i : Int) + 1 < 0 := by omega
          have e6 : ¬ (s.size : Int) < (i : Int) + 1 := by omega
          have e7 : (0 : Int) ≤ (i : Int) + 1 := by omega
          have z3 : (s.extract (i + 1) s.size).size = s.size - (i + 1) := by simp
          go_wp2_with fail
          go_region_with (go_at_call 70; refine (pick_lit 1 _ _ 5 5 _ _ _ (hc2.out.drewN _) rfl (by decide) (by decide) rfl).mono ?_; rintro e w3 ⟨t, ht, rfl, hc3, hg3⟩)
          all_goals (go_wp2_with fail; go_ret; exact ⟨_, by rw [ByteArray.size_append, ByteArray.size_append]; omega, rfl, hc3, hg2.trans ((grown_draws _ _ _).trans hg3)⟩)
        · go_wp2_with fail
          go_ret
          exact ⟨s, by omega, rfl, hc2.out, hg2⟩
      · have e0 : (q == 0) = false := by simpa using h0
        have e1 : (q == 1) = false := by simpa using h1
        have e2 : (q == 2) = false := by simpa using h2
        go_wp2_with fail
        go_ret
        exact ⟨s, by omega, rfl, hc2.out, hg2⟩
end Go.Proofs.Ytkkmjlpeahkiaaa
