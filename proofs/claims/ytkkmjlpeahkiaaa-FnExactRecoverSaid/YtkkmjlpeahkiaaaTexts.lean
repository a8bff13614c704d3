/- What the laws' own helpers on rows of texts answer and leave: laws.markText, markStringS, heldStringS, eqStringS. Condition: rows that the call owns. -/
import Derived.Test.YtkkmjlpeahkiaaaRows
import Derived.Test.YtkkmjlpeahkiaaaMarkText
import Derived.Test.YtkkmjlpeahkiaaaSplitPlain
import Derived.Test.YtkkmjlpeahkiaaaCurPlain
import Derived.WalkKit
import Derived.WalkSpells
import Derived.WalkLawsBesides
import Derived.LoopTactic
import Derived.Lib.Hide
import Derived.Deep.QuietTactic
import Derived.BigQuiet
import Derived.Deep.RegionHeld3
namespace Go.Proofs.Ytkkmjlpeahkiaaa
open Go.RowKit
set_option linter.unusedVariables false

set_option maxHeartbeats 1000000 in
/-- Two rows of the same texts are the same. -/
theorem eq_same (B B' : Nat) (v v' : Value) (xs : List ByteArray) (w : World) (h : Texts w B v xs) (h' : Texts w B' v' xs) :
    Calls Try.prog 34 #[v, v'] w fun e w' => e = .returned (.bool true) ∧ ∃ n, w' = w.drewN n := by
  rcases h.form with ⟨rfl, rfl⟩ | ⟨g, cap, rfl, hg, hgl, hm, hc, _⟩
  · obtain ⟨a, c, rfl⟩ : ∃ a c, v' = .slice a 0 c := by
      rcases h'.form with ⟨rfl, _⟩ | ⟨g', cap', rfl, _⟩
      · exact ⟨_, _, rfl⟩
      · exact ⟨_, _, rfl⟩
    clear h h'
    go_enter Try.func34, Try.ntmps34
    go_wp2
    go_loop [5] (fun i => i = .int .i64 0) (fun _ => 0)
    case atStart => rfl
    case round =>
      subst hrel
      go_wp2
      go_ret
      exact ⟨rfl, 0, rfl⟩
  · rcases h'.form with ⟨rfl, rfl⟩ | ⟨g', cap', rfl, hg', hgl', hm', hc', _⟩
    · have hz : (([] : List ByteArray).length) = 0 := rfl
      clear h h'
      go_enter Try.func34, Try.ntmps34
      go_wp2
      go_loop [5] (fun i => i = .int .i64 0) (fun _ => 0)
      case atStart => rfl
      case round =>
        subst hrel
        go_wp2
        go_ret
        exact ⟨rfl, 0, rfl⟩
    · clear h h'
      have hc := Lib.hid hc
      have hc' := Lib.hid hc'
      unfold maxLen at hm hm'
      go_enter Try.func34, Try.ntmps34
      go_wp2
      go_loopw [5] (fun i wr => (∃ n, wr = w.drewN n) ∧ ∃ k : Nat, k ≤ xs.length ∧ i = .int .i64 k) (fun i _ => xs.length - (intOf i).toNat)
      case atStart => exact ⟨⟨0, rfl⟩, 0, Nat.zero_le _, rfl⟩
      case round =>
        obtain ⟨⟨n, rfl⟩, k, hk, rfl⟩ := hrel
        by_cases hlt : k < xs.length
        · have c1 := hc.out k hlt
          have c2 := hc'.out k hlt
          go_wp2
          go_quiet (fail)
          go_wp2
          go_roundw
          case rel => exact ⟨⟨_, rfl⟩, k + 1, by omega, by go_num⟩
          case measure => simp [intOf]; omega
        · go_wp2
          go_ret
          exact ⟨rfl, n, rfl⟩

set_option maxHeartbeats 1000000 in
/-- Marking a row. -/
theorem mark_row (B : Nat) (v : Value) (xs : List ByteArray) (k : Nat) (hk : 0 < k) (hk' : k + xs.length ≤ 9223372036854775807) (w : World) (h : Texts w B v xs) :
    Calls Try.prog 35 #[v, .int .i64 k] w fun e w' => e = .returned (.int .i64 ((k + xs.length : Nat) : Int)) ∧ Texts w' B v (marks k xs.length) ∧ w.grownBy w' v.ownBlock := by
  rcases h.form with ⟨rfl, rfl⟩ | ⟨g, cap, rfl, hg, hgl, hm, hc, hfz⟩
  · have h := Lib.hid h
    go_enter Try.func35, Try.ntmps35
    go_wp2
    go_loop [1, 5] (fun q i => i = .int .i64 0 ∧ q = .int .i64 k) (fun _ _ => 0)
    case atStart => exact ⟨rfl, rfl⟩
    case round =>
      obtain ⟨rfl, rfl⟩ := hrel
      go_wp2
      go_ret
      exact ⟨ret_int (by simp), h.out, World.grownBy.refl _ _⟩
  · have hc := Lib.hid hc
    have h := Lib.hid h
    unfold maxLen at hm
    go_enter Try.func35, Try.ntmps35
    go_wp2
    go_loopw [1, 5] (fun q i wr => ∃ j : Nat, j ≤ xs.length ∧ i = .int .i64 j ∧ q = .int .i64 ((k + j : Nat) : Int) ∧ Hid (Texts wr B (.slice (some ⟨g, 0, none⟩) xs.length cap) (markUpto k xs j) ∧ w.grownBy wr (some g))) (fun _ i _ => xs.length - (intOf i).toNat)
    case atStart => exact ⟨0, Nat.zero_le _, rfl, by go_num, Lib.hid ⟨by rw [markUpto_zero]; exact h.out, World.grownBy.refl _ _⟩⟩
    case round =>
      obtain ⟨j, hj, rfl, rfl, hr⟩ := hrel
      by_cases hlt : j < xs.length
      · have hsz := hr.out.2.size
        go_wp2_with (go_at_call 64; refine (mark_text (k + j) (by omega) (by omega) _).mono ?_; rintro e w1 ⟨rfl, hb1⟩; refine Hid.out ?_)
        refine Lib.hid ?_
        have hr1 := hr.out.1.later hb1
        obtain ⟨⟨x, _, hcell⟩, hfz⟩ := hr1.at (markUpto_len k xs j (by omega)) j hlt
        have hr1 := Lib.hid (markUpto_set hlt hr1)
        have hg1 : w.grownBy w1 (some g) := hr.out.2.trans ⟨hb1.os, hb1.tape, hb1.output, hb1.size, fun k hk _ => hb1.block k hk⟩
        go_wp2
        go_roundw
        case rel => exact ⟨j + 1, by omega, by go_num, by go_num, Lib.hid ⟨by rw [← markUpto_step k xs j hlt]; exact hr1.out, hg1.trans (grown_set _ ⟨g, j, none⟩ _)⟩⟩
        case measure => simp [intOf]; omega
      · obtain rfl : j = xs.length := by omega
        go_wp2
        go_ret
        exact ⟨ret_int (by simp), by have := hr.out.1; rwa [markUpto_all] at this, hr.out.2⟩

set_option maxHeartbeats 1000000 in
/-- A marked row bears its marks. -/
theorem held_row (B : Nat) (v : Value) (n k : Nat) (hk : 0 < k) (hk' : k + n ≤ 9223372036854775807) (w : World) (h : Texts w B v (marks k n)) :
    Calls Try.prog 36 #[v, .int .i64 k] w fun e w' => e = .returned (.int .i64 ((k + n : Nat) : Int)) ∧ Below w.heap.size w w' := by
  have hml : (marks k n).length = n := by simp [marks]
  rcases h.form with ⟨rfl, h0⟩ | ⟨g, cap, rfl, hg, hgl, hm, hc, hfz⟩
  · obtain rfl : n = 0 := by rw [h0] at hml; simpa using hml.symm
    clear h
    go_enter Try.func36, Try.ntmps36
    go_wp2
    go_loop [1, 5] (fun q i => i = .int .i64 0 ∧ q = .int .i64 k) (fun _ _ => 0)
    case atStart => exact ⟨rfl, rfl⟩
    case round =>
      obtain ⟨rfl, rfl⟩ := hrel
      go_wp2
      go_ret
      exact ⟨ret_int (by simp), Below.refl _ _⟩
  · rw [hml] at hm ⊢
    have hc : ∀ i, i < n → w.cell? ⟨g, i, none⟩ = some (.string (markOf (k + i))) := fun i hi => by rw [hc i (by omega), marks_at k n i hi]
    have hc := Lib.hid hc
    clear h hml
    unfold maxLen at hm
    go_enter Try.func36, Try.ntmps36
    go_wp2
    go_loopw [1, 5] (fun q i wr => ∃ j : Nat, j ≤ n ∧ i = .int .i64 j ∧ q = .int .i64 ((k + j : Nat) : Int) ∧ Below w.heap.size w wr) (fun _ i _ => n - (intOf i).toNat)
    case atStart => exact ⟨0, Nat.zero_le _, rfl, by go_num, Below.refl _ _⟩
    case round =>
      obtain ⟨j, hj, rfl, rfl, hB⟩ := hrel
      by_cases hlt : j < n
      · have hsz := hB.size
        have hcell := (hB.cell (p := ⟨g, j, none⟩) hgl).trans (hc.out j hlt)
        have hgl' : g < wr.heap.size := by omega
        have heq : ((markOf (k + j)).toList == (109 : UInt8) :: Lib.decDigits (k + j)) = true := by rw [ByteArray.toList_eq]; simp [markOf]
        go_wp2
        go_region_held3 (fun w' => w'.cell? ⟨g, j, none⟩ = some (.string (markOf (k + j)))) (first | exact hcell2 | exact hcell)
          (first | (go_at_call 64; refine (mark_text (k + j) (by omega) (by omega) _).mono ?_; rintro e w1 ⟨rfl, hb1⟩; have hcell2 := (hb1.cell (p := ⟨g, j, none⟩) hgl').trans hcell))
        have hb1 : Below wr.heap.size wr w1 := ⟨hb1.os, hb1.tape, hb1.output, hb1.size, hb1.block⟩
        go_wp2
        go_roundw
        case rel => exact ⟨j + 1, by omega, by go_num, by go_num, hB.trans (hb1.mono hsz)⟩
        case measure => simp [intOf]; omega
      · obtain rfl : j = n := by omega
        go_wp2
        go_ret
        exact ⟨ret_int (by simp), hB⟩
end Go.Proofs.Ytkkmjlpeahkiaaa
