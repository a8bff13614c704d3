/- What laws.heldItemS answers of a marked row. Condition: a row of the call's own (or an empty one). -/
import Derived.Test.YtkoohmibdaomkaaMark
import Derived.Deep.RegionHeld3
namespace Go.Proofs.Ytkoohmibdaomkaa
open Go.RowKit
set_option linter.unusedVariables false

theorem markI_at (k n j : Nat) (hj : j < n) : (markI k n)[j * 2]? = some (.string (markOf (k + 2 * j))) ∧ (markI k n)[j * 2 + 1]? = some (.string (markOf (k + 2 * j + 1))) := by
  induction n with
  | zero => omega
  | succ n ih =>
    rw [markI_succ]
    by_cases h : j = n
    · subst h
      rw [List.getElem?_append_right (by rw [markI_len]; omega), List.getElem?_append_right (by rw [markI_len]; omega), markI_len, show j * 2 - j * 2 = 0 by omega, show j * 2 + 1 - j * 2 = 1 by omega]
      exact ⟨rfl, rfl⟩
    · rw [List.getElem?_append_left (by rw [markI_len]; omega), List.getElem?_append_left (by rw [markI_len]; omega)]
      exact ih (by omega)
theorem markT_at (k n j : Nat) (hj : j < n) : (markT k n)[j * 3]? = some (.string (markOf (k + 3 * j))) ∧ (markT k n)[j * 3 + 1]? = some (.int .i64 ((k + 3 * j + 1 : Nat) : Int)) ∧ (markT k n)[j * 3 + 2]? = some (.string (markOf (k + 3 * j + 2))) := by
  induction n with
  | zero => omega
  | succ n ih =>
    rw [markT_succ]
    by_cases h : j = n
    · subst h
      rw [List.getElem?_append_right (by rw [markT_len]; omega), List.getElem?_append_right (by rw [markT_len]; omega), List.getElem?_append_right (by rw [markT_len]; omega), markT_len, show j * 3 - j * 3 = 0 by omega, show j * 3 + 1 - j * 3 = 1 by omega, show j * 3 + 2 - j * 3 = 2 by omega]
      exact ⟨rfl, rfl, rfl⟩
    · rw [List.getElem?_append_left (by rw [markT_len]; omega), List.getElem?_append_left (by rw [markT_len]; omega), List.getElem?_append_left (by rw [markT_len]; omega)]
      exact ih (by omega)

theorem mark_self (k : Nat) : ((markOf k).toList == (109 : UInt8) :: Lib.decDigits k) = true := by rw [ByteArray.toList_eq]; simp [markOf]

set_option maxHeartbeats 2000000 in
theorem held_items (n k g cap base : Nat) (w : World) (hk : 0 < k) (hk' : k + 2 * n ≤ 9223372036854775807) (h : Got w base 29 2 g n cap (markI k n)) :
    Calls Try.prog 83 #[.slice (some ⟨g, 0, none⟩) n cap, .int .i64 k] w fun e w' => e = .returned (.int .i64 ((k + 2 * n : Nat) : Int)) ∧ Below w.heap.size w w' := by
  obtain ⟨h1, h2, h3, h4, h5, h6⟩ := h
  have HC : Hid (∀ j, j < n → ∀ w', Below w.heap.size w w' → w'.cell? ⟨g, j * 2, none⟩ = some (.string (markOf (k + 2 * j))) ∧ w'.cell? ⟨g, j * 2 + 1, none⟩ = some (.string (markOf (k + 2 * j + 1)))) := Lib.hid (fun j hj w' hb => by
    have ho := h6.resolve_left (by omega)
    have hm := markI_at k n j hj
    rw [hb.cell h5, hb.cell h5, World.ownsRow.cellAt ho (j * 2) (by omega), World.ownsRow.cellAt ho (j * 2 + 1) (by omega)]
    exact hm)
  unfold maxLen at h3
  clear h6 h1
  go_enter Try.func83, Try.ntmps83
  go_wp2
  go_loopw [1, 5] (fun q i wr => ∃ j : Nat, j ≤ n ∧ i = .int .i64 j ∧ q = .int .i64 ((k + 2 * j : Nat) : Int) ∧ Below w.heap.size w wr) (fun _ i _ => n - (intOf i).toNat)
  case atStart => exact ⟨0, Nat.zero_le _, rfl, by go_num, Below.refl _ _⟩
  case round =>
    obtain ⟨j, hj, rfl, rfl, hB⟩ := hrel
    by_cases hlt : j < n
    · have hsz := hB.size
      obtain ⟨c0, c1⟩ := HC.out j hlt wr hB
      have hgl : g < wr.heap.size := by omega
      have e0 := mark_self (k + 2 * j)
      have e1 := mark_self (k + 2 * j + 1)
      have HB := Lib.hid hB
      clear hB
      go_wp2
      go_region_held3 (fun w' => w'.cell? ⟨g, j * 2, none⟩ = some (.string (markOf (k + 2 * j)))) (first | exact hcell2 | exact c0)
        (first | (go_at_call 101; refine (mark_text (k + 2 * j) (by omega) (by omega) _).mono ?_; rintro e w1 ⟨rfl, hb1⟩; have hcell2 := (hb1.cell (p := ⟨g, j * 2, none⟩) hgl).trans c0))
      have hb1 : Below wr.heap.size wr w1 := ⟨hb1.os, hb1.tape, hb1.output, hb1.size, hb1.block⟩
      have B1 := HB.out.trans (hb1.mono HB.out.size)
      obtain ⟨_, d1⟩ := HC.out j hlt w1 B1
      have hgl1 : g < w1.heap.size := by have := hb1.size; omega
      have HB1 := Lib.hid B1
      clear B1 hb1 hcell2 c0 c1 e0
      go_wp2
      go_region_held3 (fun w' => w'.cell? ⟨g, j * 2 + 1, none⟩ = some (.string (markOf (k + 2 * j + 1)))) (first | exact hcell2 | exact d1)
        (first | (go_at_call 101; refine (mark_text (k + 2 * j + 1) (by omega) (by omega) _).mono ?_; rintro e w2 ⟨rfl, hb2⟩; have hcell2 := (hb2.cell (p := ⟨g, j * 2 + 1, none⟩) hgl1).trans d1))
      have hb2 : Below w1.heap.size w1 w2 := ⟨hb2.os, hb2.tape, hb2.output, hb2.size, hb2.block⟩
      go_wp2
      go_roundw
      case rel => exact ⟨j + 1, by omega, by go_num, by go_num, HB1.out.trans (hb2.mono HB1.out.size)⟩
      case measure => simp [intOf]; omega
    · obtain rfl : j = n := by omega
      go_wp2
      go_ret
      exact ⟨ret_int (by simp), hB⟩

set_option maxHeartbeats 2000000 in
theorem held_talks (n k g cap base : Nat) (w : World) (hk : 0 < k) (hk' : k + 3 * n ≤ 9223372036854775807) (h : Got w base 41 3 g n cap (markT k n)) :
    Calls Try.prog 84 #[.slice (some ⟨g, 0, none⟩) n cap, .int .i64 k] w fun e w' => e = .returned (.int .i64 ((k + 3 * n : Nat) : Int)) ∧ Below w.heap.size w w' := by
  obtain ⟨h1, h2, h3, h4, h5, h6⟩ := h
  have HC : Hid (∀ j, j < n → ∀ w', Below w.heap.size w w' → w'.cell? ⟨g, j * 3, none⟩ = some (.string (markOf (k + 3 * j))) ∧ w'.cell? ⟨g, j * 3 + 1, none⟩ = some (.int .i64 ((k + 3 * j + 1 : Nat) : Int)) ∧ w'.cell? ⟨g, j * 3 + 2, none⟩ = some (.string (markOf (k + 3 * j + 2)))) := Lib.hid (fun j hj w' hb => by
    have ho := h6.resolve_left (by omega)
    have hm := markT_at k n j hj
    rw [hb.cell h5, hb.cell h5, hb.cell h5, World.ownsRow.cellAt ho (j * 3) (by omega), World.ownsRow.cellAt ho (j * 3 + 1) (by omega), World.ownsRow.cellAt ho (j * 3 + 2) (by omega)]
    exact hm)
  unfold maxLen at h3
  clear h6 h1
  go_enter Try.func84, Try.ntmps84
  go_wp2
  go_loopw [1, 5] (fun q i wr => ∃ j : Nat, j ≤ n ∧ i = .int .i64 j ∧ q = .int .i64 ((k + 3 * j : Nat) : Int) ∧ Below w.heap.size w wr) (fun _ i _ => n - (intOf i).toNat)
  case atStart => exact ⟨0, Nat.zero_le _, rfl, by go_num, Below.refl _ _⟩
  case round =>
    obtain ⟨j, hj, rfl, rfl, hB⟩ := hrel
    by_cases hlt : j < n
    · have hsz := hB.size
      obtain ⟨c0, c1, c2⟩ := HC.out j hlt wr hB
      have hgl : g < wr.heap.size := by omega
      have e0 := mark_self (k + 3 * j)
      have e2 := mark_self (k + 3 * j + 2)
      have HB := Lib.hid hB
      clear hB
      go_wp2
      go_region_held3 (fun w' => w'.cell? ⟨g, j * 3, none⟩ = some (.string (markOf (k + 3 * j)))) (first | exact hcell2 | exact c0)
        (first | (go_at_call 101; refine (mark_text (k + 3 * j) (by omega) (by omega) _).mono ?_; rintro e w1 ⟨rfl, hb1⟩; have hcell2 := (hb1.cell (p := ⟨g, j * 3, none⟩) hgl).trans c0))
      have hb1 : Below wr.heap.size wr w1 := ⟨hb1.os, hb1.tape, hb1.output, hb1.size, hb1.block⟩
      have B1 := HB.out.trans (hb1.mono HB.out.size)
      obtain ⟨_, d1, d2⟩ := HC.out j hlt w1 B1
      have hgl1 : g < w1.heap.size := by have := hb1.size; omega
      have HB1 := Lib.hid B1
      clear B1 hb1 hcell2 c0 c1 c2 e0
      go_wp2
      go_region_held3 (fun w' => w'.cell? ⟨g, j * 3 + 2, none⟩ = some (.string (markOf (k + 3 * j + 2)))) (first | exact hcell2 | exact d2)
        (first | (go_at_call 101; refine (mark_text (k + 3 * j + 2) (by omega) (by omega) _).mono ?_; rintro e w2 ⟨rfl, hb2⟩; have hcell2 := (hb2.cell (p := ⟨g, j * 3 + 2, none⟩) hgl1).trans d2))
      have hb2 : Below w1.heap.size w1 w2 := ⟨hb2.os, hb2.tape, hb2.output, hb2.size, hb2.block⟩
      go_wp2
      go_roundw
      case rel => exact ⟨j + 1, by omega, by go_num, by go_num, HB1.out.trans (hb2.mono HB1.out.size)⟩
      case measure => simp [intOf]; omega
    · obtain rfl : j = n := by omega
      go_wp2
      go_ret
      exact ⟨ret_int (by simp), hB⟩
end Go.Proofs.Ytkoohmibdaomkaa
