/- What laws.markItemS leaves of a row that the call owns: its marks. Condition: a row of the call's own (or an empty one). -/
import Derived.Test.YtkoohmibdaomkaaCopy
import Derived.Test.YtkoohmibdaomkaaMarkText
namespace Go.Proofs.Ytkoohmibdaomkaa
open Go.RowKit
set_option linter.unusedVariables false

def markI (k n : Nat) : List Value := (List.range n).flatMap fun j => [.string (markOf (k + 2 * j)), .string (markOf (k + 2 * j + 1))]
theorem markI_succ (k n : Nat) : markI k (n + 1) = markI k n ++ [.string (markOf (k + 2 * n)), .string (markOf (k + 2 * n + 1))] := by
  unfold markI; rw [List.range_succ, List.flatMap_append]; simp
theorem markI_len (k n : Nat) : (markI k n).length = n * 2 := by
  induction n with
  | zero => rfl
  | succ n ih => rw [markI_succ, List.length_append, ih]; simp; omega

set_option maxHeartbeats 2000000 in
theorem mark_items (n k g cap base : Nat) (cs : List Value) (w : World) (hk : 0 < k) (hk' : k + 2 * n ≤ 9223372036854775807) (h : Got w base 29 2 g n cap cs) :
    Calls Try.prog 81 #[.slice (some ⟨g, 0, none⟩) n cap, .int .i64 k] w fun e w' => e = .returned (.int .i64 ((k + 2 * n : Nat) : Int)) ∧ Got w' base 29 2 g n cap (markI k n) ∧ w.grownBy w' (some g) := by
  obtain ⟨h1, h2, h3, h4, h5, h6⟩ := h
  have H6 := Lib.hid h6
  have H1 := Lib.hid h1
  unfold maxLen at h3
  clear h6 h1
  go_enter Try.func81, Try.ntmps81
  go_wp2
  go_loopw [1, 5] (fun q i wr => ∃ (j : Nat) (R : List Value), j ≤ n ∧ i = .int .i64 j ∧ q = .int .i64 ((k + 2 * j : Nat) : Int) ∧ Hid ((n = 0 ∧ cap = 0) ∨ wr.ownsRow base 29 2 (.slice (some ⟨g, 0, none⟩) n cap) n (markI k j ++ R)) ∧ Hid (w.grownBy wr (some g))) (fun _ i _ => n - (intOf i).toNat)
  case atStart => exact ⟨0, cs, Nat.zero_le _, rfl, by go_num, Lib.hid (by simpa [markI] using H6.out), Lib.hid (World.grownBy.refl _ _)⟩
  case round =>
    obtain ⟨j, R, hj, rfl, rfl, hr, hg⟩ := hrel
    by_cases hlt : j < n
    · have hown := hr.out.resolve_left (by omega)
      have hlenL := hown.1
      have hlenk := markI_len k j
      obtain ⟨r0, r1, R', rfl⟩ : ∃ r0 r1 R', R = r0 :: r1 :: R' := by
        rw [List.length_append, hlenk] at hlenL
        match R, hlenL with
        | r0 :: r1 :: R', _ => exact ⟨r0, r1, R', rfl⟩
        | [], h => simp at h; omega
        | [_], h => simp at h; omega
      have Hown := Lib.hid hown
      have HlenL := Lib.hid hlenL
      have Hlenk := Lib.hid hlenk
      clear hown hlenL hlenk hr
      go_wp2_with (go_at_call 101; refine (mark_text (k + 2 * j) (by omega) (by omega) _).mono ?_; rintro e w1 ⟨rfl, hb1⟩; refine Hid.out ?_)
      refine Lib.hid ?_
      have hrow1 := owns_later Hown.out hb1
      have hL := HlenL.out
      have hK := Hlenk.out
      have c0 : w1.cell? ⟨g, j * 2, none⟩ = some r0 := by
        rw [World.ownsRow.cellAt hrow1 (j * 2) (by omega), List.getElem?_append_right (by omega), hK]; simp
      have z0 := World.ownsRow.frozenAt hrow1 (j * 2)
      have hset := hrow1.stored (j * 2) (.string (markOf (k + 2 * j)))
      have Hset := Lib.hid hset
      have Hb1 := Lib.hid hb1
      clear hrow1 hL hK hset hb1
      go_wp2_with (go_at_call 101; refine (mark_text (k + 2 * j + 1) (by omega) (by omega) _).mono ?_; rintro e w2 ⟨rfl, hb2⟩; refine Hid.out ?_)
      refine Lib.hid ?_
      have hrow2 := owns_later (Hset.out.1) hb2
      have hL := HlenL.out
      have hK := Hlenk.out
      have c1 : w2.cell? ⟨g, j * 2 + 1, none⟩ = some r1 := by
        rw [World.ownsRow.cellAt hrow2 (j * 2 + 1) (by omega), List.getElem?_set_ne (by omega), List.getElem?_append_right (by omega), hK, show j * 2 + 1 - j * 2 = 1 by omega]; rfl
      have z1 := World.ownsRow.frozenAt hrow2 (j * 2 + 1)
      have hset2 := hrow2.stored (j * 2 + 1) (.string (markOf (k + 2 * j + 1)))
      rw [set_two _ _ _ _ _ hK] at hset2
      have Hset2 := Lib.hid hset2
      have Hb2 := Lib.hid hb2
      clear hrow2 hL hK hset2 hb2 c0 z0
      go_wp2_with fail
      go_roundw
      case rel =>
        refine ⟨j + 1, R', by omega, by go_num, by go_num, Lib.hid (.inr ?_), Lib.hid ?_⟩
        · rw [markI_succ, List.append_assoc]
          exact Hset2.out.1
        · have g1 : wr.grownBy w1 (some g) := ⟨Hb1.out.os, Hb1.out.tape, Hb1.out.output, Hb1.out.size, fun k hk _ => Hb1.out.block k hk⟩
          have g2 := Hset.out.2
          have g3 : (w1.setCell ⟨g, j * 2, none⟩ (.string (markOf (k + 2 * j)))).grownBy w2 (some g) := ⟨Hb2.out.os, Hb2.out.tape, Hb2.out.output, Hb2.out.size, fun k hk _ => Hb2.out.block k hk⟩
          exact (((hg.out.trans g1).trans g2).trans g3).trans Hset2.out.2
      case measure => simp [intOf]; omega
    · obtain rfl : j = n := by omega
      go_wp2
      go_ret
      refine ⟨ret_int (by simp), ⟨markI_len _ _, h2, by unfold maxLen; exact h3, h4, Nat.lt_of_lt_of_le h5 hg.out.size, ?_⟩, hg.out⟩
      rcases hr.out with h0 | h0
      · exact .inl h0
      · refine .inr ?_
        have hl := h0.1
        rw [List.length_append, markI_len] at hl
        have : R = [] := List.eq_nil_of_length_eq_zero (by omega)
        rw [this, List.append_nil] at h0
        exact h0

def markT (k n : Nat) : List Value := (List.range n).flatMap fun j => [.string (markOf (k + 3 * j)), .int .i64 ((k + 3 * j + 1 : Nat) : Int), .string (markOf (k + 3 * j + 2))]
theorem markT_succ (k n : Nat) : markT k (n + 1) = markT k n ++ [.string (markOf (k + 3 * n)), .int .i64 ((k + 3 * n + 1 : Nat) : Int), .string (markOf (k + 3 * n + 2))] := by
  unfold markT; rw [List.range_succ, List.flatMap_append]; simp
theorem markT_len (k n : Nat) : (markT k n).length = n * 3 := by
  induction n with
  | zero => rfl
  | succ n ih => rw [markT_succ, List.length_append, ih]; simp; omega

set_option maxHeartbeats 2000000 in
theorem mark_talks (n k g cap base : Nat) (cs : List Value) (w : World) (hk : 0 < k) (hk' : k + 3 * n ≤ 9223372036854775807) (h : Got w base 41 3 g n cap cs) :
    Calls Try.prog 82 #[.slice (some ⟨g, 0, none⟩) n cap, .int .i64 k] w fun e w' => e = .returned (.int .i64 ((k + 3 * n : Nat) : Int)) ∧ Got w' base 41 3 g n cap (markT k n) ∧ w.grownBy w' (some g) := by
  obtain ⟨h1, h2, h3, h4, h5, h6⟩ := h
  have H6 := Lib.hid h6
  have H1 := Lib.hid h1
  unfold maxLen at h3
  clear h6 h1
  go_enter Try.func82, Try.ntmps82
  go_wp2
  go_loopw [1, 5] (fun q i wr => ∃ (j : Nat) (R : List Value), j ≤ n ∧ i = .int .i64 j ∧ q = .int .i64 ((k + 3 * j : Nat) : Int) ∧ Hid ((n = 0 ∧ cap = 0) ∨ wr.ownsRow base 41 3 (.slice (some ⟨g, 0, none⟩) n cap) n (markT k j ++ R)) ∧ Hid (w.grownBy wr (some g))) (fun _ i _ => n - (intOf i).toNat)
  case atStart => exact ⟨0, cs, Nat.zero_le _, rfl, by go_num, Lib.hid (by simpa [markT] using H6.out), Lib.hid (World.grownBy.refl _ _)⟩
  case round =>
    obtain ⟨j, R, hj, rfl, rfl, hr, hg⟩ := hrel
    by_cases hlt : j < n
    · have hown := hr.out.resolve_left (by omega)
      have hlenL := hown.1
      have hlenk := markT_len k j
      obtain ⟨r0, r1, r2, R', rfl⟩ : ∃ r0 r1 r2 R', R = r0 :: r1 :: r2 :: R' := by
        rw [List.length_append, hlenk] at hlenL
        match R, hlenL with
        | r0 :: r1 :: r2 :: R', _ => exact ⟨r0, r1, r2, R', rfl⟩
        | [], h => simp at h; omega
        | [_], h => simp at h; omega
        | [_, _], h => simp at h; omega
      have Hown := Lib.hid hown
      have HlenL := Lib.hid hlenL
      have Hlenk := Lib.hid hlenk
      clear hown hlenL hlenk hr
      go_wp2_with (go_at_call 101; refine (mark_text (k + 3 * j) (by omega) (by omega) _).mono ?_; rintro e w1 ⟨rfl, hb1⟩; refine Hid.out ?_)
      refine Lib.hid ?_
      have hrow1 := owns_later Hown.out hb1
      have hL := HlenL.out
      have hK := Hlenk.out
      have c0 : w1.cell? ⟨g, j * 3, none⟩ = some r0 := by
        rw [World.ownsRow.cellAt hrow1 (j * 3) (by omega), List.getElem?_append_right (by omega), hK]; simp
      have z0 := World.ownsRow.frozenAt hrow1 (j * 3)
      have c1 : w1.cell? ⟨g, j * 3 + 1, none⟩ = some r1 := by
        rw [World.ownsRow.cellAt hrow1 (j * 3 + 1) (by omega), List.getElem?_append_right (by omega), hK, show j * 3 + 1 - j * 3 = 1 by omega]; rfl
      have z1 := World.ownsRow.frozenAt hrow1 (j * 3 + 1)
      have hset := hrow1.stored (j * 3) (.string (markOf (k + 3 * j)))
      have hset1 := hset.1.stored (j * 3 + 1) (.int .i64 ((k + 3 * j + 1 : Nat) : Int))
      have Hset := Lib.hid hset
      have Hset1 := Lib.hid hset1
      have Hb1 := Lib.hid hb1
      clear hrow1 hL hK hset hset1 hb1
      go_wp2_with (go_at_call 101; refine (mark_text (k + 3 * j + 2) (by omega) (by omega) _).mono ?_; rintro e w2 ⟨rfl, hb2⟩; refine Hid.out ?_)
      refine Lib.hid ?_
      have hrow2 := owns_later (Hset1.out.1) hb2
      have hL := HlenL.out
      have hK := Hlenk.out
      have c2 : w2.cell? ⟨g, j * 3 + 2, none⟩ = some r2 := by
        rw [World.ownsRow.cellAt hrow2 (j * 3 + 2) (by omega), List.getElem?_set_ne (by omega), List.getElem?_set_ne (by omega), List.getElem?_append_right (by omega), hK, show j * 3 + 2 - j * 3 = 2 by omega]; rfl
      have z2 := World.ownsRow.frozenAt hrow2 (j * 3 + 2)
      have hset2 := hrow2.stored (j * 3 + 2) (.string (markOf (k + 3 * j + 2)))
      rw [set_three _ _ _ _ _ hK] at hset2
      have Hset2 := Lib.hid hset2
      have Hb2 := Lib.hid hb2
      clear hrow2 hL hK hset2 hb2 c0 z0 c1 z1
      go_wp2_with fail
      go_roundw
      case rel =>
        refine ⟨j + 1, R', by omega, by go_num, by go_num, Lib.hid (.inr ?_), Lib.hid ?_⟩
        · rw [markT_succ, List.append_assoc]
          exact Hset2.out.1
        · have g1 : wr.grownBy w1 (some g) := ⟨Hb1.out.os, Hb1.out.tape, Hb1.out.output, Hb1.out.size, fun k hk _ => Hb1.out.block k hk⟩
          have g3 := Hb2.out
          have g3 : ((w1.setCell ⟨g, j * 3, none⟩ (.string (markOf (k + 3 * j)))).setCell ⟨g, j * 3 + 1, none⟩ (.int .i64 ((k + 3 * j + 1 : Nat) : Int))).grownBy w2 (some g) := ⟨g3.os, g3.tape, g3.output, g3.size, fun k hk _ => g3.block k hk⟩
          exact ((((hg.out.trans g1).trans Hset.out.2).trans Hset1.out.2).trans g3).trans Hset2.out.2
      case measure => simp [intOf]; omega
    · obtain rfl : j = n := by omega
      go_wp2
      go_ret
      refine ⟨ret_int (by simp), ⟨markT_len _ _, h2, by unfold maxLen; exact h3, h4, Nat.lt_of_lt_of_le h5 hg.out.size, ?_⟩, hg.out⟩
      rcases hr.out with h0 | h0
      · exact .inl h0
      · refine .inr ?_
        have hl := h0.1
        rw [List.length_append, markT_len] at hl
        have : R = [] := List.eq_nil_of_length_eq_zero (by omega)
        rw [this, List.append_nil] at h0
        exact h0
end Go.Proofs.Ytkoohmibdaomkaa
