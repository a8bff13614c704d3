/- What the exact laws' copying functions make: rows of their own. Condition: none. -/
import Derived.Test.YtkoohmibdaomkaaForms
import Derived.OwnWalk
import Derived.Laws.OwnMore
namespace Go.Proofs.Ytkoohmibdaomkaa
open Go.RowKit
set_option linter.unusedVariables false

theorem to_item (x : It) (w : World) : Calls Try.prog 43 #[itA x] w fun e w' => e = .returned (itA x) ∧ Below w.heap.size w w' := by
  unfold itA
  go_enter Try.func43, Try.ntmps43
  go_wp2
  refine bodyPost_ret (v := .agg #[.string x.k, .string x.v]) (by simp [results, Try.results43, go_sem]) rfl ⟨rfl, ?_⟩
  exact (((Below.refl _ _).alloc (Nat.le_refl _) _).alloc (by simp) _).alloc (by simp; omega) _

theorem to_talk (x : Tk) (w : World) : Calls Try.prog 47 #[tkA x] w fun e w' => e = .returned (tkA x) ∧ Below w.heap.size w w' := by
  unfold tkA
  go_enter Try.func47, Try.ntmps47
  go_wp2
  refine bodyPost_ret (v := .agg #[.string x.c, .int .i64 x.q, .string x.r]) (by simp [results, Try.results47, go_sem]) rfl ⟨rfl, ?_⟩
  exact (((Below.refl _ _).alloc (Nat.le_refl _) _).alloc (by simp) _).alloc (by simp; omega) _

set_option maxHeartbeats 2000000 in
theorem to_items (xs : List It) (v : Value) (B : Nat) (w : World) (hr : Raw w B v xs.length (xs.flatMap itC)) (hB : B ≤ w.heap.size) (hl : xs.length ≤ 1048576) :
    Calls Try.prog 77 #[v] w fun e w' => ∃ v', e = .returned v' ∧ w'.ownsRow w.heap.size 29 2 v' xs.length (xs.flatMap itC) ∧ (∃ g, v' = .slice (some ⟨g, 0, none⟩) xs.length xs.length) ∧ Below w.heap.size w w' := by
  obtain ⟨i0, hi, hz0, hz1, hz2⟩ := info_parts infoIt
  obtain ⟨a, cap, rfl, hn, hcap, _, hat⟩ := hr
  obtain ⟨n, hN⟩ : ∃ n, n = xs.length := ⟨_, rfl⟩
  rw [← hN] at hn hat hl ⊢
  have HN := Lib.hid hN
  have Hat := Lib.hid hat
  unfold maxLen at hcap
  clear hN hat
  obtain ⟨w1, hmk, hown, hgr⟩ := run_make_full (P := Try.prog) w w.heap.size 24 29 i0 _ 2 Try.underlying24 hi hz0 hz1 .i64 .i64 n (by rw [hz2]; omega) (by unfold maxLen; omega) (Nat.le_refl _)
  have hb1 : Below w.heap.size w w1 := (Below.refl _ _).grown hgr (Nat.le_refl _) (fun k hk => by cases hk)
  obtain ⟨G, hG⟩ : ∃ G, G = w.heap.size := ⟨_, rfl⟩
  have Hown := Lib.hid hown
  have Hb1 := Lib.hid hb1
  rw [← hG] at hmk
  clear hown hgr hb1 hi hz0 hz1 hz2
  go_enter Try.func77, Try.ntmps77
  go_wp2
  go_loopw [4] (fun i wr => ∃ (k : Nat) (R : List Value), k ≤ n ∧ i = .int .i64 k ∧ Hid (wr.ownsRow w.heap.size 29 2 (.slice (some ⟨w.heap.size, 0, none⟩) n n) n ((xs.take k).flatMap itC ++ R)) ∧ Hid (Below w.heap.size w wr)) (fun i _ => n - (intOf i).toNat)
  case atStart => exact ⟨0, _, Nat.zero_le _, rfl, Lib.hid (by simpa using Hown.out), Hb1⟩
  case round =>
    obtain ⟨k, R, hk, rfl, hrow, hbw⟩ := hrel
    by_cases hlt : k < n
    · obtain ⟨g, o, ha, hg, hAt⟩ := Hat.out (by omega)
      subst ha
      have hkl : k < xs.length := by have := HN.out; omega
      obtain ⟨x, hx⟩ : ∃ x, x = xs[k] := ⟨_, rfl⟩
      have hgw : g < w.heap.size := by omega
      have hc := hAt.item k hkl
      rw [← hx] at hc
      simp only [← hbw.out.cell (p := ⟨g, o + k * 2, none⟩) hgw, ← hbw.out.cell (p := ⟨g, o + k * 2 + 1, none⟩) hgw] at hc
      have hlenL : ((xs.take k).flatMap itC ++ R).length = n * 2 := hrow.out.1
      have hlenk : ((xs.take k).flatMap itC).length = k * 2 := by rw [flat_len_it, List.length_take, Nat.min_eq_left (by omega)]
      obtain ⟨r0, r1, R', rfl⟩ : ∃ r0 r1 R', R = r0 :: r1 :: R' := by
        rw [List.length_append, hlenk] at hlenL
        match R, hlenL with
        | r0 :: r1 :: R', _ => exact ⟨r0, r1, R', rfl⟩
        | [], h => simp at h; omega
        | [_], h => simp at h; omega
      have htake : (xs.take (k + 1)).flatMap itC = (xs.take k).flatMap itC ++ itC x := by
        rw [List.take_succ_eq_append_getElem hkl, List.flatMap_append, ← hx]; simp
      have Htake := Lib.hid htake
      have Hlenk := Lib.hid hlenk
      have HlenL := Lib.hid hlenL
      have Hat' := Lib.hid hAt
      clear hx hAt Hat htake hlenk hlenL
      obtain ⟨hc0, hc1⟩ := hc
      have hsz := hbw.out.size
      go_wp2_with (go_at_call 43; refine (to_item x _).mono ?_; rintro e w2 ⟨rfl, hb2⟩; refine Hid.out ?_)
      refine Lib.hid ?_
      have hrow2 := hrow.out.kept (w' := w2) (row := none) ⟨hb2.os, hb2.tape, hb2.output, hb2.size, fun j hj _ => hb2.block j hj⟩ (Or.inr (by simp [Value.ownBlock]))
      have hb3 := hbw.out.trans (hb2.mono hsz)
      have hL := HlenL.out
      have hK := Hlenk.out
      have c0 : w2.cell? ⟨w.heap.size, k * 2, none⟩ = some r0 := by
        rw [World.ownsRow.cellAt hrow2 (k * 2) (by omega), List.getElem?_append_right (by omega), hK]; simp
      have c1 : w2.cell? ⟨w.heap.size, k * 2 + 1, none⟩ = some r1 := by
        rw [World.ownsRow.cellAt hrow2 (k * 2 + 1) (by omega), List.getElem?_append_right (by omega), hK, show k * 2 + 1 - k * 2 = 1 by omega]; rfl
      have z0 := World.ownsRow.frozenAt hrow2 (k * 2)
      have z1 := World.ownsRow.frozenAt hrow2 (k * 2 + 1)
      have Hrow2 := Lib.hid hrow2
      have Hb3 := Lib.hid hb3
      clear hrow2 hb3 hL hK
      unfold itA
      go_wp2_with fail
      go_roundw
      case rel =>
        refine ⟨k + 1, R', by omega, by go_num, Lib.hid ?_, Lib.hid ?_⟩
        · rw [Htake.out, List.append_assoc]
          have h := ((Hrow2.out.stored (k * 2) (.string x.k)).1.stored (k * 2 + 1) (.string x.v)).1
          rw [set_two _ _ _ _ _ Hlenk.out] at h
          exact h
        · exact (Hb3.out.setCell (p := ⟨w.heap.size, k * 2, none⟩) (Nat.le_refl _) _).setCell (p := ⟨w.heap.size, k * 2 + 1, none⟩) (Nat.le_refl _) _
      case measure => simp [intOf]; omega
    · have hR : R = [] := by
        have h1 := hrow.out.1
        rw [List.length_append, flat_len_it, List.length_take] at h1
        have h2 := HN.out
        exact List.eq_nil_of_length_eq_zero (by omega)
      have hT : xs.take k = xs := List.take_of_length_le (by have := HN.out; omega)
      have hrow := hrow.out
      rw [hR, hT, List.append_nil] at hrow
      have Hrow := Lib.hid hrow
      clear hrow hR hT
      go_wp2
      go_ret
      exact ⟨_, rfl, Hrow.out, ⟨_, rfl⟩, hbw.out⟩

set_option maxHeartbeats 2000000 in
theorem to_talks (xs : List Tk) (v : Value) (B : Nat) (w : World) (hr : Raw w B v xs.length (xs.flatMap tkC)) (hB : B ≤ w.heap.size) (hl : xs.length ≤ 1048576) :
    Calls Try.prog 78 #[v] w fun e w' => ∃ v', e = .returned v' ∧ w'.ownsRow w.heap.size 41 3 v' xs.length (xs.flatMap tkC) ∧ (∃ g, v' = .slice (some ⟨g, 0, none⟩) xs.length xs.length) ∧ Below w.heap.size w w' := by
  obtain ⟨i0, hi, hz0, hz1, hz2⟩ := info_parts infoTk
  obtain ⟨a, cap, rfl, hn, hcap, _, hat⟩ := hr
  obtain ⟨n, hN⟩ : ∃ n, n = xs.length := ⟨_, rfl⟩
  rw [← hN] at hn hat hl ⊢
  have HN := Lib.hid hN
  have Hat := Lib.hid hat
  unfold maxLen at hcap
  clear hN hat
  obtain ⟨w1, hmk, hown, hgr⟩ := run_make_full (P := Try.prog) w w.heap.size 25 41 i0 _ 3 Try.underlying25 hi hz0 hz1 .i64 .i64 n (by rw [hz2]; omega) (by unfold maxLen; omega) (Nat.le_refl _)
  have hb1 : Below w.heap.size w w1 := (Below.refl _ _).grown hgr (Nat.le_refl _) (fun k hk => by cases hk)
  obtain ⟨G, hG⟩ : ∃ G, G = w.heap.size := ⟨_, rfl⟩
  have Hown := Lib.hid hown
  have Hb1 := Lib.hid hb1
  rw [← hG] at hmk
  clear hown hgr hb1 hi hz0 hz1 hz2
  go_enter Try.func78, Try.ntmps78
  go_wp2
  go_loopw [4] (fun i wr => ∃ (k : Nat) (R : List Value), k ≤ n ∧ i = .int .i64 k ∧ Hid (wr.ownsRow w.heap.size 41 3 (.slice (some ⟨w.heap.size, 0, none⟩) n n) n ((xs.take k).flatMap tkC ++ R)) ∧ Hid (Below w.heap.size w wr)) (fun i _ => n - (intOf i).toNat)
  case atStart => exact ⟨0, _, Nat.zero_le _, rfl, Lib.hid (by simpa using Hown.out), Hb1⟩
  case round =>
    obtain ⟨k, R, hk, rfl, hrow, hbw⟩ := hrel
    by_cases hlt : k < n
    · obtain ⟨g, o, ha, hg, hAt⟩ := Hat.out (by omega)
      subst ha
      have hkl : k < xs.length := by have := HN.out; omega
      obtain ⟨x, hx⟩ : ∃ x, x = xs[k] := ⟨_, rfl⟩
      have hgw : g < w.heap.size := by omega
      have hc := hAt.talk k hkl
      rw [← hx] at hc
      simp only [← hbw.out.cell (p := ⟨g, o + k * 3, none⟩) hgw, ← hbw.out.cell (p := ⟨g, o + k * 3 + 1, none⟩) hgw, ← hbw.out.cell (p := ⟨g, o + k * 3 + 2, none⟩) hgw] at hc
      have hlenL : ((xs.take k).flatMap tkC ++ R).length = n * 3 := hrow.out.1
      have hlenk : ((xs.take k).flatMap tkC).length = k * 3 := by rw [flat_len_tk, List.length_take, Nat.min_eq_left (by omega)]
      obtain ⟨r0, r1, r2, R', rfl⟩ : ∃ r0 r1 r2 R', R = r0 :: r1 :: r2 :: R' := by
        rw [List.length_append, hlenk] at hlenL
        match R, hlenL with
        | r0 :: r1 :: r2 :: R', _ => exact ⟨r0, r1, r2, R', rfl⟩
        | [], h => simp at h; omega
        | [_], h => simp at h; omega
        | [_, _], h => simp at h; omega
      have htake : (xs.take (k + 1)).flatMap tkC = (xs.take k).flatMap tkC ++ tkC x := by
        rw [List.take_succ_eq_append_getElem hkl, List.flatMap_append, ← hx]; simp
      have Htake := Lib.hid htake
      have Hlenk := Lib.hid hlenk
      have HlenL := Lib.hid hlenL
      have Hat' := Lib.hid hAt
      clear hx hAt Hat htake hlenk hlenL
      obtain ⟨hc0, hc1, hc2⟩ := hc
      have hsz := hbw.out.size
      go_wp2_with (go_at_call 47; refine (to_talk x _).mono ?_; rintro e w2 ⟨rfl, hb2⟩; refine Hid.out ?_)
      refine Lib.hid ?_
      have hrow2 := hrow.out.kept (w' := w2) (row := none) ⟨hb2.os, hb2.tape, hb2.output, hb2.size, fun j hj _ => hb2.block j hj⟩ (Or.inr (by simp [Value.ownBlock]))
      have hb3 := hbw.out.trans (hb2.mono hsz)
      have hL := HlenL.out
      have hK := Hlenk.out
      have c0 : w2.cell? ⟨w.heap.size, k * 3, none⟩ = some r0 := by
        rw [World.ownsRow.cellAt hrow2 (k * 3) (by omega), List.getElem?_append_right (by omega), hK]; simp
      have c1 : w2.cell? ⟨w.heap.size, k * 3 + 1, none⟩ = some r1 := by
        rw [World.ownsRow.cellAt hrow2 (k * 3 + 1) (by omega), List.getElem?_append_right (by omega), hK, show k * 3 + 1 - k * 3 = 1 by omega]; rfl
      have c2 : w2.cell? ⟨w.heap.size, k * 3 + 2, none⟩ = some r2 := by
        rw [World.ownsRow.cellAt hrow2 (k * 3 + 2) (by omega), List.getElem?_append_right (by omega), hK, show k * 3 + 2 - k * 3 = 2 by omega]; rfl
      have z0 := World.ownsRow.frozenAt hrow2 (k * 3)
      have z1 := World.ownsRow.frozenAt hrow2 (k * 3 + 1)
      have z2 := World.ownsRow.frozenAt hrow2 (k * 3 + 2)
      have Hrow2 := Lib.hid hrow2
      have Hb3 := Lib.hid hb3
      clear hrow2 hb3 hL hK
      unfold tkA
      go_wp2_with fail
      go_roundw
      case rel =>
        refine ⟨k + 1, R', by omega, by go_num, Lib.hid ?_, Lib.hid ?_⟩
        · rw [Htake.out, List.append_assoc]
          have h := (((Hrow2.out.stored (k * 3) (.string x.c)).1.stored (k * 3 + 1) (.int .i64 x.q)).1.stored (k * 3 + 2) (.string x.r)).1
          rw [set_three _ _ _ _ _ Hlenk.out] at h
          exact h
        · exact ((Hb3.out.setCell (p := ⟨w.heap.size, k * 3, none⟩) (Nat.le_refl _) _).setCell (p := ⟨w.heap.size, k * 3 + 1, none⟩) (Nat.le_refl _) _).setCell (p := ⟨w.heap.size, k * 3 + 2, none⟩) (Nat.le_refl _) _
      case measure => simp [intOf]; omega
    · have hR : R = [] := by
        have h1 := hrow.out.1
        rw [List.length_append, flat_len_tk, List.length_take] at h1
        have h2 := HN.out
        exact List.eq_nil_of_length_eq_zero (by omega)
      have hT : xs.take k = xs := List.take_of_length_le (by have := HN.out; omega)
      have hrow := hrow.out
      rw [hR, hT, List.append_nil] at hrow
      have Hrow := Lib.hid hrow
      clear hrow hR hT
      go_wp2
      go_ret
      exact ⟨_, rfl, Hrow.out, ⟨_, rfl⟩, hbw.out⟩
end Go.Proofs.Ytkoohmibdaomkaa
