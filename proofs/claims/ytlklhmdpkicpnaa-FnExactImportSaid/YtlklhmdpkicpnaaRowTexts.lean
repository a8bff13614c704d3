/- A row of texts that came in: its size, its copy. Condition: none. -/
import Derived.Test.YtlklhmdpkicpnaaTexts
import Derived.Test.YtlklhmdpkicpnaaBaseA
import Derived.OwnWalk
import Derived.Laws.OwnMore
namespace Go.Proofs.Ytlklhmdpkicpnaa
open Go.RowKit
set_option linter.unusedVariables false
set_option linter.unusedSimpArgs false

theorem infoTx : (Try.prog.info? 9).map (fun i => (i.zero, i.size, i.bytes)) = some (some (.string ⟨#[]⟩), 1, 16) := by kernel_rfl
/-- A row of texts that can be read. -/
def RawX (w : World) (B : Nat) (v : Value) (xs : List ByteArray) : Prop := Raw w B v xs.length (xs.map Value.string) ∧ ∀ x ∈ xs, x.size ≤ maxLen
theorem RawX.later {w w' : World} {B : Nat} {v : Value} {xs : List ByteArray} (h : RawX w B v xs) (hb : Below B w w') : RawX w' B v xs := ⟨h.1.later hb (Nat.le_refl _), h.2⟩
theorem RawX.len {w : World} {B : Nat} {v : Value} {xs : List ByteArray} (h : RawX w B v xs) : xs.length ≤ 9223372036854775807 := by
  obtain ⟨a, cap, _, h1, h2, _⟩ := h.1
  unfold maxLen at h2
  omega
theorem RawX.cells {w : World} {B : Nat} {v : Value} {xs : List ByteArray} (h : RawX w B v xs) : ∃ a cap, v = .slice a xs.length cap ∧ (0 < xs.length → ∃ g o, a = some ⟨g, o, none⟩ ∧ g < B ∧ ∀ k (hk : k < xs.length), w.cell? ⟨g, o + k, none⟩ = some (.string xs[k])) := by
  obtain ⟨a, cap, rfl, _, _, _, hA⟩ := h.1
  refine ⟨a, cap, rfl, fun h0 => ?_⟩
  obtain ⟨g, o, rfl, hg, hAt⟩ := hA h0
  exact ⟨g, o, rfl, hg, fun k hk => hAt k _ (by simp [hk])⟩
set_option maxHeartbeats 1000000 in
theorem sz_texts (xs : List ByteArray) (v : Value) (B : Nat) (w : World) (hr : RawX w B v xs) :
    Calls Try.prog 54 #[v, .int .i64 1048576] w fun e w' => ∃ r : Int, e = .returned (.int .i64 r) ∧ (0 ≤ r → xs.length ≤ 1048576 ∧ ∀ x ∈ xs, x.size ≤ 1048576) ∧ w = w' := by
  have hlen := hr.len
  obtain ⟨a, cap, rfl, hA⟩ := hr.cells
  have hx := hr.2
  unfold maxLen at hx
  obtain ⟨n, hN⟩ : ∃ n, n = xs.length := ⟨_, rfl⟩
  rw [← hN] at hlen ⊢
  by_cases h0 : 1048576 - (n : Int) < 0
  · clear hr hA hN hx
    go_enter Try.func54, Try.ntmps54
    go_wp2
    go_ret
    exact ⟨-1, ret_int rfl, fun h => by omega, rfl⟩
  · have HN := Lib.hid hN
    have HA := Lib.hid hA
    have Hx := Lib.hid hx
    clear hr hA hN hx
    go_enter Try.func54, Try.ntmps54
    go_wp2
    go_loop [1, 5] (fun l i => ∃ (k : Nat) (r : Int), k ≤ n ∧ i = .int .i64 k ∧ l = .int .i64 r ∧ 0 ≤ r ∧ r ≤ 1048576 ∧ Hid (∀ j (hj : j < xs.length), j < k → xs[j].size ≤ 1048576)) (fun _ i => n - (intOf i).toNat)
    case atStart => exact ⟨0, _, Nat.zero_le _, rfl, rfl, by omega, by omega, Lib.hid (fun j _ h => absurd h (Nat.not_lt_zero _))⟩
    case round =>
      obtain ⟨k, r, hk, rfl, rfl, hr0, hr1, HK⟩ := hrel
      by_cases hlt : k < n
      · have hkl : k < xs.length := by have := HN.out; omega
        obtain ⟨g, o, ha, hg, hc⟩ := HA.out (by omega)
        subst ha
        have hck := hc k hkl
        have hxk := Hx.out _ (List.getElem_mem hkl)
        obtain ⟨t, ht⟩ : ∃ t, t = xs[k] := ⟨_, rfl⟩
        rw [← ht] at hck hxk
        have HT := Lib.hid ht
        clear ht hc
        by_cases hs : r - (t.size : Int) < 0
        · go_wp2
          go_ret
          exact ⟨-1, ret_int rfl, fun h => by omega, rfl⟩
        · have hnext : Hid (∀ j (hj : j < xs.length), j < k + 1 → xs[j].size ≤ 1048576) := Lib.hid (fun j hj hjk => by
            rcases Nat.lt_or_ge j k with h | h
            · exact HK.out j hj h
            · obtain rfl : j = k := by omega
              rw [← HT.out]; omega)
          go_wp2
          go_round
          case rel => exact ⟨k + 1, r - t.size, by omega, by go_num, rfl, by omega, by omega, hnext⟩
          case measure => simp [intOf]; omega
      · go_wp2
        go_ret
        refine ⟨r, ret_int rfl, fun _ => ⟨by omega, fun x hx => ?_⟩, rfl⟩
        obtain ⟨j, hj, rfl⟩ := List.getElem_of_mem hx
        exact HK.out j hj (by have := HN.out; omega)
/-- The first k texts copied. -/
def copyUpto (xs : List ByteArray) (k : Nat) : List ByteArray := xs.take k ++ List.replicate (xs.length - k) ⟨#[]⟩
theorem copy_len (xs : List ByteArray) (k : Nat) (hk : k ≤ xs.length) : (copyUpto xs k).length = xs.length := by
  unfold copyUpto; rw [List.length_append, List.length_take, List.length_replicate]; omega
theorem copy_zero (xs : List ByteArray) : copyUpto xs 0 = List.replicate xs.length ⟨#[]⟩ := by unfold copyUpto; simp
theorem copy_all (xs : List ByteArray) : copyUpto xs xs.length = xs := by unfold copyUpto; simp
theorem copy_step (xs : List ByteArray) (k : Nat) (hk : k < xs.length) : (copyUpto xs k).set k xs[k] = copyUpto xs (k + 1) := by
  unfold copyUpto
  have hl : (xs.take k).length = k := by rw [List.length_take]; omega
  rw [List.set_append_right _ _ (by omega), hl, Nat.sub_self, show xs.length - k = (xs.length - (k + 1)) + 1 by omega, List.replicate_succ, List.set_cons_zero, List.take_succ_eq_append_getElem hk, List.append_assoc]
  rfl
set_option maxHeartbeats 2000000 in
theorem to_texts (xs : List ByteArray) (v : Value) (B : Nat) (w : World) (hr : RawX w B v xs) (hB : B ≤ w.heap.size) (hl : xs.length ≤ 1048576) :
    Calls Try.prog 55 #[v] w fun e w' => ∃ v', e = .returned v' ∧ Texts w' w.heap.size v' xs ∧ (∃ g, v' = .slice (some ⟨g, 0, none⟩) xs.length xs.length) ∧ Below w.heap.size w w' := by
  obtain ⟨i0, hi, hz0, hz1, hz2⟩ := info_parts infoTx
  obtain ⟨a, cap, rfl, hA⟩ := hr.cells
  obtain ⟨n, hN⟩ : ∃ n, n = xs.length := ⟨_, rfl⟩
  rw [← hN] at hl ⊢
  have HN := Lib.hid hN
  have HA := Lib.hid hA
  obtain ⟨w1, hmk, hown, hgr⟩ := run_make_full (P := Try.prog) w w.heap.size 34 9 i0 _ 1 Try.underlying34 hi hz0 hz1 .i64 .i64 n (by rw [hz2]; omega) (by unfold maxLen; omega) (Nat.le_refl _)
  have hb1 : Below w.heap.size w w1 := (Below.refl _ _).grown hgr (Nat.le_refl _) (fun k hk => by cases hk)
  have hrow : w1.ownsRow w.heap.size 9 1 (.slice (some ⟨w.heap.size, 0, none⟩) n n) n ((copyUpto xs 0).map Value.string) := by
    rw [Nat.mul_one] at hown
    have e : (madeCells (Value.string ⟨#[]⟩).cells n).toList = (copyUpto xs 0).map Value.string := by
      rw [show (Value.string ⟨#[]⟩).cells = #[Value.string ⟨#[]⟩] from rfl, toList_madeCells_one, copy_zero, ← hN]; simp
    rw [e] at hown
    simpa using hown
  have Hrow := Lib.hid hrow
  have Hb1 := Lib.hid hb1
  clear hown hgr hb1 hi hz0 hz1 hz2 hrow hA hr hN
  go_enter Try.func55, Try.ntmps55
  go_wp2
  go_loopw [4] (fun i wr => ∃ k : Nat, k ≤ n ∧ i = .int .i64 k ∧ Hid (wr.ownsRow w.heap.size 9 1 (.slice (some ⟨w.heap.size, 0, none⟩) n n) n ((copyUpto xs k).map Value.string)) ∧ Hid (Below w.heap.size w wr)) (fun i _ => n - (intOf i).toNat)
  case atStart => exact ⟨0, Nat.zero_le _, rfl, Hrow, Hb1⟩
  case round =>
    obtain ⟨k, hk, rfl, hrow, hbw⟩ := hrel
    by_cases hlt : k < n
    · have hkl : k < xs.length := by have := HN.out; omega
      obtain ⟨g, o, ha, hg, hc⟩ := HA.out (by omega)
      subst ha
      have hck : wr.cell? ⟨g, o + k, none⟩ = some (.string xs[k]) := ((hbw.out.mono hB).cell (p := ⟨g, o + k, none⟩) hg).trans (hc k hkl)
      obtain ⟨t, ht⟩ : ∃ t, t = xs[k] := ⟨_, rfl⟩
      have hnx := copy_step xs k hkl
      rw [← ht] at hck hnx
      have HNX := Lib.hid hnx
      clear ht hc hnx
      have hst := Lib.hid (World.ownsRow.stored hrow.out k (.string t)).1
      have hcell := World.ownsRow.cellAt hrow.out k (by omega)
      have hlk : ((copyUpto xs k).map Value.string).length = n := by rw [List.length_map, copy_len xs k (by omega)]; exact HN.out.symm
      have hfz : wr.frozen? ⟨w.heap.size, k, none⟩ = false := by
        obtain ⟨_, h | ⟨g', cap', cur, hv, _, hh, _⟩⟩ := hrow.out
        · cases h.1
        · cases hv; simp [World.frozen?, hh]
      obtain ⟨u, hu⟩ : ∃ u, ((copyUpto xs k).map Value.string)[k]? = some u := ⟨_, List.getElem?_eq_getElem (by omega)⟩
      rw [hu] at hcell
      clear hu hlk
      go_wp2
      go_roundw
      case rel => exact ⟨k + 1, by omega, by go_num, by rw [← HNX.out, List.map_set]; exact hst, Lib.hid (hbw.out.setCell (p := ⟨w.heap.size, k, none⟩) (Nat.le_refl _) _)⟩
      case measure => simp [intOf]; omega
    · have hkn : k = n := by omega
      subst hkn
      have hfin : Hid (Texts wr w.heap.size (.slice (some ⟨w.heap.size, 0, none⟩) k k) xs) := Lib.hid (by
        have h := hrow.out
        unfold Texts
        rw [← HN.out]
        rw [HN.out, copy_all, ← HN.out] at h
        exact h)
      go_wp2
      go_ret
      exact ⟨_, rfl, hfin.out, ⟨_, rfl⟩, hbw.out⟩
end Go.Proofs.Ytlklhmdpkicpnaa
