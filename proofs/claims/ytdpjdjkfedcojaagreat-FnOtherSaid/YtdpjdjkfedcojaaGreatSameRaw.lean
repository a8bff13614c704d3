/- The laws' sameTexts on equal rows; rows of texts told as rows that may be read. Condition: none. -/
import Derived.Test.YtdpjdjkfedcojaaGreatBaseA
import Derived.Deep.RegionHeld
namespace Go.Proofs.YtdpjdjkfedcojaaGreat
open Go.RowKit
set_option linter.unusedVariables false
set_option linter.unusedSimpArgs false

theorem texts_raw {w : World} {B : Nat} {v : Value} {xs : List ByteArray} (h : Texts w B v xs) : ∃ a cap, v = .slice a xs.length cap ∧ Raw w w.heap.size v xs.length (xs.map Value.string) := by
  obtain ⟨hl, ⟨rfl, h0⟩ | ⟨g, cap, cur, rfl, hg, hh, hc, hm, hs, ht⟩⟩ := id h
  · obtain rfl : xs = [] := List.eq_nil_of_length_eq_zero h0
    exact ⟨none, 0, rfl, none, 0, rfl, Nat.le_refl _, Nat.zero_le _, fun _ => rfl, fun h => absurd h (Nat.lt_irrefl _)⟩
  · refine ⟨_, cap, rfl, _, cap, rfl, hc, hm, (fun h => by cases h), fun h0 => ⟨g, 0, rfl, (World.ownsRow.lt h g rfl).2, fun j u hu => ?_⟩⟩
    have := World.ownsRow.cells h (g := g) rfl j u hu
    rwa [add_flat] at this
set_option maxHeartbeats 2000000 in
theorem same_raw (xs : List ByteArray) (va vb : Value) (B : Nat) (w : World) (ha : Raw w B va xs.length (xs.map Value.string)) (hb : Raw w B vb xs.length (xs.map Value.string)) (hB : B ≤ w.heap.size) :
    Calls Tryz.prog 12 #[va, vb] w fun e w' => e = .returned (.bool true) ∧ Below w.heap.size w w' := by
  obtain ⟨a, ca, rfl, hna, hca, _, hata⟩ := ha
  obtain ⟨b, cb, rfl, hnb, hcb, _, hatb⟩ := hb
  obtain ⟨n, hN⟩ : ∃ n, n = xs.length := ⟨_, rfl⟩
  rw [← hN] at hna hnb hata hatb ⊢
  have HN := Lib.hid hN
  have Hata := Lib.hid hata
  have Hatb := Lib.hid hatb
  unfold maxLen at hca hcb
  clear hN hata hatb
  go_enter Tryz.func12, Tryz.ntmps12
  go_wp2
  go_loopw [5] (fun i wr => ∃ k : Nat, k ≤ n ∧ i = .int .i64 k ∧ Hid (Below w.heap.size w wr)) (fun i _ => n - (intOf i).toNat)
  case atStart => exact ⟨0, Nat.zero_le _, rfl, Lib.hid (Below.refl _ _)⟩
  case round =>
    obtain ⟨k, hk, rfl, hbw⟩ := hrel
    by_cases hlt : k < n
    · obtain ⟨g, o, ha, hg, hAt⟩ := Hata.out (by omega)
      obtain ⟨g', o', ha', hg', hAt'⟩ := Hatb.out (by omega)
      subst ha; subst ha'
      have hkx : k < xs.length := by have := HN.out; omega
      obtain ⟨x, hx⟩ : ∃ x, x = xs[k] := ⟨_, rfl⟩
      have hcx : (xs.map Value.string)[k]? = some (.string x) := by rw [List.getElem?_map, List.getElem?_eq_getElem hkx, ← hx]; rfl
      have HA : Hid (∀ w', Below w.heap.size w w' → w'.cell? ⟨g, o + k, none⟩ = some (.string x)) := Lib.hid (fun w' h => by rw [h.cell (show g < w.heap.size by omega)]; exact hAt k _ hcx)
      have HB : Hid (∀ w', Below w.heap.size w w' → w'.cell? ⟨g', o' + k, none⟩ = some (.string x)) := Lib.hid (fun w' h => by rw [h.cell (show g' < w.heap.size by omega)]; exact hAt' k _ hcx)
      have hlt' : (k : Int) < (n : Int) := by omega
      have hxx : (x.toList != x.toList) = false := by simp
      clear hx hcx hAt hAt' Hata Hatb
      go_wp2_with fail
      refine wp_region_held_drew (S := (fun w' => Below w.heap.size w w')) (by kernel_rfl) ((show Below w.heap.size w wr from hbw.out).drew) (fun hHeld => ?_)
      refine tk0 0 ?_
      refine tk0 1 ?_
      refine tk0 2 ?_
      refine tk 3 (v := ?_) ?_ ?_; rotate_left
      · refine Or.inl ⟨by rfl, ?_⟩; intro w hSw; have f0 := HA.out w hSw; go_simp; first | done | with_reducible rfl
      refine tk0 4 ?_
      refine tk0 5 ?_
      refine tk0 6 ?_
      refine tk 7 (v := ?_) ?_ ?_; rotate_left
      · refine Or.inl ⟨by rfl, ?_⟩; intro w hSw; have f1 := HB.out w hSw; go_simp; first | done | with_reducible rfl
      refine tk0 8 ?_
      refine wpAnyH_done (by kernel_rfl) ?_ _
      go_wp2_with fail
      go_roundw
      case rel => exact ⟨k + 1, by omega, by go_num, Lib.hid hHeld⟩
      case measure => simp [intOf]; omega
    · go_wp2
      go_ret
      exact ⟨rfl, hbw.out⟩
end Go.Proofs.YtdpjdjkfedcojaaGreat
