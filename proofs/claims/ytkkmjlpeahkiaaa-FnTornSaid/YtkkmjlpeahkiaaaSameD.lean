/- Rows of texts as a law compares them; what is recovered stays right. Condition: none. -/
import Derived.Test.YtkkmjlpeahkiaaaSplitPlain
import Derived.Test.YtkkmjlpeahkiaaaTk
import Derived.Deep.RegionHeld
import Derived.Test.YtkkmjlpeahkiaaaDkBox
namespace Go.Proofs.Ytkkmjlpeahkiaaa
open Go.RowKit
set_option linter.unusedVariables false
set_option linter.unusedSimpArgs false

/-- A row of texts that may be read, its block below B. -/
def TxAt (w : World) (B : Nat) (v : Value) (xs : List ByteArray) : Prop := xs.length ≤ maxLen ∧ ∃ a cap, v = .slice a xs.length cap ∧ (0 < xs.length → ∃ g o, a = some ⟨g, o, none⟩ ∧ g < B ∧ ∀ k (hk : k < xs.length), w.cell? ⟨g, o + k, none⟩ = some (.string xs[k]))
theorem TxAt.later {w w' : World} {B : Nat} {v : Value} {xs : List ByteArray} (h : TxAt w B v xs) (hb : Below B w w') : TxAt w' B v xs := by
  obtain ⟨h1, a, cap, e, hA⟩ := h
  refine ⟨h1, a, cap, e, fun h0 => ?_⟩
  obtain ⟨g, o, ha, hg, hc⟩ := hA h0
  exact ⟨g, o, ha, hg, fun k hk => by rw [hb.cell (show g < B from hg)]; exact hc k hk⟩
theorem texts_at {w : World} {B : Nat} {v : Value} {xs : List ByteArray} (h : Texts w B v xs) : TxAt w w.heap.size v xs := by
  rcases h.form with ⟨rfl, rfl⟩ | ⟨g, cap, rfl, hg, hgl, hm, hc, _⟩
  · exact ⟨Nat.zero_le _, none, 0, rfl, fun h => absurd h (Nat.lt_irrefl _)⟩
  · exact ⟨hm, _, cap, rfl, fun _ => ⟨g, 0, rfl, hgl, fun k hk => by rw [Nat.zero_add]; exact hc k hk⟩⟩
theorem texts_shape {w : World} {B : Nat} {v : Value} {xs : List ByteArray} (h : Texts w B v xs) : ∃ a cap, v = .slice a xs.length cap := by
  obtain ⟨_, a, cap, e, _⟩ := texts_at h
  exact ⟨a, cap, e⟩
set_option maxHeartbeats 2000000 in
theorem same_at (xs : List ByteArray) (va vb : Value) (B : Nat) (w : World) (ha : TxAt w B va xs) (hb : TxAt w B vb xs) (hB : B ≤ w.heap.size) :
    Calls Try.prog 47 #[va, vb] w fun e w' => e = .returned (.bool true) ∧ Below w.heap.size w w' := by
  obtain ⟨hm, a, ca, rfl, hata⟩ := ha
  obtain ⟨_, b, cb, rfl, hatb⟩ := hb
  obtain ⟨n, hN⟩ : ∃ n, n = xs.length := ⟨_, rfl⟩
  rw [← hN] at hm ⊢
  have HN := Lib.hid hN
  have Hata := Lib.hid hata
  have Hatb := Lib.hid hatb
  unfold maxLen at hm
  clear hN hata hatb
  go_enter Try.func47, Try.ntmps47
  go_wp2
  go_loopw [5] (fun i wr => ∃ k : Nat, k ≤ n ∧ i = .int .i64 k ∧ Hid (Below w.heap.size w wr)) (fun i _ => n - (intOf i).toNat)
  case atStart => exact ⟨0, Nat.zero_le _, rfl, Lib.hid (Below.refl _ _)⟩
  case round =>
    obtain ⟨k, hk, rfl, hbw⟩ := hrel
    by_cases hlt : k < n
    · have hkx : k < xs.length := by have := HN.out; omega
      obtain ⟨g, o, ha, hg, hAt⟩ := Hata.out (by omega)
      obtain ⟨g', o', ha', hg', hAt'⟩ := Hatb.out (by omega)
      subst ha; subst ha'
      have hA1 := hAt k hkx
      have hB1 := hAt' k hkx
      obtain ⟨x, hx⟩ : ∃ x, x = xs[k] := ⟨_, rfl⟩
      rw [← hx] at hA1 hB1
      have HA : Hid (∀ w', Below w.heap.size w w' → w'.cell? ⟨g, o + k, none⟩ = some (.string x)) := Lib.hid (fun w' h => by rw [h.cell (show g < w.heap.size by omega)]; exact hA1)
      have HB : Hid (∀ w', Below w.heap.size w w' → w'.cell? ⟨g', o' + k, none⟩ = some (.string x)) := Lib.hid (fun w' h => by rw [h.cell (show g' < w.heap.size by omega)]; exact hB1)
      have hlt' : (k : Int) < (n : Int) := by omega
      have hxx : (x.toList != x.toList) = false := by simp
      clear hx hA1 hB1 hAt hAt' Hata Hatb
      go_wp2_with fail
      refine wp_region_held_drew (S := (fun w' => Below w.heap.size w w')) (by kernel_rfl) ((show Below w.heap.size w wr from hbw.out).drew) (fun hHeld => ?_)
      refine tk0 0 ?_
      refine tk0 1 ?_
      refine tk0 2 ?_
      refine tk 3 (v := ?_) ?_ ?_; rotate_left
      · refine Or.inl ⟨by rfl, ?_⟩; intro w hSw; have f0 := HA.out w hSw; go_simp; first | done | with_reducible rfl
      refine tk0 4 ?_
      refine tk0 5 ?_
      refine tk0 6 ?_
      refine tk 7 (v := ?_) ?_ ?_; rotate_left
      · refine Or.inl ⟨by rfl, ?_⟩; intro w hSw; have f1 := HB.out w hSw; go_simp; first | done | with_reducible rfl
      refine tk0 8 ?_
      refine wpAnyH_done (by kernel_rfl) ?_ _
      go_wp2_with fail
      go_roundw
      case rel => exact ⟨k + 1, by omega, by go_num, Lib.hid hHeld⟩
      case measure => simp [intOf]; omega
    · go_wp2
      go_ret
      exact ⟨rfl, hbw.out⟩
theorem same_tx (xs : List ByteArray) (va vb : Value) (B B' : Nat) (w : World) (ha : Texts w B va xs) (hb : Texts w B' vb xs) :
    Calls Try.prog 47 #[va, vb] w fun e w' => e = .returned (.bool true) ∧ Below w.heap.size w w' :=
  same_at xs va vb w.heap.size w (texts_at ha) (texts_at hb) (Nat.le_refl _)
theorem rec_ok {d : Dsk} (h : dskOk d = true) : dskOk (recS d).1 = true := by
  unfold recS
  rw [if_pos h]
  obtain ⟨h1, _, _, _, h5⟩ := dsk_in h
  refine dsk_mk h1 ?_
  unfold usedD at h5 ⊢
  dsimp only
  rw [ByteArray.size_extract]
  show ((d.sn.size + (min (scanS d.kp).2 d.kp.size - 0) + 0 : Nat) : Int) ≤ d.rm
  omega
end Go.Proofs.Ytkkmjlpeahkiaaa
