/- The exact law of Cut: both sides' rows of texts, equal; the marks are kept. Condition: none beyond what a text may be. -/
import Derived.Test.YtlklhmdpkicpnaaImplCut
import Derived.Test.YtlklhmdpkicpnaaTexts
namespace Go.Proofs.Ytlklhmdpkicpnaa
open Go.RowKit
set_option linter.unusedVariables false
set_option linter.unusedSimpArgs false

theorem cutS_len (s : ByteArray) (n : Int) : (cutS s n).length ≤ 600 := by
  unfold cutS
  split
  · exact Nat.zero_le _
  · split
    · exact Nat.zero_le _
    · split
      · exact Nat.zero_le _
      · rw [cutUp_len]; omega
theorem Texts.drewN {w : World} {B : Nat} {v : Value} {xs : List ByteArray} (h : Texts w B v xs) (n : Nat) : Texts (w.drewN n) B v xs := h.later (below_draws _ _ n)
theorem Texts.apart {w1 w2 : World} {B : Nat} {v g : Value} {xs ys : List ByteArray} (h : Texts w1 B v xs) (h' : Texts w2 w1.heap.size g ys) : v.ownBlock = none ∨ v.ownBlock ≠ g.ownBlock := by
  cases hv : v.ownBlock with
  | none => exact .inl rfl
  | some k =>
    refine .inr fun e => ?_
    have h1 := (World.ownsRow.lt h k hv).2
    have h2 := h'.own k e.symm
    omega

set_option maxHeartbeats 2000000 in
/-- The law's walk. -/
theorem law_cut (s : ByteArray) (n : Int) (w : World) (hs : s.size ≤ maxLen) :
    Calls Try.prog 14 #[.string s, .int .i64 n] w fun e w' => e = .returned (.bool true) ∧ Below w.heap.size w w' := by
  have hs' := hs
  unfold maxLen at hs'
  by_cases hbig : (s.size : Int) ≤ 1048576
  case neg =>
    go_enter Try.func14, Try.ntmps14
    go_wp2_with fail
    go_ret
    exact ⟨rfl, Below.refl _ _⟩
  case pos =>
    have hln := cutS_len s n
    go_enter Try.func14, Try.ntmps14
    go_wp2_with (go_at_call 29; refine (spec_cut s n _ (by omega)).mono ?_; rintro e w1 ⟨v0, rfl, hv0, hb1⟩; refine Hid.out ?_)
    refine Lib.hid ?_
    have hv01 := hv0
    go_wp2_with (go_at_call 27; refine (impl_cut s n _ (by omega)).mono ?_; rintro e w2 ⟨g0, rfl, hg0, hb2⟩; refine Hid.out ?_)
    refine Lib.hid ?_
    have hv0 := hv0.later hb2
    have hb2' := hb1.trans (hb2.mono hb1.size)
    go_wp2_with (go_at_call 47; refine (eq_same _ _ _ _ _ _ hg0 hv0).mono ?_; rintro e w3 ⟨rfl, n3, rfl⟩; refine Hid.out ?_)
    refine Lib.hid ?_
    have hap := hv01.apart hg0
    have hg0 := hg0.drewN n3
    have hv0 := hv0.drewN n3
    have hsz1 := hb1.size
    have hb3 : Below w.heap.size w (w2.drewN n3) := hb2'.trans (below_draws _ _ _)
    generalize hW3 : w2.drewN n3 = w3 at *
    clear hW3
    go_wp2_with (go_at_call 48; refine (mark_row _ _ _ 1 (by omega) (by omega) _ hg0).mono ?_; rintro e w4 ⟨rfl, hg1, hgr⟩; refine Hid.out ?_)
    refine Lib.hid ?_
    have hv4 : Texts w4 w.heap.size v0 (cutS s n) := World.ownsRow.kept hv0 hgr hap
    have hb4 : Below w.heap.size w w4 := hb3.grown hgr hb3.size (fun k hk => Nat.le_trans hsz1 (hg0.own k hk))
    clear hgr hap hv0 hg0
    go_wp2_with (go_at_call 49; refine (held_row _ _ (cutS s n).length 1 (by omega) (by omega) _ hg1).mono ?_; rintro e w5 ⟨rfl, hb5⟩; refine Hid.out ?_)
    refine Lib.hid ?_
    have hv5 := hv4.later hb5
    have hg5 := hg1.later hb5
    have hb5' := hb4.trans (hb5.mono hb4.size)
    clear hv4 hg1 hb5
    go_wp2_with (go_at_call 27; refine (impl_cut s n _ (by omega)).mono ?_; rintro e w6 ⟨h0, rfl, hh0, hb6⟩; refine Hid.out ?_)
    refine Lib.hid ?_
    have hv6 := hv5.later hb6
    have hg6 := hg5.later hb6
    have hb6' := hb5'.trans (hb6.mono hb5'.size)
    clear hv5 hg5 hb6
    go_wp2_with (go_at_call 47; refine (eq_same _ _ _ _ _ _ hh0 hv6).mono ?_; rintro e w7 ⟨rfl, n7, rfl⟩; refine Hid.out ?_)
    refine Lib.hid ?_
    have hg7 := hg6.drewN n7
    have hb7 : Below w.heap.size w (w6.drewN n7) := hb6'.trans (below_draws _ _ _)
    generalize hW7 : w6.drewN n7 = w7 at *
    clear hW7 hg6 hv6 hh0
    go_wp2_with (go_at_call 49; refine (held_row _ _ (cutS s n).length 1 (by omega) (by omega) _ hg7).mono ?_; rintro e w8 ⟨rfl, hb8⟩)
    go_ret
    exact ⟨rfl, hb7.trans (hb8.mono hb7.size)⟩
end Go.Proofs.Ytlklhmdpkicpnaa
