/- The exact laws of Scan and Recover: the program answers as its model, keeps its argument, and its answer is its own. Condition: none. -/
import Derived.Test.YtkkmjlpeahkiaaaSpecRec
import Derived.Test.YtkkmjlpeahkiaaaImplRec
import Derived.Test.YtkkmjlpeahkiaaaTexts
import Derived.Test.YtkkmjlpeahkiaaaTk
namespace Go.Proofs.Ytkkmjlpeahkiaaa
open Go.RowKit
set_option linter.unusedVariables false
set_option linter.unusedSimpArgs false

theorem rec_len {d : Dsk} (h : SmD d) : (recS d).2.length ≤ 1048577 := by
  unfold recS
  split
  · have h1 := scan_len (t := d.kp) 0
    change 6 * (scanS d.kp).1.length ≤ _ at h1
    have h2 := h.2.2.1
    show (scanS d.kp).1.length ≤ _
    omega
  · exact Nat.zero_le _
theorem textsD_drewN {w : World} {B : Nat} {v : Value} {xs : List ByteArray} (h : Texts w B v xs) (n : Nat) : Texts (w.drewN n) B v xs := h.later (below_draws _ _ n)
theorem textsD_apart {w1 w2 : World} {B : Nat} {v g : Value} {xs ys : List ByteArray} (h : Texts w1 B v xs) (h' : Texts w2 w1.heap.size g ys) : v.ownBlock = none ∨ v.ownBlock ≠ g.ownBlock := by
  cases hv : v.ownBlock with
  | none => exact .inl rfl
  | some k =>
    refine .inr fun e => ?_
    have h1 := (World.ownsRow.lt h k hv).2
    have h2 := h'.own k e.symm
    omega
set_option maxRecDepth 100000 in
set_option maxHeartbeats 4000000 in
theorem law_scanX (s : ByteArray) (w : World) (hs : s.size ≤ maxLen) :
    Calls Try.prog 8 #[.string s] w fun e w' => e = .returned (.bool true) ∧ Below w.heap.size w w' := by
  have hs' := hs
  unfold maxLen at hs'
  by_cases hbig : (s.size : Int) ≤ 1048576
  case neg =>
    go_enter Try.func8, Try.ntmps8
    go_wp2_with fail
    go_ret
    exact ⟨rfl, Below.refl _ _⟩
  case pos =>
    have hln : (scanS s).1.length ≤ 1048577 := by have := scan_len (t := s) 0; change 6 * (scanS s).1.length ≤ _ at this; omega
    have c1 := fun w => spec_scan s w (by omega)
    have c2 := fun w => impl_scan s w (by omega)
    obtain ⟨l, hl⟩ : ∃ l, l = (scanS s).1 := ⟨_, rfl⟩
    obtain ⟨n, hn⟩ : ∃ n, n = (scanS s).2 := ⟨_, rfl⟩
    rw [← hl] at hln
    rw [← hl, ← hn] at c1 c2
    have hnn : ((n : Int) != (n : Int)) = false := by simp
    clear hl hn
    go_enter Try.func8, Try.ntmps8
    go_wp2_with (go_at_call 32; refine (c1 _).mono ?_; rintro e w1 ⟨v0, rfl, hv0, hb1⟩; refine Hid.out ?_)
    refine Lib.hid ?_
    have hv01 := hv0
    go_wp2_with (go_at_call 33; refine (c2 _).mono ?_; rintro e w2 ⟨g0, rfl, hg0, hb2⟩; refine Hid.out ?_)
    refine Lib.hid ?_
    have hv0 := hv0.later hb2
    have hb2' := hb1.trans (hb2.mono hb1.size)
    go_wp2_with (go_at_call 34; refine (eq_same _ _ _ _ _ _ hg0 hv0).mono ?_; rintro e w3 ⟨rfl, n3, rfl⟩; refine Hid.out ?_)
    refine Lib.hid ?_
    have hap := textsD_apart hv01 hg0
    have hg0 := textsD_drewN hg0 n3
    have hv0 := textsD_drewN hv0 n3
    have hsz1 := hb1.size
    have hb3 : Below w.heap.size w (w2.drewN n3) := hb2'.trans (below_draws _ _ _)
    generalize hW3 : w2.drewN n3 = w3 at *
    clear hW3
    go_wp2_with (go_at_call 35; refine (mark_row _ _ _ 1 (by omega) (by omega) _ hg0).mono ?_; rintro e w4 ⟨rfl, hg1, hgr⟩; refine Hid.out ?_)
    refine Lib.hid ?_
    have hv4 : Texts w4 w.heap.size v0 l := World.ownsRow.kept hv0 hgr hap
    have hb4 : Below w.heap.size w w4 := hb3.grown hgr hb3.size (fun k hk => Nat.le_trans hsz1 (hg0.own k hk))
    clear hgr hap hv0 hg0
    go_wp2_with (go_at_call 36; refine (held_row _ _ l.length 1 (by omega) (by omega) _ hg1).mono ?_; rintro e w5 ⟨rfl, hb5⟩; refine Hid.out ?_)
    refine Lib.hid ?_
    have hv5 := hv4.later hb5
    have hg5 := hg1.later hb5
    have hb5' := hb4.trans (hb5.mono hb4.size)
    clear hv4 hg1 hb5
    go_wp2_with (go_at_call 33; refine (c2 _).mono ?_; rintro e w6 ⟨h0, rfl, hh0, hb6⟩; refine Hid.out ?_)
    refine Lib.hid ?_
    have hv6 := hv5.later hb6
    have hg6 := hg5.later hb6
    have hb6' := hb5'.trans (hb6.mono hb5'.size)
    clear hv5 hg5 hb6
    go_wp2_with (go_at_call 34; refine (eq_same _ _ _ _ _ _ hh0 hv6).mono ?_; rintro e w7 ⟨rfl, n7, rfl⟩; refine Hid.out ?_)
    refine Lib.hid ?_
    have hg7 := textsD_drewN hg6 n7
    have hb7 : Below w.heap.size w (w6.drewN n7) := hb6'.trans (below_draws _ _ _)
    generalize hW7 : w6.drewN n7 = w7 at *
    clear hW7 hg6 hv6 hh0
    go_wp2_with (go_at_call 36; refine (held_row _ _ l.length 1 (by omega) (by omega) _ hg7).mono ?_; rintro e w8 ⟨rfl, hb8⟩)
    go_ret
    exact ⟨rfl, hb7.trans (hb8.mono hb7.size)⟩
set_option maxRecDepth 100000 in
set_option maxHeartbeats 8000000 in
theorem law_recoverX (d : Dsk) (w : World) (hf : FitDsk d) : Calls Try.prog 9 #[dskV d] w fun e w' => e = .returned (.bool true) ∧ Below w.heap.size w w' := by
  have c0 := fun w => sz_disk d w hf
  have c1 := fun w => to_disk d w
  have c2 := fun w (hd : SmD d) => spec_recover d w hd
  have c3 := fun w (hd : SmD d) => impl_recover d w hd
  have hlen : Hid (SmD d → (recS d).2.length ≤ 1048577) := Lib.hid rec_len
  obtain ⟨⟨uo, us, ut, uu⟩, hu⟩ : ∃ u, u = (recS d).1 := ⟨_, rfl⟩
  obtain ⟨l, hl⟩ : ∃ l, l = (recS d).2 := ⟨_, rfl⟩
  rw [← hu, ← hl] at c2 c3
  rw [← hl] at hlen
  clear hu hl
  have k3 := fun w => eq_disk ⟨uo, us, ut, uu⟩ w
  have Hf := Lib.hid hf
  clear hf
  obtain ⟨o, s, t, u⟩ := d
  unfold dskV at *
  dsimp only at *
  have BB : Hid (Below w.heap.size w w) := Lib.hid (Below.refl _ _)
  obtain ⟨X0, hX0⟩ : ∃ z, z = w.alloc (.cells #[.int .i64 o, .string s, .string t, .string u] 23) := ⟨_, rfl⟩
  have hb : Below w.heap.size w X0 := by rw [hX0]; exact (Below.refl _ _).alloc (Nat.le_refl _) _
  replace BB := tbt BB hb
  have KT : Hid (X0.heap[w.heap.size]? = some (.cells #[.int .i64 o, .string s, .string t, .string u] 23 (0, 0))) := Lib.hid (by rw [hX0]; exact heap_new _ _)
  have LT : Hid (w.heap.size < X0.heap.size) := Lib.hid (by rw [hX0]; simp)
  clear hb
  go_enter Try.func9, Try.ntmps9
  have hc := c0 X0
  rw [hX0] at hc 
  go_wp2_with (go_at_call 19; refine hc.mono ?_; rintro e w1 ⟨r, rfl, hr, hb⟩; refine Hid.out ?_)
  refine Lib.hid ?_
  rw [← hX0] at hb 
  clear hX0
  replace KT := tkb hb LT KT
  replace LT := tlz LT hb.size
  replace BB := tbt BB hb
  clear hc hb 
  replace hr := Lib.hid hr
  clear c0
  by_cases hneg : r < 0
  · go_wp2_with fail
    go_ret
    exact ⟨rfl, BB.out⟩
  have hsm := hr.out (by omega)
  clear hr
  have hln := hlen.out hsm
  clear hlen
  replace c2 := fun w => c2 w hsm
  replace c3 := fun w => c3 w hsm
  clear hsm
  have hc := c1 w1
  have fT0 := tcr KT 0
  have fT1 := tcr KT 1
  have fT2 := tcr KT 2
  have fT3 := tcr KT 3
  go_wp2_with (go_at_call 21; refine hc.mono ?_; rintro e w2 ⟨rfl, hb⟩; refine Hid.out ?_)
  refine Lib.hid ?_
  replace KT := tkb hb LT KT
  replace LT := tlz LT hb.size
  replace BB := tbt BB hb
  clear hc hb fT0 fT1 fT2 fT3
  have hc := c2 w2
  go_wp2_with (go_at_call 37; refine hc.mono ?_; rintro e w3 ⟨v0, rfl, hv0, hb⟩; refine Hid.out ?_)
  refine Lib.hid ?_
  replace KT := tkb hb LT KT
  replace LT := tlz LT hb.size
  replace BB := tbt BB hb
  clear hc hb 
  have HV := Lib.hid hv0
  clear hv0
  have HVL : Hid (∀ k, v0.ownBlock = some k → w2.heap.size ≤ k ∧ k < w3.heap.size) := Lib.hid (fun k hk => ⟨HV.out.own k hk, (World.ownsRow.lt HV.out k hk).2⟩)
  obtain ⟨X1, hX1⟩ : ∃ z, z = w3.alloc (.cells #[.int .i64 uo, .string us, .string ut, .string uu] 26) := ⟨_, rfl⟩
  have hb : Below w3.heap.size w3 X1 := by rw [hX1]; exact (Below.refl _ _).alloc (Nat.le_refl _) _
  replace KT := tkb hb LT KT
  replace LT := tlz LT hb.size
  replace HV := Lib.hid (HV.out.later hb)
  replace BB := tbt BB hb
  have KG : Hid (X1.heap[w3.heap.size]? = some (.cells #[.int .i64 uo, .string us, .string ut, .string uu] 26 (0, 0))) := Lib.hid (by rw [hX1]; exact heap_new _ _)
  have LG : Hid (w3.heap.size < X1.heap.size) := Lib.hid (by rw [hX1]; simp)
  clear hb
  have hc := c1 X1
  have fT0 := tcr KT 0
  have fT1 := tcr KT 1
  have fT2 := tcr KT 2
  have fT3 := tcr KT 3
  rw [hX1] at hc fT0 fT1 fT2 fT3
  go_wp2_with (go_at_call 21; refine hc.mono ?_; rintro e w4 ⟨rfl, hb⟩; refine Hid.out ?_)
  refine Lib.hid ?_
  rw [← hX1] at hb 
  clear hX1
  replace KT := tkb hb LT KT
  replace LT := tlz LT hb.size
  replace KG := tkb hb LG KG
  replace LG := tlz LG hb.size
  replace HV := Lib.hid (HV.out.later hb)
  replace BB := tbt BB hb
  clear hc hb fT0 fT1 fT2 fT3
  have HS4 := LG
  have HS0 := LT
  have hc := c3 w4
  go_wp2_with (go_at_call 38; refine hc.mono ?_; rintro e w5 ⟨g0, rfl, hg0, hb⟩; refine Hid.out ?_)
  refine Lib.hid ?_
  replace KT := tkb hb LT KT
  replace LT := tlz LT hb.size
  replace KG := tkb hb LG KG
  replace LG := tlz LG hb.size
  replace HV := Lib.hid (HV.out.later hb)
  replace BB := tbt BB hb
  clear hc hb 
  have HG := Lib.hid hg0
  clear hg0
  have hgo := HG.out.own
  have hgl := fun k hk => (World.ownsRow.lt HG.out k hk).2
  have NV : Hid (v0.ownBlock = none ∨ v0.ownBlock ≠ g0.ownBlock) := Lib.hid (by
    cases hv : v0.ownBlock with
    | none => exact .inl rfl
    | some k =>
      refine .inr fun e => ?_
      have h1 := (HVL.out k hv).2
      have h2 := hgo k e.symm
      have h3 := HS4.out
      omega)
  have NT : Hid (some (w.heap.size) ≠ g0.ownBlock) := Lib.hid (fun e => by have h2 := hgo _ e.symm; have h3 := HS0.out; omega)
  have NG : Hid (some (w3.heap.size) ≠ g0.ownBlock) := Lib.hid (fun e => by have h2 := hgo _ e.symm; have h3 := HS4.out; omega)
  have NB : Hid (∀ k, g0.ownBlock = some k → w.heap.size ≤ k) := Lib.hid (fun k e => by have h2 := hgo k e; have h3 := HS0.out; omega)
  have NH : Hid (some (w5.heap.size) ≠ g0.ownBlock) := Lib.hid (fun e => by have h2 := hgl _ e.symm; omega)
  clear hgo hgl HVL
  obtain ⟨X2, hX2⟩ : ∃ z, z = w5.alloc (.cells #[.int .i64 uo, .string us, .string ut, .string uu] 26) := ⟨_, rfl⟩
  have hb : Below w5.heap.size w5 X2 := by rw [hX2]; exact (Below.refl _ _).alloc (Nat.le_refl _) _
  replace KT := tkb hb LT KT
  replace LT := tlz LT hb.size
  replace KG := tkb hb LG KG
  replace LG := tlz LG hb.size
  replace HV := Lib.hid (HV.out.later hb)
  replace HG := Lib.hid (HG.out.later hb)
  replace BB := tbt BB hb
  have KH : Hid (X2.heap[w5.heap.size]? = some (.cells #[.int .i64 uo, .string us, .string ut, .string uu] 26 (0, 0))) := Lib.hid (by rw [hX2]; exact heap_new _ _)
  have LH : Hid (w5.heap.size < X2.heap.size) := Lib.hid (by rw [hX2]; simp)
  clear hb
  have hc := k3 X2
  have fG0 := tcr KG 0
  have fG1 := tcr KG 1
  have fG2 := tcr KG 2
  have fG3 := tcr KG 3
  have fH0 := tcr KH 0
  have fH1 := tcr KH 1
  have fH2 := tcr KH 2
  have fH3 := tcr KH 3
  rw [hX2] at hc fG0 fG1 fG2 fG3 fH0 fH1 fH2 fH3
  go_wp2_with (go_at_call 27; refine hc.mono ?_; rintro e w6 ⟨rfl, hb⟩; refine Hid.out ?_)
  refine Lib.hid ?_
  rw [← hX2] at hb 
  clear hX2
  replace KT := tkb hb LT KT
  replace LT := tlz LT hb.size
  replace KG := tkb hb LG KG
  replace LG := tlz LG hb.size
  replace KH := tkb hb LH KH
  replace LH := tlz LH hb.size
  replace HV := Lib.hid (HV.out.later hb)
  replace HG := Lib.hid (HG.out.later hb)
  replace BB := tbt BB hb
  clear hc hb fG0 fG1 fG2 fG3 fH0 fH1 fH2 fH3
  have hc := eq_same _ _ _ _ _ w6 HG.out HV.out
  go_wp2_with (go_at_call 34; refine hc.mono ?_; rintro e w7 ⟨rfl, n7, rfl⟩; refine Hid.out ?_)
  refine Lib.hid ?_
  have hb : Below w6.heap.size w6 (w6.drewN n7) := below_draws _ _ _
  generalize w6.drewN n7 = w7 at *
  replace KT := tkb hb LT KT
  replace LT := tlz LT hb.size
  replace KG := tkb hb LG KG
  replace LG := tlz LG hb.size
  replace KH := tkb hb LH KH
  replace LH := tlz LH hb.size
  replace HV := Lib.hid (HV.out.later hb)
  replace HG := Lib.hid (HG.out.later hb)
  replace BB := tbt BB hb
  clear hc hb
  have hc := mark_row _ _ _ 1 (by omega) (by omega) w7 HG.out
  go_wp2_with (go_at_call 35; refine hc.mono ?_; rintro e w8 ⟨rfl, hg1, hgr⟩; refine Hid.out ?_)
  refine Lib.hid ?_
  replace HV : Hid (Texts w8 _ v0 l) := Lib.hid (World.ownsRow.kept HV.out hgr NV.out)
  replace HG := Lib.hid hg1
  replace KT := tkg hgr LT KT NT.out
  replace KG := tkg hgr LG KG NG.out
  replace KH := tkg hgr LH KH NH.out
  replace LT := tlz LT hgr.size
  replace LG := tlz LG hgr.size
  replace LH := tlz LH hgr.size
  replace BB := Lib.hid (BB.out.grown hgr BB.out.size NB.out)
  clear hc hg1 hgr NV NT NG NH NB
  have hc := held_row _ _ l.length 1 (by omega) (by omega) w8 HG.out
  go_wp2_with (go_at_call 36; refine hc.mono ?_; rintro e w9 ⟨rfl, hb⟩; refine Hid.out ?_)
  refine Lib.hid ?_
  replace KT := tkb hb LT KT
  replace LT := tlz LT hb.size
  replace KG := tkb hb LG KG
  replace LG := tlz LG hb.size
  replace KH := tkb hb LH KH
  replace LH := tlz LH hb.size
  replace HV := Lib.hid (HV.out.later hb)
  replace HG := Lib.hid (HG.out.later hb)
  replace BB := tbt BB hb
  clear hc hb 
  have hc := c1 w9
  have fT0 := tcr KT 0
  have fT1 := tcr KT 1
  have fT2 := tcr KT 2
  have fT3 := tcr KT 3
  go_wp2_with (go_at_call 21; refine hc.mono ?_; rintro e w10 ⟨rfl, hb⟩; refine Hid.out ?_)
  refine Lib.hid ?_
  replace KT := tkb hb LT KT
  replace LT := tlz LT hb.size
  replace KG := tkb hb LG KG
  replace LG := tlz LG hb.size
  replace KH := tkb hb LH KH
  replace LH := tlz LH hb.size
  replace HV := Lib.hid (HV.out.later hb)
  replace HG := Lib.hid (HG.out.later hb)
  replace BB := tbt BB hb
  clear hc hb fT0 fT1 fT2 fT3
  have hc := c3 w10
  go_wp2_with (go_at_call 38; refine hc.mono ?_; rintro e w11 ⟨h0, rfl, hh0, hb⟩; refine Hid.out ?_)
  refine Lib.hid ?_
  replace KT := tkb hb LT KT
  replace LT := tlz LT hb.size
  replace KG := tkb hb LG KG
  replace LG := tlz LG hb.size
  replace KH := tkb hb LH KH
  replace LH := tlz LH hb.size
  replace HV := Lib.hid (HV.out.later hb)
  replace HG := Lib.hid (HG.out.later hb)
  replace BB := tbt BB hb
  clear hc hb 
  have HH := Lib.hid hh0
  clear hh0
  obtain ⟨X3, hX3⟩ : ∃ z, z = w11.alloc (.cells #[.int .i64 uo, .string us, .string ut, .string uu] 26) := ⟨_, rfl⟩
  have hb : Below w11.heap.size w11 X3 := by rw [hX3]; exact (Below.refl _ _).alloc (Nat.le_refl _) _
  replace KT := tkb hb LT KT
  replace LT := tlz LT hb.size
  replace KG := tkb hb LG KG
  replace LG := tlz LG hb.size
  replace KH := tkb hb LH KH
  replace LH := tlz LH hb.size
  replace HV := Lib.hid (HV.out.later hb)
  replace HG := Lib.hid (HG.out.later hb)
  replace HH := Lib.hid (HH.out.later hb)
  replace BB := tbt BB hb
  have KJ : Hid (X3.heap[w11.heap.size]? = some (.cells #[.int .i64 uo, .string us, .string ut, .string uu] 26 (0, 0))) := Lib.hid (by rw [hX3]; exact heap_new _ _)
  have LJ : Hid (w11.heap.size < X3.heap.size) := Lib.hid (by rw [hX3]; simp)
  clear hb
  have hc := k3 X3
  have fJ0 := tcr KJ 0
  have fJ1 := tcr KJ 1
  have fJ2 := tcr KJ 2
  have fJ3 := tcr KJ 3
  have fG0 := tcr KG 0
  have fG1 := tcr KG 1
  have fG2 := tcr KG 2
  have fG3 := tcr KG 3
  rw [hX3] at hc fJ0 fJ1 fJ2 fJ3 fG0 fG1 fG2 fG3
  go_wp2_with (go_at_call 27; refine hc.mono ?_; rintro e w12 ⟨rfl, hb⟩; refine Hid.out ?_)
  refine Lib.hid ?_
  rw [← hX3] at hb 
  clear hX3
  replace KT := tkb hb LT KT
  replace LT := tlz LT hb.size
  replace KG := tkb hb LG KG
  replace LG := tlz LG hb.size
  replace KH := tkb hb LH KH
  replace LH := tlz LH hb.size
  replace KJ := tkb hb LJ KJ
  replace LJ := tlz LJ hb.size
  replace HV := Lib.hid (HV.out.later hb)
  replace HG := Lib.hid (HG.out.later hb)
  replace HH := Lib.hid (HH.out.later hb)
  replace BB := tbt BB hb
  clear hc hb fJ0 fJ1 fJ2 fJ3 fG0 fG1 fG2 fG3
  have hc := eq_same _ _ _ _ _ w12 HH.out HV.out
  go_wp2_with (go_at_call 34; refine hc.mono ?_; rintro e w13 ⟨rfl, n13, rfl⟩; refine Hid.out ?_)
  refine Lib.hid ?_
  have hb : Below w12.heap.size w12 (w12.drewN n13) := below_draws _ _ _
  generalize w12.drewN n13 = w13 at *
  replace KT := tkb hb LT KT
  replace LT := tlz LT hb.size
  replace KG := tkb hb LG KG
  replace LG := tlz LG hb.size
  replace KH := tkb hb LH KH
  replace LH := tlz LH hb.size
  replace KJ := tkb hb LJ KJ
  replace LJ := tlz LJ hb.size
  replace HV := Lib.hid (HV.out.later hb)
  replace HG := Lib.hid (HG.out.later hb)
  replace HH := Lib.hid (HH.out.later hb)
  replace BB := tbt BB hb
  clear hc hb
  have hc := held_row _ _ l.length 1 (by omega) (by omega) w13 HG.out
  go_wp2_with (go_at_call 36; refine hc.mono ?_; rintro e w14 ⟨rfl, hb⟩; refine Hid.out ?_)
  refine Lib.hid ?_
  replace KT := tkb hb LT KT
  replace LT := tlz LT hb.size
  replace KG := tkb hb LG KG
  replace LG := tlz LG hb.size
  replace KH := tkb hb LH KH
  replace LH := tlz LH hb.size
  replace KJ := tkb hb LJ KJ
  replace LJ := tlz LJ hb.size
  replace HV := Lib.hid (HV.out.later hb)
  replace HG := Lib.hid (HG.out.later hb)
  replace HH := Lib.hid (HH.out.later hb)
  replace BB := tbt BB hb
  clear hc hb 
  go_wp2_with fail
  go_ret
  exact ⟨rfl, BB.out⟩
end Go.Proofs.Ytkkmjlpeahkiaaa
