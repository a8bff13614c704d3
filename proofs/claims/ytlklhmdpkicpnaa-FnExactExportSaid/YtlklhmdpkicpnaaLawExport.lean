/- The exact law of Export: the program answers as its model, keeps its argument, and its answer's memory is its own. Condition: none beyond what the arguments may be. -/
import Derived.Test.YtlklhmdpkicpnaaBaseA
import Derived.Test.YtlklhmdpkicpnaaImplExport
import Derived.Test.YtlklhmdpkicpnaaLawCut
import Derived.Test.YtlklhmdpkicpnaaExactPlain
namespace Go.Proofs.Ytlklhmdpkicpnaa
open Go.RowKit
set_option linter.unusedVariables false
set_option linter.unusedSimpArgs false

theorem Texts.far {w w' : World} {B b : Nat} {v : Value} {xs : List ByteArray} (h : Texts w B v xs) (hg : w.grownBy w' (some b)) (hb : b < B) : Texts w' B v xs :=
  World.ownsRow.kept h hg (.inr (fun e => by have := h.own b e; omega))
set_option maxRecDepth 100000 in
set_option maxHeartbeats 8000000 in
theorem law_export (s : St) (v : Value) (n size : Int) (w : World) (hr : RawS w w.heap.size v s) :
    Calls Try.prog 15 #[v, .int .i64 n, .int .i64 size] w fun e w' => e = .returned (.bool true) ∧ Below w.heap.size w w' := by
  have hfit := hr.fits
  have hln := cutS_len (fmtS s n) size
  obtain ⟨E, hE⟩ : ∃ E, E = cutS (fmtS s n) size := ⟨_, rfl⟩
  rw [← hE] at hln
  have HE := Lib.hid hE
  clear hE
  obtain ⟨vi, vt, rfl, h1, h2, h3, h4⟩ := hr
  have HR : Hid (RawS w w.heap.size (.agg #[vi, vt]) s) := Lib.hid ⟨vi, vt, rfl, h1, h2, h3, h4⟩
  have Hfit := Lib.hid hfit
  have BB : Hid (Below w.heap.size w w) := Lib.hid (Below.refl _ _)
  clear hfit h1 h2 h3 h4
  obtain ⟨W, hW⟩ : ∃ z, z = w.alloc (.cells #[vi, vt] 66) := ⟨_, rfl⟩
  have hb : Below w.heap.size w W := by rw [hW]; exact (Below.refl _ _).alloc (Nat.le_refl _) _
  replace BB := tbt BB hb
  have KP : Hid (W.heap[w.heap.size]? = some (.cells #[vi, vt] 66 (0, 0))) := Lib.hid (by rw [hW]; exact heap_new _ _)
  have LP : Hid (w.heap.size < W.heap.size) := Lib.hid (by rw [hW]; simp)
  clear hb
  have hc := sz_state s _ w.heap.size 1048576 W (HR.out.later BB.out (Nat.le_refl _)) BB.out.size (by omega)
  rw [hW] at hc
  go_enter Try.func15, Try.ntmps15
  go_wp2_with (go_at_call 50; refine hc.mono ?_; rintro e w1 ⟨q, rfl, hr0, hr1, hr2, hb⟩; refine Hid.out ?_)
  refine Lib.hid ?_
  rw [← hW] at hb
  clear hW
  replace KP := tkb hb LP KP
  replace LP := tlz LP hb.size
  replace BB := tbt BB hb
  clear hc hb
  by_cases hneg : q < 0
  · clear hr2
    go_wp2_with fail
    go_ret
    exact ⟨rfl, BB.out⟩
  have Hs := Lib.hid (hr2 (by omega))
  clear hr2
  have hc := to_state s _ w.heap.size w1 (HR.out.later BB.out (Nat.le_refl _)) BB.out.size Hs.out
  have fP0 := tcr KP 0
  have fP1 := tcr KP 1
  go_wp2_with (go_at_call 51; refine hc.mono ?_; rintro e w2 ⟨v2, rfl, ho2, hb⟩; refine Hid.out ?_)
  refine Lib.hid ?_
  replace KP := tkb hb LP KP
  replace LP := tlz LP hb.size
  replace BB := tbt BB hb
  clear hc hb fP0 fP1
  have st2 := ho2.st Hs.out.lens.1 Hs.out.lens.2
  have hc := spec_export s v2 n size w2.heap.size w2 st2 (Nat.le_refl _) Hfit.out
  rw [← HE.out] at hc
  go_wp2_with (go_at_call 36; refine hc.mono ?_; rintro e w3 ⟨vW, rfl, hW3, hb⟩; refine Hid.out ?_)
  refine Lib.hid ?_
  replace KP := tkb hb LP KP
  replace LP := tlz LP hb.size
  replace BB := tbt BB hb
  clear hc hb 
  have N3 := LP
  have RW := Lib.hid hW3
  have B3 : Hid (Below w3.heap.size w3 w3) := Lib.hid (Below.refl _ _)
  clear hW3 ho2 st2
  have hc := to_state s _ w.heap.size w3 (HR.out.later BB.out (Nat.le_refl _)) BB.out.size Hs.out
  have fP0 := tcr KP 0
  have fP1 := tcr KP 1
  go_wp2_with (go_at_call 51; refine hc.mono ?_; rintro e w4 ⟨v4, rfl, ho4, hb⟩; refine Hid.out ?_)
  refine Lib.hid ?_
  replace KP := tkb hb LP KP
  replace LP := tlz LP hb.size
  replace B3 := tbt B3 hb
  replace BB := tbt BB hb
  clear hc hb fP0 fP1
  obtain ⟨xi, xt, rfl, hne4, gX, tX⟩ := (ho4.c Hs.out.lens.1 Hs.out.lens.2)
  have GX := Lib.hid gX
  have TX := Lib.hid tX
  have N4 := Lib.hid (And.intro hne4 (And.intro gX.2.2.2.2.1 (And.intro tX.2.2.2.2.1 (And.intro gX.2.2.2.1 tX.2.2.2.1))))
  clear gX tX ho4 hne4
  obtain ⟨X1, hX1⟩ : ∃ z, z = w4.alloc (.cells #[.slice (some ⟨xi, 0, none⟩) s.items.length s.items.length, .slice (some ⟨xt, 0, none⟩) s.talks.length s.talks.length] 44) := ⟨_, rfl⟩
  have hb : Below w4.heap.size w4 X1 := by rw [hX1]; exact (Below.refl _ _).alloc (Nat.le_refl _) _
  replace KP := tkb hb LP KP
  replace LP := tlz LP hb.size
  replace B3 := tbt B3 hb
  replace GX := Lib.hid (GX.out.later hb)
  replace TX := Lib.hid (TX.out.later hb)
  replace BB := tbt BB hb
  have KX : Hid (X1.heap[w4.heap.size]? = some (.cells #[.slice (some ⟨xi, 0, none⟩) s.items.length s.items.length, .slice (some ⟨xt, 0, none⟩) s.talks.length s.talks.length] 44 (0, 0))) := Lib.hid (by rw [hX1]; exact heap_new _ _)
  have LX : Hid (w4.heap.size < X1.heap.size) := Lib.hid (by rw [hX1]; simp)
  clear hb
  have N1 := LX
  have SZ : Hid (X1.heap.size ≤ X1.heap.size) := Lib.hid (Nat.le_refl _)
  have hc := impl_export s _ n size X1.heap.size X1 (st_parts GX.out TX.out) (Nat.le_refl _) Hfit.out
  rw [← HE.out] at hc
  have fX0 := tcr KX 0
  have fX1 := tcr KX 1
  rw [hX1] at hc fX0 fX1
  go_wp2_with (go_at_call 35; refine hc.mono ?_; rintro e w5 ⟨vG, rfl, hoG, hb⟩; refine Hid.out ?_)
  refine Lib.hid ?_
  rw [← hX1] at hb hoG
  clear hX1
  replace KP := tkb hb LP KP
  replace LP := tlz LP hb.size
  replace KX := tkb hb LX KX
  replace LX := tlz LX hb.size
  replace B3 := tbt B3 hb
  replace GX := Lib.hid (GX.out.later hb)
  replace TX := Lib.hid (TX.out.later hb)
  replace SZ := Lib.hid (Nat.le_trans SZ.out hb.size)
  replace BB := tbt BB hb
  clear hc hb fX0 fX1
  have OG := Lib.hid hoG
  have N5 := LX
  clear hoG
  have hc := eq_same _ _ _ _ E w5 OG.out (RW.out.later B3.out)
  go_wp2_with (go_at_call 47; refine hc.mono ?_; rintro e w6 ⟨rfl, nn, hnn⟩; have hb : Below w5.heap.size w5 w6 := (by rw [hnn]; exact below_draws _ _ _); clear hnn; refine Hid.out ?_)
  refine Lib.hid ?_
  replace KP := tkb hb LP KP
  replace LP := tlz LP hb.size
  replace KX := tkb hb LX KX
  replace LX := tlz LX hb.size
  replace B3 := tbt B3 hb
  replace GX := Lib.hid (GX.out.later hb)
  replace TX := Lib.hid (TX.out.later hb)
  replace SZ := Lib.hid (Nat.le_trans SZ.out hb.size)
  replace OG := Lib.hid (OG.out.later hb)
  replace BB := tbt BB hb
  clear hc hb 
  have fX0 := tcr KX 0
  have fX1 := tcr KX 1
  have fP0 := tcr KP 0
  have fP1 := tcr KP 1
  go_wp2_with fail
  obtain ⟨wd, hwd⟩ : ∃ z, z = w6.drew := ⟨_, rfl⟩
  have hb : Below w6.heap.size w6 wd := by rw [hwd]; exact (Below.refl _ _).drew
  replace KP := tkb hb LP KP
  replace LP := tlz LP hb.size
  replace KX := tkb hb LX KX
  replace LX := tlz LX hb.size
  replace B3 := tbt B3 hb
  replace GX := Lib.hid (GX.out.later hb)
  replace TX := Lib.hid (TX.out.later hb)
  replace SZ := Lib.hid (Nat.le_trans SZ.out hb.size)
  replace OG := Lib.hid (OG.out.later hb)
  replace BB := tbt BB hb
  refine wp_region_held_drew (S := (fun w' => w'.cell? ⟨w4.heap.size, 0, none⟩ = some (.slice (some ⟨xi, 0, none⟩) s.items.length s.items.length) ∧ w'.cell? ⟨w4.heap.size, 1, none⟩ = some (.slice (some ⟨xt, 0, none⟩) s.talks.length s.talks.length) ∧ w'.cell? ⟨w.heap.size, 0, none⟩ = some vi ∧ w'.cell? ⟨w.heap.size, 1, none⟩ = some vt)) (by kernel_rfl) (by rw [← hwd]; exact ⟨tcr KX 0, tcr KX 1, tcr KP 0, tcr KP 1⟩) (fun hHeld => ?_)
  rw [← hwd] at hHeld ⊢
  clear hb hwd fX0 fX1 fP0 fP1
  refine tk 0 (v := ?_) ?_ ?_; rotate_left
  · refine Or.inl ⟨by rfl, ?_⟩; intro w hSw; obtain ⟨hS0, hS1, hS2, hS3⟩ := hSw; go_simp; first | done | with_reducible rfl
  refine tk 1 (v := ?_) ?_ ?_; rotate_left
  · refine Or.inl ⟨by rfl, ?_⟩; intro w hSw; obtain ⟨hS0, hS1, hS2, hS3⟩ := hSw; go_simp; first | done | with_reducible rfl
  refine rd1 2 (fun K hK => ?_)
  go_simp
  have hc := to_state s _ w.heap.size wd (HR.out.later BB.out (Nat.le_refl _)) BB.out.size Hs.out
  go_at_call 51
  refine hc.mono ?_
  rintro e w7 ⟨v7, rfl, ho7, hb⟩
  replace KP := tkb hb LP KP
  replace LP := tlz LP hb.size
  replace KX := tkb hb LX KX
  replace LX := tlz LX hb.size
  replace B3 := tbt B3 hb
  replace GX := Lib.hid (GX.out.later hb)
  replace TX := Lib.hid (TX.out.later hb)
  replace SZ := Lib.hid (Nat.le_trans SZ.out hb.size)
  replace OG := Lib.hid (OG.out.later hb)
  replace BB := tbt BB hb
  have ST7 := Lib.hid (ho7.st Hs.out.lens.1 Hs.out.lens.2)
  clear ho7 hb hc
  go_wp2_with fail
  refine hK.out _ _ ⟨tcr KX 0, tcr KX 1, tcr KP 0, tcr KP 1⟩ (fun hHeld => ?_)
  clear hK K
  refine rd1 3 (fun K hK => ?_)
  go_simp
  have hc := eq_state s _ _ w7.heap.size w7 (rd_parts (.inl rfl) (.inl rfl) GX.out TX.out) ST7.out.rd (Nat.le_refl _)
  go_at_call 52
  refine hc.mono ?_
  rintro e w8 ⟨rfl, hb⟩
  replace KP := tkb hb LP KP
  replace LP := tlz LP hb.size
  replace KX := tkb hb LX KX
  replace LX := tlz LX hb.size
  replace B3 := tbt B3 hb
  replace GX := Lib.hid (GX.out.later hb)
  replace TX := Lib.hid (TX.out.later hb)
  replace SZ := Lib.hid (Nat.le_trans SZ.out hb.size)
  replace OG := Lib.hid (OG.out.later hb)
  replace BB := tbt BB hb
  clear hc hb ST7
  go_wp2_with fail
  refine hK.out _ _ ⟨tcr KX 0, tcr KX 1, tcr KP 0, tcr KP 1⟩ (fun hHeld => ?_)
  clear hK K
  refine tk0 4 ?_
  refine wpAnyH_done (by kernel_rfl) ?_ _
  clear hHeld
  have hms : 1 + 2 * s.items.length + 3 * s.talks.length ≤ 9223372036854775807 := by have := Hs.out; unfold Small at this; omega
  have hc := mark_stateN s.items.length s.talks.length 1 xi s.items.length xt s.talks.length w3.heap.size (some ⟨xi, 0, none⟩) (some ⟨xt, 0, none⟩) _ _ w8 (by omega) hms N4.out.1 (.inl rfl) (.inl rfl) GX.out TX.out
  obtain ⟨ms, hmS⟩ : ∃ m, m = 1 + 2 * s.items.length + 3 * s.talks.length := ⟨_, rfl⟩
  rw [← hmS] at hc hms
  clear hmS
  have fX0 := tcr KX 0
  have fX1 := tcr KX 1
  go_wp2_with (go_at_call 53; refine hc.mono ?_; rintro e w9 ⟨rfl, gX9, tX9, ho9⟩; refine Hid.out ?_)
  refine Lib.hid ?_
  clear gX9 tX9 hc GX TX KX LX fX0 fX1
  have hn1 := N1.out
  have hn3 := N3.out
  have hn4 := N4.out
  have hs9 := ho9.size
  have hsz := SZ.out
  obtain ⟨wo, go1, go2⟩ := id ho9
  have hs1 := go1.size
  replace KP := Lib.hid ((ho9.block LP.out (by omega) (by omega)).trans KP.out)
  replace LP := tlz LP hs9
  replace B3 := Lib.hid ((B3.out.grown go1 B3.out.size (fun j e => by cases e; omega)).grown go2 (Nat.le_trans B3.out.size hs1) (fun j e => by cases e; omega))
  replace BB := Lib.hid ((BB.out.grown go1 BB.out.size (fun j e => by cases e; omega)).grown go2 (Nat.le_trans BB.out.size hs1) (fun j e => by cases e; omega))
  replace OG := Lib.hid ((OG.out.far go1 (by omega)).far go2 (by omega))
  replace SZ := Lib.hid (Nat.le_trans SZ.out hs9)
  clear hs9 hsz go1 go2 hs1 ho9 wo hn1 hn3 hn4
  have hng : decide ((ms : Int) < 0) = false := by simp
  have hc := eq_same _ _ _ _ E w9 OG.out (RW.out.later B3.out)
  go_wp2_with (go_at_call 47; refine hc.mono ?_; rintro e w10 ⟨rfl, nn, hnn⟩; have hb : Below w9.heap.size w9 w10 := (by rw [hnn]; exact below_draws _ _ _); clear hnn; refine Hid.out ?_)
  refine Lib.hid ?_
  replace KP := tkb hb LP KP
  replace LP := tlz LP hb.size
  replace B3 := tbt B3 hb
  replace SZ := Lib.hid (Nat.le_trans SZ.out hb.size)
  replace OG := Lib.hid (OG.out.later hb)
  replace BB := tbt BB hb
  clear hc hb 
  have hc := mark_row _ _ E 1 (by omega) (by omega) w10 OG.out
  obtain ⟨T, hT⟩ : ∃ T, T = 1 + E.length := ⟨_, rfl⟩
  rw [← hT] at hc
  have HT := Lib.hid hT
  clear hT
  have hown := OG.out.own
  have hx3 : w3.heap.size ≤ X1.heap.size := by have := N4.out; have := N1.out; omega
  have hx0 : w.heap.size < X1.heap.size := by have := N3.out; omega
  go_wp2_with (go_at_call 48; refine hc.mono ?_; rintro e w11 ⟨rfl, hmk, hgr⟩; refine Hid.out ?_)
  refine Lib.hid ?_
  have MK := Lib.hid hmk
  replace KP := tkg hgr LP KP (fun e => by have := hown _ e.symm; omega)
  replace LP := tlz LP hgr.size
  replace B3 := Lib.hid (B3.out.grown hgr B3.out.size (fun k hk => by have := hown k hk; omega))
  replace BB := Lib.hid (BB.out.grown hgr BB.out.size (fun k hk => by have := hown k hk; omega))
  clear hgr hmk hc OG SZ hx3 hx0 hown
  have hT0 : decide ((T : Int) < 0) = false := by simp
  have hTT : ((T : Int) != (T : Int)) = false := by simp
  have hc := held_row _ _ E.length 1 (by omega) (by omega) w11 MK.out
  rw [← HT.out] at hc
  go_wp2_with (go_at_call 49; refine hc.mono ?_; rintro e w12 ⟨rfl, hb⟩; refine Hid.out ?_)
  refine Lib.hid ?_
  replace KP := tkb hb LP KP
  replace LP := tlz LP hb.size
  replace B3 := tbt B3 hb
  replace MK := Lib.hid (MK.out.later hb)
  replace BB := tbt BB hb
  clear hc hb
  have hc := to_state s _ w.heap.size w12 (HR.out.later BB.out (Nat.le_refl _)) BB.out.size Hs.out
  have fP0 := tcr KP 0
  have fP1 := tcr KP 1
  go_wp2_with (go_at_call 51; refine hc.mono ?_; rintro e w13 ⟨v13, rfl, ho13, hb⟩; refine Hid.out ?_)
  refine Lib.hid ?_
  replace KP := tkb hb LP KP
  replace LP := tlz LP hb.size
  replace B3 := tbt B3 hb
  replace MK := Lib.hid (MK.out.later hb)
  replace BB := tbt BB hb
  clear hc hb fP0 fP1
  have st13 := ho13.st Hs.out.lens.1 Hs.out.lens.2
  have hc := impl_export s v13 n size w13.heap.size w13 st13 (Nat.le_refl _) Hfit.out
  rw [← HE.out] at hc
  go_wp2_with (go_at_call 35; refine hc.mono ?_; rintro e w14 ⟨vH, rfl, hoH, hb⟩; refine Hid.out ?_)
  refine Lib.hid ?_
  replace KP := tkb hb LP KP
  replace LP := tlz LP hb.size
  replace B3 := tbt B3 hb
  replace MK := Lib.hid (MK.out.later hb)
  replace BB := tbt BB hb
  clear hc hb 
  have hc := eq_same _ _ _ _ E w14 hoH (RW.out.later B3.out)
  go_wp2_with (go_at_call 47; refine hc.mono ?_; rintro e w15 ⟨rfl, nn, hnn⟩; have hb : Below w14.heap.size w14 w15 := (by rw [hnn]; exact below_draws _ _ _); clear hnn; refine Hid.out ?_)
  refine Lib.hid ?_
  replace KP := tkb hb LP KP
  replace LP := tlz LP hb.size
  replace B3 := tbt B3 hb
  replace MK := Lib.hid (MK.out.later hb)
  replace BB := tbt BB hb
  clear hc hb 
  clear hoH ho13 st13
  have hc := held_row _ _ E.length 1 (by omega) (by omega) w15 MK.out
  rw [← HT.out] at hc
  go_wp2_with (go_at_call 49; refine hc.mono ?_; rintro e w16 ⟨rfl, hb⟩; refine Hid.out ?_)
  refine Lib.hid ?_
  replace KP := tkb hb LP KP
  replace LP := tlz LP hb.size
  replace B3 := tbt B3 hb
  replace MK := Lib.hid (MK.out.later hb)
  replace BB := tbt BB hb
  clear hc hb
  go_wp2_with fail
  go_ret
  exact ⟨rfl, BB.out⟩
end Go.Proofs.Ytlklhmdpkicpnaa
