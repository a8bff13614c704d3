/- The exact law of Encode: the program answers as its model and keeps its argument. Condition: none beyond what the arguments may be. -/
import Derived.Test.YtmmkiodnlmpbiaaBaseA
import Derived.Test.YtmmkiodnlmpbiaaImplEnc
import Derived.Test.YtmmkiodnlmpbiaaSpecEnc
import Derived.Test.YtmmkiodnlmpbiaaExactPlain
namespace Go.Proofs.Ytmmkiodnlmpbiaa
open Go.RowKit
set_option linter.unusedVariables false
set_option linter.unusedSimpArgs false

set_option maxRecDepth 100000 in
set_option maxHeartbeats 8000000 in
theorem law_encode (s : St) (v : Value) (n : Int) (w : World) (hr : RawS w w.heap.size v s) :
    Calls Try.prog 7 #[v, .int .i64 n] w fun e w' => e = .returned (.bool true) ∧ Below w.heap.size w w' := by
  have hfit := hr.fits
  obtain ⟨vi, vt, rfl, h1, h2, h3, h4⟩ := hr
  have HR : Hid (RawS w w.heap.size (.agg #[vi, vt]) s) := Lib.hid ⟨vi, vt, rfl, h1, h2, h3, h4⟩
  have Hfit := Lib.hid hfit
  have BB : Hid (Below w.heap.size w w) := Lib.hid (Below.refl _ _)
  obtain ⟨E, hE⟩ : ∃ E, E = fmtS s n := ⟨_, rfl⟩
  have HE := Lib.hid hE
  clear hfit h1 h2 h3 h4 hE
  obtain ⟨W, hW⟩ : ∃ z, z = w.alloc (.cells #[vi, vt] 44) := ⟨_, rfl⟩
  have hb : Below w.heap.size w W := by rw [hW]; exact (Below.refl _ _).alloc (Nat.le_refl _) _
  replace BB := tbt BB hb
  have KP : Hid (W.heap[w.heap.size]? = some (.cells #[vi, vt] 44 (0, 0))) := Lib.hid (by rw [hW]; exact heap_new _ _)
  have LP : Hid (w.heap.size < W.heap.size) := Lib.hid (by rw [hW]; simp)
  clear hb
  go_enter Try.func7, Try.ntmps7
  have hc := sz_state s _ w.heap.size 1048576 W (HR.out.later BB.out (Nat.le_refl _)) BB.out.size (by omega)
  have fP0 := tcr KP 0
  have fP1 := tcr KP 1
  rw [hW] at hc fP0 fP1
  go_wp2_with (go_at_call 28; refine hc.mono ?_; rintro e w1 ⟨q, rfl, hr0, hr1, hr2, hb⟩; refine Hid.out ?_)
  refine Lib.hid ?_
  rw [← hW] at hb 
  clear hW
  replace KP := tkb hb LP KP
  replace LP := tlz LP hb.size
  replace BB := tbt BB hb
  clear hc hb fP0 fP1
  by_cases hneg : q < 0
  · clear hr2
    go_wp2_with fail
    go_ret
    exact ⟨rfl, BB.out⟩
  have Hs := Lib.hid (hr2 (by omega))
  clear hr2
  have hc := to_state s _ w.heap.size w1 (HR.out.later BB.out (Nat.le_refl _)) BB.out.size Hs.out
  have fP0 := tcr KP 0
  have fP1 := tcr KP 1
  go_wp2_with (go_at_call 29; refine hc.mono ?_; rintro e w2 ⟨v2, rfl, ho2, hb⟩; refine Hid.out ?_)
  refine Lib.hid ?_
  replace KP := tkb hb LP KP
  replace LP := tlz LP hb.size
  replace BB := tbt BB hb
  clear hc hb fP0 fP1
  have st2 := ho2.st Hs.out.lens.1 Hs.out.lens.2
  have hc := spec_encode s v2 n w2.heap.size w2 st2 (Nat.le_refl _) Hfit.out
  rw [← HE.out] at hc
  go_wp2_with (go_at_call 14; refine hc.mono ?_; rintro e w3 ⟨rfl, hb⟩; refine Hid.out ?_)
  refine Lib.hid ?_
  replace KP := tkb hb LP KP
  replace LP := tlz LP hb.size
  replace BB := tbt BB hb
  clear hc hb 
  clear ho2 st2
  have hc := to_state s _ w.heap.size w3 (HR.out.later BB.out (Nat.le_refl _)) BB.out.size Hs.out
  have fP0 := tcr KP 0
  have fP1 := tcr KP 1
  go_wp2_with (go_at_call 29; refine hc.mono ?_; rintro e w4 ⟨v4, rfl, ho4, hb⟩; refine Hid.out ?_)
  refine Lib.hid ?_
  replace KP := tkb hb LP KP
  replace LP := tlz LP hb.size
  replace BB := tbt BB hb
  clear hc hb fP0 fP1
  obtain ⟨xi, xt, rfl, hne4, gX, tX⟩ := (ho4.c Hs.out.lens.1 Hs.out.lens.2)
  have GX := Lib.hid gX
  have TX := Lib.hid tX
  clear gX tX ho4 hne4
  obtain ⟨X1, hX1⟩ : ∃ z, z = w4.alloc (.cells #[.slice (some ⟨xi, 0, none⟩) s.items.length s.items.length, .slice (some ⟨xt, 0, none⟩) s.talks.length s.talks.length] 27) := ⟨_, rfl⟩
  have hb : Below w4.heap.size w4 X1 := by rw [hX1]; exact (Below.refl _ _).alloc (Nat.le_refl _) _
  replace KP := tkb hb LP KP
  replace LP := tlz LP hb.size
  replace GX := Lib.hid (GX.out.later hb)
  replace TX := Lib.hid (TX.out.later hb)
  replace BB := tbt BB hb
  have KX : Hid (X1.heap[w4.heap.size]? = some (.cells #[.slice (some ⟨xi, 0, none⟩) s.items.length s.items.length, .slice (some ⟨xt, 0, none⟩) s.talks.length s.talks.length] 27 (0, 0))) := Lib.hid (by rw [hX1]; exact heap_new _ _)
  have LX : Hid (w4.heap.size < X1.heap.size) := Lib.hid (by rw [hX1]; simp)
  clear hb
  have hc := impl_encode s _ n X1.heap.size X1 (st_parts GX.out TX.out) (Nat.le_refl _) Hfit.out
  rw [← HE.out] at hc
  have fX0 := tcr KX 0
  have fX1 := tcr KX 1
  rw [hX1] at hc fX0 fX1
  go_wp2_with (go_at_call 13; refine hc.mono ?_; rintro e w5 ⟨rfl, hb⟩; refine Hid.out ?_)
  refine Lib.hid ?_
  rw [← hX1] at hb 
  clear hX1
  replace KP := tkb hb LP KP
  replace LP := tlz LP hb.size
  replace KX := tkb hb LX KX
  replace LX := tlz LX hb.size
  replace GX := Lib.hid (GX.out.later hb)
  replace TX := Lib.hid (TX.out.later hb)
  replace BB := tbt BB hb
  clear hc hb fX0 fX1
  go_wp2_with fail
  have FX : Hid (∀ w', Below w5.heap.size w5 w' → w'.cell? ⟨w4.heap.size, 0, none⟩ = some (.slice (some ⟨xi, 0, none⟩) s.items.length s.items.length) ∧ w'.cell? ⟨w4.heap.size, 1, none⟩ = some (.slice (some ⟨xt, 0, none⟩) s.talks.length s.talks.length)) := Lib.hid (fun w' h => by have K := tkb h LX KX; exact ⟨tcr K 0, tcr K 1⟩)
  have FP : Hid (∀ w', Below w5.heap.size w5 w' → w'.cell? ⟨w.heap.size, 0, none⟩ = some (vi) ∧ w'.cell? ⟨w.heap.size, 1, none⟩ = some (vt)) := Lib.hid (fun w' h => by have K := tkb h LP KP; exact ⟨tcr K 0, tcr K 1⟩)
  refine wp_region_held_drew (S := (fun w' => Below w5.heap.size w5 w')) (by kernel_rfl) (Below.refl _ _).drew (fun hHeld => ?_)
  obtain ⟨zD, hzD⟩ : ∃ zz, zz = w5.drew := ⟨_, rfl⟩
  rw [← hzD] at hHeld ⊢
  clear hzD
  have BD := Lib.hid hHeld
  refine tk 0 (v := ?_) ?_ ?_; rotate_left
  · refine Or.inl ⟨by rfl, ?_⟩; intro w hSw; obtain ⟨hX0, hX1⟩ := FX.out w hSw; go_simp; first | done | with_reducible rfl
  refine tk 1 (v := ?_) ?_ ?_; rotate_left
  · refine Or.inl ⟨by rfl, ?_⟩; intro w hSw; obtain ⟨hP0, hP1⟩ := FP.out w hSw; go_simp; first | done | with_reducible rfl
  refine rd1 2 (fun K hK => ?_)
  go_simp
  have hc := to_state s _ w.heap.size zD (HR.out.later (BB.out.trans (BD.out.mono BB.out.size)) (Nat.le_refl _)) (BB.out.trans (BD.out.mono BB.out.size)).size Hs.out
  go_at_call 29
  refine hc.mono ?_
  rintro e w7 ⟨v7, rfl, ho7, hb⟩
  have ST7 := Lib.hid (ho7.st Hs.out.lens.1 Hs.out.lens.2)
  clear ho7
  replace BD := tbt BD hb
  clear hc hb
  go_wp2_with fail
  refine hK.out _ _ BD.out (fun hHeld => ?_)
  clear hK K
  refine rd1 3 (fun K hK => ?_)
  go_simp
  have hc := eq_state s _ _ w7.heap.size w7 (rd_parts (.inl rfl) (.inl rfl) (GX.out.later BD.out) (TX.out.later BD.out)) ST7.out.rd (Nat.le_refl _)
  go_at_call 30
  refine hc.mono ?_
  rintro e w8 ⟨rfl, hb⟩
  replace BD := tbt BD hb
  clear hc hb
  go_wp2_with fail
  refine hK.out _ _ BD.out (fun hHeld => ?_)
  clear hK K
  refine tk0 4 ?_
  refine wpAnyH_done (by kernel_rfl) ?_ _
  clear hHeld
  have hb := BD.out
  replace KP := tkb hb LP KP
  replace LP := tlz LP hb.size
  replace KX := tkb hb LX KX
  replace LX := tlz LX hb.size
  replace GX := Lib.hid (GX.out.later hb)
  replace TX := Lib.hid (TX.out.later hb)
  replace BB := tbt BB hb
  clear hb BD
  go_wp2_with fail
  go_ret
  exact ⟨rfl, BB.out⟩
end Go.Proofs.Ytmmkiodnlmpbiaa
