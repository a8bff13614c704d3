/- What the program's Export answers. Condition: texts of at most 2^40 bytes. -/
import Derived.Test.YtlklhmdpkicpnaaBaseA
import Derived.Test.YtlklhmdpkicpnaaImplCut
import Derived.Test.YtlklhmdpkicpnaaImplEnc
import Derived.Test.YtlklhmdpkicpnaaStrA
namespace Go.Proofs.Ytlklhmdpkicpnaa
open Go.RowKit
set_option linter.unusedVariables false
set_option linter.unusedSimpArgs false

set_option maxRecDepth 100000 in
set_option maxHeartbeats 4000000 in
theorem impl_export (s : St) (v : Value) (n size : Int) (B : Nat) (w : World) (hs : StV w B v s) (hB : B ≤ w.heap.size) (hfit : Fits s) :
    Calls Try.prog 35 #[v, .int .i64 n, .int .i64 size] w fun e w' => ∃ r, e = .returned r ∧ Texts w' w.heap.size r (cutS (fmtS s n) size) ∧ Below w.heap.size w w' := by
  obtain ⟨vi, vt, rfl, hri, hrt⟩ := hs.rd
  obtain ⟨W, hW⟩ : ∃ W, W = w.alloc (.cells #[vi, vt] 44) := ⟨_, rfl⟩
  have bW : Below w.heap.size w W := by rw [hW]; exact (Below.refl _ _).alloc (Nat.le_refl _) _
  have hc0 := impl_encode s _ n B W (hs.later (bW.mono hB) (Nat.le_refl _)) (Nat.le_trans hB bW.size) hfit
  have hle := fmt_le s n
  have BB := Lib.hid bW
  clear bW hs hri hrt
  obtain ⟨E, hE⟩ : ∃ z, z = fmtS s n := ⟨_, rfl⟩
  rw [← hE] at hc0 hle ⊢
  have k2 := fun w => impl_cut E size w (by omega)
  clear hE
  rw [hW] at hc0
  go_enter Try.func35, Try.ntmps35
  go_wp2_with (first | (go_at_call 85; refine hc0.mono ?_; rintro e w1 ⟨rfl, hb⟩; rw [← hW] at hb; replace BB := tbt BB hb; clear hb) | (go_at_call 27; refine (k2 _).mono ?_; rintro e w2 ⟨r, rfl, hr, hb⟩))
  go_ret
  exact ⟨_, rfl, hr.lower BB.out.size, BB.out.trans (hb.mono BB.out.size)⟩
end Go.Proofs.Ytlklhmdpkicpnaa
