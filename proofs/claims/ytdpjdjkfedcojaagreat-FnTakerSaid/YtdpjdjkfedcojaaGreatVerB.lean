/- What the proofs of this seat have in common: plain facts, rows in memory, the laws' own helpers, the small functions' contracts. Condition: none. -/
import Derived.Test.YtdpjdjkfedcojaaGreatBaseA
import Derived.Test.YtdpjdjkfedcojaaGreatImplCut
import Derived.Test.YtdpjdjkfedcojaaGreatImplEnc
import Derived.Test.YtdpjdjkfedcojaaGreatStrA
import Derived.Test.YtdpjdjkfedcojaaGreatImplDecode
import Derived.Test.YtdpjdjkfedcojaaGreatSpecDec
namespace Go.Proofs.YtdpjdjkfedcojaaGreat
open Go.RowKit
set_option linter.unusedVariables false
set_option linter.unusedSimpArgs false

set_option maxRecDepth 100000 in
set_option maxHeartbeats 4000000 in
theorem impl_export (s : St) (v : Value) (n size : Int) (B : Nat) (w : World) (hs : StV w B v s) (hB : B ≤ w.heap.size) (hfit : Fits s) :
    Calls Tryz.prog 7 #[v, .int .i64 n, .int .i64 size] w fun e w' => ∃ r, e = .returned r ∧ Texts w' w.heap.size r (cutS (fmtS s n) size) ∧ Below w.heap.size w w' := by
  obtain ⟨vi, vt, rfl, hri, hrt⟩ := hs.rd
  obtain ⟨W, hW⟩ : ∃ W, W = w.alloc (.cells #[vi, vt] 27) := ⟨_, rfl⟩
  have bW : Below w.heap.size w W := by rw [hW]; exact (Below.refl _ _).alloc (Nat.le_refl _) _
  have hc0 := impl_encode s _ n B W (hs.later (bW.mono hB) (Nat.le_refl _)) (Nat.le_trans hB bW.size) hfit
  have hle := fmt_le s n
  have BB := Lib.hid bW
  clear bW hs hri hrt
  obtain ⟨E, hE⟩ : ∃ z, z = fmtS s n := ⟨_, rfl⟩
  rw [← hE] at hc0 hle ⊢
  have k2 := fun w => impl_cut E size w (by omega)
  clear hE
  rw [hW] at hc0
  go_enter Tryz.func7, Tryz.ntmps7
  go_wp2_with (first | (go_at_call 28; refine hc0.mono ?_; rintro e w1 ⟨rfl, hb⟩; rw [← hW] at hb; replace BB := tbt BB hb; clear hb) | (go_at_call 27; refine (k2 _).mono ?_; rintro e w2 ⟨r, rfl, hr, hb⟩))
  go_ret
  exact ⟨_, rfl, hr.lower BB.out.size, BB.out.trans (hb.mono BB.out.size)⟩
end Go.Proofs.YtdpjdjkfedcojaaGreat

namespace Go.Proofs.YtdpjdjkfedcojaaGreat
open Go.RowKit
set_option linter.unusedVariables false
set_option linter.unusedSimpArgs false

theorem DecV.two {w : World} {b : Nat} {v : Value} {s : St} (h : DecV w b v s) : ∃ a0 k0 a1 k1, v = .agg #[.slice a0 s.items.length k0, .slice a1 s.talks.length k1] := by
  rcases h with ⟨rfl, rfl⟩ | h
  · exact ⟨none, 0, none, 0, rfl⟩
  · obtain ⟨_, _, _, _, _, _, h, _, ⟨a0, rfl, _⟩, ⟨a1, rfl, _⟩, _⟩ := h
    exact ⟨_, _, _, _, h⟩
theorem good_fits2 {s : St} (h : stOk s = true) : Fits s := by
  obtain ⟨i1, i2, _, _⟩ := ok_smI h
  refine ⟨fun x hx => ?_, fun x hx => ?_⟩
  · have := i1 x hx
    unfold SmI at this; unfold maxLen; omega
  · have := i2 x hx
    unfold SmT at this; unfold maxLen; omega
theorem not_empty {a : ByteArray} (h : a ≠ ⟨#[]⟩) : a.toList.isEmpty = false := by
  rw [Bool.eq_false_iff]
  intro hc
  apply h
  rw [List.isEmpty_iff, ByteArray.toList_eq] at hc
  exact ByteArray.ext (Array.toList_inj.mp (by rw [hc]))
theorem fmt_pos {s : St} {v : Int} (h1 : stOk s = true) (h2 : inB v 1 3 = true) : fmtS s v ≠ ⟨#[]⟩ := by
  intro h
  have hd := dec_back h1 h2
  rw [h] at hd
  have h3 : (decS ⟨#[]⟩).2 = 0 := rfl
  rw [hd] at h3
  have := inB_true h2
  simp only at h3
  omega
end Go.Proofs.YtdpjdjkfedcojaaGreat
