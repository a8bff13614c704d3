/- What VersionOf and Upgrade answer, the model's and the program's. Condition: a text of at most 2^40 bytes. -/
import Derived.Test.YtdpjdjkfedcojaaImplDecode
import Derived.Test.YtdpjdjkfedcojaaSpecDec
namespace Go.Proofs.Ytdpjdjkfedcojaa
open Go.RowKit
set_option linter.unusedVariables false
set_option linter.unusedSimpArgs false

theorem DecV.two {w : World} {b : Nat} {v : Value} {s : St} (h : DecV w b v s) : ∃ a0 k0 a1 k1, v = .agg #[.slice a0 s.items.length k0, .slice a1 s.talks.length k1] := by
  rcases h with ⟨rfl, rfl⟩ | h
  · exact ⟨none, 0, none, 0, rfl⟩
  · obtain ⟨_, _, _, _, _, _, h, _, ⟨a0, rfl, _⟩, ⟨a1, rfl, _⟩, _⟩ := h
    exact ⟨_, _, _, _, h⟩
theorem good_fits2 {s : St} (h : stOk s = true) : Fits s := by
  obtain ⟨i1, i2, _, _⟩ := ok_smI h
  refine ⟨fun x hx => ?_, fun x hx => ?_⟩
  · have := i1 x hx
    unfold SmI at this; unfold maxLen; omega
  · have := i2 x hx
    unfold SmT at this; unfold maxLen; omega
theorem not_empty {a : ByteArray} (h : a ≠ ⟨#[]⟩) : a.toList.isEmpty = false := by
  rw [Bool.eq_false_iff]
  intro hc
  apply h
  rw [List.isEmpty_iff, ByteArray.toList_eq] at hc
  exact ByteArray.ext (Array.toList_inj.mp (by rw [hc]))
theorem fmt_pos {s : St} {v : Int} (h1 : stOk s = true) (h2 : inB v 1 3 = true) : fmtS s v ≠ ⟨#[]⟩ := by
  intro h
  have hd := dec_back h1 h2
  rw [h] at hd
  have h3 : (decS ⟨#[]⟩).2 = 0 := rfl
  rw [hd] at h3
  have := inB_true h2
  simp only at h3
  omega
theorem impl_versionOf (t : ByteArray) (w : World) (ht : t.size ≤ 1099511627776) :
    Calls Try.prog 21 #[.string t] w fun e w' => e = .returned (.int .i64 (decS t).2) ∧ Below w.heap.size w w' := by
  have hc := impl_decode t w ht
  obtain ⟨q, hq⟩ : ∃ q, q = (decS t).2 := ⟨_, rfl⟩
  rw [← hq] at hc ⊢
  clear hq
  go_enter Try.func21, Try.ntmps21
  go_wp2_with (go_at_call 48; refine hc.mono ?_; rintro e w1 ⟨v, rfl, hd, hb, _⟩; obtain ⟨a0, k0, a1, k1, rfl⟩ := hd.two; refine Hid.out ?_)
  refine Lib.hid ?_
  clear hc hd
  go_wp2_with fail
  go_ret
  exact ⟨rfl, hb.trans (((Below.refl _ _).alloc (Nat.le_refl _) _).mono hb.size)⟩
end Go.Proofs.Ytdpjdjkfedcojaa
