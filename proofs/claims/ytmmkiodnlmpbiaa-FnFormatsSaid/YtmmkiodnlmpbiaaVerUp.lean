/- What VersionOf and Upgrade answer, the model's and the program's. Condition: a text of at most 2^40 bytes. -/
import Derived.Test.YtmmkiodnlmpbiaaImplDecode
import Derived.Test.YtmmkiodnlmpbiaaSpecDec
namespace Go.Proofs.Ytmmkiodnlmpbiaa
open Go.RowKit
set_option linter.unusedVariables false
set_option linter.unusedSimpArgs false

theorem DecV.two {w : World} {b : Nat} {v : Value} {s : St} (h : DecV w b v s) : ∃ a0 k0 a1 k1, v = .agg #[.slice a0 s.items.length k0, .slice a1 s.talks.length k1] := by
  rcases h with ⟨rfl, rfl⟩ | h
  · exact ⟨none, 0, none, 0, rfl⟩
  · obtain ⟨_, _, _, _, _, _, h, _, ⟨a0, rfl, _⟩, ⟨a1, rfl, _⟩, _⟩ := h
    exact ⟨_, _, _, _, h⟩
theorem good_fits2 {s : St} (h : stOk s = true) : Fits s := by
  obtain ⟨i1, i2, _, _⟩ := ok_smI h
  refine ⟨fun x hx => ?_, fun x hx => ?_⟩
  · have := i1 x hx
    unfold SmI at this; unfold maxLen; omega
  · have := i2 x hx
    unfold SmT at this; unfold maxLen; omega
theorem not_empty {a : ByteArray} (h : a ≠ ⟨#[]⟩) : a.toList.isEmpty = false := by
  rw [Bool.eq_false_iff]
  intro hc
  apply h
  rw [List.isEmpty_iff, ByteArray.toList_eq] at hc
  exact ByteArray.ext (Array.toList_inj.mp (by rw [hc]))
theorem fmt_pos {s : St} {v : Int} (h1 : stOk s = true) (h2 : inB v 1 3 = true) : fmtS s v ≠ ⟨#[]⟩ := by
  intro h
  have hd := dec_back h1 h2
  rw [h] at hd
  have h3 : (decS ⟨#[]⟩).2 = 0 := rfl
  rw [hd] at h3
  have := inB_true h2
  simp only at h3
  omega
theorem spec_versionOf (t : ByteArray) (w : World) (ht : t.size ≤ 1099511627776) :
    Calls Try.prog 22 #[.string t] w fun e w' => e = .returned (.int .i64 (decS t).2) ∧ Below w.heap.size w w' := by
  have hc := spec_decode t w ht
  obtain ⟨q, hq⟩ : ∃ q, q = (decS t).2 := ⟨_, rfl⟩
  rw [← hq] at hc ⊢
  clear hq
  go_enter Try.func22, Try.ntmps22
  go_wp2_with (go_at_call 20; refine hc.mono ?_; rintro e w1 ⟨v, rfl, hd, hb, _⟩; obtain ⟨a0, k0, a1, k1, rfl⟩ := hd.two; refine Hid.out ?_)
  refine Lib.hid ?_
  clear hc hd
  go_wp2_with fail
  go_ret
  exact ⟨rfl, hb.trans (((Below.refl _ _).alloc (Nat.le_refl _) _).mono hb.size)⟩
theorem impl_versionOf (t : ByteArray) (w : World) (ht : t.size ≤ 1099511627776) :
    Calls Try.prog 18 #[.string t] w fun e w' => e = .returned (.int .i64 (decS t).2) ∧ Below w.heap.size w w' := by
  have hc := impl_decode t w ht
  obtain ⟨q, hq⟩ : ∃ q, q = (decS t).2 := ⟨_, rfl⟩
  rw [← hq] at hc ⊢
  clear hq
  go_enter Try.func18, Try.ntmps18
  go_wp2_with (go_at_call 16; refine hc.mono ?_; rintro e w1 ⟨v, rfl, hd, hb, _⟩; obtain ⟨a0, k0, a1, k1, rfl⟩ := hd.two; refine Hid.out ?_)
  refine Lib.hid ?_
  clear hc hd
  go_wp2_with fail
  go_ret
  exact ⟨rfl, hb.trans (((Below.refl _ _).alloc (Nat.le_refl _) _).mono hb.size)⟩
set_option maxRecDepth 100000 in
set_option maxHeartbeats 4000000 in
theorem spec_upgrade (t : ByteArray) (n : Int) (w : World) (ht : t.size ≤ 1099511627776) :
    Calls Try.prog 26 #[.string t, .int .i64 n] w fun e w' => e = .returned (.tuple #[.string (upS t n).1, .bool (upS t n).2]) ∧ Below w.heap.size w w' := by
  have hc := spec_decode t w ht
  obtain ⟨q, hq⟩ : ∃ q, q = (decS t).2 := ⟨_, rfl⟩
  obtain ⟨r, hr⟩ : ∃ r, r = (decS t).1 := ⟨_, rfl⟩
  have HF : Hid (q ≠ 0 → Fits r) := Lib.hid (fun h => by
    rw [hr]; rw [hq] at h
    exact good_fits2 (dec_fmt h).2.1)
  have HU : Hid (upS t n = if q = 0 ∨ n < q ∨ 3 < n then (⟨#[]⟩, false) else (fmtS r n, true)) := Lib.hid (by unfold upS; rw [← hq, ← hr])
  rw [← hq, ← hr] at hc
  clear hq hr
  go_enter Try.func26, Try.ntmps26
  go_wp2_with (go_at_call 20; refine hc.mono ?_; rintro e w1 ⟨v, rfl, hd, hb, _⟩; have SV := Lib.hid hd.st; obtain ⟨a0, k0, a1, k1, rfl⟩ := hd.two; refine Hid.out ?_)
  refine Lib.hid ?_
  clear hc hd
  obtain ⟨X, hX⟩ : ∃ X, X = w1.alloc (.cells #[.slice a0 r.items.length k0, .slice a1 r.talks.length k1] 27) := ⟨_, rfl⟩
  have bX : Below w1.heap.size w1 X := by rw [hX]; exact (Below.refl _ _).alloc (Nat.le_refl _) _
  have KX : Hid (X.heap[w1.heap.size]? = some (.cells #[.slice a0 r.items.length k0, .slice a1 r.talks.length k1] 27 (0, 0))) := Lib.hid (by rw [hX]; exact heap_new _ _)
  have BB : Hid (Below w.heap.size w X) := Lib.hid (hb.trans (bX.mono hb.size))
  have f0 := tcr KX 0
  have f1 := tcr KX 1
  by_cases h0 : q = 0
  · have hq0 : (q == 0) = true := by simp [h0]
    have HR : Hid (((⟨#[]⟩ : ByteArray), false) = upS t n) := Lib.hid (by rw [HU.out, if_pos (.inl h0)])
    clear h0
    go_wp2_with fail
    rw [← hX]
    go_ret2
    exact ⟨ret_txtbool HR.out, BB.out⟩
  · have hq0 : (q == 0) = false := by simpa using h0
    by_cases h1 : n < q
    · have hd1 : decide (n < q) = true := by simpa using h1
      have HR : Hid (((⟨#[]⟩ : ByteArray), false) = upS t n) := Lib.hid (by rw [HU.out, if_pos (.inr (.inl h1))])
      clear h0 h1
      go_wp2_with fail
      rw [← hX]
      go_ret2
      exact ⟨ret_txtbool HR.out, BB.out⟩
    · have hd1 : decide (n < q) = false := by simpa using h1
      by_cases h3 : 3 < n
      · have hd3 : decide (3 < n) = true := by simpa using h3
        have HR : Hid (((⟨#[]⟩ : ByteArray), false) = upS t n) := Lib.hid (by rw [HU.out, if_pos (.inr (.inr h3))])
        clear h0 h1 h3
        go_wp2_with fail
        rw [← hX]
        go_ret2
        exact ⟨ret_txtbool HR.out, BB.out⟩
      · have hd3 : decide (3 < n) = false := by simpa using h3
        have HR : Hid ((fmtS r n, true) = upS t n) := Lib.hid (by rw [HU.out, if_neg (by omega)])
        have hc := spec_encode r _ n X.heap.size X (SV.out.later bX bX.size) (Nat.le_refl _) (HF.out h0)
        rw [hX] at hc f0 f1
        clear h0 h1 h3
        go_wp2_with (go_at_call 14; refine hc.mono ?_; rintro e w4 ⟨rfl, hb4⟩)
        rw [← hX] at hb4
        go_ret2
        exact ⟨ret_txtbool HR.out, BB.out.trans (hb4.mono BB.out.size)⟩
set_option maxRecDepth 100000 in
set_option maxHeartbeats 4000000 in
theorem impl_upgrade (t : ByteArray) (n : Int) (w : World) (ht : t.size ≤ 1099511627776) :
    Calls Try.prog 25 #[.string t, .int .i64 n] w fun e w' => e = .returned (.tuple #[.string (upS t n).1, .bool (upS t n).2]) ∧ Below w.heap.size w w' := by
  have hc := impl_decode t w ht
  obtain ⟨q, hq⟩ : ∃ q, q = (decS t).2 := ⟨_, rfl⟩
  obtain ⟨r, hr⟩ : ∃ r, r = (decS t).1 := ⟨_, rfl⟩
  have HF : Hid (q ≠ 0 → Fits r ∧ stOk r = true ∧ 1 ≤ q) := Lib.hid (fun h => by
    rw [hr]; rw [hq] at h
    have h3 := inB_true (dec_fmt h).2.2
    exact ⟨good_fits2 (dec_fmt h).2.1, (dec_fmt h).2.1, by rw [hq]; omega⟩)
  have HU : Hid (upS t n = if q = 0 ∨ n < q ∨ 3 < n then (⟨#[]⟩, false) else (fmtS r n, true)) := Lib.hid (by unfold upS; rw [← hq, ← hr])
  rw [← hq, ← hr] at hc
  clear hq hr
  go_enter Try.func25, Try.ntmps25
  go_wp2_with (go_at_call 16; refine hc.mono ?_; rintro e w1 ⟨v, rfl, hd, hb, _⟩; have SV := Lib.hid hd.st; obtain ⟨a0, k0, a1, k1, rfl⟩ := hd.two; refine Hid.out ?_)
  refine Lib.hid ?_
  clear hc hd
  obtain ⟨X, hX⟩ : ∃ X, X = w1.alloc (.cells #[.slice a0 r.items.length k0, .slice a1 r.talks.length k1] 27) := ⟨_, rfl⟩
  have bX : Below w1.heap.size w1 X := by rw [hX]; exact (Below.refl _ _).alloc (Nat.le_refl _) _
  have KX : Hid (X.heap[w1.heap.size]? = some (.cells #[.slice a0 r.items.length k0, .slice a1 r.talks.length k1] 27 (0, 0))) := Lib.hid (by rw [hX]; exact heap_new _ _)
  have BB : Hid (Below w.heap.size w X) := Lib.hid (hb.trans (bX.mono hb.size))
  have f0 := tcr KX 0
  have f1 := tcr KX 1
  by_cases h0 : q = 0
  · have hq0 : (q == 0) = true := by simp [h0]
    have HR : Hid (((⟨#[]⟩ : ByteArray), false) = upS t n) := Lib.hid (by rw [HU.out, if_pos (.inl h0)])
    clear h0
    go_wp2_with fail
    rw [← hX]
    go_ret2
    exact ⟨ret_txtbool HR.out, BB.out⟩
  · have hq0 : (q == 0) = false := by simpa using h0
    by_cases h1 : n < q
    · have hd1 : decide (n < q) = true := by simpa using h1
      have HR : Hid (((⟨#[]⟩ : ByteArray), false) = upS t n) := Lib.hid (by rw [HU.out, if_pos (.inr (.inl h1))])
      clear h0 h1
      go_wp2_with fail
      rw [← hX]
      go_ret2
      exact ⟨ret_txtbool HR.out, BB.out⟩
    · have hd1 : decide (n < q) = false := by simpa using h1
      obtain ⟨E, hE⟩ : ∃ E, E = fmtS r n := ⟨_, rfl⟩
      have hc := impl_encode r _ n X.heap.size X (SV.out.later bX bX.size) (Nat.le_refl _) (HF.out h0).1
      rw [← hE, hX] at hc
      rw [hX] at f0 f1
      by_cases h3 : 3 < n
      · have hEe : E = ⟨#[]⟩ := by rw [hE]; exact fmtS_bad (.inr (by unfold inB; simp; omega))
        have HR : Hid (((⟨#[]⟩ : ByteArray), false) = upS t n) := Lib.hid (by rw [HU.out, if_pos (.inr (.inr h3))])
        subst hEe
        clear h0 h1 h3 hE
        go_wp2_with (go_at_call 13; refine hc.mono ?_; rintro e w4 ⟨rfl, hb4⟩)
        rw [← hX] at hb4
        go_ret2
        exact ⟨ret_txtbool HR.out, BB.out.trans (hb4.mono BB.out.size)⟩
      · have hEe : E ≠ ⟨#[]⟩ := by
          rw [hE]; exact fmt_pos (HF.out h0).2.1 (by have := (HF.out h0).2.2; unfold inB; simp; omega)
        have hqt := not_empty hEe
        have HR : Hid ((E, true) = upS t n) := Lib.hid (by rw [HU.out, if_neg (by omega), hE])
        clear h0 h1 h3 hE hEe
        go_wp2_with (go_at_call 13; refine hc.mono ?_; rintro e w4 ⟨rfl, hb4⟩)
        rw [← hX] at hb4
        go_ret2
        exact ⟨ret_txtbool HR.out, BB.out.trans (hb4.mono BB.out.size)⟩
end Go.Proofs.Ytmmkiodnlmpbiaa
