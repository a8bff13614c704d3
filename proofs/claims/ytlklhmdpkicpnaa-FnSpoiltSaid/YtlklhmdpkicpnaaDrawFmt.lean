/- The draws of this chapter: texts of the formats, bent sometimes; a number besides. Condition: a code of at most 2^20 bytes. -/
import Derived.Test.YtlklhmdpkicpnaaDrawState
import Derived.Test.YtlklhmdpkicpnaaCurA
import Derived.Test.YtlklhmdpkicpnaaSpecEnc
import Derived.Test.YtlklhmdpkicpnaaBldA
namespace Go.Proofs.Ytlklhmdpkicpnaa
open Go.RowKit
set_option linter.unusedVariables false
set_option linter.unusedSimpArgs false

theorem fmt_le (s : St) (v : Int) : (fmtS s v).size ≤ 8192 := by
  unfold fmtS
  split
  · rename_i h
    obtain ⟨i1, i2, i3, i4⟩ := ok_smI h.1
    have h1 := encI_flat i1
    have h2 := encT_flat i2
    have hb : ∀ n, (bodyL n s).length ≤ 8010 := by
      intro n
      unfold bodyL
      rw [List.length_append, List.length_append, List.length_append, List.length_append, be8_len, be8_len]
      split
      · simp only [List.length_cons, List.length_nil]; omega
      · rw [List.length_append, be8_len]; simp only [List.length_cons, List.length_nil]; omega
    have hs : ∀ n, (bodyB n s).size ≤ 8010 := fun n => hb n
    split
    · unfold sealB
      rw [ByteArray.size_append, leB_size]
      have := hs 3; omega
    · have := hs v.toNat; omega
  · exact Nat.zero_le _
theorem two_own {w : World} {b : Nat} {v : Value} {s : St} (h : OwnN w b v s) : ∃ a0 k0 a1 k1, v = .agg #[.slice a0 s.items.length k0, .slice a1 s.talks.length k1] := by
  obtain ⟨_, _, _, _, _, _, h, _, ⟨a0, rfl, _⟩, ⟨a1, rfl, _⟩, _⟩ := h
  exact ⟨_, _, _, _, h⟩
def int6 : Value → Bool
  | .int .i64 n => decide (-9223372036854775808 ≤ n ∧ n ≤ 9223372036854775807)
  | _ => false
theorem ints_row6 {w : World} {g : Nat} {cs : Array Value} {t : TypeId} (h : w.heap[g]? = some (.cells cs t (0, 0))) (hs : cs.toList.all int6 = true) (n : Nat) (hn : n = cs.size) : ∀ j, j < n → ∃ s : Int, w.cell? ⟨g, j, none⟩ = some (.int .i64 s) ∧ I64 (.int .i64 s) := by
  subst hn
  intro j hj
  have hc := cell_of_row w g j _ _ _ h
  rw [Array.getElem?_eq_getElem hj] at hc
  have h1 := List.all_eq_true.1 hs cs[j] (by simp)
  revert h1 hc
  cases cs[j] <;> intro hc h1 <;> simp [int6] at h1
  rename_i k n
  cases k <;> simp [int6] at h1
  exact ⟨n, hc, n, rfl, h1.1, h1.2⟩
theorem sm_fits {s : St} {a b : Nat} (h : Sm s a b) : Fits s := by
  obtain ⟨_, _, h1, h2⟩ := h
  refine ⟨fun x hx => ?_, fun x hx => ?_⟩
  · have := h1 x hx
    unfold maxLen; omega
  · have := h2 x hx
    unfold maxLen; omega
set_option maxRecDepth 100000 in
set_option maxHeartbeats 2000000 in
theorem text6_any (B blk : Nat) (w : World) (c : Cu TC w B blk) :
    Calls Try.prog 77 #[.pointer (some ⟨blk, 0, none⟩)] w (DrewText TC w B blk 8193) := by
  have LT := Lib.hid c.lt
  go_enter Try.func77, Try.ntmps77
  go_wp2_with (go_at_call 118; refine (make_any B blk w c).mono ?_; rintro e w1 ⟨v, s, rfl, own, hsm, cu, gr⟩; obtain ⟨a0, k0, a1, k1, rfl⟩ := two_own own; refine Hid.out ?_)
  refine Lib.hid ?_
  have OS := Lib.hid own
  have GR := Lib.hid gr
  have Hsm := Lib.hid (sm_fits hsm)
  clear c own gr hsm
  go_wp2_with (go_at_call 63; refine (below_any _ (by omega) B blk _ cu).mono ?_; rintro e w2 ⟨x, ⟨hx0, hx1, _⟩, rfl, cu2, gr2⟩; refine Hid.out ?_)
  refine Lib.hid ?_
  have hx1 := hx1 (by omega)
  replace OS := Lib.hid (OS.out.kept gr2 LT.out)
  replace GR := Lib.hid (GR.out.trans gr2)
  have CU := Lib.hid cu2
  clear cu gr2 cu2
  have hc := spec_encode s _ (1 + x) w2.heap.size w2 OS.out.st (Nat.le_refl _) Hsm.out
  have hz := fmt_le s (1 + x)
  obtain ⟨E, hE⟩ : ∃ E, E = fmtS s (1 + x) := ⟨_, rfl⟩
  rw [← hE] at hc hz
  clear hE
  go_wp2_with (go_at_call 86; refine hc.mono ?_; rintro e w3 ⟨rfl, hb3⟩; refine Hid.out ?_)
  refine Lib.hid ?_
  have cl := CU.out.lt
  have cle := CU.out.le
  replace CU := Lib.hid (CU.out.kept (hb3.mono (by omega)) (hb3.block _ cl))
  replace GR := Lib.hid (GR.out.trans (grown_of_below hb3 _))
  clear hc hb3 cl cle
  go_wp2_with (go_at_call 78; refine (once_any _ (by omega) B blk _ CU.out).mono ?_; rintro e w4 ⟨b, rfl, cu, gr⟩; refine Hid.out ?_)
  refine Lib.hid ?_
  replace CU := Lib.hid cu
  replace GR := Lib.hid (GR.out.trans gr)
  clear cu gr
  cases b
  · go_wp2_with fail
    go_ret
    exact ⟨E, by omega, rfl, CU.out, GR.out⟩
  · go_wp2_with (go_at_call 64; refine (bent_any E 8192 (by omega) hz B blk _ CU.out).mono ?_; rintro e w5 ⟨u, hu, rfl, cu, gr⟩)
    go_ret
    exact ⟨u, hu, rfl, cu, GR.out.trans gr⟩
end Go.Proofs.Ytlklhmdpkicpnaa
