/- The draws of this chapter: texts of the formats, bent sometimes; a number besides. Condition: a code of at most 2^20 bytes. -/
import Derived.Test.YtdpjdjkfedcojaaGreatDrawState
import Derived.Test.YtdpjdjkfedcojaaGreatCurA
import Derived.Test.YtdpjdjkfedcojaaGreatSpecEnc
import Derived.Test.YtdpjdjkfedcojaaGreatBldA
namespace Go.Proofs.YtdpjdjkfedcojaaGreat
open Go.RowKit
set_option linter.unusedVariables false
set_option linter.unusedSimpArgs false

theorem fmt_le (s : St) (v : Int) : (fmtS s v).size ≤ 8192 := by
  unfold fmtS
  split
  · rename_i h
    obtain ⟨i1, i2, i3, i4⟩ := ok_smI h.1
    have h1 := encI_flat i1
    have h2 := encT_flat i2
    have hb : ∀ n, (bodyL n s).length ≤ 8010 := by
      intro n
      unfold bodyL
      rw [List.length_append, List.length_append, List.length_append, List.length_append, be8_len, be8_len]
      split
      · simp only [List.length_cons, List.length_nil]; omega
      · rw [List.length_append, be8_len]; simp only [List.length_cons, List.length_nil]; omega
    have hs : ∀ n, (bodyB n s).size ≤ 8010 := fun n => hb n
    split
    · unfold sealB
      rw [ByteArray.size_append, leB_size]
      have := hs 3; omega
    · have := hs v.toNat; omega
  · exact Nat.zero_le _
theorem two_own {w : World} {b : Nat} {v : Value} {s : St} (h : OwnN w b v s) : ∃ a0 k0 a1 k1, v = .agg #[.slice a0 s.items.length k0, .slice a1 s.talks.length k1] := by
  obtain ⟨_, _, _, _, _, _, h, _, ⟨a0, rfl, _⟩, ⟨a1, rfl, _⟩, _⟩ := h
  exact ⟨_, _, _, _, h⟩
def int6 : Value → Bool
  | .int .i64 n => decide (-9223372036854775808 ≤ n ∧ n ≤ 9223372036854775807)
  | _ => false
theorem ints_row6 {w : World} {g : Nat} {cs : Array Value} {t : TypeId} (h : w.heap[g]? = some (.cells cs t (0, 0))) (hs : cs.toList.all int6 = true) (n : Nat) (hn : n = cs.size) : ∀ j, j < n → ∃ s : Int, w.cell? ⟨g, j, none⟩ = some (.int .i64 s) ∧ I64 (.int .i64 s) := by
  subst hn
  intro j hj
  have hc := cell_of_row w g j _ _ _ h
  rw [Array.getElem?_eq_getElem hj] at hc
  have h1 := List.all_eq_true.1 hs cs[j] (by simp)
  revert h1 hc
  cases cs[j] <;> intro hc h1 <;> simp [int6] at h1
  rename_i k n
  cases k <;> simp [int6] at h1
  exact ⟨n, hc, n, rfl, h1.1, h1.2⟩
theorem sm_fits {s : St} {a b : Nat} (h : Sm s a b) : Fits s := by
  obtain ⟨_, _, h1, h2⟩ := h
  refine ⟨fun x hx => ?_, fun x hx => ?_⟩
  · have := h1 x hx
    unfold maxLen; omega
  · have := h2 x hx
    unfold maxLen; omega
end Go.Proofs.YtdpjdjkfedcojaaGreat
