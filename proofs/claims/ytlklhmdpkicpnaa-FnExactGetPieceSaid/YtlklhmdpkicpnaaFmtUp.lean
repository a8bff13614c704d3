/- Brought to a later format, as data: the same state; in one step as in two; never back. Condition: none. -/
import Derived.Test.YtlklhmdpkicpnaaFmtBack
namespace Go.Proofs.Ytlklhmdpkicpnaa
open Go.RowKit
set_option linter.unusedVariables false
set_option linter.unusedSimpArgs false

def upS (t : ByteArray) (v : Int) : ByteArray × Bool := if (decS t).2 = 0 ∨ v < (decS t).2 ∨ 3 < v then (⟨#[]⟩, false) else (fmtS (decS t).1 v, true)
/-- What is read of the first format has no talks. -/
theorem dec_kept (t : ByteArray) : keptS (decS t).1 (decS t).2 = (decS t).1 := by
  unfold decS
  split
  · rename_i hv
    cases e : rawS t (getN t 1 1) with
    | none => rfl
    | some r =>
      simp only
      split
      · unfold keptS
        split
        · rename_i h1
          simp only at h1
          unfold rawS at e
          split at e
          · cases e
          · rw [if_pos h1] at e
            rw [← Option.some.inj e]
        · rfl
      · rfl
  · rfl
theorem dec_zero {t : ByteArray} (h : ¬ (decS t).2 ≠ 0) : (decS t).1 = ⟨[], []⟩ := by
  have h : (decS t).2 = 0 := Decidable.not_not.1 h
  unfold decS at h ⊢
  split
  · rename_i hv
    rw [if_pos hv] at h
    cases e : rawS t (getN t 1 1) with
    | none => rfl
    | some r =>
      rw [e] at h
      simp only at h ⊢
      split
      · rename_i hf
        rw [if_pos hf] at h
        simp only at h
        rw [h] at hv
        cases hv
      · rfl
  · rfl
theorem up_ok {t : ByteArray} {v : Int} (h : (upS t v).2 = true) : decS (upS t v).1 = ((decS t).1, v) ∧ (decS t).2 ≤ v ∧ v ≤ 3 ∧ 1 ≤ (decS t).2 := by
  unfold upS at h ⊢
  by_cases hc : (decS t).2 = 0 ∨ v < (decS t).2 ∨ 3 < v
  · rw [if_pos hc] at h; cases h
  · rw [if_neg hc]
    have h0 : (decS t).2 ≠ 0 := fun e => hc (.inl e)
    obtain ⟨_, hok, hv⟩ := dec_fmt h0
    have hb := inB_true hv
    have hvv : inB v 1 3 = true := by unfold inB; simp; omega
    refine ⟨?_, by omega, by omega, by omega⟩
    show decS (fmtS (decS t).1 v) = _
    rw [dec_back hok hvv]
    refine Prod.ext ?_ rfl
    show keptS (decS t).1 v = (decS t).1
    by_cases h1 : v = 1
    · have hk := dec_kept t
      rw [show (decS t).2 = v by omega] at hk
      exact hk
    · unfold keptS; rw [if_neg h1]
theorem up_yes {t : ByteArray} {v : Int} (h0 : 1 ≤ (decS t).2) (h1 : (decS t).2 ≤ v) (h3 : v ≤ 3) : upS t v = (fmtS (decS t).1 v, true) := by unfold upS; rw [if_neg (by omega)]
theorem up_twice {t : ByteArray} {v : Int} (h : (upS t v).2 = true) : upS (upS t v).1 3 = upS t 3 ∧ (upS t 3).2 = true ∧ (upS (upS t v).1 (v - 1)).2 = false := by
  obtain ⟨h1, h2, h3, h4⟩ := up_ok h
  have e1 : (decS (upS t v).1).1 = (decS t).1 := by rw [h1]
  have e2 : (decS (upS t v).1).2 = v := by rw [h1]
  refine ⟨?_, ?_, ?_⟩
  · rw [up_yes (t := (upS t v).1) (v := 3) (by rw [e2]; omega) (by rw [e2]; omega) (by omega), e1, up_yes (t := t) (v := 3) h4 (by omega) (by omega)]
  · rw [up_yes h4 (by omega) (by omega)]
  · unfold upS
    rw [if_pos]
    refine .inr (.inl ?_)
    show v - 1 < (decS (upS t v).1).2
    rw [e2]; omega
theorem up_none {t : ByteArray} {v : Int} (h : (upS t v).2 = false) : (upS t v).1 = ⟨#[]⟩ := by
  unfold upS at h ⊢
  split
  · rfl
  · rename_i hc; rw [if_neg hc] at h; cases h
end Go.Proofs.Ytlklhmdpkicpnaa
