/- What reading a format leaves: no state; or one whose rows are the call's own. Condition: none. -/
import Derived.Test.YtlklhmdpkicpnaaRdFacts
import Derived.Test.YtlklhmdpkicpnaaAppendNil
import Derived.Test.YtlklhmdpkicpnaaPutPlain
namespace Go.Proofs.Ytlklhmdpkicpnaa
open Go.RowKit
set_option linter.unusedVariables false
set_option linter.unusedSimpArgs false

/-- No state, or one of the call's own. -/
def DecV (w : World) (base : Nat) (v : Value) (s : St) : Prop := (v = .agg #[.slice none 0 0, .slice none 0 0] ∧ s = ⟨[], []⟩) ∨ OwnN w base v s
theorem DecV.later {w w' : World} {base : Nat} {v : Value} {s : St} (h : DecV w base v s) (hb : Below w.heap.size w w') : DecV w' base v s := h.imp id (fun h => h.later hb)
theorem DecV.st {w : World} {base : Nat} {v : Value} {s : St} (h : DecV w base v s) : StV w w.heap.size v s := by
  rcases h with ⟨rfl, rfl⟩ | h
  · exact ⟨_, _, rfl, ⟨rfl, .inl ⟨rfl, rfl⟩⟩, ⟨rfl, .inl ⟨rfl, rfl⟩⟩⟩
  · exact h.st
theorem its_end {t : ByteArray} {p q : Int} {xs : List It} (h : itsAt t p = some (xs, q)) : 0 ≤ q ∧ q ≤ t.size := by
  have hr : ∀ {k : Nat} {p q : Int} {xs : List It}, rdIts t k p = some (xs, q) → (xs = [] ∧ q = p) ∨ (0 ≤ q ∧ q ≤ t.size) := by
    intro k
    induction k with
    | zero =>
      intro p q xs h
      simp only [rdIts, Option.some.injEq, Prod.mk.injEq] at h
      exact .inl ⟨h.1.symm, h.2.symm⟩
    | succ k ih =>
      intro p q xs h
      rw [rdIts] at h
      split at h
      · cases h
      · rename_i hc
        cases e : rdIts t k (getTextB t (getTextB t p).2).2 with
        | none => rw [e] at h; cases h
        | some r =>
          obtain ⟨ys, q'⟩ := r
          rw [e] at h
          simp only [Option.map_some, Option.some.injEq, Prod.mk.injEq] at h
          obtain ⟨rfl, rfl⟩ := h
          rcases ih e with ⟨_, h1⟩ | h1
          · have h2 := text_end t (getTextB t p).2
            rw [← h1] at h2 hc
            exact .inr ⟨by omega, h2.2⟩
          · exact .inr h1
  unfold itsAt at h
  split at h
  · rename_i hc
    have hn := getN_in (s := t) (p := p) (b := 2) (by omega)
    rcases hr h with ⟨_, h1⟩ | h1
    · omega
    · exact h1
  · cases h
theorem tks_end {t : ByteArray} {p q : Int} {xs : List Tk} (h : tksAt t p = some (xs, q)) : 0 ≤ q ∧ q ≤ t.size := by
  have hr : ∀ {k : Nat} {p q : Int} {xs : List Tk}, rdTks t k p = some (xs, q) → (xs = [] ∧ q = p) ∨ (0 ≤ q ∧ q ≤ t.size) := by
    intro k
    induction k with
    | zero =>
      intro p q xs h
      simp only [rdTks, Option.some.injEq, Prod.mk.injEq] at h
      exact .inl ⟨h.1.symm, h.2.symm⟩
    | succ k ih =>
      intro p q xs h
      rw [rdTks] at h
      split at h
      · cases h
      · rename_i hc
        cases e : rdTks t k (getTextB t ((getTextB t p).2 + 4)).2 with
        | none => rw [e] at h; cases h
        | some r =>
          obtain ⟨ys, q'⟩ := r
          rw [e] at h
          simp only [Option.map_some, Option.some.injEq, Prod.mk.injEq] at h
          obtain ⟨rfl, rfl⟩ := h
          rcases ih e with ⟨_, h1⟩ | h1
          · have h2 := text_end t ((getTextB t p).2 + 4)
            rw [← h1] at h2 hc
            exact .inr ⟨by omega, h2.2⟩
          · exact .inr h1
  unfold tksAt at h
  split at h
  · rename_i hc
    have hn := getN_in (s := t) (p := p) (b := 2) (by omega)
    rcases hr h with ⟨_, h1⟩ | h1
    · omega
    · exact h1
  · cases h
theorem its_small {t : ByteArray} {p q : Int} {xs : List It} (h : itsAt t p = some (xs, q)) : ∀ x ∈ xs, x.k.size ≤ t.size ∧ x.v.size ≤ t.size := by
  unfold itsAt at h
  split at h
  · exact (rdIts_len h).2
  · cases h
theorem tks_small {t : ByteArray} {p q : Int} {xs : List Tk} (h : tksAt t p = some (xs, q)) : ∀ x ∈ xs, x.c.size ≤ t.size ∧ x.r.size ≤ t.size ∧ 0 ≤ x.q ∧ x.q ≤ 4294967295 := by
  unfold tksAt at h
  split at h
  · exact (rdTks_len h).2
  · cases h
theorem raw_fits {t : ByteArray} {p q p' q' : Int} {xs : List It} {ts : List Tk} (ht : t.size ≤ 1099511627776) (h : itsAt t p = some (xs, q)) (h' : ts = [] ∨ tksAt t p' = some (ts, q')) : Fits ⟨xs, ts⟩ := by
  refine ⟨fun x hx => ?_, fun x hx => ?_⟩
  · have := its_small h x hx
    unfold maxLen; omega
  · rcases h' with rfl | h'
    · cases hx
    · have := tks_small h' x hx
      unfold maxLen; omega
theorem dec_bad {t : ByteArray} (h : inB (getN t 1 1) 1 3 = false) : decS t = (⟨[], []⟩, 0) := by unfold decS; rw [if_neg (by rw [h]; decide)]
theorem dec_none {t : ByteArray} (h : rawS t (getN t 1 1) = none) : decS t = (⟨[], []⟩, 0) := by unfold decS; rw [h]; split <;> rfl
theorem dec_yes {t : ByteArray} {r : St} (h : inB (getN t 1 1) 1 3 = true) (hr : rawS t (getN t 1 1) = some r) (hf : fmtS r (getN t 1 1) = t) : decS t = (r, getN t 1 1) := by unfold decS; rw [if_pos h, hr]; simp only; rw [if_pos hf]
theorem dec_no {t : ByteArray} {r : St} (hr : rawS t (getN t 1 1) = some r) (hf : ¬ fmtS r (getN t 1 1) = t) : decS t = (⟨[], []⟩, 0) := by
  unfold decS
  split
  · rw [hr]; simp only; rw [if_neg hf]
  · rfl
theorem raw_none {t : ByteArray} (v : Int) (h : itsAt t 2 = none) : rawS t v = none := by unfold rawS; rw [h]
theorem raw_one {t : ByteArray} {xs : List It} {q : Int} (h : itsAt t 2 = some (xs, q)) : rawS t 1 = some ⟨xs, []⟩ := by unfold rawS; rw [h]; simp
theorem raw_two {t : ByteArray} {xs : List It} {q v : Int} (hv : v ≠ 1) (h : itsAt t 2 = some (xs, q)) (h' : tksAt t q = none) : rawS t v = none := by unfold rawS; rw [h]; simp only; rw [if_neg hv, h']
theorem raw_all {t : ByteArray} {xs : List It} {ts : List Tk} {q q' v : Int} (hv : v ≠ 1) (h : itsAt t 2 = some (xs, q)) (h' : tksAt t q = some (ts, q')) : rawS t v = some ⟨xs, ts⟩ := by unfold rawS; rw [h]; simp only; rw [if_neg hv, h']
end Go.Proofs.Ytlklhmdpkicpnaa
