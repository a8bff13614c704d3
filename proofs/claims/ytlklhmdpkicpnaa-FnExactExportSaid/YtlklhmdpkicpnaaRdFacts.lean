/- Rows read one by one, as data: one row more; none stays none; where they end; how great their texts are. Condition: none. -/
import Derived.Test.YtlklhmdpkicpnaaFmtBack
namespace Go.Proofs.Ytlklhmdpkicpnaa
open Go.RowKit
set_option linter.unusedVariables false
set_option linter.unusedSimpArgs false

theorem text_end (s : ByteArray) (p : Int) : -1 ≤ (getTextB s p).2 ∧ (getTextB s p).2 ≤ s.size := by
  unfold getTextB
  split
  · exact ⟨Int.le_refl _, by show (-1 : Int) ≤ _; omega⟩
  · rename_i h
    have h1 := getN_lo s p 2
    have hn : ¬ getN s p 2 < 0 := by omega
    obtain ⟨a, b, _, _⟩ := getN_in hn
    refine ⟨?_, ?_⟩
    · show -1 ≤ p + 2 + getN s p 2; omega
    · show p + 2 + getN s p 2 ≤ _; omega
theorem text_small (s : ByteArray) (p : Int) : (getTextB s p).1.size ≤ s.size := by
  unfold getTextB
  split
  · show (ByteArray.mk #[]).size ≤ _; exact Nat.zero_le _
  · show (s.extract _ _).size ≤ _; rw [ByteArray.size_extract]; omega
theorem rdIts_snoc {s : ByteArray} : ∀ {k : Nat} {p q : Int} {xs : List It}, rdIts s k p = some (xs, q) →
    rdIts s (k + 1) p = if (getTextB s q).2 < 0 ∨ (getTextB s (getTextB s q).2).2 < 0 then none else some (xs ++ [⟨(getTextB s q).1, (getTextB s (getTextB s q).2).1⟩], (getTextB s (getTextB s q).2).2) := by
  intro k
  induction k with
  | zero =>
    intro p q xs h
    simp only [rdIts, Option.some.injEq, Prod.mk.injEq] at h
    obtain ⟨rfl, rfl⟩ := h
    simp [rdIts]
  | succ k ih =>
    intro p q xs h
    rw [rdIts] at h ⊢
    split at h
    · cases h
    · rename_i hc
      rw [if_neg hc]
      cases e : rdIts s k (getTextB s (getTextB s p).2).2 with
      | none => rw [e] at h; cases h
      | some r =>
        obtain ⟨ys, q'⟩ := r
        rw [e] at h
        simp only [Option.map_some, Option.some.injEq, Prod.mk.injEq] at h
        obtain ⟨rfl, rfl⟩ := h
        rw [ih e]
        split <;> simp
theorem rdIts_none {s : ByteArray} : ∀ {k : Nat} {p : Int} (j : Nat), rdIts s k p = none → rdIts s (k + j) p = none := by
  intro k
  induction k with
  | zero => intro p j h; cases h
  | succ k ih =>
    intro p j h
    rw [show k + 1 + j = (k + j) + 1 by omega, rdIts]
    rw [rdIts] at h
    split
    · rfl
    · rename_i hc
      rw [if_neg hc] at h
      cases e : rdIts s k (getTextB s (getTextB s p).2).2 with
      | none => rw [ih j e]; rfl
      | some r => rw [e] at h; cases h
theorem rdIts_len {s : ByteArray} : ∀ {k : Nat} {p q : Int} {xs : List It}, rdIts s k p = some (xs, q) → xs.length = k ∧ (∀ x ∈ xs, x.k.size ≤ s.size ∧ x.v.size ≤ s.size) := by
  intro k
  induction k with
  | zero =>
    intro p q xs h
    simp only [rdIts, Option.some.injEq, Prod.mk.injEq] at h
    obtain ⟨rfl, rfl⟩ := h
    exact ⟨rfl, fun x hx => by cases hx⟩
  | succ k ih =>
    intro p q xs h
    rw [rdIts] at h
    split at h
    · cases h
    · cases e : rdIts s k (getTextB s (getTextB s p).2).2 with
      | none => rw [e] at h; cases h
      | some r =>
        obtain ⟨ys, q'⟩ := r
        rw [e] at h
        simp only [Option.map_some, Option.some.injEq, Prod.mk.injEq] at h
        obtain ⟨rfl, rfl⟩ := h
        obtain ⟨h1, h2⟩ := ih e
        refine ⟨by rw [List.length_cons, h1], fun x hx => ?_⟩
        rcases List.mem_cons.1 hx with rfl | hx
        · exact ⟨text_small _ _, text_small _ _⟩
        · exact h2 x hx
theorem rdTks_snoc {s : ByteArray} : ∀ {k : Nat} {p q : Int} {xs : List Tk}, rdTks s k p = some (xs, q) →
    rdTks s (k + 1) p = if (getTextB s q).2 < 0 ∨ getN s (getTextB s q).2 4 < 0 ∨ (getTextB s ((getTextB s q).2 + 4)).2 < 0 then none else some (xs ++ [⟨(getTextB s q).1, getN s (getTextB s q).2 4, (getTextB s ((getTextB s q).2 + 4)).1⟩], (getTextB s ((getTextB s q).2 + 4)).2) := by
  intro k
  induction k with
  | zero =>
    intro p q xs h
    simp only [rdTks, Option.some.injEq, Prod.mk.injEq] at h
    obtain ⟨rfl, rfl⟩ := h
    simp [rdTks]
  | succ k ih =>
    intro p q xs h
    rw [rdTks] at h ⊢
    split at h
    · cases h
    · rename_i hc
      rw [if_neg hc]
      cases e : rdTks s k (getTextB s ((getTextB s p).2 + 4)).2 with
      | none => rw [e] at h; cases h
      | some r =>
        obtain ⟨ys, q'⟩ := r
        rw [e] at h
        simp only [Option.map_some, Option.some.injEq, Prod.mk.injEq] at h
        obtain ⟨rfl, rfl⟩ := h
        rw [ih e]
        split <;> simp
theorem rdTks_none {s : ByteArray} : ∀ {k : Nat} {p : Int} (j : Nat), rdTks s k p = none → rdTks s (k + j) p = none := by
  intro k
  induction k with
  | zero => intro p j h; cases h
  | succ k ih =>
    intro p j h
    rw [show k + 1 + j = (k + j) + 1 by omega, rdTks]
    rw [rdTks] at h
    split
    · rfl
    · rename_i hc
      rw [if_neg hc] at h
      cases e : rdTks s k (getTextB s ((getTextB s p).2 + 4)).2 with
      | none => rw [ih j e]; rfl
      | some r => rw [e] at h; cases h
theorem num4_hi (s : ByteArray) (p : Int) : getN s p 4 ≤ 4294967295 := by
  unfold getN
  split
  · decide
  · have := beN_lt4 ((s.data.toList.drop p.toNat).take (4 : Int).toNat) (by rw [List.length_take]; exact Nat.min_le_left _ _)
    omega
theorem rdTks_len {s : ByteArray} : ∀ {k : Nat} {p q : Int} {xs : List Tk}, rdTks s k p = some (xs, q) → xs.length = k ∧ (∀ x ∈ xs, x.c.size ≤ s.size ∧ x.r.size ≤ s.size ∧ 0 ≤ x.q ∧ x.q ≤ 4294967295) := by
  intro k
  induction k with
  | zero =>
    intro p q xs h
    simp only [rdTks, Option.some.injEq, Prod.mk.injEq] at h
    obtain ⟨rfl, rfl⟩ := h
    exact ⟨rfl, fun x hx => by cases hx⟩
  | succ k ih =>
    intro p q xs h
    rw [rdTks] at h
    split at h
    · cases h
    · rename_i hc
      cases e : rdTks s k (getTextB s ((getTextB s p).2 + 4)).2 with
      | none => rw [e] at h; cases h
      | some r =>
        obtain ⟨ys, q'⟩ := r
        rw [e] at h
        simp only [Option.map_some, Option.some.injEq, Prod.mk.injEq] at h
        obtain ⟨rfl, rfl⟩ := h
        obtain ⟨h1, h2⟩ := ih e
        refine ⟨by rw [List.length_cons, h1], fun x hx => ?_⟩
        rcases List.mem_cons.1 hx with rfl | hx
        · exact ⟨text_small _ _, text_small _ _, by show 0 ≤ getN s (getTextB s p).2 4; omega, num4_hi _ _⟩
        · exact h2 x hx
end Go.Proofs.Ytlklhmdpkicpnaa
