/- The parts of a state, as data. Condition: none. -/
import Derived.Test.YtebmaplflpfjbaaMapAdd
import Derived.Test.YtebmaplflpfjbaaMapMove
import Derived.Test.YtebmaplflpfjbaaPutFacts
import Derived.Test.YtebmaplflpfjbaaStates
namespace Go.Proofs.Ytebmaplflpfjbaa
open Go.RowKit
set_option linter.unusedVariables false

def partS (s : St) (n : Int) (k : Nat) : St := ⟨s.items.filter (fun x => decide (partN x.k n = (k : Int))), s.talks⟩
/-- The state in n parts; none where it, or n, is invalid. -/
def splitS (s : St) (n : Int) : List St := if stOk s = true ∧ inB n 1 8 = true then (List.range n.toNat).map (partS s n) else []
theorem splitS_bad {s : St} {n : Int} (h : stOk s = false ∨ inB n 1 8 = false) : splitS s n = [] := by
  unfold splitS
  rw [if_neg]
  rintro ⟨h1, h2⟩
  rcases h with h | h
  · rw [h1] at h; cases h
  · rw [h2] at h; cases h
theorem splitS_ok {s : St} {n : Int} (h1 : stOk s = true) (h2 : inB n 1 8 = true) : splitS s n = (List.range n.toNat).map (partS s n) := if_pos ⟨h1, h2⟩
theorem addM_all {xs : List It} : ∀ {m : ByteArray → Option It}, xs.Pairwise (fun a b => a.k ≠ b.k) → (∀ x ∈ xs, m x.k = none) → (addM m xs).1 = true ∧ ∀ k x, (addM m xs).2 k = some x ↔ (m k = some x ∨ (x ∈ xs ∧ x.k = k)) := by
  induction xs with
  | nil => intro m _ _; exact ⟨rfl, fun k x => by simp [addM]⟩
  | cons y ys ih =>
    intro m hp hm
    have h0 := hm y (by simp)
    rw [List.pairwise_cons] at hp
    have hs : addM m (y :: ys) = addM (upd m y.k (some y)) ys := by
      show (if (m y.k).isSome = true then _ else _) = _
      rw [h0]; rfl
    obtain ⟨i1, i2⟩ := ih (m := upd m y.k (some y)) hp.2 (fun x hx => by rw [upd_other _ _ (fun e => hp.1 x hx e.symm)]; exact hm x (by simp [hx]))
    rw [hs]
    refine ⟨i1, fun k x => ?_⟩
    rw [i2 k x]
    by_cases e : k = y.k
    · subst e
      rw [upd_same]
      constructor
      · rintro (h | ⟨h, h2⟩)
        · obtain rfl := Option.some.inj h; exact .inr ⟨by simp, rfl⟩
        · exact .inr ⟨by simp [h], h2⟩
      · rintro (h | ⟨h, h2⟩)
        · rw [h0] at h; cases h
        · rcases List.mem_cons.1 h with rfl | h
          · exact .inl rfl
          · exact absurd h2.symm (hp.1 x h)
    · rw [upd_other _ _ e]
      constructor
      · rintro (h | ⟨h, h2⟩)
        · exact .inl h
        · exact .inr ⟨by simp [h], h2⟩
      · rintro (h | ⟨h, h2⟩)
        · exact .inl h
        · rcases List.mem_cons.1 h with rfl | h
          · exact absurd h2.symm e
          · exact .inr ⟨h, h2⟩
theorem Asc.names {α : Type} {f : α → ByteArray} {xs : List α} (h : Asc f xs) : xs.Pairwise (fun a b => f a ≠ f b) := h.imp (fun hl => lb_ne hl)
theorem Asc.filter {α : Type} {f : α → ByteArray} {xs : List α} (h : Asc f xs) (p : α → Bool) : Asc f (xs.filter p) := List.Pairwise.filter p h
/-- The items of a right state by name. -/
theorem ok_rows {s : St} (h : stOk s = true) : ∃ m, addM (fun _ => none) s.items = (true, m) ∧ ∀ k x, m k = some x ↔ (x ∈ s.items ∧ x.k = k) := by
  obtain ⟨⟨_, hasc, _⟩, _⟩ := (stOk_iff s).1 h
  obtain ⟨h1, h2⟩ := addM_all (m := fun _ => none) hasc.names (fun _ _ => rfl)
  exact ⟨_, Prod.ext h1 rfl, fun k x => by rw [h2]; simp⟩
/-- What is left behind k parts. -/
def mRest (m : ByteArray → Option It) (n : Int) (k : Nat) : ByteArray → Option It := fun j => if partN j n < (k : Int) then none else m j
theorem mRest_zero (m : ByteArray → Option It) (n : Int) : mRest m n 0 = m := funext fun j => by
  unfold mRest
  rw [if_neg (by have := partN_lo j n; omega)]
theorem mRest_step (m : ByteArray → Option It) (n : Int) (k : Nat) : restM (mRest m n k) k n = mRest m n (k + 1) := funext fun j => by
  unfold restM mRest
  by_cases h1 : partN j n = (k : Int)
  · rw [if_pos h1, if_pos (by omega)]
  · rw [if_neg h1]
    by_cases h2 : partN j n < (k : Int)
    · rw [if_pos h2, if_pos (by omega)]
    · rw [if_neg h2, if_neg (by omega)]
theorem partM_at (m : ByteArray → Option It) (n : Int) (k : Nat) (j : ByteArray) (x : It) : partM (mRest m n k) k n j = some x ↔ partN j n = (k : Int) ∧ m j = some x := by
  unfold partM mRest
  by_cases h1 : partN j n = (k : Int)
  · rw [if_pos h1, if_neg (by omega)]; simp [h1]
  · rw [if_neg h1]; simp [h1]
/-- The rows of one part are its items. -/
theorem part_rows {s : St} {m : ByteArray → Option It} {n : Int} {k : Nat} {zs : List It} (h : stOk s = true) (hm : ∀ k x, m k = some x ↔ (x ∈ s.items ∧ x.k = k)) (ha : Asc It.k zs) (hz : ∀ x, x ∈ zs ↔ partM (mRest m n k) k n x.k = some x) : zs = (partS s n k).items := by
  obtain ⟨⟨_, hasc, _⟩, _⟩ := (stOk_iff s).1 h
  refine Asc.ext ha (hasc.filter _) (fun x => ?_)
  rw [hz, partM_at, hm]
  show _ ↔ x ∈ s.items.filter _
  rw [List.mem_filter]
  simp [and_comm]
end Go.Proofs.Ytebmaplflpfjbaa
