/- The formats' bytes read back, as data: a text, a number, items and talks at a place. Condition: none. -/
import Derived.Test.YtlklhmdpkicpnaaEncFacts
import Derived.Test.YtlklhmdpkicpnaaNumA
namespace Go.Proofs.Ytlklhmdpkicpnaa
open Go.RowKit
set_option linter.unusedVariables false
set_option linter.unusedSimpArgs false

/-- The text s holds the bytes x at the place p. -/
def Holds (s : ByteArray) (p : Nat) (x : List UInt8) : Prop := ∃ A Z, s.data.toList = A ++ (x ++ Z) ∧ A.length = p
theorem Holds.left {s : ByteArray} {p : Nat} {x y : List UInt8} (h : Holds s p (x ++ y)) : Holds s p x := by
  obtain ⟨A, Z, h1, h2⟩ := h
  exact ⟨A, y ++ Z, by rw [h1, List.append_assoc], h2⟩
theorem Holds.right {s : ByteArray} {p : Nat} {x y : List UInt8} (h : Holds s p (x ++ y)) : Holds s (p + x.length) y := by
  obtain ⟨A, Z, h1, h2⟩ := h
  exact ⟨A ++ x, Z, by rw [h1]; simp [List.append_assoc], by rw [List.length_append, h2]⟩
theorem Holds.size {s : ByteArray} {p : Nat} {x : List UInt8} (h : Holds s p x) : p + x.length ≤ s.size := by
  obtain ⟨A, Z, h1, h2⟩ := h
  have := congrArg List.length h1
  simp at this
  omega
/-- A number that is held is read. -/
theorem num_back {s : ByteArray} {p n k : Nat} (h : Holds s p (be8 n k)) (hk : 1 ≤ k ∧ k ≤ 4) (hn : n < 256 ^ k) : getN s p k = n := by
  have hs := h.size
  rw [be8_len] at hs
  obtain ⟨A, Z, h1, h2⟩ := h
  unfold getN
  rw [if_neg (by omega)]
  have e : (s.data.toList.drop (p : Int).toNat).take (k : Int).toNat = be8 n k := by
    rw [h1, Int.toNat_natCast, Int.toNat_natCast, ← h2, List.drop_left, List.take_append_of_le_length (by rw [be8_len]; omega)]
    exact List.take_of_length_le (by rw [be8_len]; omega)
  rw [e, beN_be8, Nat.mod_eq_of_lt hn]
/-- A text that is held is read. -/
theorem text_back {s t : ByteArray} {p : Nat} (h : Holds s p (pt t)) (ht : t.size ≤ 65535) : getTextB s p = (t, ((p + (pt t).length : Nat) : Int)) := by
  have hl : (pt t).length = 2 + t.size := by unfold pt; rw [List.length_append, be8_len]; simp
  have hs := h.size
  have hn : getN s p 2 = (t.size : Nat) := num_back (k := 2) h.left (by omega) (by omega)
  have hr := h.right
  rw [be8_len] at hr
  obtain ⟨A, Z, h1, h2⟩ := hr
  unfold getTextB
  rw [hn, if_neg (by rw [hl] at hs; omega)]
  have e : s.extract ((p : Int) + 2).toNat ((p : Int) + 2 + (t.size : Nat)).toNat = t := by
    apply ByteArray.ext
    apply Array.toList_inj.mp
    have e1 : ((p : Int) + 2).toNat = p + 2 := by omega
    have e2 : ((p : Int) + 2 + (t.size : Nat)).toNat = p + 2 + t.size := by omega
    rw [e1, e2, ByteArray.data_extract, Array.toList_extract, List.extract_eq_take_drop, h1, ← h2, List.drop_left]
    rw [show A.length + t.size - A.length = t.size by omega, List.take_append_of_le_length (by simp)]
    exact List.take_of_length_le (by simp)
  rw [e, hl]
  refine Prod.ext rfl ?_
  show (p : Int) + 2 + (t.size : Nat) = _
  omega
/-- The model's way of reading items at a place. -/
def rdIts (s : ByteArray) : Nat → Int → Option (List It × Int)
  | 0, p => some ([], p)
  | n + 1, p => if (getTextB s p).2 < 0 ∨ (getTextB s (getTextB s p).2).2 < 0 then none
      else (rdIts s n (getTextB s (getTextB s p).2).2).map fun r => (⟨(getTextB s p).1, (getTextB s (getTextB s p).2).1⟩ :: r.1, r.2)
def rdTks (s : ByteArray) : Nat → Int → Option (List Tk × Int)
  | 0, p => some ([], p)
  | n + 1, p => if (getTextB s p).2 < 0 ∨ getN s (getTextB s p).2 4 < 0 ∨ (getTextB s ((getTextB s p).2 + 4)).2 < 0 then none
      else (rdTks s n (getTextB s ((getTextB s p).2 + 4)).2).map fun r => (⟨(getTextB s p).1, getN s (getTextB s p).2 4, (getTextB s ((getTextB s p).2 + 4)).1⟩ :: r.1, r.2)
theorem items_back {s : ByteArray} : ∀ {xs : List It} {p : Nat}, (∀ x ∈ xs, SmI x) → Holds s p (xs.flatMap encIt) → rdIts s xs.length p = some (xs, ((p + (xs.flatMap encIt).length : Nat) : Int)) := by
  intro xs
  induction xs with
  | nil => intro p _ _; rfl
  | cons x xs ih =>
    intro p hx h
    have h1 := hx x (by simp)
    unfold SmI at h1
    rw [List.flatMap_cons, encIt] at h
    have hk := text_back h.left.left (by omega)
    have hv := text_back h.left.right (by omega)
    have hr := ih (fun y hy => hx y (by simp [hy])) h.right
    rw [List.length_cons, rdIts, hk]
    simp only [hv]
    rw [if_neg (by omega), show ((p + (pt x.k).length + (pt x.v).length : Nat) : Int) = ((p + (pt x.k ++ pt x.v).length : Nat) : Int) by rw [List.length_append]; omega, hr]
    simp only [Option.map_some, Option.some.injEq, Prod.mk.injEq]
    refine ⟨by first | trivial | (cases x; rfl), ?_⟩
    rw [List.flatMap_cons, encIt]
    simp only [List.length_append]
    omega
theorem talks_back {s : ByteArray} : ∀ {xs : List Tk} {p : Nat}, (∀ x ∈ xs, SmT x) → Holds s p (xs.flatMap encTk) → rdTks s xs.length p = some (xs, ((p + (xs.flatMap encTk).length : Nat) : Int)) := by
  intro xs
  induction xs with
  | nil => intro p _ _; rfl
  | cons x xs ih =>
    intro p hx h
    have h1 := hx x (by simp)
    unfold SmT at h1
    rw [List.flatMap_cons, encTk] at h
    have hc := text_back h.left.left.left (by omega)
    have hq : getN s ((p + (pt x.c).length : Nat) : Int) 4 = (x.q.toNat : Nat) := num_back (k := 4) h.left.left.right (by omega) (by omega)
    have hv := text_back h.left.right (by omega)
    have hr := ih (fun y hy => hx y (by simp [hy])) h.right
    have e4 : ((p + (pt x.c).length : Nat) : Int) + 4 = ((p + (pt x.c ++ be8 x.q.toNat 4).length : Nat) : Int) := by rw [List.length_append, be8_len]; omega
    rw [List.length_cons, rdTks, hc]
    simp only [hq, e4, hv]
    rw [if_neg (by omega), show ((p + (pt x.c ++ be8 x.q.toNat 4).length + (pt x.r).length : Nat) : Int) = ((p + (pt x.c ++ be8 x.q.toNat 4 ++ pt x.r).length : Nat) : Int) by simp only [List.length_append]; omega, hr]
    simp only [Option.map_some, Option.some.injEq, Prod.mk.injEq]
    refine ⟨?_, ?_⟩
    · have : ((x.q.toNat : Nat) : Int) = x.q := by omega
      rw [this]
    · rw [List.flatMap_cons, encTk]
      simp only [List.length_append]
      omega
end Go.Proofs.Ytlklhmdpkicpnaa
