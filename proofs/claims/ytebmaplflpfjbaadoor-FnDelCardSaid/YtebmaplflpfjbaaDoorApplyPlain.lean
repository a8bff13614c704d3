/- What an operation makes of a state, as data. Condition: none. -/
import Derived.Test.YtebmaplflpfjbaaDoorBaseA
import Derived.Test.YtebmaplflpfjbaaDoorStFacts
namespace Go.Proofs.YtebmaplflpfjbaaDoor
open Go.RowKit
set_option linter.unusedVariables false

/-- The value of a key; the empty text where there is none. -/
def valOf (s : St) (k : ByteArray) : ByteArray := if 0 ≤ itemAt s.items k then (s.items.getD (itemAt s.items k).toNat default).v else ⟨#[]⟩
/-- What the operation makes of the items. -/
def stepS (s : St) (x : Rq) : St := if x.n = 1 then putSI s ⟨x.k, x.v⟩ else if x.n = 2 then dropS s x.k else s
def talkOf (s : St) (c : ByteArray) : Tk := s.talks.getD (talkAt s.talks c).toNat default
def newT (s : St) (x : Rq) : Tk := ⟨x.c, x.q, valOf s x.k⟩
def endS (s : St) (x : Rq) : St := putST (stepS s x) (newT s x)
/-- The state, the reply, the code. -/
def ap (s : St) (x : Rq) : St × ByteArray × Int :=
  if stOk s = false then (s, ⟨#[]⟩, 2)
  else if rqOk x = false then (s, ⟨#[]⟩, 2)
  else if 0 ≤ talkAt s.talks x.c ∧ x.q ≤ (talkOf s x.c).q then
    (if (talkOf s x.c).q = x.q then (s, (talkOf s x.c).r, 0) else (s, ⟨#[]⟩, 1))
  else if stOk (stepS s x) = false then (s, ⟨#[]⟩, 3)
  else if stOk (endS s x) = false then (s, ⟨#[]⟩, 3)
  else (endS s x, valOf s x.k, 0)

theorem ap_bad {s : St} {x : Rq} (h : stOk s = false ∨ rqOk x = false) : ap s x = (s, ⟨#[]⟩, 2) := by
  unfold ap
  rcases h with h | h
  · rw [if_pos h]
  · by_cases h2 : stOk s = false
    · rw [if_pos h2]
    · rw [if_neg h2, if_pos h]
theorem ap_again {s : St} {x : Rq} (h1 : stOk s = true) (h2 : rqOk x = true) (ha : 0 ≤ talkAt s.talks x.c) (hq : (talkOf s x.c).q = x.q) : ap s x = (s, (talkOf s x.c).r, 0) := by
  unfold ap
  rw [if_neg (by simp [h1]), if_neg (by simp [h2]), if_pos ⟨ha, by omega⟩, if_pos hq]
theorem ap_old {s : St} {x : Rq} (h1 : stOk s = true) (h2 : rqOk x = true) (ha : 0 ≤ talkAt s.talks x.c) (hq : x.q < (talkOf s x.c).q) : ap s x = (s, ⟨#[]⟩, 1) := by
  unfold ap
  rw [if_neg (by simp [h1]), if_neg (by simp [h2]), if_pos ⟨ha, by omega⟩, if_neg (by omega)]
theorem ap_full {s : St} {x : Rq} (h1 : stOk s = true) (h2 : rqOk x = true) (ha : ¬ (0 ≤ talkAt s.talks x.c ∧ x.q ≤ (talkOf s x.c).q)) (h3 : stOk (stepS s x) = false ∨ stOk (endS s x) = false) : ap s x = (s, ⟨#[]⟩, 3) := by
  unfold ap
  rw [if_neg (by simp [h1]), if_neg (by simp [h2]), if_neg ha]
  rcases h3 with h | h
  · rw [if_pos h]
  · by_cases h2 : stOk (stepS s x) = false
    · rw [if_pos h2]
    · rw [if_neg h2, if_pos h]
theorem ap_new {s : St} {x : Rq} (h1 : stOk s = true) (h2 : rqOk x = true) (ha : ¬ (0 ≤ talkAt s.talks x.c ∧ x.q ≤ (talkOf s x.c).q)) (h3 : stOk (stepS s x) = true) (h4 : stOk (endS s x) = true) : ap s x = (endS s x, valOf s x.k, 0) := by
  unfold ap
  rw [if_neg (by simp [h1]), if_neg (by simp [h2]), if_neg ha, if_neg (by simp [h3]), if_neg (by simp [h4])]

theorem ok_small {s : St} (h : stOk s = true) : Small s 64 := by
  obtain ⟨⟨hi, _, hn⟩, ⟨ht, _, hm⟩⟩ := (stOk_iff s).1 h
  refine ⟨by omega, fun x hx => ?_, by omega, fun x hx => ?_⟩
  · have h1 := hi x hx
    unfold itOk at h1
    rw [Bool.and_eq_true] at h1
    have h2 := name_size h1.1
    have h3 := of_decide_eq_true h1.2
    omega
  · have h1 := ht x hx
    unfold tkOk at h1
    rw [Bool.and_eq_true, Bool.and_eq_true] at h1
    have h2 := name_size h1.1.1
    have h3 := of_decide_eq_true h1.2
    omega
theorem fits_small {s : St} (h : Small s 64) (hq : ∀ x ∈ s.talks, -9223372036854775808 ≤ x.q ∧ x.q ≤ 9223372036854775807) : Fits s := by
  obtain ⟨_, h1, _, h2⟩ := h
  refine ⟨fun x hx => ?_, fun x hx => ?_⟩
  · have := h1 x hx; unfold maxLen; omega
  · have := h2 x hx; have := hq x hx; unfold maxLen; omega
theorem ok_fits {s : St} (h : stOk s = true) : Fits s := fits_small (ok_small h) (fun x hx => by
  have h1 := ((stOk_iff s).1 h).2.1 x hx
  unfold tkOk at h1
  rw [Bool.and_eq_true, Bool.and_eq_true] at h1
  have := inB_true h1.1.2
  omega)
theorem getD_at {α : Type} {xs : List α} {i : Nat} (hi : i < xs.length) (d : α) : xs.getD i d = xs[i] := by rw [List.getD_eq_getElem?_getD, List.getElem?_eq_getElem hi]; rfl
theorem valOf_small {s : St} (h : stOk s = true) (k : ByteArray) : ((valOf s k).size : Int) ≤ 60 := by
  unfold valOf
  by_cases hk : 0 ≤ itemAt s.items k
  · rw [if_pos hk]
    obtain ⟨i, hi, e1, e2⟩ := itemAt_hit hk
    rw [e1, Int.toNat_natCast, getD_at hi]
    have h1 := ((stOk_iff s).1 h).1.1 _ (List.getElem_mem hi)
    unfold itOk at h1
    rw [Bool.and_eq_true] at h1
    exact of_decide_eq_true h1.2
  · rw [if_neg hk]; show ((0 : Nat) : Int) ≤ 60; omega
theorem stepS_drop {s : St} {k : ByteArray} (h : stOk s = true) : stOk (dropS s k) = true := by
  by_cases hk : 0 ≤ itemAt s.items k
  · obtain ⟨i, hi, h1, h2, _⟩ := drop_facts h hk
    exact h2
  · unfold dropS; rw [if_neg (by simp [hk])]; exact h
end Go.Proofs.YtebmaplflpfjbaaDoor
