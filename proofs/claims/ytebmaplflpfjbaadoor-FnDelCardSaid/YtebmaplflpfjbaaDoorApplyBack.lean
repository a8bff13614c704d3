/- What is asked twice: as data. Condition: none. -/
import Derived.Test.YtebmaplflpfjbaaDoorApplyPlain
namespace Go.Proofs.YtebmaplflpfjbaaDoor
open Go.RowKit
set_option linter.unusedVariables false

theorem chgB_true {s r : St} (h1 : stOk s = true) (h2 : stOk r = true) : chgB s r = true := by unfold chgB; rw [h1, h2]; rfl
/-- The operation with the number ahead. -/
def early (x : Rq) : Rq := ⟨x.c, x.q - 1, x.n, x.k, x.v⟩
theorem early_ok {x : Rq} (h : rqOk x = true) (hq : x.q ≠ 1) : rqOk (early x) = true := by
  have h4 := (rqOk_parts h).2.2.2.1
  unfold rqOk at *
  simp only [early]
  simp only [Bool.and_eq_true] at h ⊢
  refine ⟨⟨⟨⟨⟨h.1.1.1.1.1, h.1.1.1.1.2⟩, h.1.1.1.2⟩, ?_⟩, h.1.2⟩, h.2⟩
  unfold inB
  simp
  omega
theorem talk_there {s : St} {x : Tk} (h : chgB s (putST s x) = true) : 0 ≤ talkAt (putST s x).talks x.c ∧ talkOf (putST s x) x.c = x := by
  obtain ⟨i, hi, e1, e2, _, _⟩ := talk_facts h
  refine ⟨by omega, ?_⟩
  unfold talkOf
  rw [e1, Int.toNat_natCast, getD_at hi, e2]
/-- What an operation that was done tells of the operation and of the state. -/
theorem ap_done {s : St} {x : Rq} (h : (ap s x).2.2 = 0) : stOk s = true ∧ rqOk x = true ∧ stOk (ap s x).1 = true ∧ 0 ≤ talkAt (ap s x).1.talks x.c ∧ (talkOf (ap s x).1 x.c).q = x.q ∧ (talkOf (ap s x).1 x.c).r = (ap s x).2.1 := by
  cases h1 : stOk s
  · rw [ap_bad (.inl h1)] at h; simp at h
  cases h2 : rqOk x
  · rw [ap_bad (.inr h2)] at h; simp at h
  by_cases ha : 0 ≤ talkAt s.talks x.c ∧ x.q ≤ (talkOf s x.c).q
  · by_cases hq : (talkOf s x.c).q = x.q
    · rw [ap_again h1 h2 ha.1 hq]
      exact ⟨rfl, rfl, h1, ha.1, hq, rfl⟩
    · rw [ap_old h1 h2 ha.1 (by omega)] at h; simp at h
  · cases h3 : stOk (stepS s x)
    · rw [ap_full h1 h2 ha (.inl h3)] at h; simp at h
    cases h4 : stOk (endS s x)
    · rw [ap_full h1 h2 ha (.inr h4)] at h; simp at h
    rw [ap_new h1 h2 ha h3 h4]
    obtain ⟨t1, t2⟩ := talk_there (s := stepS s x) (x := newT s x) (chgB_true h3 h4)
    have e : endS s x = putST (stepS s x) (newT s x) := rfl
    refine ⟨rfl, rfl, h4, ?_, ?_, ?_⟩
    · exact t1
    · show (talkOf (endS s x) (newT s x).c).q = x.q; rw [e, t2]; rfl
    · show (talkOf (endS s x) (newT s x).c).r = valOf s x.k; rw [e, t2]; rfl
theorem ap_back {s : St} {x : Rq} (h : (ap s x).2.2 = 0) : ap (ap s x).1 x = ap s x := by
  obtain ⟨_, h2, h3, h4, h5, h6⟩ := ap_done h
  rw [ap_again h3 h2 h4 h5, h6]
  rw [Prod.ext_iff, Prod.ext_iff]
  exact ⟨rfl, rfl, h.symm⟩
theorem ap_late {s : St} {x : Rq} (h : (ap s x).2.2 = 0) (hq : x.q ≠ 1) : (ap (ap s x).1 (early x)).2.2 = 1 := by
  obtain ⟨_, h2, h3, h4, h5, h6⟩ := ap_done h
  rw [ap_old h3 (early_ok h2 hq) h4 (by show x.q - 1 < _; rw [show (early x).c = x.c from rfl, h5]; omega)]
theorem ap_q {s : St} {x : Rq} (h : (ap s x).2.2 = 0) : 1 ≤ x.q ∧ x.q ≤ 1000000000 := (rqOk_parts (ap_done h).2.1).2.2.2.1
end Go.Proofs.YtebmaplflpfjbaaDoor
