/- What is answered is what was there: as data. Condition: none. -/
import Derived.Test.YtebmaplflpfjbaaDoorApplyBack
namespace Go.Proofs.YtebmaplflpfjbaaDoor
open Go.RowKit
set_option linter.unusedVariables false

/-- An operation that is new and that is done. -/
theorem ap_way {s : St} {x : Rq} (h : (ap s x).2.2 = 0) (hk : ¬ (0 ≤ talkAt s.talks x.c ∧ x.q ≤ (talkOf s x.c).q)) : ap s x = (endS s x, valOf s x.k, 0) ∧ stOk s = true ∧ rqOk x = true ∧ stOk (stepS s x) = true := by
  obtain ⟨h1, h2, _⟩ := ap_done h
  cases h3 : stOk (stepS s x)
  · rw [ap_full h1 h2 hk (.inl h3)] at h; simp at h
  cases h4 : stOk (endS s x)
  · rw [ap_full h1 h2 hk (.inr h4)] at h; simp at h
  exact ⟨ap_new h1 h2 hk h3 h4, h1, h2, rfl⟩
theorem endS_items (s : St) (x : Rq) : (endS s x).items = (stepS s x).items := rfl
theorem reply_put {s : St} {x : Rq} (h1 : stOk s = true) (h2 : stOk (stepS s x) = true) (hn : x.n = 1) : 0 ≤ itemAt (endS s x).items x.k ∧ valOf (endS s x) x.k = x.v := by
  have e : stepS s x = putSI s ⟨x.k, x.v⟩ := by unfold stepS; rw [if_pos hn]
  rw [e] at h2
  obtain ⟨i, hi, e1, e2, _⟩ := item_facts (s := s) (x := ⟨x.k, x.v⟩) (chgB_true h1 h2)
  have e1 : itemAt (putSI s ⟨x.k, x.v⟩).items x.k = i := e1
  unfold valOf
  rw [endS_items, e, e1, if_pos (by omega), Int.toNat_natCast, getD_at hi, e2]
  exact ⟨by omega, rfl⟩
theorem reply_del {s : St} {x : Rq} (h1 : stOk s = true) (hn : x.n = 2) : itemAt (endS s x).items x.k = -1 := by
  have e : stepS s x = dropS s x.k := by unfold stepS; rw [if_neg (by omega), if_pos hn]
  rw [endS_items, e]
  by_cases hk : 0 ≤ itemAt s.items x.k
  · obtain ⟨i, hi, e1, e2⟩ := itemAt_hit hk
    rw [dropS_hit h1 e1]
    have hc := cut_not ((stOk_iff s).1 h1).1.2.1 hi
    rw [e2] at hc
    exact itemAt_not hc
  · rw [dropS_miss (itemAt_miss hk).1]; exact (itemAt_miss hk).1
theorem reply_get {s : St} {x : Rq} (hn : x.n = 0) : (endS s x).items = s.items := by
  have e : stepS s x = s := by unfold stepS; rw [if_neg (by omega), if_neg (by omega)]
  rw [endS_items, e]
end Go.Proofs.YtebmaplflpfjbaaDoor
