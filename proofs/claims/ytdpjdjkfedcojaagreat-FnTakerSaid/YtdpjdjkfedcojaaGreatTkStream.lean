/- A stream of a state, received piece by piece, as data. Condition: none. -/
import Derived.Test.YtdpjdjkfedcojaaGreatTkForms
import Derived.Test.YtdpjdjkfedcojaaGreatStrA
namespace Go.Proofs.YtdpjdjkfedcojaaGreat
open Go.RowKit
set_option linter.unusedVariables false
set_option linter.unusedSimpArgs false

theorem tk_stream {s : St} {m : Nat} {E : List ByteArray} (hs : stOk s = true) (h1 : 8 ≤ m) (h2 : m ≤ 200) (hE : E = cutS (fmtS s 2) (m : Int)) :
    ∃ T : Nat → Tkr, 0 < E.length ∧ E.length ≤ 600 ∧ T 0 = tkN ∧ (∀ j, (T j).nx = (j : Int) + 1) ∧ (∀ j, j ≤ E.length → tkrOk (T j) = true) ∧
      (∀ n (hn : n < E.length) j, j ≤ E.length → offerS (T j) E[n] = if n < j then (T j, 2) else if j < n then (T j, 3) else (T (j + 1), if n + 1 = E.length then 1 else 0)) ∧ takenS (T E.length) = (s, true) := by
  have hv : inB 2 1 3 = true := by decide
  obtain ⟨e, hm, hp⟩ := exp_is hs hv h1 h2
  rw [e] at hE
  subst hE
  have hn : 0 < m := by omega
  have hl := cutUp_len (fmtS s 2) m (manyN (fmtS s 2) m)
  refine ⟨tkAt (fmtS s 2) m, by omega, by omega, rfl, at_nx _ _, fun j hj => at_ok hn h2 hm (by omega), fun n hn' j hj => ?_, ?_⟩
  · rw [cut_at _ _ _ n (by omega), offer_at hn h2 hm (by omega) (by omega), hl]
  · rw [hl, taken_all hn h2 hm hp, dec_back hs hv]
    rfl
theorem tk_step {t : Tkr} {s : ByteArray} (h : tkrOk t = true) : tkrOk (offerS t s).1 = true := by
  by_cases h1 : (offerS t s).2 = 0 ∨ (offerS t s).2 = 1
  · exact (offer_taken h1).1
  · have hc : (offerS t s).2 = 0 ∨ (offerS t s).2 = 1 ∨ (offerS t s).2 = 2 ∨ (offerS t s).2 = 3 ∨ (offerS t s).2 = 4 := by
      unfold offerS
      split
      · exact .inr (.inr (.inr (.inr rfl)))
      · split
        · exact .inr (.inr (.inr (.inr rfl)))
        · split
          · exact .inr (.inr (.inr (.inr rfl)))
          · split
            · exact .inr (.inr (.inr (.inr rfl)))
            · split
              · exact .inr (.inr (.inl rfl))
              · split
                · exact .inr (.inr (.inr (.inl rfl)))
                · dsimp only
                  split
                  · exact .inr (.inl rfl)
                  · exact .inl rfl
    rw [offer_bad (by omega)]
    exact h
theorem tk_fit {t : Tkr} (h : tkrOk t = true) : FitTkr t ∧ t.b.size ≤ 120000 ∧ (1 ≤ t.nx ∧ t.nx ≤ 601) := by
  by_cases h0 : t.of = 0
  · have e := tkr_new h h0
    have e1 : t.nx = 1 := by rw [e]; rfl
    have e2 : t.b.size = 0 := by rw [e]; rfl
    have e3 : t.ch = (hashN [] : Nat) := by rw [e]; rfl
    have e4 := hashN_lt []
    exact ⟨⟨by omega, by omega, by omega, by unfold maxLen; omega⟩, by omega, by omega⟩
  · obtain ⟨h1, h2, h3, h4⟩ := tkr_in h h0
    exact ⟨⟨by omega, by omega, by omega, by unfold maxLen; omega⟩, by omega, by omega⟩
end Go.Proofs.YtdpjdjkfedcojaaGreat
