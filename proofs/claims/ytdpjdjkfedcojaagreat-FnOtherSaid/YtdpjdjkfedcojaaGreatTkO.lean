/- What the proofs of this seat have in common: plain facts, rows in memory, the laws' own helpers, the small functions' contracts. Condition: none. -/
import Derived.Test.YtdpjdjkfedcojaaGreatTkForms
import Derived.Test.YtdpjdjkfedcojaaGreatStrA
namespace Go.Proofs.YtdpjdjkfedcojaaGreat
open Go.RowKit
set_option linter.unusedVariables false
set_option linter.unusedSimpArgs false

theorem tk_stream {s : St} {m : Nat} {E : List ByteArray} (hs : stOk s = true) (h1 : 8 ≤ m) (h2 : m ≤ 200) (hE : E = cutS (fmtS s 2) (m : Int)) :
    ∃ T : Nat → Tkr, 0 < E.length ∧ E.length ≤ 600 ∧ T 0 = tkN ∧ (∀ j, (T j).nx = (j : Int) + 1) ∧ (∀ j, j ≤ E.length → tkrOk (T j) = true) ∧
      (∀ n (hn : n < E.length) j, j ≤ E.length → offerS (T j) E[n] = if n < j then (T j, 2) else if j < n then (T j, 3) else (T (j + 1), if n + 1 = E.length then 1 else 0)) ∧ takenS (T E.length) = (s, true) := by
  have hv : inB 2 1 3 = true := by decide
  obtain ⟨e, hm, hp⟩ := exp_is hs hv h1 h2
  rw [e] at hE
  subst hE
  have hn : 0 < m := by omega
  have hl := cutUp_len (fmtS s 2) m (manyN (fmtS s 2) m)
  refine ⟨tkAt (fmtS s 2) m, by omega, by omega, rfl, at_nx _ _, fun j hj => at_ok hn h2 hm (by omega), fun n hn' j hj => ?_, ?_⟩
  · rw [cut_at _ _ _ n (by omega), offer_at hn h2 hm (by omega) (by omega), hl]
  · rw [hl, taken_all hn h2 hm hp, dec_back hs hv]
    rfl
theorem tk_step {t : Tkr} {s : ByteArray} (h : tkrOk t = true) : tkrOk (offerS t s).1 = true := by
  by_cases h1 : (offerS t s).2 = 0 ∨ (offerS t s).2 = 1
  · exact (offer_taken h1).1
  · have hc : (offerS t s).2 = 0 ∨ (offerS t s).2 = 1 ∨ (offerS t s).2 = 2 ∨ (offerS t s).2 = 3 ∨ (offerS t s).2 = 4 := by
      unfold offerS
      split
      · exact .inr (.inr (.inr (.inr rfl)))
      · split
        · exact .inr (.inr (.inr (.inr rfl)))
        · split
          · exact .inr (.inr (.inr (.inr rfl)))
          · split
            · exact .inr (.inr (.inr (.inr rfl)))
            · split
              · exact .inr (.inr (.inl rfl))
              · split
                · exact .inr (.inr (.inr (.inl rfl)))
                · dsimp only
                  split
                  · exact .inr (.inl rfl)
                  · exact .inl rfl
    rw [offer_bad (by omega)]
    exact h
theorem tk_fit {t : Tkr} (h : tkrOk t = true) : FitTkr t ∧ t.b.size ≤ 120000 ∧ (1 ≤ t.nx ∧ t.nx ≤ 601) := by
  by_cases h0 : t.of = 0
  · have e := tkr_new h h0
    have e1 : t.nx = 1 := by rw [e]; rfl
    have e2 : t.b.size = 0 := by rw [e]; rfl
    have e3 : t.ch = (hashN [] : Nat) := by rw [e]; rfl
    have e4 := hashN_lt []
    exact ⟨⟨by omega, by omega, by omega, by unfold maxLen; omega⟩, by omega, by omega⟩
  · obtain ⟨h1, h2, h3, h4⟩ := tkr_in h h0
    exact ⟨⟨by omega, by omega, by omega, by unfold maxLen; omega⟩, by omega, by omega⟩
end Go.Proofs.YtdpjdjkfedcojaaGreat

namespace Go.Proofs.YtdpjdjkfedcojaaGreat
open Go.RowKit
set_option linter.unusedVariables false
set_option linter.unusedSimpArgs false

theorem putI_enc {xs : List It} {x : It} (hn : ∀ y ∈ xs, y.k ≠ x.k) : ((putI xs x).flatMap encIt).length = (xs.flatMap encIt).length + (encIt x).length := by
  have hp := posI_le xs x.k
  have hc : ¬ ((xs[posI xs x.k]?).map (·.k) = some x.k) := by
    intro h
    rcases Nat.lt_or_ge (posI xs x.k) xs.length with hl | hl
    · rw [List.getElem?_eq_getElem hl] at h
      simp only [Option.map_some, Option.some.injEq] at h
      exact hn _ (List.getElem_mem hl) h
    · rw [List.getElem?_eq_none hl] at h
      cases h
  unfold putI
  rw [if_neg hc, List.flatMap_append, List.flatMap_cons]
  have h := congrArg (fun l => (l.flatMap encIt).length) (List.take_append_drop (posI xs x.k) xs)
  simp only [List.flatMap_append, List.length_append] at h
  simp only [List.length_append]
  omega
theorem fmt_two {s : St} (h : stOk s = true) : (fmtS s 2).size = 4 + (s.items.flatMap encIt).length + (tailL s).length := by
  rw [fmtS_low h (by rfl) (by decide)]
  show (bodyB 2 s).size = _
  have h3 := three_sizes s
  rw [h3.2.1]
  unfold midL
  rw [List.length_append, be8_len]
  omega
/-- A longer item more makes the text longer. -/
theorem fmt_put {s : St} {x : It} (hs : stOk s = true) (hu : stOk (putSI s x) = true) (hn : ∀ y ∈ s.items, y.k ≠ x.k) : (fmtS (putSI s x) 2).size = (fmtS s 2).size + (encIt x).length := by
  rw [fmt_two hs, fmt_two hu]
  have h1 := putI_enc hn
  have h2 : tailL (putSI s x) = tailL s := rfl
  have h3 : (putSI s x).items = putI s.items x := rfl
  rw [h2, h3, h1]
  omega
theorem tk_other {s u : St} {E1 E2 : List ByteArray} (hs : stOk s = true) (hu : stOk u = true) (hz : (fmtS s 2).size + 8 ≤ (fmtS u 2).size) (h1 : E1 = cutS (fmtS s 2) ((8 : Nat) : Int)) (h2 : E2 = cutS (fmtS u 2) ((8 : Nat) : Int)) :
    0 < E1.length ∧ E1.length < E2.length ∧ E2.length ≤ 600 ∧ ∃ t : Tkr, tkrOk t = true ∧ (∀ (ha : 0 < E1.length), (offerS tkN E1[0]).1 = t) ∧ (∀ (hb : E2.length - 1 < E2.length), offerS t (E2[E2.length - 1]) = (t, 4)) := by
  have hv : inB 2 1 3 = true := by decide
  obtain ⟨e1, m1, p1⟩ := exp_is hs hv (show 8 ≤ 8 by omega) (show 8 ≤ 200 by omega)
  obtain ⟨e2, m2, p2⟩ := exp_is hu hv (show 8 ≤ 8 by omega) (show 8 ≤ 200 by omega)
  rw [e1] at h1
  rw [e2] at h2
  subst h1 h2
  have l1 := cutUp_len (fmtS s 2) 8 (manyN (fmtS s 2) 8)
  have l2 := cutUp_len (fmtS u 2) 8 (manyN (fmtS u 2) 8)
  have hlt : manyN (fmtS s 2) 8 < manyN (fmtS u 2) 8 := by unfold manyN; omega
  refine ⟨by omega, by omega, by omega, tkAt (fmtS s 2) 8 1, at_ok (by omega) (by omega) m1 (by omega), fun ha => ?_, fun hb => ?_⟩
  · rw [cut_at _ _ _ 0 (by omega)]
    have h := offer_at (s := fmtS s 2) (n := 8) (by omega) (by omega) m1 (i := 0) (j := 0) (by omega) (by omega)
    rw [if_neg (by omega), if_neg (by omega)] at h
    have h0 : tkAt (fmtS s 2) 8 0 = tkN := rfl
    rw [h0] at h
    rw [h]
  · have ho : (tkAt (fmtS s 2) 8 1).of = (manyN (fmtS s 2) 8 : Nat) := by unfold tkAt; rw [if_neg (by omega)]
    rw [cut_at _ _ _ _ (by omega)]
    have hp := piece_is (s := fmtS u 2) (n := 8) (by omega) (by omega) m2 (show (cutUp (fmtS u 2) 8 (manyN (fmtS u 2) 8)).length - 1 < manyN (fmtS u 2) 8 by omega)
    refine offer_other (by rw [ho]; omega) (by rw [hp]) ?_
    rw [hp, ho]
    show ¬ ((manyN (fmtS s 2) 8 : Nat) : Int) = (manyN (fmtS u 2) 8 : Nat)
    omega
end Go.Proofs.YtdpjdjkfedcojaaGreat
