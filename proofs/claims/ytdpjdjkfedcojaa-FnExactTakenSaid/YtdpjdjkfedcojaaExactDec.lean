/- The exact laws of VersionOf, Upgrade and Decode: the program answers as its model; what Decode hands back is its own. Condition: none beyond what the arguments may be. -/
import Derived.Test.YtdpjdjkfedcojaaBaseA
import Derived.Test.YtdpjdjkfedcojaaVerUp
import Derived.Test.YtdpjdjkfedcojaaExactPlain
namespace Go.Proofs.Ytdpjdjkfedcojaa
open Go.RowKit
set_option linter.unusedVariables false
set_option linter.unusedSimpArgs false

/-- The rows that are marked: the state's own, or two spare blocks where there is no state. -/
theorem dec_pick {w : World} {base lo p q ci ct : Nat} {ai at_ : Option Addr} {s : St} (h : DecV w base (.agg #[.slice ai s.items.length ci, .slice at_ s.talks.length ct]) s) (hpq : p ≠ q) (hp : lo ≤ p ∧ p < w.heap.size) (hq : lo ≤ q ∧ q < w.heap.size) (hl : lo ≤ base) :
    ∃ gi gt cs ds, gi ≠ gt ∧ NilOr ai gi s.items.length ci ∧ NilOr at_ gt s.talks.length ct ∧ Got w lo 77 2 gi s.items.length ci cs ∧ Got w lo 79 3 gt s.talks.length ct ds ∧ ((base ≤ gi ∧ base ≤ gt) ∨ (gi = p ∧ gt = q ∧ s = ⟨[], []⟩)) := by
  rcases h with ⟨h, rfl⟩ | h
  · obtain ⟨⟨rfl, rfl⟩, rfl, rfl⟩ : (ai = none ∧ ci = 0) ∧ at_ = none ∧ ct = 0 := by simpa using h
    exact ⟨p, q, [], [], hpq, .inr ⟨rfl, rfl, rfl⟩, .inr ⟨rfl, rfl, rfl⟩, ⟨rfl, Nat.le_refl _, Nat.zero_le _, hp.1, hp.2, .inl ⟨rfl, rfl⟩⟩, ⟨rfl, Nat.le_refl _, Nat.zero_le _, hq.1, hq.2, .inl ⟨rfl, rfl⟩⟩, .inr ⟨rfl, rfl, rfl⟩⟩
  · obtain ⟨vi, vt, gi, ci', gt, ct', h0, h1, ⟨a, rfl, h2⟩, ⟨b, rfl, h3⟩, h4, h5⟩ := h
    obtain ⟨⟨rfl, rfl⟩, rfl, rfl⟩ : (ai = a ∧ ci = ci') ∧ at_ = b ∧ ct = ct' := by simpa using h0
    exact ⟨gi, gt, _, _, h1, h2, h3, h4.base hl, h5.base hl, .inl ⟨h4.2.2.2.1, h5.2.2.2.1⟩⟩
theorem rd_none {w w' : World} {B B' : Nat} {v : Value} (h : Rd w B v ⟨[], []⟩) : Rd w' B' v ⟨[], []⟩ := by
  obtain ⟨vi, vt, h0, ⟨a, c, a1, a2, a3, a4, _⟩, ⟨b, d, b1, b2, b3, b4, _⟩⟩ := h
  exact ⟨vi, vt, h0, ⟨a, c, a1, a2, a3, a4, fun h => absurd h (Nat.lt_irrefl _)⟩, ⟨b, d, b1, b2, b3, b4, fun h => absurd h (Nat.lt_irrefl _)⟩⟩
end Go.Proofs.Ytdpjdjkfedcojaa
