/- What the exact laws of states have in common: a state that came in fits; a small one's lengths. Condition: none. -/
import Derived.Test.YtdpjdjkfedcojaaBaseA
import Derived.Test.YtdpjdjkfedcojaaStateOk
namespace Go.Proofs.Ytdpjdjkfedcojaa
open Go.RowKit
set_option linter.unusedVariables false

theorem RawS.fits {w : World} {B : Nat} {v : Value} {s : St} (h : RawS w B v s) : Fits s := by
  obtain ⟨vi, vt, _, _, _, h3, h4⟩ := h
  exact ⟨fun x hx => h3 x hx, fun x hx => h4 x hx⟩
theorem Small.lens {s : St} (h : Small s 1048576) : s.items.length ≤ maxLen ∧ s.talks.length ≤ maxLen := by
  unfold maxLen
  obtain ⟨h1, _, h2, _⟩ := h
  omega
end Go.Proofs.Ytdpjdjkfedcojaa
