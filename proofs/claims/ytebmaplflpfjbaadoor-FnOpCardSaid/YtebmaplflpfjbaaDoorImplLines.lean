/- What impl.Lines answers at every text: its pieces between newlines, in a row of the call's own. Condition: the text has at most 2^40 bytes. -/
import Derived.Test.YtebmaplflpfjbaaDoorSplit
import Derived.Test.YtebmaplflpfjbaaDoorLines
namespace Go.Proofs.YtebmaplflpfjbaaDoor
open Go.RowKit Go.Shelf
set_option linter.unusedVariables false
attribute [local go_sem] Oper.semAt_some
attribute [local simp] wide_fn

theorem ownsRow_mono {w : World} {B B' : Nat} {e : TypeId} {size : Nat} {v : Value} {n : Nat} {xs : List Value} (h : w.ownsRow B e size v n xs) (hB : B' ≤ B) : w.ownsRow B' e size v n xs := by
  obtain ⟨h1, h2 | ⟨g, cap, cur, hv, hg, r⟩⟩ := h
  · exact ⟨h1, .inl h2⟩
  · exact ⟨h1, .inr ⟨g, cap, cur, hv, by omega, r⟩⟩

/-- What a round that appends leaves of the two captured variables' blocks. -/
theorem two_append {W w1 : World} {Bs B : Nat} {v v' : Value} {e : TypeId} {size k : Nat} {xs : List Value} {tmp : Obj} (hlt : Bs + 1 < W.heap.size) (hrow : W.ownsRow (Bs + 2) e size v k xs) (hB : B < Bs) (hgrow : (W.alloc tmp).grownBy w1 v.ownBlock) :
    Two Bs W (w1.setCell ⟨B, 0, none⟩ v') := by
  have hne : ∀ b, b < Bs + 2 → some b ≠ v.ownBlock := by
    intro b hb e'
    rcases hrow.2 with ⟨rfl, _⟩ | ⟨g, cap, cur, rfl, hg, _⟩
    · simp [Value.ownBlock] at e'
    · simp [Value.ownBlock] at e'; omega
  have one : ∀ b, b < Bs + 2 → b ≠ B → (w1.setCell ⟨B, 0, none⟩ v').heap[b]? = W.heap[b]? := fun b hb hne' => by
    rw [Below.heap_setCell _ _ _ _ (by simpa using hne'), hgrow.block b (by simp; omega) (hne b hb), Below.heap_alloc _ _ _ (by omega)]
  exact ⟨one Bs (by omega) (by omega), one (Bs + 1) (by omega) (by omega)⟩

end Go.Proofs.YtebmaplflpfjbaaDoor
