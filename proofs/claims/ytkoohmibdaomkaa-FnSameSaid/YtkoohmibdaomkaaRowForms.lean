/- States whose rows are the call's own, told as rows that can be read. Condition: none. -/
import Derived.Test.YtkoohmibdaomkaaRowSet
import Derived.Test.YtkoohmibdaomkaaForms
namespace Go.Proofs.Ytkoohmibdaomkaa
open Go.RowKit
set_option linter.unusedVariables false

theorem rd_parts {w : World} {b1 b2 gi gt ci ct : Nat} {ai at_ : Option Addr} {s : St} (hi : NilOr ai gi s.items.length ci) (ht : NilOr at_ gt s.talks.length ct)
    (gI : Got w b1 29 2 gi s.items.length ci (s.items.flatMap itC)) (gT : Got w b2 41 3 gt s.talks.length ct (s.talks.flatMap tkC)) :
    Rd w w.heap.size (.agg #[.slice ai s.items.length ci, .slice at_ s.talks.length ct]) s :=
  ⟨_, _, rfl, raw_of_got gI ⟨ai, rfl, hi⟩, raw_of_got gT ⟨at_, rfl, ht⟩⟩
theorem row_of_got {w : World} {b e sz g n cap : Nat} {cs : List Value} (h : Got w b e sz g n cap cs) : Row w w.heap.size sz (.slice (some ⟨g, 0, none⟩) n cap) n cs := by
  obtain ⟨h1, h2, h3, h4, h5, h6⟩ := h
  refine ⟨h1, .inr ⟨g, 0, cap, rfl, h2, h3, ?_, fun j u hu => ?_⟩⟩
  · exact .inr h5
  · have hn : 0 < cs.length := by
      rcases Nat.eq_zero_or_pos cs.length with h | h
      · have : cs = [] := List.eq_nil_of_length_eq_zero h
        subst this; simp at hu
      · exact h
    rcases h6 with ⟨rfl, _⟩ | h6
    · rw [h1] at hn; omega
    · have := h6.cells (g := g) rfl j u hu
      rwa [add_flat] at this
theorem st_parts {w : World} {b1 b2 gi gt ci ct : Nat} {s : St} (gI : Got w b1 29 2 gi s.items.length ci (s.items.flatMap itC)) (gT : Got w b2 41 3 gt s.talks.length ct (s.talks.flatMap tkC)) :
    StV w w.heap.size (.agg #[.slice (some ⟨gi, 0, none⟩) s.items.length ci, .slice (some ⟨gt, 0, none⟩) s.talks.length ct]) s :=
  ⟨_, _, rfl, row_of_got gI, row_of_got gT⟩
theorem got_of_owns {w : World} {lo e sz n g : Nat} {cs : List Value} (h : w.ownsRow lo e sz (.slice (some ⟨g, 0, none⟩) n n) n cs) (hn : n ≤ maxLen) : Got w lo e sz g n n cs :=
  ⟨h.1, Nat.le_refl _, hn, (h.lt g rfl).1, (h.lt g rfl).2, .inr h⟩
theorem OwnS.c {w : World} {lo : Nat} {v : Value} {s : St} (h : OwnS w lo v s) (hi : s.items.length ≤ maxLen) (ht : s.talks.length ≤ maxLen) :
    ∃ g k, v = .agg #[.slice (some ⟨g, 0, none⟩) s.items.length s.items.length, .slice (some ⟨k, 0, none⟩) s.talks.length s.talks.length] ∧ g ≠ k ∧
      Got w lo 29 2 g s.items.length s.items.length (s.items.flatMap itC) ∧ Got w lo 41 3 k s.talks.length s.talks.length (s.talks.flatMap tkC) := by
  obtain ⟨g, k, h0, h1, h2, h3⟩ := h
  exact ⟨g, k, h0, h1, got_of_owns h2 hi, got_of_owns h3 ht⟩
theorem slice_of_row {w : World} {B sz n : Nat} {v : Value} {cs : List Value} (h : Row w B sz v n cs) : ∃ a m c, v = .slice a m c := by
  rcases h with ⟨_, ⟨rfl, _⟩ | ⟨g, o, cap, rfl, _⟩⟩ <;> exact ⟨_, _, _, rfl⟩

end Go.Proofs.Ytkoohmibdaomkaa
