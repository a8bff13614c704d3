/- The exact laws' marks on a row of states that may be nil. Condition: the row is the call's own. -/
import Derived.Test.YtebmaplflpfjbaaMarkL
import Derived.Test.YtebmaplflpfjbaaSpecSplit
namespace Go.Proofs.Ytebmaplflpfjbaa
open Go.RowKit
set_option linter.unusedVariables false
set_option linter.unusedSimpArgs false

theorem OwnLN.later {w w' : World} {base : Nat} {v : Value} {qs : List Sq} (h : OwnLN w base v qs) (hb : Below w.heap.size w w') : OwnLN w' base v qs := by
  rcases h with h | ⟨g, cap, rfl, h⟩
  · exact .inl h
  · exact .inr ⟨g, cap, rfl, h.later hb⟩
theorem OwnLN.kept {w w' : World} {base : Nat} {v : Value} {qs : List Sq} (h : OwnLN w base v qs) (hs : w.heap.size ≤ w'.heap.size) (hb : ∀ j, base ≤ j → j < w.heap.size → w'.heap[j]? = w.heap[j]?) : OwnLN w' base v qs := by
  rcases h with h | ⟨g, cap, rfl, h⟩
  · exact .inl h
  · exact .inr ⟨g, cap, rfl, ⟨row_move h.row (hb _ h.glt.1 h.glt.2), h.capl, h.len, fun q hq => (h.own q hq).moved hs hb, h.apart, h.notg⟩⟩
theorem OwnLN.rd {w : World} {base : Nat} {v : Value} {qs : List Sq} (h : OwnLN w base v qs) : RdL w w.heap.size v qs := by
  rcases h with ⟨rfl, rfl⟩ | ⟨g, cap, rfl, h⟩
  · exact ⟨⟨none, 0, rfl, Nat.le_refl _, Nat.zero_le _, fun _ => rfl, fun h => absurd h (Nat.lt_irrefl _)⟩, fun q hq => by simp at hq⟩
  · exact h.rd
theorem GotL.rd {w : World} {base g cap : Nat} {qs : List Sq} (h : GotL w base g cap qs) : RdL w w.heap.size (.slice (some ⟨g, 0, none⟩) qs.length cap) qs :=
  ⟨raw_of_row (row_of_got h.1), fun q hq => (h.2.1 q hq).rd⟩
/-- A row of states, marked from k on. -/
def MarkV (w : World) (base k : Nat) (v : Value) (qs : List Sq) : Prop := (v = .slice none 0 0 ∧ qs = []) ∨ ∃ g cap, v = .slice (some ⟨g, 0, none⟩) qs.length cap ∧ (qs.length ≤ 9223372036854775807 ∧ qs.length ≤ cap) ∧ At w g 0 (qs.flatMap sqC) ∧ g < w.heap.size ∧ MarkL w base k qs
theorem MarkV.later {w w' : World} {base k : Nat} {v : Value} {qs : List Sq} (h : MarkV w base k v qs) (hb : Below w.heap.size w w') : MarkV w' base k v qs := by
  rcases h with h | ⟨g, cap, rfl, h1, h2, h3, h4⟩
  · exact .inl h
  · refine .inr ⟨g, cap, rfl, h1, fun i u hu => ?_, Nat.lt_of_lt_of_le h3 hb.size, h4.later hb⟩
    rw [World.cell?_of_block (a := ⟨g, 0 + i, none⟩) (hb.block g h3)]
    exact h2 i u hu
theorem mark_statesN (k base : Nat) (v : Value) (qs : List Sq) (w : World) (hk : 0 < k) (hk' : k + sumL qs ≤ 9223372036854775807) (h : OwnLN w base v qs) (hB : base ≤ w.heap.size) :
    Calls Try.prog 36 #[v, .int .i64 k] w fun e w' => e = .returned (.int .i64 ((k + sumL qs : Nat) : Int)) ∧ MarkV w' base k v qs ∧ Below base w w' := by
  rcases h with ⟨rfl, rfl⟩ | ⟨g, cap, rfl, h⟩
  · go_enter Try.func36, Try.ntmps36
    go_wp2
    go_loop [1, 5] (fun q i => q = .int .i64 k ∧ i = .int .i64 0) (fun _ _ => 0)
    case atStart => exact ⟨rfl, rfl⟩
    case round =>
      obtain ⟨rfl, rfl⟩ := hrel
      go_wp2
      go_ret
      exact ⟨ret_int (by simp [sumL]), .inl ⟨rfl, rfl⟩, Below.refl _ _⟩
  · refine (mark_states _ k g cap base qs w hk hk' h hB).mono ?_
    rintro e w' ⟨rfl, h1, h2, h3⟩
    refine ⟨rfl, .inr ⟨g, cap, rfl, ⟨by have := h.capl; unfold maxLen at this; omega, h.capl.1⟩, fun i u hu => ?_, Nat.lt_of_lt_of_le h.glt.2 h3.size, h1⟩, h3⟩
    have h4 := (row_move h.row (h2 g h.glt.2 h.notg)).cells (g := g) rfl i u hu
    rwa [add_flat] at h4
theorem held_statesN (k base : Nat) (v : Value) (qs : List Sq) (w : World) (hk : 0 < k) (hk' : k + sumL qs ≤ 9223372036854775807) (h : MarkV w base k v qs) :
    Calls Try.prog 37 #[v, .int .i64 k] w fun e w' => e = .returned (.int .i64 ((k + sumL qs : Nat) : Int)) ∧ Below w.heap.size w w' := by
  rcases h with ⟨rfl, rfl⟩ | ⟨g, cap, rfl, h1, h2, h3, h4⟩
  · go_enter Try.func37, Try.ntmps37
    go_wp2
    go_loop [1, 5] (fun q i => q = .int .i64 k ∧ i = .int .i64 0) (fun _ _ => 0)
    case atStart => exact ⟨rfl, rfl⟩
    case round =>
      obtain ⟨rfl, rfl⟩ := hrel
      go_wp2
      go_ret
      exact ⟨ret_int (by simp [sumL]), Below.refl _ _⟩
  · exact held_states _ k g cap base qs w hk hk' ⟨rfl, h1⟩ h2 h3 h4
end Go.Proofs.Ytebmaplflpfjbaa
