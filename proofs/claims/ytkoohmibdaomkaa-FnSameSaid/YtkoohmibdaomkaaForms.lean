/- How a state's rows are told: to be read, of the call's own; what fits; its types' zero values. Condition: none. -/
import Derived.Test.YtkoohmibdaomkaaState
import Derived.Test.YtkoohmibdaomkaaRows
import Derived.ProofKit
import Derived.WalkSpells
import Derived.WalkLawsBesides
import Derived.LoopTactic
import Derived.OwnWalk
import Derived.Laws.OwnMore
namespace Go.Proofs.Ytkoohmibdaomkaa
open Go.RowKit
set_option linter.unusedVariables false

/-- What is read of a text or a number. -/
def FitIt (x : It) : Prop := x.k.size ≤ maxLen ∧ x.v.size ≤ maxLen
def FitTk (x : Tk) : Prop := x.c.size ≤ maxLen ∧ x.r.size ≤ maxLen ∧ -9223372036854775808 ≤ x.q ∧ x.q ≤ 9223372036854775807
/-- A slice that came in: of its address nothing is known where it is empty. -/
def Raw (w : World) (B : Nat) (v : Value) (n : Nat) (cs : List Value) : Prop :=
  ∃ a cap, v = .slice a n cap ∧ n ≤ cap ∧ cap ≤ maxLen ∧ (a = none → cap = 0) ∧ (0 < n → ∃ g o, a = some ⟨g, o, none⟩ ∧ g < B ∧ At w g o cs)
/-- A state that came in. -/
def RawS (w : World) (B : Nat) (v : Value) (s : St) : Prop := ∃ vi vt, v = .agg #[vi, vt] ∧ Raw w B vi s.items.length (s.items.flatMap itC) ∧ Raw w B vt s.talks.length (s.talks.flatMap tkC) ∧ (∀ x ∈ s.items, FitIt x) ∧ ∀ x ∈ s.talks, FitTk x
theorem Raw.later {w w' : World} {B B' n : Nat} {v : Value} {cs : List Value} (h : Raw w B v n cs) (hb : Below B w w') (hB : B ≤ B') : Raw w' B' v n cs := by
  obtain ⟨a, cap, h0, h1, h2, h3, h4⟩ := h
  exact ⟨a, cap, h0, h1, h2, h3, fun h => by
    obtain ⟨g, o, ha, hg, hAt⟩ := h4 h
    exact ⟨g, o, ha, Nat.lt_of_lt_of_le hg hB, hAt.below hb hg⟩⟩
theorem RawS.later {w w' : World} {B B' : Nat} {v : Value} {s : St} (h : RawS w B v s) (hb : Below B w w') (hB : B ≤ B') : RawS w' B' v s := by
  obtain ⟨vi, vt, h0, h1, h2, h3, h4⟩ := h
  exact ⟨vi, vt, h0, h1.later hb hB, h2.later hb hB, h3, h4⟩
/-- A state of few and small things. -/
def Small (s : St) (l : Int) : Prop := (s.items.length : Int) ≤ l ∧ (∀ x ∈ s.items, (x.k.size : Int) ≤ l ∧ (x.v.size : Int) ≤ l) ∧ (s.talks.length : Int) ≤ l ∧ ∀ x ∈ s.talks, (x.c.size : Int) ≤ l ∧ (x.r.size : Int) ≤ l
theorem Small.mono {s : St} {l m : Int} (h : Small s l) (hm : l ≤ m) : Small s m := by
  obtain ⟨h1, h2, h3, h4⟩ := h
  exact ⟨by omega, fun x hx => by have := h2 x hx; omega, by omega, fun x hx => by have := h4 x hx; omega⟩
theorem infoIt : (Try.prog.info? 29).map (fun i => (i.zero, i.size, i.bytes)) = some (some (.agg #[.string ⟨#[]⟩, .string ⟨#[]⟩]), 2, 32) := by kernel_rfl
theorem infoTk : (Try.prog.info? 41).map (fun i => (i.zero, i.size, i.bytes)) = some (some (.agg #[.string ⟨#[]⟩, .int .i64 0, .string ⟨#[]⟩]), 3, 40) := by kernel_rfl
theorem infoSt : (Try.prog.info? 27).map (fun i => (i.zero, i.size, i.bytes)) = some (some (.agg #[.slice none 0 0, .slice none 0 0]), 2, 48) := by kernel_rfl
theorem set_two {α : Type} (A R : List α) (r0 r1 u0 : α) {k : Nat} (h : A.length = k) {u1 : α} : ((A ++ r0 :: r1 :: R).set k u0).set (k + 1) u1 = A ++ u0 :: u1 :: R := by
  subst h
  rw [List.set_append_right _ _ (Nat.le_refl _), Nat.sub_self, List.set_cons_zero, List.set_append_right _ _ (by omega), show A.length + 1 - A.length = 1 by omega]
  rfl
theorem set_three {α : Type} (A R : List α) (r0 r1 r2 : α) {k : Nat} (h : A.length = k) {u0 u1 u2 : α} : (((A ++ r0 :: r1 :: r2 :: R).set k u0).set (k + 1) u1).set (k + 2) u2 = A ++ u0 :: u1 :: u2 :: R := by
  subst h
  rw [List.set_append_right _ _ (Nat.le_refl _), Nat.sub_self, List.set_cons_zero, List.set_append_right _ _ (by omega), show A.length + 1 - A.length = 1 by omega, List.set_append_right _ _ (by omega), show A.length + 2 - A.length = 2 by omega]
  rfl
/-- A state whose rows the call owns: two blocks of their own. -/
def OwnS (w : World) (lo : Nat) (v : Value) (s : St) : Prop := ∃ g h, v = .agg #[.slice (some ⟨g, 0, none⟩) s.items.length s.items.length, .slice (some ⟨h, 0, none⟩) s.talks.length s.talks.length] ∧ g ≠ h ∧
  w.ownsRow lo 29 2 (.slice (some ⟨g, 0, none⟩) s.items.length s.items.length) s.items.length (s.items.flatMap itC) ∧ w.ownsRow lo 41 3 (.slice (some ⟨h, 0, none⟩) s.talks.length s.talks.length) s.talks.length (s.talks.flatMap tkC)
theorem owns_base {w : World} {lo lo' e sz n : Nat} {v : Value} {cs : List Value} (h : w.ownsRow lo e sz v n cs) (hl : lo' ≤ lo) : w.ownsRow lo' e sz v n cs := by
  obtain ⟨h1, h2⟩ := h
  refine ⟨h1, ?_⟩
  rcases h2 with h2 | ⟨g, cap, cur, h3, h4, h5⟩
  · exact .inl h2
  · exact .inr ⟨g, cap, cur, h3, Nat.le_trans hl h4, h5⟩
theorem owns_later {w w' : World} {lo e sz n : Nat} {v : Value} {cs : List Value} (h : w.ownsRow lo e sz v n cs) (hb : Below w.heap.size w w') : w'.ownsRow lo e sz v n cs :=
  h.kept (row := none) ⟨hb.os, hb.tape, hb.output, hb.size, fun j hj _ => hb.block j hj⟩ (by cases hv : v.ownBlock <;> simp)
theorem OwnS.later {w w' : World} {lo : Nat} {v : Value} {s : St} (h : OwnS w lo v s) (hb : Below w.heap.size w w') : OwnS w' lo v s := by
  obtain ⟨g, k, h0, h1, h2, h3⟩ := h
  exact ⟨g, k, h0, h1, owns_later h2 hb, owns_later h3 hb⟩
theorem row_of_owns {w : World} {lo e sz n g : Nat} {cs : List Value} (h : w.ownsRow lo e sz (.slice (some ⟨g, 0, none⟩) n n) n cs) (hn : n ≤ maxLen) : Row w w.heap.size sz (.slice (some ⟨g, 0, none⟩) n n) n cs :=
  ⟨h.1, .inr ⟨g, 0, n, rfl, Nat.le_refl _, hn, .inr (h.lt g rfl).2, fun j u hu => by
    have := h.cells (g := g) rfl j u hu
    rwa [add_flat] at this⟩⟩
theorem OwnS.st {w : World} {lo : Nat} {v : Value} {s : St} (h : OwnS w lo v s) (hi : s.items.length ≤ maxLen) (ht : s.talks.length ≤ maxLen) : StV w w.heap.size v s := by
  obtain ⟨g, k, rfl, _, h2, h3⟩ := h
  exact ⟨_, _, rfl, row_of_owns h2 hi, row_of_owns h3 ht⟩
/-- A state that may be read. -/
def Rd (w : World) (B : Nat) (v : Value) (s : St) : Prop := ∃ vi vt, v = .agg #[vi, vt] ∧ Raw w B vi s.items.length (s.items.flatMap itC) ∧ Raw w B vt s.talks.length (s.talks.flatMap tkC)
theorem Rd.later {w w' : World} {B B' : Nat} {v : Value} {s : St} (h : Rd w B v s) (hb : Below B w w') (hB : B ≤ B') : Rd w' B' v s := by
  obtain ⟨vi, vt, h0, h1, h2⟩ := h
  exact ⟨vi, vt, h0, h1.later hb hB, h2.later hb hB⟩
theorem raw_of_row {w : World} {B k n : Nat} {v : Value} {cs : List Value} (h : Row w B k v n cs) : Raw w B v n cs := by
  obtain ⟨_, h⟩ := h
  rcases h with ⟨rfl, rfl⟩ | ⟨g, o, cap, rfl, h1, h2, h3, h4⟩
  · exact ⟨none, 0, rfl, Nat.le_refl _, Nat.zero_le _, fun _ => rfl, fun h => absurd h (Nat.lt_irrefl _)⟩
  · exact ⟨_, cap, rfl, h1, h2, (fun h => by cases h), fun hn => ⟨g, o, rfl, by omega, h4⟩⟩
theorem StV.rd {w : World} {B : Nat} {v : Value} {s : St} (h : StV w B v s) : Rd w B v s := by
  obtain ⟨vi, vt, h0, h1, h2⟩ := h
  exact ⟨vi, vt, h0, raw_of_row h1, raw_of_row h2⟩
end Go.Proofs.Ytkoohmibdaomkaa
