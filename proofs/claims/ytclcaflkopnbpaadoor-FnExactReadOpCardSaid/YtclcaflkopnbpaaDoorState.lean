/- States as data, and how they lie in memory: rows of cells. Condition: none. -/
import Derived.Test.YtclcaflkopnbpaaDoorCurPlain
import Derived.Test.YtclcaflkopnbpaaDoorPlain
import Derived.WalkKit
import Derived.Lib.Hide
namespace Go.Proofs.YtclcaflkopnbpaaDoor
open Go.RowKit
set_option linter.unusedVariables false

structure It where
  k : ByteArray
  v : ByteArray
structure Tk where
  c : ByteArray
  q : Int
  r : ByteArray
structure St where
  items : List It
  talks : List Tk
instance : Inhabited It := ⟨⟨⟨#[]⟩, ⟨#[]⟩⟩⟩
instance : Inhabited Tk := ⟨⟨⟨#[]⟩, 0, ⟨#[]⟩⟩⟩
def itC (x : It) : List Value := [.string x.k, .string x.v]
def tkC (x : Tk) : List Value := [.string x.c, .int .i64 x.q, .string x.r]
def itA (x : It) : Value := .agg #[.string x.k, .string x.v]
def tkA (x : Tk) : Value := .agg #[.string x.c, .int .i64 x.q, .string x.r]

/-- Cells one behind the other. -/
def At (w : World) (g o : Nat) (cs : List Value) : Prop := ∀ j u, cs[j]? = some u → w.cell? ⟨g, o + j, none⟩ = some u
theorem At.nil (w : World) (g o : Nat) : At w g o [] := fun j u h => by simp at h
theorem At.cons {w : World} {g o : Nat} {v : Value} {cs : List Value} : At w g o (v :: cs) ↔ w.cell? ⟨g, o, none⟩ = some v ∧ At w g (o + 1) cs := by
  constructor
  · intro h
    refine ⟨h 0 v rfl, fun j u hu => ?_⟩
    have := h (j + 1) u (by simpa using hu)
    rwa [show o + (j + 1) = o + 1 + j by omega] at this
  · rintro ⟨h0, h1⟩ j u hu
    cases j with
    | zero => simp at hu; subst hu; simpa using h0
    | succ j =>
      have := h1 j u (by simpa using hu)
      rwa [show o + 1 + j = o + (j + 1) by omega] at this
theorem At.append {w : World} {g o : Nat} {a b : List Value} : At w g o (a ++ b) ↔ At w g o a ∧ At w g (o + a.length) b := by
  induction a generalizing o with
  | nil => simp [At.nil]
  | cons v a ih =>
    rw [List.cons_append, At.cons, At.cons, ih, and_assoc, List.length_cons, show o + 1 + a.length = o + (a.length + 1) by omega]
theorem At.below {w w' : World} {g o B : Nat} {cs : List Value} (h : At w g o cs) (hb : Below B w w') (hg : g < B) : At w' g o cs := fun j u hu => by
  rw [hb.cell hg]; exact h j u hu

/-- A slice of n elements of k cells each: nil; or cells in a block below B. -/
def Row (w : World) (B k : Nat) (v : Value) (n : Nat) (cs : List Value) : Prop :=
  cs.length = n * k ∧ ((v = .slice none 0 0 ∧ n = 0) ∨ ∃ g o cap, v = .slice (some ⟨g, o, none⟩) n cap ∧ n ≤ cap ∧ cap ≤ maxLen ∧ (n = 0 ∨ g < B) ∧ At w g o cs)
def RowI (w : World) (B : Nat) (v : Value) (xs : List It) : Prop := Row w B 2 v xs.length (xs.flatMap itC)
def RowT (w : World) (B : Nat) (v : Value) (xs : List Tk) : Prop := Row w B 3 v xs.length (xs.flatMap tkC)
/-- A state by value. -/
def StV (w : World) (B : Nat) (v : Value) (s : St) : Prop := ∃ vi vt, v = .agg #[vi, vt] ∧ RowI w B vi s.items ∧ RowT w B vt s.talks
theorem Row.later {w w' : World} {B B' k n : Nat} {v : Value} {cs : List Value} (h : Row w B k v n cs) (hk : 0 < k) (hb : Below B w w') (hB : B ≤ B') : Row w' B' k v n cs := by
  obtain ⟨hl, h⟩ := h
  refine ⟨hl, ?_⟩
  rcases h with h | ⟨g, o, cap, rfl, h1, h2, h3, h4⟩
  · exact .inl h
  · rcases h3 with rfl | h3
    · have : cs = [] := List.eq_nil_of_length_eq_zero (by simpa using hl)
      subst this
      exact .inr ⟨g, o, cap, rfl, h1, h2, .inl rfl, At.nil _ _ _⟩
    · exact .inr ⟨g, o, cap, rfl, h1, h2, .inr (Nat.lt_of_lt_of_le h3 hB), h4.below hb h3⟩
theorem StV.later {w w' : World} {B B' : Nat} {v : Value} {s : St} (h : StV w B v s) (hb : Below B w w') (hB : B ≤ B') : StV w' B' v s := by
  obtain ⟨vi, vt, rfl, h1, h2⟩ := h
  exact ⟨vi, vt, rfl, h1.later (by decide) hb hB, h2.later (by decide) hb hB⟩
theorem flat_len_it (xs : List It) : (xs.flatMap itC).length = xs.length * 2 := by
  induction xs with
  | nil => rfl
  | cons x xs ih => rw [List.flatMap_cons, List.length_append, ih, List.length_cons]; simp [itC]; omega
theorem flat_len_tk (xs : List Tk) : (xs.flatMap tkC).length = xs.length * 3 := by
  induction xs with
  | nil => rfl
  | cons x xs ih => rw [List.flatMap_cons, List.length_append, ih, List.length_cons]; simp [tkC]; omega
/-- An item's two cells. -/
theorem At.item {w : World} {g o : Nat} {xs : List It} (h : At w g o (xs.flatMap itC)) (i : Nat) (hi : i < xs.length) :
    w.cell? ⟨g, o + i * 2, none⟩ = some (.string xs[i].k) ∧ w.cell? ⟨g, o + i * 2 + 1, none⟩ = some (.string xs[i].v) := by
  induction xs generalizing o i with
  | nil => simp at hi
  | cons x xs ih =>
    rw [List.flatMap_cons, At.append] at h
    cases i with
    | zero =>
      have h1 := h.1
      simp only [itC, At.cons] at h1
      exact ⟨by simpa using h1.1, by simpa using h1.2.1⟩
    | succ i =>
      have := ih h.2 i (by simpa using hi)
      simp only [itC, List.length_cons, List.length_nil] at this
      rw [show o + (0 + 1 + 1) + i * 2 = o + (i + 1) * 2 by omega] at this
      exact this
theorem At.talk {w : World} {g o : Nat} {xs : List Tk} (h : At w g o (xs.flatMap tkC)) (i : Nat) (hi : i < xs.length) :
    w.cell? ⟨g, o + i * 3, none⟩ = some (.string xs[i].c) ∧ w.cell? ⟨g, o + i * 3 + 1, none⟩ = some (.int .i64 xs[i].q) ∧ w.cell? ⟨g, o + i * 3 + 2, none⟩ = some (.string xs[i].r) := by
  induction xs generalizing o i with
  | nil => simp at hi
  | cons x xs ih =>
    rw [List.flatMap_cons, At.append] at h
    cases i with
    | zero =>
      have h1 := h.1
      simp only [tkC, At.cons] at h1
      exact ⟨by simpa using h1.1, by simpa using h1.2.1, by simpa using h1.2.2.1⟩
    | succ i =>
      have := ih h.2 i (by simpa using hi)
      simp only [tkC, List.length_cons, List.length_nil] at this
      rw [show o + (0 + 1 + 1 + 1) + i * 3 = o + (i + 1) * 3 by omega] at this
      exact this
/-- Two texts compared, as the walk spells it. -/
theorem teq {a b : ByteArray} (h : a = b) : (a.toList == b.toList) = true := by rw [h]; simp
theorem tne {a b : ByteArray} (h : ¬ a = b) : (a.toList == b.toList) = false := by
  rw [Bool.eq_false_iff]; intro hc; apply h
  simp only [ByteArray.toList_eq, beq_iff_eq] at hc
  exact ByteArray.ext (Array.toList_inj.mp hc)
/-- The first item with a key. -/
def itemAt (xs : List It) (key : ByteArray) : Int := match xs.findIdx? (fun x => decide (x.k = key)) with | some i => (i : Int) | none => -1
def talkAt (xs : List Tk) (c : ByteArray) : Int := match xs.findIdx? (fun x => decide (x.c = c)) with | some i => (i : Int) | none => -1
theorem itemAt_found {xs : List It} {key : ByteArray} {k : Nat} (hk : k < xs.length) (h : xs[k].k = key) (hb : ∀ i (hi : i < k), ¬ xs[i].k = key) : itemAt xs key = k := by
  have : xs.findIdx? (fun x => decide (x.k = key)) = some k := List.findIdx?_eq_some_iff_getElem.2 ⟨hk, by simpa using h, fun j hj => by simpa using hb j hj⟩
  unfold itemAt; rw [this]
theorem itemAt_none {xs : List It} {key : ByteArray} (hb : ∀ i (hi : i < xs.length), ¬ xs[i].k = key) : itemAt xs key = -1 := by
  have : xs.findIdx? (fun x => decide (x.k = key)) = none := by
    rw [List.findIdx?_eq_none_iff]
    intro x hx
    obtain ⟨i, hi, rfl⟩ := List.getElem_of_mem hx
    simpa using hb i hi
  unfold itemAt; rw [this]
theorem talkAt_found {xs : List Tk} {key : ByteArray} {k : Nat} (hk : k < xs.length) (h : xs[k].c = key) (hb : ∀ i (hi : i < k), ¬ xs[i].c = key) : talkAt xs key = k := by
  have : xs.findIdx? (fun x => decide (x.c = key)) = some k := List.findIdx?_eq_some_iff_getElem.2 ⟨hk, by simpa using h, fun j hj => by simpa using hb j hj⟩
  unfold talkAt; rw [this]
theorem talkAt_none {xs : List Tk} {key : ByteArray} (hb : ∀ i (hi : i < xs.length), ¬ xs[i].c = key) : talkAt xs key = -1 := by
  have : xs.findIdx? (fun x => decide (x.c = key)) = none := by
    rw [List.findIdx?_eq_none_iff]
    intro x hx
    obtain ⟨i, hi, rfl⟩ := List.getElem_of_mem hx
    simpa using hb i hi
  unfold talkAt; rw [this]
theorem itemAt_lo (xs : List It) (key : ByteArray) : -1 ≤ itemAt xs key := by unfold itemAt; split <;> omega
theorem talkAt_lo (xs : List Tk) (key : ByteArray) : -1 ≤ talkAt xs key := by unfold talkAt; split <;> omega
theorem itemAt_hi (xs : List It) (key : ByteArray) : itemAt xs key < xs.length ∨ itemAt xs key = -1 := by
  unfold itemAt
  split
  · rename_i i h; have := (List.findIdx?_eq_some_iff_getElem.1 h).1; left; omega
  · right; rfl
end Go.Proofs.YtclcaflkopnbpaaDoor
