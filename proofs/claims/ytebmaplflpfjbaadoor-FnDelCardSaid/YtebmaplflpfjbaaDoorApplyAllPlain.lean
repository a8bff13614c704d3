/- Many operations, one behind the other, as data; a row of operations; a state and a row of replies that lie apart. Condition: none. -/
import Derived.Test.YtebmaplflpfjbaaDoorApplyPlain
import Derived.Test.YtebmaplflpfjbaaDoorAppendNil
import Derived.Test.YtebmaplflpfjbaaDoorBaseA
namespace Go.Proofs.YtebmaplflpfjbaaDoor
open Go.RowKit
set_option linter.unusedVariables false

def apA (s : St) : List Rq → St × List ByteArray
  | [] => (s, [])
  | x :: xs => ((apA (ap s x).1 xs).1, (ap s x).2.1 :: (apA (ap s x).1 xs).2)
theorem apA_append (xs ys : List Rq) : ∀ s : St, apA s (xs ++ ys) = ((apA (apA s xs).1 ys).1, (apA s xs).2 ++ (apA (apA s xs).1 ys).2) := by
  induction xs with
  | nil => intro s; rfl
  | cons x xs ih => intro s; simp only [List.cons_append, apA]; rw [ih]
theorem apA_snoc (s : St) (xs : List Rq) (x : Rq) : apA s (xs ++ [x]) = ((ap (apA s xs).1 x).1, (apA s xs).2 ++ [(ap (apA s xs).1 x).2.1]) := by
  rw [apA_append]; rfl
theorem apA_len (xs : List Rq) : ∀ s : St, (apA s xs).2.length = xs.length := by
  induction xs with
  | nil => intro s; rfl
  | cons x xs ih => intro s; simp only [apA, List.length_cons]; rw [ih]
theorem apA_take (s : St) (xs : List Rq) (k : Nat) (hk : k < xs.length) : apA s (xs.take (k + 1)) = ((ap (apA s (xs.take k)).1 xs[k]).1, (apA s (xs.take k)).2 ++ [(ap (apA s (xs.take k)).1 xs[k]).2.1]) := by
  rw [List.take_succ_eq_append_getElem hk, apA_snoc]
/-- What every state on the way is. -/
def KeepS (s : St) : Prop := Small s 2097152 ∧ Fits s
theorem ap_keep {s : St} (h : KeepS s) (x : Rq) : KeepS (ap s x).1 := by
  unfold ap
  split
  · exact h
  · split
    · exact h
    · split
      · split
        · exact h
        · exact h
      · split
        · exact h
        · split
          · exact h
          · rename_i h2
            have h3 : stOk (endS s x) = true := by simpa using h2
            exact ⟨(ok_small h3).mono (by omega), ok_fits h3⟩
theorem apA_keep (xs : List Rq) : ∀ {s : St}, KeepS s → KeepS (apA s xs).1 := by
  induction xs with
  | nil => intro s h; exact h
  | cons x xs ih => intro s h; exact ih (ap_keep h x)
theorem KeepS.few {s : St} (h : KeepS s) : Few s := by have := h.1; unfold Small at this; unfold Few; omega
theorem rqC_len (xs : List Rq) : (xs.flatMap rqC).length = xs.length * 5 := by
  induction xs with
  | nil => rfl
  | cons x xs ih => rw [List.flatMap_cons, List.length_append, ih, List.length_cons]; simp [rqC]; omega
theorem At.op {w : World} {g o : Nat} {xs : List Rq} (h : At w g o (xs.flatMap rqC)) (i : Nat) (hi : i < xs.length) :
    w.cell? ⟨g, o + i * 5, none⟩ = some (.string xs[i].c) ∧ w.cell? ⟨g, o + i * 5 + 1, none⟩ = some (.int .i64 xs[i].q) ∧ w.cell? ⟨g, o + i * 5 + 2, none⟩ = some (.int .i64 xs[i].n) ∧ w.cell? ⟨g, o + i * 5 + 3, none⟩ = some (.string xs[i].k) ∧ w.cell? ⟨g, o + i * 5 + 4, none⟩ = some (.string xs[i].v) := by
  induction xs generalizing o i with
  | nil => simp at hi
  | cons x xs ih =>
    rw [List.flatMap_cons, At.append] at h
    cases i with
    | zero =>
      have h0 := h.1
      exact ⟨by simpa using h0 0 _ rfl, by simpa using h0 1 _ rfl, by simpa using h0 2 _ rfl, by simpa using h0 3 _ rfl, by simpa using h0 4 _ rfl⟩
    | succ i =>
      have h1 := ih h.2 i (by simpa using hi)
      have e : o + (rqC x).length + i * 5 = o + (i + 1) * 5 := by simp [rqC]; omega
      rw [e] at h1
      simpa using h1
/-- A state in rows of the call's own, apart from the block nb and from a row of texts of the call's own. -/
def StTx (w : World) (base nb : Nat) (v : Value) (s : St) (out : Value) (rs : List ByteArray) : Prop :=
  (∃ vi vt gi ci gt ct, v = .agg #[vi, vt] ∧ gi ≠ gt ∧ SlN vi gi s.items.length ci ∧ SlN vt gt s.talks.length ct ∧
    Got w base 41 2 gi s.items.length ci (s.items.flatMap itC) ∧ Got w base 38 3 gt s.talks.length ct (s.talks.flatMap tkC) ∧ gi ≠ nb ∧ gt ≠ nb ∧ out.ownBlock ≠ some gi ∧ out.ownBlock ≠ some gt) ∧
  out.ownBlock ≠ some nb ∧ Texts w base out rs
theorem StTx.own {w : World} {base nb : Nat} {v out : Value} {s : St} {rs : List ByteArray} (h : StTx w base nb v s out rs) : OwnN w base v s := by
  obtain ⟨⟨vi, vt, gi, ci, gt, ct, h0, h1, h2, h3, h4, h5, _⟩, _⟩ := h
  exact ⟨vi, vt, gi, ci, gt, ct, h0, h1, h2, h3, h4, h5⟩
theorem StTx.later {w w' : World} {base nb : Nat} {v out : Value} {s : St} {rs : List ByteArray} (h : StTx w base nb v s out rs) (hb : Below w.heap.size w w') : StTx w' base nb v s out rs := by
  obtain ⟨⟨vi, vt, gi, ci, gt, ct, h0, h1, h2, h3, h4, h5, h6⟩, h7, h8⟩ := h
  exact ⟨⟨vi, vt, gi, ci, gt, ct, h0, h1, h2, h3, h4.later hb, h5.later hb, h6⟩, h7, h8.later hb⟩
theorem texts_kept {w w' : World} {base : Nat} {out : Value} {rs : List ByteArray} {r : Option Nat} (h : Texts w base out rs) (hg : w.grownBy w' r) (hne : out.ownBlock = none ∨ out.ownBlock ≠ r) : Texts w' base out rs := World.ownsRow.kept h hg hne
/-- The block nb turns. -/
theorem StTx.set {w w' : World} {base nb : Nat} {v out : Value} {s : St} {rs : List ByteArray} (h : StTx w base nb v s out rs) (hg : w.grownBy w' (some nb)) : StTx w' base nb v s out rs := by
  obtain ⟨⟨vi, vt, gi, ci, gt, ct, h0, h1, h2, h3, h4, h5, h6, h6', h6''⟩, h7, h8⟩ := h
  exact ⟨⟨vi, vt, gi, ci, gt, ct, h0, h1, h2, h3, h4.grown hg h6, h5.grown hg h6', h6, h6', h6''⟩, h7, texts_kept h8 hg (.inr h7)⟩
/-- A new state comes, behind all that was there. -/
theorem StTx.next {w w' : World} {base nb : Nat} {v v2 out : Value} {s s2 : St} {rs : List ByteArray} (h : StTx w base nb v s out rs) (hb : Below w.heap.size w w') (ho : OwnN w' w.heap.size v2 s2) (hnb : nb < w.heap.size) (hB : base ≤ w.heap.size) : StTx w' base nb v2 s2 out rs := by
  obtain ⟨_, h7, h8⟩ := h
  obtain ⟨vi, vt, gi, ci, gt, ct, h0, h1, h2, h3, h4, h5⟩ := ho
  have hi := h4.2.2.2.1
  have ht := h5.2.2.2.1
  have hlt : ∀ k, out.ownBlock = some k → k < w.heap.size := fun k hk => (World.ownsRow.lt h8 k hk).2
  refine ⟨⟨vi, vt, gi, ci, gt, ct, h0, h1, h2, h3, h4.base hB, h5.base hB, by omega, by omega, fun e => ?_, fun e => ?_⟩, h7, h8.later hb⟩
  · have := hlt _ e; omega
  · have := hlt _ e; omega
/-- The row grows: the state stays. -/
theorem StTx.grow {w1 w' : World} {base nb : Nat} {v out out' : Value} {s : St} {rs rs' : List ByteArray} (h : StTx w1 base nb v s out rs) (hg : w1.grownBy w' out.ownBlock) (hr : Texts w' base out' rs') (hn : ∀ k, out'.ownBlock = some k → out.ownBlock = some k ∨ w1.heap.size ≤ k) (hnb : nb < w1.heap.size) : StTx w' base nb v s out' rs' := by
  obtain ⟨⟨vi, vt, gi, ci, gt, ct, h0, h1, h2, h3, h4, h5, h6, h6', h6a, h6b⟩, h7, h8⟩ := h
  have hgot : ∀ {e size x n cap : Nat} {cs : List Value}, Got w1 base e size x n cap cs → out.ownBlock ≠ some x → Got w' base e size x n cap cs := by
    intro e size x n cap cs hG hne
    cases ho : out.ownBlock with
    | none => rw [ho] at hg; exact hG.later ⟨hg.os, hg.tape, hg.output, hg.size, fun k hk => hg.block k hk (by simp)⟩
    | some g => rw [ho] at hg hne; exact hG.grown hg (fun e => hne (by rw [e]))
  have ki := h4.2.2.2.2.1
  have kt := h5.2.2.2.2.1
  refine ⟨⟨vi, vt, gi, ci, gt, ct, h0, h1, h2, h3, hgot h4 h6a, hgot h5 h6b, h6, h6', fun e => ?_, fun e => ?_⟩, fun e => ?_, hr⟩
  · rcases hn _ e with h | h
    · exact h6a h
    · omega
  · rcases hn _ e with h | h
    · exact h6b h
    · omega
  · rcases hn _ e with h | h
    · exact h7 h
    · omega
end Go.Proofs.YtebmaplflpfjbaaDoor
