/- Plain facts on the pieces of a text between separators, and on rows of texts that a call owns. Condition: none. -/
import Derived.Test.YtkkmjlpeahkiaaaPlain
import Derived.Test.YtkkmjlpeahkiaaaDecPlain
import Derived.WalkKit
import Derived.Lib.Hide
import Derived.Lib.Strings
import Derived.OneCell
import Derived.Maps.AppendAt
namespace Go.Proofs.Ytkkmjlpeahkiaaa
open Go.RowKit

/-- Of the first k bytes: the pieces that are closed, and where the open one begins. -/
def cutAt (sep : UInt8 → Bool) (s : ByteArray) : Nat → List ByteArray × Nat
  | 0 => ([], 0)
  | k + 1 => if sep (s.get! k) then ((cutAt sep s k).1 ++ [s.extract (cutAt sep s k).2 k], k + 1) else cutAt sep s k
/-- All pieces: one more than there are separators. -/
def pieces (sep : UInt8 → Bool) (s : ByteArray) : List ByteArray := (cutAt sep s s.size).1 ++ [s.extract (cutAt sep s s.size).2 s.size]
def isNl (c : UInt8) : Bool := c == 10
def isBl (c : UInt8) : Bool := c == 32 || c == 9
def linesOf (s : ByteArray) : List ByteArray := if s.size = 0 then [] else pieces isNl s
def full (b : ByteArray) : Bool := decide (0 < b.size)
def wordsOf (s : ByteArray) : List ByteArray := (pieces isBl s).filter full

theorem get_at (s : ByteArray) (k : Nat) (h : k < s.size) : s.get! k = s[k] := by
  simp [ByteArray.get!, h, getElem!_pos]; rfl
theorem cut_yes {sep : UInt8 → Bool} {s : ByteArray} {k : Nat} (h : k < s.size) (hs : sep s[k] = true) : cutAt sep s (k + 1) = ((cutAt sep s k).1 ++ [s.extract (cutAt sep s k).2 k], k + 1) := by
  simp only [cutAt, get_at s k h, hs, if_true]
theorem cut_no {sep : UInt8 → Bool} {s : ByteArray} {k : Nat} (h : k < s.size) (hs : sep s[k] = false) : cutAt sep s (k + 1) = cutAt sep s k := by
  simp only [cutAt, get_at s k h, hs]; simp
theorem cut_le (sep : UInt8 → Bool) (s : ByteArray) (k : Nat) : (cutAt sep s k).2 ≤ k := by
  induction k with
  | zero => simp [cutAt]
  | succ k ih => simp only [cutAt]; split <;> (try simp) <;> omega
theorem cut_len (sep : UInt8 → Bool) (s : ByteArray) (k : Nat) : (cutAt sep s k).1.length ≤ k := by
  induction k with
  | zero => simp [cutAt]
  | succ k ih => simp only [cutAt]; split <;> (try simp) <;> omega
theorem pieces_len (sep : UInt8 → Bool) (s : ByteArray) : (pieces sep s).length ≤ s.size + 1 := by
  have := cut_len sep s s.size
  simp [pieces]; omega

/-- A row of texts that a call owns (from block B on). -/
def Texts (w : World) (B : Nat) (v : Value) (xs : List ByteArray) : Prop := w.ownsRow B 9 1 v xs.length (xs.map Value.string)
/-- One text more behind the row, as append leaves it. -/
theorem Texts.snoc {w : World} {B : Nat} {v : Value} {xs : List ByteArray} {x : ByteArray} (h : w.ownsRow B 9 1 v (xs.length + 1) (xs.map Value.string ++ [.string x])) : Texts w B v (xs ++ [x]) := by
  unfold Texts; simpa using h
theorem Texts.nil (w : World) (B : Nat) : Texts w B (.slice none 0 0) [] := World.ownsRow_nil _ _ _ _
theorem Texts.empty (w : World) (B : Nat) (hB : B ≤ w.heap.size) : Texts (w.alloc (.cells #[] 9)) B (.slice (some ⟨w.heap.size, 0, none⟩) 0 0) [] :=
  ⟨rfl, .inr ⟨w.heap.size, 0, #[], rfl, hB, by show (w.heap.push _)[w.heap.size]? = _; simp, Nat.le_refl _, Nat.zero_le _, rfl, rfl⟩⟩
theorem Texts.own {w : World} {B : Nat} {v : Value} {xs : List ByteArray} (h : Texts w B v xs) : ∀ k, v.ownBlock = some k → B ≤ k := by
  rintro k hk
  obtain ⟨_, ⟨rfl, _⟩ | ⟨g, cap, cur, rfl, hg, _⟩⟩ := h
  · cases hk
  · simp [Value.ownBlock] at hk; omega
theorem Texts.grown {w wr w1 : World} {B : Nat} {v : Value} {xs : List ByteArray} {o : Obj} (h : Texts wr B v xs) (hB : Below B w wr) (hB' : B ≤ wr.heap.size) (hg : (wr.alloc o).grownBy w1 v.ownBlock) : Below B w w1 :=
  (hB.alloc hB' o).grown hg (by simp; omega) h.own
/-- The row's two shapes. -/
theorem Texts.form {w : World} {B : Nat} {v : Value} {xs : List ByteArray} (h : Texts w B v xs) : (v = .slice none 0 0 ∧ xs = []) ∨
    ∃ g cap, v = .slice (some ⟨g, 0, none⟩) xs.length cap ∧ B ≤ g ∧ g < w.heap.size ∧ xs.length ≤ maxLen ∧ (∀ i (hi : i < xs.length), w.cell? ⟨g, i, none⟩ = some (.string xs[i])) ∧ (∀ i, w.frozen? ⟨g, i, none⟩ = false) := by
  have hlt := World.ownsRow.lt h
  obtain ⟨hl, ⟨rfl, h0⟩ | ⟨g, cap, cur, rfl, hg, hh, hc, hm, hs, ht⟩⟩ := id h
  · exact .inl ⟨rfl, List.eq_nil_of_length_eq_zero h0⟩
  · refine .inr ⟨g, cap, rfl, hg, (hlt g rfl).2, by omega, fun i hi => ?_, fun i => by simp [World.frozen?, hh]⟩
    rw [World.ownsRow.cellAt h i (by omega)]
    simp [hi]
theorem Texts.later {w w' : World} {B : Nat} {v : Value} {xs : List ByteArray} (h : Texts w B v xs) (hb : Below w.heap.size w w') : Texts w' B v xs := by
  refine World.ownsRow.kept (row := none) h ⟨hb.os, hb.tape, hb.output, hb.size, fun k hk _ => hb.block k hk⟩ ?_
  cases v.ownBlock <;> simp
theorem Texts.set {w : World} {B g cap i : Nat} {xs : List ByteArray} (h : Texts w B (.slice (some ⟨g, 0, none⟩) xs.length cap) xs) (x : ByteArray) :
    Texts (w.setCell ⟨g, i, none⟩ (.string x)) B (.slice (some ⟨g, 0, none⟩) xs.length cap) (xs.set i x) := by
  have := (World.ownsRow.stored h i (.string x)).1
  unfold Texts; rw [List.length_set]; rw [List.map_set]; exact this
/-- The marks. -/
def markOf (k : Nat) : ByteArray := ⟨((109 : UInt8) :: Lib.decDigits k).toArray⟩
def marks (k n : Nat) : List ByteArray := (List.range n).map fun i => markOf (k + i)
theorem marks_at (k n i : Nat) (hi : i < n) : (marks k n)[i]'(by simp [marks, hi]) = markOf (k + i) := by simp [marks]
/-- The first i texts marked. -/
def markUpto (k : Nat) (xs : List ByteArray) (i : Nat) : List ByteArray := marks k i ++ xs.drop i
theorem markUpto_len (k : Nat) (xs : List ByteArray) (i : Nat) (hi : i ≤ xs.length) : (markUpto k xs i).length = xs.length := by
  simp [markUpto, marks]; omega
theorem markUpto_set {w : World} {B g cap k i : Nat} {xs : List ByteArray} (hi : i < xs.length) (h : Texts w B (.slice (some ⟨g, 0, none⟩) xs.length cap) (markUpto k xs i)) :
    Texts (w.setCell ⟨g, i, none⟩ (.string (markOf (k + i)))) B (.slice (some ⟨g, 0, none⟩) xs.length cap) ((markUpto k xs i).set i (markOf (k + i))) := by
  have hl := markUpto_len k xs i (by omega)
  rw [← hl] at h ⊢
  exact h.set _
theorem markUpto_zero (k : Nat) (xs : List ByteArray) : markUpto k xs 0 = xs := by simp [markUpto, marks]
theorem markUpto_all (k : Nat) (xs : List ByteArray) : markUpto k xs xs.length = marks k xs.length := by simp [markUpto]
theorem markUpto_step (k : Nat) (xs : List ByteArray) (i : Nat) (hi : i < xs.length) : (markUpto k xs i).set i (markOf (k + i)) = markUpto k xs (i + 1) := by
  unfold markUpto
  have hl : (marks k i).length = i := by simp [marks]
  rw [List.set_append_right _ _ (by omega), hl, Nat.sub_self, List.drop_eq_getElem_cons hi, List.set_cons_zero]
  simp [marks, List.range_succ]
/-- A row at a known place: its cell i, whose mark is off. -/
theorem Texts.at {w : World} {B g cap n : Nat} {xs : List ByteArray} (h : Texts w B (.slice (some ⟨g, 0, none⟩) n cap) xs) (hn : xs.length = n) (i : Nat) (hi : i < n) :
    (∃ x, xs[i]? = some x ∧ w.cell? ⟨g, i, none⟩ = some (.string x)) ∧ w.frozen? ⟨g, i, none⟩ = false := by
  subst hn
  rcases h.form with ⟨h0, _⟩ | ⟨g', cap', h0, _, _, _, hc, hf⟩
  · cases h0
  · cases h0
    exact ⟨⟨xs[i], by simp [hi], hc i hi⟩, hf i⟩
theorem lines_ne (s : ByteArray) (h : ¬ s.toList = []) : linesOf s = pieces isNl s := by
  unfold linesOf; rw [if_neg]; intro h'; apply h
  rw [ByteArray.toList_eq]
  exact List.eq_nil_of_length_eq_zero (by simpa using h')
theorem lines_eq (s : ByteArray) (h : s.toList = []) : linesOf s = [] := by
  unfold linesOf; rw [if_pos]
  rw [ByteArray.toList_eq] at h
  have := congrArg List.length h
  simpa using this
theorem isNl_yes {c : UInt8} (h : ((c.toNat : Int) == 10) = true) : isNl c = true := by
  unfold isNl; simp at h; simp; apply UInt8.toNat_inj.mp; simp; omega
theorem isNl_no {c : UInt8} (h : ((c.toNat : Int) == 10) = false) : isNl c = false := by
  unfold isNl; simp at h; simp; rintro rfl; simp at h
theorem isBl_1 {c : UInt8} (h : ((c.toNat : Int) == 32) = true) : isBl c = true := by
  unfold isBl; simp at h; simp; left; apply UInt8.toNat_inj.mp; simp; omega
theorem isBl_2 {c : UInt8} (h : ((c.toNat : Int) == 9) = true) : isBl c = true := by
  unfold isBl; simp at h; simp; right; apply UInt8.toNat_inj.mp; simp; omega
theorem isBl_0 {c : UInt8} (h : ((c.toNat : Int) == 32) = false) (h' : ((c.toNat : Int) == 9) = false) : isBl c = false := by
  unfold isBl; simp at h h'; simp; constructor <;> (rintro rfl; simp at h h')
theorem full_yes (pre : List ByteArray) (x : ByteArray) (h : ¬ x.toList = []) : (pre ++ [x]).filter full = pre.filter full ++ [x] := by
  have : full x = true := by
    rw [ByteArray.toList_eq] at h
    unfold full; simp
    rcases Nat.eq_zero_or_pos x.size with h' | h'
    · exact absurd (List.eq_nil_of_length_eq_zero (by simpa using h')) h
    · exact h'
  simp [this]
theorem full_no (pre : List ByteArray) (x : ByteArray) (h : x.toList = []) : (pre ++ [x]).filter full = pre.filter full := by
  have : full x = false := by
    rw [ByteArray.toList_eq] at h
    have := congrArg List.length h
    unfold full; simp at this ⊢; omega
  simp [this]

/-! ## Words, as the reader that goes from word to word has them -/
/-- The words that have come when k bytes are read: the closed ones, and the open one. -/
def wordsAt (s : ByteArray) (k : Nat) : List ByteArray := (cutAt isBl s k).1.filter full ++ (if (cutAt isBl s k).2 < k then [s.extract (cutAt isBl s k).2 k] else [])
theorem wordsAt_zero (s : ByteArray) : wordsAt s 0 = [] := by simp [wordsAt, cutAt]
theorem extract_size' (s : ByteArray) (a b : Nat) (h : a ≤ b) (hb : b ≤ s.size) : (s.extract a b).size = b - a := by
  rw [ByteArray.size_extract]; omega
theorem full_extract (s : ByteArray) (a b : Nat) (h : a ≤ b) (hb : b ≤ s.size) : full (s.extract a b) = decide (a < b) := by
  unfold full; rw [extract_size' s a b h hb]; by_cases hlt : a < b <;> simp [hlt] <;> omega
theorem wordsAt_blank (s : ByteArray) (k : Nat) (h : k < s.size) (hb : isBl s[k] = true) : wordsAt s (k + 1) = wordsAt s k := by
  have hle := cut_le isBl s k
  unfold wordsAt; rw [cut_yes h hb]
  have hf := full_extract s (cutAt isBl s k).2 k hle (by omega)
  by_cases hlt : (cutAt isBl s k).2 < k
  · simp [List.filter_append, hf, hlt]
  · simp [List.filter_append, hf, hlt]
theorem cut_blank (s : ByteArray) (k : Nat) (h : k < s.size) (hb : isBl s[k] = true) : (cutAt isBl s (k + 1)).2 = k + 1 := by rw [cut_yes h hb]
theorem wordsAt_word (s : ByteArray) (k m : Nat) (hkm : k < m) (hc : (cutAt isBl s k).2 = k) (he : cutAt isBl s m = cutAt isBl s k) : wordsAt s m = wordsAt s k ++ [s.extract k m] := by
  unfold wordsAt; rw [he, hc]; simp [hkm]
theorem wordsAt_end (s : ByteArray) : wordsAt s s.size = wordsOf s := by
  have hle := cut_le isBl s s.size
  have hf := full_extract s (cutAt isBl s s.size).2 s.size hle (Nat.le_refl _)
  unfold wordsAt wordsOf pieces
  by_cases hlt : (cutAt isBl s s.size).2 < s.size
  · simp [List.filter_append, hf, hlt]
  · simp [List.filter_append, hf, hlt]
theorem wordsAt_len (s : ByteArray) (k : Nat) : (wordsAt s k).length ≤ k + 1 := by
  have h1 := cut_len isBl s k
  have h2 := List.length_filter_le full (cutAt isBl s k).1
  unfold wordsAt; split <;> simp <;> omega
end Go.Proofs.Ytkkmjlpeahkiaaa
