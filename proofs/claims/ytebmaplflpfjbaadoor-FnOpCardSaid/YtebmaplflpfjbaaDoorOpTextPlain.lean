/- The text of an operation, as data. Condition: none. -/
import Derived.Test.YtebmaplflpfjbaaDoorBaseA
import Derived.Lib.Join
namespace Go.Proofs.YtebmaplflpfjbaaDoor
open Go.RowKit
set_option linter.unusedVariables false

/-- A byte that a word may hold. -/
def plainB (c : UInt8) : Bool := decide (32 < (c.toNat : Int))
def wordB (l : List UInt8) : Bool := l.all plainB && decide (0 < l.length)
theorem plain_yes {c : UInt8} (h : ¬ (c.toNat : Int) ≤ 32) : plainB c = true := decide_eq_true (by omega)
theorem plain_no {c : UInt8} (h : (c.toNat : Int) ≤ 32) : plainB c = false := decide_eq_false (by omega)
theorem plain_snoc (s : ByteArray) (k : Nat) (h : k < s.size) (ha : (s.data.toList.take k).all plainB = true) (hb : plainB s[k] = true) : (s.data.toList.take (k + 1)).all plainB = true := by
  rw [take_snoc s k h, List.all_append, ha]; simp [hb]
theorem not_plain (l : List UInt8) (k : Nat) (h : k < l.length) (hb : plainB l[k] = false) : l.all plainB = false := by
  rw [List.all_eq_false]; exact ⟨l[k], List.getElem_mem h, by simp [hb]⟩
theorem word_no (s : ByteArray) (k : Nat) (h : k < s.size) (hb : plainB s[k] = false) : wordB s.data.toList = false := by
  have := not_plain s.data.toList k (by simpa using h) hb
  simp [wordB, this]
theorem word_all (s : ByteArray) (ha : (s.data.toList.take s.size).all plainB = true) : wordB s.data.toList = decide (0 < s.size) := by
  rw [List.take_of_length_le (by simp)] at ha
  simp [wordB, ha]
theorem word_none (s : ByteArray) (h : s.size = 0) : wordB s.data.toList = false := by
  have : s.data.toList.length = 0 := by simpa using h
  simp [wordB, this]
theorem word_some (s : ByteArray) (h : 0 < s.size) (ha : (s.data.toList.take s.size).all plainB = true) : wordB s.data.toList = true := by
  rw [word_all s ha]; simpa using h

def decS (n : Int) : ByteArray := ⟨(Lib.itoa n).toArray⟩
/-- The word of a kind. -/
def kw (n : Int) : ByteArray := if n = 0 then ⟨#[103, 101, 116]⟩ else if n = 1 then ⟨#[112, 117, 116]⟩ else ⟨#[100, 101, 108]⟩
def opHead (x : Rq) : ByteArray := x.c ++ ⟨#[32]⟩ ++ decS x.q ++ ⟨#[32]⟩ ++ kw x.n ++ ⟨#[32]⟩ ++ x.k
/-- The text of an operation. -/
def opText (x : Rq) : ByteArray :=
  if rqOk x = false then ⟨#[]⟩ else if x.n = 1 then (if wordB x.v.data.toList = true then opHead x ++ ⟨#[32]⟩ ++ x.v else ⟨#[]⟩) else opHead x
theorem opText_bad {x : Rq} (h : rqOk x = false) : opText x = ⟨#[]⟩ := if_pos h
theorem opText_word {x : Rq} (h : rqOk x = true) (hn : x.n = 1) (hw : wordB x.v.data.toList = true) : opText x = opHead x ++ ⟨#[32]⟩ ++ x.v := by
  unfold opText; rw [if_neg (by simp [h]), if_pos hn, if_pos hw]
theorem opText_none {x : Rq} (h : rqOk x = true) (hn : x.n = 1) (hw : wordB x.v.data.toList = false) : opText x = ⟨#[]⟩ := by
  unfold opText; rw [if_neg (by simp [h]), if_pos hn, if_neg (by simp [hw])]
theorem opText_head {x : Rq} (h : rqOk x = true) (hn : ¬ x.n = 1) : opText x = opHead x := by
  unfold opText; rw [if_neg (by simp [h]), if_neg hn]
theorem bext {a b : ByteArray} (h : a.data.toList = b.data.toList) : a = b := ByteArray.ext (Array.toList_inj.1 h)
theorem join4 (a b c d : ByteArray) : (⟨(Lib.join [a.data.toList, b.data.toList, c.data.toList, d.data.toList] [32]).toArray⟩ : ByteArray) = a ++ ⟨#[32]⟩ ++ b ++ ⟨#[32]⟩ ++ c ++ ⟨#[32]⟩ ++ d := by
  apply bext
  simp [Lib.join_cons, Lib.joinTail]
theorem join5 (a b c d e : ByteArray) : (⟨(Lib.join [a.data.toList, b.data.toList, c.data.toList, d.data.toList, e.data.toList] [32]).toArray⟩ : ByteArray) = a ++ ⟨#[32]⟩ ++ b ++ ⟨#[32]⟩ ++ c ++ ⟨#[32]⟩ ++ d ++ ⟨#[32]⟩ ++ e := by
  apply bext
  simp [Lib.join_cons, Lib.joinTail]
theorem itoa_small (q : Int) (h0 : 1 ≤ q) (h1 : q ≤ 1000000000) : (decS q).size ≤ 20 := by
  obtain ⟨m, rfl⟩ := Int.eq_ofNat_of_zero_le (show 0 ≤ q by omega)
  unfold decS
  show ((Lib.itoa (m : Int)).toArray).size ≤ 20
  rw [List.size_toArray, itoa_pos, Lib.decDigits_length]
  exact Lib.nDigits_le20 m (by omega)
end Go.Proofs.YtebmaplflpfjbaaDoor
