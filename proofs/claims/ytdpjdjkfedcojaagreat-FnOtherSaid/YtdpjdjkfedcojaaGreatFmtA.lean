/- What the proofs of this seat have in common: plain facts, rows in memory, the laws' own helpers, the small functions' contracts. Condition: none. -/
import Derived.Test.YtdpjdjkfedcojaaGreatNumA
import Derived.Test.YtdpjdjkfedcojaaGreatPutFacts
import Derived.Test.YtdpjdjkfedcojaaGreatImplSeal
import Derived.Test.YtdpjdjkfedcojaaGreatAppendNil
import Derived.Test.YtdpjdjkfedcojaaGreatPutPlain
namespace Go.Proofs.YtdpjdjkfedcojaaGreat
open Go.RowKit
set_option linter.unusedVariables false
set_option linter.unusedSimpArgs false

def pt (s : ByteArray) : List UInt8 := be8 s.size 2 ++ s.data.toList
def encIt (x : It) : List UInt8 := pt x.k ++ pt x.v
def encTk (x : Tk) : List UInt8 := pt x.c ++ be8 x.q.toNat 4 ++ pt x.r
def encL (s : St) : List UInt8 := [70, 2] ++ be8 s.items.length 2 ++ s.items.flatMap encIt ++ be8 s.talks.length 2 ++ s.talks.flatMap encTk
def encB (s : St) : ByteArray := ⟨(encL s).toArray⟩
theorem be8_inj {n m k : Nat} (h : be8 n k = be8 m k) : n % 256 ^ k = m % 256 ^ k := by rw [← beN_be8, ← beN_be8, h]
theorem be8_cut {n m k : Nat} {X Y : List UInt8} (h : be8 n k ++ X = be8 m k ++ Y) : n % 256 ^ k = m % 256 ^ k ∧ X = Y := by
  obtain ⟨h1, h2⟩ := List.append_inj h (by rw [be8_len, be8_len])
  exact ⟨be8_inj h1, h2⟩
theorem pt_cut {a b : ByteArray} {X Y : List UInt8} (ha : a.size ≤ 65535) (hb : b.size ≤ 65535) (h : pt a ++ X = pt b ++ Y) : a = b ∧ X = Y := by
  unfold pt at h
  rw [List.append_assoc, List.append_assoc] at h
  obtain ⟨h1, h2⟩ := be8_cut h
  have hs : a.size = b.size := by omega
  obtain ⟨h3, h4⟩ := List.append_inj h2 (by simpa using hs)
  refine ⟨?_, h4⟩
  apply ByteArray.ext
  exact Array.toList_inj.mp h3
def SmI (x : It) : Prop := x.k.size ≤ 64 ∧ x.v.size ≤ 64
def SmT (x : Tk) : Prop := x.c.size ≤ 64 ∧ x.r.size ≤ 64 ∧ 0 ≤ x.q ∧ x.q ≤ 1000000000
theorem items_cut : ∀ {xs ys : List It} {X Y : List UInt8}, xs.length = ys.length → (∀ x ∈ xs, SmI x) → (∀ y ∈ ys, SmI y) → xs.flatMap encIt ++ X = ys.flatMap encIt ++ Y → xs = ys ∧ X = Y
  | [], [], X, Y, _, _, _, h => ⟨rfl, by simpa using h⟩
  | [], y :: ys, _, _, hl, _, _, _ => by simp at hl
  | x :: xs, [], _, _, hl, _, _, _ => by simp at hl
  | x :: xs, y :: ys, X, Y, hl, hx, hy, h => by
    simp only [List.flatMap_cons, encIt, List.append_assoc] at h
    have h1 := hx x (by simp)
    have h2 := hy y (by simp)
    unfold SmI at h1 h2
    obtain ⟨e1, h⟩ := pt_cut (by omega) (by omega) h
    obtain ⟨e2, h⟩ := pt_cut (by omega) (by omega) h
    obtain ⟨e3, e4⟩ := items_cut (by simpa using hl) (fun z hz => hx z (List.mem_cons_of_mem _ hz)) (fun z hz => hy z (List.mem_cons_of_mem _ hz)) h
    refine ⟨?_, e4⟩
    rw [e3]
    cases x; cases y
    simp only at e1 e2
    rw [e1, e2]
theorem talks_cut : ∀ {xs ys : List Tk} {X Y : List UInt8}, xs.length = ys.length → (∀ x ∈ xs, SmT x) → (∀ y ∈ ys, SmT y) → xs.flatMap encTk ++ X = ys.flatMap encTk ++ Y → xs = ys ∧ X = Y
  | [], [], X, Y, _, _, _, h => ⟨rfl, by simpa using h⟩
  | [], y :: ys, _, _, hl, _, _, _ => by simp at hl
  | x :: xs, [], _, _, hl, _, _, _ => by simp at hl
  | x :: xs, y :: ys, X, Y, hl, hx, hy, h => by
    simp only [List.flatMap_cons, encTk, List.append_assoc] at h
    have h1 := hx x (by simp)
    have h2 := hy y (by simp)
    unfold SmT at h1 h2
    obtain ⟨e1, h⟩ := pt_cut (by omega) (by omega) h
    obtain ⟨e5, h⟩ := be8_cut h
    obtain ⟨e2, h⟩ := pt_cut (by omega) (by omega) h
    obtain ⟨e3, e4⟩ := talks_cut (by simpa using hl) (fun z hz => hx z (List.mem_cons_of_mem _ hz)) (fun z hz => hy z (List.mem_cons_of_mem _ hz)) h
    refine ⟨?_, e4⟩
    have eq : x.q = y.q := by omega
    rw [e3]
    cases x; cases y
    simp only at e1 e2 eq
    rw [e1, e2, eq]
theorem stOk_q {s : St} (h : stOk s = true) : ∀ x ∈ s.talks, 0 ≤ x.q ∧ x.q ≤ 1000000000 := by
  intro x hx
  have := ((stOk_iff s).1 h).2.1 x hx
  unfold tkOk inB at this
  simp at this
  omega
/-- The bytes of the second format tell the state. -/
theorem enc_inj {s r : St} (hs : stOk s = true) (hr : stOk r = true) (s1 : ∀ x ∈ s.items, x.k.size ≤ 64 ∧ x.v.size ≤ 64) (s2 : ∀ x ∈ s.talks, x.c.size ≤ 64 ∧ x.r.size ≤ 64) (r1 : ∀ x ∈ r.items, x.k.size ≤ 64 ∧ x.v.size ≤ 64) (r2 : ∀ x ∈ r.talks, x.c.size ≤ 64 ∧ x.r.size ≤ 64) (h : encB s = encB r) : s = r := by
  have hl : encL s = encL r := by
    have := congrArg (fun b : ByteArray => b.data.toList) h
    simpa [encB] using this
  have a1 := ((stOk_iff s).1 hs).1.2.2
  have a2 := ((stOk_iff r).1 hr).1.2.2
  have b1 := ((stOk_iff s).1 hs).2.2.2
  have b2 := ((stOk_iff r).1 hr).2.2.2
  unfold encL at hl
  simp only [List.append_assoc] at hl
  have hl := List.append_cancel_left hl
  obtain ⟨c1, hl⟩ := be8_cut hl
  obtain ⟨c2, hl⟩ := items_cut (by omega) s1 r1 hl
  obtain ⟨c3, hl⟩ := be8_cut hl
  have hl' : s.talks.flatMap encTk ++ [] = r.talks.flatMap encTk ++ [] := by simpa using hl
  obtain ⟨c4, _⟩ := talks_cut (by omega) (fun x hx => ⟨(s2 x hx).1, (s2 x hx).2, stOk_q hs x hx⟩) (fun x hx => ⟨(r2 x hx).1, (r2 x hx).2, stOk_q hr x hx⟩) hl'
  cases s; cases r
  simp only at c2 c4
  rw [c2, c4]
end Go.Proofs.YtdpjdjkfedcojaaGreat

namespace Go.Proofs.YtdpjdjkfedcojaaGreat
open Go.RowKit
set_option linter.unusedVariables false
set_option linter.unusedSimpArgs false

/-- The text s holds the bytes x at the place p. -/
def Holds (s : ByteArray) (p : Nat) (x : List UInt8) : Prop := ∃ A Z, s.data.toList = A ++ (x ++ Z) ∧ A.length = p
theorem Holds.left {s : ByteArray} {p : Nat} {x y : List UInt8} (h : Holds s p (x ++ y)) : Holds s p x := by
  obtain ⟨A, Z, h1, h2⟩ := h
  exact ⟨A, y ++ Z, by rw [h1, List.append_assoc], h2⟩
theorem Holds.right {s : ByteArray} {p : Nat} {x y : List UInt8} (h : Holds s p (x ++ y)) : Holds s (p + x.length) y := by
  obtain ⟨A, Z, h1, h2⟩ := h
  exact ⟨A ++ x, Z, by rw [h1]; simp [List.append_assoc], by rw [List.length_append, h2]⟩
theorem Holds.size {s : ByteArray} {p : Nat} {x : List UInt8} (h : Holds s p x) : p + x.length ≤ s.size := by
  obtain ⟨A, Z, h1, h2⟩ := h
  have := congrArg List.length h1
  simp at this
  omega
/-- A number that is held is read. -/
theorem num_back {s : ByteArray} {p n k : Nat} (h : Holds s p (be8 n k)) (hk : 1 ≤ k ∧ k ≤ 4) (hn : n < 256 ^ k) : getN s p k = n := by
  have hs := h.size
  rw [be8_len] at hs
  obtain ⟨A, Z, h1, h2⟩ := h
  unfold getN
  rw [if_neg (by omega)]
  have e : (s.data.toList.drop (p : Int).toNat).take (k : Int).toNat = be8 n k := by
    rw [h1, Int.toNat_natCast, Int.toNat_natCast, ← h2, List.drop_left, List.take_append_of_le_length (by rw [be8_len]; omega)]
    exact List.take_of_length_le (by rw [be8_len]; omega)
  rw [e, beN_be8, Nat.mod_eq_of_lt hn]
/-- A text that is held is read. -/
theorem text_back {s t : ByteArray} {p : Nat} (h : Holds s p (pt t)) (ht : t.size ≤ 65535) : getTextB s p = (t, ((p + (pt t).length : Nat) : Int)) := by
  have hl : (pt t).length = 2 + t.size := by unfold pt; rw [List.length_append, be8_len]; simp
  have hs := h.size
  have hn : getN s p 2 = (t.size : Nat) := num_back (k := 2) h.left (by omega) (by omega)
  have hr := h.right
  rw [be8_len] at hr
  obtain ⟨A, Z, h1, h2⟩ := hr
  unfold getTextB
  rw [hn, if_neg (by rw [hl] at hs; omega)]
  have e : s.extract ((p : Int) + 2).toNat ((p : Int) + 2 + (t.size : Nat)).toNat = t := by
    apply ByteArray.ext
    apply Array.toList_inj.mp
    have e1 : ((p : Int) + 2).toNat = p + 2 := by omega
    have e2 : ((p : Int) + 2 + (t.size : Nat)).toNat = p + 2 + t.size := by omega
    rw [e1, e2, ByteArray.data_extract, Array.toList_extract, List.extract_eq_take_drop, h1, ← h2, List.drop_left]
    rw [show A.length + t.size - A.length = t.size by omega, List.take_append_of_le_length (by simp)]
    exact List.take_of_length_le (by simp)
  rw [e, hl]
  refine Prod.ext rfl ?_
  show (p : Int) + 2 + (t.size : Nat) = _
  omega
/-- The model's way of reading items at a place. -/
def rdIts (s : ByteArray) : Nat → Int → Option (List It × Int)
  | 0, p => some ([], p)
  | n + 1, p => if (getTextB s p).2 < 0 ∨ (getTextB s (getTextB s p).2).2 < 0 then none
      else (rdIts s n (getTextB s (getTextB s p).2).2).map fun r => (⟨(getTextB s p).1, (getTextB s (getTextB s p).2).1⟩ :: r.1, r.2)
def rdTks (s : ByteArray) : Nat → Int → Option (List Tk × Int)
  | 0, p => some ([], p)
  | n + 1, p => if (getTextB s p).2 < 0 ∨ getN s (getTextB s p).2 4 < 0 ∨ (getTextB s ((getTextB s p).2 + 4)).2 < 0 then none
      else (rdTks s n (getTextB s ((getTextB s p).2 + 4)).2).map fun r => (⟨(getTextB s p).1, getN s (getTextB s p).2 4, (getTextB s ((getTextB s p).2 + 4)).1⟩ :: r.1, r.2)
theorem items_back {s : ByteArray} : ∀ {xs : List It} {p : Nat}, (∀ x ∈ xs, SmI x) → Holds s p (xs.flatMap encIt) → rdIts s xs.length p = some (xs, ((p + (xs.flatMap encIt).length : Nat) : Int)) := by
  intro xs
  induction xs with
  | nil => intro p _ _; rfl
  | cons x xs ih =>
    intro p hx h
    have h1 := hx x (by simp)
    unfold SmI at h1
    rw [List.flatMap_cons, encIt] at h
    have hk := text_back h.left.left (by omega)
    have hv := text_back h.left.right (by omega)
    have hr := ih (fun y hy => hx y (by simp [hy])) h.right
    rw [List.length_cons, rdIts, hk]
    simp only [hv]
    rw [if_neg (by omega), show ((p + (pt x.k).length + (pt x.v).length : Nat) : Int) = ((p + (pt x.k ++ pt x.v).length : Nat) : Int) by rw [List.length_append]; omega, hr]
    simp only [Option.map_some, Option.some.injEq, Prod.mk.injEq]
    refine ⟨by first | trivial | (cases x; rfl), ?_⟩
    rw [List.flatMap_cons, encIt]
    simp only [List.length_append]
    omega
theorem talks_back {s : ByteArray} : ∀ {xs : List Tk} {p : Nat}, (∀ x ∈ xs, SmT x) → Holds s p (xs.flatMap encTk) → rdTks s xs.length p = some (xs, ((p + (xs.flatMap encTk).length : Nat) : Int)) := by
  intro xs
  induction xs with
  | nil => intro p _ _; rfl
  | cons x xs ih =>
    intro p hx h
    have h1 := hx x (by simp)
    unfold SmT at h1
    rw [List.flatMap_cons, encTk] at h
    have hc := text_back h.left.left.left (by omega)
    have hq : getN s ((p + (pt x.c).length : Nat) : Int) 4 = (x.q.toNat : Nat) := num_back (k := 4) h.left.left.right (by omega) (by omega)
    have hv := text_back h.left.right (by omega)
    have hr := ih (fun y hy => hx y (by simp [hy])) h.right
    have e4 : ((p + (pt x.c).length : Nat) : Int) + 4 = ((p + (pt x.c ++ be8 x.q.toNat 4).length : Nat) : Int) := by rw [List.length_append, be8_len]; omega
    rw [List.length_cons, rdTks, hc]
    simp only [hq, e4, hv]
    rw [if_neg (by omega), show ((p + (pt x.c ++ be8 x.q.toNat 4).length + (pt x.r).length : Nat) : Int) = ((p + (pt x.c ++ be8 x.q.toNat 4 ++ pt x.r).length : Nat) : Int) by simp only [List.length_append]; omega, hr]
    simp only [Option.map_some, Option.some.injEq, Prod.mk.injEq]
    refine ⟨?_, ?_⟩
    · have : ((x.q.toNat : Nat) : Int) = x.q := by omega
      rw [this]
    · rw [List.flatMap_cons, encTk]
      simp only [List.length_append]
      omega
end Go.Proofs.YtdpjdjkfedcojaaGreat

namespace Go.Proofs.YtdpjdjkfedcojaaGreat
open Go.RowKit
set_option linter.unusedVariables false
set_option linter.unusedSimpArgs false

/-- The bytes of a format, without its seal. -/
def bodyL (v : Nat) (s : St) : List UInt8 := [70] ++ (be8 v 1 ++ (be8 s.items.length 2 ++ (s.items.flatMap encIt ++ (if v = 1 then [] else be8 s.talks.length 2 ++ s.talks.flatMap encTk))))
def bodyB (v : Nat) (s : St) : ByteArray := ⟨(bodyL v s).toArray⟩
/-- A state written down; nothing where it, or the version, is invalid. -/
def fmtS (s : St) (v : Int) : ByteArray := if stOk s = true ∧ inB v 1 3 = true then (if v = 3 then sealB (bodyB 3 s) else bodyB v.toNat s) else ⟨#[]⟩
theorem fmtS_bad {s : St} {v : Int} (h : stOk s = false ∨ inB v 1 3 = false) : fmtS s v = ⟨#[]⟩ := by
  unfold fmtS
  rw [if_neg]
  rintro ⟨h1, h2⟩
  rcases h with h | h
  · rw [h] at h1; cases h1
  · rw [h] at h2; cases h2
theorem fmtS_low {s : St} {v : Int} (h1 : stOk s = true) (h2 : inB v 1 3 = true) (h3 : v ≠ 3) : fmtS s v = bodyB v.toNat s := by unfold fmtS; rw [if_pos ⟨h1, h2⟩, if_neg h3]
theorem fmtS_seal {s : St} (h1 : stOk s = true) : fmtS s 3 = sealB (bodyB 3 s) := by unfold fmtS; rw [if_pos ⟨h1, rfl⟩, if_pos rfl]
/-- Items at a place; talks at a place. -/
def itsAt (t : ByteArray) (p : Int) : Option (List It × Int) := if 0 ≤ getN t p 2 ∧ getN t p 2 ≤ 41 then rdIts t (getN t p 2).toNat (p + 2) else none
def tksAt (t : ByteArray) (p : Int) : Option (List Tk × Int) := if 0 ≤ getN t p 2 ∧ getN t p 2 ≤ 21 then rdTks t (getN t p 2).toNat (p + 2) else none
/-- What a text holds, before it is compared with what is written of it. -/
def rawS (t : ByteArray) (v : Int) : Option St := match itsAt t 2 with
  | none => none
  | some (is, p) => if v = 1 then some ⟨is, []⟩ else match tksAt t p with
    | none => none
    | some (ts, _) => some ⟨is, ts⟩
/-- A text read: the state and the version; 0 where it is none. -/
def decS (t : ByteArray) : St × Int :=
  if inB (getN t 1 1) 1 3 = true then match rawS t (getN t 1 1) with
    | none => (⟨[], []⟩, 0)
    | some r => if fmtS r (getN t 1 1) = t then (r, getN t 1 1) else (⟨[], []⟩, 0)
  else (⟨[], []⟩, 0)
/-- What a format keeps of a state. -/
def keptS (s : St) (v : Int) : St := if v = 1 then ⟨s.items, []⟩ else s
theorem kept_ok {s : St} (h : stOk s = true) (v : Int) : stOk (keptS s v) = true := by
  unfold keptS
  split
  · obtain ⟨a, _⟩ := (stOk_iff s).1 h
    exact (stOk_iff _).2 ⟨a, (fun x hx => by cases hx), List.Pairwise.nil, Nat.zero_le _⟩
  · exact h
theorem kept_fmt {s : St} (h : stOk s = true) (v : Int) (hv : inB v 1 3 = true) : fmtS (keptS s v) v = fmtS s v := by
  unfold keptS
  split
  · rename_i h1
    subst h1
    have hk := kept_ok h 1
    unfold keptS at hk
    rw [if_pos rfl] at hk
    rw [fmtS_low hk hv (by decide), fmtS_low h hv (by decide)]
    rfl
  · rfl
theorem ok_smI {s : St} (h : stOk s = true) : (∀ x ∈ s.items, SmI x) ∧ (∀ x ∈ s.talks, SmT x) ∧ s.items.length ≤ 40 ∧ s.talks.length ≤ 20 := by
  obtain ⟨⟨a, _, c⟩, d, _, e⟩ := (stOk_iff s).1 h
  refine ⟨fun x hx => ?_, fun x hx => ?_, c, e⟩
  · have h1 := a x hx
    unfold itOk at h1
    rw [Bool.and_eq_true] at h1
    have h2 := name_size h1.1
    have h3 := of_decide_eq_true h1.2
    exact ⟨by omega, by omega⟩
  · have h1 := d x hx
    unfold tkOk at h1
    rw [Bool.and_eq_true, Bool.and_eq_true] at h1
    have h2 := name_size h1.1.1
    have h3 := of_decide_eq_true h1.2
    have h4 := inB_true h1.1.2
    exact ⟨by omega, by omega, by omega, by omega⟩
/-- What a text that holds a format's body reads as. -/
theorem raw_back {t : ByteArray} {s : St} {v : Nat} (hv : v = 1 ∨ v = 2 ∨ v = 3) (hs : stOk s = true) (h : Holds t 0 (bodyL v s)) : getN t 1 1 = v ∧ rawS t v = some (keptS s v) := by
  obtain ⟨i1, i2, i3, i4⟩ := ok_smI hs
  have h1 := h.right
  have hver : getN t 1 1 = (v : Nat) := by
    have := num_back (k := 1) h1.left (by omega) (by omega)
    simpa using this
  have h2 := h1.right
  rw [be8_len] at h2
  have hn : getN t 2 2 = (s.items.length : Nat) := by
    have := num_back (k := 2) h2.left (by omega) (by omega)
    simpa using this
  have h3 := h2.right
  rw [be8_len] at h3
  have hit := items_back i1 h3.left
  have h4 := h3.right
  refine ⟨hver, ?_⟩
  unfold rawS itsAt
  rw [hn, if_pos (by omega), Int.toNat_natCast, show ((2 : Int) + 2) = ((0 + [(70 : UInt8)].length + 1 + 2 : Nat) : Int) by rfl, hit]
  simp only
  unfold keptS
  by_cases hv1 : v = 1
  · subst hv1
    simp
  · rw [if_neg (by omega), if_neg (by omega)]
    rw [if_neg hv1] at h4
    have hm : getN t ((0 + [(70 : UInt8)].length + 1 + 2 + (s.items.flatMap encIt).length : Nat) : Int) 2 = (s.talks.length : Nat) := num_back (k := 2) h4.left (by omega) (by omega)
    have h5 := h4.right
    rw [be8_len] at h5
    have htk := talks_back i2 h5
    unfold tksAt
    rw [hm, if_pos (by omega), Int.toNat_natCast]
    rw [show ((0 + [(70 : UInt8)].length + 1 + 2 + (s.items.flatMap encIt).length : Nat) : Int) + 2 = ((0 + [(70 : UInt8)].length + 1 + 2 + (s.items.flatMap encIt).length + 2 : Nat) : Int) by omega, htk]
theorem holds_body (v : Nat) (s : St) : Holds (bodyB v s) 0 (bodyL v s) := ⟨[], [], by simp [bodyB], rfl⟩
theorem holds_seal (s : St) : Holds (sealB (bodyB 3 s)) 0 (bodyL 3 s) := by
  unfold sealB
  refine ⟨[], (txt (leB (crcN (bodyB 3 s).data.toList))).data.toList, ?_, rfl⟩
  simp [ByteArray.data_append, bodyB]
/-- What is written is read back. -/
theorem dec_back {s : St} {v : Int} (hs : stOk s = true) (hv : inB v 1 3 = true) : decS (fmtS s v) = (keptS s v, v) := by
  have hb := inB_true hv
  obtain ⟨n, rfl⟩ := Int.eq_ofNat_of_zero_le (show 0 ≤ v by omega)
  have hn : n = 1 ∨ n = 2 ∨ n = 3 := by omega
  have key : getN (fmtS s n) 1 1 = n ∧ rawS (fmtS s n) n = some (keptS s n) := by
    by_cases h3 : (n : Int) = 3
    · obtain rfl : n = 3 := by omega
      have e : fmtS s ((3 : Nat) : Int) = sealB (bodyB 3 s) := fmtS_seal hs
      rw [e]
      exact raw_back hn hs (holds_seal s)
    · rw [fmtS_low hs hv h3, Int.toNat_natCast]
      exact raw_back hn hs (holds_body n s)
  unfold decS
  rw [key.1, if_pos hv, key.2]
  simp only
  rw [if_pos (kept_fmt hs n hv)]
/-- What is read was written so. -/
theorem dec_fmt {t : ByteArray} (h : (decS t).2 ≠ 0) : fmtS (decS t).1 (decS t).2 = t ∧ stOk (decS t).1 = true ∧ inB (decS t).2 1 3 = true := by
  unfold decS at h ⊢
  split at h
  · rename_i hv
    rw [if_pos hv]
    cases e : rawS t (getN t 1 1) with
    | none => rw [e] at h; exact absurd rfl h
    | some r =>
      rw [e] at h
      simp only at h ⊢
      split at h
      · rename_i hf
        rw [if_pos hf]
        refine ⟨hf, ?_, hv⟩
        cases hr : stOk r with
        | true => rfl
        | false =>
          rw [fmtS_bad (.inl hr)] at hf
          have h0 : getN t 1 1 = -1 := by rw [← hf]; rfl
          rw [h0] at hv
          cases hv
      · exact absurd rfl h
  · exact absurd rfl h
end Go.Proofs.YtdpjdjkfedcojaaGreat

namespace Go.Proofs.YtdpjdjkfedcojaaGreat
open Go.RowKit
set_option linter.unusedVariables false
set_option linter.unusedSimpArgs false

def upS (t : ByteArray) (v : Int) : ByteArray × Bool := if (decS t).2 = 0 ∨ v < (decS t).2 ∨ 3 < v then (⟨#[]⟩, false) else (fmtS (decS t).1 v, true)
/-- What is read of the first format has no talks. -/
theorem dec_kept (t : ByteArray) : keptS (decS t).1 (decS t).2 = (decS t).1 := by
  unfold decS
  split
  · rename_i hv
    cases e : rawS t (getN t 1 1) with
    | none => rfl
    | some r =>
      simp only
      split
      · unfold keptS
        split
        · rename_i h1
          simp only at h1
          unfold rawS at e
          split at e
          · cases e
          · rw [if_pos h1] at e
            rw [← Option.some.inj e]
        · rfl
      · rfl
  · rfl
theorem dec_zero {t : ByteArray} (h : ¬ (decS t).2 ≠ 0) : (decS t).1 = ⟨[], []⟩ := by
  have h : (decS t).2 = 0 := Decidable.not_not.1 h
  unfold decS at h ⊢
  split
  · rename_i hv
    rw [if_pos hv] at h
    cases e : rawS t (getN t 1 1) with
    | none => rfl
    | some r =>
      rw [e] at h
      simp only at h ⊢
      split
      · rename_i hf
        rw [if_pos hf] at h
        simp only at h
        rw [h] at hv
        cases hv
      · rfl
  · rfl
theorem up_ok {t : ByteArray} {v : Int} (h : (upS t v).2 = true) : decS (upS t v).1 = ((decS t).1, v) ∧ (decS t).2 ≤ v ∧ v ≤ 3 ∧ 1 ≤ (decS t).2 := by
  unfold upS at h ⊢
  by_cases hc : (decS t).2 = 0 ∨ v < (decS t).2 ∨ 3 < v
  · rw [if_pos hc] at h; cases h
  · rw [if_neg hc]
    have h0 : (decS t).2 ≠ 0 := fun e => hc (.inl e)
    obtain ⟨_, hok, hv⟩ := dec_fmt h0
    have hb := inB_true hv
    have hvv : inB v 1 3 = true := by unfold inB; simp; omega
    refine ⟨?_, by omega, by omega, by omega⟩
    show decS (fmtS (decS t).1 v) = _
    rw [dec_back hok hvv]
    refine Prod.ext ?_ rfl
    show keptS (decS t).1 v = (decS t).1
    by_cases h1 : v = 1
    · have hk := dec_kept t
      rw [show (decS t).2 = v by omega] at hk
      exact hk
    · unfold keptS; rw [if_neg h1]
theorem up_yes {t : ByteArray} {v : Int} (h0 : 1 ≤ (decS t).2) (h1 : (decS t).2 ≤ v) (h3 : v ≤ 3) : upS t v = (fmtS (decS t).1 v, true) := by unfold upS; rw [if_neg (by omega)]
theorem up_twice {t : ByteArray} {v : Int} (h : (upS t v).2 = true) : upS (upS t v).1 3 = upS t 3 ∧ (upS t 3).2 = true ∧ (upS (upS t v).1 (v - 1)).2 = false := by
  obtain ⟨h1, h2, h3, h4⟩ := up_ok h
  have e1 : (decS (upS t v).1).1 = (decS t).1 := by rw [h1]
  have e2 : (decS (upS t v).1).2 = v := by rw [h1]
  refine ⟨?_, ?_, ?_⟩
  · rw [up_yes (t := (upS t v).1) (v := 3) (by rw [e2]; omega) (by rw [e2]; omega) (by omega), e1, up_yes (t := t) (v := 3) h4 (by omega) (by omega)]
  · rw [up_yes h4 (by omega) (by omega)]
  · unfold upS
    rw [if_pos]
    refine .inr (.inl ?_)
    show v - 1 < (decS (upS t v).1).2
    rw [e2]; omega
theorem up_none {t : ByteArray} {v : Int} (h : (upS t v).2 = false) : (upS t v).1 = ⟨#[]⟩ := by
  unfold upS at h ⊢
  split
  · rfl
  · rename_i hc; rw [if_neg hc] at h; cases h
end Go.Proofs.YtdpjdjkfedcojaaGreat

namespace Go.Proofs.YtdpjdjkfedcojaaGreat
open Go.RowKit
set_option linter.unusedVariables false
set_option linter.unusedSimpArgs false

/-- What the formats have in common behind their first two bytes. -/
def midL (s : St) : List UInt8 := be8 s.items.length 2 ++ s.items.flatMap encIt
def tailL (s : St) : List UInt8 := be8 s.talks.length 2 ++ s.talks.flatMap encTk
theorem body_one (s : St) : bodyL 1 s = ([70] ++ be8 1 1) ++ midL s := by unfold bodyL midL; rw [if_pos rfl, List.append_nil, List.append_assoc]
theorem body_more (s : St) {v : Nat} (h : v ≠ 1) : bodyL v s = ([70] ++ be8 v 1) ++ (midL s ++ tailL s) := by unfold bodyL midL tailL; rw [if_neg h, List.append_assoc, List.append_assoc]
theorem head_len (v : Nat) : ([70] ++ be8 v 1 : List UInt8).length = 2 := by rw [List.length_append, be8_len]; rfl
theorem body_size (v : Nat) (s : St) : (bodyB v s).size = (bodyL v s).length := rfl
theorem ext_list {a b : ByteArray} (h : a.data.toList = b.data.toList) : a = b := ByteArray.ext (Array.toList_inj.1 h)
theorem extract_list (x : ByteArray) (i j : Nat) : (x.extract i j).data.toList = (x.data.toList.take j).drop i := by
  rw [ByteArray.data_extract, Array.toList_extract, List.extract_eq_take_drop, List.drop_take]
theorem three_sizes (s : St) : (bodyB 1 s).size = 2 + (midL s).length ∧ (bodyB 2 s).size = 2 + (midL s).length + (tailL s).length ∧ (bodyB 3 s).size = (bodyB 2 s).size ∧ 2 ≤ (tailL s).length := by
  have l1 : (bodyL 1 s).length = 2 + (midL s).length := by rw [body_one, List.length_append, head_len]
  have l2 : ∀ v, v ≠ 1 → (bodyL v s).length = 2 + (midL s).length + (tailL s).length := fun v hv => by rw [body_more s hv, List.length_append, head_len, List.length_append]; omega
  rw [body_size, body_size, body_size, l1, l2 2 (by decide), l2 3 (by decide)]
  refine ⟨rfl, rfl, rfl, ?_⟩
  unfold tailL
  rw [List.length_append, be8_len]
  omega
theorem three_parts (s : St) : (bodyB 2 s).extract 2 (bodyB 1 s).size = (bodyB 1 s).extract 2 (bodyB 1 s).size ∧ (bodyB 3 s).extract 2 (bodyB 3 s).size = (bodyB 2 s).extract 2 (bodyB 2 s).size := by
  obtain ⟨h1, h2, h3, _⟩ := three_sizes s
  have d : ∀ v, (bodyB v s).data.toList = bodyL v s := fun v => rfl
  refine ⟨ext_list ?_, ext_list ?_⟩
  · rw [extract_list, extract_list, d, d, h1, body_one, body_more s (v := 2) (by decide)]
    have e1 : (([70] ++ be8 2 1) ++ (midL s ++ tailL s)).take (2 + (midL s).length) = ([70] ++ be8 2 1) ++ midL s := by
      rw [← List.append_assoc]
      exact List.take_left' (by rw [List.length_append, head_len])
    have e2 : (([70] ++ be8 1 1) ++ midL s).take (2 + (midL s).length) = ([70] ++ be8 1 1) ++ midL s := List.take_of_length_le (by rw [List.length_append, head_len]; omega)
    rw [e1, e2, List.drop_left' (head_len 2), List.drop_left' (head_len 1)]
  · rw [extract_list, extract_list, d, d, h3, h2, body_more s (v := 2) (by decide), body_more s (v := 3) (by decide)]
    have e : ∀ v, (([70] ++ be8 v 1) ++ (midL s ++ tailL s)).take (2 + (midL s).length + (tailL s).length) = ([70] ++ be8 v 1) ++ (midL s ++ tailL s) := fun v => List.take_of_length_le (by rw [List.length_append, head_len, List.length_append]; omega)
    rw [e, e, List.drop_left' (head_len 3), List.drop_left' (head_len 2)]
theorem seal_size (s : St) : (sealB (bodyB 3 s)).size = (bodyB 2 s).size + 4 := by
  unfold sealB
  rw [ByteArray.size_append, leB_size, (three_sizes s).2.2.1]
end Go.Proofs.YtdpjdjkfedcojaaGreat

namespace Go.Proofs.YtdpjdjkfedcojaaGreat
open Go.RowKit
set_option linter.unusedVariables false

/-- The text as one number, its first byte the lowest. -/
def leN : List UInt8 → Nat
  | [] => 0
  | b :: l => b.toNat + 256 * leN l
theorem leN_cons (b : UInt8) (l : List UInt8) : leN (b :: l) = b.toNat ^^^ 2 ^ 8 * leN l := by
  have hb : b.toNat < 256 := b.toNat_lt
  have h := split_byte (b.toNat + 256 * leN l)
  rw [show (b.toNat + 256 * leN l) % 256 = b.toNat by omega, show (b.toNat + 256 * leN l) / 256 = leN l by omega] at h
  exact h
theorem bitsN_add (a b x : Nat) : bitsN (a + b) x = bitsN a (bitsN b x) := by
  induction b generalizing x with
  | zero => rfl
  | succ b ih => rw [← Nat.add_assoc, bitsN_in, bitsN_in, ih]
/-- A row of bytes fed into a checksum is one number fed bit by bit. -/
theorem crc_wide (l : List UInt8) (x : Nat) : bitsN (8 * l.length) (x ^^^ leN l) = l.foldl crcOn x := by
  induction l generalizing x with
  | nil => simp [leN, bitsN]
  | cons b l ih =>
    rw [List.length_cons, show 8 * (l.length + 1) = 8 * l.length + 8 by omega, bitsN_add, leN_cons, ← Nat.xor_assoc, bitsN_xor, bitsN_pow]
    exact ih (crcOn x b)
theorem bit1_ne (x : Nat) (h : x < 4294967296) (h0 : x ≠ 0) : bit1 x ≠ 0 := by
  unfold bit1
  split
  · intro hc
    have h2 : x / 2 = 2197175160 := by
      have := congrArg (fun z => z ^^^ 2197175160) hc
      simpa [Nat.xor_assoc] using this
    omega
  · omega
theorem bitsN_ne (k x : Nat) (h : x < 4294967296) (h0 : x ≠ 0) : bitsN k x ≠ 0 := by
  induction k with
  | zero => exact h0
  | succ k ih => exact bit1_ne _ (bitsN_lt _ _ h) ih
theorem leN_le4 (C : Nat) (h : C < 4294967296) : leN (le4 C) = C := by
  unfold le4 leB
  simp only [List.map_cons, List.map_nil, leN]
  have e : ∀ z : Int, 0 ≤ z → z < 256 → (UInt8.ofNat z.toNat).toNat = z.toNat := fun z h0 h1 => by simp; omega
  rw [e _ (by omega) (by omega), e _ (by omega) (by omega), e _ (by omega) (by omega), e _ (by omega) (by omega)]
  omega
/-- The checksum row of every sealed text. -/
theorem seal_row (l : List UInt8) : crcRow (l ++ le4 (crcN l)) = bitsN 32 4294967295 := by
  unfold crcRow
  rw [List.foldl_append]
  show (le4 (crcN l)).foldl crcOn (crcRow l) = _
  rw [← crc_wide, le4_len, leN_le4 _ (crcN_lt l)]
  unfold crcN
  rw [Nat.xor_comm 4294967295, ← Nat.xor_assoc, Nat.xor_self, Nat.zero_xor]
theorem not_sealed (l l' x b : List UInt8) (m f : Nat) (hx : x = l ++ le4 (crcN l)) (hb : b.length = x.length) (hd : leN b = leN x ^^^ m * 2 ^ f) (hm : m ≠ 0) (hm' : m < 4294967296) (hf : f ≤ 8 * x.length) : ¬ l' ++ le4 (crcN l') = b := by
  intro hc
  have h1 : crcRow b = bitsN 32 4294967295 := by rw [← hc]; exact seal_row l'
  have h2 : crcRow x = bitsN 32 4294967295 := by rw [hx]; exact seal_row l
  have e1 := crc_wide b 4294967295
  have e2 := crc_wide x 4294967295
  rw [hb] at e1
  have h3 : bitsN (8 * x.length) (m * 2 ^ f) = 0 := by
    have : bitsN (8 * x.length) ((4294967295 ^^^ leN b) ^^^ (4294967295 ^^^ leN x)) = 0 := by
      rw [bitsN_xor, e1, e2]
      show crcRow b ^^^ crcRow x = 0
      rw [h1, h2, Nat.xor_self]
    have e3 : (4294967295 ^^^ leN b) ^^^ (4294967295 ^^^ leN x) = m * 2 ^ f := by
      rw [hd, ← Nat.xor_assoc 4294967295, Nat.xor_comm (4294967295 ^^^ leN x), Nat.xor_assoc, Nat.xor_self, Nat.xor_zero]
    rwa [e3] at this
  obtain ⟨d, hd8⟩ := Nat.le.dest hf
  rw [← hd8, Nat.add_comm, bitsN_add, Nat.mul_comm m, bitsN_pow] at h3
  exact bitsN_ne d m hm' hm h3

/-- One bit turned in one byte. -/
theorem leN_set (l : List UInt8) (i r : Nat) (hi : i < l.length) (hr : r < 8) (c : UInt8) (hc : c.toNat = l[i].toNat ^^^ 2 ^ r) : leN (l.set i c) = leN l ^^^ 2 ^ (8 * i + r) := by
  induction l generalizing i with
  | nil => simp at hi
  | cons b l ih =>
    cases i with
    | zero =>
      rw [List.set_cons_zero, leN_cons, leN_cons, hc]
      simp only [List.getElem_cons_zero, Nat.mul_zero, Nat.zero_add]
      rw [Nat.xor_assoc, Nat.xor_comm (2 ^ r), ← Nat.xor_assoc]
    | succ i =>
      rw [List.set_cons_succ, leN_cons, leN_cons, ih i (by simpa using hi) (by simpa using hc)]
      have e : 2 ^ 8 * (leN l ^^^ 2 ^ (8 * i + r)) = 2 ^ 8 * leN l ^^^ 2 ^ (8 * (i + 1) + r) := by
        have e0 : 2 ^ (8 * (i + 1) + r) = 2 ^ 8 * 2 ^ (8 * i + r) := by rw [← Nat.pow_add]; congr 1; omega
        rw [e0]
        apply Nat.eq_of_testBit_eq
        intro j
        rw [Nat.testBit_xor, Nat.testBit_two_pow_mul, Nat.testBit_two_pow_mul, Nat.testBit_two_pow_mul, Nat.testBit_xor]
        cases decide (8 ≤ j) <;> simp
      rw [e, Nat.xor_assoc]
/-- The bits turned so far. -/
def burst (mask f k : Nat) : Nat := mask % 2 ^ k * 2 ^ f
theorem burst_zero (mask f : Nat) : burst mask f 0 = 0 := by simp [burst, Nat.mod_one]
theorem burst_bit (mask f k j : Nat) : (burst mask f k).testBit j = (decide (f ≤ j) && (decide (j - f < k) && mask.testBit (j - f))) := by
  unfold burst
  rw [Nat.mul_comm, Nat.testBit_two_pow_mul, Nat.testBit_mod_two_pow]
theorem burst_on (mask f k : Nat) (h : mask.testBit k = true) : burst mask f (k + 1) = burst mask f k ^^^ 2 ^ (f + k) := by
  apply Nat.eq_of_testBit_eq
  intro j
  rw [Nat.testBit_xor, burst_bit, burst_bit, Nat.testBit_two_pow]
  by_cases h1 : f + k = j
  · subst h1
    simp [h]
  · by_cases h2 : f ≤ j
    · by_cases h3 : j - f < k
      · simp [h1, h2, h3, show j - f < k + 1 by omega]
      · simp [h1, h2, h3, show ¬ j - f < k + 1 by omega]
    · simp [h1, h2]
theorem burst_off (mask f k : Nat) (h : mask.testBit k = false) : burst mask f (k + 1) = burst mask f k := by
  apply Nat.eq_of_testBit_eq
  intro j
  rw [burst_bit, burst_bit]
  by_cases h1 : f + k = j
  · subst h1
    simp [h]
  · by_cases h2 : f ≤ j
    · by_cases h3 : j - f < k
      · simp [h2, h3, show j - f < k + 1 by omega]
      · simp [h2, h3, show ¬ j - f < k + 1 by omega]
    · simp [h2]
theorem open_sealed (s : ByteArray) : openB (sealB s) = (s, true) := by
  have hz : (sealB s).size = s.size + 4 := by unfold sealB; rw [ByteArray.size_append, leB_size]
  have he : (sealB s).extract 0 ((sealB s).size - 4) = s := by
    rw [hz]
    apply ByteArray.ext
    unfold sealB
    rw [ByteArray.data_extract, ByteArray.data_append]
    apply Array.ext'
    simp
    exact List.take_of_length_le (by simp)
  unfold openB
  rw [if_neg (by omega), he, if_pos rfl]
theorem seal_opened (t : ByteArray) (h : (openB t).2 = true) : sealB (openB t).1 = t := by
  unfold openB at h ⊢
  split
  · rename_i h4; rw [if_pos h4] at h; cases h
  · rename_i h4
    rw [if_neg h4] at h
    split
    · assumption
    · rename_i h5; rw [if_neg h5] at h; cases h
theorem open_size (t : ByteArray) : (openB t).1.size ≤ t.size := by
  unfold openB
  split
  · exact Nat.zero_le _
  · split
    · simp
    · exact Nat.zero_le _
/-- A text with some bits in a row of 32 turned is not opened. -/
theorem not_open (s : ByteArray) (b : List UInt8) (m f : Nat) (hb : b.length = (sealB s).size) (hd : leN b = leN (sealB s).data.toList ^^^ m * 2 ^ f) (hm : m ≠ 0) (hm' : m < 4294967296) (hf : f ≤ 8 * (sealB s).size) : openB ⟨b.toArray⟩ = (⟨#[]⟩, false) := by
  have hx : (sealB s).data.toList = s.data.toList ++ le4 (crcN s.data.toList) := by rw [← sealB_data]
  have hlen : (sealB s).data.toList.length = (sealB s).size := by simp
  have hz : (sealB s).size = s.size + 4 := by unfold sealB; rw [ByteArray.size_append, leB_size]
  have hbz : (⟨b.toArray⟩ : ByteArray).size = b.length := by show b.toArray.size = _; simp
  unfold openB
  rw [if_neg (by omega), if_neg]
  intro hc
  have hc' := congrArg (fun z : ByteArray => z.data.toList) hc
  rw [← sealB_data] at hc'
  exact not_sealed s.data.toList _ (sealB s).data.toList b m f hx (by omega) hd hm hm' (by omega) hc'
end Go.Proofs.YtdpjdjkfedcojaaGreat

namespace Go.Proofs.YtdpjdjkfedcojaaGreat
open Go.RowKit
set_option linter.unusedVariables false
set_option linter.unusedSimpArgs false

theorem text_end (s : ByteArray) (p : Int) : -1 ≤ (getTextB s p).2 ∧ (getTextB s p).2 ≤ s.size := by
  unfold getTextB
  split
  · exact ⟨Int.le_refl _, by show (-1 : Int) ≤ _; omega⟩
  · rename_i h
    have h1 := getN_lo s p 2
    have hn : ¬ getN s p 2 < 0 := by omega
    obtain ⟨a, b, _, _⟩ := getN_in hn
    refine ⟨?_, ?_⟩
    · show -1 ≤ p + 2 + getN s p 2; omega
    · show p + 2 + getN s p 2 ≤ _; omega
theorem text_small (s : ByteArray) (p : Int) : (getTextB s p).1.size ≤ s.size := by
  unfold getTextB
  split
  · show (ByteArray.mk #[]).size ≤ _; exact Nat.zero_le _
  · show (s.extract _ _).size ≤ _; rw [ByteArray.size_extract]; omega
theorem rdIts_snoc {s : ByteArray} : ∀ {k : Nat} {p q : Int} {xs : List It}, rdIts s k p = some (xs, q) →
    rdIts s (k + 1) p = if (getTextB s q).2 < 0 ∨ (getTextB s (getTextB s q).2).2 < 0 then none else some (xs ++ [⟨(getTextB s q).1, (getTextB s (getTextB s q).2).1⟩], (getTextB s (getTextB s q).2).2) := by
  intro k
  induction k with
  | zero =>
    intro p q xs h
    simp only [rdIts, Option.some.injEq, Prod.mk.injEq] at h
    obtain ⟨rfl, rfl⟩ := h
    simp [rdIts]
  | succ k ih =>
    intro p q xs h
    rw [rdIts] at h ⊢
    split at h
    · cases h
    · rename_i hc
      rw [if_neg hc]
      cases e : rdIts s k (getTextB s (getTextB s p).2).2 with
      | none => rw [e] at h; cases h
      | some r =>
        obtain ⟨ys, q'⟩ := r
        rw [e] at h
        simp only [Option.map_some, Option.some.injEq, Prod.mk.injEq] at h
        obtain ⟨rfl, rfl⟩ := h
        rw [ih e]
        split <;> simp
theorem rdIts_none {s : ByteArray} : ∀ {k : Nat} {p : Int} (j : Nat), rdIts s k p = none → rdIts s (k + j) p = none := by
  intro k
  induction k with
  | zero => intro p j h; cases h
  | succ k ih =>
    intro p j h
    rw [show k + 1 + j = (k + j) + 1 by omega, rdIts]
    rw [rdIts] at h
    split
    · rfl
    · rename_i hc
      rw [if_neg hc] at h
      cases e : rdIts s k (getTextB s (getTextB s p).2).2 with
      | none => rw [ih j e]; rfl
      | some r => rw [e] at h; cases h
theorem rdIts_len {s : ByteArray} : ∀ {k : Nat} {p q : Int} {xs : List It}, rdIts s k p = some (xs, q) → xs.length = k ∧ (∀ x ∈ xs, x.k.size ≤ s.size ∧ x.v.size ≤ s.size) := by
  intro k
  induction k with
  | zero =>
    intro p q xs h
    simp only [rdIts, Option.some.injEq, Prod.mk.injEq] at h
    obtain ⟨rfl, rfl⟩ := h
    exact ⟨rfl, fun x hx => by cases hx⟩
  | succ k ih =>
    intro p q xs h
    rw [rdIts] at h
    split at h
    · cases h
    · cases e : rdIts s k (getTextB s (getTextB s p).2).2 with
      | none => rw [e] at h; cases h
      | some r =>
        obtain ⟨ys, q'⟩ := r
        rw [e] at h
        simp only [Option.map_some, Option.some.injEq, Prod.mk.injEq] at h
        obtain ⟨rfl, rfl⟩ := h
        obtain ⟨h1, h2⟩ := ih e
        refine ⟨by rw [List.length_cons, h1], fun x hx => ?_⟩
        rcases List.mem_cons.1 hx with rfl | hx
        · exact ⟨text_small _ _, text_small _ _⟩
        · exact h2 x hx
theorem rdTks_snoc {s : ByteArray} : ∀ {k : Nat} {p q : Int} {xs : List Tk}, rdTks s k p = some (xs, q) →
    rdTks s (k + 1) p = if (getTextB s q).2 < 0 ∨ getN s (getTextB s q).2 4 < 0 ∨ (getTextB s ((getTextB s q).2 + 4)).2 < 0 then none else some (xs ++ [⟨(getTextB s q).1, getN s (getTextB s q).2 4, (getTextB s ((getTextB s q).2 + 4)).1⟩], (getTextB s ((getTextB s q).2 + 4)).2) := by
  intro k
  induction k with
  | zero =>
    intro p q xs h
    simp only [rdTks, Option.some.injEq, Prod.mk.injEq] at h
    obtain ⟨rfl, rfl⟩ := h
    simp [rdTks]
  | succ k ih =>
    intro p q xs h
    rw [rdTks] at h ⊢
    split at h
    · cases h
    · rename_i hc
      rw [if_neg hc]
      cases e : rdTks s k (getTextB s ((getTextB s p).2 + 4)).2 with
      | none => rw [e] at h; cases h
      | some r =>
        obtain ⟨ys, q'⟩ := r
        rw [e] at h
        simp only [Option.map_some, Option.some.injEq, Prod.mk.injEq] at h
        obtain ⟨rfl, rfl⟩ := h
        rw [ih e]
        split <;> simp
theorem rdTks_none {s : ByteArray} : ∀ {k : Nat} {p : Int} (j : Nat), rdTks s k p = none → rdTks s (k + j) p = none := by
  intro k
  induction k with
  | zero => intro p j h; cases h
  | succ k ih =>
    intro p j h
    rw [show k + 1 + j = (k + j) + 1 by omega, rdTks]
    rw [rdTks] at h
    split
    · rfl
    · rename_i hc
      rw [if_neg hc] at h
      cases e : rdTks s k (getTextB s ((getTextB s p).2 + 4)).2 with
      | none => rw [ih j e]; rfl
      | some r => rw [e] at h; cases h
theorem num4_hi (s : ByteArray) (p : Int) : getN s p 4 ≤ 4294967295 := by
  unfold getN
  split
  · decide
  · have := beN_lt4 ((s.data.toList.drop p.toNat).take (4 : Int).toNat) (by rw [List.length_take]; exact Nat.min_le_left _ _)
    omega
theorem rdTks_len {s : ByteArray} : ∀ {k : Nat} {p q : Int} {xs : List Tk}, rdTks s k p = some (xs, q) → xs.length = k ∧ (∀ x ∈ xs, x.c.size ≤ s.size ∧ x.r.size ≤ s.size ∧ 0 ≤ x.q ∧ x.q ≤ 4294967295) := by
  intro k
  induction k with
  | zero =>
    intro p q xs h
    simp only [rdTks, Option.some.injEq, Prod.mk.injEq] at h
    obtain ⟨rfl, rfl⟩ := h
    exact ⟨rfl, fun x hx => by cases hx⟩
  | succ k ih =>
    intro p q xs h
    rw [rdTks] at h
    split at h
    · cases h
    · rename_i hc
      cases e : rdTks s k (getTextB s ((getTextB s p).2 + 4)).2 with
      | none => rw [e] at h; cases h
      | some r =>
        obtain ⟨ys, q'⟩ := r
        rw [e] at h
        simp only [Option.map_some, Option.some.injEq, Prod.mk.injEq] at h
        obtain ⟨rfl, rfl⟩ := h
        obtain ⟨h1, h2⟩ := ih e
        refine ⟨by rw [List.length_cons, h1], fun x hx => ?_⟩
        rcases List.mem_cons.1 hx with rfl | hx
        · exact ⟨text_small _ _, text_small _ _, by show 0 ≤ getN s (getTextB s p).2 4; omega, num4_hi _ _⟩
        · exact h2 x hx
end Go.Proofs.YtdpjdjkfedcojaaGreat

namespace Go.Proofs.YtdpjdjkfedcojaaGreat
open Go.RowKit
set_option linter.unusedVariables false
set_option linter.unusedSimpArgs false

/-- No state, or one of the call's own. -/
def DecV (w : World) (base : Nat) (v : Value) (s : St) : Prop := (v = .agg #[.slice none 0 0, .slice none 0 0] ∧ s = ⟨[], []⟩) ∨ OwnN w base v s
theorem DecV.later {w w' : World} {base : Nat} {v : Value} {s : St} (h : DecV w base v s) (hb : Below w.heap.size w w') : DecV w' base v s := h.imp id (fun h => h.later hb)
theorem DecV.st {w : World} {base : Nat} {v : Value} {s : St} (h : DecV w base v s) : StV w w.heap.size v s := by
  rcases h with ⟨rfl, rfl⟩ | h
  · exact ⟨_, _, rfl, ⟨rfl, .inl ⟨rfl, rfl⟩⟩, ⟨rfl, .inl ⟨rfl, rfl⟩⟩⟩
  · exact h.st
theorem its_end {t : ByteArray} {p q : Int} {xs : List It} (h : itsAt t p = some (xs, q)) : 0 ≤ q ∧ q ≤ t.size := by
  have hr : ∀ {k : Nat} {p q : Int} {xs : List It}, rdIts t k p = some (xs, q) → (xs = [] ∧ q = p) ∨ (0 ≤ q ∧ q ≤ t.size) := by
    intro k
    induction k with
    | zero =>
      intro p q xs h
      simp only [rdIts, Option.some.injEq, Prod.mk.injEq] at h
      exact .inl ⟨h.1.symm, h.2.symm⟩
    | succ k ih =>
      intro p q xs h
      rw [rdIts] at h
      split at h
      · cases h
      · rename_i hc
        cases e : rdIts t k (getTextB t (getTextB t p).2).2 with
        | none => rw [e] at h; cases h
        | some r =>
          obtain ⟨ys, q'⟩ := r
          rw [e] at h
          simp only [Option.map_some, Option.some.injEq, Prod.mk.injEq] at h
          obtain ⟨rfl, rfl⟩ := h
          rcases ih e with ⟨_, h1⟩ | h1
          · have h2 := text_end t (getTextB t p).2
            rw [← h1] at h2 hc
            exact .inr ⟨by omega, h2.2⟩
          · exact .inr h1
  unfold itsAt at h
  split at h
  · rename_i hc
    have hn := getN_in (s := t) (p := p) (b := 2) (by omega)
    rcases hr h with ⟨_, h1⟩ | h1
    · omega
    · exact h1
  · cases h
theorem tks_end {t : ByteArray} {p q : Int} {xs : List Tk} (h : tksAt t p = some (xs, q)) : 0 ≤ q ∧ q ≤ t.size := by
  have hr : ∀ {k : Nat} {p q : Int} {xs : List Tk}, rdTks t k p = some (xs, q) → (xs = [] ∧ q = p) ∨ (0 ≤ q ∧ q ≤ t.size) := by
    intro k
    induction k with
    | zero =>
      intro p q xs h
      simp only [rdTks, Option.some.injEq, Prod.mk.injEq] at h
      exact .inl ⟨h.1.symm, h.2.symm⟩
    | succ k ih =>
      intro p q xs h
      rw [rdTks] at h
      split at h
      · cases h
      · rename_i hc
        cases e : rdTks t k (getTextB t ((getTextB t p).2 + 4)).2 with
        | none => rw [e] at h; cases h
        | some r =>
          obtain ⟨ys, q'⟩ := r
          rw [e] at h
          simp only [Option.map_some, Option.some.injEq, Prod.mk.injEq] at h
          obtain ⟨rfl, rfl⟩ := h
          rcases ih e with ⟨_, h1⟩ | h1
          · have h2 := text_end t ((getTextB t p).2 + 4)
            rw [← h1] at h2 hc
            exact .inr ⟨by omega, h2.2⟩
          · exact .inr h1
  unfold tksAt at h
  split at h
  · rename_i hc
    have hn := getN_in (s := t) (p := p) (b := 2) (by omega)
    rcases hr h with ⟨_, h1⟩ | h1
    · omega
    · exact h1
  · cases h
theorem its_small {t : ByteArray} {p q : Int} {xs : List It} (h : itsAt t p = some (xs, q)) : ∀ x ∈ xs, x.k.size ≤ t.size ∧ x.v.size ≤ t.size := by
  unfold itsAt at h
  split at h
  · exact (rdIts_len h).2
  · cases h
theorem tks_small {t : ByteArray} {p q : Int} {xs : List Tk} (h : tksAt t p = some (xs, q)) : ∀ x ∈ xs, x.c.size ≤ t.size ∧ x.r.size ≤ t.size ∧ 0 ≤ x.q ∧ x.q ≤ 4294967295 := by
  unfold tksAt at h
  split at h
  · exact (rdTks_len h).2
  · cases h
theorem raw_fits {t : ByteArray} {p q p' q' : Int} {xs : List It} {ts : List Tk} (ht : t.size ≤ 1099511627776) (h : itsAt t p = some (xs, q)) (h' : ts = [] ∨ tksAt t p' = some (ts, q')) : Fits ⟨xs, ts⟩ := by
  refine ⟨fun x hx => ?_, fun x hx => ?_⟩
  · have := its_small h x hx
    unfold maxLen; omega
  · rcases h' with rfl | h'
    · cases hx
    · have := tks_small h' x hx
      unfold maxLen; omega
theorem dec_bad {t : ByteArray} (h : inB (getN t 1 1) 1 3 = false) : decS t = (⟨[], []⟩, 0) := by unfold decS; rw [if_neg (by rw [h]; decide)]
theorem dec_none {t : ByteArray} (h : rawS t (getN t 1 1) = none) : decS t = (⟨[], []⟩, 0) := by unfold decS; rw [h]; split <;> rfl
theorem dec_yes {t : ByteArray} {r : St} (h : inB (getN t 1 1) 1 3 = true) (hr : rawS t (getN t 1 1) = some r) (hf : fmtS r (getN t 1 1) = t) : decS t = (r, getN t 1 1) := by unfold decS; rw [if_pos h, hr]; simp only; rw [if_pos hf]
theorem dec_no {t : ByteArray} {r : St} (hr : rawS t (getN t 1 1) = some r) (hf : ¬ fmtS r (getN t 1 1) = t) : decS t = (⟨[], []⟩, 0) := by
  unfold decS
  split
  · rw [hr]; simp only; rw [if_neg hf]
  · rfl
theorem raw_none {t : ByteArray} (v : Int) (h : itsAt t 2 = none) : rawS t v = none := by unfold rawS; rw [h]
theorem raw_one {t : ByteArray} {xs : List It} {q : Int} (h : itsAt t 2 = some (xs, q)) : rawS t 1 = some ⟨xs, []⟩ := by unfold rawS; rw [h]; simp
theorem raw_two {t : ByteArray} {xs : List It} {q v : Int} (hv : v ≠ 1) (h : itsAt t 2 = some (xs, q)) (h' : tksAt t q = none) : rawS t v = none := by unfold rawS; rw [h]; simp only; rw [if_neg hv, h']
theorem raw_all {t : ByteArray} {xs : List It} {ts : List Tk} {q q' v : Int} (hv : v ≠ 1) (h : itsAt t 2 = some (xs, q)) (h' : tksAt t q = some (ts, q')) : rawS t v = some ⟨xs, ts⟩ := by unfold rawS; rw [h]; simp only; rw [if_neg hv, h']
end Go.Proofs.YtdpjdjkfedcojaaGreat

namespace Go.Proofs.YtdpjdjkfedcojaaGreat
open Go.RowKit
set_option linter.unusedVariables false
set_option linter.unusedSimpArgs false

structure Pc where
  no : Int
  of : Int
  b : ByteArray
  ch : Int
def pcOk (p : Pc) : Bool := inB p.of 1 600 && inB p.no 1 p.of && inB p.b.size 1 200 && inB p.ch 0 4294967295
def pcL (p : Pc) : List UInt8 := [80] ++ (be8 p.no.toNat 2 ++ (be8 p.of.toNat 2 ++ (pt p.b ++ be8 p.ch.toNat 4)))
/-- A piece written down; nothing where it is invalid. -/
def pcB (p : Pc) : ByteArray := if pcOk p = true then sealB ⟨(pcL p).toArray⟩ else ⟨#[]⟩
def pc0 : Pc := ⟨0, 0, ⟨#[]⟩, 0⟩
def rawP (t : ByteArray) : Pc := ⟨getN t 1 2, getN t 3 2, (getTextB t 5).1, getN t (getTextB t 5).2 4⟩
/-- A piece read. -/
def getP (t : ByteArray) : Pc × Bool := if (getTextB t 5).2 < 0 then (pc0, false) else if pcB (rawP t) = t then (rawP t, true) else (pc0, false)
theorem pc_in {p : Pc} (h : pcOk p = true) : (1 ≤ p.of ∧ p.of ≤ 600) ∧ (1 ≤ p.no ∧ p.no ≤ p.of) ∧ (1 ≤ p.b.size ∧ p.b.size ≤ 200) ∧ (0 ≤ p.ch ∧ p.ch ≤ 4294967295) := by
  unfold pcOk at h
  simp only [Bool.and_eq_true] at h
  obtain ⟨⟨⟨h1, h2⟩, h3⟩, h4⟩ := h
  have h1 := inB_true h1
  have h2 := inB_true h2
  have h3 := inB_true h3
  have h4 := inB_true h4
  exact ⟨h1, h2, by omega, h4⟩
theorem pc_len {p : Pc} : (pcL p).length = 11 + p.b.size := by
  unfold pcL
  simp only [List.length_append, be8_len, List.length_cons, List.length_nil]
  unfold pt
  rw [List.length_append, be8_len]
  simp; omega
theorem pc_size {p : Pc} (h : pcOk p = true) : (pcB p).size = 15 + p.b.size := by
  unfold pcB
  rw [if_pos h]
  unfold sealB
  rw [ByteArray.size_append, leB_size]
  show (List.toArray _).size + 4 = _
  rw [List.size_toArray, pc_len]; omega
theorem pc_le (p : Pc) : (pcB p).size ≤ 215 := by
  cases h : pcOk p with
  | true => rw [pc_size h]; have := pc_in h; omega
  | false => unfold pcB; rw [h, if_neg (by decide)]; exact Nat.zero_le _
/-- A piece that is held is read. -/
theorem raw_pc {t : ByteArray} {p : Pc} (h : pcOk p = true) (ht : Holds t 0 (pcL p)) : rawP t = p ∧ ¬ (getTextB t 5).2 < 0 := by
  obtain ⟨h1, h2, h3, h4⟩ := pc_in h
  unfold pcL at ht
  have a1 := ht.right
  have n1 : getN t 1 2 = (p.no.toNat : Nat) := by
    have := num_back (k := 2) a1.left (by omega) (by omega)
    simpa using this
  have a2 := a1.right
  rw [be8_len] at a2
  have n2 : getN t 3 2 = (p.of.toNat : Nat) := by
    have := num_back (k := 2) a2.left (by omega) (by omega)
    simpa using this
  have a3 := a2.right
  rw [be8_len] at a3
  have n3 : getTextB t 5 = (p.b, ((0 + [(80 : UInt8)].length + 2 + 2 + (pt p.b).length : Nat) : Int)) := by
    have := text_back a3.left (by omega)
    simpa using this
  have n4 : getN t ((0 + [(80 : UInt8)].length + 2 + 2 + (pt p.b).length : Nat) : Int) 4 = (p.ch.toNat : Nat) := num_back (k := 4) a3.right (by omega) (by omega)
  refine ⟨?_, by rw [n3]; show ¬ ((0 + [(80 : UInt8)].length + 2 + 2 + (pt p.b).length : Nat) : Int) < 0; omega⟩
  unfold rawP
  rw [n3]
  show (⟨getN t 1 2, getN t 3 2, p.b, getN t ((0 + [(80 : UInt8)].length + 2 + 2 + (pt p.b).length : Nat) : Int) 4⟩ : Pc) = p
  rw [n1, n2, n4]
  have e1 : ((p.no.toNat : Nat) : Int) = p.no := by omega
  have e2 : ((p.of.toNat : Nat) : Int) = p.of := by omega
  have e3 : ((p.ch.toNat : Nat) : Int) = p.ch := by omega
  rw [e1, e2, e3]
theorem holds_pc {p : Pc} (h : pcOk p = true) : Holds (pcB p) 0 (pcL p) := by
  unfold pcB
  rw [if_pos h]
  unfold sealB
  exact ⟨[], (txt (leB (crcN (ByteArray.mk (pcL p).toArray).data.toList))).data.toList, by simp [ByteArray.data_append], rfl⟩
/-- What is written is read back. -/
theorem pc_back {p : Pc} (h : pcOk p = true) : getP (pcB p) = (p, true) := by
  obtain ⟨h1, h2⟩ := raw_pc h (holds_pc h)
  unfold getP
  rw [if_neg h2, h1, if_pos rfl]
theorem pc_none : getP ⟨#[]⟩ = (pc0, false) := rfl
/-- What is read was written so. -/
theorem pc_put {t : ByteArray} (h : (getP t).2 = true) : pcB (getP t).1 = t ∧ pcOk (getP t).1 = true := by
  unfold getP at h ⊢
  split at h
  · cases h
  · rename_i hn
    rw [if_neg hn]
    split at h
    · rename_i he
      rw [if_pos he]
      refine ⟨he, ?_⟩
      cases hp : pcOk (rawP t) with
      | true => rfl
      | false =>
        exfalso
        unfold pcB at he
        rw [hp, if_neg (by decide)] at he
        rw [← he] at hn
        exact hn (by decide)
    · cases h
theorem pc_no {t : ByteArray} (h : (getP t).2 = false) : (getP t).1 = pc0 := by
  unfold getP at h ⊢
  split
  · rfl
  · rename_i hn
    rw [if_neg hn] at h
    split at h
    · cases h
    · rename_i he; rw [if_neg he]
theorem pc_both (p : Pc) : (getP (pcB p)).2 = pcOk p ∧ (pcOk p = true → (getP (pcB p)).1 = p) := by
  cases h : pcOk p with
  | true => rw [pc_back h]; exact ⟨rfl, fun _ => rfl⟩
  | false => unfold pcB; rw [h, if_neg (by decide)]; exact ⟨rfl, fun h => by cases h⟩
/-- What a piece's text is sealed of. -/
theorem pc_sealed {t : ByteArray} (h : (getP t).2 = true) : (openB t).2 = true := by
  obtain ⟨h1, h2⟩ := pc_put h
  rw [← h1]
  unfold pcB
  rw [if_pos h2, open_sealed]
/-- What the chain becomes. -/
def linkN (ch : Int) (b : ByteArray) : Nat := hashN ((txt (putN ch 4)).data.toList ++ b.data.toList)
theorem link_lt (ch : Int) (b : ByteArray) : linkN ch b < 4294967296 := hashN_lt _
/-- Another last byte, another hash. -/
theorem hash_last {x : Nat} {a b : UInt8} (h : a ≠ b) : hashOn x a ≠ hashOn x b := by
  unfold hashOn
  intro he
  apply h
  have inj : ∀ u v : Nat, u * 16777619 % 4294967296 = v * 16777619 % 4294967296 → u % 4294967296 = v % 4294967296 := by
    intro u v e
    have hm : ∀ z : Nat, z * 16777619 % 4294967296 * 899433627 % 4294967296 = z % 4294967296 := fun z => by
      rw [Nat.mod_mul_mod, Nat.mul_assoc, Nat.mul_mod, show (16777619 * 899433627) % 4294967296 = 1 by decide, Nat.mul_one, Nat.mod_mod]
    rw [← hm u, ← hm v, e]
  have h1 := inj _ _ he
  have hx : (x ^^^ a.toNat) % 2 ^ 32 = (x ^^^ b.toNat) % 2 ^ 32 := h1
  rw [Nat.xor_mod_two_pow, Nat.xor_mod_two_pow] at hx
  have ha : a.toNat % 2 ^ 32 = a.toNat := Nat.mod_eq_of_lt (Nat.lt_of_lt_of_le a.toNat_lt (by decide))
  have hb : b.toNat % 2 ^ 32 = b.toNat := Nat.mod_eq_of_lt (Nat.lt_of_lt_of_le b.toNat_lt (by decide))
  rw [ha, hb] at hx
  have := congrArg (fun z => (x % 2 ^ 32) ^^^ z) hx
  simp only [← Nat.xor_assoc, Nat.xor_self, Nat.zero_xor] at this
  exact UInt8.toNat_inj.1 this
theorem hash_snoc (x : Nat) (l : List UInt8) (a : UInt8) : List.foldl hashOn x (l ++ [a]) = hashOn (List.foldl hashOn x l) a := by
  rw [List.foldl_append]
  generalize List.foldl hashOn x l = y
  rw [List.foldl_cons, List.foldl_nil]
theorem link_last (ch : Int) (s : ByteArray) {a b : UInt8} (h : a ≠ b) : linkN ch (s ++ ⟨#[a]⟩) ≠ linkN ch (s ++ ⟨#[b]⟩) := by
  have e : ∀ c : UInt8, linkN ch (s ++ ⟨#[c]⟩) = hashOn (linkN ch s) c := fun c => by
    unfold linkN
    rw [ByteArray.data_append, Array.toList_append, ← List.append_assoc]
    unfold hashN
    exact hash_snoc _ _ _
  rw [e, e]
  generalize linkN ch s = y
  exact hash_last h
theorem link_five (s : ByteArray) : linkN 5 s = hashN ((⟨#[0, 0, 0, 5]⟩ : ByteArray) ++ s).data.toList := by
  unfold linkN
  rw [ByteArray.data_append, Array.toList_append]
  rfl
end Go.Proofs.YtdpjdjkfedcojaaGreat

namespace Go.Proofs.YtdpjdjkfedcojaaGreat
open Go.RowKit
set_option linter.unusedVariables false
set_option linter.unusedSimpArgs false

/-- Where part i ends. -/
def endN (s : ByteArray) (n i : Nat) : Nat := if (i + 1) * n ≤ s.size then (i + 1) * n else s.size
def partB (s : ByteArray) (n i : Nat) : ByteArray := s.extract (i * n) (endN s n i)
def chainN (s : ByteArray) (n : Nat) : Nat → Nat
  | 0 => hashN []
  | k + 1 => linkN (chainN s n k : Nat) (partB s n k)
def manyN (s : ByteArray) (n : Nat) : Nat := (s.size + n - 1) / n
def pieceN (s : ByteArray) (n i : Nat) : Pc := ⟨(i : Int) + 1, (manyN s n : Nat), partB s n i, (chainN s n (i + 1) : Nat)⟩
def cutUp (s : ByteArray) (n k : Nat) : List ByteArray := (List.range k).map fun i => pcB (pieceN s n i)
def cutS (s : ByteArray) (size : Int) : List ByteArray :=
  if s = ⟨#[]⟩ then [] else if inB size 8 200 = false then [] else if 600 < manyN s size.toNat then [] else cutUp s size.toNat (manyN s size.toNat)
theorem cutUp_zero (s : ByteArray) (n : Nat) : cutUp s n 0 = [] := rfl
theorem cutUp_len (s : ByteArray) (n k : Nat) : (cutUp s n k).length = k := by unfold cutUp; simp
theorem cutUp_succ (s : ByteArray) (n k : Nat) : cutUp s n (k + 1) = cutUp s n k ++ [pcB (pieceN s n k)] := by
  unfold cutUp; rw [List.range_succ, List.map_append]; rfl
theorem chain_lt (s : ByteArray) (n k : Nat) : chainN s n k < 4294967296 := by
  cases k with
  | zero => exact hashN_lt _
  | succ k => exact link_lt _ _
theorem many_pos {s : ByteArray} {n : Nat} (hs : 0 < s.size) (hn : 0 < n) : 0 < manyN s n := by
  unfold manyN
  exact Nat.div_pos (by omega) hn
/-- A part that is one begins inside the text. -/
theorem many_in {s : ByteArray} {n k : Nat} (hn : 0 < n) (h : k < manyN s n) : k * n < s.size := by
  unfold manyN at h
  have h1 : (k + 1) * n ≤ s.size + n - 1 := (Nat.le_div_iff_mul_le hn).1 h
  have h2 : (k + 1) * n = k * n + n := by rw [Nat.add_mul, Nat.one_mul]
  omega
theorem many_le {s : ByteArray} {n : Nat} (hn : 0 < n) : s.size ≤ manyN s n * n := by
  unfold manyN
  have h := Nat.div_add_mod (s.size + n - 1) n
  have h1 := Nat.mod_lt (s.size + n - 1) hn
  rw [Nat.mul_comm] at h
  omega
theorem end_in {s : ByteArray} {n k : Nat} (hn : 0 < n) (h : k < manyN s n) : k * n < endN s n k ∧ endN s n k ≤ s.size ∧ endN s n k ≤ k * n + n := by
  have h1 := many_in hn h
  have h2 : (k + 1) * n = k * n + n := by rw [Nat.add_mul, Nat.one_mul]
  unfold endN
  split <;> omega
theorem part_size {s : ByteArray} {n k : Nat} (hn : 0 < n) (h : k < manyN s n) : 1 ≤ (partB s n k).size ∧ (partB s n k).size ≤ n := by
  have h1 := end_in hn h
  unfold partB
  rw [ByteArray.size_extract]
  omega
/-- The pieces are right. -/
theorem piece_ok {s : ByteArray} {n k : Nat} (hn : 0 < n) (hn2 : n ≤ 200) (hm : manyN s n ≤ 600) (h : k < manyN s n) : pcOk (pieceN s n k) = true := by
  have h1 := part_size hn h
  have h2 := chain_lt s n (k + 1)
  have t1 : inB ((manyN s n : Nat) : Int) 1 600 = true := by unfold inB; simp; omega
  have t2 : inB ((k : Int) + 1) 1 ((manyN s n : Nat) : Int) = true := by unfold inB; simp; omega
  have t3 : inB ((partB s n k).size : Int) 1 200 = true := by unfold inB; simp; omega
  have t4 : inB ((chainN s n (k + 1) : Nat) : Int) 0 4294967295 = true := by unfold inB; simp; omega
  unfold pcOk pieceN
  dsimp only
  rw [t1, t2, t3, t4]
  rfl
/-- The parts together. -/
def partsTo (s : ByteArray) (n : Nat) : Nat → ByteArray
  | 0 => ⟨#[]⟩
  | k + 1 => partsTo s n k ++ partB s n k
theorem parts_are {s : ByteArray} {n : Nat} (hn : 0 < n) : ∀ k, k ≤ manyN s n → partsTo s n k = s.extract 0 (if k * n ≤ s.size then k * n else s.size)
  | 0, _ => by
    rw [Nat.zero_mul, if_pos (Nat.zero_le _)]
    apply ByteArray.ext
    simp [partsTo]
  | k + 1, h => by
    have h1 := many_in hn (show k < manyN s n by omega)
    have h2 := end_in hn (show k < manyN s n by omega)
    rw [partsTo, parts_are hn k (by omega), if_pos (by omega)]
    unfold partB
    rw [ByteArray.extract_append_extract]
    rw [Nat.min_eq_left (Nat.zero_le _), Nat.max_eq_right (by omega)]
    rfl
theorem parts_all {s : ByteArray} {n : Nat} (hn : 0 < n) : partsTo s n (manyN s n) = s := by
  rw [parts_are hn _ (Nat.le_refl _)]
  have h := many_le (s := s) hn
  have e : (if manyN s n * n ≤ s.size then manyN s n * n else s.size) = s.size := by split <;> omega
  rw [e]
  exact ByteArray.extract_zero_size
end Go.Proofs.YtdpjdjkfedcojaaGreat

namespace Go.Proofs.YtdpjdjkfedcojaaGreat
open Go.RowKit
set_option linter.unusedVariables false
set_option linter.unusedSimpArgs false

def stepC (s : ByteArray) (n m : Nat) (a : Nat × List ByteArray) (i : Nat) : Nat × List ByteArray :=
  (linkN (a.1 : Int) (partB s n i), a.2 ++ [pcB ⟨(i : Int) + 1, (m : Int), partB s n i, (linkN (a.1 : Int) (partB s n i) : Nat)⟩])
/-- The chain and the pieces behind these parts. -/
def cutL (s : ByteArray) (n m : Nat) (l : List Nat) : Nat × List ByteArray := l.foldl (stepC s n m) (hashN [], [])
theorem cutL_snoc (s : ByteArray) (n m : Nat) (l : List Nat) (i : Nat) : cutL s n m (l ++ [i]) = stepC s n m (cutL s n m l) i := by
  unfold cutL
  rw [List.foldl_append, List.foldl_cons, List.foldl_nil]
theorem cutL_len (s : ByteArray) (n m : Nat) (l : List Nat) : (cutL s n m l).2.length = l.length := by
  unfold cutL
  have h : ∀ (l : List Nat) (a : Nat × List ByteArray), (l.foldl (stepC s n m) a).2.length = a.2.length + l.length := by
    intro l
    induction l with
    | nil => intro a; rfl
    | cons i l ih =>
      intro a
      rw [List.foldl_cons, ih]
      unfold stepC
      simp; omega
  rw [h]; simp
theorem cutL_lt (s : ByteArray) (n m : Nat) (l : List Nat) : (cutL s n m l).1 < 4294967296 := by
  rcases List.eq_nil_or_concat l with rfl | ⟨l', i, rfl⟩
  · unfold cutL; rw [List.foldl_nil]; exact hashN_lt []
  · rw [List.concat_eq_append, cutL_snoc]; unfold stepC; dsimp only; exact link_lt _ _
theorem cutL_range (s : ByteArray) (n : Nat) : ∀ k, cutL s n (manyN s n) (List.range k) = (chainN s n k, cutUp s n k)
  | 0 => rfl
  | k + 1 => by
    rw [List.range_succ, cutL_snoc, cutL_range s n k, cutUp_succ]
    rfl
/-- Where part k begins, inside the text. -/
def fromN (s : ByteArray) (n k : Nat) : Nat := if k * n ≤ s.size then k * n else s.size
def restC (s : ByteArray) (n k : Nat) : ByteArray := s.extract (fromN s n k) s.size
theorem fromN_zero (s : ByteArray) (n : Nat) : fromN s n 0 = 0 := by unfold fromN; rw [Nat.zero_mul, if_pos (Nat.zero_le _)]
theorem restC_zero (s : ByteArray) (n : Nat) : restC s n 0 = s := by unfold restC; rw [fromN_zero]; exact ByteArray.extract_zero_size
theorem fromN_le (s : ByteArray) (n k : Nat) : fromN s n k ≤ s.size := by unfold fromN; split <;> omega
theorem restC_size (s : ByteArray) (n k : Nat) : (restC s n k).size = s.size - fromN s n k := by
  unfold restC; rw [ByteArray.size_extract]; omega
theorem fromN_in {s : ByteArray} {n k : Nat} (hn : 0 < n) (h : k < manyN s n) : fromN s n k = k * n ∧ k * n < s.size := by
  have h1 := many_in hn h
  refine ⟨?_, h1⟩
  unfold fromN; rw [if_pos (by omega)]
theorem many_gt {s : ByteArray} {n k : Nat} (hn : 0 < n) (h : k * n < s.size) : k < manyN s n := by
  unfold manyN
  rw [Nat.lt_div_iff_mul_lt hn]
  omega
theorem fromN_end {s : ByteArray} {n k : Nat} (hn : 0 < n) (h : ¬ k < manyN s n) : fromN s n k = s.size := by
  have h1 : ¬ k * n < s.size := fun q => h (many_gt hn q)
  unfold fromN; split <;> omega
theorem restC_none {s : ByteArray} {n k : Nat} (hn : 0 < n) (h : ¬ k < manyN s n) : (restC s n k).size = 0 := by
  rw [restC_size, fromN_end hn h]; omega
theorem restC_some {s : ByteArray} {n k : Nat} (hn : 0 < n) (h : k < manyN s n) : 0 < (restC s n k).size := by
  have := fromN_in hn h
  rw [restC_size, this.1]; omega
theorem restC_next {s : ByteArray} {n k : Nat} (hn : 0 < n) (h : k < manyN s n) (j : Nat) (hj : j = min n (restC s n k).size) :
    (restC s n k).extract 0 j = partB s n k ∧ (restC s n k).extract j (restC s n k).size = restC s n (k + 1) ∧ j ≤ (restC s n k).size := by
  have h1 := fromN_in hn h
  have h2 := restC_size s n k
  have h3 : (k + 1) * n = k * n + n := by rw [Nat.add_mul, Nat.one_mul]
  rw [h1.1] at h2
  have hje : k * n + j = endN s n k := by unfold endN; rw [h3]; split <;> omega
  have hjf : k * n + j = fromN s n (k + 1) := by unfold fromN; rw [h3]; split <;> omega
  have hjl : j ≤ (restC s n k).size := by omega
  refine ⟨?_, ?_, hjl⟩
  · unfold restC partB
    rw [h1.1, ByteArray.extract_extract, ← hje, Nat.add_zero, Nat.min_eq_left (by omega)]
  · rw [h2]
    unfold restC
    rw [h1.1, ByteArray.extract_extract, ← hjf, Nat.min_eq_left (by omega)]
    congr 1
    omega
end Go.Proofs.YtdpjdjkfedcojaaGreat

namespace Go.Proofs.YtdpjdjkfedcojaaGreat
open Go.RowKit
set_option linter.unusedVariables false
set_option linter.unusedSimpArgs false

/-- The pieces from piece i on: a code and the bytes. -/
def impGo (m : Nat) : List ByteArray → Nat → Nat → ByteArray → Int × ByteArray
  | [], _, _, b => (0, b)
  | t :: r, i, c, b =>
    if (getP t).2 = false then (2, ⟨#[]⟩)
    else if ¬ ((getP t).1.no = (i : Int) + 1 ∧ (getP t).1.of = (m : Int)) then (3, ⟨#[]⟩)
    else if ¬ (getP t).1.ch = (linkN (c : Int) (getP t).1.b : Nat) then (4, ⟨#[]⟩)
    else impGo m r (i + 1) (linkN (c : Int) (getP t).1.b) (b ++ (getP t).1.b)
def importS (l : List ByteArray) : St × Int :=
  if l = [] then (⟨[], []⟩, 1)
  else if ¬ (impGo l.length l 0 (hashN []) ⟨#[]⟩).1 = 0 then (⟨[], []⟩, (impGo l.length l 0 (hashN []) ⟨#[]⟩).1)
  else if (decS (impGo l.length l 0 (hashN []) ⟨#[]⟩).2).2 = 0 then (⟨[], []⟩, 5)
  else ((decS (impGo l.length l 0 (hashN []) ⟨#[]⟩).2).1, 0)
section
variable {m : Nat} {t : ByteArray} {r : List ByteArray} {i c : Nat} {b : ByteArray}
theorem imp_piece (h : (getP t).2 = false) : impGo m (t :: r) i c b = (2, ⟨#[]⟩) := by rw [impGo, if_pos h]
theorem imp_order (h : (getP t).2 = true) (h2 : ¬ ((getP t).1.no = (i : Int) + 1 ∧ (getP t).1.of = (m : Int))) : impGo m (t :: r) i c b = (3, ⟨#[]⟩) := by
  rw [impGo, if_neg (by rw [h]; decide), if_pos h2]
theorem imp_chain (h : (getP t).2 = true) (h2 : (getP t).1.no = (i : Int) + 1 ∧ (getP t).1.of = (m : Int)) (h3 : ¬ (getP t).1.ch = (linkN (c : Int) (getP t).1.b : Nat)) : impGo m (t :: r) i c b = (4, ⟨#[]⟩) := by
  rw [impGo, if_neg (by rw [h]; decide), if_neg (fun q => q h2), if_pos h3]
theorem imp_next (h : (getP t).2 = true) (h2 : (getP t).1.no = (i : Int) + 1 ∧ (getP t).1.of = (m : Int)) (h3 : (getP t).1.ch = (linkN (c : Int) (getP t).1.b : Nat)) : impGo m (t :: r) i c b = impGo m r (i + 1) (linkN (c : Int) (getP t).1.b) (b ++ (getP t).1.b) := by
  rw [impGo, if_neg (by rw [h]; decide), if_neg (fun q => q h2), if_neg (fun q => q h3)]
end
/-- One of the pieces of a cut text is taken. -/
theorem imp_cut {s : ByteArray} {n k : Nat} (hn : 0 < n) (hn2 : n ≤ 200) (hm : manyN s n ≤ 600) (h : k < manyN s n) (r : List ByteArray) (b : ByteArray) :
    impGo (manyN s n) (pcB (pieceN s n k) :: r) k (chainN s n k) b = impGo (manyN s n) r (k + 1) (chainN s n (k + 1)) (b ++ partB s n k) := by
  have hb := pc_back (piece_ok hn hn2 hm h)
  have e1 : (getP (pcB (pieceN s n k))).1 = pieceN s n k := by rw [hb]
  have e2 : (getP (pcB (pieceN s n k))).2 = true := by rw [hb]
  rw [imp_next e2 (by rw [e1]; exact ⟨rfl, rfl⟩) (by rw [e1]; rfl), e1]
  rfl
theorem imp_all {s : ByteArray} {n : Nat} (hn : 0 < n) (hn2 : n ≤ 200) (hm : manyN s n ≤ 600) : ∀ j, j ≤ manyN s n →
    impGo (manyN s n) ((List.range' (manyN s n - j) j).map fun i => pcB (pieceN s n i)) (manyN s n - j) (chainN s n (manyN s n - j)) (partsTo s n (manyN s n - j)) = (0, s)
  | 0, _ => by
    rw [Nat.sub_zero, parts_all hn]
    rfl
  | j + 1, h => by
    rw [List.range'_succ, List.map_cons, imp_cut hn hn2 hm (by omega)]
    have e : manyN s n - (j + 1) + 1 = manyN s n - j := by omega
    have e2 : partsTo s n (manyN s n - (j + 1)) ++ partB s n (manyN s n - (j + 1)) = partsTo s n (manyN s n - j) := by rw [← e]; rfl
    rw [e2, e]
    exact imp_all hn hn2 hm j (by omega)
/-- What is cut up is read back. -/
theorem imp_back {s : ByteArray} {n : Nat} (hn : 0 < n) (hn2 : n ≤ 200) (hm : manyN s n ≤ 600) : impGo (manyN s n) (cutUp s n (manyN s n)) 0 (hashN []) ⟨#[]⟩ = (0, s) := by
  have h := imp_all hn hn2 hm (manyN s n) (Nat.le_refl _)
  rw [Nat.sub_self] at h
  unfold cutUp
  rw [List.range_eq_range']
  exact h
end Go.Proofs.YtdpjdjkfedcojaaGreat

namespace Go.Proofs.YtdpjdjkfedcojaaGreat
open Go.RowKit
set_option linter.unusedVariables false
set_option linter.unusedSimpArgs false

/-- The pieces of a cut text are taken, whatever stands behind them. -/
theorem imp_upto {s : ByteArray} {n : Nat} (hn : 0 < n) (hn2 : n ≤ 200) (hm : manyN s n ≤ 600) : ∀ (j : Nat) (r : List ByteArray), j ≤ manyN s n →
    impGo (manyN s n) (cutUp s n j ++ r) 0 (hashN []) ⟨#[]⟩ = impGo (manyN s n) r j (chainN s n j) (partsTo s n j)
  | 0, r, _ => rfl
  | j + 1, r, h => by
    rw [cutUp_succ, List.append_assoc, imp_upto hn hn2 hm j _ (by omega)]
    show impGo _ (pcB (pieceN s n j) :: r) _ _ _ = _
    rw [imp_cut hn hn2 hm (by omega)]
    rfl
theorem imp_code {l : List ByteArray} {z : Int × ByteArray} (hl : ¬ l = []) (h : impGo l.length l 0 (hashN []) ⟨#[]⟩ = z) (hz : ¬ z.1 = 0) : importS l = (⟨[], []⟩, z.1) := by
  unfold importS
  rw [if_neg hl, h, if_pos hz]
/-- Another number of pieces than they say. -/
theorem spoilt_len {t : ByteArray} {r : List ByteArray} (h : (getP t).2 = true) (h2 : ¬ (getP t).1.of = ((t :: r).length : Int)) : importS (t :: r) = (⟨[], []⟩, 3) :=
  imp_code (by simp) (imp_order h (fun q => h2 q.2)) (fun q => by cases q)
section
variable {s : ByteArray} {n j : Nat} {t : ByteArray} {r : List ByteArray}
/-- Another piece than the next one. -/
theorem spoilt_order (hn : 0 < n) (hn2 : n ≤ 200) (hm : manyN s n ≤ 600) (hj : j ≤ manyN s n) (hlen : (cutUp s n j ++ t :: r).length = manyN s n) (h : (getP t).2 = true) (h2 : ¬ (getP t).1.no = (j : Int) + 1) :
    importS (cutUp s n j ++ t :: r) = (⟨[], []⟩, 3) :=
  imp_code (by simp) ((by rw [hlen]; exact imp_upto hn hn2 hm j _ hj : impGo (cutUp s n j ++ t :: r).length _ 0 _ _ = _).trans (imp_order h (fun q => h2 q.1))) (fun q => by cases q)
/-- A piece that is none. -/
theorem spoilt_piece (hn : 0 < n) (hn2 : n ≤ 200) (hm : manyN s n ≤ 600) (hj : j ≤ manyN s n) (hlen : (cutUp s n j ++ t :: r).length = manyN s n) (h : (getP t).2 = false) :
    importS (cutUp s n j ++ t :: r) = (⟨[], []⟩, 2) :=
  imp_code (by simp) ((by rw [hlen]; exact imp_upto hn hn2 hm j _ hj : impGo (cutUp s n j ++ t :: r).length _ 0 _ _ = _).trans (imp_piece h)) (fun q => by cases q)
/-- What is no sealed text is no piece. -/
theorem not_piece (h : (openB t).2 = false) : (getP t).2 = false := by
  cases hg : (getP t).2 with
  | false => rfl
  | true => rw [pc_sealed hg] at h; cases h
end
/-- A piece that is written is read, and says what it is. -/
theorem piece_is {s : ByteArray} {n k : Nat} (hn : 0 < n) (hn2 : n ≤ 200) (hm : manyN s n ≤ 600) (h : k < manyN s n) : getP (pcB (pieceN s n k)) = (pieceN s n k, true) := pc_back (piece_ok hn hn2 hm h)
theorem cut_at (s : ByteArray) (n m k : Nat) (h : k < m) : (cutUp s n m)[k]'(by rw [cutUp_len]; exact h) = pcB (pieceN s n k) := by
  unfold cutUp; simp
theorem cut_take (s : ByteArray) (n m k : Nat) (h : k ≤ m) : (cutUp s n m).take k = cutUp s n k := by
  unfold cutUp
  rw [← List.map_take, List.take_range, Nat.min_eq_left h]
/-- A whole stream is read. -/
theorem import_back {s : ByteArray} {n : Nat} (hn : 0 < n) (hn2 : n ≤ 200) (hm : manyN s n ≤ 600) (hpos : 0 < manyN s n) : importS (cutUp s n (manyN s n)) = if (decS s).2 = 0 then (⟨[], []⟩, 5) else ((decS s).1, 0) := by
  have hl : ¬ cutUp s n (manyN s n) = [] := fun h => by have := cutUp_len s n (manyN s n); rw [h] at this; simp at this; omega
  have h := imp_back hn hn2 hm
  unfold importS
  rw [if_neg hl, cutUp_len, h, if_neg (fun q => q rfl)]
end Go.Proofs.YtdpjdjkfedcojaaGreat

namespace Go.Proofs.YtdpjdjkfedcojaaGreat
open Go.RowKit
set_option linter.unusedVariables false
set_option linter.unusedSimpArgs false

/-- Some bits turned in one byte. -/
theorem leN_byte (l : List UInt8) (i m : Nat) (hi : i < l.length) (c : UInt8) (hc : c.toNat = l[i].toNat ^^^ m) : leN (l.set i c) = leN l ^^^ m * 2 ^ (8 * i) := by
  induction l generalizing i with
  | nil => simp at hi
  | cons b l ih =>
    cases i with
    | zero =>
      rw [List.set_cons_zero, leN_cons, leN_cons, hc]
      simp only [List.getElem_cons_zero, Nat.mul_zero, Nat.pow_zero, Nat.mul_one]
      rw [Nat.xor_assoc, Nat.xor_comm m, ← Nat.xor_assoc]
    | succ i =>
      rw [List.set_cons_succ, leN_cons, leN_cons, ih i (by simpa using hi) (by simpa using hc)]
      have e : 2 ^ 8 * (leN l ^^^ m * 2 ^ (8 * i)) = 2 ^ 8 * leN l ^^^ m * 2 ^ (8 * (i + 1)) := by
        have e0 : m * 2 ^ (8 * (i + 1)) = 2 ^ 8 * (m * 2 ^ (8 * i)) := by
          rw [show 8 * (i + 1) = 8 + 8 * i by omega, Nat.pow_add, Nat.mul_left_comm]
        rw [e0]
        apply Nat.eq_of_testBit_eq
        intro j
        rw [Nat.testBit_xor, Nat.testBit_two_pow_mul, Nat.testBit_two_pow_mul, Nat.testBit_two_pow_mul, Nat.testBit_xor]
        cases decide (8 ≤ j) <;> simp
      rw [e, Nat.xor_assoc]
/-- A piece of which one byte was changed is none. -/
theorem hurt_none {p : Pc} (hp : pcOk p = true) (i m : Nat) (hi : i < (pcB p).data.toList.length) (hm : m ≠ 0) (hm2 : m < 256) (c : UInt8) (hc : c.toNat = ((pcB p).data.toList[i]).toNat ^^^ m) :
    (getP ⟨((pcB p).data.toList.set i c).toArray⟩).2 = false := by
  have hs : pcB p = sealB ⟨(pcL p).toArray⟩ := by unfold pcB; rw [if_pos hp]
  have hz : (pcB p).data.toList.length = (pcB p).size := by simp
  have h := not_open ⟨(pcL p).toArray⟩ ((pcB p).data.toList.set i c) m (8 * i) (by rw [List.length_set, hz, hs]) (by rw [← hs]; exact leN_byte _ _ _ hi c hc) hm (by omega) (by rw [← hs, ← hz]; omega)
  exact not_piece (by rw [h])
section
variable {s : ByteArray} {n : Nat}
/-- What all the pieces of a cut text are. -/
theorem cut_mem (hn : 0 < n) (hn2 : n ≤ 200) (hm : manyN s n ≤ 600) {t : ByteArray} (h : t ∈ cutUp s n (manyN s n)) : (getP t).2 = true ∧ (getP t).1.of = (manyN s n : Nat) := by
  unfold cutUp at h
  obtain ⟨i, hi, rfl⟩ := List.mem_map.1 h
  rw [piece_is hn hn2 hm (List.mem_range.1 hi)]
  exact ⟨rfl, rfl⟩
/-- Another number of pieces than there are. -/
theorem spoilt_many (hn : 0 < n) (hn2 : n ≤ 200) (hm : manyN s n ≤ 600) {l : List ByteArray} (hall : ∀ t ∈ l, t ∈ cutUp s n (manyN s n)) (h0 : 0 < l.length) (hl : l.length ≠ manyN s n) : importS l = (⟨[], []⟩, 3) := by
  cases l with
  | nil => simp at h0
  | cons t r =>
    obtain ⟨h1, h2⟩ := cut_mem hn hn2 hm (hall t (by simp))
    exact spoilt_len h1 (by rw [h2]; intro h; apply hl; omega)
theorem less_refused (hn : 0 < n) (hn2 : n ≤ 200) (hm : manyN s n ≤ 600) {i : Nat} (hi : i < manyN s n) (h2 : 2 ≤ manyN s n) : importS ((cutUp s n (manyN s n)).take i ++ (cutUp s n (manyN s n)).drop (i + 1)) = (⟨[], []⟩, 3) := by
  have hl := cutUp_len s n (manyN s n)
  refine spoilt_many hn hn2 hm (fun t ht => ?_) ?_ ?_
  · rcases List.mem_append.1 ht with h | h
    · exact List.mem_of_mem_take h
    · exact List.mem_of_mem_drop h
  · rw [List.length_append, List.length_take, List.length_drop, hl]; omega
  · rw [List.length_append, List.length_take, List.length_drop, hl]; omega
theorem more_refused (hn : 0 < n) (hn2 : n ≤ 200) (hm : manyN s n ≤ 600) {i k : Nat} (hi : i < manyN s n) (hk : k < manyN s n) : importS ((cutUp s n (manyN s n)).take i ++ [(cutUp s n (manyN s n))[k]'(by rw [cutUp_len]; exact hk)] ++ (cutUp s n (manyN s n)).drop i) = (⟨[], []⟩, 3) := by
  have hl := cutUp_len s n (manyN s n)
  refine spoilt_many hn hn2 hm (fun t ht => ?_) ?_ ?_
  · rcases List.mem_append.1 ht with h | h
    · rcases List.mem_append.1 h with h | h
      · exact List.mem_of_mem_take h
      · rw [List.mem_singleton.1 h]; exact List.getElem_mem _
    · exact List.mem_of_mem_drop h
  · simp only [List.length_append, List.length_take, List.length_drop, List.length_singleton]; omega
  · simp only [List.length_append, List.length_take, List.length_drop, List.length_singleton]; omega
theorem list_at {l : List ByteArray} {j : Nat} {t : ByteArray} (hj : l[j]? = some t) : l = l.take j ++ t :: l.drop (j + 1) := by
  obtain ⟨h, rfl⟩ := List.getElem?_eq_some_iff.1 hj
  rw [← List.drop_eq_getElem_cons h, List.take_append_drop]
theorem turned_at (hn : 0 < n) (hn2 : n ≤ 200) (hm : manyN s n ≤ 600) {l : List ByteArray} {j o : Nat} (hl : l.length = manyN s n) (ht : l.take j = cutUp s n j) (hjm : j ≤ manyN s n) (ho : o < manyN s n) (ho2 : o ≠ j) (he : l[j]? = some (pcB (pieceN s n o))) : importS l = (⟨[], []⟩, 3) := by
  have h1 := piece_is hn hn2 hm ho
  have e := list_at he
  rw [ht] at e
  have hl2 : (cutUp s n j ++ pcB (pieceN s n o) :: l.drop (j + 1)).length = manyN s n := by rw [← e]; exact hl
  rw [e]
  refine spoilt_order hn hn2 hm hjm hl2 ?_ ?_
  · rw [h1]
  · rw [h1]
    show ¬ (o : Int) + 1 = (j : Int) + 1
    omega
theorem turned_refused (hn : 0 < n) (hn2 : n ≤ 200) (hm : manyN s n ≤ 600) {i k : Nat} (hi : i < manyN s n) (hk : k < manyN s n) (hik : i ≠ k) :
    importS (((cutUp s n (manyN s n)).set i (pcB (pieceN s n k))).set k (pcB (pieceN s n i))) = (⟨[], []⟩, 3) := by
  have hl := cutUp_len s n (manyN s n)
  rcases Nat.lt_or_ge i k with h | h
  · refine turned_at (j := i) (o := k) hn hn2 hm (by rw [List.length_set, List.length_set, hl]) ?_ (by omega) hk (by omega) ?_
    · rw [List.take_set_of_le (by omega), List.take_set_of_le (by omega)]
      exact cut_take s n _ i (by omega)
    · rw [List.getElem?_set_ne (by omega), List.getElem?_set_self (by omega)]
  · refine turned_at (j := k) (o := i) hn hn2 hm (by rw [List.length_set, List.length_set, hl]) ?_ (by omega) hi (by omega) ?_
    · rw [List.take_set_of_le (by omega), List.take_set_of_le (by omega)]
      exact cut_take s n _ k (by omega)
    · rw [List.getElem?_set_self (by rw [List.length_set]; omega)]
theorem hurt_refused (hn : 0 < n) (hn2 : n ≤ 200) (hm : manyN s n ≤ 600) {i : Nat} (hi : i < manyN s n) {t : ByteArray} (ht : (getP t).2 = false) : importS ((cutUp s n (manyN s n)).set i t) = (⟨[], []⟩, 2) := by
  have hl := cutUp_len s n (manyN s n)
  have e := list_at (l := (cutUp s n (manyN s n)).set i t) (j := i) (t := t) (List.getElem?_set_self (by omega))
  rw [List.take_set_of_le (Nat.le_refl _), cut_take s n _ i (by omega)] at e
  have hl2 : (cutUp s n i ++ t :: ((cutUp s n (manyN s n)).set i t).drop (i + 1)).length = manyN s n := by rw [← e, List.length_set, hl]
  rw [e]
  exact spoilt_piece hn hn2 hm (by omega) hl2 ht
end
/-- How many pieces a text of the formats has: in pieces of any size that there is. -/
theorem many_small {s : ByteArray} {n : Nat} (hs : s.size ≤ 4800) (hn : 8 ≤ n) : manyN s n ≤ 600 := by
  unfold manyN
  have h : (s.size + n - 1) / n < 601 := by
    rw [Nat.div_lt_iff_lt_mul (by omega)]
    omega
  omega
theorem many_two {s : ByteArray} {n : Nat} (hs : 10 ≤ s.size) (hn : n ≤ 9) (h1 : 1 ≤ n) : 2 ≤ manyN s n := by
  unfold manyN
  rw [Nat.le_div_iff_mul_le (by omega)]
  omega
end Go.Proofs.YtdpjdjkfedcojaaGreat
