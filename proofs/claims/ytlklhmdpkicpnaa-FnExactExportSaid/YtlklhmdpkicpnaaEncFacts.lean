/- What the second format's bytes are, and that they tell the state. Condition: none. -/
import Derived.Test.YtlklhmdpkicpnaaNumA
import Derived.Test.YtlklhmdpkicpnaaPutFacts
namespace Go.Proofs.Ytlklhmdpkicpnaa
open Go.RowKit
set_option linter.unusedVariables false
set_option linter.unusedSimpArgs false

def pt (s : ByteArray) : List UInt8 := be8 s.size 2 ++ s.data.toList
def encIt (x : It) : List UInt8 := pt x.k ++ pt x.v
def encTk (x : Tk) : List UInt8 := pt x.c ++ be8 x.q.toNat 4 ++ pt x.r
def encL (s : St) : List UInt8 := [70, 2] ++ be8 s.items.length 2 ++ s.items.flatMap encIt ++ be8 s.talks.length 2 ++ s.talks.flatMap encTk
def encB (s : St) : ByteArray := ⟨(encL s).toArray⟩
theorem be8_inj {n m k : Nat} (h : be8 n k = be8 m k) : n % 256 ^ k = m % 256 ^ k := by rw [← beN_be8, ← beN_be8, h]
theorem be8_cut {n m k : Nat} {X Y : List UInt8} (h : be8 n k ++ X = be8 m k ++ Y) : n % 256 ^ k = m % 256 ^ k ∧ X = Y := by
  obtain ⟨h1, h2⟩ := List.append_inj h (by rw [be8_len, be8_len])
  exact ⟨be8_inj h1, h2⟩
theorem pt_cut {a b : ByteArray} {X Y : List UInt8} (ha : a.size ≤ 65535) (hb : b.size ≤ 65535) (h : pt a ++ X = pt b ++ Y) : a = b ∧ X = Y := by
  unfold pt at h
  rw [List.append_assoc, List.append_assoc] at h
  obtain ⟨h1, h2⟩ := be8_cut h
  have hs : a.size = b.size := by omega
  obtain ⟨h3, h4⟩ := List.append_inj h2 (by simpa using hs)
  refine ⟨?_, h4⟩
  apply ByteArray.ext
  exact Array.toList_inj.mp h3
def SmI (x : It) : Prop := x.k.size ≤ 64 ∧ x.v.size ≤ 64
def SmT (x : Tk) : Prop := x.c.size ≤ 64 ∧ x.r.size ≤ 64 ∧ 0 ≤ x.q ∧ x.q ≤ 1000000000
theorem items_cut : ∀ {xs ys : List It} {X Y : List UInt8}, xs.length = ys.length → (∀ x ∈ xs, SmI x) → (∀ y ∈ ys, SmI y) → xs.flatMap encIt ++ X = ys.flatMap encIt ++ Y → xs = ys ∧ X = Y
  | [], [], X, Y, _, _, _, h => ⟨rfl, by simpa using h⟩
  | [], y :: ys, _, _, hl, _, _, _ => by simp at hl
  | x :: xs, [], _, _, hl, _, _, _ => by simp at hl
  | x :: xs, y :: ys, X, Y, hl, hx, hy, h => by
    simp only [List.flatMap_cons, encIt, List.append_assoc] at h
    have h1 := hx x (by simp)
    have h2 := hy y (by simp)
    unfold SmI at h1 h2
    obtain ⟨e1, h⟩ := pt_cut (by omega) (by omega) h
    obtain ⟨e2, h⟩ := pt_cut (by omega) (by omega) h
    obtain ⟨e3, e4⟩ := items_cut (by simpa using hl) (fun z hz => hx z (List.mem_cons_of_mem _ hz)) (fun z hz => hy z (List.mem_cons_of_mem _ hz)) h
    refine ⟨?_, e4⟩
    rw [e3]
    cases x; cases y
    simp only at e1 e2
    rw [e1, e2]
theorem talks_cut : ∀ {xs ys : List Tk} {X Y : List UInt8}, xs.length = ys.length → (∀ x ∈ xs, SmT x) → (∀ y ∈ ys, SmT y) → xs.flatMap encTk ++ X = ys.flatMap encTk ++ Y → xs = ys ∧ X = Y
  | [], [], X, Y, _, _, _, h => ⟨rfl, by simpa using h⟩
  | [], y :: ys, _, _, hl, _, _, _ => by simp at hl
  | x :: xs, [], _, _, hl, _, _, _ => by simp at hl
  | x :: xs, y :: ys, X, Y, hl, hx, hy, h => by
    simp only [List.flatMap_cons, encTk, List.append_assoc] at h
    have h1 := hx x (by simp)
    have h2 := hy y (by simp)
    unfold SmT at h1 h2
    obtain ⟨e1, h⟩ := pt_cut (by omega) (by omega) h
    obtain ⟨e5, h⟩ := be8_cut h
    obtain ⟨e2, h⟩ := pt_cut (by omega) (by omega) h
    obtain ⟨e3, e4⟩ := talks_cut (by simpa using hl) (fun z hz => hx z (List.mem_cons_of_mem _ hz)) (fun z hz => hy z (List.mem_cons_of_mem _ hz)) h
    refine ⟨?_, e4⟩
    have eq : x.q = y.q := by omega
    rw [e3]
    cases x; cases y
    simp only at e1 e2 eq
    rw [e1, e2, eq]
theorem stOk_q {s : St} (h : stOk s = true) : ∀ x ∈ s.talks, 0 ≤ x.q ∧ x.q ≤ 1000000000 := by
  intro x hx
  have := ((stOk_iff s).1 h).2.1 x hx
  unfold tkOk inB at this
  simp at this
  omega
/-- The bytes of the second format tell the state. -/
theorem enc_inj {s r : St} (hs : stOk s = true) (hr : stOk r = true) (s1 : ∀ x ∈ s.items, x.k.size ≤ 64 ∧ x.v.size ≤ 64) (s2 : ∀ x ∈ s.talks, x.c.size ≤ 64 ∧ x.r.size ≤ 64) (r1 : ∀ x ∈ r.items, x.k.size ≤ 64 ∧ x.v.size ≤ 64) (r2 : ∀ x ∈ r.talks, x.c.size ≤ 64 ∧ x.r.size ≤ 64) (h : encB s = encB r) : s = r := by
  have hl : encL s = encL r := by
    have := congrArg (fun b : ByteArray => b.data.toList) h
    simpa [encB] using this
  have a1 := ((stOk_iff s).1 hs).1.2.2
  have a2 := ((stOk_iff r).1 hr).1.2.2
  have b1 := ((stOk_iff s).1 hs).2.2.2
  have b2 := ((stOk_iff r).1 hr).2.2.2
  unfold encL at hl
  simp only [List.append_assoc] at hl
  have hl := List.append_cancel_left hl
  obtain ⟨c1, hl⟩ := be8_cut hl
  obtain ⟨c2, hl⟩ := items_cut (by omega) s1 r1 hl
  obtain ⟨c3, hl⟩ := be8_cut hl
  have hl' : s.talks.flatMap encTk ++ [] = r.talks.flatMap encTk ++ [] := by simpa using hl
  obtain ⟨c4, _⟩ := talks_cut (by omega) (fun x hx => ⟨(s2 x hx).1, (s2 x hx).2, stOk_q hs x hx⟩) (fun x hx => ⟨(r2 x hx).1, (r2 x hx).2, stOk_q hr x hx⟩) hl'
  cases s; cases r
  simp only at c2 c4
  rw [c2, c4]
end Go.Proofs.Ytlklhmdpkicpnaa
