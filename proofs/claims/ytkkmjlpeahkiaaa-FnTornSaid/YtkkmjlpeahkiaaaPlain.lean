/- Plain facts on lists of bytes for chapter 1 (numbers and text): no program is named here. Condition: none. -/
import Derived.WalkKit
import Derived.Deep.QuietTactic
namespace Go.Proofs.Ytkkmjlpeahkiaaa
open Go.RowKit

theorem ret_int {k : IntKind} {a b : Int} (h : a = b) : Ending.returned (.int k a) = .returned (.int k b) := by rw [h]
theorem ret_bool {a b : Bool} (h : a = b) : Ending.returned (.bool a) = .returned (.bool b) := by rw [h]

theorem below_draws (B : Nat) (w : World) (n : Nat) : Below B w (w.drewN n) := ⟨rfl, rfl, rfl, Nat.le_refl _, fun _ _ => rfl⟩

/-- What a law's walk is told of a row of integers that came in (the frame of the proof gives it): nil; or the cells. -/
def IsRow (k : IntKind) (w : World) (a : Option Addr) (len cap : Nat) (zs : List Int) : Prop :=
  (a = none ∧ len = 0 ∧ cap = 0 ∧ zs = []) ∨
  ∃ x, a = some x ∧ len ≤ cap ∧ cap ≤ maxLen ∧ zs.length = cap ∧ (∀ i, i < zs.length → w.cell? (x.add i) = some (.int k (zs.getD i 0))) ∧ ∀ n ∈ zs, (Lit.int k n).wf = true

/-- A byte that a name may hold. -/
def inB (x a b : Int) : Bool := decide (a ≤ x ∧ x ≤ b)
def nameByte (c : UInt8) : Bool := inB c.toNat 97 122 || inB c.toNat 48 57
/-- How many bytes at the front of a text a name may hold. -/
def nameRun (l : List UInt8) : Nat := (l.takeWhile nameByte).length
def nameOkB (l : List UInt8) : Bool := l.all nameByte && inB l.length 1 12

theorem take_snoc (s : ByteArray) (k : Nat) (h : k < s.size) : s.data.toList.take (k + 1) = s.data.toList.take k ++ [s[k]] := by
  rw [List.take_succ_eq_append_getElem (by simpa using h)]; rfl

theorem inB_true {x a b : Int} (h : inB x a b = true) : a ≤ x ∧ x ≤ b := of_decide_eq_true h
theorem inB_false {x a b : Int} (h : inB x a b = false) : x < a ∨ b < x := by
  have := of_decide_eq_false h; omega

theorem nameRun_le (l : List UInt8) : nameRun l ≤ l.length := by
  unfold nameRun; exact (List.takeWhile_prefix _).length_le

theorem all_take_run (l : List UInt8) (k : Nat) (hk : k ≤ l.length) (h : (l.take k).all nameByte = true) (he : k = l.length ∨ ∃ h : k < l.length, nameByte l[k] = false) : nameRun l = k := by
  unfold nameRun
  induction l generalizing k with
  | nil => simp at hk; simp [hk]
  | cons c l ih =>
    cases k with
    | zero =>
      rcases he with he | ⟨h1, h2⟩
      · simp at he
      · simp at h2; simp [h2]
    | succ k =>
      simp at h
      simp only [List.takeWhile_cons, h.1, if_true, List.length_cons]
      rw [ih k (by simpa using hk) (by simpa using h.2)]
      rcases he with he | ⟨h1, h2⟩
      · left; simpa using he
      · right; exact ⟨by simpa using h1, by simpa using h2⟩

theorem run_all (l : List UInt8) : (nameRun l = l.length) ↔ l.all nameByte = true := by
  unfold nameRun
  induction l with
  | nil => simp
  | cons c l ih =>
    by_cases h : nameByte c = true
    · simp only [List.takeWhile_cons, h, if_true, List.length_cons, List.all_cons, Bool.true_and]
      rw [← ih]; omega
    · simp [h]

theorem all_take_all (l : List UInt8) (k : Nat) (h : l.length ≤ k) (ha : (l.take k).all nameByte = true) : l.all nameByte = true := by
  rwa [List.take_of_length_le h] at ha

theorem not_all_of (l : List UInt8) (k : Nat) (h : k < l.length) (hb : nameByte l[k] = false) : l.all nameByte = false := by
  rw [List.all_eq_false]; exact ⟨l[k], List.getElem_mem h, by simp [hb]⟩
theorem nameByte_1 {c : UInt8} (h : inB c.toNat 97 122 = true) : nameByte c = true := by simp [nameByte, h]
theorem nameByte_2 {c : UInt8} (h : inB c.toNat 48 57 = true) : nameByte c = true := by simp [nameByte, h]
theorem nameByte_0 {c : UInt8} (h : inB c.toNat 97 122 = false) (h' : inB c.toNat 48 57 = false) : nameByte c = false := by simp [nameByte, h, h']
theorem all_snoc (s : ByteArray) (k : Nat) (h : k < s.size) (ha : (s.data.toList.take k).all nameByte = true) (hb : nameByte s[k] = true) : (s.data.toList.take (k + 1)).all nameByte = true := by
  rw [take_snoc s k h, List.all_append, ha]; simp [hb]
theorem nameOk_no (s : ByteArray) (k : Nat) (h : k < s.size) (hb : nameByte s[k] = false) : nameOkB s.data.toList = false := by
  have := not_all_of s.data.toList k (by simpa using h) hb
  simp [nameOkB, this]
theorem nameOk_in (s : ByteArray) (k : Nat) (h : s.size ≤ k) (ha : (s.data.toList.take k).all nameByte = true) : nameOkB s.data.toList = inB s.size 1 12 := by
  have := all_take_all _ _ (by simpa using h) ha
  simp [nameOkB, this]
theorem nameByte_az {c : UInt8} (h : (97 : Int) ≤ (c.toNat : Int)) (h' : (c.toNat : Int) ≤ 122) : nameByte c = true := nameByte_1 (decide_eq_true ⟨h, h'⟩)
theorem nameByte_09 {c : UInt8} (h : (48 : Int) ≤ (c.toNat : Int)) (h' : (c.toNat : Int) ≤ 57) : nameByte c = true := nameByte_2 (decide_eq_true ⟨h, h'⟩)
theorem nameByte_no {c : UInt8} (h : (c.toNat : Int) < 97 ∨ 122 < (c.toNat : Int)) (h' : (c.toNat : Int) < 48 ∨ 57 < (c.toNat : Int)) : nameByte c = false :=
  nameByte_0 (decide_eq_false (by omega)) (decide_eq_false (by omega))
theorem run_here (s : ByteArray) (k : Nat) (h : k < s.size) (ha : (s.data.toList.take k).all nameByte = true) (hb : nameByte s[k] = false) : nameRun s.data.toList = k :=
  all_take_run _ k (by simp; omega) ha (.inr ⟨by simpa using h, hb⟩)
theorem run_end (s : ByteArray) (k : Nat) (h : k = s.size) (ha : (s.data.toList.take k).all nameByte = true) : nameRun s.data.toList = k :=
  all_take_run _ k (by simp; omega) ha (.inl (by simp; omega))
theorem nameOk_run (s : ByteArray) (h1 : (1 : Int) ≤ s.size) (h2 : (s.size : Int) ≤ 12) (b : Bool) (h : ((nameRun s.data.toList : Int) == (s.size : Int)) = b) : nameOkB s.data.toList = b := by
  have hr := run_all s.data.toList
  have : inB s.data.toList.length 1 12 = true := by simp [inB]; omega
  unfold nameOkB; rw [this, Bool.and_true]
  cases b
  · simp at h; rw [Bool.eq_false_iff]; intro hc; rw [← hr] at hc; simp at hc; omega
  · simp at h; rw [← hr]; simp; omega
theorem nameOk_out (s : ByteArray) (h : (s.size : Int) < 1 ∨ 12 < (s.size : Int)) : nameOkB s.data.toList = false := by
  have : inB s.data.toList.length 1 12 = false := by simp [inB]; omega
  unfold nameOkB; rw [this, Bool.and_false]

/-! ## The order of texts -/
theorem less_ne (x y : List UInt8) (k : Nat) (hx : k < x.length) (hy : k < y.length) (hp : x.take k = y.take k) (hn : x[k] ≠ y[k]) : Op.bytesLess x y = decide ((x[k].toNat : Int) < (y[k].toNat : Int)) := by
  induction k generalizing x y with
  | zero =>
    match x, y, hx, hy with
    | a :: x, b :: y, _, _ =>
      simp at hn
      simp [Op.bytesLess, hn, UInt8.lt_iff_toNat_lt]
  | succ k ih =>
    match x, y, hx, hy with
    | a :: x, b :: y, hx, hy =>
      simp at hp hn
      obtain ⟨rfl, hp⟩ := hp
      have := ih x y (by simpa using hx) (by simpa using hy) hp (by simpa using hn)
      simp only [Op.bytesLess, List.getElem_cons_succ]
      rw [this]; simp [UInt8.lt_irrefl]
theorem less_end (x y : List UInt8) (k : Nat) (hx : k ≤ x.length) (hy : k ≤ y.length) (hp : x.take k = y.take k) (he : k = x.length ∨ k = y.length) : Op.bytesLess x y = decide (x.length < y.length) := by
  induction k generalizing x y with
  | zero =>
    match x, y with
    | [], [] => simp [Op.bytesLess]
    | [], b :: y => simp [Op.bytesLess]
    | a :: x, [] => simp [Op.bytesLess]
    | a :: x, b :: y => simp at he
  | succ k ih =>
    match x, y, hx, hy with
    | a :: x, b :: y, hx, hy =>
      simp at hp
      obtain ⟨rfl, hp⟩ := hp
      have := ih x y (by simpa using hx) (by simpa using hy) hp (by simpa using he)
      simp only [Op.bytesLess]
      rw [this]; simp [UInt8.lt_irrefl]
def lessB (a b : ByteArray) : Bool := Op.bytesLess a.data.toList b.data.toList
theorem lessB_ne (a b : ByteArray) (k : Nat) (hx : k < a.size) (hy : k < b.size) (hp : a.data.toList.take k = b.data.toList.take k) (hn : ¬ (a[k].toNat : Int) = b[k].toNat) : lessB a b = decide (a[k].toNat < b[k].toNat) := by
  refine (less_ne _ _ k (by simpa using hx) (by simpa using hy) hp ?_).trans (by simp; rfl)
  intro h; apply hn
  have h' : a[k] = b[k] := by simp at h; exact h
  rw [h']
theorem lessB_end (a b : ByteArray) (k : Nat) (hx : k ≤ a.size) (hy : k ≤ b.size) (hp : a.data.toList.take k = b.data.toList.take k) (he : k = a.size ∨ k = b.size) : lessB a b = decide (a.size < b.size) := by
  exact less_end _ _ k (by simpa using hx) (by simpa using hy) hp (by simpa using he)
theorem take_both (a b : ByteArray) (k : Nat) (hx : k < a.size) (hy : k < b.size) (hp : a.data.toList.take k = b.data.toList.take k) (hn : (a[k].toNat : Int) = b[k].toNat) : a.data.toList.take (k + 1) = b.data.toList.take (k + 1) := by
  have : a[k] = b[k] := by apply UInt8.toNat_inj.mp; omega
  rw [take_snoc a k hx, take_snoc b k hy, hp, this]
end Go.Proofs.Ytkkmjlpeahkiaaa
