/- States whose rows ascend: what put and drop make of them, told plainly. Condition: none. -/
import Derived.Test.YtdpjdjkfedcojaaGreatPutPlain
import Derived.Test.YtdpjdjkfedcojaaGreatSpecDrop
namespace Go.Proofs.YtdpjdjkfedcojaaGreat
open Go.RowKit
set_option linter.unusedVariables false
set_option linter.unusedSimpArgs false

theorem bl_self (x : List UInt8) : Op.bytesLess x x = false := by
  induction x with
  | nil => rfl
  | cons c x ih => simp [Op.bytesLess, ih, UInt8.lt_irrefl]
theorem bl_trans (x y z : List UInt8) (h1 : Op.bytesLess x y = true) (h2 : Op.bytesLess y z = true) : Op.bytesLess x z = true := by
  induction x generalizing y z with
  | nil =>
    cases y with
    | nil => simp [Op.bytesLess] at h1
    | cons b y => cases z with
      | nil => simp [Op.bytesLess] at h2
      | cons c z => rfl
  | cons a x ih =>
    cases y with
    | nil => simp [Op.bytesLess] at h1
    | cons b y => cases z with
      | nil => simp [Op.bytesLess] at h2
      | cons c z =>
        simp only [Op.bytesLess, Bool.or_eq_true, decide_eq_true_eq, Bool.and_eq_true, beq_iff_eq] at h1 h2 ⊢
        rcases h1 with h1 | ⟨rfl, h1⟩
        · rcases h2 with h2 | ⟨rfl, h2⟩
          · exact .inl (UInt8.lt_trans h1 h2)
          · exact .inl h1
        · rcases h2 with h2 | ⟨rfl, h2⟩
          · exact .inl h2
          · exact .inr ⟨rfl, ih y z h1 h2⟩
theorem lb_self (a : ByteArray) : lessB a a = false := bl_self _
theorem lb_trans {a b c : ByteArray} (h1 : lessB a b = true) (h2 : lessB b c = true) : lessB a c = true := bl_trans _ _ _ h1 h2
theorem lb_ne {a b : ByteArray} (h : lessB a b = true) : a ≠ b := fun e => by rw [e, lb_self] at h; cases h
theorem lb_not {a b : ByteArray} (h : lessB a b = true) : lessB b a = false := by
  cases e : lessB b a
  · rfl
  · have := lb_trans h e; rw [lb_self] at this; cases this

/-- Names ascend. -/
def Asc {α : Type} (f : α → ByteArray) (xs : List α) : Prop := xs.Pairwise (fun a b => lessB (f a) (f b) = true)
theorem asc_of_adj {α : Type} (f : α → ByteArray) (xs : List α) (h : ∀ i (hi : i + 1 < xs.length), lessB (f xs[i]) (f xs[i + 1]) = true) : Asc f xs := by
  unfold Asc
  rw [List.pairwise_iff_getElem]
  intro i j hi hj hij
  obtain ⟨d, rfl⟩ : ∃ d, j = i + 1 + d := ⟨j - i - 1, by omega⟩
  clear hij
  induction d with
  | zero => exact h i hj
  | succ d ih => exact lb_trans (ih (by omega)) (h (i + 1 + d) (by omega))
theorem Asc.lt {α : Type} {f : α → ByteArray} {xs : List α} (h : Asc f xs) {i j : Nat} (hi : i < xs.length) (hj : j < xs.length) (hij : i < j) : lessB (f xs[i]) (f xs[j]) = true := (List.pairwise_iff_getElem.1 h) i j hi hj hij
theorem Asc.uniq {α : Type} {f : α → ByteArray} {xs : List α} (h : Asc f xs) {i j : Nat} (hi : i < xs.length) (hj : j < xs.length) (e : f xs[i] = f xs[j]) : i = j := by
  rcases Nat.lt_trichotomy i j with hij | hij | hij
  · exact absurd e (lb_ne (h.lt hi hj hij))
  · exact hij
  · exact absurd e.symm (lb_ne (h.lt hj hi hij))
/-- Rows that ascend and hold the same are the same. -/
theorem Asc.ext {α : Type} {f : α → ByteArray} : ∀ {xs ys : List α}, Asc f xs → Asc f ys → (∀ a, a ∈ xs ↔ a ∈ ys) → xs = ys
  | [], [], _, _, _ => rfl
  | [], y :: ys, _, _, h => by have := (h y).2 (by simp); simp at this
  | x :: xs, [], _, _, h => by have := (h x).1 (by simp); simp at this
  | x :: xs, y :: ys, hx, hy, h => by
    have hx' := List.pairwise_cons.1 hx
    have hy' := List.pairwise_cons.1 hy
    have e : x = y := by
      rcases List.mem_cons.1 ((h x).1 (by simp)) with e | e
      · exact e
      · rcases List.mem_cons.1 ((h y).2 (by simp)) with e' | e'
        · exact e'.symm
        · have h1 := hy'.1 x e
          have h2 := hx'.1 y e'
          have := lb_trans h1 h2
          rw [lb_self] at this; cases this
    subst e
    congr 1
    refine Asc.ext hx'.2 hy'.2 (fun a => ⟨fun ha => ?_, fun ha => ?_⟩)
    · rcases List.mem_cons.1 ((h a).1 (List.mem_cons_of_mem _ ha)) with e | e
      · subst e; have := hx'.1 a ha; rw [lb_self] at this; cases this
      · exact e
    · rcases List.mem_cons.1 ((h a).2 (List.mem_cons_of_mem _ ha)) with e | e
      · subst e; have := hy'.1 a ha; rw [lb_self] at this; cases this
      · exact e

theorem stOk_iff (s : St) : stOk s = true ↔ ((∀ x ∈ s.items, itOk x = true) ∧ Asc It.k s.items ∧ s.items.length ≤ 40) ∧ ((∀ x ∈ s.talks, tkOk x = true) ∧ Asc Tk.c s.talks ∧ s.talks.length ≤ 20) := by
  unfold stOk
  simp only [decide_eq_true_eq]
  constructor
  · rintro ⟨h1, h2, h3, h4⟩
    refine ⟨⟨fun x hx => ?_, asc_of_adj _ _ (fun i hi => ?_), h3⟩, ⟨fun x hx => ?_, asc_of_adj _ _ (fun i hi => ?_), h4⟩⟩
    · obtain ⟨i, hi, rfl⟩ := List.getElem_of_mem hx
      have := h1 i hi
      unfold goodI at this
      rw [getD_eq _ _ hi, Bool.and_eq_true] at this
      exact this.1
    · have := h1 (i + 1) hi
      unfold goodI at this
      rw [getD_eq _ _ hi, Bool.and_eq_true, Bool.or_eq_true] at this
      rcases this.2 with h | h
      · simp at h
      · rw [show i + 1 - 1 = i by omega, getD_eq _ _ (by omega)] at h; exact h
    · obtain ⟨i, hi, rfl⟩ := List.getElem_of_mem hx
      have := h2 i hi
      unfold goodT at this
      rw [getD_eq _ _ hi, Bool.and_eq_true] at this
      exact this.1
    · have := h2 (i + 1) hi
      unfold goodT at this
      rw [getD_eq _ _ hi, Bool.and_eq_true, Bool.or_eq_true] at this
      rcases this.2 with h | h
      · simp at h
      · rw [show i + 1 - 1 = i by omega, getD_eq _ _ (by omega)] at h; exact h
  · rintro ⟨⟨h1, h2, h3⟩, ⟨h4, h5, h6⟩⟩
    refine ⟨fun i hi => ?_, fun i hi => ?_, h3, h6⟩
    · unfold goodI
      rw [getD_eq _ _ hi, h1 _ (List.getElem_mem hi), Bool.true_and, Bool.or_eq_true]
      by_cases h0 : i = 0
      · exact .inl (by simp [h0])
      · refine .inr ?_
        rw [getD_eq _ _ (by omega)]
        exact h2.lt (by omega) hi (by omega)
    · unfold goodT
      rw [getD_eq _ _ hi, h4 _ (List.getElem_mem hi), Bool.true_and, Bool.or_eq_true]
      by_cases h0 : i = 0
      · exact .inl (by simp [h0])
      · refine .inr ?_
        rw [getD_eq _ _ (by omega)]
        exact h5.lt (by omega) hi (by omega)

theorem bl_other (x y : List UInt8) (h : x ≠ y) : Op.bytesLess x y = !Op.bytesLess y x := by
  induction x generalizing y with
  | nil => cases y with
    | nil => exact absurd rfl h
    | cons b y => rfl
  | cons a x ih => cases y with
    | nil => rfl
    | cons b y =>
      simp only [Op.bytesLess]
      by_cases e : a = b
      · subst e
        have hxy : x ≠ y := fun e => h (by rw [e])
        simp [UInt8.lt_irrefl, ih y hxy]
      · have e' : ¬ b = a := fun h => e h.symm
        have : decide (a < b) = !decide (b < a) := by
          rcases UInt8.lt_or_lt_of_ne e with h1 | h1
          · have h2 : ¬ b < a := UInt8.lt_asymm h1
            simp [h1, h2]
          · have h2 : ¬ a < b := UInt8.lt_asymm h1
            simp [h1, h2]
        have eb : (a == b) = false := by simpa using e
        have eb' : (b == a) = false := by simpa using e'
        rw [this, eb, eb']
        simp
theorem less_other' (a b : ByteArray) (h : a ≠ b) : lessB a b = !lessB b a := bl_other _ _ (fun e => h (by
  cases a; cases b; simp at e; rw [e]))
theorem posI_neg {x : It} {xs : List It} {key : ByteArray} (h : lessB x.k key = false) : posI (x :: xs) key = 0 := by
  unfold posI; rw [List.takeWhile_cons_of_neg (by simpa using h)]; rfl
theorem posI_pos {x : It} {xs : List It} {key : ByteArray} (h : lessB x.k key = true) : posI (x :: xs) key = posI xs key + 1 := by
  unfold posI; rw [List.takeWhile_cons_of_pos (p := fun (y : It) => lessB y.k key) h]; rfl
theorem posI_spec (xs : List It) (key : ByteArray) : (∀ j (hj : j < xs.length), j < posI xs key → lessB xs[j].k key = true) ∧ (∀ h : posI xs key < xs.length, lessB xs[posI xs key].k key = false) := by
  induction xs with
  | nil => exact ⟨fun j hj => by simp at hj, fun h => by simp at h⟩
  | cons x xs ih =>
    cases h : lessB x.k key
    · have h0 : posI (x :: xs) key = 0 := posI_neg h
      refine ⟨fun j hj hp => by omega, fun hl => ?_⟩
      have : (x :: xs)[posI (x :: xs) key] = x := by
        have : (x :: xs)[posI (x :: xs) key]? = some x := by rw [h0]; rfl
        rw [List.getElem?_eq_getElem hl] at this
        exact Option.some.inj this
      rw [this]; exact h
    · have h0 : posI (x :: xs) key = posI xs key + 1 := posI_pos h
      refine ⟨fun j hj hp => ?_, fun hl => ?_⟩
      · cases j with
        | zero => exact h
        | succ j => exact ih.1 j (by simpa using hj) (by omega)
      · have hl' : posI xs key < xs.length := by rw [h0] at hl; simpa using hl
        have : (x :: xs)[posI (x :: xs) key] = xs[posI xs key] := by
          have : (x :: xs)[posI (x :: xs) key]? = some xs[posI xs key] := by rw [h0, List.getElem?_cons_succ, List.getElem?_eq_getElem hl']
          rw [List.getElem?_eq_getElem hl] at this
          exact Option.some.inj this
        rw [this]; exact ih.2 hl'
/-- Where a name stands in rows that ascend. -/
theorem ascI_at {xs : List It} (h : Asc It.k xs) {i : Nat} (hi : i < xs.length) : itemAt xs xs[i].k = i :=
  itemAt_found hi rfl (fun j hj e => by have := h.uniq (by omega) hi e; omega)
theorem itemAt_hit {xs : List It} {key : ByteArray} (h : 0 ≤ itemAt xs key) : ∃ (i : Nat) (hi : i < xs.length), itemAt xs key = i ∧ xs[i].k = key := by
  unfold itemAt at h ⊢
  cases e : xs.findIdx? (fun x => decide (x.k = key)) with
  | none => rw [e] at h; simp at h
  | some i =>
    obtain ⟨hi, h1, _⟩ := List.findIdx?_eq_some_iff_getElem.1 e
    exact ⟨i, hi, rfl, by simpa using h1⟩
theorem itemAt_miss {xs : List It} {key : ByteArray} (h : ¬ 0 ≤ itemAt xs key) : itemAt xs key = -1 ∧ ∀ i (hi : i < xs.length), xs[i].k ≠ key := by
  unfold itemAt at h ⊢
  cases e : xs.findIdx? (fun x => decide (x.k = key)) with
  | none =>
    refine ⟨rfl, fun i hi hk => ?_⟩
    have := (List.findIdx?_eq_none_iff.1 e) xs[i] (List.getElem_mem hi)
    simp [hk] at this
  | some i => rw [e] at h; simp at h
/-- What is put stands where it belongs. -/
theorem putI_form (xs : List It) (x : It) : ∃ (p q : Nat), p ≤ xs.length ∧ putI xs x = xs.take p ++ x :: xs.drop q ∧ (∀ j (hj : j < xs.length), j < p → lessB xs[j].k x.k = true) ∧ p = posI xs x.k ∧
    ((q = p + 1 ∧ ∃ h : p < xs.length, xs[p].k = x.k) ∨ (q = p ∧ ∀ h : p < xs.length, lessB xs[p].k x.k = false ∧ xs[p].k ≠ x.k)) := by
  have hs := posI_spec xs x.k
  have hp := posI_le xs x.k
  unfold putI
  by_cases h : posI xs x.k < xs.length
  · by_cases he : xs[posI xs x.k].k = x.k
    · exact ⟨_, posI xs x.k + 1, hp, by rw [if_pos (by rw [List.getElem?_eq_getElem h]; simp [he])], hs.1, rfl, .inl ⟨rfl, h, he⟩⟩
    · exact ⟨_, posI xs x.k, hp, by rw [if_neg (by rw [List.getElem?_eq_getElem h]; simpa using he)], hs.1, rfl, .inr ⟨rfl, fun h => ⟨hs.2 h, he⟩⟩⟩
  · exact ⟨_, posI xs x.k, hp, by rw [if_neg (by rw [List.getElem?_eq_none (by omega)]; simp)], hs.1, rfl, .inr ⟨rfl, fun h' => absurd h' h⟩⟩
theorem putI_at {xs : List It} {x : It} (h : Asc It.k (putI xs x)) : ∃ (i : Nat) (hi : i < (putI xs x).length), itemAt (putI xs x) x.k = i ∧ (putI xs x)[i] = x := by
  obtain ⟨p, q, hp, hf, _, _, _⟩ := putI_form xs x
  have hi : p < (putI xs x).length := by rw [hf]; simp; omega
  have hx : (putI xs x)[p] = x := by
    have : (putI xs x)[p]? = some x := by rw [hf, List.getElem?_append_right (by rw [List.length_take]; omega)]; simp [Nat.min_eq_left hp]
    rw [List.getElem?_eq_getElem hi] at this
    exact Option.some.inj this
  refine ⟨p, hi, ?_, hx⟩
  have := ascI_at h hi
  rw [hx] at this
  exact this
theorem putI_mem_iff {xs : List It} {x : It} (h : ∀ y ∈ xs, y.k ≠ x.k) (a : It) : a ∈ putI xs x ↔ a ∈ xs ∨ a = x := by
  obtain ⟨p, q, hp, hf, _, _, hq⟩ := putI_form xs x
  rw [hf]
  rcases hq with ⟨_, hl, he⟩ | ⟨hq, _⟩
  · exact absurd he (h _ (List.getElem_mem hl))
  · rw [hq]
    conv => rhs; rw [← List.take_append_drop p xs]
    simp only [List.mem_append, List.mem_cons]
    constructor
    · rintro (h | h | h)
      · exact .inl (.inl h)
      · exact .inr h
      · exact .inl (.inr h)
    · rintro ((h | h) | h)
      · exact .inl h
      · exact .inr (.inr h)
      · exact .inr (.inl h)
/-- What is put into rows that ascend leaves them so. -/
theorem putI_asc {xs : List It} (h : Asc It.k xs) (x : It) : Asc It.k (putI xs x) := by
  obtain ⟨p, q, hp, hf, hl, _, hq⟩ := putI_form xs x
  rw [hf]
  have hd : ∀ a ∈ xs.drop q, lessB x.k a.k = true := by
    intro a ha
    obtain ⟨j, hj, rfl⟩ := List.getElem_of_mem ha
    rw [List.getElem_drop]
    rw [List.length_drop] at hj
    rcases hq with ⟨rfl, h1, he⟩ | ⟨rfl, hn⟩
    · rw [← he]; exact h.lt h1 (by omega) (by omega)
    · have h1 : q < xs.length := by omega
      obtain ⟨n1, n2⟩ := hn h1
      have key : lessB x.k xs[q].k = true := by
        have := less_other' xs[q].k x.k n2
        rw [n1] at this
        cases e : lessB x.k xs[q].k
        · rw [e] at this; cases this
        · rfl
      by_cases h0 : j = 0
      · subst h0; exact key
      · exact lb_trans key (h.lt h1 (by omega) (by omega))
  have ht : ∀ a ∈ xs.take p, lessB a.k x.k = true := by
    intro a ha
    obtain ⟨j, hj, rfl⟩ := List.getElem_of_mem ha
    rw [List.getElem_take]
    rw [List.length_take] at hj
    exact hl j (by omega) (by omega)
  unfold Asc
  rw [List.pairwise_append]
  refine ⟨h.sublist (List.take_sublist _ _), List.pairwise_cons.2 ⟨hd, h.sublist (List.drop_sublist _ _)⟩, fun a ha b hb => ?_⟩
  rcases List.mem_cons.1 hb with rfl | hb
  · exact ht a ha
  · exact lb_trans (ht a ha) (hd b hb)

theorem posT_neg {x : Tk} {xs : List Tk} {key : ByteArray} (h : lessB x.c key = false) : posT (x :: xs) key = 0 := by
  unfold posT; rw [List.takeWhile_cons_of_neg (by simpa using h)]; rfl
theorem posT_pos {x : Tk} {xs : List Tk} {key : ByteArray} (h : lessB x.c key = true) : posT (x :: xs) key = posT xs key + 1 := by
  unfold posT; rw [List.takeWhile_cons_of_pos (p := fun (y : Tk) => lessB y.c key) h]; rfl
theorem posT_spec (xs : List Tk) (key : ByteArray) : (∀ j (hj : j < xs.length), j < posT xs key → lessB xs[j].c key = true) ∧ (∀ h : posT xs key < xs.length, lessB xs[posT xs key].c key = false) := by
  induction xs with
  | nil => exact ⟨fun j hj => by simp at hj, fun h => by simp at h⟩
  | cons x xs ih =>
    cases h : lessB x.c key
    · have h0 : posT (x :: xs) key = 0 := posT_neg h
      refine ⟨fun j hj hp => by omega, fun hl => ?_⟩
      have : (x :: xs)[posT (x :: xs) key] = x := by
        have : (x :: xs)[posT (x :: xs) key]? = some x := by rw [h0]; rfl
        rw [List.getElem?_eq_getElem hl] at this
        exact Option.some.inj this
      rw [this]; exact h
    · have h0 : posT (x :: xs) key = posT xs key + 1 := posT_pos h
      refine ⟨fun j hj hp => ?_, fun hl => ?_⟩
      · cases j with
        | zero => exact h
        | succ j => exact ih.1 j (by simpa using hj) (by omega)
      · have hl' : posT xs key < xs.length := by rw [h0] at hl; simpa using hl
        have : (x :: xs)[posT (x :: xs) key] = xs[posT xs key] := by
          have : (x :: xs)[posT (x :: xs) key]? = some xs[posT xs key] := by rw [h0, List.getElem?_cons_succ, List.getElem?_eq_getElem hl']
          rw [List.getElem?_eq_getElem hl] at this
          exact Option.some.inj this
        rw [this]; exact ih.2 hl'
/-- Where a name stands in rows that ascend. -/
theorem ascT_at {xs : List Tk} (h : Asc Tk.c xs) {i : Nat} (hi : i < xs.length) : talkAt xs xs[i].c = i :=
  talkAt_found hi rfl (fun j hj e => by have := h.uniq (by omega) hi e; omega)
theorem talkAt_hit {xs : List Tk} {key : ByteArray} (h : 0 ≤ talkAt xs key) : ∃ (i : Nat) (hi : i < xs.length), talkAt xs key = i ∧ xs[i].c = key := by
  unfold talkAt at h ⊢
  cases e : xs.findIdx? (fun x => decide (x.c = key)) with
  | none => rw [e] at h; simp at h
  | some i =>
    obtain ⟨hi, h1, _⟩ := List.findIdx?_eq_some_iff_getElem.1 e
    exact ⟨i, hi, rfl, by simpa using h1⟩
theorem talkAt_miss {xs : List Tk} {key : ByteArray} (h : ¬ 0 ≤ talkAt xs key) : talkAt xs key = -1 ∧ ∀ i (hi : i < xs.length), xs[i].c ≠ key := by
  unfold talkAt at h ⊢
  cases e : xs.findIdx? (fun x => decide (x.c = key)) with
  | none =>
    refine ⟨rfl, fun i hi hk => ?_⟩
    have := (List.findIdx?_eq_none_iff.1 e) xs[i] (List.getElem_mem hi)
    simp [hk] at this
  | some i => rw [e] at h; simp at h
/-- What is put stands where it belongs. -/
theorem putT_form (xs : List Tk) (x : Tk) : ∃ (p q : Nat), p ≤ xs.length ∧ putT xs x = xs.take p ++ x :: xs.drop q ∧ (∀ j (hj : j < xs.length), j < p → lessB xs[j].c x.c = true) ∧ p = posT xs x.c ∧
    ((q = p + 1 ∧ ∃ h : p < xs.length, xs[p].c = x.c) ∨ (q = p ∧ ∀ h : p < xs.length, lessB xs[p].c x.c = false ∧ xs[p].c ≠ x.c)) := by
  have hs := posT_spec xs x.c
  have hp := posT_le xs x.c
  unfold putT
  by_cases h : posT xs x.c < xs.length
  · by_cases he : xs[posT xs x.c].c = x.c
    · exact ⟨_, posT xs x.c + 1, hp, by rw [if_pos (by rw [List.getElem?_eq_getElem h]; simp [he])], hs.1, rfl, .inl ⟨rfl, h, he⟩⟩
    · exact ⟨_, posT xs x.c, hp, by rw [if_neg (by rw [List.getElem?_eq_getElem h]; simpa using he)], hs.1, rfl, .inr ⟨rfl, fun h => ⟨hs.2 h, he⟩⟩⟩
  · exact ⟨_, posT xs x.c, hp, by rw [if_neg (by rw [List.getElem?_eq_none (by omega)]; simp)], hs.1, rfl, .inr ⟨rfl, fun h' => absurd h' h⟩⟩
theorem putT_at {xs : List Tk} {x : Tk} (h : Asc Tk.c (putT xs x)) : ∃ (i : Nat) (hi : i < (putT xs x).length), talkAt (putT xs x) x.c = i ∧ (putT xs x)[i] = x := by
  obtain ⟨p, q, hp, hf, _, _, _⟩ := putT_form xs x
  have hi : p < (putT xs x).length := by rw [hf]; simp; omega
  have hx : (putT xs x)[p] = x := by
    have : (putT xs x)[p]? = some x := by rw [hf, List.getElem?_append_right (by rw [List.length_take]; omega)]; simp [Nat.min_eq_left hp]
    rw [List.getElem?_eq_getElem hi] at this
    exact Option.some.inj this
  refine ⟨p, hi, ?_, hx⟩
  have := ascT_at h hi
  rw [hx] at this
  exact this
theorem putT_mem_iff {xs : List Tk} {x : Tk} (h : ∀ y ∈ xs, y.c ≠ x.c) (a : Tk) : a ∈ putT xs x ↔ a ∈ xs ∨ a = x := by
  obtain ⟨p, q, hp, hf, _, _, hq⟩ := putT_form xs x
  rw [hf]
  rcases hq with ⟨_, hl, he⟩ | ⟨hq, _⟩
  · exact absurd he (h _ (List.getElem_mem hl))
  · rw [hq]
    conv => rhs; rw [← List.take_append_drop p xs]
    simp only [List.mem_append, List.mem_cons]
    constructor
    · rintro (h | h | h)
      · exact .inl (.inl h)
      · exact .inr h
      · exact .inl (.inr h)
    · rintro ((h | h) | h)
      · exact .inl h
      · exact .inr (.inr h)
      · exact .inr (.inl h)
/-- What is put into rows that ascend leaves them so. -/
theorem putT_asc {xs : List Tk} (h : Asc Tk.c xs) (x : Tk) : Asc Tk.c (putT xs x) := by
  obtain ⟨p, q, hp, hf, hl, _, hq⟩ := putT_form xs x
  rw [hf]
  have hd : ∀ a ∈ xs.drop q, lessB x.c a.c = true := by
    intro a ha
    obtain ⟨j, hj, rfl⟩ := List.getElem_of_mem ha
    rw [List.getElem_drop]
    rw [List.length_drop] at hj
    rcases hq with ⟨rfl, h1, he⟩ | ⟨rfl, hn⟩
    · rw [← he]; exact h.lt h1 (by omega) (by omega)
    · have h1 : q < xs.length := by omega
      obtain ⟨n1, n2⟩ := hn h1
      have key : lessB x.c xs[q].c = true := by
        have := less_other' xs[q].c x.c n2
        rw [n1] at this
        cases e : lessB x.c xs[q].c
        · rw [e] at this; cases this
        · rfl
      by_cases h0 : j = 0
      · subst h0; exact key
      · exact lb_trans key (h.lt h1 (by omega) (by omega))
  have ht : ∀ a ∈ xs.take p, lessB a.c x.c = true := by
    intro a ha
    obtain ⟨j, hj, rfl⟩ := List.getElem_of_mem ha
    rw [List.getElem_take]
    rw [List.length_take] at hj
    exact hl j (by omega) (by omega)
  unfold Asc
  rw [List.pairwise_append]
  refine ⟨h.sublist (List.take_sublist _ _), List.pairwise_cons.2 ⟨hd, h.sublist (List.drop_sublist _ _)⟩, fun a ha b hb => ?_⟩
  rcases List.mem_cons.1 hb with rfl | hb
  · exact ht a ha
  · exact lb_trans (ht a ha) (hd b hb)
end Go.Proofs.YtdpjdjkfedcojaaGreat
