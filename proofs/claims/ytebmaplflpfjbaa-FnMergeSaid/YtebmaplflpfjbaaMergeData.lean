/- States put together, as data: as the model does it, as the program does it: the same. Condition: none. -/
import Derived.Test.YtebmaplflpfjbaaStFacts
import Derived.Test.YtebmaplflpfjbaaMapAdd
import Derived.Test.YtebmaplflpfjbaaMapKeep
import Derived.Test.YtebmaplflpfjbaaSplitData
namespace Go.Proofs.Ytebmaplflpfjbaa
open Go.RowKit
set_option linter.unusedVariables false
set_option linter.unusedSimpArgs false

/-- Whether there is a talk of this client which is not older. -/
def known (ts : List Tk) (x : Tk) : Bool := decide (0 ≤ talkAt ts x.c ∧ x.q ≤ (ts.getD (talkAt ts x.c).toNat default).q)
/-- The model's way: row by row, each time with a right state. -/
def spI (s : St) : List It → Option St
  | [] => some s
  | x :: xs => if chgB s (putSI s x) = true ∧ ¬ 0 ≤ itemAt s.items x.k then spI (putSI s x) xs else none
def spT (s : St) : List Tk → Option St
  | [] => some s
  | x :: xs => if known s.talks x = true then spT s xs else if chgB s (putST s x) = true then spT (putST s x) xs else none
def spM (s : St) : List St → Option St
  | [] => some s
  | x :: xs => match spI s x.items with
    | none => none
    | some s1 => match spT s1 x.talks with
      | none => none
      | some s2 => if stOk x = true then spM s2 xs else none
/-- The same where nothing is asked of the whole. -/
def frI (s : List It) : List It → Option (List It)
  | [] => some s
  | x :: xs => if 0 ≤ itemAt s x.k then none else frI (putI s x) xs
def frT1 (s : List Tk) (x : Tk) : List Tk := if known s x = true then s else putT s x
def frT (s : List Tk) : List Tk → List Tk
  | [] => s
  | x :: xs => frT (frT1 s x) xs
def fr (s : St) : List St → Option St
  | [] => some s
  | x :: xs => if stOk x = true then match frI s.items x.items with
    | none => none
    | some is => fr ⟨is, frT s.talks x.talks⟩ xs else none
def okO (o : Option St) : Option St := match o with
  | none => none
  | some r => if stOk r = true then some r else none
theorem okO_ok {r : St} (h : stOk r = true) : okO (some r) = some r := if_pos h
theorem okO_no {r : St} (h : stOk r = false) : okO (some r) = none := if_neg (by rw [h]; decide)
/-- What many states put together are. -/
def mergeS (l : List St) : Option St := okO (fr ⟨[], []⟩ l)

def Good (s : St) : Prop := ((∀ x ∈ s.items, itOk x = true) ∧ Asc It.k s.items) ∧ (∀ x ∈ s.talks, tkOk x = true) ∧ Asc Tk.c s.talks
theorem ok_good {s : St} (h : stOk s = true) : Good s := by
  obtain ⟨⟨a, b, _⟩, c, d, _⟩ := (stOk_iff s).1 h
  exact ⟨⟨a, b⟩, c, d⟩
theorem ok_len {s : St} (h : stOk s = true) : s.items.length ≤ 40 ∧ s.talks.length ≤ 20 := by
  obtain ⟨⟨_, _, a⟩, _, _, b⟩ := (stOk_iff s).1 h
  exact ⟨a, b⟩
theorem notok_more {s r : St} (hg : Good s) (h : stOk s = false) (hi : s.items.length ≤ r.items.length) (ht : s.talks.length ≤ r.talks.length) : stOk r = false := by
  cases e : stOk r with
  | false => rfl
  | true =>
    have hl := ok_len e
    have : stOk s = true := (stOk_iff s).2 ⟨⟨hg.1.1, hg.1.2, by omega⟩, hg.2.1, hg.2.2, by omega⟩
    rw [this] at h; cases h
theorem putI_more (xs : List It) (x : It) : xs.length ≤ (putI xs x).length := by
  have hp := posI_le xs x.k
  unfold putI
  simp only [List.length_append, List.length_cons, List.length_take, List.length_drop]
  split <;> omega
theorem putT_more (xs : List Tk) (x : Tk) : xs.length ≤ (putT xs x).length := by
  have hp := posT_le xs x.c
  unfold putT
  simp only [List.length_append, List.length_cons, List.length_take, List.length_drop]
  split <;> omega
theorem frI_more : ∀ {xs s r : List It}, frI s xs = some r → s.length ≤ r.length := by
  intro xs
  induction xs with
  | nil => intro s r h; simp only [frI, Option.some.injEq] at h; rw [h]; exact Nat.le_refl _
  | cons x xs ih =>
    intro s r h
    unfold frI at h
    split at h
    · cases h
    · exact Nat.le_trans (putI_more s x) (ih h)
theorem frT1_more (s : List Tk) (x : Tk) : s.length ≤ (frT1 s x).length := by
  unfold frT1
  split
  · exact Nat.le_refl _
  · exact putT_more s x
theorem frT_more : ∀ {xs s : List Tk}, s.length ≤ (frT s xs).length := by
  intro xs
  induction xs with
  | nil => intro s; exact Nat.le_refl _
  | cons x xs ih => intro s; exact Nat.le_trans (frT1_more s x) ih
theorem fr_more : ∀ {l : List St} {s r : St}, fr s l = some r → s.items.length ≤ r.items.length ∧ s.talks.length ≤ r.talks.length := by
  intro l
  induction l with
  | nil => intro s r h; simp only [fr, Option.some.injEq] at h; rw [h]; exact ⟨Nat.le_refl _, Nat.le_refl _⟩
  | cons x xs ih =>
    intro s r h
    unfold fr at h
    split at h
    · cases e : frI s.items x.items with
      | none => rw [e] at h; cases h
      | some is =>
        rw [e] at h
        have h1 := ih h
        exact ⟨Nat.le_trans (frI_more e) h1.1, Nat.le_trans frT_more h1.2⟩
    · cases h
theorem good_putI {s : St} {x : It} (h : Good s) (hx : itOk x = true) : Good (putSI s x) :=
  ⟨⟨fun y hy => (putI_mem hy).elim (h.1.1 y) (fun e => by rw [e]; exact hx), putI_asc h.1.2 x⟩, h.2⟩
theorem good_putT {s : St} {x : Tk} (h : Good s) (hx : tkOk x = true) : Good (putST s x) :=
  ⟨h.1, fun y hy => (putT_mem hy).elim (h.2.1 y) (fun e => by rw [e]; exact hx), putT_asc h.2.2 x⟩
theorem good_frI : ∀ {xs : List It} {s : St} {r : List It}, Good s → (∀ x ∈ xs, itOk x = true) → frI s.items xs = some r → Good ⟨r, s.talks⟩ := by
  intro xs
  induction xs with
  | nil => intro s r h _ e; simp only [frI, Option.some.injEq] at e; rw [← e]; exact h
  | cons x xs ih =>
    intro s r h hx e
    unfold frI at e
    split at e
    · cases e
    · exact ih (s := putSI s x) (good_putI h (hx x (by simp))) (fun y hy => hx y (by simp [hy])) e
theorem good_frT1 {s : St} {x : Tk} (h : Good s) (hx : tkOk x = true) : Good ⟨s.items, frT1 s.talks x⟩ := by
  unfold frT1
  split
  · exact h
  · exact good_putT h hx
theorem good_frT : ∀ {xs : List Tk} {s : St}, Good s → (∀ x ∈ xs, tkOk x = true) → Good ⟨s.items, frT s.talks xs⟩ := by
  intro xs
  induction xs with
  | nil => intro s h _; exact h
  | cons x xs ih =>
    intro s h hx
    exact ih (s := ⟨s.items, frT1 s.talks x⟩) (good_frT1 h (hx x (by simp))) (fun y hy => hx y (by simp [hy]))
theorem good_fr : ∀ {l : List St} {s r : St}, Good s → fr s l = some r → Good r := by
  intro l
  induction l with
  | nil => intro s r h e; simp only [fr, Option.some.injEq] at e; rw [← e]; exact h
  | cons x xs ih =>
    intro s r h e
    unfold fr at e
    split at e
    · rename_i hx
      cases e1 : frI s.items x.items with
      | none => rw [e1] at e; cases e
      | some is =>
        rw [e1] at e
        have hx := ok_good hx
        exact ih (good_frT (good_frI h hx.1.1 e1) hx.2.1) e
    · cases e
theorem spI_fr : ∀ {xs : List It} {s : St}, stOk s = true → (∀ x ∈ xs, itOk x = true) → spI s xs = okO ((frI s.items xs).map (fun r => ⟨r, s.talks⟩)) := by
  intro xs
  induction xs with
  | nil => intro s h _; simp only [spI, frI, okO, Option.map_some]; rw [if_pos h]
  | cons x xs ih =>
    intro s h hx
    unfold spI frI
    by_cases hk : 0 ≤ itemAt s.items x.k
    · rw [if_neg (by rintro ⟨_, h⟩; exact h hk), if_pos hk]; rfl
    · rw [if_neg hk]
      cases e : stOk (putSI s x) with
      | true =>
        rw [if_pos ⟨by unfold chgB; rw [h, e]; rfl, hk⟩]
        exact ih e (fun y hy => hx y (by simp [hy]))
      | false =>
        rw [if_neg (by unfold chgB; rw [h, e]; rintro ⟨h, _⟩; cases h)]
        cases e2 : frI (putI s.items x) xs with
        | none => rfl
        | some r =>
          have : stOk ⟨r, s.talks⟩ = false := notok_more (good_putI (ok_good h) (hx x (by simp))) e (frI_more e2) (Nat.le_refl _)
          simp only [okO, Option.map_some]
          rw [this]; rfl
theorem spT_fr : ∀ {xs : List Tk} {s : St}, stOk s = true → (∀ x ∈ xs, tkOk x = true) → spT s xs = okO (some ⟨s.items, frT s.talks xs⟩) := by
  intro xs
  induction xs with
  | nil => intro s h _; exact (okO_ok h).symm
  | cons x xs ih =>
    intro s h hx
    have hx' : ∀ y ∈ xs, tkOk y = true := fun y hy => hx y (by simp [hy])
    unfold spT frT frT1
    by_cases hk : known s.talks x = true
    · rw [if_pos hk, if_pos hk]
      exact ih h hx'
    · rw [if_neg hk, if_neg hk]
      cases e : stOk (putST s x) with
      | true =>
        rw [if_pos (by unfold chgB; rw [h, e]; rfl)]
        exact ih e hx'
      | false =>
        rw [if_neg (by unfold chgB; rw [h, e]; intro h; cases h)]
        have : stOk ⟨s.items, frT (putT s.talks x) xs⟩ = false := notok_more (good_putT (ok_good h) (hx x (by simp))) e (Nat.le_refl _) frT_more
        simp only [okO]
        rw [this]; rfl
/-- Both ways give the same. -/
theorem spM_fr : ∀ {l : List St} {s : St}, stOk s = true → spM s l = okO (fr s l) := by
  intro l
  induction l with
  | nil => intro s h; simp only [spM, fr, okO]; rw [if_pos h]
  | cons x xs ih =>
    intro s h
    cases hx : stOk x with
    | false =>
      unfold spM fr
      simp only [hx]
      cases spI s x.items with
      | none => rfl
      | some s1 => cases h2 : spT s1 x.talks <;> simp [h2, okO]
    | true =>
      have hg := ok_good hx
      unfold spM fr
      rw [if_pos hx, spI_fr h hg.1.1]
      cases e1 : frI s.items x.items with
      | none => rfl
      | some is =>
        have g1 : Good ⟨is, s.talks⟩ := good_frI (ok_good h) hg.1.1 e1
        have g2 : Good ⟨is, frT s.talks x.talks⟩ := good_frT (s := ⟨is, s.talks⟩) g1 hg.2.1
        have hlast : ∀ q : St, Good q → stOk q = false → q.items.length ≤ is.length → q.talks.length ≤ (frT s.talks x.talks).length → okO (fr ⟨is, frT s.talks x.talks⟩ xs) = none := by
          intro q gq hq h1 h2
          cases e3 : fr ⟨is, frT s.talks x.talks⟩ xs with
          | none => rfl
          | some r =>
            have hm := fr_more e3
            have : stOk r = false := notok_more gq hq (Nat.le_trans h1 hm.1) (Nat.le_trans h2 hm.2)
            simp only [okO]; rw [this]; rfl
        cases e2 : stOk ⟨is, s.talks⟩ with
        | false =>
          simp only [Option.map_some, okO, e2]
          exact (hlast _ g1 e2 (Nat.le_refl _) frT_more).symm
        | true =>
          simp only [Option.map_some, okO, e2, if_true]
          rw [spT_fr e2 hg.2.1]
          cases e3 : stOk ⟨is, frT s.talks x.talks⟩ with
          | false =>
            simp only [okO, e3]
            exact (hlast _ g2 e3 (Nat.le_refl _) (Nat.le_refl _)).symm
          | true =>
            simp only [okO, e3, if_true, hx]
            exact ih e3
theorem spM_merge (l : List St) : spM ⟨[], []⟩ l = mergeS l := spM_fr rfl

/-- Rows by name, and the same rows in order. -/
def RI (m : ByteArray → Option It) (s : List It) : Prop := Asc It.k s ∧ ∀ k x, m k = some x ↔ (x ∈ s ∧ x.k = k)
def RT (m : ByteArray → Option Tk) (s : List Tk) : Prop := Asc Tk.c s ∧ ∀ k x, m k = some x ↔ (x ∈ s ∧ x.c = k)
theorem RI.nil : RI (fun _ => none) [] := ⟨List.Pairwise.nil, fun k x => by simp⟩
theorem RT.nil : RT (fun _ => none) [] := ⟨List.Pairwise.nil, fun k x => by simp⟩
theorem RI.ext {m : ByteArray → Option It} {s zs : List It} (h : RI m s) (ha : Asc It.k zs) (hz : ∀ x, x ∈ zs ↔ m x.k = some x) : zs = s := Asc.ext ha h.1 (fun x => by rw [hz, h.2]; simp)
theorem RT.ext {m : ByteArray → Option Tk} {s zs : List Tk} (h : RT m s) (ha : Asc Tk.c zs) (hz : ∀ x, x ∈ zs ↔ m x.c = some x) : zs = s := Asc.ext ha h.1 (fun x => by rw [hz, h.2]; simp)
theorem RI.has {m : ByteArray → Option It} {s : List It} (h : RI m s) (k : ByteArray) : (m k).isSome = true ↔ 0 ≤ itemAt s k := by
  constructor
  · intro hs
    obtain ⟨x, hx⟩ := Option.isSome_iff_exists.1 hs
    obtain ⟨h1, h2⟩ := (h.2 k x).1 hx
    by_cases hk : 0 ≤ itemAt s k
    · exact hk
    · obtain ⟨i, hi, rfl⟩ := List.getElem_of_mem h1
      exact absurd h2 ((itemAt_miss hk).2 i hi)
  · intro hk
    obtain ⟨i, hi, _, e⟩ := itemAt_hit hk
    rw [(h.2 k s[i]).2 ⟨List.getElem_mem _, e⟩]; rfl
theorem RI.put {m : ByteArray → Option It} {s : List It} {x : It} (h : RI m s) (hk : ¬ 0 ≤ itemAt s x.k) : RI (upd m x.k (some x)) (putI s x) := by
  have hn : ∀ y ∈ s, y.k ≠ x.k := fun y hy => by
    obtain ⟨i, hi, rfl⟩ := List.getElem_of_mem hy
    exact (itemAt_miss hk).2 i hi
  refine ⟨putI_asc h.1 x, fun k y => ?_⟩
  rw [putI_mem_iff hn]
  by_cases e : k = x.k
  · subst e
    rw [upd_same]
    constructor
    · intro h; obtain rfl := Option.some.inj h; exact ⟨.inr rfl, rfl⟩
    · rintro ⟨h1 | rfl, h2⟩
      · exact absurd h2 (hn y h1)
      · rfl
  · rw [upd_other _ _ e, h.2]
    constructor
    · rintro ⟨h1, h2⟩; exact ⟨.inl h1, h2⟩
    · rintro ⟨h1 | rfl, h2⟩
      · exact ⟨h1, h2⟩
      · exact absurd h2.symm e
theorem addM_fr : ∀ {xs : List It} {m : ByteArray → Option It} {s : List It}, RI m s → (frI s xs = none → (addM m xs).1 = false) ∧ ∀ r, frI s xs = some r → (addM m xs).1 = true ∧ RI (addM m xs).2 r := by
  intro xs
  induction xs with
  | nil => intro m s h; exact ⟨(fun e => by cases e), fun r e => by simp only [frI, Option.some.injEq] at e; rw [← e]; exact ⟨rfl, h⟩⟩
  | cons x xs ih =>
    intro m s h
    unfold frI addM
    by_cases hk : 0 ≤ itemAt s x.k
    · rw [if_pos hk, if_pos ((h.has _).2 hk)]
      exact ⟨fun _ => rfl, fun r e => by cases e⟩
    · rw [if_neg hk, if_neg (fun e => hk ((h.has _).1 e))]
      exact ih (h.put hk)
theorem putT_mem_all {xs : List Tk} {x : Tk} (h : Asc Tk.c xs) (a : Tk) : a ∈ putT xs x ↔ (a ∈ xs ∧ a.c ≠ x.c) ∨ a = x := by
  obtain ⟨p, q, hp, hf, hl, _, hq⟩ := putT_form xs x
  rcases hq with ⟨rfl, hlt, he⟩ | ⟨rfl, hn⟩
  · have hm := cut_mem hlt
    have hc := cut_not h hlt
    rw [hf]
    constructor
    · intro ha
      rcases List.mem_append.1 ha with ha | ha
      · exact .inl ⟨List.mem_of_mem_take ha, by rw [← he]; exact hc a (List.mem_append.2 (.inl ha))⟩
      · rcases List.mem_cons.1 ha with ha | ha
        · exact .inr ha
        · exact .inl ⟨List.mem_of_mem_drop ha, by rw [← he]; exact hc a (List.mem_append.2 (.inr ha))⟩
    · rintro (⟨h1, h2⟩ | rfl)
      · rcases (hm a).1 h1 with h1 | rfl
        · rcases List.mem_append.1 h1 with h1 | h1
          · exact List.mem_append.2 (.inl h1)
          · exact List.mem_append.2 (.inr (List.mem_cons_of_mem _ h1))
        · exact absurd he h2
      · exact List.mem_append.2 (.inr (by simp))
  · have hno : ∀ y ∈ xs, y.c ≠ x.c := by
      intro y hy
      obtain ⟨j, hj, rfl⟩ := List.getElem_of_mem hy
      by_cases h1 : j < q
      · exact lb_ne (hl j hj h1)
      · intro e
        have hq : q < xs.length := by omega
        obtain ⟨n1, n2⟩ := hn hq
        by_cases h2 : j = q
        · subst h2; exact n2 e
        · have := h.lt hq hj (by omega)
          rw [e, n1] at this; cases this
    rw [putT_mem_iff hno]
    constructor
    · rintro (h1 | rfl)
      · exact .inl ⟨h1, hno a h1⟩
      · exact .inr rfl
    · rintro (⟨h1, _⟩ | rfl)
      · exact .inl h1
      · exact .inr rfl
theorem RT.putT {m : ByteArray → Option Tk} {s : List Tk} (h : RT m s) (x : Tk) : RT (upd m x.c (some x)) (putT s x) := by
  refine ⟨putT_asc h.1 x, fun k y => ?_⟩
  rw [putT_mem_all h.1]
  by_cases e : k = x.c
  · subst e
    rw [upd_same]
    constructor
    · intro h; obtain rfl := Option.some.inj h; exact ⟨.inr rfl, rfl⟩
    · rintro ⟨⟨h1, h2⟩ | rfl, h3⟩
      · exact absurd h3 h2
      · rfl
  · rw [upd_other _ _ e, h.2]
    constructor
    · rintro ⟨h1, h2⟩; exact ⟨.inl ⟨h1, by rw [h2]; exact e⟩, h2⟩
    · rintro ⟨⟨h1, _⟩ | rfl, h2⟩
      · exact ⟨h1, h2⟩
      · exact absurd h2.symm e
theorem known_iff {m : ByteArray → Option Tk} {s : List Tk} (h : RT m s) (x : Tk) : known s x = true ↔ ∃ y, m x.c = some y ∧ x.q ≤ y.q := by
  unfold known
  rw [decide_eq_true_iff]
  constructor
  · rintro ⟨h1, h2⟩
    obtain ⟨i, hi, e1, e2⟩ := talkAt_hit h1
    rw [e1, Int.toNat_natCast, getD_eq _ _ hi] at h2
    exact ⟨s[i], (h.2 _ _).2 ⟨List.getElem_mem _, e2⟩, h2⟩
  · rintro ⟨y, h1, h2⟩
    obtain ⟨h3, h4⟩ := (h.2 _ _).1 h1
    obtain ⟨i, hi, rfl⟩ := List.getElem_of_mem h3
    have := ascT_at h.1 hi
    rw [h4] at this
    rw [this, Int.toNat_natCast, getD_eq _ _ hi]
    exact ⟨by omega, h2⟩
theorem keep1_fr {m : ByteArray → Option Tk} {s : List Tk} (h : RT m s) (x : Tk) : RT (keep1 m x) (frT1 s x) := by
  unfold frT1
  by_cases hk : known s x = true
  · rw [if_pos hk]
    obtain ⟨y, h1, h2⟩ := (known_iff h x).1 hk
    rw [keep1_old h1 (by omega)]; exact h
  · rw [if_neg hk]
    cases e : m x.c with
    | none => rw [keep1_new e]; exact h.putT x
    | some y =>
      have : y.q < x.q := by
        by_cases hq : y.q < x.q
        · exact hq
        · exact absurd ((known_iff h x).2 ⟨y, e, by omega⟩) hk
      rw [keep1_more e this]; exact h.putT x
theorem keepM_fr : ∀ {xs : List Tk} {m : ByteArray → Option Tk} {s : List Tk}, RT m s → RT (keepM m xs) (frT s xs) := by
  intro xs
  induction xs with
  | nil => intro m s h; exact h
  | cons x xs ih => intro m s h; exact ih (keep1_fr h x)
theorem fr_bad {s x : St} {l : List St} (h : stOk x = false) : fr s (x :: l) = none := by unfold fr; rw [h]; rfl
theorem fr_twice {s x : St} {l : List St} (h : frI s.items x.items = none) : fr s (x :: l) = none := by
  unfold fr
  split
  · rw [h]
  · rfl
theorem fr_step {s x : St} {l : List St} {is : List It} (h : stOk x = true) (h2 : frI s.items x.items = some is) : fr s (x :: l) = fr ⟨is, frT s.talks x.talks⟩ l := by
  conv => lhs; unfold fr
  rw [if_pos h, h2]
end Go.Proofs.Ytebmaplflpfjbaa
