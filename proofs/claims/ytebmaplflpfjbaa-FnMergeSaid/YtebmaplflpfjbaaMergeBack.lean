/- States put together again: parts give the whole; nothing is lost. As data. Condition: none. -/
import Derived.Test.YtebmaplflpfjbaaMergeData
namespace Go.Proofs.Ytebmaplflpfjbaa
open Go.RowKit
set_option linter.unusedVariables false
set_option linter.unusedSimpArgs false

theorem itemAt_no {xs : List It} {key : ByteArray} (h : ∀ z ∈ xs, z.k ≠ key) : ¬ 0 ≤ itemAt xs key := by rw [itemAt_not h]; omega
theorem frI_join : ∀ {b a : List It}, Asc It.k a → b.Pairwise (fun x y => x.k ≠ y.k) → (∀ x ∈ a, ∀ y ∈ b, x.k ≠ y.k) → ∃ r, frI a b = some r ∧ Asc It.k r ∧ ∀ x, x ∈ r ↔ (x ∈ a ∨ x ∈ b) := by
  intro b
  induction b with
  | nil => intro a ha _ _; exact ⟨a, rfl, ha, fun x => by simp⟩
  | cons y ys ih =>
    intro a ha hb hd
    have hn : ∀ x ∈ a, x.k ≠ y.k := fun x hx => hd x hx y (by simp)
    obtain ⟨hb1, hb2⟩ := List.pairwise_cons.1 hb
    obtain ⟨r, h1, h2, h3⟩ := ih (a := putI a y) (putI_asc ha y) hb2 (fun x hx z hz => by
      rcases (putI_mem_iff hn x).1 hx with h | rfl
      · exact hd x h z (by simp [hz])
      · exact hb1 z hz)
    refine ⟨r, ?_, h2, fun x => ?_⟩
    · unfold frI; rw [if_neg (itemAt_no hn)]; exact h1
    · rw [h3, putI_mem_iff hn, List.mem_cons, or_assoc]
theorem known_mem {ts : List Tk} (h : Asc Tk.c ts) (x : Tk) : known ts x = true ↔ ∃ y ∈ ts, y.c = x.c ∧ x.q ≤ y.q := by
  unfold known
  rw [decide_eq_true_iff]
  constructor
  · rintro ⟨h1, h2⟩
    obtain ⟨i, hi, e1, e2⟩ := talkAt_hit h1
    rw [e1, Int.toNat_natCast, getD_eq _ _ hi] at h2
    exact ⟨_, List.getElem_mem hi, e2, h2⟩
  · rintro ⟨y, hy, e, hq⟩
    obtain ⟨i, hi, rfl⟩ := List.getElem_of_mem hy
    have h1 := ascT_at h hi
    rw [e] at h1
    rw [h1, Int.toNat_natCast, getD_eq _ _ hi]
    exact ⟨by omega, hq⟩
theorem known_not {ts : List Tk} {x : Tk} (h : Asc Tk.c ts) (hn : ∀ y ∈ ts, y.c ≠ x.c) : ¬ known ts x = true := fun hk => by
  obtain ⟨y, hy, e, _⟩ := (known_mem h x).1 hk
  exact hn y hy e
theorem frT1_asc {ts : List Tk} (h : Asc Tk.c ts) (x : Tk) : Asc Tk.c (frT1 ts x) := by
  unfold frT1
  split
  · exact h
  · exact putT_asc h x
theorem frT_asc : ∀ {xs ts : List Tk}, Asc Tk.c ts → Asc Tk.c (frT ts xs) := by
  intro xs
  induction xs with
  | nil => intro ts h; exact h
  | cons x xs ih => intro ts h; exact ih (frT1_asc h x)
theorem frT_join : ∀ {b a : List Tk}, Asc Tk.c a → b.Pairwise (fun x y => x.c ≠ y.c) → (∀ x ∈ a, ∀ y ∈ b, x.c ≠ y.c) → ∀ x, x ∈ frT a b ↔ (x ∈ a ∨ x ∈ b) := by
  intro b
  induction b with
  | nil => intro a ha _ _ x; simp [frT]
  | cons y ys ih =>
    intro a ha hb hd x
    have hn : ∀ x ∈ a, x.c ≠ y.c := fun x hx => hd x hx y (by simp)
    obtain ⟨hb1, hb2⟩ := List.pairwise_cons.1 hb
    have e : frT1 a y = putT a y := by unfold frT1; rw [if_neg (known_not ha hn)]
    unfold frT
    rw [e, ih (putT_asc ha y) hb2 (fun x hx z hz => by
      rcases (putT_mem_iff hn x).1 hx with h | rfl
      · exact hd x h z (by simp [hz])
      · exact hb1 z hz), putT_mem_iff hn, List.mem_cons, or_assoc]
theorem frT_first {xs : List Tk} (h : Asc Tk.c xs) : frT [] xs = xs :=
  Asc.ext (frT_asc List.Pairwise.nil) h (fun x => by rw [frT_join List.Pairwise.nil h.names (fun x hx => by cases hx)]; simp)
theorem frT_same : ∀ {xs ts : List Tk}, Asc Tk.c ts → (∀ x ∈ xs, x ∈ ts) → frT ts xs = ts := by
  intro xs
  induction xs with
  | nil => intro ts _ _; rfl
  | cons x xs ih =>
    intro ts h hx
    have e : frT1 ts x = ts := by unfold frT1; rw [if_pos ((known_mem h x).2 ⟨x, hx x (by simp), rfl, by omega⟩)]
    unfold frT
    rw [e]
    exact ih h (fun y hy => hx y (by simp [hy]))
theorem part_ok {s : St} (h : stOk s = true) (n : Int) (k : Nat) : stOk (partS s n k) = true := by
  obtain ⟨⟨h1, h2, h3⟩, h4⟩ := (stOk_iff s).1 h
  refine (stOk_iff _).2 ⟨⟨fun x hx => ?_, h2.filter _, ?_⟩, h4⟩
  · exact h1 x (List.mem_filter.1 hx).1
  · exact Nat.le_trans (List.length_filter_le _ _) h3
/-- The items of the first parts. -/
def headI (s : St) (n : Int) (k : Nat) : List It := s.items.filter (fun x => decide (partN x.k n < (k : Int)))
theorem headI_step {s : St} (h : stOk s = true) (n : Int) (k : Nat) : frI (headI s n k) (partS s n k).items = some (headI s n (k + 1)) := by
  obtain ⟨⟨_, hasc, _⟩, _⟩ := (stOk_iff s).1 h
  obtain ⟨r, h1, h2, h3⟩ := frI_join (a := headI s n k) (b := (partS s n k).items) (hasc.filter _) (Asc.names (hasc.filter _)) (fun x hx y hy e => by
    have h1 := (List.mem_filter.1 hx).2
    have h2 := (List.mem_filter.1 hy).2
    simp only [decide_eq_true_eq] at h1 h2
    rw [e] at h1; omega)
  rw [h1]
  congr 1
  refine Asc.ext h2 (hasc.filter _) (fun x => ?_)
  rw [h3]
  unfold headI
  show _ ∨ x ∈ s.items.filter _ ↔ _
  simp only [List.mem_filter, decide_eq_true_eq]
  constructor
  · rintro (⟨h1, h2⟩ | ⟨h1, h2⟩)
    · exact ⟨h1, by omega⟩
    · exact ⟨h1, by omega⟩
  · rintro ⟨h1, h2⟩
    by_cases e : partN x.k n = (k : Int)
    · exact .inr ⟨h1, e⟩
    · exact .inl ⟨h1, by omega⟩
theorem fr_parts {s : St} (h : stOk s = true) (n : Int) : ∀ (j k : Nat), fr ⟨headI s n k, s.talks⟩ ((List.range' k j).map (partS s n)) = some ⟨headI s n (k + j), s.talks⟩ := by
  obtain ⟨_, _, hasc, _⟩ := (stOk_iff s).1 h
  intro j
  induction j with
  | zero => intro k; rfl
  | succ j ih =>
    intro k
    rw [List.range'_succ, List.map_cons, fr_step (part_ok h n k) (headI_step h n k)]
    rw [show (partS s n k).talks = s.talks from rfl, frT_same hasc (fun x hx => hx), ih (k + 1), show k + 1 + j = k + (j + 1) by omega]
/-- Parts put together are the whole. -/
theorem merge_split {s : St} {n : Int} (h : stOk s = true) (hn : inB n 1 8 = true) : mergeS (splitS s n) = some s := by
  obtain ⟨⟨_, hai, _⟩, _, hasc, _⟩ := (stOk_iff s).1 h
  have hb := inB_true hn
  obtain ⟨N, hN⟩ : ∃ N : Nat, n.toNat = N + 1 := ⟨n.toNat - 1, by omega⟩
  have h0 : headI s n 0 = [] := by
    unfold headI
    rw [List.filter_eq_nil_iff]
    intro x _
    have := partN_lo x.k n
    simp; omega
  have hl : headI s n (N + 1) = s.items := by
    unfold headI
    rw [List.filter_eq_self]
    intro x _
    have := partN_hi (key := x.k) hn
    simp; omega
  have hf := headI_step h n 0
  rw [h0] at hf
  have e : fr ⟨[], []⟩ (splitS s n) = some s := by
    rw [splitS_ok h hn, hN, List.range_eq_range', List.range'_succ, List.map_cons, fr_step (part_ok h n 0) hf]
    rw [show (partS s n 0).talks = s.talks from rfl, frT_first hasc, show (0 : Nat) + 1 = 1 from rfl, fr_parts h n N 1, show 1 + N = N + 1 by omega, hl]
  unfold mergeS
  rw [e]
  simp only [okO]
  rw [if_pos h]
theorem putI_new {xs : List It} {x : It} (h : ¬ 0 ≤ itemAt xs x.k) : (putI xs x).length = xs.length + 1 := by
  obtain ⟨p, q, hp, hf, _, _, hq⟩ := putI_form xs x
  rcases hq with ⟨_, hl, he⟩ | ⟨rfl, _⟩
  · exact absurd he ((itemAt_miss h).2 p hl)
  · rw [hf]; simp; omega
theorem frI_len : ∀ {xs s r : List It}, frI s xs = some r → r.length = s.length + xs.length := by
  intro xs
  induction xs with
  | nil => intro s r h; simp only [frI, Option.some.injEq] at h; rw [h]; rfl
  | cons x xs ih =>
    intro s r h
    unfold frI at h
    split at h
    · cases h
    · rename_i hk
      rw [ih h, putI_new hk, List.length_cons]; omega
theorem known_step {ts : List Tk} (h : Asc Tk.c ts) {y : Tk} (hk : known ts y = true) (x : Tk) : known (frT1 ts x) y = true := by
  unfold frT1
  by_cases hx : known ts x = true
  · rw [if_pos hx]; exact hk
  · rw [if_neg hx]
    obtain ⟨z, hz, e, hq⟩ := (known_mem h y).1 hk
    rw [known_mem (putT_asc h x)]
    by_cases hc : z.c = x.c
    · refine ⟨x, (putT_mem_all h x).2 (.inr rfl), by rw [← hc, e], ?_⟩
      by_cases hqq : x.q ≤ z.q
      · exact absurd ((known_mem h x).2 ⟨z, hz, hc, hqq⟩) hx
      · omega
    · exact ⟨z, (putT_mem_all h z).2 (.inl ⟨hz, hc⟩), e, hq⟩
theorem known_here {ts : List Tk} (h : Asc Tk.c ts) (x : Tk) : known (frT1 ts x) x = true := by
  unfold frT1
  by_cases hx : known ts x = true
  · rw [if_pos hx]; exact hx
  · rw [if_neg hx, known_mem (putT_asc h x)]
    exact ⟨x, (putT_mem_all h x).2 (.inr rfl), rfl, by omega⟩
theorem known_more : ∀ {xs ts : List Tk}, Asc Tk.c ts → (∀ y, known ts y = true → known (frT ts xs) y = true) ∧ ∀ y ∈ xs, known (frT ts xs) y = true := by
  intro xs
  induction xs with
  | nil => intro ts h; exact ⟨fun y hy => hy, fun y hy => by cases hy⟩
  | cons x xs ih =>
    intro ts h
    obtain ⟨h1, h2⟩ := ih (frT1_asc h x)
    refine ⟨fun y hy => h1 y (known_step h hy x), fun y hy => ?_⟩
    rcases List.mem_cons.1 hy with rfl | hy
    · exact h1 y (known_here h y)
    · exact h2 y hy
def countI : List St → Nat
  | [] => 0
  | x :: xs => x.items.length + countI xs
/-- Nothing is lost: as many items as all have; of each talk this one or a later one. -/
theorem fr_all : ∀ {l : List St} {s r : St}, Asc Tk.c s.talks → fr s l = some r → r.items.length = s.items.length + countI l ∧ (∀ y, known s.talks y = true → known r.talks y = true) ∧ ∀ x ∈ l, ∀ y ∈ x.talks, known r.talks y = true := by
  intro l
  induction l with
  | nil => intro s r _ h; simp only [fr, Option.some.injEq] at h; rw [← h]; exact ⟨rfl, fun y hy => hy, fun x hx => by cases hx⟩
  | cons x xs ih =>
    intro s r ha h
    unfold fr at h
    split at h
    · cases e : frI s.items x.items with
      | none => rw [e] at h; cases h
      | some is =>
        rw [e] at h
        obtain ⟨h1, h2, h3⟩ := ih (s := ⟨is, frT s.talks x.talks⟩) (frT_asc ha) h
        have hk := known_more (xs := x.talks) ha
        refine ⟨?_, fun y hy => h2 y (hk.1 y hy), fun z hz y hy => ?_⟩
        · rw [h1, show (⟨is, frT s.talks x.talks⟩ : St).items = is from rfl, frI_len e]; simp only [countI]; omega
        · rcases List.mem_cons.1 hz with rfl | hz
          · exact h2 y (hk.2 y hy)
          · exact h3 z hz y hy
    · cases h
theorem merge_all {l : List St} {r : St} (h : mergeS l = some r) : stOk r = true ∧ r.items.length = countI l ∧ ∀ x ∈ l, ∀ y ∈ x.talks, known r.talks y = true := by
  unfold mergeS at h
  cases e : fr ⟨[], []⟩ l with
  | none => rw [e] at h; cases h
  | some r' =>
    rw [e] at h
    simp only [okO] at h
    split at h
    · rename_i hok
      obtain rfl := Option.some.inj h
      obtain ⟨h1, _, h3⟩ := fr_all (s := ⟨[], []⟩) List.Pairwise.nil e
      exact ⟨hok, by rw [h1]; simp, h3⟩
    · cases h
end Go.Proofs.Ytebmaplflpfjbaa
