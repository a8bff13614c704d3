/- A stream that is received piece by piece, as data: what is offered, what is taken. Condition: none. -/
import Derived.Test.YtdpjdjkfedcojaaGreatFmtA
namespace Go.Proofs.YtdpjdjkfedcojaaGreat
open Go.RowKit
set_option linter.unusedVariables false
set_option linter.unusedSimpArgs false

structure Tkr where
  of : Int
  nx : Int
  ch : Int
  b : ByteArray
/-- Who has taken nothing yet. -/
def tkN : Tkr := ⟨0, 1, (hashN [] : Nat), ⟨#[]⟩⟩
def tkrOk (t : Tkr) : Bool :=
  if t.of = 0 then decide (t.nx = 1) && (decide (t.ch = (hashN [] : Nat)) && decide (t.b = ⟨#[]⟩))
  else inB t.of 1 600 && (inB t.nx 2 (t.of + 1) && (inB t.ch 0 4294967295 && inB t.b.size (t.nx - 1) (200 * (t.nx - 1))))
/-- What is answered to a text that is offered. -/
def offerS (t : Tkr) (s : ByteArray) : Tkr × Int :=
  if tkrOk t = false then (t, 4)
  else if (getP s).2 = false then (t, 4)
  else if 0 < t.of ∧ ¬ t.of = (getP s).1.of then (t, 4)
  else if (getP s).1.no = t.nx ∧ ¬ (getP s).1.ch = (linkN t.ch (getP s).1.b : Nat) then (t, 4)
  else if (getP s).1.no < t.nx then (t, 2)
  else if t.nx < (getP s).1.no then (t, 3)
  else (⟨(getP s).1.of, t.nx + 1, (getP s).1.ch, t.b ++ (getP s).1.b⟩, if (getP s).1.no = (getP s).1.of then 1 else 0)
/-- What has been taken whole. -/
def takenS (t : Tkr) : St × Bool :=
  if tkrOk t = false then (⟨[], []⟩, false) else if t.of = 0 then (⟨[], []⟩, false) else if ¬ t.nx = t.of + 1 then (⟨[], []⟩, false)
  else ((decS t.b).1, decide (0 < (decS t.b).2))
theorem tkr_new_ok : tkrOk tkN = true := by unfold tkrOk tkN; simp
theorem tkr_new {t : Tkr} (h : tkrOk t = true) (h0 : t.of = 0) : t = tkN := by
  obtain ⟨o, n, c, b⟩ := t
  unfold tkrOk at h
  dsimp only at h h0
  rw [if_pos h0] at h
  simp only [Bool.and_eq_true, decide_eq_true_eq] at h
  obtain ⟨h1, h2, h3⟩ := h
  subst h0 h1 h2 h3
  rfl
theorem tkr_in {t : Tkr} (h : tkrOk t = true) (h0 : ¬ t.of = 0) : (1 ≤ t.of ∧ t.of ≤ 600) ∧ (2 ≤ t.nx ∧ t.nx ≤ t.of + 1) ∧ (0 ≤ t.ch ∧ t.ch ≤ 4294967295) ∧ (t.nx - 1 ≤ t.b.size ∧ (t.b.size : Int) ≤ 200 * (t.nx - 1)) := by
  unfold tkrOk at h
  rw [if_neg h0] at h
  simp only [Bool.and_eq_true] at h
  exact ⟨inB_true h.1, inB_true h.2.1, inB_true h.2.2.1, inB_true h.2.2.2⟩
theorem tkr_mk {o n c : Int} {b : ByteArray} (h1 : 1 ≤ o ∧ o ≤ 600) (h2 : 2 ≤ n ∧ n ≤ o + 1) (h3 : 0 ≤ c ∧ c ≤ 4294967295) (h4 : n - 1 ≤ b.size ∧ (b.size : Int) ≤ 200 * (n - 1)) : tkrOk ⟨o, n, c, b⟩ = true := by
  unfold tkrOk
  dsimp only
  rw [if_neg (by omega)]
  have t1 : inB o 1 600 = true := by unfold inB; simp; omega
  have t2 : inB n 2 (o + 1) = true := by unfold inB; simp; omega
  have t3 : inB c 0 4294967295 = true := by unfold inB; simp; omega
  have t4 : inB b.size (n - 1) (200 * (n - 1)) = true := by unfold inB; simp; omega
  rw [t1, t2, t3, t4]
  rfl
section
variable {t : Tkr} {s : ByteArray}
theorem offer_bad (h : (offerS t s).2 = 4 ∨ (offerS t s).2 = 2 ∨ (offerS t s).2 = 3) : (offerS t s).1 = t := by
  unfold offerS at h ⊢
  split
  · rfl
  · split
    · rfl
    · split
      · rfl
      · split
        · rfl
        · split
          · rfl
          · split
            · rfl
            · rename_i h1 h2 h3 h4 h5 h6
              rw [if_neg h1, if_neg h2, if_neg h3, if_neg h4, if_neg h5, if_neg h6] at h
              dsimp only at h
              split at h <;> omega
/-- A piece that is taken: it is the next one. -/
theorem offer_in (h : (offerS t s).2 = 0 ∨ (offerS t s).2 = 1) : tkrOk t = true ∧ (getP s).2 = true ∧ (t.of = 0 ∨ t.of = (getP s).1.of) ∧ (getP s).1.no = t.nx ∧ (getP s).1.ch = (linkN t.ch (getP s).1.b : Nat) ∧
    offerS t s = (⟨(getP s).1.of, t.nx + 1, (getP s).1.ch, t.b ++ (getP s).1.b⟩, if (getP s).1.no = (getP s).1.of then 1 else 0) := by
  have hq := h
  unfold offerS at h ⊢
  split
  · rename_i h1; rw [if_pos h1] at h; dsimp only at h; omega
  · rename_i h1
    rw [if_neg h1] at h
    split
    · rename_i h2; rw [if_pos h2] at h; dsimp only at h; omega
    · rename_i h2
      rw [if_neg h2] at h
      split
      · rename_i h3; rw [if_pos h3] at h; dsimp only at h; omega
      · rename_i h3
        rw [if_neg h3] at h
        split
        · rename_i h4; rw [if_pos h4] at h; dsimp only at h; omega
        · rename_i h4
          rw [if_neg h4] at h
          split
          · rename_i h5; rw [if_pos h5] at h; dsimp only at h; omega
          · rename_i h5
            rw [if_neg h5] at h
            split
            · rename_i h6; rw [if_pos h6] at h; dsimp only at h; omega
            · rename_i h6
              have e : (getP s).1.no = t.nx := by omega
              have h1' : tkrOk t = true := by simpa using h1
              refine ⟨h1', by simpa using h2, ?_, e, Classical.byContradiction fun q => h4 ⟨e, q⟩, rfl⟩
              by_cases h0 : t.of = 0
              · exact .inl h0
              · have := tkr_in h1' h0
                exact .inr (Classical.byContradiction fun q => h3 ⟨by omega, q⟩)
theorem offer_taken (h : (offerS t s).2 = 0 ∨ (offerS t s).2 = 1) : tkrOk (offerS t s).1 = true ∧ (offerS t s).1.nx = t.nx + 1 ∧ ((offerS t s).2 = 1 ↔ (offerS t s).1.nx = (offerS t s).1.of + 1) ∧ (offerS (offerS t s).1 s).2 = 2 := by
  obtain ⟨h1, h2, h3, h4, h5, h6⟩ := offer_in h
  have hp := (pc_put h2).2
  obtain ⟨p1, p2, p3, p4⟩ := pc_in hp
  have hok : tkrOk (offerS t s).1 = true := by
    rw [h6]
    refine tkr_mk p1 (by omega) p4 ?_
    rw [ByteArray.size_append]
    by_cases h0 : t.of = 0
    · have e := tkr_new h1 h0
      have e1 : t.nx = 1 := by rw [e]; rfl
      have e2 : t.b.size = 0 := by rw [e]; rfl
      omega
    · have := tkr_in h1 h0
      omega
  refine ⟨hok, by rw [h6], ?_, ?_⟩
  · rw [h6]
    dsimp only
    split <;> omega
  · have e1 : (offerS t s).1.of = (getP s).1.of := by rw [h6]
    have e2 : (offerS t s).1.nx = t.nx + 1 := by rw [h6]
    obtain ⟨u, hu⟩ : ∃ u, u = (offerS t s).1 := ⟨_, rfl⟩
    rw [← hu] at hok e1 e2 ⊢
    unfold offerS
    rw [if_neg (by rw [hok]; decide), if_neg (by rw [h2]; decide), if_neg (fun q => q.2 e1), if_neg (fun q => by have := q.1; omega), if_pos (by omega)]
theorem taken_yes (h : (takenS t).2 = true) : t.nx = t.of + 1 ∧ takenS t = ((decS t.b).1, true) ∧ ¬ (decS t.b).2 = 0 ∧ 0 < (decS t.b).2 := by
  have hq := h
  unfold takenS at h ⊢
  split at h
  · cases h
  · rename_i h1
    split at h
    · cases h
    · rename_i h2
      split at h
      · cases h
      · rename_i h3
        rw [if_neg h1, if_neg h2, if_neg h3]
        have h4 : 0 < (decS t.b).2 := by simpa using h
        refine ⟨Classical.byContradiction h3, by rw [decide_eq_true h4], by omega, h4⟩
end
section
variable {s : ByteArray} {n : Nat}
/-- Who has taken the first j pieces of a cut text. -/
def tkAt (s : ByteArray) (n j : Nat) : Tkr := if j = 0 then tkN else ⟨(manyN s n : Nat), (j : Int) + 1, (chainN s n j : Nat), partsTo s n j⟩
theorem at_nx (s : ByteArray) (n j : Nat) : (tkAt s n j).nx = (j : Int) + 1 := by
  unfold tkAt
  split
  · rename_i h; subst h; rfl
  · rfl
theorem at_ch (s : ByteArray) (n j : Nat) : (tkAt s n j).ch = (chainN s n j : Nat) := by
  unfold tkAt
  split
  · rename_i h; subst h; rfl
  · rfl
theorem at_b (s : ByteArray) (n j : Nat) : (tkAt s n j).b = partsTo s n j := by
  unfold tkAt
  split
  · rename_i h; subst h; rfl
  · rfl
theorem parts_size (hn : 0 < n) (hn2 : n ≤ 200) : ∀ j, j ≤ manyN s n → j ≤ (partsTo s n j).size ∧ (partsTo s n j).size ≤ 200 * j
  | 0, _ => ⟨Nat.le_refl _, Nat.le_refl _⟩
  | j + 1, h => by
    have h1 := parts_size hn hn2 j (by omega)
    have h2 := part_size (s := s) hn (show j < manyN s n by omega)
    rw [partsTo, ByteArray.size_append]
    omega
theorem at_ok (hn : 0 < n) (hn2 : n ≤ 200) (hm : manyN s n ≤ 600) {j : Nat} (hj : j ≤ manyN s n) : tkrOk (tkAt s n j) = true := by
  unfold tkAt
  split
  · exact tkr_new_ok
  · have h1 := parts_size (s := s) hn hn2 j hj
    have h2 := chain_lt s n j
    exact tkr_mk (by omega) (by omega) (by omega) (by omega)
/-- A piece of the stream is offered. -/
theorem offer_at (hn : 0 < n) (hn2 : n ≤ 200) (hm : manyN s n ≤ 600) {i j : Nat} (hi : i < manyN s n) (hj : j ≤ manyN s n) :
    offerS (tkAt s n j) (pcB (pieceN s n i)) = if i < j then (tkAt s n j, 2) else if j < i then (tkAt s n j, 3) else (tkAt s n (j + 1), if i + 1 = manyN s n then 1 else 0) := by
  have hp := piece_is hn hn2 hm hi
  have e1 : (getP (pcB (pieceN s n i))).1 = pieceN s n i := by rw [hp]
  have e2 : (getP (pcB (pieceN s n i))).2 = true := by rw [hp]
  have hx := at_nx s n j
  have hc := at_ch s n j
  have hb := at_b s n j
  have ho : (tkAt s n j).of = 0 ∨ (tkAt s n j).of = (manyN s n : Nat) := by
    unfold tkAt
    split
    · exact .inl rfl
    · exact .inr rfl
  unfold offerS
  rw [if_neg (by rw [at_ok hn hn2 hm hj]; decide), if_neg (by rw [e2]; decide), e1]
  have d1 : (pieceN s n i).of = (manyN s n : Nat) := rfl
  have d2 : (pieceN s n i).no = (i : Int) + 1 := rfl
  rw [if_neg (fun q => by rcases ho with h | h; omega; exact q.2 (by rw [h, d1]))]
  by_cases h1 : i < j
  · rw [if_pos h1, if_neg (fun q => by have := q.1; omega), if_pos (by omega)]
  · rw [if_neg h1]
    by_cases h2 : j < i
    · rw [if_pos h2, if_neg (fun q => by have := q.1; omega), if_neg (by omega), if_pos (by omega)]
    · obtain rfl : i = j := by omega
      rw [if_neg h2, if_neg (fun q => q.2 (by rw [hc]; rfl)), if_neg (by omega), if_neg (by omega), hx, hb]
      have e : tkAt s n (i + 1) = ⟨(manyN s n : Nat), ((i + 1 : Nat) : Int) + 1, (chainN s n (i + 1) : Nat), partsTo s n (i + 1)⟩ := by unfold tkAt; rw [if_neg (by omega)]
      rw [e, d1, d2]
      have e3 : (if (i : Int) + 1 = (manyN s n : Nat) then (1 : Int) else 0) = if i + 1 = manyN s n then 1 else 0 := by
        by_cases h : i + 1 = manyN s n
        · rw [if_pos h, if_pos (by omega)]
        · rw [if_neg h, if_neg (by omega)]
      rw [e3]
      rfl
theorem taken_all (hn : 0 < n) (hn2 : n ≤ 200) (hm : manyN s n ≤ 600) (hpos : 0 < manyN s n) : takenS (tkAt s n (manyN s n)) = ((decS s).1, decide (0 < (decS s).2)) := by
  have ho : (tkAt s n (manyN s n)).of = (manyN s n : Nat) := by unfold tkAt; rw [if_neg (by omega)]
  unfold takenS
  rw [if_neg (by rw [at_ok hn hn2 hm (Nat.le_refl _)]; decide), if_neg (by rw [ho]; omega), if_neg (by rw [at_nx, ho]; omega), at_b, parts_all hn]
/-- A piece of a stream with another number of pieces. -/
theorem offer_other {t : Tkr} {x : ByteArray} (h0 : 0 < t.of) (hp : (getP x).2 = true) (hne : ¬ t.of = (getP x).1.of) : offerS t x = (t, 4) := by
  unfold offerS
  split
  · rfl
  · rw [if_neg (by rw [hp]; decide), if_pos ⟨h0, hne⟩]
end
end Go.Proofs.YtdpjdjkfedcojaaGreat
