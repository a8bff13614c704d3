/- Reading an operation's text, as data. Condition: none. -/
import Derived.Test.YtebmaplflpfjbaaDoorOpTextPlain
import Derived.Test.YtebmaplflpfjbaaDoorJoinPlain
import Derived.Test.YtebmaplflpfjbaaDoorReadPlain
namespace Go.Proofs.YtebmaplflpfjbaaDoor
open Go.RowKit
set_option linter.unusedVariables false

theorem words_last (ws : List ByteArray) (x : ByteArray) (h : ∀ y ∈ ws, full y = true ∧ nb y) (hf : full x = true) (hn : nb x) : wordsOf (withSep 32 ws ++ x) = ws ++ [x] := by
  obtain ⟨h1, h2⟩ := words_prefix ws (x ++ ⟨#[]⟩) h
  generalize hA : withSep 32 ws = A at *
  have hpos : 0 < x.size := of_decide_eq_true hf
  have hcw := cut_word (A ++ (x ++ ⟨#[]⟩)) A x ⟨#[]⟩ rfl hn x.size (Nat.le_refl _)
  have hsz : (A ++ (x ++ (⟨#[]⟩ : ByteArray))).size = A.size + x.size := by rw [append_nil', ByteArray.size_append]
  have hw := wordsAt_word _ A.size (A.size + x.size) (by omega) h2 hcw
  rw [h1, extract_mid] at hw
  have he := wordsAt_end (A ++ (x ++ ⟨#[]⟩))
  rw [hsz, hw, append_nil'] at he
  exact he.symm
theorem name_word {a : ByteArray} (h : nameOkB a.data.toList = true) : full a = true ∧ nb a := by
  unfold nameOkB at h
  rw [Bool.and_eq_true] at h
  have h1 := inB_true h.2
  have h2 : a.data.toList.length = a.size := by simp
  refine ⟨decide_eq_true (by omega), List.all_eq_true.2 fun c hc => ?_⟩
  have h3 := List.all_eq_true.1 h.1 c hc
  unfold nameByte at h3
  rw [Bool.or_eq_true] at h3
  have : 48 ≤ c.toNat := by
    rcases h3 with h3 | h3 <;> have := inB_true h3 <;> omega
  have h32 : (c == 32) = false := by simp only [beq_eq_false_iff_ne, ne_eq]; rintro rfl; simp at this
  have h9 : (c == 9) = false := by simp only [beq_eq_false_iff_ne, ne_eq]; rintro rfl; simp at this
  simp [isBl, h32, h9]
theorem word_word {a : ByteArray} (h : wordB a.data.toList = true) : full a = true ∧ nb a := by
  unfold wordB at h
  rw [Bool.and_eq_true] at h
  have h2 : a.data.toList.length = a.size := by simp
  have h1 := of_decide_eq_true h.2
  refine ⟨decide_eq_true (by omega), List.all_eq_true.2 fun c hc => ?_⟩
  have h3 := of_decide_eq_true (List.all_eq_true.1 h.1 c hc)
  have h32 : (c == 32) = false := by simp only [beq_eq_false_iff_ne, ne_eq]; rintro rfl; simp at h3
  have h9 : (c == 9) = false := by simp only [beq_eq_false_iff_ne, ne_eq]; rintro rfl; simp at h3
  simp [isBl, h32, h9]
theorem kw_word (n : Int) : full (kw n) = true ∧ nb (kw n) := by
  unfold kw
  split
  · exact ⟨by decide, by unfold nb; decide⟩
  · split
    · exact ⟨by decide, by unfold nb; decide⟩
    · exact ⟨by decide, by unfold nb; decide⟩
theorem dec_word (q : Int) (h : 1 ≤ q) : full (decS q) = true ∧ nb (decS q) := by
  obtain ⟨m, rfl⟩ := Int.eq_ofNat_of_zero_le (show 0 ≤ q by omega)
  have e : (decS (m : Int)).data.toList = Lib.decDigits m := by unfold decS; rw [itoa_pos]
  have hl : (decS (m : Int)).size = (Lib.decDigits m).length := by rw [← e]; simp
  refine ⟨decide_eq_true ?_, ?_⟩
  · rw [hl]; exact List.length_pos_iff.2 (dec_ne m)
  · unfold nb
    rw [e]
    refine List.all_eq_true.2 fun c hc => ?_
    obtain ⟨i, hi, rfl⟩ := List.getElem_of_mem hc
    obtain ⟨d, hd⟩ := Lib.digit_of_decFrom _ 0 m (decFrom_dec m) i (Lib.decDigits m)[i] (by simp [hi])
    have h3 := Lib.digitVal_eq hd
    have h32 : ((Lib.decDigits m)[i] == 32) = false := by
      simp only [beq_eq_false_iff_ne, ne_eq]; intro h; rw [h] at h3; simp at h3
    have h9 : ((Lib.decDigits m)[i] == 9) = false := by
      simp only [beq_eq_false_iff_ne, ne_eq]; intro h; rw [h] at h3; simp at h3
    simp [isBl, h32, h9]
theorem head_form (x : Rq) : opHead x = withSep 32 [x.c, decS x.q, kw x.n] ++ x.k := by
  apply bext
  simp [opHead, withSep]
theorem head_form5 (x : Rq) : opHead x ++ ⟨#[32]⟩ ++ x.v = withSep 32 [x.c, decS x.q, kw x.n, x.k] ++ x.v := by
  apply bext
  simp [opHead, withSep]
/-- The words of an operation's text. -/
theorem op_words (z : Rq) (h : 0 < (opText z).size) : rqOk z = true ∧ wordsOf (opText z) = [z.c, decS z.q, kw z.n, z.k] ++ (if z.n = 1 then [z.v] else []) ∧ (z.n ≠ 1 → z.v = ⟨#[]⟩) := by
  cases hok : rqOk z
  · rw [opText_bad hok] at h; exact absurd h (by decide)
  · obtain ⟨h1, h2, h3, h4, h5, h6⟩ := rqOk_parts hok
    have w1 := name_word h2
    have w2 := dec_word z.q h4.1
    have w3 := kw_word z.n
    have w4 := name_word h3
    refine ⟨rfl, ?_, fun hn => h6.resolve_left hn⟩
    by_cases hn : z.n = 1
    · cases hw : wordB z.v.data.toList
      · rw [opText_none hok hn hw] at h; exact absurd h (by decide)
      · rw [opText_word hok hn hw, head_form5, if_pos hn]
        have w5 := word_word hw
        rw [words_last _ _ (by simp only [List.mem_cons, List.not_mem_nil, or_false]; rintro y (rfl | rfl | rfl | rfl) <;> assumption) w5.1 w5.2]
    · rw [opText_head hok hn, head_form, if_neg hn, List.append_nil]
      rw [words_last _ _ (by simp only [List.mem_cons, List.not_mem_nil, or_false]; rintro y (rfl | rfl | rfl) <;> assumption) w4.1 w4.2]
      rfl
/-- The kind of a word. -/
def kd (b : ByteArray) : Int := if b = ⟨#[103, 101, 116]⟩ then 0 else if b = ⟨#[112, 117, 116]⟩ then 1 else if b = ⟨#[100, 101, 108]⟩ then 2 else -1
theorem kd_kw (n : Int) (h : 0 ≤ n ∧ n ≤ 2) : kd (kw n) = n := by
  have : n = 0 ∨ n = 1 ∨ n = 2 := by omega
  rcases this with rfl | rfl | rfl
  · rfl
  · decide +kernel
  · decide +kernel
/-- The number of a word, as the model reads it. -/
def qs (b : ByteArray) : Int := if b = decS 1000000000 then 1000000000 else rd b.data.toList
theorem qs_dec (q : Int) (h0 : 1 ≤ q) (h1 : q ≤ 1000000000) : qs (decS q) = q := by
  unfold qs
  by_cases h : q = 1000000000
  · rw [if_pos (by rw [h]), h]
  · rw [if_neg ?_]
    · unfold decS; exact rd_itoa_in q (by omega) (by omega)
    · intro e
      apply h
      obtain ⟨m, rfl⟩ := Int.eq_ofNat_of_zero_le (show 0 ≤ q by omega)
      have e2 : Lib.decDigits m = Lib.decDigits 1000000000 := by
        have := congrArg (fun b : ByteArray => b.data.toList) e
        simp only [decS] at this
        rwa [itoa_pos, show (1000000000 : Int) = ((1000000000 : Nat) : Int) from rfl, itoa_pos] at this
      have := dec_inj e2
      omega
def wd (ws : List ByteArray) (i : Nat) : ByteArray := ws.getD i ⟨#[]⟩
/-- The operation of a row of words. -/
def rqW (ws : List ByteArray) (q : Int) : Rq := ⟨wd ws 0, q, kd (wd ws 2), wd ws 3, if 4 < ws.length then wd ws 4 else ⟨#[]⟩⟩
def roOk (s : ByteArray) : Bool := decide (4 ≤ (wordsOf s).length) && decide ((wordsOf s).length ≤ 5) && decide (opText (rqW (wordsOf s) (qs (wd (wordsOf s) 1))) = s)
/-- What is read of a text. -/
def roX (s : ByteArray) : Rq := if roOk s = true then rqW (wordsOf s) (qs (wd (wordsOf s) 1)) else ⟨⟨#[]⟩, 0, 0, ⟨#[]⟩, ⟨#[]⟩⟩
theorem wordsOf_nil : wordsOf ⟨#[]⟩ = [] := by
  unfold wordsOf pieces
  show ([] ++ [(⟨#[]⟩ : ByteArray).extract 0 0]).filter full = []
  simp [full]
theorem pos_of_words {s : ByteArray} (h : 4 ≤ (wordsOf s).length) : 0 < s.size := by
  rcases Nat.eq_zero_or_pos s.size with h0 | h0
  · have : s = ⟨#[]⟩ := ByteArray.ext (Array.eq_empty_of_size_eq_zero h0)
    rw [this, wordsOf_nil] at h
    simp at h
  · exact h0
/-- Whoever's text it is, is read. -/
theorem read_eq {s : ByteArray} {z : Rq} (hz : opText z = s) (h4 : 4 ≤ (wordsOf s).length) : (wordsOf s).length ≤ 5 ∧ rqOk z = true ∧ wd (wordsOf s) 1 = decS z.q ∧ rqW (wordsOf s) z.q = z := by
  obtain ⟨h1, h2, h3⟩ := op_words z (by rw [hz]; exact pos_of_words h4)
  rw [hz] at h2
  have hk := kd_kw z.n (rqOk_parts h1).1
  refine ⟨?_, h1, ?_, ?_⟩
  · rw [h2]; split <;> simp
  · rw [h2]; rfl
  · rw [h2]
    by_cases hn : z.n = 1
    · rw [if_pos hn]
      show (⟨z.c, z.q, kd (kw z.n), z.k, z.v⟩ : Rq) = z
      rw [hk]
    · rw [if_neg hn]
      show (⟨z.c, z.q, kd (kw z.n), z.k, ⟨#[]⟩⟩ : Rq) = z
      rw [hk, ← h3 hn]
theorem ro_yes {s : ByteArray} {z : Rq} (hz : opText z = s) (h4 : 4 ≤ (wordsOf s).length) : roOk s = true ∧ roX s = z := by
  obtain ⟨h5, hok, h1, hw⟩ := read_eq hz h4
  have hq := (rqOk_parts hok).2.2.2.1
  have e : rqW (wordsOf s) (qs (wd (wordsOf s) 1)) = z := by rw [h1, qs_dec z.q hq.1 hq.2]; exact hw
  have hr : roOk s = true := by
    unfold roOk
    rw [e]
    simp [h4, h5, hz]
  exact ⟨hr, by unfold roX; rw [if_pos hr, e]⟩
theorem ro_no {s : ByteArray} (h : ¬ 4 ≤ (wordsOf s).length) : roOk s = false := by unfold roOk; simp [h]
theorem atoi_q (q : Int) (h0 : 1 ≤ q) (h1 : q ≤ 1000000000) : Lib.atoiAll (decS q).data.toList = .ok q := by
  obtain ⟨m, rfl⟩ := Int.eq_ofNat_of_zero_le (show 0 ≤ q by omega)
  show Lib.atoiAll (Lib.itoa (m : Int)) = _
  rw [itoa_pos]
  by_cases h : m ≤ 999999999
  · exact atoi_dec m h
  · obtain rfl : m = 1000000000 := by omega
    decide +kernel
/-- What the program's way of reading comes to: the number that Atoi finds. -/
theorem ro_atoi {s : ByteArray} {v : Int} (ha : Lib.atoiAll (wd (wordsOf s) 1).data.toList = .ok v) (h4 : 4 ≤ (wordsOf s).length) : roOk s = decide (opText (rqW (wordsOf s) v) = s) ∧ (opText (rqW (wordsOf s) v) = s → roX s = rqW (wordsOf s) v) := by
  by_cases h : opText (rqW (wordsOf s) v) = s
  · obtain ⟨h1, h2⟩ := ro_yes h h4
    exact ⟨by rw [h1, decide_eq_true h], fun _ => h2⟩
  · refine ⟨?_, fun h' => absurd h' h⟩
    rw [decide_eq_false h]
    cases hr : roOk s
    · rfl
    · exfalso
      unfold roOk at hr
      simp only [Bool.and_eq_true, decide_eq_true_eq] at hr
      obtain ⟨h5, hok, h1, hw⟩ := read_eq hr.2 h4
      have hq := (rqOk_parts hok).2.2.2.1
      rw [h1, atoi_q _ hq.1 hq.2] at ha
      injection ha with ha
      apply h
      rw [← ha]
      exact hr.2
theorem ro_fail {s : ByteArray} (ha : ∀ v, Lib.atoiAll (wd (wordsOf s) 1).data.toList ≠ .ok v) (h4 : 4 ≤ (wordsOf s).length) : roOk s = false := by
  cases hr : roOk s
  · rfl
  · exfalso
    unfold roOk at hr
    simp only [Bool.and_eq_true, decide_eq_true_eq] at hr
    obtain ⟨h5, hok, h1, hw⟩ := read_eq hr.2 h4
    have hq := (rqOk_parts hok).2.2.2.1
    exact ha _ (by rw [h1]; exact atoi_q _ hq.1 hq.2)
end Go.Proofs.YtebmaplflpfjbaaDoor
