/- Plain facts: lines joined again are the text; words with blanks behind them are those words. Condition: none. -/
import Derived.Test.YtebmaplflpfjbaaDoorBaseA
namespace Go.Proofs.YtebmaplflpfjbaaDoor
open Go.RowKit

theorem snoc_ind {α : Type} {P : List α → Prop} (h0 : P []) (hs : ∀ l x, P l → P (l ++ [x])) (l : List α) : P l := by
  rw [← List.reverse_reverse l]
  induction l.reverse with
  | nil => exact h0
  | cons x l ih => rw [List.reverse_cons]; exact hs _ _ ih
def withSep (c : UInt8) (ps : List ByteArray) : ByteArray := ps.foldl (fun acc x => acc ++ x ++ ⟨#[c]⟩) ⟨#[]⟩
theorem withSep_snoc (c : UInt8) (ps : List ByteArray) (x : ByteArray) : withSep c (ps ++ [x]) = withSep c ps ++ x ++ ⟨#[c]⟩ := by
  unfold withSep; rw [List.foldl_append]; rfl
/-- The lines joined, as the law's loop joins them. -/
def joinTo (xs : List ByteArray) : Nat → ByteArray
  | 0 => ⟨#[]⟩
  | k + 1 => (if 0 < k then joinTo xs k ++ ⟨#[10]⟩ else joinTo xs k) ++ xs.getD k ⟨#[]⟩
theorem bytes_ext {a b : ByteArray} (h : a.data.toList = b.data.toList) : a = b := by
  apply ByteArray.ext; exact Array.toList_inj.mp h
theorem bytes_append (a b : ByteArray) : (a ++ b).data.toList = a.data.toList ++ b.data.toList := by simp
theorem nil_append (a : ByteArray) : (⟨#[]⟩ : ByteArray) ++ a = a := bytes_ext (by simp)
theorem append_nil' (a : ByteArray) : a ++ (⟨#[]⟩ : ByteArray) = a := bytes_ext (by simp)
theorem append_assoc' (a b c : ByteArray) : a ++ b ++ c = a ++ (b ++ c) := bytes_ext (by simp)
theorem join_form (xs : List ByteArray) (k : Nat) (hk : k < xs.length) : joinTo xs (k + 1) = withSep 10 (xs.take k) ++ xs.getD k ⟨#[]⟩ := by
  induction k with
  | zero => simp [joinTo, withSep]
  | succ k ih =>
    rw [joinTo, if_pos (by omega), ih (by omega), List.take_succ_eq_append_getElem (by omega), withSep_snoc]
    congr 1
    rw [List.getD_eq_getElem?_getD, List.getElem?_eq_getElem (by omega)]; rfl
theorem extract_join (s : ByteArray) (a b c : Nat) (h1 : a ≤ b) (h2 : b ≤ c) : s.extract a b ++ s.extract b c = s.extract a c := by
  apply bytes_ext
  rw [bytes_append, Lib.extract_data, Lib.extract_data, Lib.extract_data, show c - a = (b - a) + (c - b) by omega, List.take_add, List.drop_drop, show a + (b - a) = b by omega]
theorem extract_one (s : ByteArray) (k : Nat) (h : k < s.size) : s.extract k (k + 1) = ⟨#[s[k]]⟩ := by
  apply bytes_ext
  rw [Lib.extract_data, show k + 1 - k = 1 by omega, List.drop_eq_getElem_cons (by simpa using h)]
  rfl
theorem isNl_is {c : UInt8} (h : isNl c = true) : c = 10 := by simpa [isNl] using h
theorem cut_join (s : ByteArray) (k : Nat) (hk : k ≤ s.size) : withSep 10 (cutAt isNl s k).1 = s.extract 0 (cutAt isNl s k).2 := by
  induction k with
  | zero => apply bytes_ext; simp [cutAt, withSep]
  | succ k ih =>
    have ih := ih (by omega)
    have hle := cut_le isNl s k
    by_cases hs : isNl s[k] = true
    · rw [cut_yes (by omega) hs]
      simp only
      rw [withSep_snoc, ih, extract_join s 0 _ k (by omega) hle, ← isNl_is hs, ← extract_one s k (by omega), extract_join s 0 k (k + 1) (by omega) (by omega)]
    · rw [cut_no (by omega) (by simpa using hs)]; exact ih
theorem extract_all (s : ByteArray) : s.extract 0 s.size = s := by
  apply bytes_ext; rw [Lib.extract_data]; simp; exact List.take_of_length_le (by simp)
theorem join_lines (s : ByteArray) : joinTo (linesOf s) (linesOf s).length = s := by
  unfold linesOf
  by_cases h : s.size = 0
  · rw [if_pos h]; apply bytes_ext
    have : s.data.toList = [] := List.eq_nil_of_length_eq_zero (by simpa using h)
    rw [this]; rfl
  · rw [if_neg h]
    have hl : (pieces isNl s).length = (cutAt isNl s s.size).1.length + 1 := by simp [pieces]
    rw [hl, join_form _ _ (by omega)]
    have h1 : (pieces isNl s).take (cutAt isNl s s.size).1.length = (cutAt isNl s s.size).1 := by simp [pieces]
    have h2 : (pieces isNl s).getD (cutAt isNl s s.size).1.length ⟨#[]⟩ = s.extract (cutAt isNl s s.size).2 s.size := by simp [pieces]
    rw [h1, h2, cut_join s s.size (Nat.le_refl _), extract_join s 0 _ _ (by omega) (cut_le _ _ _), extract_all]
theorem join_size (xs : List ByteArray) (K k : Nat) (h : ∀ x ∈ xs, x.size ≤ K) (hk : k ≤ xs.length) : (joinTo xs k).size ≤ k * (K + 1) := by
  induction k with
  | zero => simp only [joinTo]; exact Nat.zero_le _
  | succ k ih =>
    have ih := ih (by omega)
    have hx : (xs.getD k ⟨#[]⟩).size ≤ K := by
      rw [List.getD_eq_getElem?_getD, List.getElem?_eq_getElem (by omega)]; exact h _ (List.getElem_mem _)
    have hs : (⟨#[10]⟩ : ByteArray).size = 1 := rfl
    rw [joinTo, ByteArray.size_append, Nat.succ_mul]
    split
    · rw [ByteArray.size_append]; omega
    · omega

/-! ## Words -/
def nb (x : ByteArray) : Prop := x.data.toList.all (fun c => !isBl c) = true
theorem cut_nb (s : ByteArray) (k : Nat) (hk : k ≤ s.size) : (∀ x ∈ (cutAt isBl s k).1, nb x) ∧ nb (s.extract (cutAt isBl s k).2 k) := by
  induction k with
  | zero => simp [cutAt, nb]
  | succ k ih =>
    obtain ⟨h1, h2⟩ := ih (by omega)
    have hle := cut_le isBl s k
    by_cases hs : isBl s[k] = true
    · rw [cut_yes (by omega) hs]
      refine ⟨fun x hx => ?_, ?_⟩
      · rcases List.mem_append.1 hx with h | h
        · exact h1 x h
        · rw [List.mem_singleton.1 h]; exact h2
      · unfold nb; rw [Lib.extract_data]; simp
    · have hs : isBl s[k] = false := by simpa using hs
      rw [cut_no (by omega) hs]
      refine ⟨h1, ?_⟩
      unfold nb at *
      rw [← extract_join s _ k (k + 1) hle (by omega), extract_one s k (by omega), bytes_append, List.all_append, h2]
      simp [hs]
theorem words_nb (s : ByteArray) : ∀ x ∈ wordsOf s, full x = true ∧ nb x := by
  intro x hx
  unfold wordsOf at hx
  obtain ⟨hx, hf⟩ := List.mem_filter.1 hx
  refine ⟨hf, ?_⟩
  obtain ⟨h1, h2⟩ := cut_nb s s.size (Nat.le_refl _)
  unfold pieces at hx
  rcases List.mem_append.1 hx with h | h
  · exact h1 x h
  · rw [List.mem_singleton.1 h]; exact h2
theorem at_list (s : ByteArray) (i : Nat) (h : i < s.size) : s[i] = s.data.toList[i]'(by simpa using h) := rfl
theorem cut_word (L A x t : ByteArray) (hL : L = A ++ (x ++ t)) (hx : nb x) (m : Nat) (hm : m ≤ x.size) : cutAt isBl L (A.size + m) = cutAt isBl L A.size := by
  induction m with
  | zero => rfl
  | succ m ih =>
    have hsz : L.size = A.size + (x.size + t.size) := by rw [hL, ByteArray.size_append, ByteArray.size_append]
    have hlt : A.size + m < L.size := by omega
    have hb : isBl L[A.size + m] = false := by
      rw [at_list L _ hlt]
      have : L.data.toList[A.size + m]'(by simpa using hlt) = x.data.toList[m]'(by simp; omega) := by
        have e : L.data.toList = A.data.toList ++ (x.data.toList ++ t.data.toList) := by rw [hL, bytes_append, bytes_append]
        simp only [e]
        rw [List.getElem_append_right (by simp)]
        simp only [Array.length_toList]
        rw [List.getElem_append_left (by simp; omega)]
        congr 1
        show A.size + m - A.data.size = m
        have : A.data.size = A.size := rfl
        omega
      rw [this]
      have := List.all_eq_true.1 hx _ (List.getElem_mem (l := x.data.toList) (n := m) (by simp; omega))
      simpa using this
    have := cut_no (sep := isBl) hlt hb
    rw [show A.size + (m + 1) = (A.size + m) + 1 by omega, this, ih (by omega)]
theorem extract_mid (A x t : ByteArray) : (A ++ (x ++ t)).extract A.size (A.size + x.size) = x := by
  apply bytes_ext
  rw [Lib.extract_data, bytes_append, bytes_append, show A.size + x.size - A.size = x.size by omega, List.drop_append_of_le_length (by simp)]
  have e1 : A.data.toList.drop A.size = [] := List.drop_of_length_le (by simp)
  rw [e1, List.nil_append, List.take_append_of_le_length (by simp)]
  exact List.take_of_length_le (by simp)
theorem words_prefix (ws : List ByteArray) (t : ByteArray) (h : ∀ x ∈ ws, full x = true ∧ nb x) :
    wordsAt (withSep 32 ws ++ t) (withSep 32 ws).size = ws ∧ (cutAt isBl (withSep 32 ws ++ t) (withSep 32 ws).size).2 = (withSep 32 ws).size := by
  revert h t
  refine snoc_ind (P := fun ws => ∀ t : ByteArray, (∀ x ∈ ws, full x = true ∧ nb x) → wordsAt (withSep 32 ws ++ t) (withSep 32 ws).size = ws ∧ (cutAt isBl (withSep 32 ws ++ t) (withSep 32 ws).size).2 = (withSep 32 ws).size) ?_ ?_ ws
  · intro t _
    exact ⟨wordsAt_zero _, rfl⟩
  · intro ws x ih t h
    obtain ⟨h1, h2⟩ := ih (x ++ (⟨#[32]⟩ ++ t)) (fun y hy => h y (List.mem_append_left _ hy))
    obtain ⟨hf, hn⟩ := h x (by simp)
    have hpos : 0 < x.size := of_decide_eq_true hf
    rw [withSep_snoc]
    generalize hA : withSep 32 ws = A at *
    have hL : A ++ x ++ (⟨#[32]⟩ : ByteArray) ++ t = A ++ (x ++ (⟨#[32]⟩ ++ t)) := by rw [append_assoc', append_assoc']
    have h32 : (⟨#[32]⟩ : ByteArray).size = 1 := rfl
    have hsz : (A ++ x ++ (⟨#[32]⟩ : ByteArray)).size = A.size + x.size + 1 := by rw [ByteArray.size_append, ByteArray.size_append, h32]
    rw [hL, hsz]
    have hcw := cut_word _ A x (⟨#[32]⟩ ++ t) rfl hn x.size (Nat.le_refl _)
    have hlt : A.size + x.size < (A ++ (x ++ (⟨#[32]⟩ ++ t))).size := by rw [ByteArray.size_append, ByteArray.size_append, ByteArray.size_append, h32]; omega
    have hbl : isBl (A ++ (x ++ (⟨#[32]⟩ ++ t)))[A.size + x.size] = true := by
      rw [at_list _ _ hlt]
      have e : (A ++ (x ++ (⟨#[32]⟩ ++ t))).data.toList = (A.data.toList ++ x.data.toList) ++ (32 :: t.data.toList) := by rw [bytes_append, bytes_append, bytes_append]; simp
      simp only [e]
      rw [List.getElem_append_right (by simp)]
      have : A.size + x.size - (A.data.toList ++ x.data.toList).length = 0 := by simp
      simp only [this]; rfl
    have hw := wordsAt_word _ A.size (A.size + x.size) (by omega) h2 hcw
    rw [h1, extract_mid] at hw
    exact ⟨by rw [wordsAt_blank _ _ hlt hbl]; exact hw, cut_blank _ _ hlt hbl⟩
theorem words_back (ws : List ByteArray) (h : ∀ x ∈ ws, full x = true ∧ nb x) : wordsOf (withSep 32 ws) = ws := by
  have := (words_prefix ws ⟨#[]⟩ h).1
  rw [append_nil'] at this
  rw [← wordsAt_end]; exact this
theorem withSep_size (c : UInt8) (ws : List ByteArray) (K : Nat) (h : ∀ x ∈ ws, x.size ≤ K) : (withSep c ws).size ≤ ws.length * (K + 1) := by
  revert h
  refine snoc_ind (P := fun ws => (∀ x ∈ ws, x.size ≤ K) → (withSep c ws).size ≤ ws.length * (K + 1)) ?_ ?_ ws
  · intro _; exact Nat.zero_le _
  · intro ws x ih h
    have := ih (fun y hy => h y (List.mem_append_left _ hy))
    have hx := h x (by simp)
    have h1 : (⟨#[c]⟩ : ByteArray).size = 1 := rfl
    rw [withSep_snoc, ByteArray.size_append, ByteArray.size_append, List.length_append, List.length_singleton, Nat.succ_mul]; omega
theorem extract_le (s : ByteArray) (a b : Nat) : (s.extract a b).size ≤ s.size := by rw [ByteArray.size_extract]; omega
theorem cut_sizes (sep : UInt8 → Bool) (s : ByteArray) (k : Nat) : ∀ x ∈ (cutAt sep s k).1, x.size ≤ s.size := by
  induction k with
  | zero => simp [cutAt]
  | succ k ih =>
    intro x hx
    simp only [cutAt] at hx
    split at hx
    · rcases List.mem_append.1 hx with h | h
      · exact ih x h
      · rw [List.mem_singleton.1 h]; exact extract_le _ _ _
    · exact ih x hx
theorem pieces_sizes (sep : UInt8 → Bool) (s : ByteArray) : ∀ x ∈ pieces sep s, x.size ≤ s.size := by
  intro x hx
  rcases List.mem_append.1 hx with h | h
  · exact cut_sizes _ _ _ x h
  · rw [List.mem_singleton.1 h]; exact extract_le _ _ _
theorem lines_sizes (s : ByteArray) : ∀ x ∈ linesOf s, x.size ≤ s.size := by
  unfold linesOf; split
  · simp
  · exact pieces_sizes _ _
theorem words_sizes (s : ByteArray) : ∀ x ∈ wordsOf s, x.size ≤ s.size := fun x hx => pieces_sizes _ _ x (List.mem_filter.1 hx).1
end Go.Proofs.YtebmaplflpfjbaaDoor
