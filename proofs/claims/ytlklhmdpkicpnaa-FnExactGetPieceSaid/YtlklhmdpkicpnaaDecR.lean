/- The program's way of reading a format, as data: it goes on where something is missing, and still decides as the model. Condition: none. -/
import Derived.Test.YtlklhmdpkicpnaaReadRows
import Derived.Test.YtlklhmdpkicpnaaDecForm
import Derived.Test.YtlklhmdpkicpnaaFmtUp
namespace Go.Proofs.Ytlklhmdpkicpnaa
open Go.RowKit
set_option linter.unusedVariables false
set_option linter.unusedSimpArgs false

theorem drop_list (t : ByteArray) (n : Nat) : (t.extract n t.size).data.toList = t.data.toList.drop n := by
  rw [ByteArray.data_extract, Array.toList_extract, List.extract_eq_take_drop]
  exact List.take_of_length_le (by simp)
theorem text_lead {t s : ByteArray} {y : List UInt8} (h : t.data.toList = pt s ++ y) (hs : s.size ≤ 65535) : (getTextB t 0).1 = s ∧ (restT t).data.toList = y := by
  have hb := text_back (t := s) (s := t) (p := 0) ⟨[], y, by simpa using h, rfl⟩ hs
  rw [show ((0 : Nat) : Int) = 0 from rfl, Nat.zero_add] at hb
  refine ⟨by rw [hb], ?_⟩
  unfold restT
  rw [hb]
  show (t.extract (max ((pt s).length : Int) 0).toNat t.size).data.toList = y
  rw [show (max ((pt s).length : Int) 0).toNat = (pt s).length by omega, drop_list, h, List.drop_left]
theorem num_lead {t : ByteArray} {n k : Nat} {y : List UInt8} (h : t.data.toList = be8 n k ++ y) (hk : 1 ≤ k ∧ k ≤ 4) (hn : n < 256 ^ k) : getN t 0 k = n ∧ (restN t k).data.toList = y := by
  have hb := num_back (s := t) (p := 0) (n := n) (k := k) ⟨[], y, by simpa using h, rfl⟩ hk hn
  refine ⟨hb, ?_⟩
  have hl : t.size = k + y.length := by
    have := congrArg List.length h
    simpa [be8_len] using this
  unfold restN
  rw [show min k t.size = k by omega, drop_list, h, List.drop_left' (be8_len n k)]
theorem item_lead {t : ByteArray} {x : It} {y : List UInt8} (h : t.data.toList = encIt x ++ y) (hx : SmI x) : (itemR t).1 = x ∧ (itemR t).2.data.toList = y := by
  unfold SmI at hx
  unfold encIt at h
  rw [List.append_assoc] at h
  obtain ⟨a1, a2⟩ := text_lead h (by omega)
  obtain ⟨b1, b2⟩ := text_lead a2 (by omega)
  simp only [itemR]
  exact ⟨by rw [a1, b1], b2⟩
theorem talk_lead {t : ByteArray} {x : Tk} {y : List UInt8} (h : t.data.toList = encTk x ++ y) (hx : SmT x) : (talkR t).1 = x ∧ (talkR t).2.data.toList = y := by
  unfold SmT at hx
  unfold encTk at h
  rw [List.append_assoc, List.append_assoc] at h
  obtain ⟨a1, a2⟩ := text_lead h (by omega)
  obtain ⟨b1, b2⟩ := num_lead (k := 4) a2 (by omega) (by omega)
  obtain ⟨c1, c2⟩ := text_lead b2 (by omega)
  have hq : ((x.q.toNat : Nat) : Int) = x.q := by omega
  rw [hq, show ((4 : Nat) : Int) = 4 from rfl] at b1
  simp only [talkR]
  exact ⟨by rw [a1, b1, c1], c2⟩
theorem items_lead : ∀ {xs : List It} {t : ByteArray} {y : List UInt8}, t.data.toList = xs.flatMap encIt ++ y → (∀ x ∈ xs, SmI x) → (itemsR xs.length t).1 = xs ∧ (itemsR xs.length t).2.data.toList = y
  | [], t, y, h, _ => ⟨rfl, by simpa [itemsR] using h⟩
  | x :: xs, t, y, h, hx => by
    rw [List.flatMap_cons, List.append_assoc] at h
    obtain ⟨a1, a2⟩ := item_lead h (hx x (by simp))
    obtain ⟨b1, b2⟩ := items_lead a2 (fun z hz => hx z (by simp [hz]))
    simp only [List.length_cons, itemsR]
    exact ⟨by rw [a1, b1], b2⟩
theorem talks_lead : ∀ {xs : List Tk} {t : ByteArray} {y : List UInt8}, t.data.toList = xs.flatMap encTk ++ y → (∀ x ∈ xs, SmT x) → (talksR xs.length t).1 = xs ∧ (talksR xs.length t).2.data.toList = y
  | [], t, y, h, _ => ⟨rfl, by simpa [talksR] using h⟩
  | x :: xs, t, y, h, hx => by
    rw [List.flatMap_cons, List.append_assoc] at h
    obtain ⟨a1, a2⟩ := talk_lead h (hx x (by simp))
    obtain ⟨b1, b2⟩ := talks_lead a2 (fun z hz => hx z (by simp [hz]))
    simp only [List.length_cons, talksR]
    exact ⟨by rw [a1, b1], b2⟩
/-- What the program reads behind the first two bytes. -/
def itemsI (t : ByteArray) : List It × ByteArray := itemsR (cntR t 40) (restN t 2)
def talksI (t : ByteArray) : List Tk × ByteArray := talksR (cntR t 20) (restN t 2)
def rawR (t : ByteArray) (v : Int) : St := ⟨(itemsI (t.extract 2 t.size)).1, if 2 ≤ v then (talksI (itemsI (t.extract 2 t.size)).2).1 else []⟩
theorem raw_lead {t : ByteArray} {s : St} {v : Nat} {Z : List UInt8} (hv : v = 1 ∨ v = 2 ∨ v = 3) (hs : stOk s = true) (h : t.data.toList = bodyL v s ++ Z) : rawR t v = keptS s v := by
  obtain ⟨i1, i2, i3, i4⟩ := ok_smI hs
  obtain ⟨u, hu⟩ : ∃ u, u = t.extract 2 t.size := ⟨_, rfl⟩
  have h0 : u.data.toList = be8 s.items.length 2 ++ (s.items.flatMap encIt ++ ((if v = 1 then [] else be8 s.talks.length 2 ++ s.talks.flatMap encTk) ++ Z)) := by
    rw [hu, drop_list, h]
    unfold bodyL
    have hl : ([70] ++ be8 v 1 : List UInt8).length = 2 := by rw [List.length_append, be8_len]; rfl
    rw [← List.append_assoc [70], List.append_assoc, List.drop_left' hl]
    simp only [List.append_assoc]
  obtain ⟨a1, a2⟩ := num_lead (k := 2) h0 (by omega) (by omega)
  rw [show ((2 : Nat) : Int) = 2 from rfl] at a1
  obtain ⟨b1, b2⟩ := items_lead a2 i1
  have hc : cntR u 40 = s.items.length := by unfold cntR; rw [a1]; omega
  have e1 : (itemsI u).1 = s.items := by unfold itemsI; rw [hc, b1]
  unfold rawR
  rw [← hu, e1]
  unfold keptS
  by_cases hv1 : v = 1
  · subst hv1
    rw [if_neg (by decide)]; simp
  · rw [if_pos (by omega), if_neg (by omega)]
    rw [if_neg hv1, List.append_assoc] at b2
    have e2 : (itemsI u).2.data.toList = be8 s.talks.length 2 ++ (s.talks.flatMap encTk ++ Z) := by unfold itemsI; rw [hc, b2]
    obtain ⟨c1, c2⟩ := num_lead (k := 2) e2 (by omega) (by omega)
    rw [show ((2 : Nat) : Int) = 2 from rfl] at c1
    obtain ⟨d1, _⟩ := talks_lead c2 i2
    have hd : cntR (itemsI u).2 20 = s.talks.length := by unfold cntR; rw [c1]; omega
    have e3 : (talksI (itemsI u).2).1 = s.talks := by unfold talksI; rw [hd, d1]
    rw [e3]
theorem fmt_lead {s : St} {v : Nat} (hv : v = 1 ∨ v = 2 ∨ v = 3) (hs : stOk s = true) : ∃ Z, (fmtS s v).data.toList = bodyL v s ++ Z := by
  by_cases h3 : v = 3
  · subst h3
    rw [show ((3 : Nat) : Int) = 3 from rfl, fmtS_seal hs]
    unfold sealB
    exact ⟨(txt (leB (crcN (bodyB 3 s).data.toList))).data.toList, by simp [ByteArray.data_append, bodyB]⟩
  · rw [fmtS_low hs (by rcases hv with rfl | rfl | rfl <;> rfl) (by omega)]
    exact ⟨[], by simp [bodyB]⟩
theorem decR_yes {t : ByteArray} (hv : inB (getN t 1 1) 1 3 = true) (h : fmtS (rawR t (getN t 1 1)) (getN t 1 1) = t) : decS t = (rawR t (getN t 1 1), getN t 1 1) := by
  obtain ⟨v, hvv⟩ : ∃ v, v = getN t 1 1 := ⟨_, rfl⟩
  rw [← hvv] at h hv ⊢
  obtain ⟨X, hX⟩ : ∃ X, X = rawR t v := ⟨_, rfl⟩
  have hk : keptS X v = X := by
    unfold keptS
    split
    · rename_i h1
      rw [hX]; unfold rawR
      rw [if_neg (by omega)]
    · rfl
  rw [← hX] at h ⊢
  have hok : stOk X = true := by
    cases hr : stOk X with
    | true => rfl
    | false =>
      rw [fmtS_bad (.inl hr)] at h
      have h0 : v = -1 := by rw [hvv, ← h]; rfl
      rw [h0] at hv; cases hv
  have hd := dec_back hok hv
  rw [h, hk] at hd
  exact hd
theorem decR_no {t : ByteArray} (h : ¬ fmtS (rawR t (getN t 1 1)) (getN t 1 1) = t) : decS t = (⟨[], []⟩, 0) := by
  by_cases h0 : (decS t).2 ≠ 0
  · exfalso
    obtain ⟨hf, hok, hb⟩ := dec_fmt h0
    have hk := dec_kept t
    have hbb := inB_true hb
    obtain ⟨r, hr⟩ : ∃ r, r = (decS t).1 := ⟨_, rfl⟩
    obtain ⟨n, hn⟩ := Int.eq_ofNat_of_zero_le (show 0 ≤ (decS t).2 by omega)
    rw [← hr, hn] at hf hk
    rw [← hr] at hok
    have h123 : n = 1 ∨ n = 2 ∨ n = 3 := by omega
    obtain ⟨Z, hZ⟩ := fmt_lead h123 hok
    rw [hf] at hZ
    have hver := (raw_back (t := t) h123 hok ⟨[], Z, by simpa using hZ, rfl⟩).1
    have hraw := raw_lead h123 hok hZ
    rw [hk] at hraw
    rw [hver, hraw] at h
    exact h hf
  · have h1 := dec_zero h0
    have h2 : (decS t).2 = 0 := Decidable.not_not.1 h0
    exact Prod.ext h1 h2
theorem rawR_fits {t : ByteArray} (v : Int) (ht : t.size ≤ 1099511627776) : Fits (rawR t v) := by
  have hu : (t.extract 2 t.size).size ≤ t.size := by rw [ByteArray.size_extract]; omega
  obtain ⟨u, he⟩ : ∃ u, u = t.extract 2 t.size := ⟨_, rfl⟩
  rw [← he] at hu
  have h1 := itemsR_le (cntR u 40) (restN u 2)
  have h2 := restN_size u 2
  have h3 := talksR_le (cntR (itemsI u).2 20) (restN (itemsI u).2 2)
  have h4 := restN_size (itemsI u).2 2
  have h5 : (itemsI u).2.size ≤ (restN u 2).size := h1.2.1
  unfold rawR
  rw [← he]
  refine ⟨fun x hx => ?_, fun x hx => ?_⟩
  · have := h1.2.2 x hx
    unfold maxLen; omega
  · split at hx
    · have := h3.2.2 x hx
      unfold maxLen; omega
    · cases hx
end Go.Proofs.Ytlklhmdpkicpnaa
