/- The three formats, as data: what is written is read back; what is read was written so. Condition: none. -/
import Derived.Test.YtlklhmdpkicpnaaFmtPlain
import Derived.Test.YtlklhmdpkicpnaaNumA
namespace Go.Proofs.Ytlklhmdpkicpnaa
open Go.RowKit
set_option linter.unusedVariables false
set_option linter.unusedSimpArgs false

/-- The bytes of a format, without its seal. -/
def bodyL (v : Nat) (s : St) : List UInt8 := [70] ++ (be8 v 1 ++ (be8 s.items.length 2 ++ (s.items.flatMap encIt ++ (if v = 1 then [] else be8 s.talks.length 2 ++ s.talks.flatMap encTk))))
def bodyB (v : Nat) (s : St) : ByteArray := ⟨(bodyL v s).toArray⟩
/-- A state written down; nothing where it, or the version, is invalid. -/
def fmtS (s : St) (v : Int) : ByteArray := if stOk s = true ∧ inB v 1 3 = true then (if v = 3 then sealB (bodyB 3 s) else bodyB v.toNat s) else ⟨#[]⟩
theorem fmtS_bad {s : St} {v : Int} (h : stOk s = false ∨ inB v 1 3 = false) : fmtS s v = ⟨#[]⟩ := by
  unfold fmtS
  rw [if_neg]
  rintro ⟨h1, h2⟩
  rcases h with h | h
  · rw [h] at h1; cases h1
  · rw [h] at h2; cases h2
theorem fmtS_low {s : St} {v : Int} (h1 : stOk s = true) (h2 : inB v 1 3 = true) (h3 : v ≠ 3) : fmtS s v = bodyB v.toNat s := by unfold fmtS; rw [if_pos ⟨h1, h2⟩, if_neg h3]
theorem fmtS_seal {s : St} (h1 : stOk s = true) : fmtS s 3 = sealB (bodyB 3 s) := by unfold fmtS; rw [if_pos ⟨h1, rfl⟩, if_pos rfl]
/-- Items at a place; talks at a place. -/
def itsAt (t : ByteArray) (p : Int) : Option (List It × Int) := if 0 ≤ getN t p 2 ∧ getN t p 2 ≤ 41 then rdIts t (getN t p 2).toNat (p + 2) else none
def tksAt (t : ByteArray) (p : Int) : Option (List Tk × Int) := if 0 ≤ getN t p 2 ∧ getN t p 2 ≤ 21 then rdTks t (getN t p 2).toNat (p + 2) else none
/-- What a text holds, before it is compared with what is written of it. -/
def rawS (t : ByteArray) (v : Int) : Option St := match itsAt t 2 with
  | none => none
  | some (is, p) => if v = 1 then some ⟨is, []⟩ else match tksAt t p with
    | none => none
    | some (ts, _) => some ⟨is, ts⟩
/-- A text read: the state and the version; 0 where it is none. -/
def decS (t : ByteArray) : St × Int :=
  if inB (getN t 1 1) 1 3 = true then match rawS t (getN t 1 1) with
    | none => (⟨[], []⟩, 0)
    | some r => if fmtS r (getN t 1 1) = t then (r, getN t 1 1) else (⟨[], []⟩, 0)
  else (⟨[], []⟩, 0)
/-- What a format keeps of a state. -/
def keptS (s : St) (v : Int) : St := if v = 1 then ⟨s.items, []⟩ else s
theorem kept_ok {s : St} (h : stOk s = true) (v : Int) : stOk (keptS s v) = true := by
  unfold keptS
  split
  · obtain ⟨a, _⟩ := (stOk_iff s).1 h
    exact (stOk_iff _).2 ⟨a, (fun x hx => by cases hx), List.Pairwise.nil, Nat.zero_le _⟩
  · exact h
theorem kept_fmt {s : St} (h : stOk s = true) (v : Int) (hv : inB v 1 3 = true) : fmtS (keptS s v) v = fmtS s v := by
  unfold keptS
  split
  · rename_i h1
    subst h1
    have hk := kept_ok h 1
    unfold keptS at hk
    rw [if_pos rfl] at hk
    rw [fmtS_low hk hv (by decide), fmtS_low h hv (by decide)]
    rfl
  · rfl
theorem ok_smI {s : St} (h : stOk s = true) : (∀ x ∈ s.items, SmI x) ∧ (∀ x ∈ s.talks, SmT x) ∧ s.items.length ≤ 40 ∧ s.talks.length ≤ 20 := by
  obtain ⟨⟨a, _, c⟩, d, _, e⟩ := (stOk_iff s).1 h
  refine ⟨fun x hx => ?_, fun x hx => ?_, c, e⟩
  · have h1 := a x hx
    unfold itOk at h1
    rw [Bool.and_eq_true] at h1
    have h2 := name_size h1.1
    have h3 := of_decide_eq_true h1.2
    exact ⟨by omega, by omega⟩
  · have h1 := d x hx
    unfold tkOk at h1
    rw [Bool.and_eq_true, Bool.and_eq_true] at h1
    have h2 := name_size h1.1.1
    have h3 := of_decide_eq_true h1.2
    have h4 := inB_true h1.1.2
    exact ⟨by omega, by omega, by omega, by omega⟩
/-- What a text that holds a format's body reads as. -/
theorem raw_back {t : ByteArray} {s : St} {v : Nat} (hv : v = 1 ∨ v = 2 ∨ v = 3) (hs : stOk s = true) (h : Holds t 0 (bodyL v s)) : getN t 1 1 = v ∧ rawS t v = some (keptS s v) := by
  obtain ⟨i1, i2, i3, i4⟩ := ok_smI hs
  have h1 := h.right
  have hver : getN t 1 1 = (v : Nat) := by
    have := num_back (k := 1) h1.left (by omega) (by omega)
    simpa using this
  have h2 := h1.right
  rw [be8_len] at h2
  have hn : getN t 2 2 = (s.items.length : Nat) := by
    have := num_back (k := 2) h2.left (by omega) (by omega)
    simpa using this
  have h3 := h2.right
  rw [be8_len] at h3
  have hit := items_back i1 h3.left
  have h4 := h3.right
  refine ⟨hver, ?_⟩
  unfold rawS itsAt
  rw [hn, if_pos (by omega), Int.toNat_natCast, show ((2 : Int) + 2) = ((0 + [(70 : UInt8)].length + 1 + 2 : Nat) : Int) by rfl, hit]
  simp only
  unfold keptS
  by_cases hv1 : v = 1
  · subst hv1
    simp
  · rw [if_neg (by omega), if_neg (by omega)]
    rw [if_neg hv1] at h4
    have hm : getN t ((0 + [(70 : UInt8)].length + 1 + 2 + (s.items.flatMap encIt).length : Nat) : Int) 2 = (s.talks.length : Nat) := num_back (k := 2) h4.left (by omega) (by omega)
    have h5 := h4.right
    rw [be8_len] at h5
    have htk := talks_back i2 h5
    unfold tksAt
    rw [hm, if_pos (by omega), Int.toNat_natCast]
    rw [show ((0 + [(70 : UInt8)].length + 1 + 2 + (s.items.flatMap encIt).length : Nat) : Int) + 2 = ((0 + [(70 : UInt8)].length + 1 + 2 + (s.items.flatMap encIt).length + 2 : Nat) : Int) by omega, htk]
theorem holds_body (v : Nat) (s : St) : Holds (bodyB v s) 0 (bodyL v s) := ⟨[], [], by simp [bodyB], rfl⟩
theorem holds_seal (s : St) : Holds (sealB (bodyB 3 s)) 0 (bodyL 3 s) := by
  unfold sealB
  refine ⟨[], (txt (leB (crcN (bodyB 3 s).data.toList))).data.toList, ?_, rfl⟩
  simp [ByteArray.data_append, bodyB]
/-- What is written is read back. -/
theorem dec_back {s : St} {v : Int} (hs : stOk s = true) (hv : inB v 1 3 = true) : decS (fmtS s v) = (keptS s v, v) := by
  have hb := inB_true hv
  obtain ⟨n, rfl⟩ := Int.eq_ofNat_of_zero_le (show 0 ≤ v by omega)
  have hn : n = 1 ∨ n = 2 ∨ n = 3 := by omega
  have key : getN (fmtS s n) 1 1 = n ∧ rawS (fmtS s n) n = some (keptS s n) := by
    by_cases h3 : (n : Int) = 3
    · obtain rfl : n = 3 := by omega
      have e : fmtS s ((3 : Nat) : Int) = sealB (bodyB 3 s) := fmtS_seal hs
      rw [e]
      exact raw_back hn hs (holds_seal s)
    · rw [fmtS_low hs hv h3, Int.toNat_natCast]
      exact raw_back hn hs (holds_body n s)
  unfold decS
  rw [key.1, if_pos hv, key.2]
  simp only
  rw [if_pos (kept_fmt hs n hv)]
/-- What is read was written so. -/
theorem dec_fmt {t : ByteArray} (h : (decS t).2 ≠ 0) : fmtS (decS t).1 (decS t).2 = t ∧ stOk (decS t).1 = true ∧ inB (decS t).2 1 3 = true := by
  unfold decS at h ⊢
  split at h
  · rename_i hv
    rw [if_pos hv]
    cases e : rawS t (getN t 1 1) with
    | none => rw [e] at h; exact absurd rfl h
    | some r =>
      rw [e] at h
      simp only at h ⊢
      split at h
      · rename_i hf
        rw [if_pos hf]
        refine ⟨hf, ?_, hv⟩
        cases hr : stOk r with
        | true => rfl
        | false =>
          rw [fmtS_bad (.inl hr)] at hf
          have h0 : getN t 1 1 = -1 := by rw [← hf]; rfl
          rw [h0] at hv
          cases hv
      · exact absurd rfl h
  · exact absurd rfl h
end Go.Proofs.Ytlklhmdpkicpnaa
