/- Pieces of a stream, as data: a piece comes back from its bytes; what is read was written so. Condition: none. -/
import Derived.Test.YtlklhmdpkicpnaaFmtBack
import Derived.Test.YtlklhmdpkicpnaaSealBack
import Derived.Test.YtlklhmdpkicpnaaRdFacts
namespace Go.Proofs.Ytlklhmdpkicpnaa
open Go.RowKit
set_option linter.unusedVariables false
set_option linter.unusedSimpArgs false

structure Pc where
  no : Int
  of : Int
  b : ByteArray
  ch : Int
def pcOk (p : Pc) : Bool := inB p.of 1 600 && inB p.no 1 p.of && inB p.b.size 1 200 && inB p.ch 0 4294967295
def pcL (p : Pc) : List UInt8 := [80] ++ (be8 p.no.toNat 2 ++ (be8 p.of.toNat 2 ++ (pt p.b ++ be8 p.ch.toNat 4)))
/-- A piece written down; nothing where it is invalid. -/
def pcB (p : Pc) : ByteArray := if pcOk p = true then sealB ⟨(pcL p).toArray⟩ else ⟨#[]⟩
def pc0 : Pc := ⟨0, 0, ⟨#[]⟩, 0⟩
def rawP (t : ByteArray) : Pc := ⟨getN t 1 2, getN t 3 2, (getTextB t 5).1, getN t (getTextB t 5).2 4⟩
/-- A piece read. -/
def getP (t : ByteArray) : Pc × Bool := if (getTextB t 5).2 < 0 then (pc0, false) else if pcB (rawP t) = t then (rawP t, true) else (pc0, false)
theorem pc_in {p : Pc} (h : pcOk p = true) : (1 ≤ p.of ∧ p.of ≤ 600) ∧ (1 ≤ p.no ∧ p.no ≤ p.of) ∧ (1 ≤ p.b.size ∧ p.b.size ≤ 200) ∧ (0 ≤ p.ch ∧ p.ch ≤ 4294967295) := by
  unfold pcOk at h
  simp only [Bool.and_eq_true] at h
  obtain ⟨⟨⟨h1, h2⟩, h3⟩, h4⟩ := h
  have h1 := inB_true h1
  have h2 := inB_true h2
  have h3 := inB_true h3
  have h4 := inB_true h4
  exact ⟨h1, h2, by omega, h4⟩
theorem pc_len {p : Pc} : (pcL p).length = 11 + p.b.size := by
  unfold pcL
  simp only [List.length_append, be8_len, List.length_cons, List.length_nil]
  unfold pt
  rw [List.length_append, be8_len]
  simp; omega
theorem pc_size {p : Pc} (h : pcOk p = true) : (pcB p).size = 15 + p.b.size := by
  unfold pcB
  rw [if_pos h]
  unfold sealB
  rw [ByteArray.size_append, leB_size]
  show (List.toArray _).size + 4 = _
  rw [List.size_toArray, pc_len]; omega
theorem pc_le (p : Pc) : (pcB p).size ≤ 215 := by
  cases h : pcOk p with
  | true => rw [pc_size h]; have := pc_in h; omega
  | false => unfold pcB; rw [h, if_neg (by decide)]; exact Nat.zero_le _
/-- A piece that is held is read. -/
theorem raw_pc {t : ByteArray} {p : Pc} (h : pcOk p = true) (ht : Holds t 0 (pcL p)) : rawP t = p ∧ ¬ (getTextB t 5).2 < 0 := by
  obtain ⟨h1, h2, h3, h4⟩ := pc_in h
  unfold pcL at ht
  have a1 := ht.right
  have n1 : getN t 1 2 = (p.no.toNat : Nat) := by
    have := num_back (k := 2) a1.left (by omega) (by omega)
    simpa using this
  have a2 := a1.right
  rw [be8_len] at a2
  have n2 : getN t 3 2 = (p.of.toNat : Nat) := by
    have := num_back (k := 2) a2.left (by omega) (by omega)
    simpa using this
  have a3 := a2.right
  rw [be8_len] at a3
  have n3 : getTextB t 5 = (p.b, ((0 + [(80 : UInt8)].length + 2 + 2 + (pt p.b).length : Nat) : Int)) := by
    have := text_back a3.left (by omega)
    simpa using this
  have n4 : getN t ((0 + [(80 : UInt8)].length + 2 + 2 + (pt p.b).length : Nat) : Int) 4 = (p.ch.toNat : Nat) := num_back (k := 4) a3.right (by omega) (by omega)
  refine ⟨?_, by rw [n3]; show ¬ ((0 + [(80 : UInt8)].length + 2 + 2 + (pt p.b).length : Nat) : Int) < 0; omega⟩
  unfold rawP
  rw [n3]
  show (⟨getN t 1 2, getN t 3 2, p.b, getN t ((0 + [(80 : UInt8)].length + 2 + 2 + (pt p.b).length : Nat) : Int) 4⟩ : Pc) = p
  rw [n1, n2, n4]
  have e1 : ((p.no.toNat : Nat) : Int) = p.no := by omega
  have e2 : ((p.of.toNat : Nat) : Int) = p.of := by omega
  have e3 : ((p.ch.toNat : Nat) : Int) = p.ch := by omega
  rw [e1, e2, e3]
theorem holds_pc {p : Pc} (h : pcOk p = true) : Holds (pcB p) 0 (pcL p) := by
  unfold pcB
  rw [if_pos h]
  unfold sealB
  exact ⟨[], (txt (leB (crcN (ByteArray.mk (pcL p).toArray).data.toList))).data.toList, by simp [ByteArray.data_append], rfl⟩
/-- What is written is read back. -/
theorem pc_back {p : Pc} (h : pcOk p = true) : getP (pcB p) = (p, true) := by
  obtain ⟨h1, h2⟩ := raw_pc h (holds_pc h)
  unfold getP
  rw [if_neg h2, h1, if_pos rfl]
theorem pc_none : getP ⟨#[]⟩ = (pc0, false) := rfl
/-- What is read was written so. -/
theorem pc_put {t : ByteArray} (h : (getP t).2 = true) : pcB (getP t).1 = t ∧ pcOk (getP t).1 = true := by
  unfold getP at h ⊢
  split at h
  · cases h
  · rename_i hn
    rw [if_neg hn]
    split at h
    · rename_i he
      rw [if_pos he]
      refine ⟨he, ?_⟩
      cases hp : pcOk (rawP t) with
      | true => rfl
      | false =>
        exfalso
        unfold pcB at he
        rw [hp, if_neg (by decide)] at he
        rw [← he] at hn
        exact hn (by decide)
    · cases h
theorem pc_no {t : ByteArray} (h : (getP t).2 = false) : (getP t).1 = pc0 := by
  unfold getP at h ⊢
  split
  · rfl
  · rename_i hn
    rw [if_neg hn] at h
    split at h
    · cases h
    · rename_i he; rw [if_neg he]
theorem pc_both (p : Pc) : (getP (pcB p)).2 = pcOk p ∧ (pcOk p = true → (getP (pcB p)).1 = p) := by
  cases h : pcOk p with
  | true => rw [pc_back h]; exact ⟨rfl, fun _ => rfl⟩
  | false => unfold pcB; rw [h, if_neg (by decide)]; exact ⟨rfl, fun h => by cases h⟩
/-- What a piece's text is sealed of. -/
theorem pc_sealed {t : ByteArray} (h : (getP t).2 = true) : (openB t).2 = true := by
  obtain ⟨h1, h2⟩ := pc_put h
  rw [← h1]
  unfold pcB
  rw [if_pos h2, open_sealed]
/-- What the chain becomes. -/
def linkN (ch : Int) (b : ByteArray) : Nat := hashN ((txt (putN ch 4)).data.toList ++ b.data.toList)
theorem link_lt (ch : Int) (b : ByteArray) : linkN ch b < 4294967296 := hashN_lt _
/-- Another last byte, another hash. -/
theorem hash_last {x : Nat} {a b : UInt8} (h : a ≠ b) : hashOn x a ≠ hashOn x b := by
  unfold hashOn
  intro he
  apply h
  have inj : ∀ u v : Nat, u * 16777619 % 4294967296 = v * 16777619 % 4294967296 → u % 4294967296 = v % 4294967296 := by
    intro u v e
    have hm : ∀ z : Nat, z * 16777619 % 4294967296 * 899433627 % 4294967296 = z % 4294967296 := fun z => by
      rw [Nat.mod_mul_mod, Nat.mul_assoc, Nat.mul_mod, show (16777619 * 899433627) % 4294967296 = 1 by decide, Nat.mul_one, Nat.mod_mod]
    rw [← hm u, ← hm v, e]
  have h1 := inj _ _ he
  have hx : (x ^^^ a.toNat) % 2 ^ 32 = (x ^^^ b.toNat) % 2 ^ 32 := h1
  rw [Nat.xor_mod_two_pow, Nat.xor_mod_two_pow] at hx
  have ha : a.toNat % 2 ^ 32 = a.toNat := Nat.mod_eq_of_lt (Nat.lt_of_lt_of_le a.toNat_lt (by decide))
  have hb : b.toNat % 2 ^ 32 = b.toNat := Nat.mod_eq_of_lt (Nat.lt_of_lt_of_le b.toNat_lt (by decide))
  rw [ha, hb] at hx
  have := congrArg (fun z => (x % 2 ^ 32) ^^^ z) hx
  simp only [← Nat.xor_assoc, Nat.xor_self, Nat.zero_xor] at this
  exact UInt8.toNat_inj.1 this
theorem hash_snoc (x : Nat) (l : List UInt8) (a : UInt8) : List.foldl hashOn x (l ++ [a]) = hashOn (List.foldl hashOn x l) a := by
  rw [List.foldl_append]
  generalize List.foldl hashOn x l = y
  rw [List.foldl_cons, List.foldl_nil]
theorem link_last (ch : Int) (s : ByteArray) {a b : UInt8} (h : a ≠ b) : linkN ch (s ++ ⟨#[a]⟩) ≠ linkN ch (s ++ ⟨#[b]⟩) := by
  have e : ∀ c : UInt8, linkN ch (s ++ ⟨#[c]⟩) = hashOn (linkN ch s) c := fun c => by
    unfold linkN
    rw [ByteArray.data_append, Array.toList_append, ← List.append_assoc]
    unfold hashN
    exact hash_snoc _ _ _
  rw [e, e]
  generalize linkN ch s = y
  exact hash_last h
theorem link_five (s : ByteArray) : linkN 5 s = hashN ((⟨#[0, 0, 0, 5]⟩ : ByteArray) ++ s).data.toList := by
  unfold linkN
  rw [ByteArray.data_append, Array.toList_append]
  rfl
end Go.Proofs.Ytlklhmdpkicpnaa
