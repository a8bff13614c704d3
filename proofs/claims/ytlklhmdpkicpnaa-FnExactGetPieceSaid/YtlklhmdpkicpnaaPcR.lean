/- A piece read by the program's reader, as data: what it takes is what PutPiece writes of it, and the document's reader takes the same. Condition: none. -/
import Derived.Test.YtlklhmdpkicpnaaPcPlain
import Derived.Test.YtlklhmdpkicpnaaDecR
namespace Go.Proofs.Ytlklhmdpkicpnaa
open Go.RowKit
set_option linter.unusedVariables false
set_option linter.unusedSimpArgs false

/-- Without the mark ahead. -/
def cutP (t : ByteArray) : ByteArray := ⟨(Lib.trimPrefix t.data.toList [80]).toArray⟩
theorem cutP_size (t : ByteArray) : (cutP t).size ≤ t.size := by
  unfold cutP
  show (List.toArray _).size ≤ _
  rw [List.size_toArray]
  have h : (Lib.trimPrefix t.data.toList [80]).length ≤ t.data.toList.length := by
    unfold Lib.trimPrefix
    split
    · rw [List.length_drop]; omega
    · exact Nat.le_refl _
  exact h
/-- The fields as the reader finds them. -/
def rdP (u : ByteArray) : Pc := ⟨getN u 0 2, getN (restN u 2) 0 2, (getTextB (restN (restN u 2) 2) 0).1, getN (restT (restN (restN u 2) 2)) 0 4⟩
theorem rdP_fit (u : ByteArray) (hu : u.size ≤ 1099511627776) : (-1 ≤ (rdP u).no ∧ (rdP u).no ≤ 4294967295) ∧ (-1 ≤ (rdP u).of ∧ (rdP u).of ≤ 4294967295) ∧ (rdP u).b.size ≤ u.size ∧ (-1 ≤ (rdP u).ch ∧ (rdP u).ch ≤ 4294967295) := by
  have h1 := restN_size u 2
  have h2 := restN_size (restN u 2) 2
  have h3 := text_small (restN (restN u 2) 2) 0
  have a1 := getN_lo u 0 2
  have a2 := getN_hi u 0 2
  have b1 := getN_lo (restN u 2) 0 2
  have b2 := getN_hi (restN u 2) 0 2
  have c1 := getN_lo (restT (restN (restN u 2) 2)) 0 4
  have c2 := getN_hi (restT (restN (restN u 2) 2)) 0 4
  have e1 : (rdP u).no = getN u 0 2 := by simp only [rdP]
  have e2 : (rdP u).of = getN (restN u 2) 0 2 := by simp only [rdP]
  have e3 : (rdP u).b = (getTextB (restN (restN u 2) 2) 0).1 := by simp only [rdP]
  have e4 : (rdP u).ch = getN (restT (restN (restN u 2) 2)) 0 4 := by simp only [rdP]
  rw [e1, e2, e3, e4]
  refine ⟨⟨?_, ?_⟩, ⟨?_, ?_⟩, ?_, ?_, ?_⟩ <;> omega
theorem pc_lead {p : Pc} (h : pcOk p = true) : rdP (cutP (pcB p)) = p := by
  obtain ⟨h1, h2, h3, h4⟩ := pc_in h
  have hl : ∃ Z, (pcB p).data.toList = 80 :: (be8 p.no.toNat 2 ++ (be8 p.of.toNat 2 ++ (pt p.b ++ (be8 p.ch.toNat 4 ++ Z)))) := by
    unfold pcB
    rw [if_pos h]
    unfold sealB
    refine ⟨(txt (leB (crcN (ByteArray.mk (pcL p).toArray).data.toList))).data.toList, ?_⟩
    rw [ByteArray.data_append, Array.toList_append]
    unfold pcL
    simp [List.append_assoc]
  obtain ⟨Z, hZ⟩ := hl
  have h0 : (cutP (pcB p)).data.toList = be8 p.no.toNat 2 ++ (be8 p.of.toNat 2 ++ (pt p.b ++ (be8 p.ch.toNat 4 ++ Z))) := by
    unfold cutP
    rw [hZ]
    unfold Lib.trimPrefix
    have hp : Lib.hasPrefix (80 :: (be8 p.no.toNat 2 ++ (be8 p.of.toNat 2 ++ (pt p.b ++ (be8 p.ch.toNat 4 ++ Z))))) [80] = true := by simp [Lib.hasPrefix]
    rw [if_pos hp]
    rfl
  obtain ⟨n1, r1⟩ := num_lead h0 (by omega) (by omega)
  obtain ⟨n2, r2⟩ := num_lead r1 (by omega) (by omega)
  obtain ⟨n3, r3⟩ := text_lead r2 (by omega)
  obtain ⟨n4, -⟩ := num_lead r3 (by omega) (by omega)
  rw [show ((2 : Nat) : Int) = 2 from rfl] at n1 n2
  rw [show ((4 : Nat) : Int) = 4 from rfl] at n4
  unfold rdP
  rw [n1, n2, n3, n4]
  have e1 : ((p.no.toNat : Nat) : Int) = p.no := by omega
  have e2 : ((p.of.toNat : Nat) : Int) = p.of := by omega
  have e3 : ((p.ch.toNat : Nat) : Int) = p.ch := by omega
  rw [e1, e2, e3]
/-- What the program takes. -/
theorem pcR_yes {t : ByteArray} (h : pcOk (rdP (cutP t)) = true) (h2 : pcB (rdP (cutP t)) = t) : getP t = (rdP (cutP t), true) := by
  have hb := pc_back h
  rw [h2] at hb
  exact hb
/-- What the program refuses. -/
theorem pcR_no {t : ByteArray} (h : pcOk (rdP (cutP t)) = false ∨ ¬ pcB (rdP (cutP t)) = t) : getP t = (pc0, false) := by
  cases hg : (getP t).2 with
  | false =>
    have h1 := pc_no hg
    exact Prod.ext h1 hg
  | true =>
    exfalso
    obtain ⟨h1, h2⟩ := pc_put hg
    have h3 := pc_lead h2
    rw [h1] at h3
    rcases h with h | h
    · rw [h3, h2] at h; cases h
    · rw [h3] at h; exact h h1
end Go.Proofs.Ytlklhmdpkicpnaa
