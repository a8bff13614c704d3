/- The three formats side by side, as data. Condition: none. -/
import Derived.Test.YtmmkiodnlmpbiaaFmtBack
namespace Go.Proofs.Ytmmkiodnlmpbiaa
open Go.RowKit
set_option linter.unusedVariables false
set_option linter.unusedSimpArgs false

/-- What the formats have in common behind their first two bytes. -/
def midL (s : St) : List UInt8 := be8 s.items.length 2 ++ s.items.flatMap encIt
def tailL (s : St) : List UInt8 := be8 s.talks.length 2 ++ s.talks.flatMap encTk
theorem body_one (s : St) : bodyL 1 s = ([70] ++ be8 1 1) ++ midL s := by unfold bodyL midL; rw [if_pos rfl, List.append_nil, List.append_assoc]
theorem body_more (s : St) {v : Nat} (h : v ≠ 1) : bodyL v s = ([70] ++ be8 v 1) ++ (midL s ++ tailL s) := by unfold bodyL midL tailL; rw [if_neg h, List.append_assoc, List.append_assoc]
theorem head_len (v : Nat) : ([70] ++ be8 v 1 : List UInt8).length = 2 := by rw [List.length_append, be8_len]; rfl
theorem body_size (v : Nat) (s : St) : (bodyB v s).size = (bodyL v s).length := rfl
theorem ext_list {a b : ByteArray} (h : a.data.toList = b.data.toList) : a = b := ByteArray.ext (Array.toList_inj.1 h)
theorem extract_list (x : ByteArray) (i j : Nat) : (x.extract i j).data.toList = (x.data.toList.take j).drop i := by
  rw [ByteArray.data_extract, Array.toList_extract, List.extract_eq_take_drop, List.drop_take]
theorem three_sizes (s : St) : (bodyB 1 s).size = 2 + (midL s).length ∧ (bodyB 2 s).size = 2 + (midL s).length + (tailL s).length ∧ (bodyB 3 s).size = (bodyB 2 s).size ∧ 2 ≤ (tailL s).length := by
  have l1 : (bodyL 1 s).length = 2 + (midL s).length := by rw [body_one, List.length_append, head_len]
  have l2 : ∀ v, v ≠ 1 → (bodyL v s).length = 2 + (midL s).length + (tailL s).length := fun v hv => by rw [body_more s hv, List.length_append, head_len, List.length_append]; omega
  rw [body_size, body_size, body_size, l1, l2 2 (by decide), l2 3 (by decide)]
  refine ⟨rfl, rfl, rfl, ?_⟩
  unfold tailL
  rw [List.length_append, be8_len]
  omega
theorem three_parts (s : St) : (bodyB 2 s).extract 2 (bodyB 1 s).size = (bodyB 1 s).extract 2 (bodyB 1 s).size ∧ (bodyB 3 s).extract 2 (bodyB 3 s).size = (bodyB 2 s).extract 2 (bodyB 2 s).size := by
  obtain ⟨h1, h2, h3, _⟩ := three_sizes s
  have d : ∀ v, (bodyB v s).data.toList = bodyL v s := fun v => rfl
  refine ⟨ext_list ?_, ext_list ?_⟩
  · rw [extract_list, extract_list, d, d, h1, body_one, body_more s (v := 2) (by decide)]
    have e1 : (([70] ++ be8 2 1) ++ (midL s ++ tailL s)).take (2 + (midL s).length) = ([70] ++ be8 2 1) ++ midL s := by
      rw [← List.append_assoc]
      exact List.take_left' (by rw [List.length_append, head_len])
    have e2 : (([70] ++ be8 1 1) ++ midL s).take (2 + (midL s).length) = ([70] ++ be8 1 1) ++ midL s := List.take_of_length_le (by rw [List.length_append, head_len]; omega)
    rw [e1, e2, List.drop_left' (head_len 2), List.drop_left' (head_len 1)]
  · rw [extract_list, extract_list, d, d, h3, h2, body_more s (v := 2) (by decide), body_more s (v := 3) (by decide)]
    have e : ∀ v, (([70] ++ be8 v 1) ++ (midL s ++ tailL s)).take (2 + (midL s).length + (tailL s).length) = ([70] ++ be8 v 1) ++ (midL s ++ tailL s) := fun v => List.take_of_length_le (by rw [List.length_append, head_len, List.length_append]; omega)
    rw [e, e, List.drop_left' (head_len 3), List.drop_left' (head_len 2)]
theorem seal_size (s : St) : (sealB (bodyB 3 s)).size = (bodyB 2 s).size + 4 := by
  unfold sealB
  rw [ByteArray.size_append, leB_size, (three_sizes s).2.2.1]
end Go.Proofs.Ytmmkiodnlmpbiaa
