/- How many bytes a right state's formats have: at most 4800; at least two pieces of nine. Condition: none. -/
import Derived.Test.YtlklhmdpkicpnaaDrawFmt
import Derived.Test.YtlklhmdpkicpnaaFmtA
namespace Go.Proofs.Ytlklhmdpkicpnaa
open Go.RowKit
set_option linter.unusedVariables false
set_option linter.unusedSimpArgs false

theorem pt_len {b : ByteArray} (h : b.size ≤ 65535) : (pt b).length = b.size + 2 := by
  unfold pt
  rw [List.length_append, be8_len]
  simp; omega
theorem flat_len {α : Type} {f : α → List UInt8} {n : Nat} : ∀ {xs : List α}, (∀ x ∈ xs, (f x).length ≤ n) → (xs.flatMap f).length ≤ xs.length * n
  | [], _ => by simp
  | x :: xs, h => by
    have h1 := h x (by simp)
    have h2 := flat_len (xs := xs) (fun y hy => h y (by simp [hy]))
    rw [List.flatMap_cons, List.length_append, List.length_cons, Nat.add_mul, Nat.one_mul]; omega
theorem it_len {x : It} (h : itOk x = true) : (encIt x).length ≤ 76 := by
  unfold itOk at h
  rw [Bool.and_eq_true] at h
  have h2 := name_size h.1
  have h3 := of_decide_eq_true h.2
  unfold encIt
  rw [List.length_append, pt_len (by omega), pt_len (by omega)]; omega
theorem tk_len {x : Tk} (h : tkOk x = true) : (encTk x).length ≤ 80 := by
  unfold tkOk at h
  rw [Bool.and_eq_true, Bool.and_eq_true] at h
  have h2 := name_size h.1.1
  have h3 := of_decide_eq_true h.2
  unfold encTk
  rw [List.length_append, List.length_append, pt_len (by omega), pt_len (by omega), be8_len]; omega
theorem body_small {s : St} (h : stOk s = true) (n : Nat) : (bodyL n s).length ≤ 4646 := by
  obtain ⟨⟨a, _, c⟩, d, _, e⟩ := (stOk_iff s).1 h
  have h1 := flat_len (n := 76) (f := encIt) (xs := s.items) (fun x hx => it_len (a x hx))
  have h2 := flat_len (n := 80) (f := encTk) (xs := s.talks) (fun x hx => tk_len (d x hx))
  unfold bodyL
  rw [List.length_append, List.length_append, List.length_append, List.length_append, be8_len, be8_len]
  split
  · simp only [List.length_cons, List.length_nil]; omega
  · rw [List.length_append, be8_len]; simp only [List.length_cons, List.length_nil]; omega
theorem fmt_small (s : St) (v : Int) : (fmtS s v).size ≤ 4800 := by
  unfold fmtS
  split
  · rename_i h
    have hs : ∀ n, (bodyB n s).size ≤ 4646 := fun n => body_small h.1 n
    split
    · unfold sealB
      rw [ByteArray.size_append, leB_size]
      have := hs 3; omega
    · have := hs v.toNat; omega
  · exact Nat.zero_le _
theorem fmt_ten {s : St} (h : stOk s = true) : 10 ≤ (fmtS s 3).size := by
  rw [fmtS_seal h, seal_size]
  have h3 := three_sizes s
  rw [h3.2.1]
  have h4 : 2 ≤ (midL s).length := by unfold midL; rw [List.length_append, be8_len]; omega
  omega
/-- There is a text where the state and the version are right. -/
theorem fmt_some {s : St} {v : Int} (h : stOk s = true) (hv : inB v 1 3 = true) : 0 < (fmtS s v).size := by
  have hb := inB_true hv
  rcases (show v = 1 ∨ v = 2 ∨ v = 3 by omega) with rfl | rfl | rfl
  · rw [fmtS_low h (by rfl) (by decide)]
    show 0 < (bodyB 1 s).size
    rw [(three_sizes s).1]; omega
  · rw [fmtS_low h (by rfl) (by decide)]
    show 0 < (bodyB 2 s).size
    rw [(three_sizes s).2.1]; omega
  · have := fmt_ten h; omega
theorem fmt_none {s : St} {v : Int} (h : ¬ (stOk s = true ∧ inB v 1 3 = true)) : fmtS s v = ⟨#[]⟩ := by unfold fmtS; rw [if_neg h]
end Go.Proofs.Ytlklhmdpkicpnaa
