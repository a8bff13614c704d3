/- Rows of states that the call may hand on. Condition: none. -/
import Derived.Test.YtebmaplflpfjbaaStates
import Derived.Test.YtebmaplflpfjbaaMergeData
import Derived.Test.YtebmaplflpfjbaaApplyPlain
namespace Go.Proofs.Ytebmaplflpfjbaa
open Go.RowKit
set_option linter.unusedVariables false

/-- A row of states, each with rows that lie somewhere below B. -/
def StL (w : World) (B : Nat) (v : Value) (qs : List Sq) : Prop := Raw w B v qs.length (qs.flatMap sqC) ∧ ∀ q ∈ qs, StV w B q.v q.s
theorem StL.later {w w' : World} {B B' : Nat} {v : Value} {qs : List Sq} (h : StL w B v qs) (hb : Below B w w') (hB : B ≤ B') : StL w' B' v qs := ⟨h.1.later hb hB, fun q hq => (h.2 q hq).later hb hB⟩
theorem StL.rd {w : World} {B : Nat} {v : Value} {qs : List Sq} (h : StL w B v qs) : RdL w B v qs := ⟨h.1, fun q hq => (h.2 q hq).rd⟩
theorem OwnL.stl {w : World} {base g n cap : Nat} {qs : List Sq} (h : OwnL w base g n cap qs) : StL w w.heap.size (.slice (some ⟨g, 0, none⟩) n cap) qs := ⟨h.rd.1, fun q hq => (h.own q hq).st⟩
theorem good_fits {s : St} (h : Good s) : Fits s := by
  obtain ⟨⟨hi, _⟩, ht, _⟩ := h
  refine ⟨fun x hx => ?_, fun x hx => ?_⟩
  · have h1 := hi x hx
    unfold itOk at h1
    rw [Bool.and_eq_true] at h1
    have h2 := name_size h1.1
    have h3 := of_decide_eq_true h1.2
    unfold maxLen; omega
  · have h1 := ht x hx
    unfold tkOk at h1
    rw [Bool.and_eq_true, Bool.and_eq_true] at h1
    have h2 := name_size h1.1.1
    have h3 := of_decide_eq_true h1.2
    have := inB_true h1.1.2
    unfold maxLen; omega
theorem good_nil : Good ⟨[], []⟩ := ⟨⟨(fun x hx => by cases hx), List.Pairwise.nil⟩, (fun x hx => by cases hx), List.Pairwise.nil⟩
/-- What putting together leaves: no state; or one whose rows are the call's own. -/
def MgR (w : World) (base : Nat) (v : Value) : Option St → Prop
  | none => v = .agg #[.slice none 0 0, .slice none 0 0]
  | some r => OwnC w base v r
end Go.Proofs.Ytebmaplflpfjbaa
