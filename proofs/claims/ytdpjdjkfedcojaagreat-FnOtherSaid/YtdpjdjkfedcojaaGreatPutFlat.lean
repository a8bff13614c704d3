/- Rows cut in two. Condition: none. -/
import Derived.Test.YtdpjdjkfedcojaaGreatStateOk
import Derived.Test.YtdpjdjkfedcojaaGreatBaseA
import Derived.Test.YtdpjdjkfedcojaaGreatPutPlain
namespace Go.Proofs.YtdpjdjkfedcojaaGreat
open Go.RowKit
set_option linter.unusedVariables false
set_option linter.unusedSimpArgs false

theorem raw_pre {w : World} {B n cap k sz g o : Nat} {cs : List Value} (h : Raw w B (.slice (some ⟨g, o, none⟩) n cap) n cs) (hk : k ≤ n) : Raw w B (.slice (some ⟨g, o, none⟩) k cap) k (cs.take (k * sz)) := by
  obtain ⟨a', cap', hv, h1, h2, h3, h4⟩ := h
  cases hv
  refine ⟨_, cap, rfl, by omega, h2, h3, fun h0 => ?_⟩
  obtain ⟨g, o, e, hg, hA⟩ := h4 (by omega)
  refine ⟨g, o, e, hg, fun j u hu => hA j u ?_⟩
  rw [List.getElem?_take] at hu
  split at hu
  · exact hu
  · cases hu
theorem raw_suf {w : World} {B n cap k sz g o : Nat} {cs : List Value} (h : Raw w B (.slice (some ⟨g, o, none⟩) n cap) n cs) (hk : k ≤ n) :
    Raw w B (.slice (if cap = k then some ⟨g, o, none⟩ else some ⟨g, o + k * sz, none⟩) (n - k) (cap - k)) (n - k) (cs.drop (k * sz)) := by
  obtain ⟨a', cap', hv, h1, h2, h3, h4⟩ := h
  cases hv
  refine ⟨_, cap - k, rfl, by omega, Nat.le_trans (Nat.sub_le _ _) h2, (fun h => by split at h <;> cases h), fun h0 => ?_⟩
  obtain ⟨g', o', e, hg, hA⟩ := h4 (by omega)
  cases e
  refine ⟨g, o + k * sz, by rw [if_neg (by omega)], hg, fun i u hu => ?_⟩
  rw [List.getElem?_drop] at hu
  have := hA _ u hu
  rwa [show o + (k * sz + i) = o + k * sz + i by omega] at this

theorem flat_at_it (xs : List It) (k : Nat) (hk : k < xs.length) : xs.flatMap itC = (xs.take k).flatMap itC ++ Value.string xs[k].k :: Value.string xs[k].v :: (xs.drop (k + 1)).flatMap itC := by
  conv => lhs; rw [← List.take_append_drop k xs, List.drop_eq_getElem_cons hk, List.flatMap_append, List.flatMap_cons]
  rfl
theorem flat_at_tk (xs : List Tk) (k : Nat) (hk : k < xs.length) : xs.flatMap tkC = (xs.take k).flatMap tkC ++ Value.string xs[k].c :: Value.int .i64 xs[k].q :: Value.string xs[k].r :: (xs.drop (k + 1)).flatMap tkC := by
  conv => lhs; rw [← List.take_append_drop k xs, List.drop_eq_getElem_cons hk, List.flatMap_append, List.flatMap_cons]
  rfl

end Go.Proofs.YtdpjdjkfedcojaaGreat
