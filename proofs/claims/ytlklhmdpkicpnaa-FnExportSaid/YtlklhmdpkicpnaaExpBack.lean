/- What Export answers, read back by Import. Condition: none. -/
import Derived.Test.YtlklhmdpkicpnaaFmtA
import Derived.Test.YtlklhmdpkicpnaaFmtLe
import Derived.Test.YtlklhmdpkicpnaaSpecImport
import Derived.Test.YtlklhmdpkicpnaaSpecExport
namespace Go.Proofs.Ytlklhmdpkicpnaa
open Go.RowKit
set_option linter.unusedVariables false
set_option linter.unusedSimpArgs false
theorem exp_len (s : ByteArray) (n : Int) : (cutS s n).length ≤ 600 := by
  unfold cutS
  split
  · exact Nat.zero_le _
  · split
    · exact Nat.zero_le _
    · split
      · exact Nat.zero_le _
      · rw [cutUp_len]; omega
theorem exp_mem {s : ByteArray} {n : Int} : ∀ x ∈ cutS s n, x.size ≤ 215 := by
  intro x hx
  unfold cutS at hx
  split at hx
  · cases hx
  · split at hx
    · cases hx
    · split at hx
      · cases hx
      · unfold cutUp at hx
        obtain ⟨i, _, rfl⟩ := List.mem_map.1 hx
        exact pc_le _
theorem exp_none {s : St} {n size : Int} (h : ¬ (stOk s = true ∧ inB n 1 3 = true)) : cutS (fmtS s n) size = [] := by rw [fmt_none h]; exact cut_none _
theorem exp_is {s : St} {n : Int} {m : Nat} (hs : stOk s = true) (hv : inB n 1 3 = true) (h1 : 8 ≤ m) (h2 : m ≤ 200) : cutS (fmtS s n) (m : Int) = cutUp (fmtS s n) m (manyN (fmtS s n) m) ∧ manyN (fmtS s n) m ≤ 600 ∧ 0 < manyN (fmtS s n) m := by
  have hz := fmt_some hs hv
  have hm := many_small (fmt_small s n) h1
  have hp := many_pos hz (show 0 < m by omega)
  refine ⟨?_, hm, hp⟩
  exact cut_ok (fun e => by rw [e] at hz; exact absurd hz (Nat.lt_irrefl 0)) (by unfold inB; simp; omega) (by omega)
theorem exp_read {s : St} {n : Int} {m : Nat} (hs : stOk s = true) (hv : inB n 1 3 = true) (h1 : 8 ≤ m) (h2 : m ≤ 200) : importS (cutS (fmtS s n) (m : Int)) = (keptS s n, 0) := by
  obtain ⟨e, hm, hp⟩ := exp_is hs hv h1 h2
  have hb := inB_true hv
  rw [e, import_back (by omega) h2 hm hp, dec_back hs hv, if_neg (show ¬ n = 0 by omega)]
theorem exp_back {s : St} {n size : Int} (h : ¬ cutS (fmtS s n) size = []) : importS (cutS (fmtS s n) size) = (keptS s n, 0) ∧ stOk s = true ∧ inB n 1 3 = true := by
  by_cases hok : stOk s = true ∧ inB n 1 3 = true
  · by_cases hz : inB size 8 200 = true
    · have hb := inB_true hz
      obtain ⟨m, rfl⟩ := Int.eq_ofNat_of_zero_le (show 0 ≤ size by omega)
      exact ⟨exp_read hok.1 hok.2 (by omega) (by omega), hok⟩
    · exact absurd (cut_size (by simpa using hz)) h
  · exact absurd (exp_none hok) h
theorem slice_rowX {w : World} {B sz n : Nat} {v : Value} {cs : List Value} (h : Row w B sz v n cs) : ∃ a c, v = .slice a n c := by
  rcases h with ⟨_, ⟨rfl, rfl⟩ | ⟨g, o, cap, rfl, _⟩⟩ <;> exact ⟨_, _, rfl⟩
theorem dv_kept {w w' : World} {base b : Nat} {v : Value} {s : St} (h : DecV w base v s) (hg : w.grownBy w' (some b)) (hb : b < base) : DecV w' base v s := h.imp id (fun h => h.kept hg hb)
theorem rd_cutX {w : World} {B : Nat} {vi vt : Value} {s : St} (h : Rd w B (.agg #[vi, vt]) s) : Rd w B (.agg #[vi, .slice none 0 0]) ⟨s.items, []⟩ := by
  obtain ⟨ai, at_, h0, h1, _⟩ := h
  obtain ⟨rfl, rfl⟩ : vi = ai ∧ vt = at_ := by simpa using h0
  exact ⟨_, _, rfl, h1, ⟨none, 0, rfl, Nat.le_refl _, Nat.zero_le _, fun _ => rfl, fun h => absurd h (Nat.lt_irrefl _)⟩⟩
end Go.Proofs.Ytlklhmdpkicpnaa
