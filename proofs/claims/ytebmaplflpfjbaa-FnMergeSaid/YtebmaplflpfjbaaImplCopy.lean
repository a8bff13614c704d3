/- What slices.Clone and the program's copyState make: rows of their own that hold the same. Condition: rows that can be read, of a bulk that a row may have. -/
import Derived.Test.YtebmaplflpfjbaaBaseA
import Derived.Lib.SliceRun
namespace Go.Proofs.Ytebmaplflpfjbaa
open Go.RowKit List
set_option linter.unusedVariables false
/-- A clone's row: nil, or of its own. -/
theorem clone_talks (xs : List Tk) (v : Value) (B d : Nat) (w : World) (hr : Raw w B v xs.length (xs.flatMap tkC)) (hB : B ≤ w.heap.size) (hf : xs.length ≤ 3518437208883) (hd : d < w.heap.size) :
    Calls Try.prog 51 #[v] w fun e w' => ∃ v' g cap, e = .returned v' ∧ SlN v' g xs.length cap ∧ ((g = d ∧ xs.length = 0 ∧ cap = 0) ∨ w.heap.size ≤ g) ∧ Got w' d 45 3 g xs.length cap (xs.flatMap tkC) ∧ Below w.heap.size w w' := by
  have qT : ∀ (w : World) (a : Option Addr) (n c n' c' : Nat), (binOp .eql 29 (.slice a n c) (.slice none n' c')).run Try.prog w = .ok (.bool a.isNone) w := fun w a n c n' c' => Lib.run_eql_slice_nil w _ _ a n c n' c' Try.underlying29
  obtain ⟨a, cap, rfl, hn, hcap, h0, hat⟩ := id hr
  have HR := Lib.hid hr
  have Hf := Lib.hid hf
  cases a with
  | none =>
    obtain rfl : cap = 0 := h0 rfl
    have hx : Hid (xs = []) := Lib.hid (List.eq_nil_of_length_eq_zero (by omega))
    clear hr h0 hat
    go_enter Try.func51, Try.ntmps51
    go_wp2
    go_ret
    exact ⟨_, d, 0, rfl, ⟨none, by rw [hx.out]; rfl, .inr ⟨rfl, by rw [hx.out]; rfl, rfl⟩⟩, .inl ⟨rfl, by rw [hx.out]; rfl, rfl⟩, by rw [hx.out]; exact ⟨rfl, Nat.le_refl _, Nat.zero_le _, Nat.le_refl _, hd, .inl ⟨rfl, rfl⟩⟩, Below.refl _ _⟩
  | some ad =>
    obtain ⟨W, hW⟩ : ∃ W, W = w.alloc (.cells #[] 45) := ⟨_, rfl⟩
    have hbW : Below w.heap.size w W := by rw [hW]; exact (Below.refl _ _).alloc (Nat.le_refl _) _
    have hWs : W.heap.size = w.heap.size + 1 := by rw [hW]; simp
    obtain ⟨i0, p1, p2, p3, p4⟩ := info_parts infoTk
    have hrun := run_app0 (P := Try.prog) W 29 29 45 i0 _ 3 40 Try.underlying29 p1 p2 p3 p4 rfl (by decide) w.heap.size d (by omega) (by omega) _ B xs.length (xs.flatMap tkC) (hr.later (hbW.mono hB) (Nat.le_refl _)) (flat_len_tk xs) (one_tk xs) (by unfold maxLen; omega) (by omega)
    obtain ⟨v', w', hrun, hb1, g, c', rfl, hg, hgot⟩ := hrun
    have HG := Lib.hid hgot
    have Hg := Lib.hid hg
    have Hb1 := Lib.hid hb1
    have HWs := Lib.hid hWs
    have HbW := Lib.hid hbW
    rw [hW] at hrun
    have Hrun := Lib.hid hrun
    clear hrun hr h0 hat hgot hg hb1 hWs hbW hW p1 p2 p3 p4 hf hn hcap
    go_enter Try.func51, Try.ntmps51
    go_wp2_with (at_builtin; refine wpList_app rfl _ _ _ rfl _ _ _ rfl rfl Hrun.out ?_)
    go_ret
    exact ⟨_, g, c', rfl, ⟨_, rfl, .inl rfl⟩, .inr (by have := Hg.out; have := HWs.out; omega), HG.out, HbW.out.trans (Hb1.out.mono HbW.out.size)⟩



set_option linter.unusedSimpArgs false
end Go.Proofs.Ytebmaplflpfjbaa
