/- What strconv.Atoi answers, both ways. Condition: the two errors of strconv read as their initialisers lay them. -/
import Derived.Test.YtebmaplflpfjbaaDoorRows
import Derived.Test.YtebmaplflpfjbaaDoorShelf
import Derived.WalkKit
import Derived.WalkSpells
import Derived.WalkLawsBesides
import Derived.LoopTactic
import Derived.Lib.Hide
import Derived.Lib.AppendIntMem
import Derived.OpenShut
import Derived.Shelf.Strconv.ErrVarAll
namespace Go.Proofs.YtebmaplflpfjbaaDoor
open Go.RowKit Go.Shelf
set_option linter.unusedVariables false

/-- What the two errors of strconv are: values of an interface's type. -/
structure Errs (w : World) : Prop where
  syn : ∃ tp p, w.var? Tryd.prog "strconv.ErrSyntax" = some #[.iface tp p]
  ran : ∃ tp p, w.var? Tryd.prog "strconv.ErrRange" = some #[.iface tp p]

theorem Errs.later {w w' : World} (h : Errs w) (hb : Below w.heap.size w w') : Errs w' := by
  have one : ∀ {n : String} {cs : Array Value}, w.var? Tryd.prog n = some cs → w'.var? Tryd.prog n = some cs := by
    intro n cs h
    unfold World.var? at *
    cases hg : Tryd.prog.globalNamed n with
    | none => simp [hg] at h
    | some g =>
      simp only [hg, Option.bind_some] at h ⊢
      have hlt : g < w.heap.size := by
        rcases Nat.lt_or_ge g w.heap.size with h' | h'
        · exact h'
        · rw [Array.getElem?_eq_none h'] at h; simp at h
      rw [hb.block g hlt]
      exact h
  obtain ⟨⟨tp, p, h1⟩, ⟨tp', p', h2⟩⟩ := h
  exact ⟨⟨tp, p, one h1⟩, ⟨tp', p', one h2⟩⟩

theorem atoi_ok (s : ByteArray) (hs : s.size ≤ 9223372036854775806) (v : Int) (h : Lib.atoiAll s.data.toList = .ok v) (w : World) :
    Calls Tryd.prog 54 #[.string s] w fun e w' => e = .returned (.tuple #[.int .i64 v, .nilIface]) ∧ Below w.heap.size w w' :=
  (Tryd.strconv_Atoi_ok s hs v h w).mono fun e w' ⟨he, hw⟩ => ⟨he, by
    rcases hw with rfl | ⟨t, rfl⟩
    · exact Below.refl _ _
    · exact Lib.bytesWorld_below ..⟩

theorem atoi_fail (s : ByteArray) (hs : s.size ≤ 281474976710656) (h : ∀ v, Lib.atoiAll s.data.toList ≠ .ok v) (w : World) (hE : Errs w) :
    Calls Tryd.prog 54 #[.string s] w fun e w' => ∃ (n : Int) (N : Nat), e = .returned (.tuple #[.int .i64 n, .iface 146 (.pointer (some ⟨N, 0, none⟩))]) ∧ Below w.heap.size w w' := by
  obtain ⟨⟨tp, p, hsyn⟩, ⟨tp', p', hran⟩⟩ := hE
  cases ha : Lib.atoiAll s.data.toList
  · exact absurd ha (h _)
  · exact (Any.strconv_Atoi_syntax_var Tryd.laysC172 s hs ha tp p w hsyn).mono fun e w' ⟨N, he, _, _, hb⟩ => ⟨0, N, he, hb⟩
  · exact (Any.strconv_Atoi_range_var Tryd.laysC172 s hs ha tp' p' w hran).mono fun e w' ⟨N, he, _, _, hb⟩ => ⟨_, N, he, hb⟩

end Go.Proofs.YtebmaplflpfjbaaDoor
