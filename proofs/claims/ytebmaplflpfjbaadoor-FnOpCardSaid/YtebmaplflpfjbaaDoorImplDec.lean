/- What impl.DecText answers. Condition: the table of powers of ten reads as its initialiser lays it. -/
import Derived.Test.YtebmaplflpfjbaaDoorRows
import Derived.Test.YtebmaplflpfjbaaDoorShelf
import Derived.WalkKit
import Derived.WalkSpells
import Derived.WalkLawsBesides
import Derived.LoopTactic
import Derived.Lib.Hide
import Derived.Lib.AppendIntMem
namespace Go.Proofs.YtebmaplflpfjbaaDoor
open Go.RowKit Go.Shelf
set_option linter.unusedVariables false

abbrev Pow10 (B : Nat) (w : World) : Prop := Lib.TabBelow Tryd.prog B w "internal/strconv.uint64pow10" .u64 Lib.pow10Tab

theorem impl_decText (n : Int) (h0 : -9223372036854775808 ≤ n) (h1 : n ≤ 9223372036854775807) (B : Nat) (w : World) (hB : B ≤ w.heap.size) (hT : Pow10 B w) :
    Calls Tryd.prog 48 #[.int .i64 n] w fun e w' => e = .returned (.string ⟨(Lib.itoa n).toArray⟩) ∧ Below B w w' := by
  go_enter Tryd.func48, Tryd.ntmps48
  go_wp2_with (go_at_call 83; refine (Tryd.strconv_Itoa n h0 h1 _ hT.here).mono ?_; rintro e w' ⟨rfl, k, os, rfl⟩)
  go_ret
  exact ⟨rfl, Lib.below_grow _ _ hB _ _⟩

theorem pow10_later {w w' : World} (h : Pow10 w.heap.size w) (hb : Below w.heap.size w w') : Pow10 w'.heap.size w' := fun x hx => h x (hb.trans (hx.mono hb.size))
end Go.Proofs.YtebmaplflpfjbaaDoor
