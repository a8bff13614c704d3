/- What the rows' lists of package-level variables give the walks: the table of powers of ten, the two errors of strconv. Condition: the lists. -/
import Derived.Test.YtebmaplflpfjbaaDoorCards
import Derived.Test.YtebmaplflpfjbaaDoorTie
import Derived.Test.YtebmaplflpfjbaaDoorImplDec
import Derived.Test.YtebmaplflpfjbaaDoorAtoi
import Derived.LaidMore
import Derived.Stop.Joined
import Derived.Stop.LaidErr
import Derived.Lib.LaidTab
import Derived.LaidHandle
namespace Go.Proofs.YtebmaplflpfjbaaDoor
open Go.RowKit
set_option linter.unusedVariables false

theorem gTab : Tryd.prog.globalNamed "internal/strconv.uint64pow10" = some 5 := by kernel_rfl
theorem gTabT : (Tryd.prog.globals[5]?).map (·.type) = some 179 := by kernel_rfl
theorem cTab : Tryd.prog.cellsOf 179 = 20 := by kernel_rfl
theorem cU64 : Tryd.prog.cellsOf 157 = 1 := by kernel_rfl
theorem gSyn : Tryd.prog.globalNamed "strconv.ErrSyntax" = some 2 := by kernel_rfl
theorem gSynT : (Tryd.prog.globals[2]?).map (·.type) = some 60 := by kernel_rfl
theorem gRan : Tryd.prog.globalNamed "strconv.ErrRange" = some 3 := by kernel_rfl
theorem gRanT : (Tryd.prog.globals[3]?).map (·.type) = some 60 := by kernel_rfl
theorem cErrS : Tryd.prog.cellsOf 173 = 1 := by kernel_rfl
theorem cStr : Tryd.prog.cellsOf 9 = 1 := by kernel_rfl
theorem star : "*" ++ "errors.errorString" = "*errors.errorString" := by decide
theorem rowES (u : TypeId) (h : Tryd.prog.typeName? 3 u = some "*errors.errorString") : u = 171 :=
  typeName_ptr_named (nm := "errors.errorString") (by rw [star]; kernel_rfl) (by kernel_rfl) (by decide) u (by rw [star]; exact h)

/-- The table, at the head of a list. -/
theorem pow_of {W : World} {rest : List (String × DataW Unit)} (h : laidMet Tryd.prog (("internal/strconv.uint64pow10", Rows.laid_internal_strconv_uint64pow10) :: rest) W) : Pow10 W.heap.size W :=
  Lib.tabBelow_of_tabIs (Lib.tabIs_of_head (k := .u64) (zs := Lib.pow10Tab) (rest := rest) gTab gTabT Tryd.underlying179 Tryd.underlying157 cU64 cTab h)
/-- The two errors, at the head of a list. -/
theorem errs_of {W : World} {rest : List (String × DataW Unit)} (h : laidMet Tryd.prog (("strconv.ErrRange", Rows.laid_strconv_ErrRange) :: ("strconv.ErrSyntax", Rows.laid_strconv_ErrSyntax) :: rest) W) : Errs W := by
  obtain ⟨a0, s0, hv0, -, -, -⟩ := laid_sentinel h gRan gRanT Tryd.underlying60 rowES Tryd.underlying171 Tryd.underlying173 rfl rfl Tryd.underlying9 cErrS cStr
  obtain ⟨a1, s1, hv1, -, -, -⟩ := laid_sentinel (laidMet.tail h) gSyn gSynT Tryd.underlying60 rowES Tryd.underlying171 Tryd.underlying173 rfl rfl Tryd.underlying9 cErrS cStr
  exact ⟨⟨_, _, hv1⟩, ⟨_, _, hv0⟩⟩

end Go.Proofs.YtebmaplflpfjbaaDoor
