/- What the row's list gives the walks of Apply: errors.errorType holds the handle of the type error. Condition: the list. -/
import Derived.Test.YtebmaplflpfjbaaDoorCards
import Derived.Test.YtebmaplflpfjbaaDoorTie
import Derived.Test.YtebmaplflpfjbaaDoorAs
import Derived.LaidMore
import Derived.LaidHandle
namespace Go.Proofs.YtebmaplflpfjbaaDoor
open Go.RowKit
set_option linter.unusedVariables false

theorem gErrT : Tryd.prog.globalNamed "errors.errorType" = some 1 := by kernel_rfl
theorem rtypeU : (Tryd.prog.cutTypes.find? (·.1 == "internal/reflectlite.rtype")).map (·.2) = some 129 := by kernel_rfl
theorem errOnly : ((List.range 216).all fun ty => !Tryd.prog.rowNamed ty [101, 114, 114, 111, 114] || ty == 60) = true := by kernel_rfl
theorem typesN : Tryd.prog.types.size = 216 := by kernel_rfl
theorem errType_of {W : World} (h : laidMetH Tryd.prog [("errors.errorType", Rows.laid_errors_errorType)] W) : ErrType W := by
  have h' : laidMet Tryd.prog [] W ∧ handlesMet Tryd.prog [("errors.errorType", Rows.laid_errors_errorType)] W := h
  obtain ⟨name, u, ty, hn, hu, hlt, hr, hv⟩ : ∃ name u ty, (Rows.laid_errors_errorType (H := Unit)).handleName? = some name ∧ (Tryd.prog.cutTypes.find? (·.1 == "internal/reflectlite.rtype")).map (·.2) = some u ∧ ty < Tryd.prog.types.size ∧ Tryd.prog.rowNamed ty name = true ∧ W.var? Tryd.prog "errors.errorType" = some #[.iface u (.agg #[typeHandle Tryd.prog ty])] := h'.2 _ (List.mem_singleton.2 rfl)
  obtain rfl : name = [101, 114, 114, 111, 114] := (Option.some.inj ((show (Rows.laid_errors_errorType (H := Unit)).handleName? = some [101, 114, 114, 111, 114] by rfl).symm.trans hn)).symm
  obtain rfl : u = 129 := (Option.some.inj (rtypeU.symm.trans hu)).symm
  rw [typesN] at hlt
  have ht := List.all_eq_true.1 errOnly ty (List.mem_range.2 hlt)
  rw [hr] at ht
  obtain rfl : ty = 60 := by simpa using ht
  unfold ErrType
  rw [World.var?_cell gErrT hv 0]
  simp [typeHandle]
end Go.Proofs.YtebmaplflpfjbaaDoor
