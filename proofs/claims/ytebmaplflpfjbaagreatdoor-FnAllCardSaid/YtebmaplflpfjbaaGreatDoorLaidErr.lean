/- What the row's list gives the walks of Apply: errors.errorType holds the handle of the type error. Condition: the list. -/
import Derived.Test.YtebmaplflpfjbaaGreatDoorCards
import Derived.Test.YtebmaplflpfjbaaGreatDoorTie
import Derived.Test.YtebmaplflpfjbaaGreatDoorAs
import Derived.LaidMore
import Derived.LaidHandle
namespace Go.Proofs.YtebmaplflpfjbaaGreatDoor
open Go.RowKit
set_option linter.unusedVariables false

theorem gErrT : Tryz.prog.globalNamed "errors.errorType" = some 0 := by kernel_rfl
theorem rtypeU : (Tryz.prog.cutTypes.find? (·.1 == "internal/reflectlite.rtype")).map (·.2) = some 102 := by kernel_rfl
theorem errOnly : ((List.range 159).all fun ty => !Tryz.prog.rowNamed ty [101, 114, 114, 111, 114] || ty == 63) = true := by kernel_rfl
theorem typesN : Tryz.prog.types.size = 159 := by kernel_rfl
theorem errType_of {W : World} (h : laidMetH Tryz.prog [("errors.errorType", Rows.laid_errors_errorType)] W) : ErrType W := by
  have h' : laidMet Tryz.prog [] W ∧ handlesMet Tryz.prog [("errors.errorType", Rows.laid_errors_errorType)] W := h
  obtain ⟨name, u, ty, hn, hu, hlt, hr, hv⟩ : ∃ name u ty, (Rows.laid_errors_errorType (H := Unit)).handleName? = some name ∧ (Tryz.prog.cutTypes.find? (·.1 == "internal/reflectlite.rtype")).map (·.2) = some u ∧ ty < Tryz.prog.types.size ∧ Tryz.prog.rowNamed ty name = true ∧ W.var? Tryz.prog "errors.errorType" = some #[.iface u (.agg #[typeHandle Tryz.prog ty])] := h'.2 _ (List.mem_singleton.2 rfl)
  obtain rfl : name = [101, 114, 114, 111, 114] := (Option.some.inj ((show (Rows.laid_errors_errorType (H := Unit)).handleName? = some [101, 114, 114, 111, 114] by rfl).symm.trans hn)).symm
  obtain rfl : u = 102 := (Option.some.inj (rtypeU.symm.trans hu)).symm
  rw [typesN] at hlt
  have ht := List.all_eq_true.1 errOnly ty (List.mem_range.2 hlt)
  rw [hr] at ht
  obtain rfl : ty = 63 := by simpa using ht
  unfold ErrType
  rw [World.var?_cell gErrT hv 0]
  simp [typeHandle]
end Go.Proofs.YtebmaplflpfjbaaGreatDoor
