/-
  DERIVED. GIVEN WITH THE SEED: THE CARDS: each row of YtebmaplflpfjbaaGreatDoorRows.lean that lists a variable, with what it lists TIED to the program's text (the seventh form; the later family's looks); each row that meets fmt, with fmt's text TOLD by the authors' own Lean function (tested against real Go, not proved from fmt's source: count such statements apart). THE CARD IS WHAT COUNTS. Prove the row's statement (the work); the ties are given (YtebmaplflpfjbaaGreatDoorTie.lean); close each card by the builder's one call (the guide's Derived/Test/ToyasCard.lean, 'card_holds'). Laid BY PROGRAM, IN A SANDBOX (cutbox-door.mjs). By AI agents, Wed Nov 11 2026. No macro, syntax, notation, axiom, sorry.
-/
import Derived.Test.YtebmaplflpfjbaaGreatDoorRows
import GoSem.ClaimSeven
namespace Go.Proofs.YtebmaplflpfjbaaGreatDoor
namespace Rows

/-- THE TIED CARD OF 'laws.FnAll'. -/
def fnAllCard : Claim7 := { stood := { row := fnAllRow, standIns := [], harness := (true, "d929ae5fcccc381b36ac98ca825736e90c5775bf7a43fc31268bb041ee4c535e"), looks := true }, kinds := [], alts := [], laidByText := true, laidKinds := [.handle], laidTests := true, laidLooks := .later }
def FnAllCardSaid : Prop := Claim7.holds Tryz.pinned (.plain (OpenSpec.ofChange fnAllSpec)) fnAllCard

/-- THE SECOND FORM's CARD OF 'laws.FnAll'. -/
def fnAllUptoCard : Claim7 := { stood := { row := fnAllUptoRow, standIns := [], harness := (true, "d929ae5fcccc381b36ac98ca825736e90c5775bf7a43fc31268bb041ee4c535e"), looks := true }, kinds := [], alts := [], laidByText := true, laidKinds := [.handle], laidTests := true, laidLooks := .later }
def FnAllUptoCardSaid : Prop := Claim7.holds Tryz.pinned (.plain (OpenSpec.upto fnAllSpec)) fnAllUptoCard
end Rows
end Go.Proofs.YtebmaplflpfjbaaGreatDoor
