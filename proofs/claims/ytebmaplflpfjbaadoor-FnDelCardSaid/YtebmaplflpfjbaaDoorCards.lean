/-
  DERIVED. GIVEN WITH THE SEED: THE CARDS: each row of YtebmaplflpfjbaaDoorRows.lean that lists a variable, with what it lists TIED to the program's text (the seventh form; the later family's looks); each row that meets fmt, with fmt's text TOLD by the authors' own Lean function (tested against real Go, not proved from fmt's source: count such statements apart). THE CARD IS WHAT COUNTS. Prove the row's statement (the work); the ties are given (YtebmaplflpfjbaaDoorTie.lean); close each card by the builder's one call (the guide's Derived/Test/ToyasCard.lean, 'card_holds'). Laid BY PROGRAM, IN A SANDBOX (cutbox-door.mjs). By AI agents, Wed Nov 11 2026. No macro, syntax, notation, axiom, sorry.
-/
import Derived.Test.YtebmaplflpfjbaaDoorRows
import GoSem.ClaimSeven
namespace Go.Proofs.YtebmaplflpfjbaaDoor
namespace Rows

/-- THE TIED CARD OF 'laws.FnApply'. -/
def fnApplyCard : Claim7 := { stood := { row := fnApplyRow, standIns := [], harness := (true, "e93bed21f5eef57d1b450ff2cb878945b8323e3ee2d11ea8febcc239a59bb470"), looks := true }, kinds := [], alts := [], laidByText := true, laidKinds := [.handle], laidTests := true, laidLooks := .later }
def FnApplyCardSaid : Prop := Claim7.holds Tryd.pinned (.plain (OpenSpec.ofChange fnApplySpec)) fnApplyCard

/-- THE TIED CARD OF 'laws.FnReply'. -/
def fnReplyCard : Claim7 := { stood := { row := fnReplyRow, standIns := [], harness := (true, "e93bed21f5eef57d1b450ff2cb878945b8323e3ee2d11ea8febcc239a59bb470"), looks := true }, kinds := [], alts := [], laidByText := true, laidKinds := [.handle], laidTests := true, laidLooks := .later }
def FnReplyCardSaid : Prop := Claim7.holds Tryd.pinned (.plain (OpenSpec.ofChange fnReplySpec)) fnReplyCard

/-- THE TIED CARD OF 'laws.FnOp'. -/
def fnOpCard : Claim7 := { stood := { row := fnOpRow, standIns := [], harness := (true, "e93bed21f5eef57d1b450ff2cb878945b8323e3ee2d11ea8febcc239a59bb470"), looks := true }, kinds := [], alts := [], laidByText := true, laidKinds := [.data, .data, .data, .sentinel, .sentinel, .data], laidTests := true, laidLooks := .later }
def FnOpCardSaid : Prop := Claim7.holds Tryd.pinned (.plain (OpenSpec.ofChange fnOpSpec)) fnOpCard

/-- THE TIED CARD OF 'laws.FnDel'. -/
def fnDelCard : Claim7 := { stood := { row := fnDelRow, standIns := [], harness := (true, "e93bed21f5eef57d1b450ff2cb878945b8323e3ee2d11ea8febcc239a59bb470"), looks := true }, kinds := [], alts := [], laidByText := true, laidKinds := [.handle], laidTests := true, laidLooks := .later }
def FnDelCardSaid : Prop := Claim7.holds Tryd.pinned (.plain (OpenSpec.ofChange fnDelSpec)) fnDelCard

/-- THE SECOND FORM's CARD OF 'laws.FnApply'. -/
def fnApplyUptoCard : Claim7 := { stood := { row := fnApplyUptoRow, standIns := [], harness := (true, "e93bed21f5eef57d1b450ff2cb878945b8323e3ee2d11ea8febcc239a59bb470"), looks := true }, kinds := [], alts := [], laidByText := true, laidKinds := [.handle], laidTests := true, laidLooks := .later }
def FnApplyUptoCardSaid : Prop := Claim7.holds Tryd.pinned (.plain (OpenSpec.upto fnApplySpec)) fnApplyUptoCard

/-- THE SECOND FORM's CARD OF 'laws.FnReply'. -/
def fnReplyUptoCard : Claim7 := { stood := { row := fnReplyUptoRow, standIns := [], harness := (true, "e93bed21f5eef57d1b450ff2cb878945b8323e3ee2d11ea8febcc239a59bb470"), looks := true }, kinds := [], alts := [], laidByText := true, laidKinds := [.handle], laidTests := true, laidLooks := .later }
def FnReplyUptoCardSaid : Prop := Claim7.holds Tryd.pinned (.plain (OpenSpec.upto fnReplySpec)) fnReplyUptoCard

/-- THE SECOND FORM's CARD OF 'laws.FnOp'. -/
def fnOpUptoCard : Claim7 := { stood := { row := fnOpUptoRow, standIns := [], harness := (true, "e93bed21f5eef57d1b450ff2cb878945b8323e3ee2d11ea8febcc239a59bb470"), looks := true }, kinds := [], alts := [], laidByText := true, laidKinds := [.data, .data, .data, .sentinel, .sentinel, .data], laidTests := true, laidLooks := .later }
def FnOpUptoCardSaid : Prop := Claim7.holds Tryd.pinned (.plain (OpenSpec.upto fnOpSpec)) fnOpUptoCard

/-- THE SECOND FORM's CARD OF 'laws.FnDel'. -/
def fnDelUptoCard : Claim7 := { stood := { row := fnDelUptoRow, standIns := [], harness := (true, "e93bed21f5eef57d1b450ff2cb878945b8323e3ee2d11ea8febcc239a59bb470"), looks := true }, kinds := [], alts := [], laidByText := true, laidKinds := [.handle], laidTests := true, laidLooks := .later }
def FnDelUptoCardSaid : Prop := Claim7.holds Tryd.pinned (.plain (OpenSpec.upto fnDelSpec)) fnDelUptoCard
end Rows
end Go.Proofs.YtebmaplflpfjbaaDoor
