/-
  No cell of these rows narrows 'for every input' (looked for: loops, veiled, ifaces, maps, wideKeys, modest, calm, conditions, laid).
  DERIVED. THE GIVEN ROWS OF THIS SEAT. 14 by the template 'for every input the law returns true; each argument reads behind the call as it read before'; 0 by the template 'total and deterministic' (their statements: YtlklhmdpkicpnaaTotals.lean).
  GIVEN WITH THE SEED: the statements are not yours to turn. If you find one false, say at which input.
  Laid BY PROGRAM, IN A SANDBOX (cutbox-rows.mjs): the forced cells as the released guide's own fill.sh prints them over the translation 473e897b5876b739… (all of the seat's roots in one cut). By AI agents, Wed Nov 11 2026. No macro, syntax, notation, axiom, sorry.
-/
import Derived.Test.YtlklhmdpkicpnaaChecked
import GoSem.Claim
import GoSem.ClaimJoined
import GoSem.ClaimMapViews
import Derived.JoinedTies
import Derived.KernelRfl
namespace Go.Proofs.Ytlklhmdpkicpnaa
/- THE CELL 'sum', in the pinned program and in every row, IS THE sha256 OF THE DUMP (.gsa) THAT YtlklhmdpkicpnaaProg.lean LOADS. Nothing in Lean hashes anything: it is a label: what it is worth is what the hold of that sum in a sandbox is worth. -/
noncomputable def Try.pinned : Pinned := { name := "ytlklhmdpkicpnaa", sum := "473e897b5876b73958a006e024e9811d02c65c0365be2516151c1bea20c29d28", checked := Try.checked }
namespace Rows
def none {H : Type} : Left H := { results := [], args := [] }

/-- 'laws.FnPiece': WHATEVER THE INPUT: true; the input reads as it did. -/
def fnPieceSpec : ChangeSpec := { name := "fnPiece", fn := fun _ => fun
  | [d] => { results := [.lit (.bool true)], args := [d] }
  | _ => none }
def fnPieceRow : OpenClaim := { program := "ytlklhmdpkicpnaa", sum := "473e897b5876b73958a006e024e9811d02c65c0365be2516151c1bea20c29d28", func := "loop.example/g00772/laws.FnPiece", spec := "fnPiece", apart := false }
def FnPieceSaid : Prop := fnPieceRow.holds Try.pinned (OpenSpec.ofChange fnPieceSpec)

/-- ITS FALSE NEIGHBOUR: 'it returns false'. Refute it at one input. -/
def fnPieceWrong : ChangeSpec := { name := "fnPiece", fn := fun _ => fun
  | [d] => { results := [.lit (.bool false)], args := [d] }
  | _ => none }
def FnPieceWrongFalsely : Prop := fnPieceRow.holds Try.pinned (OpenSpec.ofChange fnPieceWrong)

/-- 'laws.FnCut': WHATEVER THE INPUT: true; the input reads as it did. -/
def fnCutSpec : ChangeSpec := { name := "fnCut", fn := fun _ => fun
  | [d] => { results := [.lit (.bool true)], args := [d] }
  | _ => none }
def fnCutRow : OpenClaim := { program := "ytlklhmdpkicpnaa", sum := "473e897b5876b73958a006e024e9811d02c65c0365be2516151c1bea20c29d28", func := "loop.example/g00772/laws.FnCut", spec := "fnCut", unfollowed := true, recurses := true, apart := false }
def FnCutSaid : Prop := fnCutRow.holds Try.pinned (OpenSpec.ofChange fnCutSpec)

/-- ITS FALSE NEIGHBOUR: 'it returns false'. Refute it at one input. -/
def fnCutWrong : ChangeSpec := { name := "fnCut", fn := fun _ => fun
  | [d] => { results := [.lit (.bool false)], args := [d] }
  | _ => none }
def FnCutWrongFalsely : Prop := fnCutRow.holds Try.pinned (OpenSpec.ofChange fnCutWrong)

/-- 'laws.FnLink': WHATEVER THE INPUT: true; the input reads as it did. -/
def fnLinkSpec : ChangeSpec := { name := "fnLink", fn := fun _ => fun
  | [d] => { results := [.lit (.bool true)], args := [d] }
  | _ => none }
def fnLinkRow : OpenClaim := { program := "ytlklhmdpkicpnaa", sum := "473e897b5876b73958a006e024e9811d02c65c0365be2516151c1bea20c29d28", func := "loop.example/g00772/laws.FnLink", spec := "fnLink", apart := false }
def FnLinkSaid : Prop := fnLinkRow.holds Try.pinned (OpenSpec.ofChange fnLinkSpec)

/-- ITS FALSE NEIGHBOUR: 'it returns false'. Refute it at one input. -/
def fnLinkWrong : ChangeSpec := { name := "fnLink", fn := fun _ => fun
  | [d] => { results := [.lit (.bool false)], args := [d] }
  | _ => none }
def FnLinkWrongFalsely : Prop := fnLinkRow.holds Try.pinned (OpenSpec.ofChange fnLinkWrong)

/-- 'laws.FnExport': WHATEVER THE INPUT: true; the input reads as it did. -/
def fnExportSpec : ChangeSpec := { name := "fnExport", fn := fun _ => fun
  | [d] => { results := [.lit (.bool true)], args := [d] }
  | _ => none }
def fnExportRow : OpenClaim := { program := "ytlklhmdpkicpnaa", sum := "473e897b5876b73958a006e024e9811d02c65c0365be2516151c1bea20c29d28", func := "loop.example/g00772/laws.FnExport", spec := "fnExport", inPlace := ["internal/abi.NoEscape"], unfollowed := true, recurses := true, apart := false }
def FnExportSaid : Prop := fnExportRow.holds Try.pinned (OpenSpec.ofChange fnExportSpec)

/-- ITS FALSE NEIGHBOUR: 'it returns false'. Refute it at one input. -/
def fnExportWrong : ChangeSpec := { name := "fnExport", fn := fun _ => fun
  | [d] => { results := [.lit (.bool false)], args := [d] }
  | _ => none }
def FnExportWrongFalsely : Prop := fnExportRow.holds Try.pinned (OpenSpec.ofChange fnExportWrong)

/-- 'laws.FnImport': WHATEVER THE INPUT: true; the input reads as it did. -/
def fnImportSpec : ChangeSpec := { name := "fnImport", fn := fun _ => fun
  | [d] => { results := [.lit (.bool true)], args := [d] }
  | _ => none }
def fnImportRow : OpenClaim := { program := "ytlklhmdpkicpnaa", sum := "473e897b5876b73958a006e024e9811d02c65c0365be2516151c1bea20c29d28", func := "loop.example/g00772/laws.FnImport", spec := "fnImport", inPlace := ["internal/abi.NoEscape"], unfollowed := true, recurses := true, apart := false }
def FnImportSaid : Prop := fnImportRow.holds Try.pinned (OpenSpec.ofChange fnImportSpec)

/-- ITS FALSE NEIGHBOUR: 'it returns false'. Refute it at one input. -/
def fnImportWrong : ChangeSpec := { name := "fnImport", fn := fun _ => fun
  | [d] => { results := [.lit (.bool false)], args := [d] }
  | _ => none }
def FnImportWrongFalsely : Prop := fnImportRow.holds Try.pinned (OpenSpec.ofChange fnImportWrong)

/-- 'laws.FnSpoilt': WHATEVER THE INPUT: true; the input reads as it did. -/
def fnSpoiltSpec : ChangeSpec := { name := "fnSpoilt", fn := fun _ => fun
  | [d] => { results := [.lit (.bool true)], args := [d] }
  | _ => none }
def fnSpoiltRow : OpenClaim := { program := "ytlklhmdpkicpnaa", sum := "473e897b5876b73958a006e024e9811d02c65c0365be2516151c1bea20c29d28", func := "loop.example/g00772/laws.FnSpoilt", spec := "fnSpoilt", inPlace := ["internal/abi.NoEscape"], unfollowed := true, recurses := true, apart := false }
def FnSpoiltSaid : Prop := fnSpoiltRow.holds Try.pinned (OpenSpec.ofChange fnSpoiltSpec)

/-- ITS FALSE NEIGHBOUR: 'it returns false'. Refute it at one input. -/
def fnSpoiltWrong : ChangeSpec := { name := "fnSpoilt", fn := fun _ => fun
  | [d] => { results := [.lit (.bool false)], args := [d] }
  | _ => none }
def FnSpoiltWrongFalsely : Prop := fnSpoiltRow.holds Try.pinned (OpenSpec.ofChange fnSpoiltWrong)

/-- 'laws.FnSizes': WHATEVER THE INPUT: true; the input reads as it did. -/
def fnSizesSpec : ChangeSpec := { name := "fnSizes", fn := fun _ => fun
  | [d] => { results := [.lit (.bool true)], args := [d] }
  | _ => none }
def fnSizesRow : OpenClaim := { program := "ytlklhmdpkicpnaa", sum := "473e897b5876b73958a006e024e9811d02c65c0365be2516151c1bea20c29d28", func := "loop.example/g00772/laws.FnSizes", spec := "fnSizes", inPlace := ["internal/abi.NoEscape"], unfollowed := true, recurses := true, apart := false }
def FnSizesSaid : Prop := fnSizesRow.holds Try.pinned (OpenSpec.ofChange fnSizesSpec)

/-- ITS FALSE NEIGHBOUR: 'it returns false'. Refute it at one input. -/
def fnSizesWrong : ChangeSpec := { name := "fnSizes", fn := fun _ => fun
  | [d] => { results := [.lit (.bool false)], args := [d] }
  | _ => none }
def FnSizesWrongFalsely : Prop := fnSizesRow.holds Try.pinned (OpenSpec.ofChange fnSizesWrong)

/-- 'laws.FnExactPieceOk': WHATEVER THE INPUT: true; the input reads as it did. -/
def fnExactPieceOkSpec : ChangeSpec := { name := "fnExactPieceOk", fn := fun _ => fun
  | [d] => { results := [.lit (.bool true)], args := [d] }
  | _ => none }
def fnExactPieceOkRow : OpenClaim := { program := "ytlklhmdpkicpnaa", sum := "473e897b5876b73958a006e024e9811d02c65c0365be2516151c1bea20c29d28", func := "loop.example/g00772/laws.FnExactPieceOk", spec := "fnExactPieceOk", apart := false }
def FnExactPieceOkSaid : Prop := fnExactPieceOkRow.holds Try.pinned (OpenSpec.ofChange fnExactPieceOkSpec)

/-- ITS FALSE NEIGHBOUR: 'it returns false'. Refute it at one input. -/
def fnExactPieceOkWrong : ChangeSpec := { name := "fnExactPieceOk", fn := fun _ => fun
  | [d] => { results := [.lit (.bool false)], args := [d] }
  | _ => none }
def FnExactPieceOkWrongFalsely : Prop := fnExactPieceOkRow.holds Try.pinned (OpenSpec.ofChange fnExactPieceOkWrong)

/-- 'laws.FnExactPutPiece': WHATEVER THE INPUT: true; the input reads as it did. -/
def fnExactPutPieceSpec : ChangeSpec := { name := "fnExactPutPiece", fn := fun _ => fun
  | [d] => { results := [.lit (.bool true)], args := [d] }
  | _ => none }
def fnExactPutPieceRow : OpenClaim := { program := "ytlklhmdpkicpnaa", sum := "473e897b5876b73958a006e024e9811d02c65c0365be2516151c1bea20c29d28", func := "loop.example/g00772/laws.FnExactPutPiece", spec := "fnExactPutPiece", apart := false }
def FnExactPutPieceSaid : Prop := fnExactPutPieceRow.holds Try.pinned (OpenSpec.ofChange fnExactPutPieceSpec)

/-- ITS FALSE NEIGHBOUR: 'it returns false'. Refute it at one input. -/
def fnExactPutPieceWrong : ChangeSpec := { name := "fnExactPutPiece", fn := fun _ => fun
  | [d] => { results := [.lit (.bool false)], args := [d] }
  | _ => none }
def FnExactPutPieceWrongFalsely : Prop := fnExactPutPieceRow.holds Try.pinned (OpenSpec.ofChange fnExactPutPieceWrong)

/-- 'laws.FnExactGetPiece': WHATEVER THE INPUT: true; the input reads as it did. -/
def fnExactGetPieceSpec : ChangeSpec := { name := "fnExactGetPiece", fn := fun _ => fun
  | [d] => { results := [.lit (.bool true)], args := [d] }
  | _ => none }
def fnExactGetPieceRow : OpenClaim := { program := "ytlklhmdpkicpnaa", sum := "473e897b5876b73958a006e024e9811d02c65c0365be2516151c1bea20c29d28", func := "loop.example/g00772/laws.FnExactGetPiece", spec := "fnExactGetPiece", apart := false }
def FnExactGetPieceSaid : Prop := fnExactGetPieceRow.holds Try.pinned (OpenSpec.ofChange fnExactGetPieceSpec)

/-- ITS FALSE NEIGHBOUR: 'it returns false'. Refute it at one input. -/
def fnExactGetPieceWrong : ChangeSpec := { name := "fnExactGetPiece", fn := fun _ => fun
  | [d] => { results := [.lit (.bool false)], args := [d] }
  | _ => none }
def FnExactGetPieceWrongFalsely : Prop := fnExactGetPieceRow.holds Try.pinned (OpenSpec.ofChange fnExactGetPieceWrong)

/-- 'laws.FnExactLink': WHATEVER THE INPUT: true; the input reads as it did. -/
def fnExactLinkSpec : ChangeSpec := { name := "fnExactLink", fn := fun _ => fun
  | [d1, d2] => { results := [.lit (.bool true)], args := [d1, d2] }
  | _ => none }
def fnExactLinkRow : OpenClaim := { program := "ytlklhmdpkicpnaa", sum := "473e897b5876b73958a006e024e9811d02c65c0365be2516151c1bea20c29d28", func := "loop.example/g00772/laws.FnExactLink", spec := "fnExactLink", apart := false }
def FnExactLinkSaid : Prop := fnExactLinkRow.holds Try.pinned (OpenSpec.ofChange fnExactLinkSpec)

/-- ITS FALSE NEIGHBOUR: 'it returns false'. Refute it at one input. -/
def fnExactLinkWrong : ChangeSpec := { name := "fnExactLink", fn := fun _ => fun
  | [d1, d2] => { results := [.lit (.bool false)], args := [d1, d2] }
  | _ => none }
def FnExactLinkWrongFalsely : Prop := fnExactLinkRow.holds Try.pinned (OpenSpec.ofChange fnExactLinkWrong)

/-- 'laws.FnExactCut': WHATEVER THE INPUT: true; the input reads as it did. -/
def fnExactCutSpec : ChangeSpec := { name := "fnExactCut", fn := fun _ => fun
  | [d1, d2] => { results := [.lit (.bool true)], args := [d1, d2] }
  | _ => none }
def fnExactCutRow : OpenClaim := { program := "ytlklhmdpkicpnaa", sum := "473e897b5876b73958a006e024e9811d02c65c0365be2516151c1bea20c29d28", func := "loop.example/g00772/laws.FnExactCut", spec := "fnExactCut", unfollowed := true, recurses := true, apart := false }
def FnExactCutSaid : Prop := fnExactCutRow.holds Try.pinned (OpenSpec.ofChange fnExactCutSpec)

/-- ITS FALSE NEIGHBOUR: 'it returns false'. Refute it at one input. -/
def fnExactCutWrong : ChangeSpec := { name := "fnExactCut", fn := fun _ => fun
  | [d1, d2] => { results := [.lit (.bool false)], args := [d1, d2] }
  | _ => none }
def FnExactCutWrongFalsely : Prop := fnExactCutRow.holds Try.pinned (OpenSpec.ofChange fnExactCutWrong)

/-- 'laws.FnExactExport': WHATEVER THE INPUT: true; the input reads as it did. -/
def fnExactExportSpec : ChangeSpec := { name := "fnExactExport", fn := fun _ => fun
  | [d1, d2, d3] => { results := [.lit (.bool true)], args := [d1, d2, d3] }
  | _ => none }
def fnExactExportRow : OpenClaim := { program := "ytlklhmdpkicpnaa", sum := "473e897b5876b73958a006e024e9811d02c65c0365be2516151c1bea20c29d28", func := "loop.example/g00772/laws.FnExactExport", spec := "fnExactExport", inPlace := ["internal/abi.NoEscape"], unfollowed := true, recurses := true, apart := false }
def FnExactExportSaid : Prop := fnExactExportRow.holds Try.pinned (OpenSpec.ofChange fnExactExportSpec)

/-- ITS FALSE NEIGHBOUR: 'it returns false'. Refute it at one input. -/
def fnExactExportWrong : ChangeSpec := { name := "fnExactExport", fn := fun _ => fun
  | [d1, d2, d3] => { results := [.lit (.bool false)], args := [d1, d2, d3] }
  | _ => none }
def FnExactExportWrongFalsely : Prop := fnExactExportRow.holds Try.pinned (OpenSpec.ofChange fnExactExportWrong)

/-- 'laws.FnExactImport': WHATEVER THE INPUT: true; the input reads as it did. -/
def fnExactImportSpec : ChangeSpec := { name := "fnExactImport", fn := fun _ => fun
  | [d] => { results := [.lit (.bool true)], args := [d] }
  | _ => none }
def fnExactImportRow : OpenClaim := { program := "ytlklhmdpkicpnaa", sum := "473e897b5876b73958a006e024e9811d02c65c0365be2516151c1bea20c29d28", func := "loop.example/g00772/laws.FnExactImport", spec := "fnExactImport", inPlace := ["internal/abi.NoEscape"], unfollowed := true, recurses := true, apart := false }
def FnExactImportSaid : Prop := fnExactImportRow.holds Try.pinned (OpenSpec.ofChange fnExactImportSpec)

/-- ITS FALSE NEIGHBOUR: 'it returns false'. Refute it at one input. -/
def fnExactImportWrong : ChangeSpec := { name := "fnExactImport", fn := fun _ => fun
  | [d] => { results := [.lit (.bool false)], args := [d] }
  | _ => none }
def FnExactImportWrongFalsely : Prop := fnExactImportRow.holds Try.pinned (OpenSpec.ofChange fnExactImportWrong)

/- THE SECOND FORM. 'bulk': how many values and letters a reading holds, each counted each time it is reached (what is shared counts as often as it is met; a slice's spare places count too). A statement '..UptoSaid' is the law's where the arguments, and the package variables that the reading takes, are together of bulk at most 1048576: NARROWER than '..Said'. Prove '..Said' where nothing that the law and all that it calls make is longer than what came in: it says more and counts as full. Else prove '..UptoSaid'. A law counts once. -/
mutual
def uptoBulk {H : Type} : DataW H → Nat
  | .lit (.string bytes) => bytes.length + 1
  | .lit _ => 1
  | .nil => 1
  | .ptr d => uptoBulk d + 1
  | .slice elems spare => uptoBulkAll elems + uptoBulkAll spare + 1
  | .agg parts => uptoBulkAll parts + 1
  | .iface _ d => uptoBulk d + 1
  | .map entries => uptoBulkEntries entries + 1
  | .held _ => 1
def uptoBulkAll {H : Type} : List (DataW H) → Nat
  | [] => 0
  | d :: r => uptoBulk d + uptoBulkAll r
def uptoBulkEntries {H : Type} : List (Lit × DataW H) → Nat
  | [] => 0
  | x :: r => uptoBulkEntry x + uptoBulkEntries r
def uptoBulkEntry {H : Type} : Lit × DataW H → Nat
  | (.string bytes, d) => bytes.length + uptoBulk d + 1
  | (_, d) => uptoBulk d + 1
 end
def uptoSmall : (H : Type) → List (DataW H) → Bool := fun _ ds => decide (uptoBulkAll ds ≤ 1048576)
def OpenSpec.upto (s : _root_.Go.ChangeSpec) : _root_.Go.OpenSpec := { _root_.Go.OpenSpec.ofChange s with cond := some uptoSmall }

/-- 'laws.FnPiece', WHERE WHAT IT READS IS OF BULK AT MOST 1048576: true; the input reads as it did. -/
def fnPieceUptoRow : OpenClaim := { program := "ytlklhmdpkicpnaa", sum := "473e897b5876b73958a006e024e9811d02c65c0365be2516151c1bea20c29d28", func := "loop.example/g00772/laws.FnPiece", spec := "fnPiece", apart := false, narrowed := true }
def FnPieceUptoSaid : Prop := fnPieceUptoRow.holds Try.pinned (OpenSpec.upto fnPieceSpec)

/-- 'laws.FnCut', WHERE WHAT IT READS IS OF BULK AT MOST 1048576: true; the input reads as it did. -/
def fnCutUptoRow : OpenClaim := { program := "ytlklhmdpkicpnaa", sum := "473e897b5876b73958a006e024e9811d02c65c0365be2516151c1bea20c29d28", func := "loop.example/g00772/laws.FnCut", spec := "fnCut", unfollowed := true, recurses := true, apart := false, narrowed := true }
def FnCutUptoSaid : Prop := fnCutUptoRow.holds Try.pinned (OpenSpec.upto fnCutSpec)

/-- 'laws.FnLink', WHERE WHAT IT READS IS OF BULK AT MOST 1048576: true; the input reads as it did. -/
def fnLinkUptoRow : OpenClaim := { program := "ytlklhmdpkicpnaa", sum := "473e897b5876b73958a006e024e9811d02c65c0365be2516151c1bea20c29d28", func := "loop.example/g00772/laws.FnLink", spec := "fnLink", apart := false, narrowed := true }
def FnLinkUptoSaid : Prop := fnLinkUptoRow.holds Try.pinned (OpenSpec.upto fnLinkSpec)

/-- 'laws.FnExport', WHERE WHAT IT READS IS OF BULK AT MOST 1048576: true; the input reads as it did. -/
def fnExportUptoRow : OpenClaim := { program := "ytlklhmdpkicpnaa", sum := "473e897b5876b73958a006e024e9811d02c65c0365be2516151c1bea20c29d28", func := "loop.example/g00772/laws.FnExport", spec := "fnExport", inPlace := ["internal/abi.NoEscape"], unfollowed := true, recurses := true, apart := false, narrowed := true }
def FnExportUptoSaid : Prop := fnExportUptoRow.holds Try.pinned (OpenSpec.upto fnExportSpec)

/-- 'laws.FnImport', WHERE WHAT IT READS IS OF BULK AT MOST 1048576: true; the input reads as it did. -/
def fnImportUptoRow : OpenClaim := { program := "ytlklhmdpkicpnaa", sum := "473e897b5876b73958a006e024e9811d02c65c0365be2516151c1bea20c29d28", func := "loop.example/g00772/laws.FnImport", spec := "fnImport", inPlace := ["internal/abi.NoEscape"], unfollowed := true, recurses := true, apart := false, narrowed := true }
def FnImportUptoSaid : Prop := fnImportUptoRow.holds Try.pinned (OpenSpec.upto fnImportSpec)

/-- 'laws.FnSpoilt', WHERE WHAT IT READS IS OF BULK AT MOST 1048576: true; the input reads as it did. -/
def fnSpoiltUptoRow : OpenClaim := { program := "ytlklhmdpkicpnaa", sum := "473e897b5876b73958a006e024e9811d02c65c0365be2516151c1bea20c29d28", func := "loop.example/g00772/laws.FnSpoilt", spec := "fnSpoilt", inPlace := ["internal/abi.NoEscape"], unfollowed := true, recurses := true, apart := false, narrowed := true }
def FnSpoiltUptoSaid : Prop := fnSpoiltUptoRow.holds Try.pinned (OpenSpec.upto fnSpoiltSpec)

/-- 'laws.FnSizes', WHERE WHAT IT READS IS OF BULK AT MOST 1048576: true; the input reads as it did. -/
def fnSizesUptoRow : OpenClaim := { program := "ytlklhmdpkicpnaa", sum := "473e897b5876b73958a006e024e9811d02c65c0365be2516151c1bea20c29d28", func := "loop.example/g00772/laws.FnSizes", spec := "fnSizes", inPlace := ["internal/abi.NoEscape"], unfollowed := true, recurses := true, apart := false, narrowed := true }
def FnSizesUptoSaid : Prop := fnSizesUptoRow.holds Try.pinned (OpenSpec.upto fnSizesSpec)

/-- 'laws.FnExactPieceOk', WHERE WHAT IT READS IS OF BULK AT MOST 1048576: true; the input reads as it did. -/
def fnExactPieceOkUptoRow : OpenClaim := { program := "ytlklhmdpkicpnaa", sum := "473e897b5876b73958a006e024e9811d02c65c0365be2516151c1bea20c29d28", func := "loop.example/g00772/laws.FnExactPieceOk", spec := "fnExactPieceOk", apart := false, narrowed := true }
def FnExactPieceOkUptoSaid : Prop := fnExactPieceOkUptoRow.holds Try.pinned (OpenSpec.upto fnExactPieceOkSpec)

/-- 'laws.FnExactPutPiece', WHERE WHAT IT READS IS OF BULK AT MOST 1048576: true; the input reads as it did. -/
def fnExactPutPieceUptoRow : OpenClaim := { program := "ytlklhmdpkicpnaa", sum := "473e897b5876b73958a006e024e9811d02c65c0365be2516151c1bea20c29d28", func := "loop.example/g00772/laws.FnExactPutPiece", spec := "fnExactPutPiece", apart := false, narrowed := true }
def FnExactPutPieceUptoSaid : Prop := fnExactPutPieceUptoRow.holds Try.pinned (OpenSpec.upto fnExactPutPieceSpec)

/-- 'laws.FnExactGetPiece', WHERE WHAT IT READS IS OF BULK AT MOST 1048576: true; the input reads as it did. -/
def fnExactGetPieceUptoRow : OpenClaim := { program := "ytlklhmdpkicpnaa", sum := "473e897b5876b73958a006e024e9811d02c65c0365be2516151c1bea20c29d28", func := "loop.example/g00772/laws.FnExactGetPiece", spec := "fnExactGetPiece", apart := false, narrowed := true }
def FnExactGetPieceUptoSaid : Prop := fnExactGetPieceUptoRow.holds Try.pinned (OpenSpec.upto fnExactGetPieceSpec)

/-- 'laws.FnExactLink', WHERE WHAT IT READS IS OF BULK AT MOST 1048576: true; the input reads as it did. -/
def fnExactLinkUptoRow : OpenClaim := { program := "ytlklhmdpkicpnaa", sum := "473e897b5876b73958a006e024e9811d02c65c0365be2516151c1bea20c29d28", func := "loop.example/g00772/laws.FnExactLink", spec := "fnExactLink", apart := false, narrowed := true }
def FnExactLinkUptoSaid : Prop := fnExactLinkUptoRow.holds Try.pinned (OpenSpec.upto fnExactLinkSpec)

/-- 'laws.FnExactCut', WHERE WHAT IT READS IS OF BULK AT MOST 1048576: true; the input reads as it did. -/
def fnExactCutUptoRow : OpenClaim := { program := "ytlklhmdpkicpnaa", sum := "473e897b5876b73958a006e024e9811d02c65c0365be2516151c1bea20c29d28", func := "loop.example/g00772/laws.FnExactCut", spec := "fnExactCut", unfollowed := true, recurses := true, apart := false, narrowed := true }
def FnExactCutUptoSaid : Prop := fnExactCutUptoRow.holds Try.pinned (OpenSpec.upto fnExactCutSpec)

/-- 'laws.FnExactExport', WHERE WHAT IT READS IS OF BULK AT MOST 1048576: true; the input reads as it did. -/
def fnExactExportUptoRow : OpenClaim := { program := "ytlklhmdpkicpnaa", sum := "473e897b5876b73958a006e024e9811d02c65c0365be2516151c1bea20c29d28", func := "loop.example/g00772/laws.FnExactExport", spec := "fnExactExport", inPlace := ["internal/abi.NoEscape"], unfollowed := true, recurses := true, apart := false, narrowed := true }
def FnExactExportUptoSaid : Prop := fnExactExportUptoRow.holds Try.pinned (OpenSpec.upto fnExactExportSpec)

/-- 'laws.FnExactImport', WHERE WHAT IT READS IS OF BULK AT MOST 1048576: true; the input reads as it did. -/
def fnExactImportUptoRow : OpenClaim := { program := "ytlklhmdpkicpnaa", sum := "473e897b5876b73958a006e024e9811d02c65c0365be2516151c1bea20c29d28", func := "loop.example/g00772/laws.FnExactImport", spec := "fnExactImport", inPlace := ["internal/abi.NoEscape"], unfollowed := true, recurses := true, apart := false, narrowed := true }
def FnExactImportUptoSaid : Prop := fnExactImportUptoRow.holds Try.pinned (OpenSpec.upto fnExactImportSpec)

end Rows
end Go.Proofs.Ytlklhmdpkicpnaa
