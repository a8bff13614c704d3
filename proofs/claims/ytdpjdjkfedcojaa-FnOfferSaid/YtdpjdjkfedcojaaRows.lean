/-
  No cell of these rows narrows 'for every input' (looked for: loops, veiled, ifaces, maps, wideKeys, modest, calm, conditions, laid).
  DERIVED. THE GIVEN ROWS OF THIS SEAT. 6 by the template 'for every input the law returns true; each argument reads behind the call as it read before'; 0 by the template 'total and deterministic' (their statements: YtdpjdjkfedcojaaTotals.lean).
  GIVEN WITH THE SEED: the statements are not yours to turn. If you find one false, say at which input.
  Laid BY PROGRAM, IN A SANDBOX (cutbox-rows.mjs): the forced cells as the released guide's own fill.sh prints them over the translation 25ef53091e1be99b… (all of the seat's roots in one cut). By AI agents, Wed Nov 11 2026. No macro, syntax, notation, axiom, sorry.
-/
import Derived.Test.YtdpjdjkfedcojaaChecked
import GoSem.Claim
import GoSem.ClaimJoined
import GoSem.ClaimMapViews
import Derived.JoinedTies
import Derived.KernelRfl
namespace Go.Proofs.Ytdpjdjkfedcojaa
/- THE CELL 'sum', in the pinned program and in every row, IS THE sha256 OF THE DUMP (.gsa) THAT YtdpjdjkfedcojaaProg.lean LOADS. Nothing in Lean hashes anything: it is a label: what it is worth is what the hold of that sum in a sandbox is worth. -/
noncomputable def Try.pinned : Pinned := { name := "ytdpjdjkfedcojaa", sum := "25ef53091e1be99bc2d8593b961271af7b38ad6eadaa638871b8758615b37a8b", checked := Try.checked }
namespace Rows
def none {H : Type} : Left H := { results := [], args := [] }

/-- 'laws.FnOffer': WHATEVER THE INPUT: true; the input reads as it did. -/
def fnOfferSpec : ChangeSpec := { name := "fnOffer", fn := fun _ => fun
  | [d] => { results := [.lit (.bool true)], args := [d] }
  | _ => none }
def fnOfferRow : OpenClaim := { program := "ytdpjdjkfedcojaa", sum := "25ef53091e1be99bc2d8593b961271af7b38ad6eadaa638871b8758615b37a8b", func := "loop.example/g00772/laws.FnOffer", spec := "fnOffer", unfollowed := true, recurses := true, apart := false }
def FnOfferSaid : Prop := fnOfferRow.holds Try.pinned (OpenSpec.ofChange fnOfferSpec)

/-- ITS FALSE NEIGHBOUR: 'it returns false'. Refute it at one input. -/
def fnOfferWrong : ChangeSpec := { name := "fnOffer", fn := fun _ => fun
  | [d] => { results := [.lit (.bool false)], args := [d] }
  | _ => none }
def FnOfferWrongFalsely : Prop := fnOfferRow.holds Try.pinned (OpenSpec.ofChange fnOfferWrong)

/-- 'laws.FnTaken': WHATEVER THE INPUT: true; the input reads as it did. -/
def fnTakenSpec : ChangeSpec := { name := "fnTaken", fn := fun _ => fun
  | [d] => { results := [.lit (.bool true)], args := [d] }
  | _ => none }
def fnTakenRow : OpenClaim := { program := "ytdpjdjkfedcojaa", sum := "25ef53091e1be99bc2d8593b961271af7b38ad6eadaa638871b8758615b37a8b", func := "loop.example/g00772/laws.FnTaken", spec := "fnTaken", inPlace := ["internal/abi.NoEscape"], unfollowed := true, recurses := true, apart := false }
def FnTakenSaid : Prop := fnTakenRow.holds Try.pinned (OpenSpec.ofChange fnTakenSpec)

/-- ITS FALSE NEIGHBOUR: 'it returns false'. Refute it at one input. -/
def fnTakenWrong : ChangeSpec := { name := "fnTaken", fn := fun _ => fun
  | [d] => { results := [.lit (.bool false)], args := [d] }
  | _ => none }
def FnTakenWrongFalsely : Prop := fnTakenRow.holds Try.pinned (OpenSpec.ofChange fnTakenWrong)

/-- 'laws.FnExactBegin': WHATEVER THE INPUT: true; the input reads as it did. -/
def fnExactBeginSpec : ChangeSpec := { name := "fnExactBegin", fn := fun _ => fun
  | [d] => { results := [.lit (.bool true)], args := [d] }
  | _ => none }
def fnExactBeginRow : OpenClaim := { program := "ytdpjdjkfedcojaa", sum := "25ef53091e1be99bc2d8593b961271af7b38ad6eadaa638871b8758615b37a8b", func := "loop.example/g00772/laws.FnExactBegin", spec := "fnExactBegin", apart := false }
def FnExactBeginSaid : Prop := fnExactBeginRow.holds Try.pinned (OpenSpec.ofChange fnExactBeginSpec)

/-- ITS FALSE NEIGHBOUR: 'it returns false'. Refute it at one input. -/
def fnExactBeginWrong : ChangeSpec := { name := "fnExactBegin", fn := fun _ => fun
  | [d] => { results := [.lit (.bool false)], args := [d] }
  | _ => none }
def FnExactBeginWrongFalsely : Prop := fnExactBeginRow.holds Try.pinned (OpenSpec.ofChange fnExactBeginWrong)

/-- 'laws.FnExactTakerOk': WHATEVER THE INPUT: true; the input reads as it did. -/
def fnExactTakerOkSpec : ChangeSpec := { name := "fnExactTakerOk", fn := fun _ => fun
  | [d] => { results := [.lit (.bool true)], args := [d] }
  | _ => none }
def fnExactTakerOkRow : OpenClaim := { program := "ytdpjdjkfedcojaa", sum := "25ef53091e1be99bc2d8593b961271af7b38ad6eadaa638871b8758615b37a8b", func := "loop.example/g00772/laws.FnExactTakerOk", spec := "fnExactTakerOk", apart := false }
def FnExactTakerOkSaid : Prop := fnExactTakerOkRow.holds Try.pinned (OpenSpec.ofChange fnExactTakerOkSpec)

/-- ITS FALSE NEIGHBOUR: 'it returns false'. Refute it at one input. -/
def fnExactTakerOkWrong : ChangeSpec := { name := "fnExactTakerOk", fn := fun _ => fun
  | [d] => { results := [.lit (.bool false)], args := [d] }
  | _ => none }
def FnExactTakerOkWrongFalsely : Prop := fnExactTakerOkRow.holds Try.pinned (OpenSpec.ofChange fnExactTakerOkWrong)

/-- 'laws.FnExactOffer': WHATEVER THE INPUT: true; the input reads as it did. -/
def fnExactOfferSpec : ChangeSpec := { name := "fnExactOffer", fn := fun _ => fun
  | [d1, d2] => { results := [.lit (.bool true)], args := [d1, d2] }
  | _ => none }
def fnExactOfferRow : OpenClaim := { program := "ytdpjdjkfedcojaa", sum := "25ef53091e1be99bc2d8593b961271af7b38ad6eadaa638871b8758615b37a8b", func := "loop.example/g00772/laws.FnExactOffer", spec := "fnExactOffer", unfollowed := true, recurses := true, apart := false }
def FnExactOfferSaid : Prop := fnExactOfferRow.holds Try.pinned (OpenSpec.ofChange fnExactOfferSpec)

/-- ITS FALSE NEIGHBOUR: 'it returns false'. Refute it at one input. -/
def fnExactOfferWrong : ChangeSpec := { name := "fnExactOffer", fn := fun _ => fun
  | [d1, d2] => { results := [.lit (.bool false)], args := [d1, d2] }
  | _ => none }
def FnExactOfferWrongFalsely : Prop := fnExactOfferRow.holds Try.pinned (OpenSpec.ofChange fnExactOfferWrong)

/-- 'laws.FnExactTaken': WHATEVER THE INPUT: true; the input reads as it did. -/
def fnExactTakenSpec : ChangeSpec := { name := "fnExactTaken", fn := fun _ => fun
  | [d] => { results := [.lit (.bool true)], args := [d] }
  | _ => none }
def fnExactTakenRow : OpenClaim := { program := "ytdpjdjkfedcojaa", sum := "25ef53091e1be99bc2d8593b961271af7b38ad6eadaa638871b8758615b37a8b", func := "loop.example/g00772/laws.FnExactTaken", spec := "fnExactTaken", inPlace := ["internal/abi.NoEscape"], unfollowed := true, recurses := true, apart := false }
def FnExactTakenSaid : Prop := fnExactTakenRow.holds Try.pinned (OpenSpec.ofChange fnExactTakenSpec)

/-- ITS FALSE NEIGHBOUR: 'it returns false'. Refute it at one input. -/
def fnExactTakenWrong : ChangeSpec := { name := "fnExactTaken", fn := fun _ => fun
  | [d] => { results := [.lit (.bool false)], args := [d] }
  | _ => none }
def FnExactTakenWrongFalsely : Prop := fnExactTakenRow.holds Try.pinned (OpenSpec.ofChange fnExactTakenWrong)

/- THE SECOND FORM. 'bulk': how many values and letters a reading holds, each counted each time it is reached (what is shared counts as often as it is met; a slice's spare places count too). A statement '..UptoSaid' is the law's where the arguments, and the package variables that the reading takes, are together of bulk at most 1048576: NARROWER than '..Said'. Prove '..Said' where nothing that the law and all that it calls make is longer than what came in: it says more and counts as full. Else prove '..UptoSaid'. A law counts once. -/
mutual
def uptoBulk {H : Type} : DataW H → Nat
  | .lit (.string bytes) => bytes.length + 1
  | .lit _ => 1
  | .nil => 1
  | .ptr d => uptoBulk d + 1
  | .slice elems spare => uptoBulkAll elems + uptoBulkAll spare + 1
  | .agg parts => uptoBulkAll parts + 1
  | .iface _ d => uptoBulk d + 1
  | .map entries => uptoBulkEntries entries + 1
  | .held _ => 1
def uptoBulkAll {H : Type} : List (DataW H) → Nat
  | [] => 0
  | d :: r => uptoBulk d + uptoBulkAll r
def uptoBulkEntries {H : Type} : List (Lit × DataW H) → Nat
  | [] => 0
  | x :: r => uptoBulkEntry x + uptoBulkEntries r
def uptoBulkEntry {H : Type} : Lit × DataW H → Nat
  | (.string bytes, d) => bytes.length + uptoBulk d + 1
  | (_, d) => uptoBulk d + 1
 end
def uptoSmall : (H : Type) → List (DataW H) → Bool := fun _ ds => decide (uptoBulkAll ds ≤ 1048576)
def OpenSpec.upto (s : _root_.Go.ChangeSpec) : _root_.Go.OpenSpec := { _root_.Go.OpenSpec.ofChange s with cond := some uptoSmall }

/-- 'laws.FnOffer', WHERE WHAT IT READS IS OF BULK AT MOST 1048576: true; the input reads as it did. -/
def fnOfferUptoRow : OpenClaim := { program := "ytdpjdjkfedcojaa", sum := "25ef53091e1be99bc2d8593b961271af7b38ad6eadaa638871b8758615b37a8b", func := "loop.example/g00772/laws.FnOffer", spec := "fnOffer", unfollowed := true, recurses := true, apart := false, narrowed := true }
def FnOfferUptoSaid : Prop := fnOfferUptoRow.holds Try.pinned (OpenSpec.upto fnOfferSpec)

/-- 'laws.FnTaken', WHERE WHAT IT READS IS OF BULK AT MOST 1048576: true; the input reads as it did. -/
def fnTakenUptoRow : OpenClaim := { program := "ytdpjdjkfedcojaa", sum := "25ef53091e1be99bc2d8593b961271af7b38ad6eadaa638871b8758615b37a8b", func := "loop.example/g00772/laws.FnTaken", spec := "fnTaken", inPlace := ["internal/abi.NoEscape"], unfollowed := true, recurses := true, apart := false, narrowed := true }
def FnTakenUptoSaid : Prop := fnTakenUptoRow.holds Try.pinned (OpenSpec.upto fnTakenSpec)

/-- 'laws.FnExactBegin', WHERE WHAT IT READS IS OF BULK AT MOST 1048576: true; the input reads as it did. -/
def fnExactBeginUptoRow : OpenClaim := { program := "ytdpjdjkfedcojaa", sum := "25ef53091e1be99bc2d8593b961271af7b38ad6eadaa638871b8758615b37a8b", func := "loop.example/g00772/laws.FnExactBegin", spec := "fnExactBegin", apart := false, narrowed := true }
def FnExactBeginUptoSaid : Prop := fnExactBeginUptoRow.holds Try.pinned (OpenSpec.upto fnExactBeginSpec)

/-- 'laws.FnExactTakerOk', WHERE WHAT IT READS IS OF BULK AT MOST 1048576: true; the input reads as it did. -/
def fnExactTakerOkUptoRow : OpenClaim := { program := "ytdpjdjkfedcojaa", sum := "25ef53091e1be99bc2d8593b961271af7b38ad6eadaa638871b8758615b37a8b", func := "loop.example/g00772/laws.FnExactTakerOk", spec := "fnExactTakerOk", apart := false, narrowed := true }
def FnExactTakerOkUptoSaid : Prop := fnExactTakerOkUptoRow.holds Try.pinned (OpenSpec.upto fnExactTakerOkSpec)

/-- 'laws.FnExactOffer', WHERE WHAT IT READS IS OF BULK AT MOST 1048576: true; the input reads as it did. -/
def fnExactOfferUptoRow : OpenClaim := { program := "ytdpjdjkfedcojaa", sum := "25ef53091e1be99bc2d8593b961271af7b38ad6eadaa638871b8758615b37a8b", func := "loop.example/g00772/laws.FnExactOffer", spec := "fnExactOffer", unfollowed := true, recurses := true, apart := false, narrowed := true }
def FnExactOfferUptoSaid : Prop := fnExactOfferUptoRow.holds Try.pinned (OpenSpec.upto fnExactOfferSpec)

/-- 'laws.FnExactTaken', WHERE WHAT IT READS IS OF BULK AT MOST 1048576: true; the input reads as it did. -/
def fnExactTakenUptoRow : OpenClaim := { program := "ytdpjdjkfedcojaa", sum := "25ef53091e1be99bc2d8593b961271af7b38ad6eadaa638871b8758615b37a8b", func := "loop.example/g00772/laws.FnExactTaken", spec := "fnExactTaken", inPlace := ["internal/abi.NoEscape"], unfollowed := true, recurses := true, apart := false, narrowed := true }
def FnExactTakenUptoSaid : Prop := fnExactTakenUptoRow.holds Try.pinned (OpenSpec.upto fnExactTakenSpec)

end Rows
end Go.Proofs.Ytdpjdjkfedcojaa
