/-
  No cell of these rows narrows 'for every input' (looked for: loops, veiled, ifaces, maps, wideKeys, modest, calm, conditions, laid).
  DERIVED. THE GIVEN ROWS OF THIS SEAT. 12 by the template 'for every input the law returns true; each argument reads behind the call as it read before'; 0 by the template 'total and deterministic' (their statements: YtkoohmibdaomkaaTotals.lean).
  GIVEN WITH THE SEED: the statements are not yours to turn. If you find one false, say at which input.
  Laid BY PROGRAM, IN A SANDBOX (cutbox-rows.mjs): the forced cells as the released guide's own fill.sh prints them over the translation 3259701a971e20b3… (all of the seat's roots in one cut). By AI agents, Wed Nov 11 2026. No macro, syntax, notation, axiom, sorry.
-/
import Derived.Test.YtkoohmibdaomkaaChecked
import GoSem.Claim
import GoSem.ClaimJoined
import GoSem.ClaimMapViews
import Derived.JoinedTies
import Derived.KernelRfl
namespace Go.Proofs.Ytkoohmibdaomkaa
/- THE CELL 'sum', in the pinned program and in every row, IS THE sha256 OF THE DUMP (.gsa) THAT YtkoohmibdaomkaaProg.lean LOADS. Nothing in Lean hashes anything: it is a label: what it is worth is what the hold of that sum in a sandbox is worth. -/
noncomputable def Try.pinned : Pinned := { name := "ytkoohmibdaomkaa", sum := "3259701a971e20b34596e8da0cfd7b3650292bff2072bce7db5fb066cbc24d44", checked := Try.checked }
namespace Rows
def none {H : Type} : Left H := { results := [], args := [] }

/-- 'laws.FnItem': WHATEVER THE INPUT: true; the input reads as it did. -/
def fnItemSpec : ChangeSpec := { name := "fnItem", fn := fun _ => fun
  | [d] => { results := [.lit (.bool true)], args := [d] }
  | _ => none }
def fnItemRow : OpenClaim := { program := "ytkoohmibdaomkaa", sum := "3259701a971e20b34596e8da0cfd7b3650292bff2072bce7db5fb066cbc24d44", func := "loop.example/g00772/laws.FnItem", spec := "fnItem", unfollowed := true, recurses := true, apart := false }
def FnItemSaid : Prop := fnItemRow.holds Try.pinned (OpenSpec.ofChange fnItemSpec)

/-- ITS FALSE NEIGHBOUR: 'it returns false'. Refute it at one input. -/
def fnItemWrong : ChangeSpec := { name := "fnItem", fn := fun _ => fun
  | [d] => { results := [.lit (.bool false)], args := [d] }
  | _ => none }
def FnItemWrongFalsely : Prop := fnItemRow.holds Try.pinned (OpenSpec.ofChange fnItemWrong)

/-- 'laws.FnDrop': WHATEVER THE INPUT: true; the input reads as it did. -/
def fnDropSpec : ChangeSpec := { name := "fnDrop", fn := fun _ => fun
  | [d] => { results := [.lit (.bool true)], args := [d] }
  | _ => none }
def fnDropRow : OpenClaim := { program := "ytkoohmibdaomkaa", sum := "3259701a971e20b34596e8da0cfd7b3650292bff2072bce7db5fb066cbc24d44", func := "loop.example/g00772/laws.FnDrop", spec := "fnDrop", unfollowed := true, recurses := true, apart := false }
def FnDropSaid : Prop := fnDropRow.holds Try.pinned (OpenSpec.ofChange fnDropSpec)

/-- ITS FALSE NEIGHBOUR: 'it returns false'. Refute it at one input. -/
def fnDropWrong : ChangeSpec := { name := "fnDrop", fn := fun _ => fun
  | [d] => { results := [.lit (.bool false)], args := [d] }
  | _ => none }
def FnDropWrongFalsely : Prop := fnDropRow.holds Try.pinned (OpenSpec.ofChange fnDropWrong)

/-- 'laws.FnTalk': WHATEVER THE INPUT: true; the input reads as it did. -/
def fnTalkSpec : ChangeSpec := { name := "fnTalk", fn := fun _ => fun
  | [d] => { results := [.lit (.bool true)], args := [d] }
  | _ => none }
def fnTalkRow : OpenClaim := { program := "ytkoohmibdaomkaa", sum := "3259701a971e20b34596e8da0cfd7b3650292bff2072bce7db5fb066cbc24d44", func := "loop.example/g00772/laws.FnTalk", spec := "fnTalk", unfollowed := true, recurses := true, apart := false }
def FnTalkSaid : Prop := fnTalkRow.holds Try.pinned (OpenSpec.ofChange fnTalkSpec)

/-- ITS FALSE NEIGHBOUR: 'it returns false'. Refute it at one input. -/
def fnTalkWrong : ChangeSpec := { name := "fnTalk", fn := fun _ => fun
  | [d] => { results := [.lit (.bool false)], args := [d] }
  | _ => none }
def FnTalkWrongFalsely : Prop := fnTalkRow.holds Try.pinned (OpenSpec.ofChange fnTalkWrong)

/-- 'laws.FnSame': WHATEVER THE INPUT: true; the input reads as it did. -/
def fnSameSpec : ChangeSpec := { name := "fnSame", fn := fun _ => fun
  | [d] => { results := [.lit (.bool true)], args := [d] }
  | _ => none }
def fnSameRow : OpenClaim := { program := "ytkoohmibdaomkaa", sum := "3259701a971e20b34596e8da0cfd7b3650292bff2072bce7db5fb066cbc24d44", func := "loop.example/g00772/laws.FnSame", spec := "fnSame", apart := false }
def FnSameSaid : Prop := fnSameRow.holds Try.pinned (OpenSpec.ofChange fnSameSpec)

/-- ITS FALSE NEIGHBOUR: 'it returns false'. Refute it at one input. -/
def fnSameWrong : ChangeSpec := { name := "fnSame", fn := fun _ => fun
  | [d] => { results := [.lit (.bool false)], args := [d] }
  | _ => none }
def FnSameWrongFalsely : Prop := fnSameRow.holds Try.pinned (OpenSpec.ofChange fnSameWrong)

/-- 'laws.FnOrder': WHATEVER THE INPUT: true; the input reads as it did. -/
def fnOrderSpec : ChangeSpec := { name := "fnOrder", fn := fun _ => fun
  | [d] => { results := [.lit (.bool true)], args := [d] }
  | _ => none }
def fnOrderRow : OpenClaim := { program := "ytkoohmibdaomkaa", sum := "3259701a971e20b34596e8da0cfd7b3650292bff2072bce7db5fb066cbc24d44", func := "loop.example/g00772/laws.FnOrder", spec := "fnOrder", unfollowed := true, recurses := true, apart := false }
def FnOrderSaid : Prop := fnOrderRow.holds Try.pinned (OpenSpec.ofChange fnOrderSpec)

/-- ITS FALSE NEIGHBOUR: 'it returns false'. Refute it at one input. -/
def fnOrderWrong : ChangeSpec := { name := "fnOrder", fn := fun _ => fun
  | [d] => { results := [.lit (.bool false)], args := [d] }
  | _ => none }
def FnOrderWrongFalsely : Prop := fnOrderRow.holds Try.pinned (OpenSpec.ofChange fnOrderWrong)

/-- 'laws.FnExactStateOk': WHATEVER THE INPUT: true; the input reads as it did. -/
def fnExactStateOkSpec : ChangeSpec := { name := "fnExactStateOk", fn := fun _ => fun
  | [d] => { results := [.lit (.bool true)], args := [d] }
  | _ => none }
def fnExactStateOkRow : OpenClaim := { program := "ytkoohmibdaomkaa", sum := "3259701a971e20b34596e8da0cfd7b3650292bff2072bce7db5fb066cbc24d44", func := "loop.example/g00772/laws.FnExactStateOk", spec := "fnExactStateOk", unfollowed := true, recurses := true, apart := false }
def FnExactStateOkSaid : Prop := fnExactStateOkRow.holds Try.pinned (OpenSpec.ofChange fnExactStateOkSpec)

/-- ITS FALSE NEIGHBOUR: 'it returns false'. Refute it at one input. -/
def fnExactStateOkWrong : ChangeSpec := { name := "fnExactStateOk", fn := fun _ => fun
  | [d] => { results := [.lit (.bool false)], args := [d] }
  | _ => none }
def FnExactStateOkWrongFalsely : Prop := fnExactStateOkRow.holds Try.pinned (OpenSpec.ofChange fnExactStateOkWrong)

/-- 'laws.FnExactItemAt': WHATEVER THE INPUT: true; the input reads as it did. -/
def fnExactItemAtSpec : ChangeSpec := { name := "fnExactItemAt", fn := fun _ => fun
  | [d1, d2] => { results := [.lit (.bool true)], args := [d1, d2] }
  | _ => none }
def fnExactItemAtRow : OpenClaim := { program := "ytkoohmibdaomkaa", sum := "3259701a971e20b34596e8da0cfd7b3650292bff2072bce7db5fb066cbc24d44", func := "loop.example/g00772/laws.FnExactItemAt", spec := "fnExactItemAt", unfollowed := true, recurses := true, apart := false }
def FnExactItemAtSaid : Prop := fnExactItemAtRow.holds Try.pinned (OpenSpec.ofChange fnExactItemAtSpec)

/-- ITS FALSE NEIGHBOUR: 'it returns false'. Refute it at one input. -/
def fnExactItemAtWrong : ChangeSpec := { name := "fnExactItemAt", fn := fun _ => fun
  | [d1, d2] => { results := [.lit (.bool false)], args := [d1, d2] }
  | _ => none }
def FnExactItemAtWrongFalsely : Prop := fnExactItemAtRow.holds Try.pinned (OpenSpec.ofChange fnExactItemAtWrong)

/-- 'laws.FnExactTalkAt': WHATEVER THE INPUT: true; the input reads as it did. -/
def fnExactTalkAtSpec : ChangeSpec := { name := "fnExactTalkAt", fn := fun _ => fun
  | [d1, d2] => { results := [.lit (.bool true)], args := [d1, d2] }
  | _ => none }
def fnExactTalkAtRow : OpenClaim := { program := "ytkoohmibdaomkaa", sum := "3259701a971e20b34596e8da0cfd7b3650292bff2072bce7db5fb066cbc24d44", func := "loop.example/g00772/laws.FnExactTalkAt", spec := "fnExactTalkAt", unfollowed := true, recurses := true, apart := false }
def FnExactTalkAtSaid : Prop := fnExactTalkAtRow.holds Try.pinned (OpenSpec.ofChange fnExactTalkAtSpec)

/-- ITS FALSE NEIGHBOUR: 'it returns false'. Refute it at one input. -/
def fnExactTalkAtWrong : ChangeSpec := { name := "fnExactTalkAt", fn := fun _ => fun
  | [d1, d2] => { results := [.lit (.bool false)], args := [d1, d2] }
  | _ => none }
def FnExactTalkAtWrongFalsely : Prop := fnExactTalkAtRow.holds Try.pinned (OpenSpec.ofChange fnExactTalkAtWrong)

/-- 'laws.FnExactPutItem': WHATEVER THE INPUT: true; the input reads as it did. -/
def fnExactPutItemSpec : ChangeSpec := { name := "fnExactPutItem", fn := fun _ => fun
  | [d1, d2] => { results := [.lit (.bool true)], args := [d1, d2] }
  | _ => none }
def fnExactPutItemRow : OpenClaim := { program := "ytkoohmibdaomkaa", sum := "3259701a971e20b34596e8da0cfd7b3650292bff2072bce7db5fb066cbc24d44", func := "loop.example/g00772/laws.FnExactPutItem", spec := "fnExactPutItem", unfollowed := true, recurses := true, apart := false }
def FnExactPutItemSaid : Prop := fnExactPutItemRow.holds Try.pinned (OpenSpec.ofChange fnExactPutItemSpec)

/-- ITS FALSE NEIGHBOUR: 'it returns false'. Refute it at one input. -/
def fnExactPutItemWrong : ChangeSpec := { name := "fnExactPutItem", fn := fun _ => fun
  | [d1, d2] => { results := [.lit (.bool false)], args := [d1, d2] }
  | _ => none }
def FnExactPutItemWrongFalsely : Prop := fnExactPutItemRow.holds Try.pinned (OpenSpec.ofChange fnExactPutItemWrong)

/-- 'laws.FnExactDropItem': WHATEVER THE INPUT: true; the input reads as it did. -/
def fnExactDropItemSpec : ChangeSpec := { name := "fnExactDropItem", fn := fun _ => fun
  | [d1, d2] => { results := [.lit (.bool true)], args := [d1, d2] }
  | _ => none }
def fnExactDropItemRow : OpenClaim := { program := "ytkoohmibdaomkaa", sum := "3259701a971e20b34596e8da0cfd7b3650292bff2072bce7db5fb066cbc24d44", func := "loop.example/g00772/laws.FnExactDropItem", spec := "fnExactDropItem", unfollowed := true, recurses := true, apart := false }
def FnExactDropItemSaid : Prop := fnExactDropItemRow.holds Try.pinned (OpenSpec.ofChange fnExactDropItemSpec)

/-- ITS FALSE NEIGHBOUR: 'it returns false'. Refute it at one input. -/
def fnExactDropItemWrong : ChangeSpec := { name := "fnExactDropItem", fn := fun _ => fun
  | [d1, d2] => { results := [.lit (.bool false)], args := [d1, d2] }
  | _ => none }
def FnExactDropItemWrongFalsely : Prop := fnExactDropItemRow.holds Try.pinned (OpenSpec.ofChange fnExactDropItemWrong)

/-- 'laws.FnExactPutTalk': WHATEVER THE INPUT: true; the input reads as it did. -/
def fnExactPutTalkSpec : ChangeSpec := { name := "fnExactPutTalk", fn := fun _ => fun
  | [d1, d2] => { results := [.lit (.bool true)], args := [d1, d2] }
  | _ => none }
def fnExactPutTalkRow : OpenClaim := { program := "ytkoohmibdaomkaa", sum := "3259701a971e20b34596e8da0cfd7b3650292bff2072bce7db5fb066cbc24d44", func := "loop.example/g00772/laws.FnExactPutTalk", spec := "fnExactPutTalk", unfollowed := true, recurses := true, apart := false }
def FnExactPutTalkSaid : Prop := fnExactPutTalkRow.holds Try.pinned (OpenSpec.ofChange fnExactPutTalkSpec)

/-- ITS FALSE NEIGHBOUR: 'it returns false'. Refute it at one input. -/
def fnExactPutTalkWrong : ChangeSpec := { name := "fnExactPutTalk", fn := fun _ => fun
  | [d1, d2] => { results := [.lit (.bool false)], args := [d1, d2] }
  | _ => none }
def FnExactPutTalkWrongFalsely : Prop := fnExactPutTalkRow.holds Try.pinned (OpenSpec.ofChange fnExactPutTalkWrong)

/-- 'laws.FnExactSameState': WHATEVER THE INPUT: true; the input reads as it did. -/
def fnExactSameStateSpec : ChangeSpec := { name := "fnExactSameState", fn := fun _ => fun
  | [d1, d2] => { results := [.lit (.bool true)], args := [d1, d2] }
  | _ => none }
def fnExactSameStateRow : OpenClaim := { program := "ytkoohmibdaomkaa", sum := "3259701a971e20b34596e8da0cfd7b3650292bff2072bce7db5fb066cbc24d44", func := "loop.example/g00772/laws.FnExactSameState", spec := "fnExactSameState", apart := false }
def FnExactSameStateSaid : Prop := fnExactSameStateRow.holds Try.pinned (OpenSpec.ofChange fnExactSameStateSpec)

/-- ITS FALSE NEIGHBOUR: 'it returns false'. Refute it at one input. -/
def fnExactSameStateWrong : ChangeSpec := { name := "fnExactSameState", fn := fun _ => fun
  | [d1, d2] => { results := [.lit (.bool false)], args := [d1, d2] }
  | _ => none }
def FnExactSameStateWrongFalsely : Prop := fnExactSameStateRow.holds Try.pinned (OpenSpec.ofChange fnExactSameStateWrong)

/- THE SECOND FORM. 'bulk': how many values and letters a reading holds, each counted each time it is reached (what is shared counts as often as it is met; a slice's spare places count too). A statement '..UptoSaid' is the law's where the arguments, and the package variables that the reading takes, are together of bulk at most 1048576: NARROWER than '..Said'. Prove '..Said' where nothing that the law and all that it calls make is longer than what came in: it says more and counts as full. Else prove '..UptoSaid'. A law counts once. -/
mutual
def uptoBulk {H : Type} : DataW H → Nat
  | .lit (.string bytes) => bytes.length + 1
  | .lit _ => 1
  | .nil => 1
  | .ptr d => uptoBulk d + 1
  | .slice elems spare => uptoBulkAll elems + uptoBulkAll spare + 1
  | .agg parts => uptoBulkAll parts + 1
  | .iface _ d => uptoBulk d + 1
  | .map entries => uptoBulkEntries entries + 1
  | .held _ => 1
def uptoBulkAll {H : Type} : List (DataW H) → Nat
  | [] => 0
  | d :: r => uptoBulk d + uptoBulkAll r
def uptoBulkEntries {H : Type} : List (Lit × DataW H) → Nat
  | [] => 0
  | x :: r => uptoBulkEntry x + uptoBulkEntries r
def uptoBulkEntry {H : Type} : Lit × DataW H → Nat
  | (.string bytes, d) => bytes.length + uptoBulk d + 1
  | (_, d) => uptoBulk d + 1
 end
def uptoSmall : (H : Type) → List (DataW H) → Bool := fun _ ds => decide (uptoBulkAll ds ≤ 1048576)
def OpenSpec.upto (s : _root_.Go.ChangeSpec) : _root_.Go.OpenSpec := { _root_.Go.OpenSpec.ofChange s with cond := some uptoSmall }

/-- 'laws.FnItem', WHERE WHAT IT READS IS OF BULK AT MOST 1048576: true; the input reads as it did. -/
def fnItemUptoRow : OpenClaim := { program := "ytkoohmibdaomkaa", sum := "3259701a971e20b34596e8da0cfd7b3650292bff2072bce7db5fb066cbc24d44", func := "loop.example/g00772/laws.FnItem", spec := "fnItem", unfollowed := true, recurses := true, apart := false, narrowed := true }
def FnItemUptoSaid : Prop := fnItemUptoRow.holds Try.pinned (OpenSpec.upto fnItemSpec)

/-- 'laws.FnDrop', WHERE WHAT IT READS IS OF BULK AT MOST 1048576: true; the input reads as it did. -/
def fnDropUptoRow : OpenClaim := { program := "ytkoohmibdaomkaa", sum := "3259701a971e20b34596e8da0cfd7b3650292bff2072bce7db5fb066cbc24d44", func := "loop.example/g00772/laws.FnDrop", spec := "fnDrop", unfollowed := true, recurses := true, apart := false, narrowed := true }
def FnDropUptoSaid : Prop := fnDropUptoRow.holds Try.pinned (OpenSpec.upto fnDropSpec)

/-- 'laws.FnTalk', WHERE WHAT IT READS IS OF BULK AT MOST 1048576: true; the input reads as it did. -/
def fnTalkUptoRow : OpenClaim := { program := "ytkoohmibdaomkaa", sum := "3259701a971e20b34596e8da0cfd7b3650292bff2072bce7db5fb066cbc24d44", func := "loop.example/g00772/laws.FnTalk", spec := "fnTalk", unfollowed := true, recurses := true, apart := false, narrowed := true }
def FnTalkUptoSaid : Prop := fnTalkUptoRow.holds Try.pinned (OpenSpec.upto fnTalkSpec)

/-- 'laws.FnSame', WHERE WHAT IT READS IS OF BULK AT MOST 1048576: true; the input reads as it did. -/
def fnSameUptoRow : OpenClaim := { program := "ytkoohmibdaomkaa", sum := "3259701a971e20b34596e8da0cfd7b3650292bff2072bce7db5fb066cbc24d44", func := "loop.example/g00772/laws.FnSame", spec := "fnSame", apart := false, narrowed := true }
def FnSameUptoSaid : Prop := fnSameUptoRow.holds Try.pinned (OpenSpec.upto fnSameSpec)

/-- 'laws.FnOrder', WHERE WHAT IT READS IS OF BULK AT MOST 1048576: true; the input reads as it did. -/
def fnOrderUptoRow : OpenClaim := { program := "ytkoohmibdaomkaa", sum := "3259701a971e20b34596e8da0cfd7b3650292bff2072bce7db5fb066cbc24d44", func := "loop.example/g00772/laws.FnOrder", spec := "fnOrder", unfollowed := true, recurses := true, apart := false, narrowed := true }
def FnOrderUptoSaid : Prop := fnOrderUptoRow.holds Try.pinned (OpenSpec.upto fnOrderSpec)

/-- 'laws.FnExactStateOk', WHERE WHAT IT READS IS OF BULK AT MOST 1048576: true; the input reads as it did. -/
def fnExactStateOkUptoRow : OpenClaim := { program := "ytkoohmibdaomkaa", sum := "3259701a971e20b34596e8da0cfd7b3650292bff2072bce7db5fb066cbc24d44", func := "loop.example/g00772/laws.FnExactStateOk", spec := "fnExactStateOk", unfollowed := true, recurses := true, apart := false, narrowed := true }
def FnExactStateOkUptoSaid : Prop := fnExactStateOkUptoRow.holds Try.pinned (OpenSpec.upto fnExactStateOkSpec)

/-- 'laws.FnExactItemAt', WHERE WHAT IT READS IS OF BULK AT MOST 1048576: true; the input reads as it did. -/
def fnExactItemAtUptoRow : OpenClaim := { program := "ytkoohmibdaomkaa", sum := "3259701a971e20b34596e8da0cfd7b3650292bff2072bce7db5fb066cbc24d44", func := "loop.example/g00772/laws.FnExactItemAt", spec := "fnExactItemAt", unfollowed := true, recurses := true, apart := false, narrowed := true }
def FnExactItemAtUptoSaid : Prop := fnExactItemAtUptoRow.holds Try.pinned (OpenSpec.upto fnExactItemAtSpec)

/-- 'laws.FnExactTalkAt', WHERE WHAT IT READS IS OF BULK AT MOST 1048576: true; the input reads as it did. -/
def fnExactTalkAtUptoRow : OpenClaim := { program := "ytkoohmibdaomkaa", sum := "3259701a971e20b34596e8da0cfd7b3650292bff2072bce7db5fb066cbc24d44", func := "loop.example/g00772/laws.FnExactTalkAt", spec := "fnExactTalkAt", unfollowed := true, recurses := true, apart := false, narrowed := true }
def FnExactTalkAtUptoSaid : Prop := fnExactTalkAtUptoRow.holds Try.pinned (OpenSpec.upto fnExactTalkAtSpec)

/-- 'laws.FnExactPutItem', WHERE WHAT IT READS IS OF BULK AT MOST 1048576: true; the input reads as it did. -/
def fnExactPutItemUptoRow : OpenClaim := { program := "ytkoohmibdaomkaa", sum := "3259701a971e20b34596e8da0cfd7b3650292bff2072bce7db5fb066cbc24d44", func := "loop.example/g00772/laws.FnExactPutItem", spec := "fnExactPutItem", unfollowed := true, recurses := true, apart := false, narrowed := true }
def FnExactPutItemUptoSaid : Prop := fnExactPutItemUptoRow.holds Try.pinned (OpenSpec.upto fnExactPutItemSpec)

/-- 'laws.FnExactDropItem', WHERE WHAT IT READS IS OF BULK AT MOST 1048576: true; the input reads as it did. -/
def fnExactDropItemUptoRow : OpenClaim := { program := "ytkoohmibdaomkaa", sum := "3259701a971e20b34596e8da0cfd7b3650292bff2072bce7db5fb066cbc24d44", func := "loop.example/g00772/laws.FnExactDropItem", spec := "fnExactDropItem", unfollowed := true, recurses := true, apart := false, narrowed := true }
def FnExactDropItemUptoSaid : Prop := fnExactDropItemUptoRow.holds Try.pinned (OpenSpec.upto fnExactDropItemSpec)

/-- 'laws.FnExactPutTalk', WHERE WHAT IT READS IS OF BULK AT MOST 1048576: true; the input reads as it did. -/
def fnExactPutTalkUptoRow : OpenClaim := { program := "ytkoohmibdaomkaa", sum := "3259701a971e20b34596e8da0cfd7b3650292bff2072bce7db5fb066cbc24d44", func := "loop.example/g00772/laws.FnExactPutTalk", spec := "fnExactPutTalk", unfollowed := true, recurses := true, apart := false, narrowed := true }
def FnExactPutTalkUptoSaid : Prop := fnExactPutTalkUptoRow.holds Try.pinned (OpenSpec.upto fnExactPutTalkSpec)

/-- 'laws.FnExactSameState', WHERE WHAT IT READS IS OF BULK AT MOST 1048576: true; the input reads as it did. -/
def fnExactSameStateUptoRow : OpenClaim := { program := "ytkoohmibdaomkaa", sum := "3259701a971e20b34596e8da0cfd7b3650292bff2072bce7db5fb066cbc24d44", func := "loop.example/g00772/laws.FnExactSameState", spec := "fnExactSameState", apart := false, narrowed := true }
def FnExactSameStateUptoSaid : Prop := fnExactSameStateUptoRow.holds Try.pinned (OpenSpec.upto fnExactSameStateSpec)

end Rows
end Go.Proofs.Ytkoohmibdaomkaa
