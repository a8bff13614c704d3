/- The draws of chapter 2: numbers, texts of at most 65536 bytes. Condition: none. -/
import Derived.Test.YtlklhmdpkicpnaaText
import Derived.Test.YtlklhmdpkicpnaaDrawInt
import Derived.Test.YtlklhmdpkicpnaaCurA
namespace Go.Proofs.Ytlklhmdpkicpnaa
open Go.RowKit
set_option linter.unusedVariables false

def DrawnPut (w : World) (e : Ending) (w' : World) : Prop := ∃ n b : Int, e = .returned (.tuple #[.int .i64 n, .int .i64 b]) ∧ (-9223372036854775808 ≤ n ∧ n ≤ 9223372036854775807) ∧ (-1 ≤ b ∧ b ≤ 5) ∧ Below w.heap.size w w'
def DrawnGet (w : World) (e : Ending) (w' : World) : Prop := ∃ (s : ByteArray) (p b : Int), e = .returned (.tuple #[.string s, .int .i64 p, .int .i64 b]) ∧ s.size ≤ 7 ∧ (-9223372036854775808 ≤ p ∧ p ≤ 9223372036854775807) ∧ (-1 ≤ b ∧ b ≤ 5) ∧ Below w.heap.size w w'

end Go.Proofs.Ytlklhmdpkicpnaa
