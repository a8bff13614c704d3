/- The draws of one number. Condition: none. -/
import Derived.Test.YtlklhmdpkicpnaaCurA
namespace Go.Proofs.Ytlklhmdpkicpnaa
open Go.RowKit
set_option linter.unusedVariables false

set_option maxHeartbeats 400000 in
theorem int_any (B blk : Nat) (w : World) (c : Cu TC w B blk) :
    Calls Try.prog 82 #[.pointer (some ⟨blk, 0, none⟩)] w (DrewInt TC w B blk (fun n => I64 (.int .i64 n))) := by
  go_enter Try.func82, Try.ntmps82
  go_wp2_with (go_at_call 63; refine (below_any _ (by omega) B blk _ c).mono ?_; rintro e w1 ⟨x, ⟨hx0, hx1, _⟩, rfl, hc, hg⟩; refine Hid.out ?_)
  refine Lib.hid ?_
  have hx1 := hx1 (by omega)
  have hlt := hc.lt
  have hc := Lib.hid (hc.alloc (.cells #[.int .i64 0, .int .i64 1, .int .i64 (-1), .int .i64 255, .int .i64 65536, .int .i64 999999999, .int .i64 1000000000, .int .i64 9223372036854775807, .int .i64 (-9223372036854775808), .int .i64 x] 3))
  have hl := Lib.hid (lit_ints w1 [.int .i64 0, .int .i64 1, .int .i64 (-1), .int .i64 255, .int .i64 65536, .int .i64 999999999, .int .i64 1000000000, .int .i64 9223372036854775807, .int .i64 (-9223372036854775808), .int .i64 x] 3 I64 (by
    intro v hv
    simp only [List.mem_cons, List.not_mem_nil, or_false] at hv
    rcases hv with rfl | rfl | rfl | rfl | rfl | rfl | rfl | rfl | rfl | rfl
    all_goals exact I64.mk (by omega) (by omega)))
  go_wp2_with (go_at_call 65; refine (pickInt_any I64 w1.heap.size 10 10 (by omega) (by omega) B blk _ (by omega) hl.out hc.out).mono ?_; rintro e w2 ⟨y, hy, rfl, hc2, hg2⟩)
  go_ret
  exact ⟨y, hy, rfl, hc2, hg.trans ((World.grownBy_alloc _ _ _).trans hg2)⟩
end Go.Proofs.Ytlklhmdpkicpnaa
