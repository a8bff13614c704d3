/- The draw of a number out of a row. Condition: none. -/
import Derived.Test.YtkkmjlpeahkiaaaCur
namespace Go.Proofs.Ytkkmjlpeahkiaaa
open Go.RowKit
set_option linter.unusedVariables false

set_option maxHeartbeats 400000 in
theorem pickInt_any (Q : Value → Prop) (g n cap : Nat) (hn : 1 ≤ n) (hn' : n ≤ 1000000) (B blk : Nat) (w : World) (hne : g ≠ blk) (hl : ∀ j, j < n → ∃ s : Int, w.cell? ⟨g, j, none⟩ = some (.int .i64 s) ∧ Q (.int .i64 s)) (c : Cu TC w B blk) :
    Calls Try.prog 69 #[.pointer (some ⟨blk, 0, none⟩), .slice (some ⟨g, 0, none⟩) n cap] w (DrewInt TC w B blk (fun x => Q (.int .i64 x))) := by
  have hl := Lib.hid hl
  go_enter Try.func69, Try.ntmps69
  go_wp2_with (go_at_call 68; refine (below_any n (by omega) B blk _ c).mono ?_; rintro e w' ⟨x, ⟨hx0, hx1, _⟩, rfl, hc, hg⟩; refine Hid.out ?_)
  refine Lib.hid ?_
  have hx1 := hx1 (by omega)
  obtain ⟨k, rfl⟩ := Int.eq_ofNat_of_zero_le hx0
  obtain ⟨s, hs, hq⟩ := hl.out k (by omega)
  have hcell := hg.cell hs (by simp; exact hne)
  have hc := Lib.hid hc
  clear hs
  go_wp2_with fail
  go_ret
  exact ⟨_, hq, rfl, hc.out, hg⟩

def I64 (v : Value) : Prop := ∃ n : Int, v = .int .i64 n ∧ -9223372036854775808 ≤ n ∧ n ≤ 9223372036854775807
theorem I64.mk {n : Int} (h0 : -9223372036854775808 ≤ n) (h1 : n ≤ 9223372036854775807) : ∃ m : Int, Value.int .i64 n = .int .i64 m ∧ I64 (.int .i64 n) := ⟨n, rfl, n, rfl, h0, h1⟩
end Go.Proofs.Ytkkmjlpeahkiaaa
