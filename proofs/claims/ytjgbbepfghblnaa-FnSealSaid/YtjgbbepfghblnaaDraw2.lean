/- The draws of chapter 2: numbers, texts of at most 65536 bytes. Condition: none. -/
import Derived.Test.YtjgbbepfghblnaaText
import Derived.Test.YtjgbbepfghblnaaDrawInt
import Derived.Test.YtjgbbepfghblnaaName
namespace Go.Proofs.Ytjgbbepfghblnaa
open Go.RowKit
set_option linter.unusedVariables false

def DrawnPut (w : World) (e : Ending) (w' : World) : Prop := ∃ n b : Int, e = .returned (.tuple #[.int .i64 n, .int .i64 b]) ∧ (-9223372036854775808 ≤ n ∧ n ≤ 9223372036854775807) ∧ (-1 ≤ b ∧ b ≤ 5) ∧ Below w.heap.size w w'
def DrawnGet (w : World) (e : Ending) (w' : World) : Prop := ∃ (s : ByteArray) (p b : Int), e = .returned (.tuple #[.string s, .int .i64 p, .int .i64 b]) ∧ s.size ≤ 7 ∧ (-9223372036854775808 ≤ p ∧ p ≤ 9223372036854775807) ∧ (-1 ≤ b ∧ b ≤ 5) ∧ Below w.heap.size w w'

set_option maxHeartbeats 1000000 in
theorem drawPutNum_any (a : Option Addr) (len cap : Nat) (zs : List Int) (w : World) (hr : Row8 w w.heap.size a len cap zs) (hl : len ≤ 1048576) :
    Calls Try.prog 16 #[.slice a len cap] w (DrawnPut w) := by
  go_enter Try.func16, Try.ntmps16
  go_wp2_with (go_at_call 41; refine (new_any a len cap zs _ hr hl).mono ?_; rintro e w1 ⟨rfl, hc, hb⟩; refine Hid.out ?_)
  refine Lib.hid ?_
  have hsz := hb.size
  go_wp2_with (go_at_call 42; refine (int_any _ _ _ hc).mono ?_; rintro e w2 ⟨n, ⟨n', hn, hn0, hn1⟩, rfl, hc2, hg2⟩; obtain rfl : n = n' := (by simpa using hn); clear hn; refine Hid.out ?_)
  refine Lib.hid ?_
  have hb2 := below_grown hb hg2 (Nat.le_refl _) hsz
  have hsz2 := hb2.size
  clear hc hg2
  go_wp2_with (go_at_call 43; refine (below_any _ (by omega) _ _ _ hc2).mono ?_; rintro e w3 ⟨x, ⟨hx0, hx1, _⟩, rfl, hc3, hg3⟩; refine Hid.out ?_)
  refine Lib.hid ?_
  have hx1 := hx1 (by omega)
  go_wp2_with fail
  go_ret2
  exact ⟨n, x - 1, rfl, ⟨hn0, hn1⟩, by omega, below_grown hb2 hg3 (Nat.le_refl _) hsz2⟩

set_option maxHeartbeats 1000000 in
theorem drawGetNum_any (a : Option Addr) (len cap : Nat) (zs : List Int) (w : World) (hr : Row8 w w.heap.size a len cap zs) (hl : len ≤ 1048576) :
    Calls Try.prog 18 #[.slice a len cap] w (DrawnGet w) := by
  go_enter Try.func18, Try.ntmps18
  go_wp2_with (go_at_call 41; refine (new_any a len cap zs _ hr hl).mono ?_; rintro e w1 ⟨rfl, hc, hb⟩; refine Hid.out ?_)
  refine Lib.hid ?_
  have hsz := hb.size
  go_wp2_with (go_at_call 43; refine (below_any _ (by omega) _ _ _ hc).mono ?_; rintro e w2 ⟨x, ⟨hx0, hx1, _⟩, rfl, hc2, hg2⟩; refine Hid.out ?_)
  refine Lib.hid ?_
  have hx1 := hx1 (by omega)
  obtain ⟨n, rfl⟩ := Int.eq_ofNat_of_zero_le hx0
  have hb2 := below_grown hb hg2 (Nat.le_refl _) hsz
  have hsz2 := hb2.size
  clear hc hg2
  go_wp2_with (go_at_call 46; refine (text_any n (by omega) _ _ _ hc2).mono ?_; rintro e w3 ⟨s, hs, rfl, hc3, hg3⟩; refine Hid.out ?_)
  refine Lib.hid ?_
  have hb3 := below_grown hb2 hg3 (Nat.le_refl _) hsz2
  have hsz3 := hb3.size
  clear hc2 hg3
  have hlt := hc3.lt
  have hc := Lib.hid (hc3.alloc (.cells #[.int .i64 0, .int .i64 0, .int .i64 1, .int .i64 2, .int .i64 (-1), .int .i64 s.size, .int .i64 9223372036854775807] 3))
  have hl := Lib.hid (lit_ints w3 [.int .i64 0, .int .i64 0, .int .i64 1, .int .i64 2, .int .i64 (-1), .int .i64 s.size, .int .i64 9223372036854775807] 3 I64 (by
    intro v hv
    simp only [List.mem_cons, List.not_mem_nil, or_false] at hv
    rcases hv with rfl | rfl | rfl | rfl | rfl | rfl | rfl
    all_goals exact I64.mk (by omega) (by omega)))
  have hb3' := hb3.alloc hsz3 (.cells #[.int .i64 0, .int .i64 0, .int .i64 1, .int .i64 2, .int .i64 (-1), .int .i64 s.size, .int .i64 9223372036854775807] 3)
  have hsz3' := hb3'.size
  have Hb3' := Lib.hid hb3'
  have Hsz3' := Lib.hid hsz3'
  clear hc3 hb3' hsz3'
  go_wp2_with (go_at_call 47; refine (pickInt_any I64 w3.heap.size 7 7 (by omega) (by omega) _ _ _ (by omega) hl.out hc.out).mono ?_; rintro e w4 ⟨p, ⟨p', hp, hp0, hp1⟩, rfl, hc4, hg4⟩; obtain rfl : p = p' := (by simpa using hp); clear hp; refine Hid.out ?_)
  refine Lib.hid ?_
  have hb4 := below_grown Hb3'.out hg4 (Nat.le_refl _) Hsz3'.out
  have hsz4 := hb4.size
  clear hc hl hg4
  go_wp2_with (go_at_call 43; refine (below_any _ (by omega) _ _ _ hc4).mono ?_; rintro e w5 ⟨x, ⟨hx0, hx1, _⟩, rfl, hc5, hg5⟩; refine Hid.out ?_)
  refine Lib.hid ?_
  have hx1 := hx1 (by omega)
  go_wp2_with fail
  refine bodyPost_ret (results_tmp3 rfl _ _ _) rfl ?_
  exact ⟨s, p, x - 1, rfl, by omega, ⟨hp0, hp1⟩, by omega, below_grown hb4 hg5 (Nat.le_refl _) hsz4⟩
end Go.Proofs.Ytjgbbepfghblnaa
