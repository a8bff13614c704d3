/- The draw of a text and a place for GetText. Condition: none. -/
import Derived.Test.YtjgbbepfghblnaaDraw2b
import Derived.Test.YtjgbbepfghblnaaTextNum
namespace Go.Proofs.Ytjgbbepfghblnaa
open Go.RowKit
set_option linter.unusedVariables false

def DrawnGetText (w : World) (e : Ending) (w' : World) : Prop := ∃ (s : ByteArray) (p : Int), e = .returned (.tuple #[.string s, .int .i64 p]) ∧ s.size ≤ 100 ∧ (-9223372036854775808 ≤ p ∧ p ≤ 9223372036854775807) ∧ Below w.heap.size w w'
theorem putTextB_le (t : ByteArray) : (putTextB t).size ≤ t.size + 2 := by
  unfold putTextB
  split
  · exact Nat.zero_le _
  · rw [ByteArray.size_append, putN_size]; omega

set_option maxHeartbeats 2000000 in
theorem drawGetText_any (a : Option Addr) (len cap : Nat) (zs : List Int) (w : World) (hr : Row8 w w.heap.size a len cap zs) (hl : len ≤ 1048576) :
    Calls Try.prog 24 #[.slice a len cap] w (DrawnGetText w) := by
  go_enter Try.func24, Try.ntmps24
  go_wp2_with (go_at_call 41; refine (new_any a len cap zs _ hr hl).mono ?_; rintro e w1 ⟨rfl, hc1, hb1⟩; refine Hid.out ?_)
  refine Lib.hid ?_
  have hsz1 := hb1.size
  go_wp2_with (go_at_call 50; refine (pick_lit 2 _ _ 2 2 w1 _ _ hc1 rfl (by decide) (by decide) rfl).mono ?_; rintro e w2 ⟨head, hhead, rfl, hc2, hg2⟩; refine Hid.out ?_)
  refine Lib.hid ?_
  have hb2 := below_grown hb1 hg2 (Nat.le_refl _) hsz1
  have hsz2 := hb2.size
  clear hc1 hg2
  go_wp2_with (go_at_call 43; refine (below_any _ (by omega) _ _ _ hc2).mono ?_; rintro e w3 ⟨x, ⟨hx0, hx1, _⟩, rfl, hc3, hg3⟩; refine Hid.out ?_)
  refine Lib.hid ?_
  have hx1 := hx1 (by omega)
  obtain ⟨n, rfl⟩ := Int.eq_ofNat_of_zero_le hx0
  have hb3 := below_grown hb2 hg3 (Nat.le_refl _) hsz2
  have hsz3 := hb3.size
  clear hc2 hg3
  go_wp2_with (go_at_call 46; refine (text_any n (by omega) _ _ _ hc3).mono ?_; rintro e w4 ⟨t, ht, rfl, hc4, hg4⟩; refine Hid.out ?_)
  refine Lib.hid ?_
  have hb4 := below_grown hb3 hg4 (Nat.le_refl _) hsz3
  have hsz4 := hb4.size
  clear hc3 hg4
  have hz : (putTextB t).size ≤ t.size + 2 := putTextB_le t
  have hlt4 := hc4.lt
  go_wp2_with (go_at_call 27; refine (spec_putText _ _ (by unfold maxLen; omega)).mono ?_; rintro e w5 ⟨rfl, hf⟩; refine Hid.out ?_)
  refine Lib.hid ?_
  have hc5 := hc4.kept_below hf hsz4 hlt4
  have hb5 := hb4.trans (hf.mono hsz4)
  have hsz5 := hb5.size
  clear hc4 hf
  go_wp2_with (go_at_call 51; refine (bent_any _ (10) (by omega) (by omega) _ _ _ hc5).mono ?_; rintro e w6 ⟨u, hu, rfl, hc6, hg6⟩; refine Hid.out ?_)
  refine Lib.hid ?_
  have hb6 := below_grown hb5 hg6 (Nat.le_refl _) hsz5
  have hsz6 := hb6.size
  clear hc5 hg6
  go_wp2_with (go_at_call 50; refine (pick_lit 4 _ _ 2 2 w6 _ _ hc6 rfl (by decide) (by decide) rfl).mono ?_; rintro e w7 ⟨tail, htail, rfl, hc7, hg7⟩; refine Hid.out ?_)
  refine Lib.hid ?_
  have hb7 := below_grown hb6 hg7 (Nat.le_refl _) hsz6
  have hsz7 := hb7.size
  clear hc6 hg7
  obtain ⟨S, hS⟩ : ∃ S, S = head ++ u ++ tail := ⟨_, rfl⟩
  have hSz : S.size ≤ 100 := by rw [hS, ByteArray.size_append, ByteArray.size_append]; omega
  have HS := Lib.hid hS
  have hlt := hc7.lt
  have hc := Lib.hid (hc7.alloc (.cells #[.int .i64 head.size, .int .i64 head.size, .int .i64 head.size, .int .i64 0, .int .i64 (-1), .int .i64 ((head.size : Int) + (u.size : Int) + (tail.size : Int)), .int .i64 9223372036854775807] 3))
  have hl := Lib.hid (lit_ints w7 [.int .i64 head.size, .int .i64 head.size, .int .i64 head.size, .int .i64 0, .int .i64 (-1), .int .i64 ((head.size : Int) + (u.size : Int) + (tail.size : Int)), .int .i64 9223372036854775807] 3 I64 (by
    intro v hv
    simp only [List.mem_cons, List.not_mem_nil, or_false] at hv
    rcases hv with rfl | rfl | rfl | rfl | rfl | rfl | rfl
    all_goals exact I64.mk (by omega) (by omega)))
  have hb' := hb7.alloc hsz7 (.cells #[.int .i64 head.size, .int .i64 head.size, .int .i64 head.size, .int .i64 0, .int .i64 (-1), .int .i64 ((head.size : Int) + (u.size : Int) + (tail.size : Int)), .int .i64 9223372036854775807] 3)
  have Hb' := Lib.hid hb'
  have Hsz' := Lib.hid hb'.size
  clear hc7 hb' hS
  go_wp2_with (go_at_call 47; refine (pickInt_any I64 w7.heap.size 7 7 (by omega) (by omega) _ _ _ (by omega) hl.out hc.out).mono ?_; rintro e w9 ⟨p, ⟨p', hp, hp0, hp1⟩, rfl, hc9, hg9⟩; obtain rfl : p = p' := (by simpa using hp); clear hp; refine Hid.out ?_)
  refine Lib.hid ?_
  have hb9 := below_grown Hb'.out hg9 (Nat.le_refl _) Hsz'.out
  clear hc hl hg9
  go_wp2_with fail
  go_ret2
  exact ⟨_, p, rfl, by rw [← HS.out]; omega, ⟨hp0, hp1⟩, hb9⟩
end Go.Proofs.Ytjgbbepfghblnaa
