/- The law FnPart: each name is in one part. Condition: none. -/
import Derived.Test.YtfhalcmpamnapaaBig
import Derived.Test.YtfhalcmpamnapaaName
import Derived.Test.YtfhalcmpamnapaaPickInt
import Derived.Test.YtfhalcmpamnapaaPartOf
namespace Go.Proofs.Ytfhalcmpamnapaa
open Go.RowKit
set_option linter.unusedVariables false

def DrawnPart (w : World) (e : Ending) (w' : World) : Prop := ∃ (s : ByteArray) (n : Int), e = .returned (.tuple #[.string s, .int .i64 n]) ∧ s.size ≤ 5 ∧ (-9223372036854775808 ≤ n ∧ n ≤ 9223372036854775807) ∧ Below w.heap.size w w'
set_option maxHeartbeats 1000000 in
theorem drawPartOf_any (a : Option Addr) (len cap : Nat) (zs : List Int) (w : World) (hr : Row8 w w.heap.size a len cap zs) (hl : len ≤ 1048576) :
    Calls Try.prog 12 #[.slice a len cap] w (DrawnPart w) := by
  go_enter Try.func12, Try.ntmps12
  go_wp2_with (go_at_call 41; refine (new_any a len cap zs _ hr hl).mono ?_; rintro e w1 ⟨rfl, hc, hb⟩; refine Hid.out ?_)
  refine Lib.hid ?_
  have hsz := hb.size
  go_wp2_with (go_at_call 42; refine (name_any _ _ _ hc).mono ?_; rintro e w3 ⟨s, hs, rfl, hc3, hg3⟩; refine Hid.out ?_)
  refine Lib.hid ?_
  have hb3 := below_grown hb hg3 (Nat.le_refl _) hsz
  have hsz3 := hb3.size
  clear hc hg3
  have hlt := hc3.lt
  have hc := Lib.hid (hc3.alloc (.cells #[.int .i64 1, .int .i64 2, .int .i64 3, .int .i64 8, .int .i64 0, .int .i64 9, .int .i64 (-1)] 3))
  have hl := Lib.hid (lit_ints w3 [.int .i64 1, .int .i64 2, .int .i64 3, .int .i64 8, .int .i64 0, .int .i64 9, .int .i64 (-1)] 3 I64 (by
    intro v hv
    simp only [List.mem_cons, List.not_mem_nil, or_false] at hv
    rcases hv with rfl | rfl | rfl | rfl | rfl | rfl | rfl
    all_goals exact I64.mk (by omega) (by omega)))
  have hb3' := hb3.alloc hsz3 (.cells #[.int .i64 1, .int .i64 2, .int .i64 3, .int .i64 8, .int .i64 0, .int .i64 9, .int .i64 (-1)] 3)
  have hsz3' := hb3'.size
  have Hb3' := Lib.hid hb3'
  have Hsz3' := Lib.hid hsz3'
  clear hc3 hb3' hsz3'
  go_wp2_with (go_at_call 43; refine (pickInt_any I64 w3.heap.size 7 7 (by omega) (by omega) _ _ _ (by omega) hl.out hc.out).mono ?_; rintro e w4 ⟨p, ⟨p', hp, hp0, hp1⟩, rfl, hc4, hg4⟩; obtain rfl : p = p' := (by simpa using hp); clear hp; refine Hid.out ?_)
  refine Lib.hid ?_
  go_wp2_with fail
  go_ret2
  exact ⟨s, p, rfl, by omega, ⟨hp0, hp1⟩, below_grown Hb3'.out hg4 (Nat.le_refl _) Hsz3'.out⟩

set_option maxHeartbeats 4000000 in
theorem law_part (a : Option Addr) (len cap : Nat) (zs : List Int) (w : World) (hr : IsRow .u8 w a len cap zs) :
    Calls Try.prog 3 #[.slice a len cap] w fun e w' => e = .returned (.bool true) ∧ Below w.heap.size w w' := by
  have hr := row8_of hr
  by_cases hbig : 1048576 < len
  · have hd : decide (1048576 < len) = true := by simpa using hbig
    go_enter Try.func3, Try.ntmps3
    go_wp2_with (go_at_call 11; refine (big_any _ _ _ _).mono ?_; rintro e w' ⟨rfl, rfl⟩)
    go_ret
    exact ⟨rfl, Below.refl _ _⟩
  · have hd : decide (1048576 < len) = false := by simpa using hbig
    have hlen : len ≤ 1048576 := by omega
    go_enter Try.func3, Try.ntmps3
    go_wp2_with (first | (go_at_call 11; refine (big_any _ _ _ _).mono ?_; rintro e w' ⟨rfl, rfl⟩) | (go_at_call 12; refine (drawPartOf_any a len cap zs _ hr hlen).mono ?_; rintro e w1 ⟨s, n, rfl, hs, hn, hb1⟩; refine Hid.out ?_))
    refine Lib.hid ?_
    have Hs := Lib.hid (show s.size ≤ maxLen by unfold maxLen; omega)
    have hlo := partN_lo s n
    cases hin : inB n 1 8
    case' false =>
      have hoff := partN_off (key := s) hin
      have hn8 : n < 1 ∨ 8 < n := by simp [inB] at hin; omega
      clear hlo
      rcases hn8 with h | h
      · have h1 : decide (n < 1) = true := by simpa using h
        clear hin
        go_wp2_with (first | (go_at_call 14; refine (spec_partOf _ _ _ Hs.out).mono ?_; rintro e w' ⟨rfl, rfl⟩; rw [hoff]) | (go_at_call 13; refine (impl_partOf _ _ _ Hs.out).mono ?_; rintro e w' ⟨rfl, rfl⟩; rw [hoff]))
        go_ret
        exact ⟨rfl, hb1⟩
      · have h0 : decide (n < 1) = false := by simp; omega
        have h1 : decide (8 < n) = true := by simpa using h
        clear hin
        go_wp2_with (first | (go_at_call 14; refine (spec_partOf _ _ _ Hs.out).mono ?_; rintro e w' ⟨rfl, rfl⟩; rw [hoff]) | (go_at_call 13; refine (impl_partOf _ _ _ Hs.out).mono ?_; rintro e w' ⟨rfl, rfl⟩; rw [hoff]))
        go_ret
        exact ⟨rfl, hb1⟩
    case' true =>
      have hhi := partN_hi (key := s) hin
      have hmod := Lib.hid (partN_in (key := s) hin)
      have hX := Lib.hid (hashN_lt s.data.toList)
      have hn8 : 1 ≤ n ∧ n ≤ 8 := by simpa [inB] using hin
      have h0 : decide (n < 1) = false := by simp; omega
      have h1 : decide (8 < n) = false := by simp; omega
      clear hin
      generalize hk : partN s n = k at *
      go_wp2_with (first | (go_at_call 14; refine (spec_partOf _ _ _ Hs.out).mono ?_; rintro e w' ⟨rfl, rfl⟩; rw [hk]) | (go_at_call 13; refine (impl_partOf _ _ _ Hs.out).mono ?_; rintro e w' ⟨rfl, rfl⟩; rw [hk]) | (go_at_call 15; refine (impl_hash _ _ Hs.out).mono ?_; rintro e w' ⟨rfl, rfl⟩; generalize hashN s.data.toList = X at hmod hX ⊢; replace hX := hX.out; replace hmod := hmod.out))
      go_ret
      exact ⟨rfl, hb1⟩
end Go.Proofs.Ytfhalcmpamnapaa
