/- The draws of chapter 1's numbers, and the law FnDec. Conditions: the table of powers of ten and the two errors of strconv read as their initialisers lay them. -/
import Derived.Test.YtcehmcnkalilnaaDoorRows
import Derived.Test.YtcehmcnkalilnaaDoorCur
import Derived.Test.YtcehmcnkalilnaaDoorReadDec
import Derived.WalkKit
import Derived.WalkSpells
import Derived.WalkLawsBesides
import Derived.LoopTactic
import Derived.Lib.Hide
import Derived.Deep.QuietTactic
import Derived.BigQuiet
namespace Go.Proofs.YtcehmcnkalilnaaDoor
open Go.RowKit
set_option linter.unusedVariables false

set_option maxHeartbeats 400000 in
theorem pickInt_any (Q : Value → Prop) (g n cap : Nat) (hn : 1 ≤ n) (hn' : n ≤ 1000000) (B blk : Nat) (w : World) (hne : g ≠ blk) (hl : ∀ j, j < n → ∃ s : Int, w.cell? ⟨g, j, none⟩ = some (.int .i64 s) ∧ Q (.int .i64 s)) (c : Cu TC w B blk) :
    Calls Tryd.prog 21 #[.pointer (some ⟨blk, 0, none⟩), .slice (some ⟨g, 0, none⟩) n cap] w (DrewInt TC w B blk (fun x => Q (.int .i64 x))) := by
  have hl := Lib.hid hl
  go_enter Tryd.func21, Tryd.ntmps21
  go_wp2_with (go_at_call 18; refine (below_any n (by omega) B blk _ c).mono ?_; rintro e w' ⟨x, ⟨hx0, hx1, _⟩, rfl, hc, hg⟩; refine Hid.out ?_)
  refine Lib.hid ?_
  have hx1 := hx1 (by omega)
  obtain ⟨k, rfl⟩ := Int.eq_ofNat_of_zero_le hx0
  obtain ⟨s, hs, hq⟩ := hl.out k (by omega)
  have hcell := hg.cell hs (by simp; exact hne)
  have hc := Lib.hid hc
  clear hs
  go_wp2_with fail
  go_ret
  exact ⟨_, hq, rfl, hc.out, hg⟩

def I64 (v : Value) : Prop := ∃ n : Int, v = .int .i64 n ∧ -9223372036854775808 ≤ n ∧ n ≤ 9223372036854775807
theorem I64.mk {n : Int} (h0 : -9223372036854775808 ≤ n) (h1 : n ≤ 9223372036854775807) : ∃ m : Int, Value.int .i64 n = .int .i64 m ∧ I64 (.int .i64 n) := ⟨n, rfl, n, rfl, h0, h1⟩

set_option maxHeartbeats 400000 in
theorem int_any (B blk : Nat) (w : World) (c : Cu TC w B blk) :
    Calls Tryd.prog 14 #[.pointer (some ⟨blk, 0, none⟩)] w (DrewInt TC w B blk (fun n => I64 (.int .i64 n))) := by
  go_enter Tryd.func14, Tryd.ntmps14
  go_wp2_with (go_at_call 18; refine (below_any _ (by omega) B blk _ c).mono ?_; rintro e w1 ⟨x, ⟨hx0, hx1, _⟩, rfl, hc, hg⟩; refine Hid.out ?_)
  refine Lib.hid ?_
  have hx1 := hx1 (by omega)
  have hlt := hc.lt
  have hc := Lib.hid (hc.alloc (.cells #[.int .i64 0, .int .i64 1, .int .i64 (-1), .int .i64 255, .int .i64 65536, .int .i64 999999999, .int .i64 1000000000, .int .i64 9223372036854775807, .int .i64 (-9223372036854775808), .int .i64 x] 3))
  have hl := Lib.hid (lit_ints w1 [.int .i64 0, .int .i64 1, .int .i64 (-1), .int .i64 255, .int .i64 65536, .int .i64 999999999, .int .i64 1000000000, .int .i64 9223372036854775807, .int .i64 (-9223372036854775808), .int .i64 x] 3 I64 (by
    intro v hv
    simp only [List.mem_cons, List.not_mem_nil, or_false] at hv
    rcases hv with rfl | rfl | rfl | rfl | rfl | rfl | rfl | rfl | rfl | rfl
    all_goals exact I64.mk (by omega) (by omega)))
  go_wp2_with (go_at_call 21; refine (pickInt_any I64 w1.heap.size 10 10 (by omega) (by omega) B blk _ (by omega) hl.out hc.out).mono ?_; rintro e w2 ⟨y, hy, rfl, hc2, hg2⟩)
  go_ret
  exact ⟨y, hy, rfl, hc2, hg.trans ((World.grownBy_alloc _ _ _).trans hg2)⟩

theorem drawDecText_any (a : Option Addr) (len cap : Nat) (zs : List Int) (w : World) (hr : Row8 w w.heap.size a len cap zs) (hl : len ≤ 1048576) :
    Calls Tryd.prog 7 #[.slice a len cap] w (DrawnInt w) := by
  go_enter Tryd.func7, Tryd.ntmps7
  go_wp2_with (go_at_call 13; refine (new_any a len cap zs _ hr hl).mono ?_; rintro e w1 ⟨rfl, hc, hb⟩; refine Hid.out ?_)
  refine Lib.hid ?_
  have hsz := hb.size
  go_wp2_with (go_at_call 14; refine (int_any _ _ _ hc).mono ?_; rintro e w2 ⟨n, hi, rfl, hc2, hg2⟩)
  go_ret
  obtain ⟨m, hm, h0, h1⟩ := hi
  cases hm
  exact ⟨n, rfl, h0, h1, below_grown hb hg2 (Nat.le_refl _) hsz⟩

set_option maxHeartbeats 400000 in
theorem drawReadDec_any (a : Option Addr) (len cap : Nat) (zs : List Int) (w : World) (hr : Row8 w w.heap.size a len cap zs) (hl : len ≤ 1048576) :
    Calls Tryd.prog 9 #[.slice a len cap] w (DrawnText 30 w) := by
  go_enter Tryd.func9, Tryd.ntmps9
  go_wp2_with (go_at_call 13; refine (new_any a len cap zs _ hr hl).mono ?_; rintro e w1 ⟨rfl, hc, hb⟩; refine Hid.out ?_)
  refine Lib.hid ?_
  have hsz := hb.size
  go_wp2_with (go_at_call 16; refine (once_any _ (by omega) _ _ _ hc).mono ?_; rintro e w2 ⟨b, rfl, hc2, hg2⟩; refine Hid.out ?_)
  refine Lib.hid ?_
  have hb2 := below_grown hb hg2 (Nat.le_refl _) hsz
  have hlt2 := hc2.lt
  cases b
  · go_wp2_with (first | (go_at_call 18; refine (below_any _ (by omega) _ _ _ hc2).mono ?_; rintro e w3 ⟨x, ⟨hx0, hx1, _⟩, rfl, hc3, hg3⟩) | (go_at_call 10; refine (spec_decText x (by omega) (by omega) _).mono ?_; rintro e w4 ⟨rfl, rfl⟩))
    go_ret
    exact ⟨_, rfl, by have := Lib.itoa_length_le x (by omega) (by omega); show (Lib.itoa x).toArray.size ≤ 30; simp; omega, below_grown hb2 hg3 (Nat.le_refl _) (by omega)⟩
  · go_wp2_with (go_at_call 17; refine (pick_lit 30 _ _ 8 8 w2 _ _ hc2 rfl (by decide) (by decide) rfl).mono ?_; rintro e w3 ⟨s, hs, rfl, hc3, hg3⟩)
    go_ret
    exact ⟨s, rfl, hs, below_grown hb2 hg3 (Nat.le_refl _) (by omega)⟩

theorem readDec_eq (s : ByteArray) (v : Int) (w : World) (hs : s.size ≤ 281474976710656) (hT : Pow10 w.heap.size w) (hE : Errs w) (hv : rd s.data.toList = v) :
    Calls Tryd.prog 11 #[.string s] w fun e w' => e = .returned (.int .i64 v) ∧ Below w.heap.size w w' := by
  subst hv; exact impl_readDec s w hs hT hE

theorem big_any (a : Option Addr) (len cap : Nat) (w : World) : Calls Tryd.prog 6 #[.slice a len cap] w fun e w' => e = .returned (.bool (decide (1048576 < len))) ∧ w = w' := by
  go_enter Tryd.func6, Tryd.ntmps6
  go_wp2
  go_ret
  exact ⟨ret_bool (by simp; omega), rfl⟩

set_option maxHeartbeats 1000000 in
/-- The law's walk. -/
theorem law_dec (a : Option Addr) (len cap : Nat) (zs : List Int) (w : World) (hr : IsRow .u8 w a len cap zs) (hT : Pow10 w.heap.size w) (hE : Errs w) :
    Calls Tryd.prog 3 #[.slice a len cap] w fun e w' => e = .returned (.bool true) ∧ Below w.heap.size w w' := by
  have hr := row8_of hr
  by_cases hbig : 1048576 < len
  · have hd : decide (1048576 < len) = true := by simpa using hbig
    go_enter Tryd.func3, Tryd.ntmps3
    go_wp2_with (go_at_call 6; refine (big_any _ _ _ _).mono ?_; rintro e w' ⟨rfl, rfl⟩)
    go_ret
    exact ⟨rfl, Below.refl _ _⟩
  · have hd : decide (1048576 < len) = false := by simpa using hbig
    have hlen : len ≤ 1048576 := by omega
    go_enter Tryd.func3, Tryd.ntmps3
    go_wp2_with (first | (go_at_call 6; refine (big_any _ _ _ _).mono ?_; rintro e w' ⟨rfl, rfl⟩) | (go_at_call 7; refine (drawDecText_any a len cap zs _ hr hlen).mono ?_; rintro e w1 ⟨n, rfl, h0, h1, hb1⟩; refine Hid.out ?_))
    refine Lib.hid ?_
    have hT1 := hT.on hb1
    have hr1 := hr.later hb1
    go_wp2_with (first | (go_at_call 8; refine (impl_decText n h0 h1 _ _ hb1.size hT1).mono ?_; rintro e w2 ⟨rfl, hb2⟩; refine Hid.out ?_))
    refine Lib.hid ?_
    have hb2 := hb1.trans hb2
    have hr2 := hr.later hb2
    go_wp2_with (go_at_call 9; refine (drawReadDec_any a len cap zs _ hr2 hlen).mono ?_; rintro e w3 ⟨r, rfl, hrs, hb3⟩; refine Hid.out ?_)
    refine Lib.hid ?_
    have hb3 := hb2.trans (hb3.mono hb2.size)
    have hT3 := pow10_later hT hb3
    have hE3 := hE.later hb3
    have hrm : r.size ≤ maxLen := by unfold maxLen; omega
    go_wp2_with (first | (go_at_call 10; refine (spec_decText n h0 h1 _).mono ?_; rintro e w' ⟨rfl, rfl⟩) | (go_at_call 11; refine (impl_readDec r _ (by omega) hT3 hE3).mono ?_; rintro e w4 ⟨rfl, hb4⟩) | (go_at_call 12; refine (spec_readDec r _ hrm).mono ?_; rintro e w5 ⟨rfl, rfl⟩; refine Hid.out ?_))
    refine Lib.hid ?_
    have hb4 := hb3.trans (hb4.mono hb3.size)
    have hT4 := pow10_later hT hb4
    have hE4 := hE.later hb4
    have hsz : (⟨(Lib.itoa n).toArray⟩ : ByteArray).size ≤ 281474976710656 := by have := Lib.itoa_length_le n h0 h1; show (Lib.itoa n).toArray.size ≤ _; simp; omega
    have hsz := Lib.hid hsz
    by_cases g0 : 0 ≤ n
    · by_cases g1 : n ≤ 999999999
      · have hk := Lib.hid (rd_itoa_in n g0 g1)
        go_wp2_with (go_at_call 11; refine (readDec_eq _ n _ hsz.out hT4 hE4 hk.out).mono ?_; rintro e w6 ⟨rfl, hb6⟩)
        go_ret
        exact ⟨rfl, hb4.trans (hb6.mono hb4.size)⟩
      · have hk := Lib.hid (rd_itoa_out n (by omega))
        go_wp2_with (go_at_call 11; refine (readDec_eq _ (-1) _ hsz.out hT4 hE4 hk.out).mono ?_; rintro e w6 ⟨rfl, hb6⟩)
        go_ret
        exact ⟨rfl, hb4.trans (hb6.mono hb4.size)⟩
    · have hk := Lib.hid (rd_itoa_out n (by omega))
      go_wp2_with (go_at_call 11; refine (readDec_eq _ (-1) _ hsz.out hT4 hE4 hk.out).mono ?_; rintro e w6 ⟨rfl, hb6⟩)
      go_ret
      exact ⟨rfl, hb4.trans (hb6.mono hb4.size)⟩
end Go.Proofs.YtcehmcnkalilnaaDoor
