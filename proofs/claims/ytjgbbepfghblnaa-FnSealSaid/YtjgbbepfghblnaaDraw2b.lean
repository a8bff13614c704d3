/- The draws of chapter 2 that leave one text: of at most 65536 bytes. Condition: none. -/
import Derived.Test.YtjgbbepfghblnaaDraw2
import Derived.Test.YtjgbbepfghblnaaBent
import Derived.Test.YtjgbbepfghblnaaSeal
import Derived.OwnWalk
import Derived.Laws.OwnMore
namespace Go.Proofs.Ytjgbbepfghblnaa
open Go.RowKit
set_option linter.unusedVariables false

theorem Cu.kept_below {T : TypeId} {w w' : World} {B b blk : Nat} (c : Cu T w B blk) (hf : Below b w w') (hB : B ≤ b) (hb : blk < b) : Cu T w' B blk := c.kept (hf.mono hB) (hf.block _ hb)

/-- 'make([]byte, n)', and what it reads as. -/
theorem make_zeros (i0 : TypeInfo) (hi : Try.prog.info? 5 = some i0) (hz0 : i0.zero = some (.int .u8 0)) (hz1 : i0.size = 1) (hz2 : i0.bytes = 1) (w : World) (N : Int) (n : Nat) (hN : N = n) (hn : n ≤ 1048576) (h1 : 0 < n) :
    ∃ w', (Instr.makeSlice 22 (.int .i64 N) (.int .i64 N)).run Try.prog w = .ok (.slice (some ⟨w.heap.size, 0, none⟩) n n) w' ∧ (convert 22 9 (.slice (some ⟨w.heap.size, 0, none⟩) n n)).run Try.prog w' = .ok (.string (txt (List.replicate n 0))) w' ∧ Below w.heap.size w w' := by
  subst hN
  obtain ⟨w', hrun, hown, hgr⟩ := run_make_full (P := Try.prog) w w.heap.size 22 5 i0 (.int .u8 0) 1 Try.underlying22 hi hz0 hz1 .i64 .i64 n (by rw [hz2]; omega) (by unfold maxLen; omega) (Nat.le_refl _)
  have hb : Bytes8 w' w.heap.size (.slice (some ⟨w.heap.size, 0, none⟩) n n) (List.replicate n 0) := ⟨by
    rw [Nat.mul_one] at hown
    have e : (madeCells (Value.int .u8 0).cells n).toList = (List.replicate n (0 : Int)).map (Value.int .u8) := by
      rw [show (Value.int .u8 0).cells = #[Value.int .u8 0] from rfl, toList_madeCells_one]; simp
    rw [e] at hown
    simpa using hown, fun x hx => by rw [List.eq_of_mem_replicate hx]; omega⟩
  obtain ⟨g, cap, hv, _, _, hc⟩ := hb.str (by simpa using h1)
  exact ⟨w', hrun, hc, (Below.refl _ _).grown hgr (Nat.le_refl _) (fun k hk => by cases hk)⟩

set_option maxHeartbeats 1000000 in
theorem drawCrc_any (a : Option Addr) (len cap : Nat) (zs : List Int) (w : World) (hr : Row8 w w.heap.size a len cap zs) (hl : len ≤ 1048576) :
    Calls Try.prog 39 #[.slice a len cap] w (DrawnText 8 w) := by
  go_enter Try.func39, Try.ntmps39
  go_wp2_with (go_at_call 41; refine (new_any a len cap zs _ hr hl).mono ?_; rintro e w1 ⟨rfl, hc1, hb1⟩; refine Hid.out ?_)
  refine Lib.hid ?_
  have hsz1 := hb1.size
  go_wp2_with (go_at_call 43; refine (below_any _ (by omega) _ _ _ hc1).mono ?_; rintro e w2 ⟨x, ⟨hx0, hx1, _⟩, rfl, hc2, hg2⟩; refine Hid.out ?_)
  refine Lib.hid ?_
  have hx1 := hx1 (by omega)
  obtain ⟨n, rfl⟩ := Int.eq_ofNat_of_zero_le hx0
  have hb2 := below_grown hb1 hg2 (Nat.le_refl _) hsz1
  have hsz2 := hb2.size
  clear hc1 hg2
  go_wp2_with (go_at_call 46; refine (text_any n (by omega) _ _ _ hc2).mono ?_; rintro e w3 ⟨s, hs, rfl, hc3, hg3⟩; refine Hid.out ?_)
  refine Lib.hid ?_
  have hb3 := below_grown hb2 hg3 (Nat.le_refl _) hsz2
  have hsz3 := hb3.size
  clear hc2 hg3
  go_wp2_with fail
  go_ret
  exact ⟨s, rfl, by omega, hb3⟩

set_option maxHeartbeats 1000000 in
theorem drawSealed_any (a : Option Addr) (len cap : Nat) (zs : List Int) (w : World) (hr : Row8 w w.heap.size a len cap zs) (hl : len ≤ 1048576) :
    Calls Try.prog 28 #[.slice a len cap] w (DrawnText 8 w) := by
  go_enter Try.func28, Try.ntmps28
  go_wp2_with (go_at_call 41; refine (new_any a len cap zs _ hr hl).mono ?_; rintro e w1 ⟨rfl, hc1, hb1⟩; refine Hid.out ?_)
  refine Lib.hid ?_
  have hsz1 := hb1.size
  go_wp2_with (go_at_call 43; refine (below_any _ (by omega) _ _ _ hc1).mono ?_; rintro e w2 ⟨x, ⟨hx0, hx1, _⟩, rfl, hc2, hg2⟩; refine Hid.out ?_)
  refine Lib.hid ?_
  have hx1 := hx1 (by omega)
  obtain ⟨n, rfl⟩ := Int.eq_ofNat_of_zero_le hx0
  have hb2 := below_grown hb1 hg2 (Nat.le_refl _) hsz1
  have hsz2 := hb2.size
  clear hc1 hg2
  go_wp2_with (go_at_call 46; refine (text_any n (by omega) _ _ _ hc2).mono ?_; rintro e w3 ⟨s, hs, rfl, hc3, hg3⟩; refine Hid.out ?_)
  refine Lib.hid ?_
  have hb3 := below_grown hb2 hg3 (Nat.le_refl _) hsz2
  have hsz3 := hb3.size
  clear hc2 hg3
  go_wp2_with fail
  go_ret
  exact ⟨s, rfl, by omega, hb3⟩

set_option maxHeartbeats 1000000 in
theorem drawHash_any (a : Option Addr) (len cap : Nat) (zs : List Int) (w : World) (hr : Row8 w w.heap.size a len cap zs) (hl : len ≤ 1048576) :
    Calls Try.prog 37 #[.slice a len cap] w (DrawnText 8 w) := by
  go_enter Try.func37, Try.ntmps37
  go_wp2_with (go_at_call 41; refine (new_any a len cap zs _ hr hl).mono ?_; rintro e w1 ⟨rfl, hc1, hb1⟩; refine Hid.out ?_)
  refine Lib.hid ?_
  have hsz1 := hb1.size
  go_wp2_with (go_at_call 49; refine (once_any _ (by omega) _ _ _ hc1).mono ?_; rintro e w2 ⟨b, rfl, hc2, hg2⟩; refine Hid.out ?_)
  refine Lib.hid ?_
  have hb2 := below_grown hb1 hg2 (Nat.le_refl _) hsz1
  have hsz2 := hb2.size
  clear hc1 hg2
  cases b
  · go_wp2_with (go_at_call 43; refine (below_any _ (by omega) _ _ _ hc2).mono ?_; rintro e w3 ⟨x, ⟨hx0, hx1, _⟩, rfl, hc3, hg3⟩; refine Hid.out ?_)
    refine Lib.hid ?_
    have hx1 := hx1 (by omega)
    obtain ⟨n, rfl⟩ := Int.eq_ofNat_of_zero_le hx0
    have hb3 := below_grown hb2 hg3 (Nat.le_refl _) hsz2
    have hsz3 := hb3.size
    clear hc2 hg3
    go_wp2_with (go_at_call 46; refine (text_any n (by omega) _ _ _ hc3).mono ?_; rintro e w4 ⟨s, hs, rfl, hc4, hg4⟩; refine Hid.out ?_)
    refine Lib.hid ?_
    have hb4 := below_grown hb3 hg4 (Nat.le_refl _) hsz3
    have hsz4 := hb4.size
    clear hc3 hg4
    go_wp2_with fail
    go_ret
    exact ⟨s, rfl, by omega, hb4⟩
  · go_wp2_with (go_at_call 55; refine (name_any _ _ _ hc2).mono ?_; rintro e w3 ⟨s, hs, rfl, hc3, hg3⟩; refine Hid.out ?_)
    refine Lib.hid ?_
    have hb3 := below_grown hb2 hg3 (Nat.le_refl _) hsz2
    have hsz3 := hb3.size
    clear hc2 hg3
    go_wp2_with fail
    go_ret
    exact ⟨s, rfl, by omega, hb3⟩

set_option maxHeartbeats 1000000 in
theorem drawOpened_any (a : Option Addr) (len cap : Nat) (zs : List Int) (w : World) (hr : Row8 w w.heap.size a len cap zs) (hl : len ≤ 1048576) :
    Calls Try.prog 31 #[.slice a len cap] w (DrawnText 11 w) := by
  go_enter Try.func31, Try.ntmps31
  go_wp2_with (go_at_call 41; refine (new_any a len cap zs _ hr hl).mono ?_; rintro e w1 ⟨rfl, hc1, hb1⟩; refine Hid.out ?_)
  refine Lib.hid ?_
  have hsz1 := hb1.size
  go_wp2_with (go_at_call 49; refine (once_any _ (by omega) _ _ _ hc1).mono ?_; rintro e w2 ⟨b, rfl, hc2, hg2⟩; refine Hid.out ?_)
  refine Lib.hid ?_
  have hb2 := below_grown hb1 hg2 (Nat.le_refl _) hsz1
  have hsz2 := hb2.size
  clear hc1 hg2
  cases b
  · go_wp2_with (go_at_call 43; refine (below_any _ (by omega) _ _ _ hc2).mono ?_; rintro e w3 ⟨x, ⟨hx0, hx1, _⟩, rfl, hc3, hg3⟩; refine Hid.out ?_)
    refine Lib.hid ?_
    have hx1 := hx1 (by omega)
    obtain ⟨n, rfl⟩ := Int.eq_ofNat_of_zero_le hx0
    have hb3 := below_grown hb2 hg3 (Nat.le_refl _) hsz2
    have hsz3 := hb3.size
    clear hc2 hg3
    go_wp2_with (go_at_call 46; refine (text_any n (by omega) _ _ _ hc3).mono ?_; rintro e w4 ⟨t, ht, rfl, hc4, hg4⟩; refine Hid.out ?_)
    refine Lib.hid ?_
    have hb4 := below_grown hb3 hg4 (Nat.le_refl _) hsz3
    have hsz4 := hb4.size
    clear hc3 hg4
    have hz : (sealB t).size = t.size + 4 := by unfold sealB; rw [ByteArray.size_append, leB_size]
    have hlt4 := hc4.lt
    go_wp2_with (go_at_call 33; refine (spec_sealed _ _ (by omega)).mono ?_; rintro e w5 ⟨rfl, hf⟩; refine Hid.out ?_)
    refine Lib.hid ?_
    have hc5 := hc4.kept_below hf hsz4 hlt4
    have hb5 := hb4.trans (hf.mono hsz4)
    have hsz5 := hb5.size
    clear hc4 hf
    go_wp2_with (go_at_call 51; refine (bent_any _ (10) (by omega) (by omega) _ _ _ hc5).mono ?_; rintro e w6 ⟨s, hs, rfl, hc6, hg6⟩; refine Hid.out ?_)
    refine Lib.hid ?_
    have hb6 := below_grown hb5 hg6 (Nat.le_refl _) hsz5
    have hsz6 := hb6.size
    clear hc5 hg6
    go_wp2_with fail
    go_ret
    exact ⟨s, rfl, by omega, hb6⟩
  · go_wp2_with (go_at_call 43; refine (below_any _ (by omega) _ _ _ hc2).mono ?_; rintro e w3 ⟨x, ⟨hx0, hx1, _⟩, rfl, hc3, hg3⟩; refine Hid.out ?_)
    refine Lib.hid ?_
    have hx1 := hx1 (by omega)
    obtain ⟨n, rfl⟩ := Int.eq_ofNat_of_zero_le hx0
    have hb3 := below_grown hb2 hg3 (Nat.le_refl _) hsz2
    have hsz3 := hb3.size
    clear hc2 hg3
    go_wp2_with (go_at_call 46; refine (text_any n (by omega) _ _ _ hc3).mono ?_; rintro e w4 ⟨s, hs, rfl, hc4, hg4⟩; refine Hid.out ?_)
    refine Lib.hid ?_
    have hb4 := below_grown hb3 hg4 (Nat.le_refl _) hsz3
    have hsz4 := hb4.size
    clear hc3 hg4
    go_wp2_with fail
    go_ret
    exact ⟨s, rfl, by omega, hb4⟩

set_option maxHeartbeats 1000000 in
theorem drawPutText_any (a : Option Addr) (len cap : Nat) (zs : List Int) (w : World) (hr : Row8 w w.heap.size a len cap zs) (hl : len ≤ 1048576) :
    Calls Try.prog 22 #[.slice a len cap] w (DrawnText 65536 w) := by
  go_enter Try.func22, Try.ntmps22
  go_wp2_with (go_at_call 41; refine (new_any a len cap zs _ hr hl).mono ?_; rintro e w1 ⟨rfl, hc1, hb1⟩; refine Hid.out ?_)
  refine Lib.hid ?_
  have hsz1 := hb1.size
  go_wp2_with (go_at_call 49; refine (once_any _ (by omega) _ _ _ hc1).mono ?_; rintro e w2 ⟨b, rfl, hc2, hg2⟩; refine Hid.out ?_)
  refine Lib.hid ?_
  have hb2 := below_grown hb1 hg2 (Nat.le_refl _) hsz1
  have hsz2 := hb2.size
  clear hc1 hg2
  cases b
  · go_wp2_with (go_at_call 43; refine (below_any _ (by omega) _ _ _ hc2).mono ?_; rintro e w3 ⟨x, ⟨hx0, hx1, _⟩, rfl, hc3, hg3⟩; refine Hid.out ?_)
    refine Lib.hid ?_
    have hx1 := hx1 (by omega)
    obtain ⟨n, rfl⟩ := Int.eq_ofNat_of_zero_le hx0
    have hb3 := below_grown hb2 hg3 (Nat.le_refl _) hsz2
    have hsz3 := hb3.size
    clear hc2 hg3
    go_wp2_with (go_at_call 46; refine (text_any n (by omega) _ _ _ hc3).mono ?_; rintro e w4 ⟨s, hs, rfl, hc4, hg4⟩; refine Hid.out ?_)
    refine Lib.hid ?_
    have hb4 := below_grown hb3 hg4 (Nat.le_refl _) hsz3
    have hsz4 := hb4.size
    clear hc3 hg4
    go_wp2_with fail
    go_ret
    exact ⟨s, rfl, by omega, hb4⟩
  · go_wp2_with (go_at_call 43; refine (below_any _ (by omega) _ _ _ hc2).mono ?_; rintro e w3 ⟨x, ⟨hx0, hx1, _⟩, rfl, hc3, hg3⟩; refine Hid.out ?_)
    refine Lib.hid ?_
    have hx1 := hx1 (by omega)
    obtain ⟨n, rfl⟩ := Int.eq_ofNat_of_zero_le hx0
    have hb3 := below_grown hb2 hg3 (Nat.le_refl _) hsz2
    have hsz3 := hb3.size
    clear hc2 hg3
    obtain ⟨i0, hi, hz0, hz1, hz2⟩ := info_parts infoB
    have hmk := make_zeros i0 hi hz0 hz1 hz2 w3 (65535 + (n : Int)) (65535 + n) (by omega) (by omega) (by omega)
    obtain ⟨w9, hmk, hcv, hb9⟩ := hmk
    clear hi hz0 hz1 hz2
    go_wp2_with fail
    go_ret
    exact ⟨_, rfl, by rw [txt_size]; simp; omega, hb3.trans (hb9.mono hsz3)⟩
end Go.Proofs.Ytjgbbepfghblnaa
