/- The draws' cursor: what spec.l01New, l01Byte, l01Below, l01Once and the picks answer and leave. Condition: none beyond the code's own memory. -/
import Derived.Test.YtkkmjlpeahkiaaaRows
import Derived.Test.YtkkmjlpeahkiaaaCurPlain
import Derived.WalkKit
import Derived.WalkSpells
import Derived.WalkLawsBesides
import Derived.LoopTactic
import Derived.Lib.Hide
import Derived.Deep.QuietTactic
import Derived.BigQuiet
namespace Go.Proofs.Ytkkmjlpeahkiaaa
open Go.RowKit
set_option linter.unusedVariables false

abbrev TC : TypeId := 83

set_option maxHeartbeats 400000 in
theorem byte_end (B blk : Nat) (a : Option Addr) (len cap : Nat) (zs : List Int) (h : Int) (w : World) (c : Cur TC w B blk a len cap zs len h) :
    Calls Try.prog 81 #[.pointer (some ⟨blk, 0, none⟩)] w (DrewByte TC w B blk a len cap zs len h) := by
  have hm := c.row.len_le
  unfold maxLen at hm
  have c0 := c.c0
  have c1 := c.c1
  have c2 := c.c2
  have f1 := c.f 1
  have f2 := c.f 2
  have c := Lib.hid c
  go_enter Try.func81, Try.ntmps81
  go_wp2
  go_quiet (fail)
  go_wp2
  go_quiet (fail)
  go_wp2
  go_ret
  refine ⟨rawByte (lcg h), len, raw_lo _, raw_hi _, Lib.hid (by unfold nextB; rw [if_neg (Nat.lt_irrefl _)]), Lib.hid (by simp), ?_, ((c.out.set2 _ (lcg_in h)).drewN _).drewN _, ((grown_set w ⟨blk, 2, none⟩ _).trans (grown_draws _ _ _)).trans (grown_draws _ _ _)⟩
  exact ret_int (by rw [i64_and255]; rfl)

set_option maxHeartbeats 400000 in
theorem byte_in (B blk : Nat) (a : Option Addr) (len cap i : Nat) (zs : List Int) (h : Int) (w : World) (c : Cur TC w B blk a len cap zs i h) (hi : i < len) :
    Calls Try.prog 81 #[.pointer (some ⟨blk, 0, none⟩)] w (DrewByte TC w B blk a len cap zs i h) := by
  have hm := c.row.len_le
  unfold maxLen at hm
  obtain ⟨b, off, z, rfl, hb, hcell, hz0, hz1, hz⟩ := c.row.byte i hi
  have HZ := Lib.hid hz
  clear hz
  have hle := c.le
  have hne : ¬ b = blk := by omega
  have hne' : ¬ blk = b := by omega
  have c0 := c.c0
  have c1 := c.c1
  have c2 := c.c2
  have f1 := c.f 1
  have f2 := c.f 2
  have c := Lib.hid c
  go_enter Try.func81, Try.ntmps81
  go_wp2
  go_quiet (fail)
  go_wp2
  go_quiet (fail)
  go_wp2
  go_quiet (fail)
  go_wp2
  go_ret
  exact ⟨(rawByte (lcg h) + z) % 256, i + 1, by omega, by omega, Lib.hid (by unfold nextB; rw [if_pos hi, HZ.out]), Lib.hid (by rw [if_pos hi]), ret_int (by rw [i64_and255, i64_and255, IntWalk.wrap64_in _ ⟨by omega, by omega⟩]; rfl), ((c.out.set2 _ (lcg_in h)).drewN _).set1 (i + 1) hi, ((grown_set w ⟨blk, 2, none⟩ _).trans (grown_draws _ _ _)).trans (grown_set _ ⟨blk, 1, none⟩ _)⟩

theorem byte_any (B blk : Nat) (a : Option Addr) (len cap i : Nat) (zs : List Int) (h : Int) (w : World) (c : Cur TC w B blk a len cap zs i h) :
    Calls Try.prog 81 #[.pointer (some ⟨blk, 0, none⟩)] w (DrewByte TC w B blk a len cap zs i h) := by
  by_cases hi : i < len
  · exact byte_in B blk a len cap i zs h w c hi
  · obtain rfl : i = len := by have := c.at_; omega
    exact byte_end B blk a i cap zs h w c
theorem byte_cu (B blk : Nat) (w : World) (c : Cu TC w B blk) :
    Calls Try.prog 81 #[.pointer (some ⟨blk, 0, none⟩)] w (DrewInt TC w B blk (fun x => 0 ≤ x ∧ x ≤ 255)) := by
  obtain ⟨a, len, cap, zs, i, h, c⟩ := c
  refine (byte_any B blk a len cap i zs h w c).mono ?_
  rintro e w' ⟨x, i', h0, h1, _, _, he, hc, hg⟩
  exact ⟨x, ⟨h0, h1⟩, he, ⟨_, _, _, _, _, _, hc⟩, hg⟩

set_option maxHeartbeats 400000 in
theorem below_any (n : Int) (hn : -9223372036854775808 ≤ n ∧ n ≤ 9223372036854775807) (B blk : Nat) (w : World) (c : Cu TC w B blk) :
    Calls Try.prog 68 #[.pointer (some ⟨blk, 0, none⟩), .int .i64 n] w (DrewInt TC w B blk (Under n)) := by
  have c := Lib.hid c
  by_cases h0 : n ≤ 0
  · go_enter Try.func68, Try.ntmps68
    go_wp2_with fail
    go_ret
    exact ⟨0, ⟨by omega, fun _ => by omega, fun _ => rfl⟩, rfl, c.out, World.grownBy.refl _ _⟩
  · by_cases h1 : n ≤ 256
    · go_enter Try.func68, Try.ntmps68
      go_wp2_with (go_at_call 81; refine (byte_cu B blk _ c.out).mono ?_; rintro e w' ⟨x, ⟨hx0, hx1⟩, rfl, hc, hg⟩)
      go_ret
      exact ⟨x % n, ⟨Int.emod_nonneg _ (by omega), fun h => Int.emod_lt_of_pos _ h, fun h => absurd h (by omega)⟩, rfl, hc, hg⟩
    · go_enter Try.func68, Try.ntmps68
      go_wp2_with (go_at_call 81; refine (byte_cu B blk _ c.out).mono ?_; rintro e w1 ⟨x1, ⟨hx0, hx1⟩, rfl, hc1, hg1⟩; refine Hid.out ?_)
      refine Lib.hid ?_
      have hc1 := Lib.hid hc1
      go_wp2_with (go_at_call 81; refine (byte_cu B blk _ hc1.out).mono ?_; rintro e w2 ⟨x2, ⟨hy0, hy1⟩, rfl, hc2, hg2⟩; refine Hid.out ?_)
      refine Lib.hid ?_
      have hc2 := Lib.hid hc2
      go_wp2_with (go_at_call 81; refine (byte_cu B blk _ hc2.out).mono ?_; rintro e w3 ⟨x3, ⟨hz0, hz1⟩, rfl, hc3, hg3⟩; refine Hid.out ?_)
      refine Lib.hid ?_
      have hc3 := Lib.hid hc3
      go_wp2_with (go_at_call 81; refine (byte_cu B blk _ hc3.out).mono ?_; rintro e w4 ⟨x4, ⟨ht0, ht1⟩, rfl, hc4, hg4⟩; refine Hid.out ?_)
      refine Lib.hid ?_
      go_wp2_with fail
      go_ret
      exact ⟨_, ⟨Int.emod_nonneg _ (by omega), fun h => Int.emod_lt_of_pos _ h, fun h => absurd h (by omega)⟩, rfl, hc4, ((hg1.trans hg2).trans hg3).trans hg4⟩

theorem once_any (n : Int) (hn : -9223372036854775808 ≤ n ∧ n ≤ 9223372036854775807) (B blk : Nat) (w : World) (c : Cu TC w B blk) :
    Calls Try.prog 72 #[.pointer (some ⟨blk, 0, none⟩), .int .i64 n] w (DrewBool TC w B blk) := by
  go_enter Try.func72, Try.ntmps72
  go_wp2_with (go_at_call 68; refine (below_any n hn B blk _ c).mono ?_; rintro e w' ⟨x, hx, rfl, hc, hg⟩)
  go_ret
  exact ⟨_, rfl, hc, hg⟩

set_option maxHeartbeats 400000 in
/-- A pick out of a row of texts that the caller has made: one of them. -/
theorem pick_any (Q : Value → Prop) (g n cap : Nat) (hn : 1 ≤ n) (hn' : n ≤ 1000000) (B blk : Nat) (w : World) (hne : g ≠ blk) (hgl : g < w.heap.size) (hl : ∀ j, j < n → ∃ s, w.cell? ⟨g, j, none⟩ = some (.string s) ∧ Q (.string s)) (c : Cu TC w B blk) :
    Calls Try.prog 70 #[.pointer (some ⟨blk, 0, none⟩), .slice (some ⟨g, 0, none⟩) n cap] w (DrewVal TC w B blk Q) := by
  have hl := Lib.hid hl
  go_enter Try.func70, Try.ntmps70
  go_wp2_with (go_at_call 68; refine (below_any n (by omega) B blk _ c).mono ?_; rintro e w' ⟨x, ⟨hx0, hx1, _⟩, rfl, hc, hg⟩; refine Hid.out ?_)
  refine Lib.hid ?_
  have hx1 := hx1 (by omega)
  obtain ⟨k, rfl⟩ := Int.eq_ofNat_of_zero_le hx0
  obtain ⟨s, hs, hq⟩ := hl.out k (by omega)
  have hcell := hg.cell hs (by simp; exact hne)
  have hc := Lib.hid hc
  clear hs
  go_wp2_with fail
  go_ret
  exact ⟨_, hq, rfl, hc.out, hg⟩

theorem below_at (n : Nat) (hn0 : 1 ≤ n) (hn : n ≤ 256) (B blk : Nat) (a : Option Addr) (len cap i : Nat) (zs : List Int) (h : Int) (w : World) (c : Cur TC w B blk a len cap zs i h) :
    Calls Try.prog 68 #[.pointer (some ⟨blk, 0, none⟩), .int .i64 n] w (DrewAt TC w B blk a len cap zs i h (.int .i64 (nextB zs len i h % n))) := by
  have c := Lib.hid c
  go_enter Try.func68, Try.ntmps68
  go_wp2_with (go_at_call 81; refine (byte_any B blk _ _ _ _ _ _ _ c.out).mono ?_; rintro e w' ⟨x, i', hx0, hx1, hx, hi', rfl, hc, hg⟩; refine Hid.out ?_)
  refine Lib.hid ?_
  go_wp2_with fail
  go_ret
  exact ⟨ret_int (by rw [hx.out]), by have := hi'.out; unfold nextI; rw [← this]; exact hc, hg⟩

set_option maxHeartbeats 400000 in
theorem pick_at (v : Nat → ByteArray) (g n cap : Nat) (hn : 1 ≤ n) (hn' : n ≤ 256) (B blk : Nat) (a : Option Addr) (len lcap i : Nat) (zs : List Int) (h : Int) (w : World) (hne : g ≠ blk) (hl : ∀ j, j < n → w.cell? ⟨g, j, none⟩ = some (.string (v j))) (c : Cur TC w B blk a len lcap zs i h) :
    Calls Try.prog 70 #[.pointer (some ⟨blk, 0, none⟩), .slice (some ⟨g, 0, none⟩) n cap] w (DrewAt TC w B blk a len lcap zs i h (.string (v (nextB zs len i h % n).toNat))) := by
  have hl := Lib.hid hl
  have hx0 : 0 ≤ nextB zs len i h % n := Int.emod_nonneg _ (by omega)
  have hx1 : nextB zs len i h % n < n := Int.emod_lt_of_pos _ (by omega)
  go_enter Try.func70, Try.ntmps70
  go_wp2_with (go_at_call 68; refine (below_at n hn hn' B blk a len lcap i zs h _ c).mono ?_; rintro e w' ⟨rfl, hc, hg⟩; refine Hid.out ?_)
  refine Lib.hid ?_
  obtain ⟨k, hk⟩ := Int.eq_ofNat_of_zero_le hx0
  rw [hk] at hx1 ⊢
  have hcell := hg.cell (hl.out k (by omega)) (by simp; exact hne)
  have HK := Lib.hid hk
  clear hx0 hk
  have hc := Lib.hid hc
  go_wp2_with fail
  go_ret
  exact ⟨by rw [HK.out]; simp, hc.out, hg⟩

/-- A pick out of a literal that the walk has just laid. -/
theorem pick_lit (k B blk n cap : Nat) (w : World) (cs : Array Value) (t : TypeId) (c : Cu TC w B blk) (hn : n = cs.size) (h1 : 1 ≤ n) (h2 : n ≤ 1000000) (h : cs.toList.all (shortB k) = true) :
    Calls Try.prog 70 #[.pointer (some ⟨blk, 0, none⟩), .slice (some ⟨w.heap.size, 0, none⟩) n cap] (w.alloc (.cells cs t)) (DrewText TC w B blk k) := by
  subst hn
  have hlt := c.lt
  refine (pick_any (Short k) w.heap.size cs.size cap h1 h2 B blk _ (by omega) (by simp) (lit_texts w cs.toList t k fun v hv => short_of (List.all_eq_true.1 h v hv)) (c.alloc _)).mono ?_
  rintro e w' ⟨v, ⟨s, rfl, hs⟩, he, hc, hg⟩
  exact ⟨s, hs, he, hc, (World.grownBy_alloc _ _ _).trans hg⟩

set_option maxHeartbeats 400000 in
/-- A new cursor, told exactly. -/
theorem new_at (a : Option Addr) (len cap : Nat) (zs : List Int) (w : World) (hr : Row8 w w.heap.size a len cap zs) (hl : len ≤ 1048576) :
    Calls Try.prog 65 #[.slice a len cap] w fun e w' => e = .returned (.pointer (some ⟨w.heap.size, 0, none⟩)) ∧ Cur TC w' w.heap.size w.heap.size a len cap zs 0 (newHAt zs len (min len 4000)) ∧ Below w.heap.size w w' := by
  have hr := Lib.hid hr
  go_enter Try.func65, Try.ntmps65
  go_wp2
  go_loop [3, 4] (fun hv i => ∃ (k : Nat) (H : Int), k ≤ len ∧ k ≤ 4000 ∧ 0 ≤ H ∧ H ≤ 1073741823 ∧ i = .int .i64 k ∧ hv = .int .i64 H ∧ Hid (H = newHAt zs len k)) (fun _ i => len - (intOf i).toNat)
  case atStart => exact ⟨0, 772772 + len, Nat.zero_le _, by omega, by omega, by omega, rfl, by go_num, Lib.hid rfl⟩
  case round =>
    obtain ⟨k, H, hk, hk4, hH0, hH1, rfl, rfl, hH⟩ := hrel
    by_cases hlt : k < len
    · by_cases h4 : (k : Int) < 4000
      · obtain ⟨b, off, z, rfl, hb, hcell, hz0, hz1, hz⟩ := hr.out.byte k hlt
        have hst := Lib.hid (newH_step hH.out hz)
        have hlo := newH_lo zs len (k + 1)
        have hhi := newH_hi zs len (k + 1) hl
        clear hz
        go_wp2
        go_round
        case rel => exact ⟨k + 1, _, by omega, by omega, hlo, hhi, by go_num, by rw [hst.out], Lib.hid rfl⟩
        case measure => simp [intOf]; omega
      · obtain rfl : k = 4000 := by omega
        have hm : min len 4000 = 4000 := by omega
        go_wp2
        go_ret
        exact ⟨rfl, ⟨by (try rw [hm]); rw [← hH.out]; exact heap_new _ _, hr.out.below ((Below.refl _ _).alloc (Nat.le_refl _) _), Nat.le_refl _, Nat.zero_le _, newH_in zs _ _ hl⟩, (Below.refl _ _).alloc (Nat.le_refl _) _⟩
    · obtain rfl : k = len := by omega
      have hm : min k 4000 = k := by omega
      go_wp2
      go_ret
      exact ⟨rfl, ⟨by (try rw [hm]); rw [← hH.out]; exact heap_new _ _, hr.out.below ((Below.refl _ _).alloc (Nat.le_refl _) _), Nat.le_refl _, Nat.zero_le _, newH_in zs _ _ hl⟩, (Below.refl _ _).alloc (Nat.le_refl _) _⟩
/-- A new cursor over a code that came in. -/
theorem new_any (a : Option Addr) (len cap : Nat) (zs : List Int) (w : World) (hr : Row8 w w.heap.size a len cap zs) (hl : len ≤ 1048576) :
    Calls Try.prog 65 #[.slice a len cap] w fun e w' => e = .returned (.pointer (some ⟨w.heap.size, 0, none⟩)) ∧ Cu TC w' w.heap.size w.heap.size ∧ Below w.heap.size w w' :=
  (new_at a len cap zs w hr hl).mono fun _ _ ⟨h1, h2, h3⟩ => ⟨h1, ⟨_, _, _, _, _, _, h2⟩, h3⟩
end Go.Proofs.Ytkkmjlpeahkiaaa
