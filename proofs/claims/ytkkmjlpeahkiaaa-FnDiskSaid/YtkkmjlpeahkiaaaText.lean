/- The draws' text: spec.l01Text returns at every cursor: a text of at most n bytes. That it returns rests on the generator's visiting every state. Condition: n at most 2^20. -/
import Derived.Test.YtkkmjlpeahkiaaaCur
import Derived.Test.YtkkmjlpeahkiaaaLcg
import Derived.Test.YtkkmjlpeahkiaaaBytes
namespace Go.Proofs.Ytkkmjlpeahkiaaa
open Go.RowKit
set_option linter.unusedVariables false

/-- What a draw leaves behind one to four bytes. -/
def DrewSome (T : TypeId) (w : World) (B blk : Nat) (a : Option Addr) (len cap : Nat) (zs : List Int) (i : Nat) (h : Int) (P : Int → Prop) (e : Ending) (w' : World) : Prop :=
  ∃ (x : Int) (p : Nat), P x ∧ 1 ≤ p ∧ p ≤ 4 ∧ e = .returned (.int .i64 x) ∧ Cur T w' B blk a len cap zs (nextIN len p i) (lcgN p h) ∧ w.grownBy w' (some blk)

set_option maxHeartbeats 400000 in
theorem below_some (n : Int) (h1 : 1 ≤ n) (hn : n ≤ 9223372036854775807) (B blk : Nat) (a : Option Addr) (len cap i : Nat) (zs : List Int) (h : Int) (w : World) (c : Cur TC w B blk a len cap zs i h) :
    Calls Try.prog 68 #[.pointer (some ⟨blk, 0, none⟩), .int .i64 n] w (DrewSome TC w B blk a len cap zs i h (fun x => 0 ≤ x ∧ x < n)) := by
  by_cases h2 : n ≤ 256
  · obtain ⟨m, rfl⟩ := Int.eq_ofNat_of_zero_le (show 0 ≤ n by omega)
    refine (below_at m (by omega) (by omega) B blk a len cap i zs h w c).mono ?_
    rintro e w' ⟨he, hc, hg⟩
    exact ⟨_, 1, ⟨Int.emod_nonneg _ (by omega), Int.emod_lt_of_pos _ (by omega)⟩, by omega, by omega, he, hc, hg⟩
  · have c := Lib.hid c
    go_enter Try.func68, Try.ntmps68
    go_wp2_with (go_at_call 81; refine (byte_any B blk _ _ _ _ _ _ _ c.out).mono ?_; rintro e w1 ⟨x1, i1, hx0, hx1, _, hi1, rfl, hc1, hg1⟩; refine Hid.out ?_)
    refine Lib.hid ?_
    have hc1 := Lib.hid hc1
    go_wp2_with (go_at_call 81; refine (byte_any B blk _ _ _ _ _ _ _ hc1.out).mono ?_; rintro e w2 ⟨x2, i2, hy0, hy1, _, hi2, rfl, hc2, hg2⟩; refine Hid.out ?_)
    refine Lib.hid ?_
    have hc2 := Lib.hid hc2
    go_wp2_with (go_at_call 81; refine (byte_any B blk _ _ _ _ _ _ _ hc2.out).mono ?_; rintro e w3 ⟨x3, i3, hz0, hz1, _, hi3, rfl, hc3, hg3⟩; refine Hid.out ?_)
    refine Lib.hid ?_
    have hc3 := Lib.hid hc3
    go_wp2_with (go_at_call 81; refine (byte_any B blk _ _ _ _ _ _ _ hc3.out).mono ?_; rintro e w4 ⟨x4, i4, ht0, ht1, _, hi4, rfl, hc4, hg4⟩; refine Hid.out ?_)
    refine Lib.hid ?_
    go_wp2_with fail
    go_ret
    have hi : i4 = nextIN len 4 i := by
      have e1 : i1 = nextI len i := hi1.out
      have e2 : i2 = nextI len i1 := hi2.out
      have e3 : i3 = nextI len i2 := hi3.out
      have e4 : i4 = nextI len i3 := hi4.out
      show i4 = nextI len (nextI len (nextI len (nextI len i)))
      rw [e4, e3, e2, e1]
    subst hi
    exact ⟨_, 4, ⟨Int.emod_nonneg _ (by omega), Int.emod_lt_of_pos _ (by omega)⟩, by omega, by omega, rfl, hc4, ((hg1.trans hg2).trans hg3).trans hg4⟩

/-- The same, told with its value. -/
theorem below_val (n : Nat) (k : Nat) (hn0 : 1 ≤ n) (hn : n ≤ 256) (B blk : Nat) (a : Option Addr) (len cap i : Nat) (zs : List Int) (h : Int) (hk : nextB zs len i h % n = (k : Int)) (w : World) (c : Cur TC w B blk a len cap zs i h) :
    Calls Try.prog 68 #[.pointer (some ⟨blk, 0, none⟩), .int .i64 n] w (DrewAt TC w B blk a len cap zs i h (.int .i64 k)) := by
  rw [← hk]; exact below_at n hn0 hn B blk a len cap i zs h w c
theorem val_of (zs : List Int) (len i : Nat) (h : Int) (n : Nat) (hn : 1 ≤ n) : ∃ k : Nat, k < n ∧ nextB zs len i h % n = (k : Int) := by
  have h0 : 0 ≤ nextB zs len i h % n := Int.emod_nonneg _ (by omega)
  have h1 : nextB zs len i h % n < n := Int.emod_lt_of_pos _ (by omega)
  obtain ⟨k, hk⟩ := Int.eq_ofNat_of_zero_le h0
  exact ⟨k, by omega, hk⟩

/-- An append onto such a row leaves the cursor and what lay before. -/
theorem grown_append {w wr w1 : World} {blk : Nat} {v : Value} {xs : List Int} {o : Obj} (hg : w.grownBy wr (some blk)) (h : Bytes8 wr w.heap.size v xs) (hgr : (wr.alloc o).grownBy w1 v.ownBlock) : w.grownBy w1 (some blk) :=
  (hg.trans (World.grownBy_alloc _ _ _)).andThen hgr (fun j e => .inl (h.own j e))
theorem cur_append {w wr w1 : World} {T : TypeId} {B blk : Nat} {a : Option Addr} {len cap i : Nat} {zs : List Int} {h : Int} {v : Value} {xs : List Int} {o : Obj} (hlt : blk < w.heap.size) (hsz : w.heap.size ≤ wr.heap.size) (c : Cur T wr B blk a len cap zs i h) (hr : Bytes8 wr w.heap.size v xs) (hgr : (wr.alloc o).grownBy w1 v.ownBlock) : Cur T w1 B blk a len cap zs i h := by
  have hle := c.le
  refine (c.alloc o).kept ⟨hgr.os, hgr.tape, hgr.output, hgr.size, fun k hk => hgr.block k (by simp; omega) (fun e => ?_)⟩ (hgr.block blk (by simp; omega) (fun e => ?_))
  · have := hr.own k e.symm; omega
  · have := hr.own blk e.symm; omega

noncomputable def curOf (len blk : Nat) (wr : World) : Nat := match wr.cell? ⟨blk, 1, none⟩, wr.cell? ⟨blk, 2, none⟩ with
  | some (.int _ i), some (.int _ h) => curM len i.toNat h
  | _, _ => 0
theorem curOf_eq {T : TypeId} {w : World} {B blk : Nat} {a : Option Addr} {len cap i : Nat} {zs : List Int} {h : Int} (c : Cur T w B blk a len cap zs i h) : curOf len blk w = curM len i h := by
  unfold curOf; rw [c.c1, c.c2]; simp
/-- The outer loop's measure. -/
noncomputable def meas (n len blk : Nat) (v : Value) (wr : World) : Nat := (n - lenOf v) * ((len + 1) * 36893488147419103232) + curOf len blk wr
theorem meas_more {T : TypeId} {w w' : World} {B blk : Nat} {a : Option Addr} {n len cap i i' : Nat} {zs : List Int} {h h' : Int} {v v' : Value} (c' : Cur T w' B blk a len cap zs i' h') (hn : lenOf v < n) (hm : lenOf v < lenOf v') : meas n len blk v' w' < meas n len blk v w := by
  have hl := curM_le len i' h' c'.rng
  unfold meas
  rw [curOf_eq c']
  have e : (n - lenOf v') + 1 ≤ n - lenOf v := by omega
  have := Nat.mul_le_mul_right ((len + 1) * 36893488147419103232) e
  rw [Nat.add_mul, Nat.one_mul] at this
  omega
theorem meas_same {T : TypeId} {w w' : World} {B blk : Nat} {a : Option Addr} {n len cap i p : Nat} {zs : List Int} {h : Int} {v v' : Value} (c : Cur T w B blk a len cap zs i h) (c' : Cur T w' B blk a len cap zs (nextIN len p i) (lcgN p h)) (hv : lenOf v' = lenOf v) (hg : i < len ∨ ¬ Good h) (h1 : 1 ≤ p) (h6 : p ≤ 6) : meas n len blk v' w' < meas n len blk v w := by
  have := curM_lt len i h c.rng c.at_ hg p h1 h6
  unfold meas
  rw [curOf_eq c, curOf_eq c', hv]
  omega
/-- A round that may bring nothing is no good state's. -/
theorem not_good {zs : List Int} {len i : Nat} {h : Int} (hi : i ≤ len) {k : Nat} (hk : nextB zs len i h % (5 : Nat) = (k : Int)) (hk' : k = 1 ∨ k = 2) : i < len ∨ ¬ Good h := by
  by_cases hlt : i < len
  · exact .inl hlt
  · refine .inr fun hg => ?_
    have := good_byte h hg
    unfold nextB at hk
    rw [if_neg hlt] at hk
    omega

theorem steps_i (len p i : Nat) : nextI len (nextIN len p (nextI len i)) = nextIN len (p + 2) i := by
  rw [show p + 2 = 1 + (p + 1) by omega, nextIN_add, nextIN_add]; rfl
theorem steps_h (p : Nat) (h : Int) : lcg (lcgN p (lcg h)) = lcgN (p + 2) h := by
  rw [show p + 2 = 1 + (p + 1) by omega, lcgN_add, lcgN_add]; rfl
set_option maxHeartbeats 8000000 in
set_option maxRecDepth 100000 in
theorem text_eq (n : Nat) (hn : n ≤ 1048576) (B blk : Nat) (w : World) (c : Cu TC w B blk) :
    Calls Try.prog 67 #[.pointer (some ⟨blk, 0, none⟩), .int .i64 n] w fun e w' => ∃ s : ByteArray, s.size = n ∧ e = .returned (.string s) ∧ Cu TC w' B blk ∧ w.grownBy w' (some blk) := by
  obtain ⟨i0, hi, hz0, hz1, hz2⟩ := info_parts infoB
  have hblt := c.lt
  obtain ⟨a, len, cap, zs, i, h, c⟩ := c
  have c := Lib.hid c
  go_enter Try.func67, Try.ntmps67
  go_wp2_with fail
  go_loopw [5] (fun out wr => ∃ (xs : List Int) (i : Nat) (h : Int), xs.length ≤ n + 20 ∧ Hid (Bytes8 wr w.heap.size out xs) ∧ Hid (Cur TC wr B blk a len cap zs i h) ∧ Hid (w.grownBy wr (some blk))) (fun out wr => meas n len blk out wr)
  case atStart => exact ⟨[], i, h, by simp, Lib.hid ⟨World.ownsRow_made w #[] 0 (Nat.le_refl _) (Nat.zero_le _) rfl, by simp⟩, Lib.hid (c.out.alloc _), Lib.hid (World.grownBy_alloc _ _ _)⟩
  case round =>
    obtain ⟨xs, i, h, hxl, hrow, hc, hg⟩ := hrel
    have hlen := hrow.out.len
    have hsz := hg.out.size
    by_cases hlt : xs.length < n
    · obtain ⟨q, hq5, hq⟩ := val_of zs len i h 5 (by omega)
      have hng := Lib.hid (not_good (k := q) hc.out.at_ hq)
      have hgo := Lib.hid (fun (wr' : World) (v' : Value) (i' : Nat) (h' : Int) (c' : Cur TC wr' B blk a len cap zs i' h') (hm : xs.length < lenOf v') => meas_more (n := n) (i := i) (h := h) (w := wr) (v := u5) (v' := v') c' (by omega) (by omega))
      have hst := Lib.hid (fun (wr' : World) (v' : Value) (p : Nat) (c' : Cur TC wr' B blk a len cap zs (nextIN len p i) (lcgN p h)) (hm : lenOf v' = xs.length) hg h1 h6 => meas_same (n := n) (p := p) (v := u5) (v' := v') hc.out c' (by omega) hg h1 h6)
      have HQ := Lib.hid hq
      clear hq
      obtain ⟨oa, oc, hov⟩ : ∃ a c, u5 = .slice a xs.length c := by
        rcases hrow.out.form with ⟨rfl, rfl⟩ | ⟨g, cap, rfl, _⟩
        · exact ⟨_, _, rfl⟩
        · exact ⟨_, _, rfl⟩
      subst hov
      obtain ⟨M0, hM0⟩ : ∃ M0, M0 = meas n len blk (.slice oa xs.length oc) wr := ⟨_, rfl⟩
      rw [← hM0] at hgo hst
      have HM0 := Lib.hid hM0
      clear hM0
      match q, hq5 with
      | 0, _ =>
        go_wp2_with (go_at_call 68; refine (below_val 5 0 (by decide) (by decide) _ _ _ _ _ i _ h HQ.out _ hc.out).mono ?_; rintro e w1 ⟨rfl, hc', hg'⟩; refine Hid.out ?_)
        refine Lib.hid ?_
        have hrow := Lib.hid (hrow.out.kept hg' hblt)
        have hg := Lib.hid (hg.out.trans hg')
        have hc := Lib.hid hc'
        clear hc' hg'

        clear hst hng
        go_wp2_with (go_at_call 81; refine (byte_any B blk _ _ _ _ _ _ _ hc.out).mono ?_; rintro e w2 ⟨x, i', hx0, hx1, _, _, rfl, hc', hg'⟩; refine Hid.out ?_)
        refine Lib.hid ?_
        have hrow := hrow.out.kept hg' hblt
        have hg := hg.out.trans hg'
        have hsz2 := hg.size
        go_wp2_with (at_builtin; refine wpList_append_own _ rfl _ _ 45 rfl w.heap.size 5 i0 (.int .u8 0) 1 1 Try.underlying45 hi hz0 hz1 hz2 rfl (by decide) _ _ _ rfl (World.ownsRow.alloc hrow.1 _) ⟨_, 0, none⟩ 1 1 [.int .u8 (x)] rfl rfl (cell_one_new _ _ _) (by simp [Value.oneCell']) (by unfold maxLen; omega) (by omega) (by simp; omega) ?_; intro v' w9 hown' hgrow _)
        have hr9 := hrow.snoc hown' ⟨hx0, hx1⟩
        have hc9 := cur_append hblt hsz2 hc' hrow hgrow
        have hg9 := grown_append hg hrow hgrow
        have hm9 := hgo.out _ v' _ _ hc9 (by rw [hr9.len]; simp)
        go_roundw
        case rel => exact ⟨xs ++ [x], _, _, by simp; omega, Lib.hid hr9, Lib.hid hc9, Lib.hid hg9⟩
        case measure => rw [HM0.out] at hm9; exact hm9
      | 1, _ =>
        obtain ⟨k, hk9, hk⟩ := val_of zs len (nextI len i) (lcg h) 9 (by omega)
        have HK := Lib.hid hk
        clear hk
        obtain ⟨m, hm4, hm⟩ := val_of zs len (nextI len (nextI len i)) (lcg (lcg h)) 4 (by omega)
        have HM := Lib.hid hm
        clear hm
        have HNG := Lib.hid (hng.out (.inl rfl))
        clear hng
        go_wp2_with (go_at_call 68; refine (below_val 5 1 (by decide) (by decide) _ _ _ _ _ i _ h HQ.out _ hc.out).mono ?_; rintro e w1 ⟨rfl, hc', hg'⟩; refine Hid.out ?_)
        refine Lib.hid ?_
        have hrow := Lib.hid (hrow.out.kept hg' hblt)
        have hg := Lib.hid (hg.out.trans hg')
        have hc := Lib.hid hc'
        clear hc' hg'
        go_wp2_with (go_at_call 68; refine (below_val 9 k (by decide) (by decide) _ _ _ _ _ _ _ _ HK.out _ hc.out).mono ?_; rintro e w2 ⟨rfl, hc', hg'⟩; refine Hid.out ?_)
        refine Lib.hid ?_
        have hrow := Lib.hid (hrow.out.kept hg' hblt)
        have hg := Lib.hid (hg.out.trans hg')
        have hc := Lib.hid hc'
        clear hc' hg'
        go_wp2_with (go_at_call 68; refine (below_val 4 m (by decide) (by decide) _ _ _ _ _ _ _ _ HM.out _ hc.out).mono ?_; rintro e w3 ⟨rfl, hc', hg'⟩; refine Hid.out ?_)
        refine Lib.hid ?_
        have hrow := Lib.hid (hrow.out.kept hg' hblt)
        have hg := Lib.hid (hg.out.trans hg')
        have hc := Lib.hid hc'
        clear hc' hg'

        go_wp2_with fail
        go_loopw [5, 8] (fun out' iv wr' => ∃ (ys : List Int) (j : Nat), j ≤ k ∧ iv = .int .i64 j ∧ ys.length = xs.length + j ∧ Hid (Bytes8 wr' w.heap.size out' ys) ∧ Hid (Cur TC wr' B blk a len cap zs (nextIN len 3 i) (lcgN 3 h)) ∧ Hid (w.grownBy wr' (some blk))) (fun _ iv _ => k - (intOf iv).toNat)
        case atStart => exact ⟨xs, 0, Nat.zero_le _, rfl, rfl, hrow, hc, hg⟩
        case round =>
          obtain ⟨ys, j, hj, rfl, hyl, hrow, hc, hg⟩ := hrel
          obtain ⟨oa', oc', hov⟩ := hrow.out.shape
          subst hov
          by_cases hjk : j < k
          · have hrow := hrow.out
            have hg := hg.out
            have hsz2 := hg.size
            go_wp2_with (at_builtin; refine wpList_append_own _ rfl _ _ 45 rfl w.heap.size 5 i0 (.int .u8 0) 1 1 Try.underlying45 hi hz0 hz1 hz2 rfl (by decide) _ _ _ rfl (World.ownsRow.alloc hrow.1 _) ⟨_, 0, none⟩ 1 1 [.int .u8 (97 + (m : Int))] rfl rfl (cell_one_new _ _ _) (by simp [Value.oneCell']) (by unfold maxLen; omega) (by omega) (by simp; omega) ?_; intro v' w9 hown' hgrow _)
            have hr9 := hrow.snoc hown' ⟨by omega, by omega⟩
            have hc9 := cur_append hblt hsz2 hc.out hrow hgrow
            have hg9 := grown_append hg hrow hgrow
            go_roundw
            case rel => exact ⟨_, j + 1, by omega, by go_num, by simp; omega, Lib.hid hr9, Lib.hid hc9, Lib.hid hg9⟩
            case measure => simp [intOf]; omega
          · obtain rfl : j = k := by omega
            have hll := hrow.out.len
            have hm9 := Lib.hid (show meas n len blk (.slice oa' ys.length oc') _ < M0 from by
              rcases Nat.eq_zero_or_pos j with h0 | h0
              · exact hst.out _ (.slice oa' ys.length oc') 3 hc.out (by omega) HNG.out (by omega) (by omega)
              · exact hgo.out _ (.slice oa' ys.length oc') _ _ hc.out (by omega))
            go_wp2_with fail
            go_roundw
            case rel => exact ⟨ys, _, _, by omega, hrow, hc, hg⟩
            case measure => have := hm9.out; rw [HM0.out] at this; exact this
      | 2, _ =>
        have HNG := Lib.hid (hng.out (.inr rfl))
        clear hng
        by_cases h0 : xs.length = 0
        · have h0' : (xs.length : Int) ≤ 0 := by omega
          clear h0
          go_wp2_with (go_at_call 68; refine (below_val 5 2 (by decide) (by decide) _ _ _ _ _ i _ h HQ.out _ hc.out).mono ?_; rintro e w1 ⟨rfl, hc', hg'⟩; refine Hid.out ?_)
          refine Lib.hid ?_
          have hrow := Lib.hid (hrow.out.kept hg' hblt)
          have hg := Lib.hid (hg.out.trans hg')
          have hc := Lib.hid hc'
          clear hc' hg'

          have hm9 := Lib.hid (hst.out _ (.slice oa xs.length oc) 1 hc.out hlen HNG.out (by omega) (by omega))
          go_wp2_with fail
          go_roundw
          case rel => exact ⟨xs, _, _, hxl, hrow, hc, hg⟩
          case measure => have := hm9.out; rw [HM0.out] at this; exact this
        · have hpos : (0 : Int) < (xs.length : Int) := by omega
          go_wp2_with (go_at_call 68; refine (below_val 5 2 (by decide) (by decide) _ _ _ _ _ i _ h HQ.out _ hc.out).mono ?_; rintro e w1 ⟨rfl, hc', hg'⟩; refine Hid.out ?_)
          refine Lib.hid ?_
          have hrow := Lib.hid (hrow.out.kept hg' hblt)
          have hg := Lib.hid (hg.out.trans hg')
          have hc := Lib.hid hc'
          clear hc' hg'

          go_wp2_with (go_at_call 68; refine (below_some (xs.length : Int) (by omega) (by omega) _ _ _ _ _ _ _ _ _ hc.out).mono ?_; rintro e w2 ⟨f, p, ⟨hf0, hf1⟩, hp1, hp4, rfl, hc', hg'⟩; refine Hid.out ?_)
          refine Lib.hid ?_
          obtain ⟨f, rfl⟩ := Int.eq_ofNat_of_zero_le hf0
          have hrow := Lib.hid (hrow.out.kept hg' hblt)
          have hg := Lib.hid (hg.out.trans hg')
          have hc := Lib.hid hc'
          clear hc' hg'
          obtain ⟨k, hk20, hk⟩ := val_of zs len (nextIN len p (nextI len i)) (lcgN p (lcg h)) 20 (by omega)
          have HK := Lib.hid hk
          clear hk
          go_wp2_with (go_at_call 68; refine (below_val 20 k (by decide) (by decide) _ _ _ _ _ _ _ _ HK.out _ hc.out).mono ?_; rintro e w3 ⟨rfl, hc', hg'⟩; refine Hid.out ?_)
          refine Lib.hid ?_
          have hrow := Lib.hid (hrow.out.kept hg' hblt)
          have hg := Lib.hid (hg.out.trans hg')
          have hc := Lib.hid hc'
          clear hc' hg'

          have hc := Lib.hid (show Cur TC w3 B blk a len cap zs (nextIN len (p + 2) i) (lcgN (p + 2) h) from by rw [← steps_i, ← steps_h]; exact hc.out)
          go_wp2_with fail
          go_loopw [5, 11] (fun out' iv wr' => ∃ (ys : List Int) (j : Nat), j ≤ k ∧ iv = .int .i64 j ∧ ys.length = xs.length + j ∧ Hid (Bytes8 wr' w.heap.size out' ys) ∧ Hid (Cur TC wr' B blk a len cap zs (nextIN len (p + 2) i) (lcgN (p + 2) h)) ∧ Hid (w.grownBy wr' (some blk))) (fun _ iv _ => k - (intOf iv).toNat)
          case atStart => exact ⟨xs, 0, Nat.zero_le _, rfl, rfl, hrow, hc, hg⟩
          case round =>
            obtain ⟨ys, j, hj, rfl, hyl, hrow, hc, hg⟩ := hrel
            by_cases hjk : j < k
            · rcases hrow.out.form with ⟨_, h00⟩ | ⟨g, oc', hov, _, _, _, hcells⟩
              · rw [h00] at hyl; simp at hyl; omega
              · subst hov
                have hcell := hcells (f + j) (by omega)
                have hz := hrow.out.2 _ (List.getElem_mem (show f + j < ys.length by omega))
                generalize ys[f + j] = z at *
                clear hcells
                have hrow := hrow.out
                have hg := hg.out
                have hsz2 := hg.size
                obtain ⟨hz0', hz1'⟩ := hz
                have hfj : (f : Int) + (j : Int) < (ys.length : Int) := by omega
                go_wp2_with (at_builtin; refine wpList_append_own _ rfl _ _ 45 rfl w.heap.size 5 i0 (.int .u8 0) 1 1 Try.underlying45 hi hz0 hz1 hz2 rfl (by decide) _ _ _ rfl (World.ownsRow.alloc hrow.1 _) ⟨_, 0, none⟩ 1 1 [.int .u8 (z)] rfl rfl (cell_one_new _ _ _) (by simp [Value.oneCell']) (by unfold maxLen; omega) (by omega) (by simp; omega) ?_; intro v' w9 hown' hgrow _)
                have hr9 := hrow.snoc hown' ⟨hz0', hz1'⟩
                have hc9 := cur_append hblt hsz2 hc.out hrow hgrow
                have hg9 := grown_append hg hrow hgrow
                go_roundw
                case rel => exact ⟨_, j + 1, by omega, by go_num, by simp; omega, Lib.hid hr9, Lib.hid hc9, Lib.hid hg9⟩
                case measure => simp [intOf]; omega
            · obtain rfl : j = k := by omega
              obtain ⟨oa', oc', hov⟩ := hrow.out.shape
              subst hov
              have hll := hrow.out.len
              have hm9 := Lib.hid (show meas n len blk (.slice oa' ys.length oc') _ < M0 from by
                rcases Nat.eq_zero_or_pos j with h0 | h0
                · exact hst.out _ (.slice oa' ys.length oc') (p + 2) hc.out (by omega) HNG.out (by omega) (by omega)
                · exact hgo.out _ (.slice oa' ys.length oc') _ _ hc.out (by omega))
              go_wp2_with fail
              go_roundw
              case rel => exact ⟨ys, _, _, by omega, hrow, hc, hg⟩
              case measure => have := hm9.out; rw [HM0.out] at this; exact this
      | 3, _ =>
        obtain ⟨m, hm4, hm⟩ := val_of zs len (nextI len i) (lcg h) 26 (by omega)
        have HM := Lib.hid hm
        clear hm
        clear hst hng
        go_wp2_with (go_at_call 68; refine (below_val 5 3 (by decide) (by decide) _ _ _ _ _ i _ h HQ.out _ hc.out).mono ?_; rintro e w1 ⟨rfl, hc', hg'⟩; refine Hid.out ?_)
        refine Lib.hid ?_
        have hrow := Lib.hid (hrow.out.kept hg' hblt)
        have hg := Lib.hid (hg.out.trans hg')
        have hc := Lib.hid hc'
        clear hc' hg'
        go_wp2_with (go_at_call 68; refine (below_val 26 m (by decide) (by decide) _ _ _ _ _ _ _ _ HM.out _ hc.out).mono ?_; rintro e w2 ⟨rfl, hc', hg'⟩; refine Hid.out ?_)
        refine Lib.hid ?_
        have hrow := Lib.hid (hrow.out.kept hg' hblt)
        have hg := Lib.hid (hg.out.trans hg')
        have hc := Lib.hid hc'
        clear hc' hg'

        have hrow := hrow.out
        have hg := hg.out
        have hsz2 := hg.size
        go_wp2_with (at_builtin; refine wpList_append_own _ rfl _ _ 45 rfl w.heap.size 5 i0 (.int .u8 0) 1 1 Try.underlying45 hi hz0 hz1 hz2 rfl (by decide) _ _ _ rfl (World.ownsRow.alloc hrow.1 _) ⟨_, 0, none⟩ 1 1 [.int .u8 (97 + (m : Int))] rfl rfl (cell_one_new _ _ _) (by simp [Value.oneCell']) (by unfold maxLen; omega) (by omega) (by simp; omega) ?_; intro v' w9 hown' hgrow _)
        have hr9 := hrow.snoc hown' ⟨by omega, by omega⟩
        have hc9 := cur_append hblt hsz2 hc.out hrow hgrow
        have hg9 := grown_append hg hrow hgrow
        have hm9 := hgo.out _ v' _ _ hc9 (by rw [hr9.len]; simp)
        go_roundw
        case rel => exact ⟨xs ++ [97 + (m : Int)], _, _, by simp; omega, Lib.hid hr9, Lib.hid hc9, Lib.hid hg9⟩
        case measure => rw [HM0.out] at hm9; exact hm9
      | 4, _ =>
        obtain ⟨m, hm4, hm⟩ := val_of zs len (nextI len i) (lcg h) 26 (by omega)
        have HM := Lib.hid hm
        clear hm
        clear hst hng
        go_wp2_with (go_at_call 68; refine (below_val 5 4 (by decide) (by decide) _ _ _ _ _ i _ h HQ.out _ hc.out).mono ?_; rintro e w1 ⟨rfl, hc', hg'⟩; refine Hid.out ?_)
        refine Lib.hid ?_
        have hrow := Lib.hid (hrow.out.kept hg' hblt)
        have hg := Lib.hid (hg.out.trans hg')
        have hc := Lib.hid hc'
        clear hc' hg'
        go_wp2_with (go_at_call 68; refine (below_val 26 m (by decide) (by decide) _ _ _ _ _ _ _ _ HM.out _ hc.out).mono ?_; rintro e w2 ⟨rfl, hc', hg'⟩; refine Hid.out ?_)
        refine Lib.hid ?_
        have hrow := Lib.hid (hrow.out.kept hg' hblt)
        have hg := Lib.hid (hg.out.trans hg')
        have hc := Lib.hid hc'
        clear hc' hg'

        have hrow := hrow.out
        have hg := hg.out
        have hsz2 := hg.size
        go_wp2_with (at_builtin; refine wpList_append_own _ rfl _ _ 45 rfl w.heap.size 5 i0 (.int .u8 0) 1 1 Try.underlying45 hi hz0 hz1 hz2 rfl (by decide) _ _ _ rfl (World.ownsRow.alloc hrow.1 _) ⟨_, 0, none⟩ 1 1 [.int .u8 (97 + (m : Int))] rfl rfl (cell_one_new _ _ _) (by simp [Value.oneCell']) (by unfold maxLen; omega) (by omega) (by simp; omega) ?_; intro v' w9 hown' hgrow _)
        have hr9 := hrow.snoc hown' ⟨by omega, by omega⟩
        have hc9 := cur_append hblt hsz2 hc.out hrow hgrow
        have hg9 := grown_append hg hrow hgrow
        have hm9 := hgo.out _ v' _ _ hc9 (by rw [hr9.len]; simp)
        go_roundw
        case rel => exact ⟨xs ++ [97 + (m : Int)], _, _, by simp; omega, Lib.hid hr9, Lib.hid hc9, Lib.hid hg9⟩
        case measure => rw [HM0.out] at hm9; exact hm9
    · have hge : n ≤ xs.length := by omega
      rcases Nat.eq_zero_or_pos xs.length with h0 | hpos
      · have hn0 : n = 0 := by omega
        rcases hrow.out.form with ⟨hov, hx⟩ | ⟨g, oc, hov, _, hlc, hm, _⟩
        · have hconv : (convert 45 9 (.slice none 0 0)).run Try.prog wr = .ok (.string ⟨#[]⟩) wr := by
            rw [run_convert_bytes_string wr 45 9 5 none 0 0 Try.underlying45 Try.underlying5 Try.underlying9]; rfl
          subst hov
          clear hlt hge h0 hx hlen hrow
          subst hn0
          go_wp2_with fail
          go_ret
          exact ⟨_, rfl, rfl, ⟨_, _, _, _, _, _, hc.out⟩, hg.out⟩
        · have hconv : (convert 45 9 (.slice (some ⟨g, 0, none⟩) 0 oc)).run Try.prog wr = .ok (.string ⟨#[]⟩) wr :=
            run_convert_bytes_back (P := Try.prog) wr 45 9 5 ⟨g, 0, none⟩ oc [] Try.underlying45 Try.underlying5 Try.underlying9 (fun j hj => by simp at hj)
          rw [h0] at hov
          subst hov
          unfold maxLen at hm
          clear hlt hge h0 hlen hrow
          subst hn0
          go_wp2_with fail
          go_ret
          exact ⟨_, rfl, rfl, ⟨_, _, _, _, _, _, hc.out⟩, hg.out⟩
      · obtain ⟨g, oc, hov, hlc, hm, s, hss, hconv⟩ := hrow.out.text n hge hpos
        subst hov
        unfold maxLen at hm
        have hconv := Lib.hid hconv
        have hc1 := hconv.out oc
        go_wp2_with fail
        go_ret
        exact ⟨s, by omega, rfl, ⟨_, _, _, _, _, _, hc.out⟩, hg.out⟩
theorem text_any (n : Nat) (hn : n ≤ 1048576) (B blk : Nat) (w : World) (c : Cu TC w B blk) :
    Calls Try.prog 67 #[.pointer (some ⟨blk, 0, none⟩), .int .i64 n] w (DrewText TC w B blk n) :=
  (text_eq n hn B blk w c).mono (fun e w' h => by obtain ⟨s, h1, h2⟩ := h; exact ⟨s, Nat.le_of_eq h1, h2⟩)
end Go.Proofs.Ytkkmjlpeahkiaaa
