/- The draws' text: spec.l01Text returns at every cursor: a text of at most n bytes. That it returns rests on the generator's visiting every state. Condition: n at most 2^20. -/
import Derived.Test.YtdpjdjkfedcojaaGreatCurA
import Derived.Test.YtdpjdjkfedcojaaGreatLcg
import Derived.Test.YtdpjdjkfedcojaaGreatNumA
namespace Go.Proofs.YtdpjdjkfedcojaaGreat
open Go.RowKit
set_option linter.unusedVariables false

/-- What a draw leaves behind one to four bytes. -/
def DrewSome (T : TypeId) (w : World) (B blk : Nat) (a : Option Addr) (len cap : Nat) (zs : List Int) (i : Nat) (h : Int) (P : Int → Prop) (e : Ending) (w' : World) : Prop :=
  ∃ (x : Int) (p : Nat), P x ∧ 1 ≤ p ∧ p ≤ 4 ∧ e = .returned (.int .i64 x) ∧ Cur T w' B blk a len cap zs (nextIN len p i) (lcgN p h) ∧ w.grownBy w' (some blk)

set_option maxHeartbeats 400000 in
theorem below_some (n : Int) (h1 : 1 ≤ n) (hn : n ≤ 9223372036854775807) (B blk : Nat) (a : Option Addr) (len cap i : Nat) (zs : List Int) (h : Int) (w : World) (c : Cur TC w B blk a len cap zs i h) :
    Calls Tryz.prog 55 #[.pointer (some ⟨blk, 0, none⟩), .int .i64 n] w (DrewSome TC w B blk a len cap zs i h (fun x => 0 ≤ x ∧ x < n)) := by
  by_cases h2 : n ≤ 256
  · obtain ⟨m, rfl⟩ := Int.eq_ofNat_of_zero_le (show 0 ≤ n by omega)
    refine (below_at m (by omega) (by omega) B blk a len cap i zs h w c).mono ?_
    rintro e w' ⟨he, hc, hg⟩
    exact ⟨_, 1, ⟨Int.emod_nonneg _ (by omega), Int.emod_lt_of_pos _ (by omega)⟩, by omega, by omega, he, hc, hg⟩
  · have c := Lib.hid c
    go_enter Tryz.func55, Tryz.ntmps55
    go_wp2_with (go_at_call 94; refine (byte_any B blk _ _ _ _ _ _ _ c.out).mono ?_; rintro e w1 ⟨x1, i1, hx0, hx1, _, hi1, rfl, hc1, hg1⟩; refine Hid.out ?_)
    refine Lib.hid ?_
    have hc1 := Lib.hid hc1
    go_wp2_with (go_at_call 94; refine (byte_any B blk _ _ _ _ _ _ _ hc1.out).mono ?_; rintro e w2 ⟨x2, i2, hy0, hy1, _, hi2, rfl, hc2, hg2⟩; refine Hid.out ?_)
    refine Lib.hid ?_
    have hc2 := Lib.hid hc2
    go_wp2_with (go_at_call 94; refine (byte_any B blk _ _ _ _ _ _ _ hc2.out).mono ?_; rintro e w3 ⟨x3, i3, hz0, hz1, _, hi3, rfl, hc3, hg3⟩; refine Hid.out ?_)
    refine Lib.hid ?_
    have hc3 := Lib.hid hc3
    go_wp2_with (go_at_call 94; refine (byte_any B blk _ _ _ _ _ _ _ hc3.out).mono ?_; rintro e w4 ⟨x4, i4, ht0, ht1, _, hi4, rfl, hc4, hg4⟩; refine Hid.out ?_)
    refine Lib.hid ?_
    go_wp2_with fail
    go_ret
    have hi : i4 = nextIN len 4 i := by
      have e1 : i1 = nextI len i := hi1.out
      have e2 : i2 = nextI len i1 := hi2.out
      have e3 : i3 = nextI len i2 := hi3.out
      have e4 : i4 = nextI len i3 := hi4.out
      show i4 = nextI len (nextI len (nextI len (nextI len i)))
      rw [e4, e3, e2, e1]
    subst hi
    exact ⟨_, 4, ⟨Int.emod_nonneg _ (by omega), Int.emod_lt_of_pos _ (by omega)⟩, by omega, by omega, rfl, hc4, ((hg1.trans hg2).trans hg3).trans hg4⟩

/-- The same, told with its value. -/
theorem below_val (n : Nat) (k : Nat) (hn0 : 1 ≤ n) (hn : n ≤ 256) (B blk : Nat) (a : Option Addr) (len cap i : Nat) (zs : List Int) (h : Int) (hk : nextB zs len i h % n = (k : Int)) (w : World) (c : Cur TC w B blk a len cap zs i h) :
    Calls Tryz.prog 55 #[.pointer (some ⟨blk, 0, none⟩), .int .i64 n] w (DrewAt TC w B blk a len cap zs i h (.int .i64 k)) := by
  rw [← hk]; exact below_at n hn0 hn B blk a len cap i zs h w c
theorem val_of (zs : List Int) (len i : Nat) (h : Int) (n : Nat) (hn : 1 ≤ n) : ∃ k : Nat, k < n ∧ nextB zs len i h % n = (k : Int) := by
  have h0 : 0 ≤ nextB zs len i h % n := Int.emod_nonneg _ (by omega)
  have h1 : nextB zs len i h % n < n := Int.emod_lt_of_pos _ (by omega)
  obtain ⟨k, hk⟩ := Int.eq_ofNat_of_zero_le h0
  exact ⟨k, by omega, hk⟩

/-- An append onto such a row leaves the cursor and what lay before. -/
theorem grown_append {w wr w1 : World} {blk : Nat} {v : Value} {xs : List Int} {o : Obj} (hg : w.grownBy wr (some blk)) (h : Bytes8 wr w.heap.size v xs) (hgr : (wr.alloc o).grownBy w1 v.ownBlock) : w.grownBy w1 (some blk) :=
  (hg.trans (World.grownBy_alloc _ _ _)).andThen hgr (fun j e => .inl (h.own j e))
theorem cur_append {w wr w1 : World} {T : TypeId} {B blk : Nat} {a : Option Addr} {len cap i : Nat} {zs : List Int} {h : Int} {v : Value} {xs : List Int} {o : Obj} (hlt : blk < w.heap.size) (hsz : w.heap.size ≤ wr.heap.size) (c : Cur T wr B blk a len cap zs i h) (hr : Bytes8 wr w.heap.size v xs) (hgr : (wr.alloc o).grownBy w1 v.ownBlock) : Cur T w1 B blk a len cap zs i h := by
  have hle := c.le
  refine (c.alloc o).kept ⟨hgr.os, hgr.tape, hgr.output, hgr.size, fun k hk => hgr.block k (by simp; omega) (fun e => ?_)⟩ (hgr.block blk (by simp; omega) (fun e => ?_))
  · have := hr.own k e.symm; omega
  · have := hr.own blk e.symm; omega

noncomputable def curOf (len blk : Nat) (wr : World) : Nat := match wr.cell? ⟨blk, 1, none⟩, wr.cell? ⟨blk, 2, none⟩ with
  | some (.int _ i), some (.int _ h) => curM len i.toNat h
  | _, _ => 0
theorem curOf_eq {T : TypeId} {w : World} {B blk : Nat} {a : Option Addr} {len cap i : Nat} {zs : List Int} {h : Int} (c : Cur T w B blk a len cap zs i h) : curOf len blk w = curM len i h := by
  unfold curOf; rw [c.c1, c.c2]; simp
/-- The outer loop's measure. -/
noncomputable def meas (n len blk : Nat) (v : Value) (wr : World) : Nat := (n - lenOf v) * ((len + 1) * 36893488147419103232) + curOf len blk wr
theorem meas_more {T : TypeId} {w w' : World} {B blk : Nat} {a : Option Addr} {n len cap i i' : Nat} {zs : List Int} {h h' : Int} {v v' : Value} (c' : Cur T w' B blk a len cap zs i' h') (hn : lenOf v < n) (hm : lenOf v < lenOf v') : meas n len blk v' w' < meas n len blk v w := by
  have hl := curM_le len i' h' c'.rng
  unfold meas
  rw [curOf_eq c']
  have e : (n - lenOf v') + 1 ≤ n - lenOf v := by omega
  have := Nat.mul_le_mul_right ((len + 1) * 36893488147419103232) e
  rw [Nat.add_mul, Nat.one_mul] at this
  omega
theorem meas_same {T : TypeId} {w w' : World} {B blk : Nat} {a : Option Addr} {n len cap i p : Nat} {zs : List Int} {h : Int} {v v' : Value} (c : Cur T w B blk a len cap zs i h) (c' : Cur T w' B blk a len cap zs (nextIN len p i) (lcgN p h)) (hv : lenOf v' = lenOf v) (hg : i < len ∨ ¬ Good h) (h1 : 1 ≤ p) (h6 : p ≤ 6) : meas n len blk v' w' < meas n len blk v w := by
  have := curM_lt len i h c.rng c.at_ hg p h1 h6
  unfold meas
  rw [curOf_eq c, curOf_eq c', hv]
  omega
/-- A round that may bring nothing is no good state's. -/
theorem not_good {zs : List Int} {len i : Nat} {h : Int} (hi : i ≤ len) {k : Nat} (hk : nextB zs len i h % (5 : Nat) = (k : Int)) (hk' : k = 1 ∨ k = 2) : i < len ∨ ¬ Good h := by
  by_cases hlt : i < len
  · exact .inl hlt
  · refine .inr fun hg => ?_
    have := good_byte h hg
    unfold nextB at hk
    rw [if_neg hlt] at hk
    omega

theorem steps_i (len p i : Nat) : nextI len (nextIN len p (nextI len i)) = nextIN len (p + 2) i := by
  rw [show p + 2 = 1 + (p + 1) by omega, nextIN_add, nextIN_add]; rfl
theorem steps_h (p : Nat) (h : Int) : lcg (lcgN p (lcg h)) = lcgN (p + 2) h := by
  rw [show p + 2 = 1 + (p + 1) by omega, lcgN_add, lcgN_add]; rfl
end Go.Proofs.YtdpjdjkfedcojaaGreat
