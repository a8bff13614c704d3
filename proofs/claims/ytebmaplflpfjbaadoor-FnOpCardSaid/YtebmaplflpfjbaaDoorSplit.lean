/- impl.splitBy: the function that it answers yields a text's pieces in order. Condition: the text has at most 2^40 bytes. -/
import Derived.RangeFuncNested
import Derived.RangeFuncBound
import Derived.RangeFuncCalls
import Derived.RangeFuncLeaves
import Derived.RangeFuncBox
import Derived.Shelf.Abstract
import Derived.Shelf.RegionOpen
import Derived.WalkKit
import Derived.OwnWalkIn
import Derived.TacticsInMore
import Derived.LoopNIn
import Derived.LoopIn
import Derived.Maps.AppendAt
import Derived.Sort.QuietIn
import Derived.Lib.Hide
import Derived.Test.YtebmaplflpfjbaaDoorBaseA
import Derived.Test.YtebmaplflpfjbaaDoorRows
namespace Go.Proofs.YtebmaplflpfjbaaDoor
open Go.RowKit Go.Shelf
set_option linter.unusedVariables false
attribute [local go_sem] Oper.semAt_some
theorem wide_fn (f : FuncId) : Fence.wide.fn f = True := rfl
attribute [local simp] wide_fn

/-- The two captured variables' blocks are as they were. -/
def Two (Bs : Nat) (W W' : World) : Prop := W'.heap[Bs]? = W.heap[Bs]? ∧ W'.heap[Bs + 1]? = W.heap[Bs + 1]?
theorem Two.trans {Bs : Nat} {A B C : World} (h : Two Bs A B) (k : Two Bs B C) : Two Bs A C := ⟨k.1.trans h.1, k.2.trans h.2⟩
theorem Two.put {Bs : Nat} {w : World} (hlt : Bs + 1 < w.heap.size) (W : World) (l : Nat) (o o' : Obj) (hl : w.heap.size ≤ l) (h : W.heap[l]? = some o) (_ : o.isCells = false) (_ : o.isWalk = false) : Two Bs W (W.putObj l o') := by
  have hg := grownBy_putObj' W l o'
  have := (Array.getElem?_eq_some_iff.1 h).1
  exact ⟨hg.block Bs (by omega) (by simp; omega), hg.block (Bs + 1) (by omega) (by simp; omega)⟩

theorem split_in (n : Nat) (s : ByteArray) (g : Nat) (w : World) :
    CallsIn Fence.wide n Tryd.prog 89 #[.string s, .func (.func g) #[] #[]] w fun e w' => e = .returned (.func (.func 107) #[] #[.pointer (some ⟨w.heap.size, 0, none⟩), .pointer (some ⟨w.heap.size + 1, 0, none⟩)]) ∧ w' = (w.alloc (.cells #[.string s] 9)).alloc (.cells #[.func (.func g) #[] #[]] 113) := by
  have hmf : ∀ (fn : Fn) (first cap : Array Value) (w : World), (Instr.makeFunc fn first cap).run Tryd.prog w = .ok (.func fn first cap) w := fun _ _ _ _ => rfl
  refine callsIn_of_wp Tryd.func89 rfl trivial ?_ rfl
  simp only [Tryd.ntmps89, List.size_toArray, List.length_cons, List.length_nil, Nat.reduceAdd, Nat.reduceSub, Array.replicate_succ, Array.replicate_zero, List.push_toArray, List.append_toArray, List.nil_append, List.cons_append]
  gi_wp2
  go_ret
  exact ⟨rfl, rfl⟩


theorem test_bl (c : UInt8) (b : Bool) (w : World) (h : isBl c = b) : Calls Tryd.prog 90 #[.int .u8 c.toNat] w fun e w' => e = .returned (.bool b) ∧ w' = w := by
  subst h
  have hc : c.toNat < 256 := c.toNat_lt
  by_cases h1 : ((c.toNat : Int) == 32) = true
  · have h2 := Lib.hid (isBl_1 h1)
    go_enter Tryd.func90, Tryd.ntmps90
    go_wp2
    go_ret
    exact ⟨ret_bool (by rw [h2.out]), rfl⟩
  · have h1 : ((c.toNat : Int) == 32) = false := by simpa using h1
    by_cases h3 : ((c.toNat : Int) == 9) = true
    · have h2 := Lib.hid (isBl_2 h3)
      go_enter Tryd.func90, Tryd.ntmps90
      go_wp2
      go_ret
      exact ⟨ret_bool (by rw [h2.out]), rfl⟩
    · have h3 : ((c.toNat : Int) == 9) = false := by simpa using h3
      have h2 := Lib.hid (isBl_0 h1 h3)
      go_enter Tryd.func90, Tryd.ntmps90
      go_wp2
      go_ret
      exact ⟨ret_bool (by rw [h2.out]), rfl⟩

set_option maxRecDepth 100000 in
set_option maxHeartbeats 2000000 in
/-- What the yielding function does with a separator's test that is 'is a blank'. -/
theorem split1_bl (n : Nat) (hn : 3 ≤ n) (l Bs : Nat) (s : ByteArray) (hs : s.size ≤ 1099511627776) (J Jx : List ByteArray → World → Prop)
    (hY : ∀ pre x W, J pre W → pre.length < s.size + 1 → YieldAt Fence.wide (n - 1) Tryd.prog l #[.string x] W fun e W' =>
      (e = .returned (.bool true) ∧ J (pre ++ [x]) W' ∧ Two Bs W W') ∨ (e = .returned (.bool false) ∧ Jx (pre ++ [x]) W'))
    (hJ : ∀ pre (A : World) m, J pre A → J pre (A.drewN m))
    (W : World) (hB0 : W.cell? ⟨Bs, 0, none⟩ = some (.string s)) (hB1 : W.cell? ⟨Bs + 1, 0, none⟩ = some (.func (.func 90) #[] #[])) (h0 : J [] W) :
    CallsIn Fence.wide n Tryd.prog 107 #[.func (.yield l) #[] #[], .pointer (some ⟨Bs, 0, none⟩), .pointer (some ⟨Bs + 1, 0, none⟩)] W fun e W' => (∃ v, e = .returned v) ∧
      ((∃ ys, ys = pieces isBl s ∧ J ys W') ∨ (∃ pre, True ∧ Jx pre W')) := by
  refine callsIn_of_wp Tryd.func107 rfl trivial ?_ rfl
  simp only [Tryd.ntmps107, List.size_toArray, List.length_cons, List.length_nil, Nat.reduceAdd, Nat.reduceSub, Array.replicate_succ, Array.replicate_zero, List.push_toArray, List.append_toArray, List.nil_append, List.cons_append]
  gi_wp2
  gi_loopw [4, 8] (fun st i wr => ∃ k t : Nat, k ≤ s.size ∧ t ≤ k ∧ i = .int .i64 k ∧ st = .int .i64 t ∧ Hid (t = (cutAt isBl s k).2) ∧ Hid (J (cutAt isBl s k).1 wr) ∧ Two Bs W wr) (fun _ i _ => s.size - (intOf i).toNat)
  case atStart => exact ⟨0, 0, Nat.zero_le _, Nat.le_refl _, rfl, rfl, Lib.hid rfl, Lib.hid h0, ⟨rfl, rfl⟩⟩
  case round =>
    obtain ⟨k, t, hk, htk, rfl, rfl, ht, hJs, hB⟩ := hrel
    have c0 := (World.cell?_of_block hB.1).trans hB0
    have c1 := (World.cell?_of_block hB.2).trans hB1
    have hcl := cut_len isBl s k
    by_cases hlt : k < s.size
    · have hc : s[k].toNat < 256 := s[k].toNat_lt
      have hlt' : (k : Int) < s.size := by omega
      by_cases hsep : isBl s[k] = true
      · have hcut := Lib.hid (cut_yes hlt hsep)
        have hT1 := Lib.hid fun w => test_bl s[k] true w hsep
        gi_wp2
        gi_quiet ((refine ⟨fun _ => (by omega), ?_⟩; exact CallsIn.quiet_of_same (callsIn_wide.2 (hT1.out _))))
        obtain ⟨fn, tmps, assign, body, hy, hR⟩ := hY (cutAt isBl s k).1 (s.extract t k) _ (hJ _ _ nq hJs.out) (by omega)
        gi_wp2
        refine ⟨fun _ => (by omega), hR.mono ?_⟩
        rintro e W3 (⟨rfl, hJ3, hk3⟩ | ⟨rfl, hJx3⟩)
        · have hB3 : Two Bs W W3 := Two.trans hB hk3
          have hJ3 := Lib.hid hJ3
          gi_wp2
          go_roundw
          case rel => exact ⟨k + 1, k + 1, by omega, by omega, by go_num, by go_num, Lib.hid (by rw [hcut.out]), by rw [hcut.out, ← ht.out]; exact hJ3, hB3⟩
          case measure => simp [intOf]; omega
        · have hJx3 := Lib.hid hJx3
          gi_wp2
          refine bodyPost_ret (results_none rfl _ _ _) rfl ?_
          exact ⟨⟨_, rfl⟩, .inr ⟨_, trivial, hJx3.out⟩⟩
      · have hsep : isBl s[k] = false := by simpa using hsep
        have hcut := Lib.hid (cut_no hlt hsep)
        have hT1 := Lib.hid fun w => test_bl s[k] false w hsep
        gi_wp2
        gi_quiet ((refine ⟨fun _ => (by omega), ?_⟩; exact CallsIn.quiet_of_same (callsIn_wide.2 (hT1.out _))))
        gi_wp2
        go_roundw
        case rel => exact ⟨k + 1, t, by omega, by omega, by go_num, rfl, by rw [hcut.out]; exact ht, by rw [hcut.out]; exact Lib.hid (hJ _ _ nq hJs.out), hB⟩
        case measure => simp [intOf]; omega
    · obtain rfl : k = s.size := by omega
      obtain ⟨fn, tmps, assign, body, hy, hR⟩ := hY (cutAt isBl s s.size).1 (s.extract t s.size) wr hJs.out (by omega)
      gi_wp2
      refine ⟨fun _ => (by omega), hR.mono ?_⟩
      rintro e W3 (⟨rfl, hJ3, hk3⟩ | ⟨rfl, hJx3⟩)
      · have hJ3 := Lib.hid hJ3
        gi_wp2
        go_end0
        exact ⟨⟨_, rfl⟩, .inl ⟨_, rfl, by unfold pieces; rw [← ht.out]; exact hJ3.out⟩⟩
      · have hJx3 := Lib.hid hJx3
        gi_wp2
        go_end0
        exact ⟨⟨_, rfl⟩, .inr ⟨_, trivial, hJx3.out⟩⟩

/-- What the function that splitBy answers gives a loop over it. -/
theorem stops_bl (n : Nat) (hn : 3 ≤ n) (Bs : Nat) (s : ByteArray) (hs : s.size ≤ 1099511627776) (w : World) (hlt : Bs + 1 < w.heap.size) (hB0 : w.cell? ⟨Bs, 0, none⟩ = some (.string s)) (hB1 : w.cell? ⟨Bs + 1, 0, none⟩ = some (.func (.func 90) #[] #[])) :
    SeqStopsK Fence.wide n Tryd.prog 107 #[.pointer (some ⟨Bs, 0, none⟩), .pointer (some ⟨Bs + 1, 0, none⟩)] (fun x : ByteArray => #[Value.string x]) (Two Bs) (fun ys => ys = pieces isBl s) (fun _ => True) (s.size + 1) w := fun l J Jx W hW hJ hJx hY h0 =>
  split1_bl n hn l Bs s hs J Jx hY (fun pre A m h => hJ pre A _ none h (grown_draws _ _ _) (fun r e => by cases e)) W ((hW.cell (p := ⟨Bs, 0, none⟩) (by simp; omega)).trans hB0) ((hW.cell (p := ⟨Bs + 1, 0, none⟩) (by simp; omega)).trans hB1) h0
end Go.Proofs.YtebmaplflpfjbaaDoor
