/- What the proofs of this seat have in common: plain facts, rows in memory, the laws' own helpers, the small functions' contracts. Condition: none. -/
import Derived.RangeFuncNested
import Derived.RangeFuncBound
import Derived.RangeFuncCalls
import Derived.RangeFuncLeaves
import Derived.RangeFuncBox
import Derived.Shelf.Abstract
import Derived.Shelf.RegionOpen
import Derived.WalkKit
import Derived.OwnWalkIn
import Derived.TacticsInMore
import Derived.LoopNIn
import Derived.LoopIn
import Derived.Sort.QuietIn
import Derived.OrdersHeld
import Derived.Test.YtdpjdjkfedcojaaGreatBaseA
import Derived.Test.YtdpjdjkfedcojaaGreatFmtA
import Derived.Test.YtdpjdjkfedcojaaGreatCurA
namespace Go.Proofs.YtdpjdjkfedcojaaGreat
open Go.RowKit
set_option linter.unusedVariables false
set_option linter.unusedSimpArgs false

def defers : Op → Bool
  | .defer _ => true
  | _ => false
section
variable {P : Program} {ops : Array Oper} {Q : Exit → Act → World → Prop} {n l : Nat}
theorem rowsIn_of {row : String} {args : Array Value} {w : World} {R : Value → World → Prop} (h : Rows P row args w R) : RowsIn (Fence.wide.inRound l) n P row args w R :=
  fun c cs _ => let ⟨v, w', r, s⟩ := h c cs; ⟨v, w', r, stepsIn_wide.2 s⟩
theorem uponIn_of {o : Oper} {a : Act} {K : Act → World → Prop} {r : Result Next} (h : o.upon P a K Q r) : o.uponIn (Fence.wide.inRound l) n P a K Q r := by
  cases r with
  | ok x w' =>
    cases x with
    | value v => exact h
    | skip => exact h
    | defer d => exact h
    | enter f args =>
      refine ⟨fun q => (by cases q), CallsIn.inRound l (callsIn_wide.2 (Calls.mono h fun e w'' he => ?_))⟩
      cases e <;> exact he
    | row r args => exact ⟨fun q => (by cases q), rowsIn_of h⟩
    | _ => exact h.elim
  | halt s w' => cases s <;> exact h
theorem wpOpIn_of {i : Nat} {K : Act → World → Prop} {a : Act} {w : World} (hl : ¬ LetsOut Q) (hd : ops.toList.all (fun o => !defers o.op) = true) (h : wpOp P ops Q i K a w) : wpOpIn (Fence.wide.inRound l) n P ops Q i K a w := by
  unfold wpOp at h
  unfold wpOpIn
  cases ho : ops[i]? with
  | none => rw [ho] at h; exact h
  | some o =>
    rw [ho] at h
    simp only at h ⊢
    have hm : o ∈ ops.toList := by
      rw [Array.mem_toList_iff]
      exact Array.mem_of_getElem? ho
    have hnd : ∀ c, o.op ≠ .defer c := fun c e => by
      have := List.all_eq_true.1 hd o hm
      rw [e] at this
      cases this
    split
    · rename_i hw
      rw [if_pos hw] at h
      rcases h with h | h
      · refine ⟨fun _ _ => trivial, ?_⟩
        rw [show (Fence.wide.inRound l).round = some l from rfl, Oper.semAt_some l _ _ hnd]
        exact uponIn_of h
      · exact absurd h.2 hl
    · rename_i hw
      rw [if_neg hw] at h
      exact ⟨fun _ _ => trivial, h⟩
theorem wpAnyIn_of {md : Region.Mode} (hl : ¬ LetsOut Q) (hd : ops.toList.all (fun o => !defers o.op) = true) : ∀ (fuel : Nat) (listed : Array Bool) (a : Act) (w : World), wpAny P md ops Q fuel listed a w → wpAnyIn (Fence.wide.inRound l) n P md ops Q fuel listed a w
  | 0, _, _, _, h => h
  | fuel + 1, listed, a, w, h => ⟨h.1, fun i hi => wpOpIn_mono (fun a w h => wpAnyIn_of hl hd fuel _ a w h) (wpOpIn_of hl hd (h.2 i hi))⟩
theorem region_round {id : Nat} {a : Act} {w : World} {S : World → Prop} (hm : P.follows .mixedOrders = true) (hl : ¬ LetsOut Q) (hd : ops.toList.all (fun o => !defers o.op) = true) (hS : S w.drew)
    (h : S w.drew → wpAnyH P .any ops Q S ops.size (Array.replicate ops.size false) a w.drew) : (Code.region id ops true).wpIn (Fence.wide.inRound l) n P Q a w :=
  wpIn_region_any hm (wpAnyIn_of hl hd _ _ _ _ (wpAny_of_held _ _ _ _ (h hS)))
end
end Go.Proofs.YtdpjdjkfedcojaaGreat

namespace Go.Proofs.YtdpjdjkfedcojaaGreat
open Go.RowKit Go.Shelf
set_option linter.unusedVariables false
set_option linter.unusedSimpArgs false
attribute [local go_sem] Oper.semAt_some
theorem wide_fn (f : FuncId) : Fence.wide.fn f = True := rfl
attribute [local simp] wide_fn

/-- The two captured variables' blocks are as they were. -/
def Two (Bs : Nat) (W W' : World) : Prop := W'.heap[Bs]? = W.heap[Bs]? ∧ W'.heap[Bs + 1]? = W.heap[Bs + 1]?
theorem Two.trans {Bs : Nat} {A B C : World} (h : Two Bs A B) (k : Two Bs B C) : Two Bs A C := ⟨k.1.trans h.1, k.2.trans h.2⟩
theorem Two.put {Bs : Nat} {w : World} (hlt : Bs + 1 < w.heap.size) (W : World) (l : Nat) (o o' : Obj) (hl : w.heap.size ≤ l) (h : W.heap[l]? = some o) (_ : o.isCells = false) (_ : o.isWalk = false) : Two Bs W (W.putObj l o') := by
  have hg := grownBy_putObj' W l o'
  have := (Array.getElem?_eq_some_iff.1 h).1
  exact ⟨hg.block Bs (by omega) (by simp; omega), hg.block (Bs + 1) (by omega) (by simp; omega)⟩
theorem chunks_in (n : Nat) (s : ByteArray) (m : Int) (w : World) :
    CallsIn Fence.wide n Tryz.prog 57 #[.string s, .int .i64 m] w fun e w' => e = .returned (.func (.func 95) #[] #[.pointer (some ⟨w.heap.size, 0, none⟩), .pointer (some ⟨w.heap.size + 1, 0, none⟩)]) ∧ w' = (w.alloc (.cells #[.string s] 9)).alloc (.cells #[.int .i64 m] 3) := by
  have hmf : ∀ (fn : Fn) (first cap : Array Value) (w : World), (Instr.makeFunc fn first cap).run Tryz.prog w = .ok (.func fn first cap) w := fun _ _ _ _ => rfl
  refine callsIn_of_wp Tryz.func57 rfl trivial ?_ rfl
  simp only [Tryz.ntmps57, List.size_toArray, List.length_cons, List.length_nil, Nat.reduceAdd, Nat.reduceSub, Array.replicate_succ, Array.replicate_zero, List.push_toArray, List.append_toArray, List.nil_append, List.cons_append]
  gi_wp2
  go_ret
  exact ⟨rfl, rfl⟩
def partV (s : ByteArray) (m i : Nat) : Array Value := #[.int .i64 ((i : Int) + 1), .string (partB s m i)]
set_option maxRecDepth 100000 in
set_option maxHeartbeats 2000000 in
/-- What the yielding function does. -/
theorem chunks1 (n : Nat) (hn : 3 ≤ n) (l Bs : Nat) (s : ByteArray) (hs : s.size ≤ 1099511627776) (m : Nat) (hm : 0 < m) (hm2 : m ≤ 200) (M : Nat) (hM : manyN s m = M) (hM2 : M ≤ 600) (J Jx : List (Fin M) → World → Prop)
    (hY : ∀ pre x W, J pre W → pre.length < M → YieldAt Fence.wide (n - 1) Tryz.prog l (partV s m x.val) W fun e W' =>
      (e = .returned (.bool true) ∧ J (pre ++ [x]) W' ∧ Two Bs W W') ∨ (e = .returned (.bool false) ∧ Jx (pre ++ [x]) W'))
    (hJ : ∀ pre (A : World) k, J pre A → J pre (A.drewN k))
    (W : World) (hB0 : W.cell? ⟨Bs, 0, none⟩ = some (.string s)) (hB1 : W.cell? ⟨Bs + 1, 0, none⟩ = some (.int .i64 m)) (h0 : J [] W) :
    CallsIn Fence.wide n Tryz.prog 95 #[.func (.yield l) #[] #[], .pointer (some ⟨Bs, 0, none⟩), .pointer (some ⟨Bs + 1, 0, none⟩)] W fun e W' => (∃ v, e = .returned v) ∧
      ((∃ ys, ys.map Fin.val = List.range M ∧ J ys W') ∨ (∃ pre, True ∧ Jx pre W')) := by
  refine callsIn_of_wp Tryz.func95 rfl trivial ?_ rfl
  simp only [Tryz.ntmps95, List.size_toArray, List.length_cons, List.length_nil, Nat.reduceAdd, Nat.reduceSub, Array.replicate_succ, Array.replicate_zero, List.push_toArray, List.append_toArray, List.nil_append, List.cons_append]
  have HM := Lib.hid hM
  clear hM
  gi_wp2
  gi_loopw [4, 5] (fun no rest wr => ∃ (k : Nat) (R : ByteArray) (ys : List (Fin M)), k ≤ M ∧ no = .int .i64 ((k : Int) + 1) ∧ rest = .string R ∧ Hid (R = restC s m k) ∧ Hid (ys.map Fin.val = List.range k) ∧ Hid (J ys wr) ∧ Two Bs W wr) (fun no _ _ => M + 1 - (intOf no).toNat)
  case atStart => exact ⟨0, s, [], Nat.zero_le _, rfl, rfl, Lib.hid (restC_zero s m).symm, Lib.hid rfl, Lib.hid h0, ⟨rfl, rfl⟩⟩
  case round =>
    obtain ⟨k, R, ys, hk, rfl, rfl, HR, HYS, hJs, hB⟩ := hrel
    have c1 := (World.cell?_of_block hB.2).trans hB1
    by_cases hlt : k < M
    · have hltM : k < manyN s m := by rw [HM.out]; exact hlt
      obtain ⟨j, hj⟩ : ∃ j, j = min m R.size := ⟨_, rfl⟩
      have hnx := restC_next hm hltM j (by rw [← HR.out]; exact hj)
      have hsome := restC_some hm hltM
      rw [← HR.out] at hnx hsome
      have hRs : R.size ≤ s.size := by rw [HR.out, restC_size]; omega
      obtain ⟨hn1, hn2, hn3⟩ := hnx
      have HN2 := Lib.hid hn2
      have hif : (if (R.size : Int) < (m : Int) then (R.size : Int) else (m : Int)) = (j : Int) := by
        rw [hj]
        by_cases h : (R.size : Int) < (m : Int)
        · rw [if_pos h]; omega
        · rw [if_neg h]; omega
      have hne : R.toList.isEmpty = false := by
        rw [ByteArray.toList_eq]
        cases hh : R.data.toList with
        | nil => have := congrArg List.length hh; rw [Array.length_toList] at this; change R.size = 0 at this; omega
        | cons a b => rfl
      have hlen : ys.length = k := by have := congrArg List.length HYS.out; simpa using this
      have HY0 := hY ys ⟨k, hlt⟩
      unfold partV at HY0
      rw [← hn1] at HY0
      dsimp only at HY0
      clear hn1 hn2 hj hsome hltM
      have hwk : wrap64 ((k : Int) + 1 + 1) = (k : Int) + 1 + 1 := IntWalk.wrap64_in _ ⟨by omega, by omega⟩
      by_cases hlm : (R.size : Int) < (m : Int)
      · rw [if_pos hlm] at hif
        obtain rfl : j = R.size := by omega
        rw [ByteArray.extract_zero_size] at HY0
        replace HN2 := Lib.hid ((show ByteArray.empty = R.extract R.size R.size by apply ByteArray.ext; simp).trans HN2.out)
        clear hif
        obtain ⟨fn, tmps, assign, body, hy, hR⟩ := HY0 wr hJs.out (by omega)
        gi_wp2
        refine ⟨fun _ => (by omega), hR.mono ?_⟩
        rintro e W3 (⟨rfl, hJ3, hk3⟩ | ⟨rfl, hJx3⟩)
        · have hB3 : Two Bs W W3 := Two.trans hB hk3
          have hJ3 := Lib.hid hJ3
          gi_wp2
          go_roundw
          case rel => exact ⟨k + 1, _, ys ++ [⟨k, hlt⟩], by omega, by go_num, rfl, HN2, Lib.hid (by rw [List.map_append, HYS.out, List.range_succ]; rfl), hJ3, hB3⟩
          case measure => simp [intOf]; omega
        · have hJx3 := Lib.hid hJx3
          gi_wp2
          refine bodyPost_ret (results_none rfl _ _ _) rfl ?_
          exact ⟨⟨_, rfl⟩, .inr ⟨_, trivial, hJx3.out⟩⟩
      · rw [if_neg hlm] at hif
        obtain rfl : j = m := by omega
        clear hif
        obtain ⟨fn, tmps, assign, body, hy, hR⟩ := HY0 wr hJs.out (by omega)
        gi_wp2
        refine ⟨fun _ => (by omega), hR.mono ?_⟩
        rintro e W3 (⟨rfl, hJ3, hk3⟩ | ⟨rfl, hJx3⟩)
        · have hB3 : Two Bs W W3 := Two.trans hB hk3
          have hJ3 := Lib.hid hJ3
          gi_wp2
          go_roundw
          case rel => exact ⟨k + 1, _, ys ++ [⟨k, hlt⟩], by omega, by go_num, rfl, HN2, Lib.hid (by rw [List.map_append, HYS.out, List.range_succ]; rfl), hJ3, hB3⟩
          case measure => simp [intOf]; omega
        · have hJx3 := Lib.hid hJx3
          gi_wp2
          refine bodyPost_ret (results_none rfl _ _ _) rfl ?_
          exact ⟨⟨_, rfl⟩, .inr ⟨_, trivial, hJx3.out⟩⟩
    · obtain rfl : k = M := by omega
      have hz := restC_none (s := s) (n := m) (k := k) hm (by rw [HM.out]; exact hlt)
      rw [← HR.out] at hz
      have he : R.toList.isEmpty = true := by
        rw [ByteArray.toList_eq]
        cases hh : R.data.toList with
        | nil => rfl
        | cons a b => have := congrArg List.length hh; rw [Array.length_toList] at this; change R.size = _ at this; simp at this; omega
      gi_wp2
      go_end0
      exact ⟨⟨_, rfl⟩, .inl ⟨ys, HYS.out, hJs.out⟩⟩
end Go.Proofs.YtdpjdjkfedcojaaGreat
