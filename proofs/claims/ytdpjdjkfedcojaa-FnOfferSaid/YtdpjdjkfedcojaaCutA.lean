/- What the proofs of this seat have in common: plain facts, rows in memory, the laws' own helpers, the small functions' contracts. Condition: none. -/
import Derived.RangeFuncNested
import Derived.RangeFuncBound
import Derived.RangeFuncCalls
import Derived.RangeFuncLeaves
import Derived.RangeFuncBox
import Derived.Shelf.Abstract
import Derived.Shelf.RegionOpen
import Derived.WalkKit
import Derived.OwnWalkIn
import Derived.TacticsInMore
import Derived.LoopNIn
import Derived.LoopIn
import Derived.Sort.QuietIn
import Derived.OrdersHeld
import Derived.Test.YtdpjdjkfedcojaaBaseA
import Derived.Test.YtdpjdjkfedcojaaFmtA
import Derived.Test.YtdpjdjkfedcojaaCurA
import Derived.Test.YtdpjdjkfedcojaaImplPut
import Derived.Test.YtdpjdjkfedcojaaStrA
namespace Go.Proofs.Ytdpjdjkfedcojaa
open Go.RowKit
set_option linter.unusedVariables false
set_option linter.unusedSimpArgs false

def defers : Op → Bool
  | .defer _ => true
  | _ => false
section
variable {P : Program} {ops : Array Oper} {Q : Exit → Act → World → Prop} {n l : Nat}
theorem rowsIn_of {row : String} {args : Array Value} {w : World} {R : Value → World → Prop} (h : Rows P row args w R) : RowsIn (Fence.wide.inRound l) n P row args w R :=
  fun c cs _ => let ⟨v, w', r, s⟩ := h c cs; ⟨v, w', r, stepsIn_wide.2 s⟩
theorem uponIn_of {o : Oper} {a : Act} {K : Act → World → Prop} {r : Result Next} (h : o.upon P a K Q r) : o.uponIn (Fence.wide.inRound l) n P a K Q r := by
  cases r with
  | ok x w' =>
    cases x with
    | value v => exact h
    | skip => exact h
    | defer d => exact h
    | enter f args =>
      refine ⟨fun q => (by cases q), CallsIn.inRound l (callsIn_wide.2 (Calls.mono h fun e w'' he => ?_))⟩
      cases e <;> exact he
    | row r args => exact ⟨fun q => (by cases q), rowsIn_of h⟩
    | _ => exact h.elim
  | halt s w' => cases s <;> exact h
theorem wpOpIn_of {i : Nat} {K : Act → World → Prop} {a : Act} {w : World} (hl : ¬ LetsOut Q) (hd : ops.toList.all (fun o => !defers o.op) = true) (h : wpOp P ops Q i K a w) : wpOpIn (Fence.wide.inRound l) n P ops Q i K a w := by
  unfold wpOp at h
  unfold wpOpIn
  cases ho : ops[i]? with
  | none => rw [ho] at h; exact h
  | some o =>
    rw [ho] at h
    simp only at h ⊢
    have hm : o ∈ ops.toList := by
      rw [Array.mem_toList_iff]
      exact Array.mem_of_getElem? ho
    have hnd : ∀ c, o.op ≠ .defer c := fun c e => by
      have := List.all_eq_true.1 hd o hm
      rw [e] at this
      cases this
    split
    · rename_i hw
      rw [if_pos hw] at h
      rcases h with h | h
      · refine ⟨fun _ _ => trivial, ?_⟩
        rw [show (Fence.wide.inRound l).round = some l from rfl, Oper.semAt_some l _ _ hnd]
        exact uponIn_of h
      · exact absurd h.2 hl
    · rename_i hw
      rw [if_neg hw] at h
      exact ⟨fun _ _ => trivial, h⟩
theorem wpAnyIn_of {md : Region.Mode} (hl : ¬ LetsOut Q) (hd : ops.toList.all (fun o => !defers o.op) = true) : ∀ (fuel : Nat) (listed : Array Bool) (a : Act) (w : World), wpAny P md ops Q fuel listed a w → wpAnyIn (Fence.wide.inRound l) n P md ops Q fuel listed a w
  | 0, _, _, _, h => h
  | fuel + 1, listed, a, w, h => ⟨h.1, fun i hi => wpOpIn_mono (fun a w h => wpAnyIn_of hl hd fuel _ a w h) (wpOpIn_of hl hd (h.2 i hi))⟩
theorem region_round {id : Nat} {a : Act} {w : World} {S : World → Prop} (hm : P.follows .mixedOrders = true) (hl : ¬ LetsOut Q) (hd : ops.toList.all (fun o => !defers o.op) = true) (hS : S w.drew)
    (h : S w.drew → wpAnyH P .any ops Q S ops.size (Array.replicate ops.size false) a w.drew) : (Code.region id ops true).wpIn (Fence.wide.inRound l) n P Q a w :=
  wpIn_region_any hm (wpAnyIn_of hl hd _ _ _ _ (wpAny_of_held _ _ _ _ (h hS)))
end
end Go.Proofs.Ytdpjdjkfedcojaa

namespace Go.Proofs.Ytdpjdjkfedcojaa
open Go.RowKit Go.Shelf
set_option linter.unusedVariables false
set_option linter.unusedSimpArgs false
attribute [local go_sem] Oper.semAt_some
theorem wide_fn (f : FuncId) : Fence.wide.fn f = True := rfl
attribute [local simp] wide_fn

/-- The two captured variables' blocks are as they were. -/
def Two (Bs : Nat) (W W' : World) : Prop := W'.heap[Bs]? = W.heap[Bs]? ∧ W'.heap[Bs + 1]? = W.heap[Bs + 1]?
theorem Two.trans {Bs : Nat} {A B C : World} (h : Two Bs A B) (k : Two Bs B C) : Two Bs A C := ⟨k.1.trans h.1, k.2.trans h.2⟩
theorem Two.put {Bs : Nat} {w : World} (hlt : Bs + 1 < w.heap.size) (W : World) (l : Nat) (o o' : Obj) (hl : w.heap.size ≤ l) (h : W.heap[l]? = some o) (_ : o.isCells = false) (_ : o.isWalk = false) : Two Bs W (W.putObj l o') := by
  have hg := grownBy_putObj' W l o'
  have := (Array.getElem?_eq_some_iff.1 h).1
  exact ⟨hg.block Bs (by omega) (by simp; omega), hg.block (Bs + 1) (by omega) (by simp; omega)⟩
def partV (s : ByteArray) (m i : Nat) : Array Value := #[.int .i64 ((i : Int) + 1), .string (partB s m i)]
end Go.Proofs.Ytdpjdjkfedcojaa

namespace Go.Proofs.Ytdpjdjkfedcojaa
open Go.RowKit Go.Shelf
set_option linter.unusedVariables false
set_option linter.unusedSimpArgs false
attribute [local go_sem] Oper.semAt_some
attribute [local simp] wide_fn

theorem impl_first (w : World) : Calls Try.prog 53 #[] w fun e w' => e = .returned (.int .i64 (hashN [] : Nat)) ∧ w = w' := by
  have hc := fun w => impl_hash ⟨#[]⟩ w (by unfold maxLen; exact Nat.zero_le _)
  obtain ⟨h0, hh⟩ : ∃ z, z = hashN [] := ⟨_, rfl⟩
  change ∀ w, Calls Try.prog 91 #[.string ⟨#[]⟩] w fun e w' => e = .returned (.int .i64 ((hashN [] : Nat) : Int)) ∧ w = w' at hc
  rw [← hh] at hc ⊢
  clear hh
  go_enter Try.func53, Try.ntmps53
  go_wp2_with (go_at_call 91; refine (hc _).mono ?_; rintro e w1 ⟨rfl, rfl⟩)
  go_ret
  exact ⟨rfl, rfl⟩
theorem ownsRow_lower {w : World} {B B' : Nat} {e : TypeId} {size : Nat} {v : Value} {n : Nat} {xs : List Value} (h : w.ownsRow B e size v n xs) (hB : B' ≤ B) : w.ownsRow B' e size v n xs := by
  obtain ⟨h1, h2 | ⟨g, cap, cur, hv, hg, r⟩⟩ := h
  · exact ⟨h1, .inl h2⟩
  · exact ⟨h1, .inr ⟨g, cap, cur, hv, by omega, r⟩⟩
theorem ownFrom_below' {β : Type} {n₀ B : Nat} {w₀ : World} (hB : n₀ ≤ B ∧ n₀ ≤ w₀.heap.size := by omega) : OwnFrom B (fun (_ : β) W => Below n₀ w₀ W) := ownFrom_below hB.2 hB.1
theorem ko_below {w w' : World} (h : Below w.heap.size w w') : KeepsOthers w w' := KeepsOthers.of_grownBy (row := none) ⟨h.os, h.tape, h.output, h.size, fun k hk _ => h.block k hk⟩ (fun _ _ e => by cases e)
theorem got_of_row {w : World} {base e size g n cap : Nat} {cs : List Value} (h : w.ownsRow base e size (.slice (some ⟨g, 0, none⟩) n cap) n cs) : Got w base e size g n cap cs := by
  have hl := World.ownsRow.lt h g rfl
  obtain ⟨h1, h2 | ⟨g', cap', cur, hv, hg, hh, hc, hm, r⟩⟩ := id h
  · cases h2.1
  · cases hv
    exact ⟨h1, hc, hm, hg, hl.2, .inr h⟩
theorem row_of_gotS {w : World} {base e size g n cap : Nat} {cs : List Value} (h : Got w base e size g n cap cs) (hn : 0 < n) : w.ownsRow base e size (.slice (some ⟨g, 0, none⟩) n cap) n cs := by
  rcases h.2.2.2.2.2 with ⟨h0, _⟩ | h
  · omega
  · exact h
theorem one_rawS {w : World} {g : Nat} {cs : List Value} {t : TypeId} (h : w.heap[g]? = some (.cells cs.toArray t (0, 0))) (hg : g < w.heap.size) : Raw w w.heap.size (.slice (some ⟨g, 0, none⟩) 1 1) 1 cs :=
  ⟨_, 1, rfl, Nat.le_refl _, by unfold maxLen; omega, (fun h => by cases h), fun _ => ⟨g, 0, rfl, hg, fun j u hu => by rw [Nat.zero_add, cell_of_row w _ j _ _ _ h]; simpa using hu⟩⟩
theorem cut_even {s : ByteArray} {n : Nat} (h1 : inB (n : Int) 8 200 = true) (h : ¬ 600 < manyN s n) : cutS s (n : Int) = cutUp s n (manyN s n) := by
  by_cases h0 : s = ⟨#[]⟩
  · subst h0
    rw [cut_none]
    have h2 := inB_true h1
    have : manyN ⟨#[]⟩ n = 0 := by
      unfold manyN
      exact Nat.div_eq_of_lt (by show 0 + n - 1 < n; omega)
    rw [this]; rfl
  · exact cut_ok h0 h1 h
theorem made_row (w : World) (B M : Nat) (hB : B ≤ w.heap.size) (hM : M ≤ 600) : ∃ cs : Array Value, (Instr.makeSlice 52 (.int .i64 0) (.int .i64 (M : Int))).run Try.prog w = .ok (.slice (some ⟨w.heap.size, 0, none⟩) 0 M) (w.alloc (.cells cs 9)) ∧ (w.alloc (.cells cs 9)).ownsRow B 9 1 (.slice (some ⟨w.heap.size, 0, none⟩) 0 M) 0 [] := by
  obtain ⟨i0, hi, hz0, hz1, hz2⟩ := info_parts infoS7
  have h := run_make (P := Try.prog) w 52 9 i0 _ Try.underlying52 hi hz0 .i64 .i64 0 (M : Int) (by omega) (by omega) (by rw [hz2]; omega) (by omega)
  simp only [Int.toNat_natCast, Int.toNat_zero, hz1, Nat.mul_one] at h
  refine ⟨_, h, rfl, .inr ⟨w.heap.size, M, _, rfl, hB, heap_new _ _, Nat.zero_le _, by unfold maxLen; omega, ?_, rfl⟩⟩
  simp [madeCells, Value.cells]

end Go.Proofs.Ytdpjdjkfedcojaa
