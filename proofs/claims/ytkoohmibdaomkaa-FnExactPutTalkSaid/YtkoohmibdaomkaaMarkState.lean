/- What laws.markState leaves of a state whose rows the call owns: its marks; and laws.heldState of them. Condition: rows of the call's own (or empty ones). -/
import Derived.Test.YtkoohmibdaomkaaHeld
namespace Go.Proofs.Ytkoohmibdaomkaa
open Go.RowKit
set_option linter.unusedVariables false

/-- At most the blocks g and h of what was there have turned. -/
def Off (w w' : World) (g h : Nat) : Prop := ∃ w1, w.grownBy w1 (some g) ∧ w1.grownBy w' (some h)
theorem Off.below {w w' : World} {g h B : Nat} (ho : Off w w' g h) (hg : B ≤ g) (hh : B ≤ h) (hB : B ≤ w.heap.size) : Below B w w' := by
  obtain ⟨w1, a, b⟩ := ho
  exact (((Below.refl B w).grown a hB (fun k hk => by cases hk; exact hg))).grown b (Nat.le_trans hB a.size) (fun k hk => by cases hk; exact hh)
theorem Got.grown {w w' : World} {base e size x n cap g : Nat} {cs : List Value} (h : Got w base e size x n cap cs) (hg : w.grownBy w' (some g)) (hne : x ≠ g) : Got w' base e size x n cap cs := by
  obtain ⟨h1, h2, h3, h4, h5, h6⟩ := h
  exact ⟨h1, h2, h3, h4, Nat.lt_of_lt_of_le h5 hg.size, h6.imp id (fun h => h.kept hg (Or.inr (by simp [Value.ownBlock]; omega)))⟩
theorem Got.off {w w' : World} {base e size x n cap g k : Nat} {cs : List Value} (h : Got w base e size x n cap cs) (ho : Off w w' g k) (hg : x ≠ g) (hk : x ≠ k) : Got w' base e size x n cap cs := by
  obtain ⟨w1, a, b⟩ := ho
  exact (h.grown a hg).grown b hk
theorem grown_of_below {w w' : World} (h : Below w.heap.size w w') (g : Option Nat) : w.grownBy w' g := ⟨h.os, h.tape, h.output, h.size, fun k hk _ => h.block k hk⟩

set_option maxHeartbeats 2000000 in
theorem mark_state (ni nt k gi ci gt ct base : Nat) (cs ds : List Value) (w : World) (hk : 0 < k) (hk' : k + 2 * ni + 3 * nt ≤ 9223372036854775807) (hne : gi ≠ gt)
    (hi : Got w base 29 2 gi ni ci cs) (ht : Got w base 41 3 gt nt ct ds) :
    Calls Try.prog 44 #[.agg #[.slice (some ⟨gi, 0, none⟩) ni ci, .slice (some ⟨gt, 0, none⟩) nt ct], .int .i64 k] w fun e w' => e = .returned (.int .i64 ((k + 2 * ni + 3 * nt : Nat) : Int)) ∧
      Got w' base 29 2 gi ni ci (markI k ni) ∧ Got w' base 41 3 gt nt ct (markT (k + 2 * ni) nt) ∧ Off w w' gi gt := by
  obtain ⟨W, hW⟩ : ∃ W, W = w.alloc (.cells #[.slice (some ⟨gi, 0, none⟩) ni ci, .slice (some ⟨gt, 0, none⟩) nt ct] 27) := ⟨_, rfl⟩
  have hbW : Below w.heap.size w W := by rw [hW]; exact (Below.refl _ _).alloc (Nat.le_refl _) _
  have k0 : W.heap[w.heap.size]? = some (.cells #[.slice (some ⟨gi, 0, none⟩) ni ci, .slice (some ⟨gt, 0, none⟩) nt ct] 27 (0, 0)) := by rw [hW]; exact heap_new _ _
  have lI := hi.2.2.2.2.1
  have lT := ht.2.2.2.2.1
  have hc0 := mark_items ni k gi ci base cs W hk (by omega) (hi.later hbW)
  have Ht := Lib.hid (ht.later hbW)
  have Hk0 := Lib.hid k0
  have HbW := Lib.hid hbW
  have hWs : W.heap.size = w.heap.size + 1 := by rw [hW]; simp
  have HWs := Lib.hid hWs
  rw [hW] at hc0
  clear hi ht k0 hbW hWs
  go_enter Try.func44, Try.ntmps44
  go_wp2_with (go_at_call 81; refine hc0.mono ?_; rintro e w1 ⟨rfl, g1, b1⟩; refine Hid.out ?_)
  refine Lib.hid ?_
  rw [← hW] at b1
  have j0 := (b1.block w.heap.size (by have := HWs.out; omega) (by simp; omega)).trans Hk0.out
  have a1 := cell_of_row w1 _ 1 _ _ _ j0
  simp only [List.getElem?_toArray, List.getElem?_cons_zero, List.getElem?_cons_succ] at a1
  have hc1 := mark_talks nt (k + 2 * ni) gt ct base ds w1 (by omega) (by omega) (Ht.out.grown b1 (by omega))
  have G1 := Lib.hid g1
  have B1 := Lib.hid b1
  clear j0 g1 b1 hc0 hW
  go_wp2_with (go_at_call 82; refine hc1.mono ?_; rintro e w2 ⟨rfl, g2, b2⟩)
  go_ret
  exact ⟨rfl, G1.out.grown b2 hne, g2, w1, (grown_of_below HbW.out _).trans B1.out, b2⟩

set_option maxHeartbeats 2000000 in
theorem held_state (ni nt k gi ci gt ct base : Nat) (w : World) (hk : 0 < k) (hk' : k + 2 * ni + 3 * nt ≤ 9223372036854775807)
    (hi : Got w base 29 2 gi ni ci (markI k ni)) (ht : Got w base 41 3 gt nt ct (markT (k + 2 * ni) nt)) :
    Calls Try.prog 45 #[.agg #[.slice (some ⟨gi, 0, none⟩) ni ci, .slice (some ⟨gt, 0, none⟩) nt ct], .int .i64 k] w fun e w' => e = .returned (.int .i64 ((k + 2 * ni + 3 * nt : Nat) : Int)) ∧ Below w.heap.size w w' := by
  obtain ⟨W, hW⟩ : ∃ W, W = w.alloc (.cells #[.slice (some ⟨gi, 0, none⟩) ni ci, .slice (some ⟨gt, 0, none⟩) nt ct] 27) := ⟨_, rfl⟩
  have hbW : Below w.heap.size w W := by rw [hW]; exact (Below.refl _ _).alloc (Nat.le_refl _) _
  have hWs : W.heap.size = w.heap.size + 1 := by rw [hW]; simp
  have k0 : W.heap[w.heap.size]? = some (.cells #[.slice (some ⟨gi, 0, none⟩) ni ci, .slice (some ⟨gt, 0, none⟩) nt ct] 27 (0, 0)) := by rw [hW]; exact heap_new _ _
  have hc0 := held_items ni k gi ci base W hk (by omega) (hi.later hbW)
  have Ht := Lib.hid (ht.later hbW)
  have Hk0 := Lib.hid k0
  have HbW := Lib.hid hbW
  have HWs := Lib.hid hWs
  rw [hW] at hc0
  clear hi ht k0 hbW hWs
  go_enter Try.func45, Try.ntmps45
  go_wp2_with (go_at_call 83; refine hc0.mono ?_; rintro e w1 ⟨rfl, b1⟩; refine Hid.out ?_)
  refine Lib.hid ?_
  rw [← hW] at b1
  have j0 := (b1.block w.heap.size (by have := HWs.out; omega)).trans Hk0.out
  have a1 := cell_of_row w1 _ 1 _ _ _ j0
  simp only [List.getElem?_toArray, List.getElem?_cons_zero, List.getElem?_cons_succ] at a1
  have hc1 := held_talks nt (k + 2 * ni) gt ct base w1 (by omega) (by omega) (Ht.out.later b1)
  have B1 := Lib.hid (HbW.out.trans (b1.mono HbW.out.size))
  clear j0 b1 hc0 hW
  go_wp2_with (go_at_call 84; refine hc1.mono ?_; rintro e w2 ⟨rfl, b2⟩)
  go_ret
  exact ⟨rfl, B1.out.trans (b2.mono B1.out.size)⟩
end Go.Proofs.Ytkoohmibdaomkaa
