/- Rows that may be nil, marked and held; a state in that form. Condition: none. -/
import Derived.Test.YtkoohmibdaomkaaRowSet
namespace Go.Proofs.Ytkoohmibdaomkaa
open Go.RowKit
set_option linter.unusedVariables false

def NilOr (a : Option Addr) (g n cap : Nat) : Prop := a = some ⟨g, 0, none⟩ ∨ (a = none ∧ n = 0 ∧ cap = 0)
theorem mark_itemsN (n k g cap base : Nat) (a : Option Addr) (cs : List Value) (w : World) (hk : 0 < k) (hk' : k + 2 * n ≤ 9223372036854775807) (ha : NilOr a g n cap) (h : Got w base 29 2 g n cap cs) :
    Calls Try.prog 81 #[.slice a n cap, .int .i64 k] w fun e w' => e = .returned (.int .i64 ((k + 2 * n : Nat) : Int)) ∧ Got w' base 29 2 g n cap (markI k n) ∧ w.grownBy w' (some g) := by
  rcases ha with rfl | ⟨rfl, rfl, rfl⟩
  · exact mark_items n k g cap base cs w hk hk' h
  · have H := Lib.hid h
    clear h
    go_enter Try.func81, Try.ntmps81
    go_wp2
    go_loop [1, 5] (fun q i => q = .int .i64 k ∧ i = .int .i64 0) (fun _ _ => 0)
    case atStart => exact ⟨rfl, rfl⟩
    case round =>
      obtain ⟨rfl, rfl⟩ := hrel
      go_wp2
      go_ret
      obtain ⟨h1, h2, h3, h4, h5, h6⟩ := H.out
      exact ⟨ret_int (by simp), ⟨markI_len _ _, h2, h3, h4, h5, .inl ⟨rfl, rfl⟩⟩, World.grownBy.refl _ _⟩
theorem held_itemsN (n k g cap base : Nat) (a : Option Addr) (w : World) (hk : 0 < k) (hk' : k + 2 * n ≤ 9223372036854775807) (ha : NilOr a g n cap) (h : Got w base 29 2 g n cap (markI k n)) :
    Calls Try.prog 83 #[.slice a n cap, .int .i64 k] w fun e w' => e = .returned (.int .i64 ((k + 2 * n : Nat) : Int)) ∧ Below w.heap.size w w' := by
  rcases ha with rfl | ⟨rfl, rfl, rfl⟩
  · exact held_items n k g cap base w hk hk' h
  · clear h
    go_enter Try.func83, Try.ntmps83
    go_wp2
    go_loop [1, 5] (fun q i => q = .int .i64 k ∧ i = .int .i64 0) (fun _ _ => 0)
    case atStart => exact ⟨rfl, rfl⟩
    case round =>
      obtain ⟨rfl, rfl⟩ := hrel
      go_wp2
      go_ret
      exact ⟨ret_int (by simp), Below.refl _ _⟩

theorem mark_talksN (n k g cap base : Nat) (a : Option Addr) (cs : List Value) (w : World) (hk : 0 < k) (hk' : k + 3 * n ≤ 9223372036854775807) (ha : NilOr a g n cap) (h : Got w base 41 3 g n cap cs) :
    Calls Try.prog 82 #[.slice a n cap, .int .i64 k] w fun e w' => e = .returned (.int .i64 ((k + 3 * n : Nat) : Int)) ∧ Got w' base 41 3 g n cap (markT k n) ∧ w.grownBy w' (some g) := by
  rcases ha with rfl | ⟨rfl, rfl, rfl⟩
  · exact mark_talks n k g cap base cs w hk hk' h
  · have H := Lib.hid h
    clear h
    go_enter Try.func82, Try.ntmps82
    go_wp2
    go_loop [1, 5] (fun q i => q = .int .i64 k ∧ i = .int .i64 0) (fun _ _ => 0)
    case atStart => exact ⟨rfl, rfl⟩
    case round =>
      obtain ⟨rfl, rfl⟩ := hrel
      go_wp2
      go_ret
      obtain ⟨h1, h2, h3, h4, h5, h6⟩ := H.out
      exact ⟨ret_int (by simp), ⟨markT_len _ _, h2, h3, h4, h5, .inl ⟨rfl, rfl⟩⟩, World.grownBy.refl _ _⟩
theorem held_talksN (n k g cap base : Nat) (a : Option Addr) (w : World) (hk : 0 < k) (hk' : k + 3 * n ≤ 9223372036854775807) (ha : NilOr a g n cap) (h : Got w base 41 3 g n cap (markT k n)) :
    Calls Try.prog 84 #[.slice a n cap, .int .i64 k] w fun e w' => e = .returned (.int .i64 ((k + 3 * n : Nat) : Int)) ∧ Below w.heap.size w w' := by
  rcases ha with rfl | ⟨rfl, rfl, rfl⟩
  · exact held_talks n k g cap base w hk hk' h
  · clear h
    go_enter Try.func84, Try.ntmps84
    go_wp2
    go_loop [1, 5] (fun q i => q = .int .i64 k ∧ i = .int .i64 0) (fun _ _ => 0)
    case atStart => exact ⟨rfl, rfl⟩
    case round =>
      obtain ⟨rfl, rfl⟩ := hrel
      go_wp2
      go_ret
      exact ⟨ret_int (by simp), Below.refl _ _⟩
set_option maxHeartbeats 2000000 in
theorem mark_stateN (ni nt k gi ci gt ct base : Nat) (ai at_ : Option Addr) (cs ds : List Value) (w : World) (hk : 0 < k) (hk' : k + 2 * ni + 3 * nt ≤ 9223372036854775807) (hne : gi ≠ gt) (hai : NilOr ai gi ni ci) (hat : NilOr at_ gt nt ct)
    (hi : Got w base 29 2 gi ni ci cs) (ht : Got w base 41 3 gt nt ct ds) :
    Calls Try.prog 44 #[.agg #[.slice ai ni ci, .slice at_ nt ct], .int .i64 k] w fun e w' => e = .returned (.int .i64 ((k + 2 * ni + 3 * nt : Nat) : Int)) ∧
      Got w' base 29 2 gi ni ci (markI k ni) ∧ Got w' base 41 3 gt nt ct (markT (k + 2 * ni) nt) ∧ Off w w' gi gt := by
  obtain ⟨W, hW⟩ : ∃ W, W = w.alloc (.cells #[.slice ai ni ci, .slice at_ nt ct] 27) := ⟨_, rfl⟩
  have hbW : Below w.heap.size w W := by rw [hW]; exact (Below.refl _ _).alloc (Nat.le_refl _) _
  have k0 : W.heap[w.heap.size]? = some (.cells #[.slice ai ni ci, .slice at_ nt ct] 27 (0, 0)) := by rw [hW]; exact heap_new _ _
  have lI := hi.2.2.2.2.1
  have lT := ht.2.2.2.2.1
  have hc0 := mark_itemsN ni k gi ci base ai cs W hk (by omega) hai (hi.later hbW)
  have Ht := Lib.hid (ht.later hbW)
  have Hk0 := Lib.hid k0
  have HbW := Lib.hid hbW
  have hWs : W.heap.size = w.heap.size + 1 := by rw [hW]; simp
  have HWs := Lib.hid hWs
  rw [hW] at hc0
  have Hat := Lib.hid hat
  clear hai hat hi ht k0 hbW hWs
  go_enter Try.func44, Try.ntmps44
  go_wp2_with (go_at_call 81; refine hc0.mono ?_; rintro e w1 ⟨rfl, g1, b1⟩; refine Hid.out ?_)
  refine Lib.hid ?_
  rw [← hW] at b1
  have j0 := (b1.block w.heap.size (by have := HWs.out; omega) (by simp; omega)).trans Hk0.out
  have a1 := cell_of_row w1 _ 1 _ _ _ j0
  simp only [List.getElem?_toArray, List.getElem?_cons_zero, List.getElem?_cons_succ] at a1
  have hc1 := mark_talksN nt (k + 2 * ni) gt ct base at_ ds w1 (by omega) (by omega) Hat.out (Ht.out.grown b1 (by omega))
  have G1 := Lib.hid g1
  have B1 := Lib.hid b1
  clear j0 g1 b1 hc0 hW
  go_wp2_with (go_at_call 82; refine hc1.mono ?_; rintro e w2 ⟨rfl, g2, b2⟩)
  go_ret
  exact ⟨rfl, G1.out.grown b2 hne, g2, w1, (grown_of_below HbW.out _).trans B1.out, b2⟩

set_option maxHeartbeats 2000000 in
theorem held_stateN (ni nt k gi ci gt ct base : Nat) (ai at_ : Option Addr) (w : World) (hk : 0 < k) (hk' : k + 2 * ni + 3 * nt ≤ 9223372036854775807) (hai : NilOr ai gi ni ci) (hat : NilOr at_ gt nt ct)
    (hi : Got w base 29 2 gi ni ci (markI k ni)) (ht : Got w base 41 3 gt nt ct (markT (k + 2 * ni) nt)) :
    Calls Try.prog 45 #[.agg #[.slice ai ni ci, .slice at_ nt ct], .int .i64 k] w fun e w' => e = .returned (.int .i64 ((k + 2 * ni + 3 * nt : Nat) : Int)) ∧ Below w.heap.size w w' := by
  obtain ⟨W, hW⟩ : ∃ W, W = w.alloc (.cells #[.slice ai ni ci, .slice at_ nt ct] 27) := ⟨_, rfl⟩
  have hbW : Below w.heap.size w W := by rw [hW]; exact (Below.refl _ _).alloc (Nat.le_refl _) _
  have hWs : W.heap.size = w.heap.size + 1 := by rw [hW]; simp
  have k0 : W.heap[w.heap.size]? = some (.cells #[.slice ai ni ci, .slice at_ nt ct] 27 (0, 0)) := by rw [hW]; exact heap_new _ _
  have hc0 := held_itemsN ni k gi ci base ai W hk (by omega) hai (hi.later hbW)
  have Ht := Lib.hid (ht.later hbW)
  have Hk0 := Lib.hid k0
  have HbW := Lib.hid hbW
  have HWs := Lib.hid hWs
  rw [hW] at hc0
  have Hat := Lib.hid hat
  clear hai hat hi ht k0 hbW hWs
  go_enter Try.func45, Try.ntmps45
  go_wp2_with (go_at_call 83; refine hc0.mono ?_; rintro e w1 ⟨rfl, b1⟩; refine Hid.out ?_)
  refine Lib.hid ?_
  rw [← hW] at b1
  have j0 := (b1.block w.heap.size (by have := HWs.out; omega)).trans Hk0.out
  have a1 := cell_of_row w1 _ 1 _ _ _ j0
  simp only [List.getElem?_toArray, List.getElem?_cons_zero, List.getElem?_cons_succ] at a1
  have hc1 := held_talksN nt (k + 2 * ni) gt ct base at_ w1 (by omega) (by omega) Hat.out (Ht.out.later b1)
  have B1 := Lib.hid (HbW.out.trans (b1.mono HbW.out.size))
  clear j0 b1 hc0 hW
  go_wp2_with (go_at_call 84; refine hc1.mono ?_; rintro e w2 ⟨rfl, b2⟩)
  go_ret
  exact ⟨rfl, B1.out.trans (b2.mono B1.out.size)⟩
end Go.Proofs.Ytkoohmibdaomkaa
