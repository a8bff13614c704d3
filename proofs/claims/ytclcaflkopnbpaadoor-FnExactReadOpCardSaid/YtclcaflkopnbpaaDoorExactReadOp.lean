/- The exact law of ReadOp: the program answers as its model. Condition: the tables and the two errors of strconv read as their initialisers lay them. -/
import Derived.Test.YtclcaflkopnbpaaDoorImplReadOp
import Derived.Test.YtclcaflkopnbpaaDoorSpecReadOp
namespace Go.Proofs.YtclcaflkopnbpaaDoor
open Go.RowKit
set_option linter.unusedVariables false
set_option linter.unusedSimpArgs false

set_option maxHeartbeats 1000000 in
theorem eq_op (x : Rq) (w : World) : Calls Tryd.prog 26 #[rqA x, rqA x] w fun e w' => e = .returned (.bool true) ∧ Below w.heap.size w w' := by
  unfold rqA
  go_enter Tryd.func26, Tryd.ntmps26
  go_wp2
  go_ret
  exact ⟨rfl, ((Below.refl _ _).alloc (Nat.le_refl _) _).alloc (by simp) _⟩
set_option maxRecDepth 100000 in
set_option maxHeartbeats 4000000 in
theorem law_readOp (s : ByteArray) (hs : s.size ≤ maxLen) (w : World) (hdo : Doors w) (her : Errs w) :
    Calls Tryd.prog 6 #[.string s] w fun e w' => e = .returned (.bool true) ∧ Below w.heap.size w w' := by
  have hs' := hs
  unfold maxLen at hs'
  by_cases h1 : (s.size : Int) ≤ 1048576
  · have c0 := spec_readOp s w (by omega)
    obtain ⟨X, hX⟩ : ∃ X, X = roX s := ⟨_, rfl⟩
    obtain ⟨k, hk⟩ : ∃ k, k = roOk s := ⟨_, rfl⟩
    have cI : Hid (∀ w, Doors w → Errs w → Calls Tryd.prog 25 #[.string s] w fun e w' => e = .returned (.tuple #[rqA X, .bool k]) ∧ Below w.heap.size w w') := Lib.hid (by rw [hX, hk]; exact fun w h1 h2 => impl_readOp s w (by omega) h1 h2)
    have cE := Lib.hid (fun w => eq_op X w)
    rw [← hX, ← hk] at c0
    have HDo := Lib.hid hdo
    have HEr := Lib.hid her
    clear hX hk hdo her
    unfold rqA at c0 cI cE
    go_enter Tryd.func6, Tryd.ntmps6
    go_wp2_with (go_at_call 24; refine c0.mono ?_; rintro e w1 ⟨rfl, hb1⟩; refine Hid.out ?_)
    refine Lib.hid ?_
    clear c0
    obtain ⟨W1, hW1⟩ : ∃ W, W = w1.alloc (.cells #[.string X.c, .int .i64 X.q, .int .i64 X.n, .string X.k, .string X.v] 29) := ⟨_, rfl⟩
    have bW1 : Below w.heap.size w W1 := by rw [hW1]; exact hb1.alloc hb1.size _
    have K1 : Hid (W1.heap[w1.heap.size]? = some (.cells #[.string X.c, .int .i64 X.q, .int .i64 X.n, .string X.k, .string X.v] 29 (0, 0))) := Lib.hid (by rw [hW1]; exact heap_new _ _)
    have L1 : Hid (w1.heap.size < W1.heap.size) := Lib.hid (by rw [hW1]; simp)
    have B1 := Lib.hid bW1
    have HW1 := Lib.hid hW1
    have Hc := Lib.hid (cI.out W1 (HDo.out.later bW1) (HEr.out.later bW1))
    clear bW1 hW1 hb1 cI
    go_wp2_with (go_at_call 25; rw [← HW1.out]; refine Hc.out.mono ?_; rintro e w2 ⟨rfl, hb2⟩; refine Hid.out ?_)
    refine Lib.hid ?_
    have K2 := Lib.hid ((hb2.block _ L1.out).trans K1.out)
    have L2 := Lib.hid (Nat.lt_of_lt_of_le L1.out hb2.size)
    have B2 := Lib.hid (B1.out.trans (hb2.mono B1.out.size))
    clear hb2 K1 L1 B1 HW1 Hc
    obtain ⟨W3, hW3⟩ : ∃ W, W = w2.alloc (.cells #[.string X.c, .int .i64 X.q, .int .i64 X.n, .string X.k, .string X.v] 29) := ⟨_, rfl⟩
    have K3 : Hid (W3.heap[w1.heap.size]? = some (.cells #[.string X.c, .int .i64 X.q, .int .i64 X.n, .string X.k, .string X.v] 29 (0, 0))) := Lib.hid (by rw [hW3, Below.heap_alloc _ _ _ L2.out]; exact K2.out)
    have K4 : Hid (W3.heap[w2.heap.size]? = some (.cells #[.string X.c, .int .i64 X.q, .int .i64 X.n, .string X.k, .string X.v] 29 (0, 0))) := Lib.hid (by rw [hW3]; exact heap_new _ _)
    have B3 : Hid (Below w.heap.size w W3) := Lib.hid (by rw [hW3]; exact B2.out.alloc B2.out.size _)
    have a0 := cell_of_row W3 _ 0 _ _ _ K3.out
    have a1 := cell_of_row W3 _ 1 _ _ _ K3.out
    have a2 := cell_of_row W3 _ 2 _ _ _ K3.out
    have a3 := cell_of_row W3 _ 3 _ _ _ K3.out
    have a4 := cell_of_row W3 _ 4 _ _ _ K3.out
    have b0 := cell_of_row W3 _ 0 _ _ _ K4.out
    have b1 := cell_of_row W3 _ 1 _ _ _ K4.out
    have b2 := cell_of_row W3 _ 2 _ _ _ K4.out
    have b3 := cell_of_row W3 _ 3 _ _ _ K4.out
    have b4 := cell_of_row W3 _ 4 _ _ _ K4.out
    simp only [List.getElem?_toArray, List.getElem?_cons_zero, List.getElem?_cons_succ] at a0 a1 a2 a3 a4 b0 b1 b2 b3 b4
    rw [hW3] at a0 a1 a2 a3 a4 b0 b1 b2 b3 b4
    have HW3 := Lib.hid hW3
    clear hW3 K2 L2 B2
    go_wp2_with (go_at_call 26; rw [← HW3.out]; refine (cE.out W3).mono ?_; rintro e w4 ⟨rfl, hb4⟩; refine Hid.out ?_)
    refine Lib.hid ?_
    have B4 := Lib.hid (B3.out.trans (hb4.mono B3.out.size))
    clear hb4 HW3 a0 a1 a2 a3 a4 b0 b1 b2 b3 b4
    go_wp2_with fail
    go_ret
    exact ⟨rfl, B4.out⟩
  · go_enter Tryd.func6, Tryd.ntmps6
    go_wp2_with fail
    go_ret
    exact ⟨rfl, Below.refl _ _⟩
end Go.Proofs.YtclcaflkopnbpaaDoor
