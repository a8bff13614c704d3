/- The exact laws of Begin, TakerOk and Offer: the program answers as its model. Condition: none. -/
import Derived.Test.YtdpjdjkfedcojaaSpecTk
import Derived.Test.YtdpjdjkfedcojaaImplTk
import Derived.Test.YtdpjdjkfedcojaaBaseA
namespace Go.Proofs.Ytdpjdjkfedcojaa
open Go.RowKit
set_option linter.unusedVariables false
set_option linter.unusedSimpArgs false

set_option maxRecDepth 100000 in
set_option maxHeartbeats 8000000 in
theorem law_beginX (a : Int) (w : World) : Calls Try.prog 5 #[.int .i64 a] w fun e w' => e = .returned (.bool true) ∧ Below w.heap.size w w' := by
  have k1 := fun w => spec_begin a w
  have k2 := fun w => impl_begin a w
  have k3 := fun w => eq_taker tkN w
  obtain ⟨⟨uo, un, uc, ub⟩, hu⟩ : ∃ u, u = tkN := ⟨_, rfl⟩
  rw [← hu] at k1 k2 k3
  clear hu
  unfold tkrV at *
  dsimp only at *
  have BB : Hid (Below w.heap.size w w) := Lib.hid (Below.refl _ _)
  go_enter Try.func5, Try.ntmps5
  have hc := k1 w
  go_wp2_with (go_at_call 22; refine hc.mono ?_; rintro e w1 ⟨rfl, hb⟩; refine Hid.out ?_)
  refine Lib.hid ?_
  replace BB := tbt BB hb
  clear hc hb 
  obtain ⟨X1, hX1⟩ : ∃ z, z = w1.alloc (.cells #[.int .i64 uo, .int .i64 un, .int .i64 uc, .string ub] 25) := ⟨_, rfl⟩
  have hb : Below w1.heap.size w1 X1 := by rw [hX1]; exact (Below.refl _ _).alloc (Nat.le_refl _) _
  replace BB := tbt BB hb
  have KG : Hid (X1.heap[w1.heap.size]? = some (.cells #[.int .i64 uo, .int .i64 un, .int .i64 uc, .string ub] 25 (0, 0))) := Lib.hid (by rw [hX1]; exact heap_new _ _)
  have LG : Hid (w1.heap.size < X1.heap.size) := Lib.hid (by rw [hX1]; simp)
  clear hb
  have hc := k2 X1
  rw [hX1] at hc 
  go_wp2_with (go_at_call 23; refine hc.mono ?_; rintro e w2 ⟨rfl, hb⟩; refine Hid.out ?_)
  refine Lib.hid ?_
  rw [← hX1] at hb 
  clear hX1
  replace KG := tkb hb LG KG
  replace LG := tlz LG hb.size
  replace BB := tbt BB hb
  clear hc hb 
  obtain ⟨X2, hX2⟩ : ∃ z, z = w2.alloc (.cells #[.int .i64 uo, .int .i64 un, .int .i64 uc, .string ub] 25) := ⟨_, rfl⟩
  have hb : Below w2.heap.size w2 X2 := by rw [hX2]; exact (Below.refl _ _).alloc (Nat.le_refl _) _
  replace KG := tkb hb LG KG
  replace LG := tlz LG hb.size
  replace BB := tbt BB hb
  have KH : Hid (X2.heap[w2.heap.size]? = some (.cells #[.int .i64 uo, .int .i64 un, .int .i64 uc, .string ub] 25 (0, 0))) := Lib.hid (by rw [hX2]; exact heap_new _ _)
  have LH : Hid (w2.heap.size < X2.heap.size) := Lib.hid (by rw [hX2]; simp)
  clear hb
  have hc := k3 X2
  have fG0 := tcr KG 0
  have fG1 := tcr KG 1
  have fG2 := tcr KG 2
  have fG3 := tcr KG 3
  have fH0 := tcr KH 0
  have fH1 := tcr KH 1
  have fH2 := tcr KH 2
  have fH3 := tcr KH 3
  rw [hX2] at hc fG0 fG1 fG2 fG3 fH0 fH1 fH2 fH3
  go_wp2_with (go_at_call 24; refine hc.mono ?_; rintro e w3 ⟨rfl, hb⟩; refine Hid.out ?_)
  refine Lib.hid ?_
  rw [← hX2] at hb 
  clear hX2
  replace KG := tkb hb LG KG
  replace LG := tlz LG hb.size
  replace KH := tkb hb LH KH
  replace LH := tlz LH hb.size
  replace BB := tbt BB hb
  clear hc hb fG0 fG1 fG2 fG3 fH0 fH1 fH2 fH3
  go_wp2_with fail
  go_ret
  exact ⟨rfl, BB.out⟩
set_option maxRecDepth 100000 in
set_option maxHeartbeats 8000000 in
theorem law_takerOkX (t : Tkr) (w : World) (hf : FitTkr t) : Calls Try.prog 6 #[tkrV t] w fun e w' => e = .returned (.bool true) ∧ Below w.heap.size w w' := by
  have c0 := fun w => sz_taker t w hf.2.2.2
  have c1 := fun w => to_taker t w
  have c2 := fun w => spec_takerOk t w hf
  have c3 := fun w => impl_takerOk t w hf
  obtain ⟨q, hq⟩ : ∃ q, q = tkrOk t := ⟨_, rfl⟩
  rw [← hq] at c2 c3
  have hqq : (q != q) = false := by simp
  clear hf hq
  obtain ⟨o, n, c, b⟩ := t
  unfold tkrV at *
  dsimp only at *
  have BB : Hid (Below w.heap.size w w) := Lib.hid (Below.refl _ _)
  obtain ⟨X0, hX0⟩ : ∃ z, z = w.alloc (.cells #[.int .i64 o, .int .i64 n, .int .i64 c, .string b] 44) := ⟨_, rfl⟩
  have hb : Below w.heap.size w X0 := by rw [hX0]; exact (Below.refl _ _).alloc (Nat.le_refl _) _
  replace BB := tbt BB hb
  have KT : Hid (X0.heap[w.heap.size]? = some (.cells #[.int .i64 o, .int .i64 n, .int .i64 c, .string b] 44 (0, 0))) := Lib.hid (by rw [hX0]; exact heap_new _ _)
  have LT : Hid (w.heap.size < X0.heap.size) := Lib.hid (by rw [hX0]; simp)
  clear hb
  go_enter Try.func6, Try.ntmps6
  have hc := c0 X0
  rw [hX0] at hc 
  go_wp2_with (go_at_call 25; refine hc.mono ?_; rintro e w1 ⟨r, rfl, hr, hb⟩; refine Hid.out ?_)
  refine Lib.hid ?_
  rw [← hX0] at hb 
  clear hX0
  replace KT := tkb hb LT KT
  replace LT := tlz LT hb.size
  replace BB := tbt BB hb
  clear hc hb 
  clear c0
  by_cases hneg : r < 0
  · clear hr
    go_wp2_with fail
    go_ret
    exact ⟨rfl, BB.out⟩
  have hc := c1 w1
  have fT0 := tcr KT 0
  have fT1 := tcr KT 1
  have fT2 := tcr KT 2
  have fT3 := tcr KT 3
  go_wp2_with (go_at_call 26; refine hc.mono ?_; rintro e w2 ⟨rfl, hb⟩; refine Hid.out ?_)
  refine Lib.hid ?_
  replace KT := tkb hb LT KT
  replace LT := tlz LT hb.size
  replace BB := tbt BB hb
  clear hc hb fT0 fT1 fT2 fT3
  have hc := c2 w2
  go_wp2_with (go_at_call 15; refine hc.mono ?_; rintro e w3 ⟨rfl, hb⟩; refine Hid.out ?_)
  refine Lib.hid ?_
  replace KT := tkb hb LT KT
  replace LT := tlz LT hb.size
  replace BB := tbt BB hb
  clear hc hb 
  have hc := c1 w3
  have fT0 := tcr KT 0
  have fT1 := tcr KT 1
  have fT2 := tcr KT 2
  have fT3 := tcr KT 3
  go_wp2_with (go_at_call 26; refine hc.mono ?_; rintro e w4 ⟨rfl, hb⟩; refine Hid.out ?_)
  refine Lib.hid ?_
  replace KT := tkb hb LT KT
  replace LT := tlz LT hb.size
  replace BB := tbt BB hb
  clear hc hb fT0 fT1 fT2 fT3
  have hc := c3 w4
  go_wp2_with (go_at_call 14; refine hc.mono ?_; rintro e w5 ⟨rfl, hb⟩; refine Hid.out ?_)
  refine Lib.hid ?_
  replace KT := tkb hb LT KT
  replace LT := tlz LT hb.size
  replace BB := tbt BB hb
  clear hc hb 
  go_wp2_with fail
  go_ret
  exact ⟨rfl, BB.out⟩
set_option maxRecDepth 100000 in
set_option maxHeartbeats 8000000 in
theorem law_offerX (t : Tkr) (s : ByteArray) (w : World) (hf : FitTkr t) (hs : s.size ≤ maxLen) : Calls Try.prog 7 #[tkrV t, .string s] w fun e w' => e = .returned (.bool true) ∧ Below w.heap.size w w' := by
  have c0 := fun w => sz_taker t w hf.2.2.2
  have c1 := fun w => to_taker t w
  have c2 := fun w h1 h2 => spec_offer t s w hf h1 h2
  have c3 := fun w h1 h2 => impl_offer t s w hf h1 h2
  obtain ⟨⟨uo, un, uc, ub⟩, hu⟩ : ∃ u, u = (offerS t s).1 := ⟨_, rfl⟩
  obtain ⟨q, hq⟩ : ∃ q, q = (offerS t s).2 := ⟨_, rfl⟩
  rw [← hu, ← hq] at c2 c3
  have k3 := fun w => eq_taker ⟨uo, un, uc, ub⟩ w
  have hqq : (q != q) = false := by simp
  clear hf hq hu
  unfold maxLen at hs
  obtain ⟨o, n, c, b⟩ := t
  unfold tkrV at *
  dsimp only at *
  have BB : Hid (Below w.heap.size w w) := Lib.hid (Below.refl _ _)
  by_cases hbig : 1048576 < s.size
  · have hd : decide (1048576 < s.size) = true := by simpa using hbig
    go_enter Try.func7, Try.ntmps7
    go_wp2_with fail
    go_ret
    exact ⟨rfl, (Below.refl _ _).alloc (Nat.le_refl _) _⟩
  have hd : decide (1048576 < s.size) = false := by simpa using hbig
  obtain ⟨X0, hX0⟩ : ∃ z, z = w.alloc (.cells #[.int .i64 o, .int .i64 n, .int .i64 c, .string b] 44) := ⟨_, rfl⟩
  have hb : Below w.heap.size w X0 := by rw [hX0]; exact (Below.refl _ _).alloc (Nat.le_refl _) _
  replace BB := tbt BB hb
  have KT : Hid (X0.heap[w.heap.size]? = some (.cells #[.int .i64 o, .int .i64 n, .int .i64 c, .string b] 44 (0, 0))) := Lib.hid (by rw [hX0]; exact heap_new _ _)
  have LT : Hid (w.heap.size < X0.heap.size) := Lib.hid (by rw [hX0]; simp)
  clear hb
  go_enter Try.func7, Try.ntmps7
  have hc := c0 X0
  rw [hX0] at hc 
  go_wp2_with (go_at_call 25; refine hc.mono ?_; rintro e w1 ⟨r, rfl, hr, hb⟩; refine Hid.out ?_)
  refine Lib.hid ?_
  rw [← hX0] at hb 
  clear hX0
  replace KT := tkb hb LT KT
  replace LT := tlz LT hb.size
  replace BB := tbt BB hb
  clear hc hb 
  clear c0
  by_cases hneg : r < 0
  · clear hr
    go_wp2_with fail
    go_ret
    exact ⟨rfl, BB.out⟩
  have hb2 := hr (by omega)
  clear hr
  replace c2 := fun w => c2 w (by omega) (by omega)
  replace c3 := fun w => c3 w (by omega) (by omega)
  have hc := c1 w1
  have fT0 := tcr KT 0
  have fT1 := tcr KT 1
  have fT2 := tcr KT 2
  have fT3 := tcr KT 3
  go_wp2_with (go_at_call 26; refine hc.mono ?_; rintro e w2 ⟨rfl, hb⟩; refine Hid.out ?_)
  refine Lib.hid ?_
  replace KT := tkb hb LT KT
  replace LT := tlz LT hb.size
  replace BB := tbt BB hb
  clear hc hb fT0 fT1 fT2 fT3
  have hc := c2 w2
  go_wp2_with (go_at_call 12; refine hc.mono ?_; rintro e w3 ⟨rfl, hb⟩; refine Hid.out ?_)
  refine Lib.hid ?_
  replace KT := tkb hb LT KT
  replace LT := tlz LT hb.size
  replace BB := tbt BB hb
  clear hc hb 
  obtain ⟨X1, hX1⟩ : ∃ z, z = w3.alloc (.cells #[.int .i64 uo, .int .i64 un, .int .i64 uc, .string ub] 25) := ⟨_, rfl⟩
  have hb : Below w3.heap.size w3 X1 := by rw [hX1]; exact (Below.refl _ _).alloc (Nat.le_refl _) _
  replace KT := tkb hb LT KT
  replace LT := tlz LT hb.size
  replace BB := tbt BB hb
  have KG : Hid (X1.heap[w3.heap.size]? = some (.cells #[.int .i64 uo, .int .i64 un, .int .i64 uc, .string ub] 25 (0, 0))) := Lib.hid (by rw [hX1]; exact heap_new _ _)
  have LG : Hid (w3.heap.size < X1.heap.size) := Lib.hid (by rw [hX1]; simp)
  clear hb
  have hc := c1 X1
  have fT0 := tcr KT 0
  have fT1 := tcr KT 1
  have fT2 := tcr KT 2
  have fT3 := tcr KT 3
  rw [hX1] at hc fT0 fT1 fT2 fT3
  go_wp2_with (go_at_call 26; refine hc.mono ?_; rintro e w4 ⟨rfl, hb⟩; refine Hid.out ?_)
  refine Lib.hid ?_
  rw [← hX1] at hb 
  clear hX1
  replace KT := tkb hb LT KT
  replace LT := tlz LT hb.size
  replace KG := tkb hb LG KG
  replace LG := tlz LG hb.size
  replace BB := tbt BB hb
  clear hc hb fT0 fT1 fT2 fT3
  have hc := c3 w4
  go_wp2_with (go_at_call 11; refine hc.mono ?_; rintro e w5 ⟨rfl, hb⟩; refine Hid.out ?_)
  refine Lib.hid ?_
  replace KT := tkb hb LT KT
  replace LT := tlz LT hb.size
  replace KG := tkb hb LG KG
  replace LG := tlz LG hb.size
  replace BB := tbt BB hb
  clear hc hb 
  obtain ⟨X2, hX2⟩ : ∃ z, z = w5.alloc (.cells #[.int .i64 uo, .int .i64 un, .int .i64 uc, .string ub] 25) := ⟨_, rfl⟩
  have hb : Below w5.heap.size w5 X2 := by rw [hX2]; exact (Below.refl _ _).alloc (Nat.le_refl _) _
  replace KT := tkb hb LT KT
  replace LT := tlz LT hb.size
  replace KG := tkb hb LG KG
  replace LG := tlz LG hb.size
  replace BB := tbt BB hb
  have KH : Hid (X2.heap[w5.heap.size]? = some (.cells #[.int .i64 uo, .int .i64 un, .int .i64 uc, .string ub] 25 (0, 0))) := Lib.hid (by rw [hX2]; exact heap_new _ _)
  have LH : Hid (w5.heap.size < X2.heap.size) := Lib.hid (by rw [hX2]; simp)
  clear hb
  have hc := k3 X2
  have fG0 := tcr KG 0
  have fG1 := tcr KG 1
  have fG2 := tcr KG 2
  have fG3 := tcr KG 3
  have fH0 := tcr KH 0
  have fH1 := tcr KH 1
  have fH2 := tcr KH 2
  have fH3 := tcr KH 3
  rw [hX2] at hc fG0 fG1 fG2 fG3 fH0 fH1 fH2 fH3
  go_wp2_with (go_at_call 24; refine hc.mono ?_; rintro e w6 ⟨rfl, hb⟩; refine Hid.out ?_)
  refine Lib.hid ?_
  rw [← hX2] at hb 
  clear hX2
  replace KT := tkb hb LT KT
  replace LT := tlz LT hb.size
  replace KG := tkb hb LG KG
  replace LG := tlz LG hb.size
  replace KH := tkb hb LH KH
  replace LH := tlz LH hb.size
  replace BB := tbt BB hb
  clear hc hb fG0 fG1 fG2 fG3 fH0 fH1 fH2 fH3
  go_wp2_with fail
  go_ret
  exact ⟨rfl, BB.out⟩
end Go.Proofs.Ytdpjdjkfedcojaa
