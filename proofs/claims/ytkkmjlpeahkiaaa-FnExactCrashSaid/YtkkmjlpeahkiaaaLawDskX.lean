/- The exact laws of DiskOk, Entry, Append, Install, Sync and Crash: the program answers as its model. Condition: none. -/
import Derived.Test.YtkkmjlpeahkiaaaSpecDsk
import Derived.Test.YtkkmjlpeahkiaaaImplDsk
import Derived.Test.YtkkmjlpeahkiaaaTk
namespace Go.Proofs.Ytkkmjlpeahkiaaa
open Go.RowKit
set_option linter.unusedVariables false
set_option linter.unusedSimpArgs false

set_option maxRecDepth 100000 in
set_option maxHeartbeats 8000000 in
theorem law_diskOkX (d : Dsk) (w : World) (hf : FitDsk d) : Calls Try.prog 3 #[dskV d] w fun e w' => e = .returned (.bool true) ∧ Below w.heap.size w w' := by
  have c0 := fun w => sz_disk d w hf
  have c1 := fun w => to_disk d w
  have c2 := fun w (hd : SmD d) => spec_diskOk d w hd
  have c3 := fun w (hd : SmD d) => impl_diskOk d w hd
  obtain ⟨q, hq⟩ : ∃ q, q = dskOk d := ⟨_, rfl⟩
  rw [← hq] at c2 c3
  clear hq
  have hqq : (q != q) = false := by simp
  have Hf := Lib.hid hf
  clear hf
  obtain ⟨o, s, t, u⟩ := d
  unfold dskV at *
  dsimp only at *
  have BB : Hid (Below w.heap.size w w) := Lib.hid (Below.refl _ _)
  obtain ⟨X0, hX0⟩ : ∃ z, z = w.alloc (.cells #[.int .i64 o, .string s, .string t, .string u] 23) := ⟨_, rfl⟩
  have hb : Below w.heap.size w X0 := by rw [hX0]; exact (Below.refl _ _).alloc (Nat.le_refl _) _
  replace BB := tbt BB hb
  have KT : Hid (X0.heap[w.heap.size]? = some (.cells #[.int .i64 o, .string s, .string t, .string u] 23 (0, 0))) := Lib.hid (by rw [hX0]; exact heap_new _ _)
  have LT : Hid (w.heap.size < X0.heap.size) := Lib.hid (by rw [hX0]; simp)
  clear hb
  go_enter Try.func3, Try.ntmps3
  have hc := c0 X0
  rw [hX0] at hc 
  go_wp2_with (go_at_call 19; refine hc.mono ?_; rintro e w1 ⟨r, rfl, hr, hb⟩; refine Hid.out ?_)
  refine Lib.hid ?_
  rw [← hX0] at hb 
  clear hX0
  replace KT := tkb hb LT KT
  replace LT := tlz LT hb.size
  replace BB := tbt BB hb
  clear hc hb 
  replace hr := Lib.hid hr
  clear c0
  by_cases hneg : r < 0
  · go_wp2_with fail
    go_ret
    exact ⟨rfl, BB.out⟩
  have hsm := hr.out (by omega)
  clear hr
  replace c2 := fun w => c2 w hsm
  replace c3 := fun w => c3 w hsm
  clear hsm
  have hc := c1 w1
  have fT0 := tcr KT 0
  have fT1 := tcr KT 1
  have fT2 := tcr KT 2
  have fT3 := tcr KT 3
  go_wp2_with (go_at_call 21; refine hc.mono ?_; rintro e w2 ⟨rfl, hb⟩; refine Hid.out ?_)
  refine Lib.hid ?_
  replace KT := tkb hb LT KT
  replace LT := tlz LT hb.size
  replace BB := tbt BB hb
  clear hc hb fT0 fT1 fT2 fT3
  have hc := c2 w2
  go_wp2_with (go_at_call 20; refine hc.mono ?_; rintro e w3 ⟨rfl, hb⟩; refine Hid.out ?_)
  refine Lib.hid ?_
  replace KT := tkb hb LT KT
  replace LT := tlz LT hb.size
  replace BB := tbt BB hb
  clear hc hb 
  have hc := c1 w3
  have fT0 := tcr KT 0
  have fT1 := tcr KT 1
  have fT2 := tcr KT 2
  have fT3 := tcr KT 3
  go_wp2_with (go_at_call 21; refine hc.mono ?_; rintro e w4 ⟨rfl, hb⟩; refine Hid.out ?_)
  refine Lib.hid ?_
  replace KT := tkb hb LT KT
  replace LT := tlz LT hb.size
  replace BB := tbt BB hb
  clear hc hb fT0 fT1 fT2 fT3
  have hc := c3 w4
  go_wp2_with (go_at_call 22; refine hc.mono ?_; rintro e w5 ⟨rfl, hb⟩; refine Hid.out ?_)
  refine Lib.hid ?_
  replace KT := tkb hb LT KT
  replace LT := tlz LT hb.size
  replace BB := tbt BB hb
  clear hc hb 
  go_wp2_with fail
  go_ret
  exact ⟨rfl, BB.out⟩
set_option maxRecDepth 100000 in
set_option maxHeartbeats 8000000 in
theorem law_appendX (d : Dsk) (x : ByteArray) (w : World) (hf : FitDsk d) (hs : x.size ≤ maxLen) : Calls Try.prog 5 #[dskV d, .string x] w fun e w' => e = .returned (.bool true) ∧ Below w.heap.size w w' := by
  have c0 := fun w => sz_disk d w hf
  have c1 := fun w => to_disk d w
  have c2 := fun w (hd : SmD d) => fun (h : x.size ≤ 549755813888) => spec_append d x w hd h
  have c3 := fun w (hd : SmD d) => fun (h : x.size ≤ 549755813888) => impl_append d x w hd h
  unfold maxLen at hs
  obtain ⟨⟨uo, us, ut, uu⟩, hu⟩ : ∃ u, u = (appS d x).1 := ⟨_, rfl⟩
  obtain ⟨q, hq⟩ : ∃ q, q = (appS d x).2 := ⟨_, rfl⟩
  rw [← hu, ← hq] at c2 c3
  clear hu hq
  have k3 := fun w => eq_disk ⟨uo, us, ut, uu⟩ w
  have hqq : (q != q) = false := by simp
  have Hf := Lib.hid hf
  clear hf
  obtain ⟨o, s, t, u⟩ := d
  unfold dskV at *
  dsimp only at *
  have BB : Hid (Below w.heap.size w w) := Lib.hid (Below.refl _ _)
  by_cases hbig : 1048576 < x.size
  · have hd : decide (1048576 < x.size) = true := by simpa using hbig
    go_enter Try.func5, Try.ntmps5
    go_wp2_with fail
    go_ret
    exact ⟨rfl, (Below.refl _ _).alloc (Nat.le_refl _) _⟩
  have hd : decide (1048576 < x.size) = false := by simpa using hbig
  obtain ⟨X0, hX0⟩ : ∃ z, z = w.alloc (.cells #[.int .i64 o, .string s, .string t, .string u] 23) := ⟨_, rfl⟩
  have hb : Below w.heap.size w X0 := by rw [hX0]; exact (Below.refl _ _).alloc (Nat.le_refl _) _
  replace BB := tbt BB hb
  have KT : Hid (X0.heap[w.heap.size]? = some (.cells #[.int .i64 o, .string s, .string t, .string u] 23 (0, 0))) := Lib.hid (by rw [hX0]; exact heap_new _ _)
  have LT : Hid (w.heap.size < X0.heap.size) := Lib.hid (by rw [hX0]; simp)
  clear hb
  go_enter Try.func5, Try.ntmps5
  have hc := c0 X0
  rw [hX0] at hc 
  go_wp2_with (go_at_call 19; refine hc.mono ?_; rintro e w1 ⟨r, rfl, hr, hb⟩; refine Hid.out ?_)
  refine Lib.hid ?_
  rw [← hX0] at hb 
  clear hX0
  replace KT := tkb hb LT KT
  replace LT := tlz LT hb.size
  replace BB := tbt BB hb
  clear hc hb 
  replace hr := Lib.hid hr
  clear c0
  by_cases hneg : r < 0
  · go_wp2_with fail
    go_ret
    exact ⟨rfl, BB.out⟩
  have hsm := hr.out (by omega)
  clear hr
  replace c2 := fun w => c2 w hsm (by omega)
  replace c3 := fun w => c3 w hsm (by omega)
  clear hsm
  have hc := c1 w1
  have fT0 := tcr KT 0
  have fT1 := tcr KT 1
  have fT2 := tcr KT 2
  have fT3 := tcr KT 3
  go_wp2_with (go_at_call 21; refine hc.mono ?_; rintro e w2 ⟨rfl, hb⟩; refine Hid.out ?_)
  refine Lib.hid ?_
  replace KT := tkb hb LT KT
  replace LT := tlz LT hb.size
  replace BB := tbt BB hb
  clear hc hb fT0 fT1 fT2 fT3
  have hc := c2 w2
  go_wp2_with (go_at_call 25; refine hc.mono ?_; rintro e w3 ⟨rfl, hb⟩; refine Hid.out ?_)
  refine Lib.hid ?_
  replace KT := tkb hb LT KT
  replace LT := tlz LT hb.size
  replace BB := tbt BB hb
  clear hc hb 
  obtain ⟨X1, hX1⟩ : ∃ z, z = w3.alloc (.cells #[.int .i64 uo, .string us, .string ut, .string uu] 26) := ⟨_, rfl⟩
  have hb : Below w3.heap.size w3 X1 := by rw [hX1]; exact (Below.refl _ _).alloc (Nat.le_refl _) _
  replace KT := tkb hb LT KT
  replace LT := tlz LT hb.size
  replace BB := tbt BB hb
  have KG : Hid (X1.heap[w3.heap.size]? = some (.cells #[.int .i64 uo, .string us, .string ut, .string uu] 26 (0, 0))) := Lib.hid (by rw [hX1]; exact heap_new _ _)
  have LG : Hid (w3.heap.size < X1.heap.size) := Lib.hid (by rw [hX1]; simp)
  clear hb
  have hc := c1 X1
  have fT0 := tcr KT 0
  have fT1 := tcr KT 1
  have fT2 := tcr KT 2
  have fT3 := tcr KT 3
  rw [hX1] at hc fT0 fT1 fT2 fT3
  go_wp2_with (go_at_call 21; refine hc.mono ?_; rintro e w4 ⟨rfl, hb⟩; refine Hid.out ?_)
  refine Lib.hid ?_
  rw [← hX1] at hb 
  clear hX1
  replace KT := tkb hb LT KT
  replace LT := tlz LT hb.size
  replace KG := tkb hb LG KG
  replace LG := tlz LG hb.size
  replace BB := tbt BB hb
  clear hc hb fT0 fT1 fT2 fT3
  have hc := c3 w4
  go_wp2_with (go_at_call 26; refine hc.mono ?_; rintro e w5 ⟨rfl, hb⟩; refine Hid.out ?_)
  refine Lib.hid ?_
  replace KT := tkb hb LT KT
  replace LT := tlz LT hb.size
  replace KG := tkb hb LG KG
  replace LG := tlz LG hb.size
  replace BB := tbt BB hb
  clear hc hb 
  obtain ⟨X2, hX2⟩ : ∃ z, z = w5.alloc (.cells #[.int .i64 uo, .string us, .string ut, .string uu] 26) := ⟨_, rfl⟩
  have hb : Below w5.heap.size w5 X2 := by rw [hX2]; exact (Below.refl _ _).alloc (Nat.le_refl _) _
  replace KT := tkb hb LT KT
  replace LT := tlz LT hb.size
  replace KG := tkb hb LG KG
  replace LG := tlz LG hb.size
  replace BB := tbt BB hb
  have KH : Hid (X2.heap[w5.heap.size]? = some (.cells #[.int .i64 uo, .string us, .string ut, .string uu] 26 (0, 0))) := Lib.hid (by rw [hX2]; exact heap_new _ _)
  have LH : Hid (w5.heap.size < X2.heap.size) := Lib.hid (by rw [hX2]; simp)
  clear hb
  have hc := k3 X2
  have fG0 := tcr KG 0
  have fG1 := tcr KG 1
  have fG2 := tcr KG 2
  have fG3 := tcr KG 3
  have fH0 := tcr KH 0
  have fH1 := tcr KH 1
  have fH2 := tcr KH 2
  have fH3 := tcr KH 3
  rw [hX2] at hc fG0 fG1 fG2 fG3 fH0 fH1 fH2 fH3
  go_wp2_with (go_at_call 27; refine hc.mono ?_; rintro e w6 ⟨rfl, hb⟩; refine Hid.out ?_)
  refine Lib.hid ?_
  rw [← hX2] at hb 
  clear hX2
  replace KT := tkb hb LT KT
  replace LT := tlz LT hb.size
  replace KG := tkb hb LG KG
  replace LG := tlz LG hb.size
  replace KH := tkb hb LH KH
  replace LH := tlz LH hb.size
  replace BB := tbt BB hb
  clear hc hb fG0 fG1 fG2 fG3 fH0 fH1 fH2 fH3
  go_wp2_with fail
  go_ret
  exact ⟨rfl, BB.out⟩
set_option maxRecDepth 100000 in
set_option maxHeartbeats 8000000 in
theorem law_installX (d : Dsk) (x : ByteArray) (w : World) (hf : FitDsk d) (hs : x.size ≤ maxLen) : Calls Try.prog 10 #[dskV d, .string x] w fun e w' => e = .returned (.bool true) ∧ Below w.heap.size w w' := by
  have c0 := fun w => sz_disk d w hf
  have c1 := fun w => to_disk d w
  have c2 := fun w (hd : SmD d) => fun (h : x.size ≤ 549755813888) => spec_install d x w hd h
  have c3 := fun w (hd : SmD d) => fun (h : x.size ≤ 549755813888) => impl_install d x w hd h
  unfold maxLen at hs
  obtain ⟨⟨uo, us, ut, uu⟩, hu⟩ : ∃ u, u = (insS d x).1 := ⟨_, rfl⟩
  obtain ⟨q, hq⟩ : ∃ q, q = (insS d x).2 := ⟨_, rfl⟩
  rw [← hu, ← hq] at c2 c3
  clear hu hq
  have k3 := fun w => eq_disk ⟨uo, us, ut, uu⟩ w
  have hqq : (q != q) = false := by simp
  have Hf := Lib.hid hf
  clear hf
  obtain ⟨o, s, t, u⟩ := d
  unfold dskV at *
  dsimp only at *
  have BB : Hid (Below w.heap.size w w) := Lib.hid (Below.refl _ _)
  by_cases hbig : 1048576 < x.size
  · have hd : decide (1048576 < x.size) = true := by simpa using hbig
    go_enter Try.func10, Try.ntmps10
    go_wp2_with fail
    go_ret
    exact ⟨rfl, (Below.refl _ _).alloc (Nat.le_refl _) _⟩
  have hd : decide (1048576 < x.size) = false := by simpa using hbig
  obtain ⟨X0, hX0⟩ : ∃ z, z = w.alloc (.cells #[.int .i64 o, .string s, .string t, .string u] 23) := ⟨_, rfl⟩
  have hb : Below w.heap.size w X0 := by rw [hX0]; exact (Below.refl _ _).alloc (Nat.le_refl _) _
  replace BB := tbt BB hb
  have KT : Hid (X0.heap[w.heap.size]? = some (.cells #[.int .i64 o, .string s, .string t, .string u] 23 (0, 0))) := Lib.hid (by rw [hX0]; exact heap_new _ _)
  have LT : Hid (w.heap.size < X0.heap.size) := Lib.hid (by rw [hX0]; simp)
  clear hb
  go_enter Try.func10, Try.ntmps10
  have hc := c0 X0
  rw [hX0] at hc 
  go_wp2_with (go_at_call 19; refine hc.mono ?_; rintro e w1 ⟨r, rfl, hr, hb⟩; refine Hid.out ?_)
  refine Lib.hid ?_
  rw [← hX0] at hb 
  clear hX0
  replace KT := tkb hb LT KT
  replace LT := tlz LT hb.size
  replace BB := tbt BB hb
  clear hc hb 
  replace hr := Lib.hid hr
  clear c0
  by_cases hneg : r < 0
  · go_wp2_with fail
    go_ret
    exact ⟨rfl, BB.out⟩
  have hsm := hr.out (by omega)
  clear hr
  replace c2 := fun w => c2 w hsm (by omega)
  replace c3 := fun w => c3 w hsm (by omega)
  clear hsm
  have hc := c1 w1
  have fT0 := tcr KT 0
  have fT1 := tcr KT 1
  have fT2 := tcr KT 2
  have fT3 := tcr KT 3
  go_wp2_with (go_at_call 21; refine hc.mono ?_; rintro e w2 ⟨rfl, hb⟩; refine Hid.out ?_)
  refine Lib.hid ?_
  replace KT := tkb hb LT KT
  replace LT := tlz LT hb.size
  replace BB := tbt BB hb
  clear hc hb fT0 fT1 fT2 fT3
  have hc := c2 w2
  go_wp2_with (go_at_call 39; refine hc.mono ?_; rintro e w3 ⟨rfl, hb⟩; refine Hid.out ?_)
  refine Lib.hid ?_
  replace KT := tkb hb LT KT
  replace LT := tlz LT hb.size
  replace BB := tbt BB hb
  clear hc hb 
  obtain ⟨X1, hX1⟩ : ∃ z, z = w3.alloc (.cells #[.int .i64 uo, .string us, .string ut, .string uu] 26) := ⟨_, rfl⟩
  have hb : Below w3.heap.size w3 X1 := by rw [hX1]; exact (Below.refl _ _).alloc (Nat.le_refl _) _
  replace KT := tkb hb LT KT
  replace LT := tlz LT hb.size
  replace BB := tbt BB hb
  have KG : Hid (X1.heap[w3.heap.size]? = some (.cells #[.int .i64 uo, .string us, .string ut, .string uu] 26 (0, 0))) := Lib.hid (by rw [hX1]; exact heap_new _ _)
  have LG : Hid (w3.heap.size < X1.heap.size) := Lib.hid (by rw [hX1]; simp)
  clear hb
  have hc := c1 X1
  have fT0 := tcr KT 0
  have fT1 := tcr KT 1
  have fT2 := tcr KT 2
  have fT3 := tcr KT 3
  rw [hX1] at hc fT0 fT1 fT2 fT3
  go_wp2_with (go_at_call 21; refine hc.mono ?_; rintro e w4 ⟨rfl, hb⟩; refine Hid.out ?_)
  refine Lib.hid ?_
  rw [← hX1] at hb 
  clear hX1
  replace KT := tkb hb LT KT
  replace LT := tlz LT hb.size
  replace KG := tkb hb LG KG
  replace LG := tlz LG hb.size
  replace BB := tbt BB hb
  clear hc hb fT0 fT1 fT2 fT3
  have hc := c3 w4
  go_wp2_with (go_at_call 40; refine hc.mono ?_; rintro e w5 ⟨rfl, hb⟩; refine Hid.out ?_)
  refine Lib.hid ?_
  replace KT := tkb hb LT KT
  replace LT := tlz LT hb.size
  replace KG := tkb hb LG KG
  replace LG := tlz LG hb.size
  replace BB := tbt BB hb
  clear hc hb 
  obtain ⟨X2, hX2⟩ : ∃ z, z = w5.alloc (.cells #[.int .i64 uo, .string us, .string ut, .string uu] 26) := ⟨_, rfl⟩
  have hb : Below w5.heap.size w5 X2 := by rw [hX2]; exact (Below.refl _ _).alloc (Nat.le_refl _) _
  replace KT := tkb hb LT KT
  replace LT := tlz LT hb.size
  replace KG := tkb hb LG KG
  replace LG := tlz LG hb.size
  replace BB := tbt BB hb
  have KH : Hid (X2.heap[w5.heap.size]? = some (.cells #[.int .i64 uo, .string us, .string ut, .string uu] 26 (0, 0))) := Lib.hid (by rw [hX2]; exact heap_new _ _)
  have LH : Hid (w5.heap.size < X2.heap.size) := Lib.hid (by rw [hX2]; simp)
  clear hb
  have hc := k3 X2
  have fG0 := tcr KG 0
  have fG1 := tcr KG 1
  have fG2 := tcr KG 2
  have fG3 := tcr KG 3
  have fH0 := tcr KH 0
  have fH1 := tcr KH 1
  have fH2 := tcr KH 2
  have fH3 := tcr KH 3
  rw [hX2] at hc fG0 fG1 fG2 fG3 fH0 fH1 fH2 fH3
  go_wp2_with (go_at_call 27; refine hc.mono ?_; rintro e w6 ⟨rfl, hb⟩; refine Hid.out ?_)
  refine Lib.hid ?_
  rw [← hX2] at hb 
  clear hX2
  replace KT := tkb hb LT KT
  replace LT := tlz LT hb.size
  replace KG := tkb hb LG KG
  replace LG := tlz LG hb.size
  replace KH := tkb hb LH KH
  replace LH := tlz LH hb.size
  replace BB := tbt BB hb
  clear hc hb fG0 fG1 fG2 fG3 fH0 fH1 fH2 fH3
  go_wp2_with fail
  go_ret
  exact ⟨rfl, BB.out⟩
set_option maxRecDepth 100000 in
set_option maxHeartbeats 8000000 in
theorem law_syncX (d : Dsk) (w : World) (hf : FitDsk d) : Calls Try.prog 6 #[dskV d] w fun e w' => e = .returned (.bool true) ∧ Below w.heap.size w w' := by
  have c0 := fun w => sz_disk d w hf
  have c1 := fun w => to_disk d w
  have c2 := fun w (hd : SmD d) => spec_sync d w hd
  have c3 := fun w (hd : SmD d) => impl_sync d w hd
  obtain ⟨⟨uo, us, ut, uu⟩, hu⟩ : ∃ u, u = syncS d := ⟨_, rfl⟩
  rw [← hu] at c2 c3
  clear hu
  have k3 := fun w => eq_disk ⟨uo, us, ut, uu⟩ w
  have Hf := Lib.hid hf
  clear hf
  obtain ⟨o, s, t, u⟩ := d
  unfold dskV at *
  dsimp only at *
  have BB : Hid (Below w.heap.size w w) := Lib.hid (Below.refl _ _)
  obtain ⟨X0, hX0⟩ : ∃ z, z = w.alloc (.cells #[.int .i64 o, .string s, .string t, .string u] 23) := ⟨_, rfl⟩
  have hb : Below w.heap.size w X0 := by rw [hX0]; exact (Below.refl _ _).alloc (Nat.le_refl _) _
  replace BB := tbt BB hb
  have KT : Hid (X0.heap[w.heap.size]? = some (.cells #[.int .i64 o, .string s, .string t, .string u] 23 (0, 0))) := Lib.hid (by rw [hX0]; exact heap_new _ _)
  have LT : Hid (w.heap.size < X0.heap.size) := Lib.hid (by rw [hX0]; simp)
  clear hb
  go_enter Try.func6, Try.ntmps6
  have hc := c0 X0
  rw [hX0] at hc 
  go_wp2_with (go_at_call 19; refine hc.mono ?_; rintro e w1 ⟨r, rfl, hr, hb⟩; refine Hid.out ?_)
  refine Lib.hid ?_
  rw [← hX0] at hb 
  clear hX0
  replace KT := tkb hb LT KT
  replace LT := tlz LT hb.size
  replace BB := tbt BB hb
  clear hc hb 
  replace hr := Lib.hid hr
  clear c0
  by_cases hneg : r < 0
  · go_wp2_with fail
    go_ret
    exact ⟨rfl, BB.out⟩
  have hsm := hr.out (by omega)
  clear hr
  replace c2 := fun w => c2 w hsm
  replace c3 := fun w => c3 w hsm
  clear hsm
  have hc := c1 w1
  have fT0 := tcr KT 0
  have fT1 := tcr KT 1
  have fT2 := tcr KT 2
  have fT3 := tcr KT 3
  go_wp2_with (go_at_call 21; refine hc.mono ?_; rintro e w2 ⟨rfl, hb⟩; refine Hid.out ?_)
  refine Lib.hid ?_
  replace KT := tkb hb LT KT
  replace LT := tlz LT hb.size
  replace BB := tbt BB hb
  clear hc hb fT0 fT1 fT2 fT3
  have hc := c2 w2
  go_wp2_with (go_at_call 28; refine hc.mono ?_; rintro e w3 ⟨rfl, hb⟩; refine Hid.out ?_)
  refine Lib.hid ?_
  replace KT := tkb hb LT KT
  replace LT := tlz LT hb.size
  replace BB := tbt BB hb
  clear hc hb 
  obtain ⟨X1, hX1⟩ : ∃ z, z = w3.alloc (.cells #[.int .i64 uo, .string us, .string ut, .string uu] 26) := ⟨_, rfl⟩
  have hb : Below w3.heap.size w3 X1 := by rw [hX1]; exact (Below.refl _ _).alloc (Nat.le_refl _) _
  replace KT := tkb hb LT KT
  replace LT := tlz LT hb.size
  replace BB := tbt BB hb
  have KG : Hid (X1.heap[w3.heap.size]? = some (.cells #[.int .i64 uo, .string us, .string ut, .string uu] 26 (0, 0))) := Lib.hid (by rw [hX1]; exact heap_new _ _)
  have LG : Hid (w3.heap.size < X1.heap.size) := Lib.hid (by rw [hX1]; simp)
  clear hb
  have hc := c1 X1
  have fT0 := tcr KT 0
  have fT1 := tcr KT 1
  have fT2 := tcr KT 2
  have fT3 := tcr KT 3
  rw [hX1] at hc fT0 fT1 fT2 fT3
  go_wp2_with (go_at_call 21; refine hc.mono ?_; rintro e w4 ⟨rfl, hb⟩; refine Hid.out ?_)
  refine Lib.hid ?_
  rw [← hX1] at hb 
  clear hX1
  replace KT := tkb hb LT KT
  replace LT := tlz LT hb.size
  replace KG := tkb hb LG KG
  replace LG := tlz LG hb.size
  replace BB := tbt BB hb
  clear hc hb fT0 fT1 fT2 fT3
  have hc := c3 w4
  go_wp2_with (go_at_call 29; refine hc.mono ?_; rintro e w5 ⟨rfl, hb⟩; refine Hid.out ?_)
  refine Lib.hid ?_
  replace KT := tkb hb LT KT
  replace LT := tlz LT hb.size
  replace KG := tkb hb LG KG
  replace LG := tlz LG hb.size
  replace BB := tbt BB hb
  clear hc hb 
  obtain ⟨X2, hX2⟩ : ∃ z, z = w5.alloc (.cells #[.int .i64 uo, .string us, .string ut, .string uu] 26) := ⟨_, rfl⟩
  have hb : Below w5.heap.size w5 X2 := by rw [hX2]; exact (Below.refl _ _).alloc (Nat.le_refl _) _
  replace KT := tkb hb LT KT
  replace LT := tlz LT hb.size
  replace KG := tkb hb LG KG
  replace LG := tlz LG hb.size
  replace BB := tbt BB hb
  have KH : Hid (X2.heap[w5.heap.size]? = some (.cells #[.int .i64 uo, .string us, .string ut, .string uu] 26 (0, 0))) := Lib.hid (by rw [hX2]; exact heap_new _ _)
  have LH : Hid (w5.heap.size < X2.heap.size) := Lib.hid (by rw [hX2]; simp)
  clear hb
  have hc := k3 X2
  have fG0 := tcr KG 0
  have fG1 := tcr KG 1
  have fG2 := tcr KG 2
  have fG3 := tcr KG 3
  have fH0 := tcr KH 0
  have fH1 := tcr KH 1
  have fH2 := tcr KH 2
  have fH3 := tcr KH 3
  rw [hX2] at hc fG0 fG1 fG2 fG3 fH0 fH1 fH2 fH3
  go_wp2_with (go_at_call 27; refine hc.mono ?_; rintro e w6 ⟨rfl, hb⟩; refine Hid.out ?_)
  refine Lib.hid ?_
  rw [← hX2] at hb 
  clear hX2
  replace KT := tkb hb LT KT
  replace LT := tlz LT hb.size
  replace KG := tkb hb LG KG
  replace LG := tlz LG hb.size
  replace KH := tkb hb LH KH
  replace LH := tlz LH hb.size
  replace BB := tbt BB hb
  clear hc hb fG0 fG1 fG2 fG3 fH0 fH1 fH2 fH3
  go_wp2_with fail
  go_ret
  exact ⟨rfl, BB.out⟩
set_option maxRecDepth 100000 in
set_option maxHeartbeats 8000000 in
theorem law_crashX (d : Dsk) (k : Int) (w : World) (hf : FitDsk d) (hk : -9223372036854775808 ≤ k ∧ k ≤ 9223372036854775807) : Calls Try.prog 7 #[dskV d, .int .i64 k] w fun e w' => e = .returned (.bool true) ∧ Below w.heap.size w w' := by
  have c0 := fun w => sz_disk d w hf
  have c1 := fun w => to_disk d w
  have c2 := fun w (hd : SmD d) => spec_crash d k w hd hk
  have c3 := fun w (hd : SmD d) => impl_crash d k w hd hk
  obtain ⟨⟨uo, us, ut, uu⟩, hu⟩ : ∃ u, u = crashS d k := ⟨_, rfl⟩
  rw [← hu] at c2 c3
  clear hu
  have k3 := fun w => eq_disk ⟨uo, us, ut, uu⟩ w
  have Hf := Lib.hid hf
  clear hf
  obtain ⟨o, s, t, u⟩ := d
  unfold dskV at *
  dsimp only at *
  have BB : Hid (Below w.heap.size w w) := Lib.hid (Below.refl _ _)
  obtain ⟨X0, hX0⟩ : ∃ z, z = w.alloc (.cells #[.int .i64 o, .string s, .string t, .string u] 23) := ⟨_, rfl⟩
  have hb : Below w.heap.size w X0 := by rw [hX0]; exact (Below.refl _ _).alloc (Nat.le_refl _) _
  replace BB := tbt BB hb
  have KT : Hid (X0.heap[w.heap.size]? = some (.cells #[.int .i64 o, .string s, .string t, .string u] 23 (0, 0))) := Lib.hid (by rw [hX0]; exact heap_new _ _)
  have LT : Hid (w.heap.size < X0.heap.size) := Lib.hid (by rw [hX0]; simp)
  clear hb
  go_enter Try.func7, Try.ntmps7
  have hc := c0 X0
  rw [hX0] at hc 
  go_wp2_with (go_at_call 19; refine hc.mono ?_; rintro e w1 ⟨r, rfl, hr, hb⟩; refine Hid.out ?_)
  refine Lib.hid ?_
  rw [← hX0] at hb 
  clear hX0
  replace KT := tkb hb LT KT
  replace LT := tlz LT hb.size
  replace BB := tbt BB hb
  clear hc hb 
  replace hr := Lib.hid hr
  clear c0
  by_cases hneg : r < 0
  · go_wp2_with fail
    go_ret
    exact ⟨rfl, BB.out⟩
  have hsm := hr.out (by omega)
  clear hr
  replace c2 := fun w => c2 w hsm
  replace c3 := fun w => c3 w hsm
  clear hsm
  have hc := c1 w1
  have fT0 := tcr KT 0
  have fT1 := tcr KT 1
  have fT2 := tcr KT 2
  have fT3 := tcr KT 3
  go_wp2_with (go_at_call 21; refine hc.mono ?_; rintro e w2 ⟨rfl, hb⟩; refine Hid.out ?_)
  refine Lib.hid ?_
  replace KT := tkb hb LT KT
  replace LT := tlz LT hb.size
  replace BB := tbt BB hb
  clear hc hb fT0 fT1 fT2 fT3
  have hc := c2 w2
  go_wp2_with (go_at_call 30; refine hc.mono ?_; rintro e w3 ⟨rfl, hb⟩; refine Hid.out ?_)
  refine Lib.hid ?_
  replace KT := tkb hb LT KT
  replace LT := tlz LT hb.size
  replace BB := tbt BB hb
  clear hc hb 
  obtain ⟨X1, hX1⟩ : ∃ z, z = w3.alloc (.cells #[.int .i64 uo, .string us, .string ut, .string uu] 26) := ⟨_, rfl⟩
  have hb : Below w3.heap.size w3 X1 := by rw [hX1]; exact (Below.refl _ _).alloc (Nat.le_refl _) _
  replace KT := tkb hb LT KT
  replace LT := tlz LT hb.size
  replace BB := tbt BB hb
  have KG : Hid (X1.heap[w3.heap.size]? = some (.cells #[.int .i64 uo, .string us, .string ut, .string uu] 26 (0, 0))) := Lib.hid (by rw [hX1]; exact heap_new _ _)
  have LG : Hid (w3.heap.size < X1.heap.size) := Lib.hid (by rw [hX1]; simp)
  clear hb
  have hc := c1 X1
  have fT0 := tcr KT 0
  have fT1 := tcr KT 1
  have fT2 := tcr KT 2
  have fT3 := tcr KT 3
  rw [hX1] at hc fT0 fT1 fT2 fT3
  go_wp2_with (go_at_call 21; refine hc.mono ?_; rintro e w4 ⟨rfl, hb⟩; refine Hid.out ?_)
  refine Lib.hid ?_
  rw [← hX1] at hb 
  clear hX1
  replace KT := tkb hb LT KT
  replace LT := tlz LT hb.size
  replace KG := tkb hb LG KG
  replace LG := tlz LG hb.size
  replace BB := tbt BB hb
  clear hc hb fT0 fT1 fT2 fT3
  have hc := c3 w4
  go_wp2_with (go_at_call 31; refine hc.mono ?_; rintro e w5 ⟨rfl, hb⟩; refine Hid.out ?_)
  refine Lib.hid ?_
  replace KT := tkb hb LT KT
  replace LT := tlz LT hb.size
  replace KG := tkb hb LG KG
  replace LG := tlz LG hb.size
  replace BB := tbt BB hb
  clear hc hb 
  obtain ⟨X2, hX2⟩ : ∃ z, z = w5.alloc (.cells #[.int .i64 uo, .string us, .string ut, .string uu] 26) := ⟨_, rfl⟩
  have hb : Below w5.heap.size w5 X2 := by rw [hX2]; exact (Below.refl _ _).alloc (Nat.le_refl _) _
  replace KT := tkb hb LT KT
  replace LT := tlz LT hb.size
  replace KG := tkb hb LG KG
  replace LG := tlz LG hb.size
  replace BB := tbt BB hb
  have KH : Hid (X2.heap[w5.heap.size]? = some (.cells #[.int .i64 uo, .string us, .string ut, .string uu] 26 (0, 0))) := Lib.hid (by rw [hX2]; exact heap_new _ _)
  have LH : Hid (w5.heap.size < X2.heap.size) := Lib.hid (by rw [hX2]; simp)
  clear hb
  have hc := k3 X2
  have fG0 := tcr KG 0
  have fG1 := tcr KG 1
  have fG2 := tcr KG 2
  have fG3 := tcr KG 3
  have fH0 := tcr KH 0
  have fH1 := tcr KH 1
  have fH2 := tcr KH 2
  have fH3 := tcr KH 3
  rw [hX2] at hc fG0 fG1 fG2 fG3 fH0 fH1 fH2 fH3
  go_wp2_with (go_at_call 27; refine hc.mono ?_; rintro e w6 ⟨rfl, hb⟩; refine Hid.out ?_)
  refine Lib.hid ?_
  rw [← hX2] at hb 
  clear hX2
  replace KT := tkb hb LT KT
  replace LT := tlz LT hb.size
  replace KG := tkb hb LG KG
  replace LG := tlz LG hb.size
  replace KH := tkb hb LH KH
  replace LH := tlz LH hb.size
  replace BB := tbt BB hb
  clear hc hb fG0 fG1 fG2 fG3 fH0 fH1 fH2 fH3
  go_wp2_with fail
  go_ret
  exact ⟨rfl, BB.out⟩
set_option maxHeartbeats 1000000 in
theorem law_entryX (x : ByteArray) (w : World) (hs : x.size ≤ maxLen) : Calls Try.prog 4 #[.string x] w fun e w' => e = .returned (.bool true) ∧ Below w.heap.size w w' := by
  unfold maxLen at hs
  by_cases hbig : 1048576 < x.size
  · have hd : decide (1048576 < x.size) = true := by simpa using hbig
    go_enter Try.func4, Try.ntmps4
    go_wp2_with fail
    go_ret
    exact ⟨rfl, Below.refl _ _⟩
  have hd : decide (1048576 < x.size) = false := by simpa using hbig
  have k1 := fun w => spec_entry x w (by omega)
  have k2 := fun w => impl_entry x w (by omega)
  obtain ⟨E, hE⟩ : ∃ z, z = entB x := ⟨_, rfl⟩
  rw [← hE] at k1 k2
  clear hE
  go_enter Try.func4, Try.ntmps4
  go_wp2_with (first | (go_at_call 23; refine (k1 _).mono ?_; rintro e w1 ⟨rfl, hb1⟩; replace hb1 := Lib.hid hb1) | (go_at_call 24; refine (k2 _).mono ?_; rintro e w2 ⟨rfl, hb2⟩; replace hb2 := Lib.hid hb2))
  go_ret
  exact ⟨rfl, hb1.out.trans (hb2.out.mono hb1.out.size)⟩
end Go.Proofs.Ytkkmjlpeahkiaaa
