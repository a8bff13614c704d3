/- The law FnInstall: a snapshot is there whole, or nothing changes. Condition: none. -/
import Derived.Test.YtkkmjlpeahkiaaaDrawD9
import Derived.Test.YtkkmjlpeahkiaaaImplDsk
import Derived.Test.YtkkmjlpeahkiaaaDskKeep
import Derived.Test.YtkkmjlpeahkiaaaBig
import Derived.Test.YtkkmjlpeahkiaaaTk
namespace Go.Proofs.Ytkkmjlpeahkiaaa
open Go.RowKit
set_option linter.unusedVariables false
set_option linter.unusedSimpArgs false

set_option maxRecDepth 100000 in
set_option maxHeartbeats 8000000 in
theorem law_install (a : Option Addr) (len cap : Nat) (zs : List Int) (w : World) (hr : IsRow .u8 w a len cap zs) :
    Calls Try.prog 17 #[.slice a len cap] w fun e w' => e = .returned (.bool true) ∧ Below w.heap.size w w' := by
  have hr := row8_of hr
  by_cases hbig : 1048576 < len
  · have hd : decide (1048576 < len) = true := by simpa using hbig
    go_enter Try.func17, Try.ntmps17
    go_wp2_with (go_at_call 41; refine (big_any _ _ _ _).mono ?_; rintro e w' ⟨rfl, rfl⟩)
    go_ret
    exact ⟨rfl, Below.refl _ _⟩
  have hd : decide (1048576 < len) = false := by simpa using hbig
  have hlen : len ≤ 1048576 := by omega
  have Hr8 := Lib.hid hr
  have BB : Hid (Below w.heap.size w w) := Lib.hid (Below.refl _ _)
  go_enter Try.func17, Try.ntmps17
  go_wp2_with (go_at_call 41; refine (big_any _ _ _ _).mono ?_; rintro e w' ⟨rfl, rfl⟩; refine Hid.out ?_)
  refine Lib.hid ?_
  clear hd hbig hr
  have hc := d9DrawInstall a len cap zs w Hr8.out hlen
  go_wp2_with (go_at_call 52; refine hc.mono ?_; rintro e w1 ⟨d, y, rfl, hodd, hy, hb⟩; refine Hid.out ?_)
  refine Lib.hid ?_
  replace BB := tbt BB hb
  clear hc hb 
  have hsm := odd_sm hodd
  have k1 := fun w => impl_install d y w hsm (by omega)
  have k2 := fun w => spec_install d y w hsm (by omega)
  by_cases hin : dskOk d = true ∧ (usedD d : Int) + (y.size : Int) ≤ d.rm
  · have hres : insS d y = (⟨d.rm, y, ⟨#[]⟩, ⟨#[]⟩⟩, true) := by unfold insS; rw [if_pos ⟨hin.1, by omega⟩]
    have hok : dskOk ⟨d.rm, y, ⟨#[]⟩, ⟨#[]⟩⟩ = true := by have h := ins_ok y hin.1; rw [hres] at h; exact h
    have k3 := fun w => impl_diskOk ⟨d.rm, y, ⟨#[]⟩, ⟨#[]⟩⟩ w (dsk_sm hok)
    rw [hres] at k1 k2
    rw [hok] at k3
    clear hres hok hin hsm hodd
    have hne := fun w => neq_dsk ⟨d.rm, y, ⟨#[]⟩, ⟨#[]⟩⟩ ⟨d.rm, y, ⟨#[]⟩, ⟨#[]⟩⟩ w
    rw [dskEq_refl] at hne
    unfold dskV at hne
    try dsimp only at hne
    obtain ⟨o, s, t, u⟩ := d
    unfold dskV at *
    try dsimp only at *
    obtain ⟨X0, hX0⟩ : ∃ z, z = w1.alloc (.cells #[.int .i64 o, .string s, .string t, .string u] 26) := ⟨_, rfl⟩
    have hb : Below w1.heap.size w1 X0 := by rw [hX0]; exact (Below.refl _ _).alloc (Nat.le_refl _) _
    replace BB := tbt BB hb
    have KD : Hid (X0.heap[w1.heap.size]? = some (.cells #[.int .i64 o, .string s, .string t, .string u] 26 (0, 0))) := Lib.hid (by rw [hX0]; exact heap_new _ _)
    have LD : Hid (w1.heap.size < X0.heap.size) := Lib.hid (by rw [hX0]; simp)
    clear hb
    have hc := k1 X0
    have fD0 := tcr KD 0
    have fD1 := tcr KD 1
    have fD2 := tcr KD 2
    have fD3 := tcr KD 3
    rw [hX0] at hc fD0 fD1 fD2 fD3
    go_wp2_with (go_at_call 40; refine hc.mono ?_; rintro e w2 ⟨rfl, hb⟩; refine Hid.out ?_)
    refine Lib.hid ?_
    rw [← hX0] at hb 
    clear hX0
    replace KD := tkb hb LD KD
    replace LD := tlz LD hb.size
    replace BB := tbt BB hb
    clear hc hb fD0 fD1 fD2 fD3
    obtain ⟨X1, hX1⟩ : ∃ z, z = w2.alloc (.cells #[.int .i64 o, .string y, .string ⟨#[]⟩, .string ⟨#[]⟩] 26) := ⟨_, rfl⟩
    have hb : Below w2.heap.size w2 X1 := by rw [hX1]; exact (Below.refl _ _).alloc (Nat.le_refl _) _
    replace KD := tkb hb LD KD
    replace LD := tlz LD hb.size
    replace BB := tbt BB hb
    have KG : Hid (X1.heap[w2.heap.size]? = some (.cells #[.int .i64 o, .string y, .string ⟨#[]⟩, .string ⟨#[]⟩] 26 (0, 0))) := Lib.hid (by rw [hX1]; exact heap_new _ _)
    have LG : Hid (w2.heap.size < X1.heap.size) := Lib.hid (by rw [hX1]; simp)
    clear hb
    have hc := k2 X1
    have fD0 := tcr KD 0
    have fD1 := tcr KD 1
    have fD2 := tcr KD 2
    have fD3 := tcr KD 3
    rw [hX1] at hc fD0 fD1 fD2 fD3
    go_wp2_with (go_at_call 39; refine hc.mono ?_; rintro e w3 ⟨rfl, hb⟩; refine Hid.out ?_)
    refine Lib.hid ?_
    rw [← hX1] at hb 
    clear hX1
    replace KD := tkb hb LD KD
    replace LD := tlz LD hb.size
    replace KG := tkb hb LG KG
    replace LG := tlz LG hb.size
    replace BB := tbt BB hb
    clear hc hb fD0 fD1 fD2 fD3
    obtain ⟨X2, hX2⟩ : ∃ z, z = w3.alloc (.cells #[.int .i64 o, .string y, .string ⟨#[]⟩, .string ⟨#[]⟩] 26) := ⟨_, rfl⟩
    have hb : Below w3.heap.size w3 X2 := by rw [hX2]; exact (Below.refl _ _).alloc (Nat.le_refl _) _
    replace KD := tkb hb LD KD
    replace LD := tlz LD hb.size
    replace KG := tkb hb LG KG
    replace LG := tlz LG hb.size
    replace BB := tbt BB hb
    have KW : Hid (X2.heap[w3.heap.size]? = some (.cells #[.int .i64 o, .string y, .string ⟨#[]⟩, .string ⟨#[]⟩] 26 (0, 0))) := Lib.hid (by rw [hX2]; exact heap_new _ _)
    have LW : Hid (w3.heap.size < X2.heap.size) := Lib.hid (by rw [hX2]; simp)
    clear hb
    have hc := k3 X2
    have fG0 := tcr KG 0
    have fG1 := tcr KG 1
    have fG2 := tcr KG 2
    have fG3 := tcr KG 3
    have fW0 := tcr KW 0
    have fW1 := tcr KW 1
    have fW2 := tcr KW 2
    have fW3 := tcr KW 3
    rw [hX2] at hc fG0 fG1 fG2 fG3 fW0 fW1 fW2 fW3
    go_wp2_with (go_at_call 22; refine hc.mono ?_; rintro e w4 ⟨rfl, hb⟩; refine Hid.out ?_)
    refine Lib.hid ?_
    rw [← hX2] at hb 
    clear hX2
    replace KD := tkb hb LD KD
    replace LD := tlz LD hb.size
    replace KG := tkb hb LG KG
    replace LG := tlz LG hb.size
    replace KW := tkb hb LW KW
    replace LW := tlz LW hb.size
    replace BB := tbt BB hb
    clear hc hb fG0 fG1 fG2 fG3 fW0 fW1 fW2 fW3
    have fG0 := tcr KG 0
    have fG1 := tcr KG 1
    have fG2 := tcr KG 2
    have fG3 := tcr KG 3
    have fD0 := tcr KD 0
    have fD1 := tcr KD 1
    have fD2 := tcr KD 2
    have fD3 := tcr KD 3
    go_wp2_with fail
    go_ret
    exact ⟨rfl, BB.out⟩
  have hres : insS d y = (d, false) := ins_no (by
    cases hq : dskOk d with
    | false => exact .inl rfl
    | true => exact .inr (Int.not_le.1 fun h => hin ⟨hq, h⟩))
  rw [hres] at k1 k2
  clear hres hin hsm hodd
  have hne := fun w => neq_dsk d d w
  rw [dskEq_refl] at hne
  unfold dskV at hne
  try dsimp only at hne
  have heq := fun w => eql_dsk d d w
  rw [dskEq_refl] at heq
  unfold dskV at heq
  try dsimp only at heq
  obtain ⟨o, s, t, u⟩ := d
  unfold dskV at *
  try dsimp only at *
  obtain ⟨X0, hX0⟩ : ∃ z, z = w1.alloc (.cells #[.int .i64 o, .string s, .string t, .string u] 26) := ⟨_, rfl⟩
  have hb : Below w1.heap.size w1 X0 := by rw [hX0]; exact (Below.refl _ _).alloc (Nat.le_refl _) _
  replace BB := tbt BB hb
  have KD : Hid (X0.heap[w1.heap.size]? = some (.cells #[.int .i64 o, .string s, .string t, .string u] 26 (0, 0))) := Lib.hid (by rw [hX0]; exact heap_new _ _)
  have LD : Hid (w1.heap.size < X0.heap.size) := Lib.hid (by rw [hX0]; simp)
  clear hb
  have hc := k1 X0
  have fD0 := tcr KD 0
  have fD1 := tcr KD 1
  have fD2 := tcr KD 2
  have fD3 := tcr KD 3
  rw [hX0] at hc fD0 fD1 fD2 fD3
  go_wp2_with (go_at_call 40; refine hc.mono ?_; rintro e w2 ⟨rfl, hb⟩; refine Hid.out ?_)
  refine Lib.hid ?_
  rw [← hX0] at hb 
  clear hX0
  replace KD := tkb hb LD KD
  replace LD := tlz LD hb.size
  replace BB := tbt BB hb
  clear hc hb fD0 fD1 fD2 fD3
  obtain ⟨X1, hX1⟩ : ∃ z, z = w2.alloc (.cells #[.int .i64 o, .string s, .string t, .string u] 26) := ⟨_, rfl⟩
  have hb : Below w2.heap.size w2 X1 := by rw [hX1]; exact (Below.refl _ _).alloc (Nat.le_refl _) _
  replace KD := tkb hb LD KD
  replace LD := tlz LD hb.size
  replace BB := tbt BB hb
  have KG : Hid (X1.heap[w2.heap.size]? = some (.cells #[.int .i64 o, .string s, .string t, .string u] 26 (0, 0))) := Lib.hid (by rw [hX1]; exact heap_new _ _)
  have LG : Hid (w2.heap.size < X1.heap.size) := Lib.hid (by rw [hX1]; simp)
  clear hb
  have hc := k2 X1
  have fD0 := tcr KD 0
  have fD1 := tcr KD 1
  have fD2 := tcr KD 2
  have fD3 := tcr KD 3
  rw [hX1] at hc fD0 fD1 fD2 fD3
  go_wp2_with (go_at_call 39; refine hc.mono ?_; rintro e w3 ⟨rfl, hb⟩; refine Hid.out ?_)
  refine Lib.hid ?_
  rw [← hX1] at hb 
  clear hX1
  replace KD := tkb hb LD KD
  replace LD := tlz LD hb.size
  replace KG := tkb hb LG KG
  replace LG := tlz LG hb.size
  replace BB := tbt BB hb
  clear hc hb fD0 fD1 fD2 fD3
  obtain ⟨X2, hX2⟩ : ∃ z, z = w3.alloc (.cells #[.int .i64 o, .string s, .string t, .string u] 26) := ⟨_, rfl⟩
  have hb : Below w3.heap.size w3 X2 := by rw [hX2]; exact (Below.refl _ _).alloc (Nat.le_refl _) _
  replace KD := tkb hb LD KD
  replace LD := tlz LD hb.size
  replace KG := tkb hb LG KG
  replace LG := tlz LG hb.size
  replace BB := tbt BB hb
  have KW : Hid (X2.heap[w3.heap.size]? = some (.cells #[.int .i64 o, .string s, .string t, .string u] 26 (0, 0))) := Lib.hid (by rw [hX2]; exact heap_new _ _)
  have LW : Hid (w3.heap.size < X2.heap.size) := Lib.hid (by rw [hX2]; simp)
  clear hb
  have fG0 := tcr KG 0
  have fG1 := tcr KG 1
  have fG2 := tcr KG 2
  have fG3 := tcr KG 3
  have fW0 := tcr KW 0
  have fW1 := tcr KW 1
  have fW2 := tcr KW 2
  have fW3 := tcr KW 3
  have fD0 := tcr KD 0
  have fD1 := tcr KD 1
  have fD2 := tcr KD 2
  have fD3 := tcr KD 3
  rw [hX2] at BB fG0 fG1 fG2 fG3 fW0 fW1 fW2 fW3 fD0 fD1 fD2 fD3
  go_wp2_with fail
  go_ret
  exact ⟨rfl, BB.out⟩
end Go.Proofs.Ytkkmjlpeahkiaaa
