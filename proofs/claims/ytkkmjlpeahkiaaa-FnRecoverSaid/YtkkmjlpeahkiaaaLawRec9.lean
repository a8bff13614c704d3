/- The law FnRecover: what is recovered is whole, and stays so. Condition: none. -/
import Derived.Test.YtkkmjlpeahkiaaaDrawD9b
import Derived.Test.YtkkmjlpeahkiaaaImplRec
import Derived.Test.YtkkmjlpeahkiaaaSpecRec
import Derived.Test.YtkkmjlpeahkiaaaSameD
import Derived.Test.YtkkmjlpeahkiaaaBig
import Derived.Test.YtkkmjlpeahkiaaaTk
namespace Go.Proofs.Ytkkmjlpeahkiaaa
open Go.RowKit
set_option linter.unusedVariables false
set_option linter.unusedSimpArgs false

theorem rec_len9 {d : Dsk} (h : SmD d) (hok : dskOk d = true) : (scanS d.kp).1.length ≤ 1048577 := by
  have h1 := scan_len (t := d.kp) 0
  change 6 * (scanS d.kp).1.length ≤ _ at h1
  have h2 := h.2.2.1
  omega
set_option maxRecDepth 100000 in
set_option maxHeartbeats 8000000 in
theorem law_recover9 (a : Option Addr) (len cap : Nat) (zs : List Int) (w : World) (hr : IsRow .u8 w a len cap zs) :
    Calls Try.prog 16 #[.slice a len cap] w fun e w' => e = .returned (.bool true) ∧ Below w.heap.size w w' := by
  have hr := row8_of hr
  by_cases hbig : 1048576 < len
  · have hd : decide (1048576 < len) = true := by simpa using hbig
    go_enter Try.func16, Try.ntmps16
    go_wp2_with (go_at_call 41; refine (big_any _ _ _ _).mono ?_; rintro e w' ⟨rfl, rfl⟩)
    go_ret
    exact ⟨rfl, Below.refl _ _⟩
  have hd : decide (1048576 < len) = false := by simpa using hbig
  have hlen : len ≤ 1048576 := by omega
  have Hr8 := Lib.hid hr
  have BB : Hid (Below w.heap.size w w) := Lib.hid (Below.refl _ _)
  go_enter Try.func16, Try.ntmps16
  go_wp2_with (go_at_call 41; refine (big_any _ _ _ _).mono ?_; rintro e w' ⟨rfl, rfl⟩; refine Hid.out ?_)
  refine Lib.hid ?_
  clear hd hbig hr
  have hc := d9DrawRecover a len cap zs w Hr8.out hlen
  go_wp2_with (go_at_call 51; refine hc.mono ?_; rintro e w1 ⟨d, rfl, hsm, hb⟩; refine Hid.out ?_)
  refine Lib.hid ?_
  replace BB := tbt BB hb
  clear hc hb 
  have k1 := fun w => impl_recover d w hsm
  have k2 := fun w => spec_recover d w hsm
  have k3 := fun w => spec_diskOk d w hsm
  by_cases hok : dskOk d = true
  · have hok2 := rec_ok hok
    have k4 := fun w => impl_diskOk (recS d).1 w (dsk_sm hok2)
    have k5 := fun w => impl_scan (recS d).1.kp w (by have := (dsk_in hok2).2.2.1; omega)
    rw [hok2] at k4
    rw [hok] at k3
    have hres : recS d = (⟨d.rm, d.sn, d.kp.extract 0 (scanS d.kp).2, ⟨#[]⟩⟩, (scanS d.kp).1) := by unfold recS; rw [if_pos hok]
    have hag := scan_again d.kp
    have hle := (scan_le (t := d.kp) 0 (Nat.zero_le _)).2
    change (scanS d.kp).2 ≤ _ at hle
    rw [hres] at k1 k2 k4 k5
    dsimp only at k1 k2 k4 k5
    rw [hag] at k5
    have hln : (scanS d.kp).1.length ≤ 1048577 := by have h := rec_len9 hsm hok; exact h
    obtain ⟨n, hn⟩ : ∃ n, n = (scanS d.kp).2 := ⟨_, rfl⟩
    obtain ⟨l, hl⟩ : ∃ n, n = (scanS d.kp).1 := ⟨_, rfl⟩
    rw [← hn, ← hl] at k5
    rw [← hn] at k1 k2 k4 hle
    rw [← hl] at k1 k2 hln
    clear hres hok2 hok hag hsm hn hl
    have hne := fun w => neq_dsk ⟨d.rm, d.sn, d.kp.extract 0 n, ⟨#[]⟩⟩ ⟨d.rm, d.sn, d.kp.extract 0 n, ⟨#[]⟩⟩ w
    rw [dskEq_refl] at hne
    unfold dskV at hne
    try dsimp only at hne
    obtain ⟨o, s, t, u⟩ := d
    unfold dskV at *
    try dsimp only at *
    have hxz : (t.extract 0 n).size = n := by rw [ByteArray.size_extract]; omega
    obtain ⟨x, hx⟩ : ∃ x, x = t.extract 0 n := ⟨_, rfl⟩
    rw [← hx] at k1 k2 k4 k5 hne hxz
    have hxx : t.extract 0 n = x := hx.symm
    have HXZ := Lib.hid hxz
    have hnz : ((n : Int) == (x.size : Int)) = true := by rw [hxz]; simp
    have hn0 : ¬ t.size < n := by omega
    clear hx hxz
    obtain ⟨X0, hX0⟩ : ∃ z, z = w1.alloc (.cells #[.int .i64 o, .string s, .string t, .string u] 26) := ⟨_, rfl⟩
    have hb : Below w1.heap.size w1 X0 := by rw [hX0]; exact (Below.refl _ _).alloc (Nat.le_refl _) _
    replace BB := tbt BB hb
    have KD : Hid (X0.heap[w1.heap.size]? = some (.cells #[.int .i64 o, .string s, .string t, .string u] 26 (0, 0))) := Lib.hid (by rw [hX0]; exact heap_new _ _)
    have LD : Hid (w1.heap.size < X0.heap.size) := Lib.hid (by rw [hX0]; simp)
    clear hb
    have hc := k1 X0
    have fD0 := tcr KD 0
    have fD1 := tcr KD 1
    have fD2 := tcr KD 2
    have fD3 := tcr KD 3
    rw [hX0] at hc fD0 fD1 fD2 fD3
    go_wp2_with (go_at_call 38; refine hc.mono ?_; rintro e w2 ⟨v1, rfl, ht1, hb⟩; refine Hid.out ?_)
    refine Lib.hid ?_
    rw [← hX0] at hb 
    clear hX0
    replace KD := tkb hb LD KD
    replace LD := tlz LD hb.size
    replace BB := tbt BB hb
    clear hc hb fD0 fD1 fD2 fD3
    have T1 := Lib.hid ht1
    obtain ⟨a1, c1, rfl⟩ := texts_shape ht1
    clear ht1
    obtain ⟨X1, hX1⟩ : ∃ z, z = w2.alloc (.cells #[.int .i64 o, .string s, .string x, .string ⟨#[]⟩] 26) := ⟨_, rfl⟩
    have hb : Below w2.heap.size w2 X1 := by rw [hX1]; exact (Below.refl _ _).alloc (Nat.le_refl _) _
    replace KD := tkb hb LD KD
    replace LD := tlz LD hb.size
    replace T1 := Lib.hid (T1.out.later hb)
    replace BB := tbt BB hb
    have KG : Hid (X1.heap[w2.heap.size]? = some (.cells #[.int .i64 o, .string s, .string x, .string ⟨#[]⟩] 26 (0, 0))) := Lib.hid (by rw [hX1]; exact heap_new _ _)
    have LG : Hid (w2.heap.size < X1.heap.size) := Lib.hid (by rw [hX1]; simp)
    clear hb
    have hc := k2 X1
    have fD0 := tcr KD 0
    have fD1 := tcr KD 1
    have fD2 := tcr KD 2
    have fD3 := tcr KD 3
    rw [hX1] at hc fD0 fD1 fD2 fD3
    go_wp2_with (go_at_call 37; refine hc.mono ?_; rintro e w3 ⟨v2, rfl, ht2, hb⟩; refine Hid.out ?_)
    refine Lib.hid ?_
    rw [← hX1] at hb 
    clear hX1
    replace KD := tkb hb LD KD
    replace LD := tlz LD hb.size
    replace KG := tkb hb LG KG
    replace LG := tlz LG hb.size
    replace T1 := Lib.hid (T1.out.later hb)
    replace BB := tbt BB hb
    clear hc hb fD0 fD1 fD2 fD3
    have T2 := Lib.hid ht2
    obtain ⟨a2, c2, rfl⟩ := texts_shape ht2
    clear ht2
    obtain ⟨X2, hX2⟩ : ∃ z, z = w3.alloc (.cells #[.int .i64 o, .string s, .string x, .string ⟨#[]⟩] 26) := ⟨_, rfl⟩
    have hb : Below w3.heap.size w3 X2 := by rw [hX2]; exact (Below.refl _ _).alloc (Nat.le_refl _) _
    replace KD := tkb hb LD KD
    replace LD := tlz LD hb.size
    replace KG := tkb hb LG KG
    replace LG := tlz LG hb.size
    replace T1 := Lib.hid (T1.out.later hb)
    replace T2 := Lib.hid (T2.out.later hb)
    replace BB := tbt BB hb
    have KW : Hid (X2.heap[w3.heap.size]? = some (.cells #[.int .i64 o, .string s, .string x, .string ⟨#[]⟩] 26 (0, 0))) := Lib.hid (by rw [hX2]; exact heap_new _ _)
    have LW : Hid (w3.heap.size < X2.heap.size) := Lib.hid (by rw [hX2]; simp)
    clear hb
    have hc := same_tx l _ _ _ _ X2 T1.out T2.out
    have fG0 := tcr KG 0
    have fG1 := tcr KG 1
    have fG2 := tcr KG 2
    have fG3 := tcr KG 3
    have fW0 := tcr KW 0
    have fW1 := tcr KW 1
    have fW2 := tcr KW 2
    have fW3 := tcr KW 3
    rw [hX2] at hc fG0 fG1 fG2 fG3 fW0 fW1 fW2 fW3
    go_wp2_with (go_at_call 47; refine hc.mono ?_; rintro e w4 ⟨rfl, hb⟩; refine Hid.out ?_)
    refine Lib.hid ?_
    rw [← hX2] at hb 
    clear hX2
    replace KD := tkb hb LD KD
    replace LD := tlz LD hb.size
    replace KG := tkb hb LG KG
    replace LG := tlz LG hb.size
    replace KW := tkb hb LW KW
    replace LW := tlz LW hb.size
    replace T1 := Lib.hid (T1.out.later hb)
    replace T2 := Lib.hid (T2.out.later hb)
    replace BB := tbt BB hb
    clear hc hb fG0 fG1 fG2 fG3 fW0 fW1 fW2 fW3
    have hc := k3 w4
    have fD0 := tcr KD 0
    have fD1 := tcr KD 1
    have fD2 := tcr KD 2
    have fD3 := tcr KD 3
    go_wp2_with (go_at_call 20; refine hc.mono ?_; rintro e w5 ⟨rfl, hb⟩; refine Hid.out ?_)
    refine Lib.hid ?_
    replace KD := tkb hb LD KD
    replace LD := tlz LD hb.size
    replace KG := tkb hb LG KG
    replace LG := tlz LG hb.size
    replace KW := tkb hb LW KW
    replace LW := tlz LW hb.size
    replace T1 := Lib.hid (T1.out.later hb)
    replace T2 := Lib.hid (T2.out.later hb)
    replace BB := tbt BB hb
    clear hc hb fD0 fD1 fD2 fD3
    have hc := k5 w5
    have fG0 := tcr KG 0
    have fG1 := tcr KG 1
    have fG2 := tcr KG 2
    have fG3 := tcr KG 3
    go_wp2_with (go_at_call 33; refine hc.mono ?_; rintro e w6 ⟨v3, rfl, ht3, hb⟩; refine Hid.out ?_)
    refine Lib.hid ?_
    replace KD := tkb hb LD KD
    replace LD := tlz LD hb.size
    replace KG := tkb hb LG KG
    replace LG := tlz LG hb.size
    replace KW := tkb hb LW KW
    replace LW := tlz LW hb.size
    replace T1 := Lib.hid (T1.out.later hb)
    replace T2 := Lib.hid (T2.out.later hb)
    replace BB := tbt BB hb
    clear hc hb fG0 fG1 fG2 fG3
    have T3 := Lib.hid ht3
    obtain ⟨a3, c3, rfl⟩ := texts_shape ht3
    clear ht3
    go_wp2_with fail
    have RA := Lib.hid (texts_at T1.out)
    have RB := Lib.hid (texts_at T3.out)
    have FD : Hid (∀ w', Below w6.heap.size w6 w' → w'.cell? ⟨w1.heap.size, 0, none⟩ = some (.int .i64 o) ∧ w'.cell? ⟨w1.heap.size, 1, none⟩ = some (.string s) ∧ w'.cell? ⟨w1.heap.size, 2, none⟩ = some (.string t) ∧ w'.cell? ⟨w1.heap.size, 3, none⟩ = some (.string u)) := Lib.hid (fun w' h => by have K := tkb h LD KD; exact ⟨tcr K 0, tcr K 1, tcr K 2, tcr K 3⟩)
    have FG : Hid (∀ w', Below w6.heap.size w6 w' → w'.cell? ⟨w2.heap.size, 0, none⟩ = some (.int .i64 o) ∧ w'.cell? ⟨w2.heap.size, 1, none⟩ = some (.string s) ∧ w'.cell? ⟨w2.heap.size, 2, none⟩ = some (.string x) ∧ w'.cell? ⟨w2.heap.size, 3, none⟩ = some (.string ⟨#[]⟩)) := Lib.hid (fun w' h => by have K := tkb h LG KG; exact ⟨tcr K 0, tcr K 1, tcr K 2, tcr K 3⟩)
    refine wp_region_held_drew (S := (fun w' => Below w6.heap.size w6 w')) (by kernel_rfl) (Below.refl _ _).drew (fun hHeld => ?_)
    obtain ⟨zE, hzE⟩ : ∃ zz, zz = w6.drew := ⟨_, rfl⟩
    rw [← hzE] at hHeld ⊢
    clear hzE
    have BD := Lib.hid hHeld
    refine tk 0 (v := ?_) ?_ ?_; rotate_left
    · refine Or.inl ⟨by rfl, ?_⟩; intro w hSw; obtain ⟨hG0, hG1, hG2, hG3⟩ := FG.out w hSw; go_simp; first | done | with_reducible rfl
    refine rd1 1 (fun K hK => ?_)
    go_simp
    have hc := k4 zE
    go_at_call 22
    refine hc.mono ?_
    rintro e w7 ⟨rfl, hb⟩
    replace BD := tbt BD hb
    clear hc hb
    go_wp2_with fail
    refine hK.out _ _ BD.out (fun hHeld => ?_)
    clear hK K
    refine tk0 2 ?_
    refine tk0 3 ?_
    refine tk0 4 ?_
    refine rd1 5 (fun K hK => ?_)
    go_simp
    have hc := same_at l _ _ w6.heap.size w7 (RB.out.later BD.out) (RA.out.later BD.out) BD.out.size
    go_at_call 47
    refine hc.mono ?_
    rintro e w8 ⟨rfl, hb⟩
    replace BD := tbt BD hb
    clear hc hb
    go_wp2_with fail
    refine hK.out _ _ BD.out (fun hHeld => ?_)
    clear hK K
    refine tk0 6 ?_
    refine tk0 7 ?_
    refine tk0 8 ?_
    refine tk0 9 ?_
    refine tk 10 (v := ?_) ?_ ?_; rotate_left
    · refine Or.inl ⟨by rfl, ?_⟩; intro w hSw; obtain ⟨hG0, hG1, hG2, hG3⟩ := FG.out w hSw; go_simp; first | done | with_reducible rfl
    refine tk0 11 ?_
    refine tk0 12 ?_
    refine tk0 13 ?_
    refine tk0 14 ?_
    refine tk0 15 ?_
    refine tk 16 (v := ?_) ?_ ?_; rotate_left
    · refine Or.inl ⟨by rfl, ?_⟩; intro w hSw; obtain ⟨hG0, hG1, hG2, hG3⟩ := FG.out w hSw; go_simp; first | done | with_reducible rfl
    refine tk0 17 ?_
    refine tk0 18 ?_
    refine tk0 19 ?_
    refine tk0 20 ?_
    refine tk 21 (v := ?_) ?_ ?_; rotate_left
    · refine Or.inl ⟨by rfl, ?_⟩; intro w hSw; obtain ⟨hG0, hG1, hG2, hG3⟩ := FG.out w hSw; go_simp; first | done | with_reducible rfl
    refine tk0 22 ?_
    refine tk 23 (v := ?_) ?_ ?_; rotate_left
    · refine Or.inl ⟨by rfl, ?_⟩; intro w hSw; obtain ⟨hD0, hD1, hD2, hD3⟩ := FD.out w hSw; go_simp; first | done | with_reducible rfl
    refine tk0 24 ?_
    refine tk0 25 ?_
    refine tk0 26 ?_
    refine tk0 27 ?_
    refine tk 28 (v := ?_) ?_ ?_; rotate_left
    · refine Or.inl ⟨by rfl, ?_⟩; intro w hSw; obtain ⟨hD0, hD1, hD2, hD3⟩ := FD.out w hSw; go_simp; first | done | with_reducible rfl
    refine tk0 29 ?_
    refine tk0 30 ?_
    refine tk0 31 ?_
    refine tk 32 (v := ?_) ?_ ?_; rotate_left
    · refine Or.inl ⟨by rfl, ?_⟩; intro w hSw; obtain ⟨hG0, hG1, hG2, hG3⟩ := FG.out w hSw; go_simp; first | done | with_reducible rfl
    refine tk0 33 ?_
    refine tk0 34 ?_
    refine tk0 35 ?_
    refine wpAnyH_done (by kernel_rfl) ?_ _
    clear hHeld
    have hb := BD.out
    replace KD := tkb hb LD KD
    replace LD := tlz LD hb.size
    replace KG := tkb hb LG KG
    replace LG := tlz LG hb.size
    replace KW := tkb hb LW KW
    replace LW := tlz LW hb.size
    replace BB := tbt BB hb
    clear hb BD
    clear FD FG
    go_wp2_with fail
    go_ret
    exact ⟨rfl, BB.out⟩
  have hok := Bool.eq_false_iff.2 hok
  have hres : recS d = (d, []) := by unfold recS; rw [if_neg (by rw [hok]; decide)]
  rw [hres] at k1 k2
  rw [hok] at k3
  clear hres hok hsm
  have hne := fun w => neq_dsk d d w
  rw [dskEq_refl] at hne
  unfold dskV at hne
  try dsimp only at hne
  have heq := fun w => eql_dsk d d w
  rw [dskEq_refl] at heq
  unfold dskV at heq
  try dsimp only at heq
  obtain ⟨o, s, t, u⟩ := d
  unfold dskV at *
  try dsimp only at *
  obtain ⟨X0, hX0⟩ : ∃ z, z = w1.alloc (.cells #[.int .i64 o, .string s, .string t, .string u] 26) := ⟨_, rfl⟩
  have hb : Below w1.heap.size w1 X0 := by rw [hX0]; exact (Below.refl _ _).alloc (Nat.le_refl _) _
  replace BB := tbt BB hb
  have KD : Hid (X0.heap[w1.heap.size]? = some (.cells #[.int .i64 o, .string s, .string t, .string u] 26 (0, 0))) := Lib.hid (by rw [hX0]; exact heap_new _ _)
  have LD : Hid (w1.heap.size < X0.heap.size) := Lib.hid (by rw [hX0]; simp)
  clear hb
  have hc := k1 X0
  have fD0 := tcr KD 0
  have fD1 := tcr KD 1
  have fD2 := tcr KD 2
  have fD3 := tcr KD 3
  rw [hX0] at hc fD0 fD1 fD2 fD3
  go_wp2_with (go_at_call 38; refine hc.mono ?_; rintro e w2 ⟨v1, rfl, ht1, hb⟩; refine Hid.out ?_)
  refine Lib.hid ?_
  rw [← hX0] at hb 
  clear hX0
  replace KD := tkb hb LD KD
  replace LD := tlz LD hb.size
  replace BB := tbt BB hb
  clear hc hb fD0 fD1 fD2 fD3
  have T1 := Lib.hid ht1
  obtain ⟨a1, c1, rfl⟩ := texts_shape ht1
  clear ht1
  obtain ⟨X1, hX1⟩ : ∃ z, z = w2.alloc (.cells #[.int .i64 o, .string s, .string t, .string u] 26) := ⟨_, rfl⟩
  have hb : Below w2.heap.size w2 X1 := by rw [hX1]; exact (Below.refl _ _).alloc (Nat.le_refl _) _
  replace KD := tkb hb LD KD
  replace LD := tlz LD hb.size
  replace T1 := Lib.hid (T1.out.later hb)
  replace BB := tbt BB hb
  have KG : Hid (X1.heap[w2.heap.size]? = some (.cells #[.int .i64 o, .string s, .string t, .string u] 26 (0, 0))) := Lib.hid (by rw [hX1]; exact heap_new _ _)
  have LG : Hid (w2.heap.size < X1.heap.size) := Lib.hid (by rw [hX1]; simp)
  clear hb
  have hc := k2 X1
  have fD0 := tcr KD 0
  have fD1 := tcr KD 1
  have fD2 := tcr KD 2
  have fD3 := tcr KD 3
  rw [hX1] at hc fD0 fD1 fD2 fD3
  go_wp2_with (go_at_call 37; refine hc.mono ?_; rintro e w3 ⟨v2, rfl, ht2, hb⟩; refine Hid.out ?_)
  refine Lib.hid ?_
  rw [← hX1] at hb 
  clear hX1
  replace KD := tkb hb LD KD
  replace LD := tlz LD hb.size
  replace KG := tkb hb LG KG
  replace LG := tlz LG hb.size
  replace T1 := Lib.hid (T1.out.later hb)
  replace BB := tbt BB hb
  clear hc hb fD0 fD1 fD2 fD3
  have T2 := Lib.hid ht2
  obtain ⟨a2, c2, rfl⟩ := texts_shape ht2
  clear ht2
  obtain ⟨X2, hX2⟩ : ∃ z, z = w3.alloc (.cells #[.int .i64 o, .string s, .string t, .string u] 26) := ⟨_, rfl⟩
  have hb : Below w3.heap.size w3 X2 := by rw [hX2]; exact (Below.refl _ _).alloc (Nat.le_refl _) _
  replace KD := tkb hb LD KD
  replace LD := tlz LD hb.size
  replace KG := tkb hb LG KG
  replace LG := tlz LG hb.size
  replace T1 := Lib.hid (T1.out.later hb)
  replace T2 := Lib.hid (T2.out.later hb)
  replace BB := tbt BB hb
  have KW : Hid (X2.heap[w3.heap.size]? = some (.cells #[.int .i64 o, .string s, .string t, .string u] 26 (0, 0))) := Lib.hid (by rw [hX2]; exact heap_new _ _)
  have LW : Hid (w3.heap.size < X2.heap.size) := Lib.hid (by rw [hX2]; simp)
  clear hb
  have hc := same_tx [] _ _ _ _ X2 T1.out T2.out
  have fG0 := tcr KG 0
  have fG1 := tcr KG 1
  have fG2 := tcr KG 2
  have fG3 := tcr KG 3
  have fW0 := tcr KW 0
  have fW1 := tcr KW 1
  have fW2 := tcr KW 2
  have fW3 := tcr KW 3
  rw [hX2] at hc fG0 fG1 fG2 fG3 fW0 fW1 fW2 fW3
  go_wp2_with (go_at_call 47; refine hc.mono ?_; rintro e w4 ⟨rfl, hb⟩; refine Hid.out ?_)
  refine Lib.hid ?_
  rw [← hX2] at hb 
  clear hX2
  replace KD := tkb hb LD KD
  replace LD := tlz LD hb.size
  replace KG := tkb hb LG KG
  replace LG := tlz LG hb.size
  replace KW := tkb hb LW KW
  replace LW := tlz LW hb.size
  replace T1 := Lib.hid (T1.out.later hb)
  replace T2 := Lib.hid (T2.out.later hb)
  replace BB := tbt BB hb
  clear hc hb fG0 fG1 fG2 fG3 fW0 fW1 fW2 fW3
  have hc := k3 w4
  have fD0 := tcr KD 0
  have fD1 := tcr KD 1
  have fD2 := tcr KD 2
  have fD3 := tcr KD 3
  go_wp2_with (go_at_call 20; refine hc.mono ?_; rintro e w5 ⟨rfl, hb⟩; refine Hid.out ?_)
  refine Lib.hid ?_
  replace KD := tkb hb LD KD
  replace LD := tlz LD hb.size
  replace KG := tkb hb LG KG
  replace LG := tlz LG hb.size
  replace KW := tkb hb LW KW
  replace LW := tlz LW hb.size
  replace T1 := Lib.hid (T1.out.later hb)
  replace T2 := Lib.hid (T2.out.later hb)
  replace BB := tbt BB hb
  clear hc hb fD0 fD1 fD2 fD3
  have fG0 := tcr KG 0
  have fG1 := tcr KG 1
  have fG2 := tcr KG 2
  have fG3 := tcr KG 3
  have fD0 := tcr KD 0
  have fD1 := tcr KD 1
  have fD2 := tcr KD 2
  have fD3 := tcr KD 3
  go_wp2_with fail
  go_ret
  exact ⟨rfl, BB.out⟩
end Go.Proofs.Ytkkmjlpeahkiaaa
