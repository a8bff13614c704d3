/- The law FnDisk: what is appended is there, as long as there is room; a right disk stays right. Condition: none. -/
import Derived.Test.YtkkmjlpeahkiaaaDrawD9
import Derived.Test.YtkkmjlpeahkiaaaImplDsk
import Derived.Test.YtkkmjlpeahkiaaaImplScan2
import Derived.Test.YtkkmjlpeahkiaaaDkBox
import Derived.Test.YtkkmjlpeahkiaaaBig
import Derived.Test.YtkkmjlpeahkiaaaTk
import Derived.Deep.CutBlock
import Derived.Deep.DeepCutAuto
namespace Go.Proofs.Ytkkmjlpeahkiaaa
open Go.RowKit
set_option linter.unusedVariables false
set_option linter.unusedSimpArgs false

theorem ext_back (u x : ByteArray) : (u ++ x).extract u.size (u ++ x).size = x := by
  apply ByteArray.ext
  apply Array.toList_inj.mp
  rw [ByteArray.size_append, ByteArray.data_extract, ByteArray.data_append, Array.toList_extract, Array.toList_append, List.extract_eq_take_drop]
  rw [List.drop_append_of_le_length (by simp), List.drop_of_length_le (by simp), List.nil_append, List.take_of_length_le (by simp)]
theorem texts_one {w : World} {B : Nat} {v : Value} {x : ByteArray} (h : Texts w B v [x]) : ∃ g cap, v = .slice (some ⟨g, 0, none⟩) 1 cap ∧ g < w.heap.size ∧ w.cell? ⟨g, 0, none⟩ = some (.string x) := by
  rcases h.form with ⟨_, h0⟩ | ⟨g, cap, rfl, hg, hgl, hm, hc, _⟩
  · cases h0
  · exact ⟨g, cap, rfl, hgl, hc 0 (by simp)⟩
set_option maxRecDepth 100000 in
set_option maxHeartbeats 8000000 in
theorem law_disk (a : Option Addr) (len cap : Nat) (zs : List Int) (w : World) (hr : IsRow .u8 w a len cap zs) :
    Calls Try.prog 11 #[.slice a len cap] w fun e w' => e = .returned (.bool true) ∧ Below w.heap.size w w' := by
  have hr := row8_of hr
  by_cases hbig : 1048576 < len
  · have hd : decide (1048576 < len) = true := by simpa using hbig
    go_enter Try.func11, Try.ntmps11
    go_wp2_with (go_at_call 41; refine (big_any _ _ _ _).mono ?_; rintro e w' ⟨rfl, rfl⟩)
    go_ret
    exact ⟨rfl, Below.refl _ _⟩
  have hd : decide (1048576 < len) = false := by simpa using hbig
  have hlen : len ≤ 1048576 := by omega
  have Hr8 := Lib.hid hr
  have BB : Hid (Below w.heap.size w w) := Lib.hid (Below.refl _ _)
  go_enter Try.func11, Try.ntmps11
  go_wp2_with (go_at_call 41; refine (big_any _ _ _ _).mono ?_; rintro e w' ⟨rfl, rfl⟩; refine Hid.out ?_)
  refine Lib.hid ?_
  clear hd hbig hr
  have hc := d9DrawAppend a len cap zs w Hr8.out hlen
  go_wp2_with (go_at_call 42; refine hc.mono ?_; rintro e w1 ⟨d, y, rfl, hodd, hy, hb⟩; refine Hid.out ?_)
  refine Lib.hid ?_
  replace BB := tbt BB hb
  clear hc hb 
  have hsm := odd_sm hodd
  have k1 := fun w => impl_append d y w hsm (by omega)
  have k2 := fun w => spec_append d y w hsm (by omega)
  have k3 := fun w => impl_diskOk d w hsm
  have k4 := fun w => spec_diskOk d w hsm
  by_cases hin : dskOk d = true ∧ (usedD d : Int) + ((entB y).size : Int) ≤ d.rm
  · have hez : (entB y).size = y.size + 6 := by rw [ent_size, if_neg (by omega)]
    have hsc := scan_one (x := y) (by omega)
    have k5 := fun w => impl_scan (entB y) w (by omega)
    have k6 := fun w => impl_entry y w (by omega)
    rw [hsc] at k5
    have hres : appS d y = (⟨d.rm, d.sn, d.kp, d.ls ++ entB y⟩, true) := by unfold appS; rw [if_pos ⟨hin.1, by omega, by omega⟩]
    have hok : dskOk ⟨d.rm, d.sn, d.kp, d.ls ++ entB y⟩ = true := by have h := app_ok y hin.1; rw [hres] at h; exact h
    have k7 := fun w => impl_diskOk ⟨d.rm, d.sn, d.kp, d.ls ++ entB y⟩ w (dsk_sm hok)
    rw [hok] at k7
    rw [hin.1] at k3 k4
    rw [hres] at k1 k2
    have h2 := hsm.2.2.2
    clear hres hok hin hsm hodd hsc
    obtain ⟨E, hE⟩ : ∃ z, z = entB y := ⟨_, rfl⟩
    rw [← hE] at k1 k2 k5 k6 k7 hez
    clear hE
    obtain ⟨v, hv⟩ : ∃ v, v = d.ls ++ E := ⟨_, rfl⟩
    rw [← hv] at k1 k2 k7
    have hvz : v.size = d.ls.size + E.size := by rw [hv, ByteArray.size_append]
    have hex : v.extract d.ls.size v.size = E := by rw [hv]; exact ext_back d.ls E
    have hvv : d.ls ++ E = v := hv.symm
    have Hez := Lib.hid hez
    clear hv hez
    have hne := fun w => neq_dsk ⟨d.rm, d.sn, d.kp, v⟩ ⟨d.rm, d.sn, d.kp, v⟩ w
    rw [dskEq_refl] at hne
    unfold dskV at hne
    try dsimp only at hne
    obtain ⟨o, s, t, u⟩ := d
    unfold dskV at *
    try dsimp only at *
    have ns : ¬ 9223372036854775807 < u.size + E.size := by have := Hez.out; omega
    have hge : ¬ v.size < u.size := by omega
    have hnz : (((y.size + 6 : Nat) : Int) == (E.size : Int)) = true := by rw [Hez.out]; simp
    have Hvz := Lib.hid hvz
    clear hvz
    obtain ⟨N, hN⟩ : ∃ N : Nat, N = y.size + 6 := ⟨_, rfl⟩
    rw [← hN] at k5 hnz
    clear hN
    obtain ⟨X0, hX0⟩ : ∃ z, z = w1.alloc (.cells #[.int .i64 o, .string s, .string t, .string u] 26) := ⟨_, rfl⟩
    have hb : Below w1.heap.size w1 X0 := by rw [hX0]; exact (Below.refl _ _).alloc (Nat.le_refl _) _
    replace BB := tbt BB hb
    have KD : Hid (X0.heap[w1.heap.size]? = some (.cells #[.int .i64 o, .string s, .string t, .string u] 26 (0, 0))) := Lib.hid (by rw [hX0]; exact heap_new _ _)
    have LD : Hid (w1.heap.size < X0.heap.size) := Lib.hid (by rw [hX0]; simp)
    clear hb
    have hc := k1 X0
    have fD0 := tcr KD 0
    have fD1 := tcr KD 1
    have fD2 := tcr KD 2
    have fD3 := tcr KD 3
    rw [hX0] at hc fD0 fD1 fD2 fD3
    go_wp2_with (go_at_call 26; refine hc.mono ?_; rintro e w2 ⟨rfl, hb⟩; refine Hid.out ?_)
    refine Lib.hid ?_
    rw [← hX0] at hb 
    clear hX0
    replace KD := tkb hb LD KD
    replace LD := tlz LD hb.size
    replace BB := tbt BB hb
    clear hc hb fD0 fD1 fD2 fD3
    obtain ⟨X1, hX1⟩ : ∃ z, z = w2.alloc (.cells #[.int .i64 o, .string s, .string t, .string v] 26) := ⟨_, rfl⟩
    have hb : Below w2.heap.size w2 X1 := by rw [hX1]; exact (Below.refl _ _).alloc (Nat.le_refl _) _
    replace KD := tkb hb LD KD
    replace LD := tlz LD hb.size
    replace BB := tbt BB hb
    have KG : Hid (X1.heap[w2.heap.size]? = some (.cells #[.int .i64 o, .string s, .string t, .string v] 26 (0, 0))) := Lib.hid (by rw [hX1]; exact heap_new _ _)
    have LG : Hid (w2.heap.size < X1.heap.size) := Lib.hid (by rw [hX1]; simp)
    clear hb
    have hc := k2 X1
    have fD0 := tcr KD 0
    have fD1 := tcr KD 1
    have fD2 := tcr KD 2
    have fD3 := tcr KD 3
    rw [hX1] at hc fD0 fD1 fD2 fD3
    go_wp2_with (go_at_call 25; refine hc.mono ?_; rintro e w3 ⟨rfl, hb⟩; refine Hid.out ?_)
    refine Lib.hid ?_
    rw [← hX1] at hb 
    clear hX1
    replace KD := tkb hb LD KD
    replace LD := tlz LD hb.size
    replace KG := tkb hb LG KG
    replace LG := tlz LG hb.size
    replace BB := tbt BB hb
    clear hc hb fD0 fD1 fD2 fD3
    obtain ⟨X2, hX2⟩ : ∃ z, z = w3.alloc (.cells #[.int .i64 o, .string s, .string t, .string v] 26) := ⟨_, rfl⟩
    have hb : Below w3.heap.size w3 X2 := by rw [hX2]; exact (Below.refl _ _).alloc (Nat.le_refl _) _
    replace KD := tkb hb LD KD
    replace LD := tlz LD hb.size
    replace KG := tkb hb LG KG
    replace LG := tlz LG hb.size
    replace BB := tbt BB hb
    have KW : Hid (X2.heap[w3.heap.size]? = some (.cells #[.int .i64 o, .string s, .string t, .string v] 26 (0, 0))) := Lib.hid (by rw [hX2]; exact heap_new _ _)
    have LW : Hid (w3.heap.size < X2.heap.size) := Lib.hid (by rw [hX2]; simp)
    clear hb
    go_wp2_with fail
    rw [← hX2]
    clear hX2
    have FD : Hid (∀ w', Below X2.heap.size X2 w' → w'.cell? ⟨w1.heap.size, 0, none⟩ = some (.int .i64 o) ∧ w'.cell? ⟨w1.heap.size, 1, none⟩ = some (.string s) ∧ w'.cell? ⟨w1.heap.size, 2, none⟩ = some (.string t) ∧ w'.cell? ⟨w1.heap.size, 3, none⟩ = some (.string u)) := Lib.hid (fun w' h => by have K := tkb h LD KD; exact ⟨tcr K 0, tcr K 1, tcr K 2, tcr K 3⟩)
    have FW : Hid (∀ w', Below X2.heap.size X2 w' → w'.cell? ⟨w3.heap.size, 0, none⟩ = some (.int .i64 o) ∧ w'.cell? ⟨w3.heap.size, 1, none⟩ = some (.string s) ∧ w'.cell? ⟨w3.heap.size, 2, none⟩ = some (.string t) ∧ w'.cell? ⟨w3.heap.size, 3, none⟩ = some (.string v)) := Lib.hid (fun w' h => by have K := tkb h LW KW; exact ⟨tcr K 0, tcr K 1, tcr K 2, tcr K 3⟩)
    have FG : Hid (∀ w', Below X2.heap.size X2 w' → w'.cell? ⟨w2.heap.size, 0, none⟩ = some (.int .i64 o) ∧ w'.cell? ⟨w2.heap.size, 1, none⟩ = some (.string s) ∧ w'.cell? ⟨w2.heap.size, 2, none⟩ = some (.string t) ∧ w'.cell? ⟨w2.heap.size, 3, none⟩ = some (.string v)) := Lib.hid (fun w' h => by have K := tkb h LG KG; exact ⟨tcr K 0, tcr K 1, tcr K 2, tcr K 3⟩)
    refine wp_region_held_drew (S := (fun w' => Below X2.heap.size X2 w')) (by kernel_rfl) (Below.refl _ _).drew (fun hHeld => ?_)
    obtain ⟨zD, hzD⟩ : ∃ zz, zz = X2.drew := ⟨_, rfl⟩
    rw [← hzD] at hHeld ⊢
    clear hzD
    have BD := Lib.hid hHeld
    refine tk 0 (v := ?_) ?_ ?_; rotate_left
    · refine Or.inl ⟨by rfl, ?_⟩; intro w hSw; obtain ⟨hG0, hG1, hG2, hG3⟩ := FG.out w hSw; go_simp; first | done | with_reducible rfl
    refine tk 1 (v := ?_) ?_ ?_; rotate_left
    · refine Or.inl ⟨by rfl, ?_⟩; intro w hSw; obtain ⟨hW0, hW1, hW2, hW3⟩ := FW.out w hSw; go_simp; first | done | with_reducible rfl
    refine tk0 2 ?_
    refine tk0 3 ?_
    refine tk0 4 ?_
    refine tk0 5 ?_
    refine tk0 6 ?_
    refine tk0 7 ?_
    refine tk0 8 ?_
    refine tk 9 (v := ?_) ?_ ?_; rotate_left
    · refine Or.inl ⟨by rfl, ?_⟩; intro w hSw; obtain ⟨hD0, hD1, hD2, hD3⟩ := FD.out w hSw; go_simp; first | done | with_reducible rfl
    refine tk 11 (v := ?_) ?_ ?_; rotate_left
    · refine Or.inl ⟨by rfl, ?_⟩; intro w hSw; obtain ⟨hD0, hD1, hD2, hD3⟩ := FD.out w hSw; go_simp; first | done | with_reducible rfl
    refine rd1 10 (fun K hK => ?_)
    go_simp
    have hc := k3 zD
    go_at_call 22
    refine hc.mono ?_
    rintro e w4 ⟨rfl, hb⟩
    replace BD := tbt BD hb
    clear hc hb
    go_wp2_with fail
    refine hK.out _ _ BD.out (fun hHeld => ?_)
    clear hK K
    refine rd1 12 (fun K hK => ?_)
    go_simp
    have hc := k4 w4
    go_at_call 20
    refine hc.mono ?_
    rintro e w5 ⟨rfl, hb⟩
    replace BD := tbt BD hb
    clear hc hb
    go_wp2_with fail
    refine hK.out _ _ BD.out (fun hHeld => ?_)
    clear hK K
    refine tk0 13 ?_
    refine tk0 14 ?_
    refine wpAnyH_done (by kernel_rfl) ?_ _
    clear hHeld
    have hb := BD.out
    replace KD := tkb hb LD KD
    replace LD := tlz LD hb.size
    replace KG := tkb hb LG KG
    replace LG := tlz LG hb.size
    replace KW := tkb hb LW KW
    replace LW := tlz LW hb.size
    replace BB := tbt BB hb
    clear hb BD
    clear FD FG FW
    have hc := k5 w5
    have fD0 := tcr KD 0
    have fD1 := tcr KD 1
    have fD2 := tcr KD 2
    have fD3 := tcr KD 3
    have fG0 := tcr KG 0
    have fG1 := tcr KG 1
    have fG2 := tcr KG 2
    have fG3 := tcr KG 3
    go_wp2_with (go_at_call 33; refine hc.mono ?_; rintro e w6 ⟨v1, rfl, ht, hb⟩; refine Hid.out ?_)
    refine Lib.hid ?_
    replace KD := tkb hb LD KD
    replace LD := tlz LD hb.size
    replace KG := tkb hb LG KG
    replace LG := tlz LG hb.size
    replace KW := tkb hb LW KW
    replace LW := tlz LW hb.size
    replace BB := tbt BB hb
    clear hc hb fD0 fD1 fD2 fD3 fG0 fG1 fG2 fG3
    obtain ⟨gl, cl, rfl, hgl, hcl⟩ := texts_one ht
    clear ht
    go_wp2_with fail
    have FL : Hid (∀ w', Below w6.heap.size w6 w' → w'.cell? ⟨gl, 0, none⟩ = some (.string y)) := Lib.hid (fun w' h => by rw [h.cell (show gl < w6.heap.size from hgl)]; exact hcl)
    clear hgl hcl
    have FD : Hid (∀ w', Below w6.heap.size w6 w' → w'.cell? ⟨w1.heap.size, 0, none⟩ = some (.int .i64 o) ∧ w'.cell? ⟨w1.heap.size, 1, none⟩ = some (.string s) ∧ w'.cell? ⟨w1.heap.size, 2, none⟩ = some (.string t) ∧ w'.cell? ⟨w1.heap.size, 3, none⟩ = some (.string u)) := Lib.hid (fun w' h => by have K := tkb h LD KD; exact ⟨tcr K 0, tcr K 1, tcr K 2, tcr K 3⟩)
    have FG : Hid (∀ w', Below w6.heap.size w6 w' → w'.cell? ⟨w2.heap.size, 0, none⟩ = some (.int .i64 o) ∧ w'.cell? ⟨w2.heap.size, 1, none⟩ = some (.string s) ∧ w'.cell? ⟨w2.heap.size, 2, none⟩ = some (.string t) ∧ w'.cell? ⟨w2.heap.size, 3, none⟩ = some (.string v)) := Lib.hid (fun w' h => by have K := tkb h LG KG; exact ⟨tcr K 0, tcr K 1, tcr K 2, tcr K 3⟩)
    refine wp_region_held_drew (S := (fun w' => Below w6.heap.size w6 w')) (by kernel_rfl) (Below.refl _ _).drew (fun hHeld => ?_)
    obtain ⟨zE, hzE⟩ : ∃ zz, zz = w6.drew := ⟨_, rfl⟩
    rw [← hzE] at hHeld ⊢
    clear hzE
    have BD := Lib.hid hHeld
    refine tk 0 (v := ?_) ?_ ?_; rotate_left
    · refine Or.inl ⟨by rfl, ?_⟩; intro w hSw; obtain ⟨hG0, hG1, hG2, hG3⟩ := FG.out w hSw; go_simp; first | done | with_reducible rfl
    refine rd1 1 (fun K hK => ?_)
    go_simp
    have hc := k7 zE
    go_at_call 22
    refine hc.mono ?_
    rintro e w7 ⟨rfl, hb⟩
    replace BD := tbt BD hb
    clear hc hb
    go_wp2_with fail
    refine hK.out _ _ BD.out (fun hHeld => ?_)
    clear hK K
    refine tk0 2 ?_
    refine tk0 3 ?_
    refine tk 4 (v := ?_) ?_ ?_; rotate_left
    · refine Or.inl ⟨by rfl, ?_⟩; intro w hSw; obtain ⟨hG0, hG1, hG2, hG3⟩ := FG.out w hSw; go_simp; first | done | with_reducible rfl
    refine tk0 5 ?_
    refine tk 6 (v := ?_) ?_ ?_; rotate_left
    · refine Or.inl ⟨by rfl, ?_⟩; intro w hSw; obtain ⟨hD0, hD1, hD2, hD3⟩ := FD.out w hSw; go_simp; first | done | with_reducible rfl
    refine tk0 7 ?_
    refine tk0 8 ?_
    refine tk0 9 ?_
    refine tk0 10 ?_
    refine tk0 11 ?_
    refine tk0 12 ?_
    refine tk0 13 ?_
    refine tk0 14 ?_
    refine tk0 15 ?_
    refine tk0 16 ?_
    refine tk 17 (v := ?_) ?_ ?_; rotate_left
    · refine Or.inl ⟨by rfl, ?_⟩; intro w hSw; have fl := FL.out w hSw; go_simp; first | done | with_reducible rfl
    refine tk0 18 ?_
    refine tk0 19 ?_
    refine tk0 20 ?_
    refine tk0 21 ?_
    refine tk0 22 ?_
    refine tk0 23 ?_
    refine rd1 24 (fun K hK => ?_)
    go_simp
    have hc := k6 w7
    go_at_call 24
    refine hc.mono ?_
    rintro e w8 ⟨rfl, hb⟩
    replace BD := tbt BD hb
    clear hc hb
    go_wp2_with fail
    refine hK.out _ _ BD.out (fun hHeld => ?_)
    clear hK K
    refine tk0 25 ?_
    refine tk0 26 ?_
    refine tk0 27 ?_
    refine tk0 28 ?_
    refine tk0 29 ?_
    refine tk 30 (v := ?_) ?_ ?_; rotate_left
    · refine Or.inl ⟨by rfl, ?_⟩; intro w hSw; obtain ⟨hG0, hG1, hG2, hG3⟩ := FG.out w hSw; go_simp; first | done | with_reducible rfl
    refine tk0 31 ?_
    refine tk 32 (v := ?_) ?_ ?_; rotate_left
    · refine Or.inl ⟨by rfl, ?_⟩; intro w hSw; obtain ⟨hD0, hD1, hD2, hD3⟩ := FD.out w hSw; go_simp; first | done | with_reducible rfl
    refine tk0 33 ?_
    refine rd1 34 (fun K hK => ?_)
    go_simp
    have hc := k6 w8
    go_at_call 24
    refine hc.mono ?_
    rintro e w9 ⟨rfl, hb⟩
    replace BD := tbt BD hb
    clear hc hb
    go_wp2_with fail
    refine hK.out _ _ BD.out (fun hHeld => ?_)
    clear hK K
    refine tk0 35 ?_
    refine tk0 36 ?_
    refine tk0 37 ?_
    refine tk0 38 ?_
    refine wpAnyH_done (by kernel_rfl) ?_ _
    clear hHeld
    have hb := BD.out
    replace KD := tkb hb LD KD
    replace LD := tlz LD hb.size
    replace KG := tkb hb LG KG
    replace LG := tlz LG hb.size
    replace KW := tkb hb LW KW
    replace LW := tlz LW hb.size
    replace BB := tbt BB hb
    clear hb BD
    clear FD FG
    go_wp2_with fail
    go_ret
    exact ⟨rfl, BB.out⟩
  have hres : appS d y = (d, false) := app_no (by
    cases hq : dskOk d with
    | false => exact .inl rfl
    | true => exact .inr (.inr (Int.not_le.1 fun h => hin ⟨hq, h⟩)))
  rw [hres] at k1 k2
  clear hres hin hsm hodd
  obtain ⟨q, hq⟩ : ∃ q, q = dskOk d := ⟨_, rfl⟩
  rw [← hq] at k3 k4
  clear hq
  have hqq : (q != q) = false := by simp
  have hne := fun w => neq_dsk d d w
  rw [dskEq_refl] at hne
  unfold dskV at hne
  try dsimp only at hne
  have heq := fun w => eql_dsk d d w
  rw [dskEq_refl] at heq
  unfold dskV at heq
  try dsimp only at heq
  obtain ⟨o, s, t, u⟩ := d
  unfold dskV at *
  try dsimp only at *
  obtain ⟨X0, hX0⟩ : ∃ z, z = w1.alloc (.cells #[.int .i64 o, .string s, .string t, .string u] 26) := ⟨_, rfl⟩
  have hb : Below w1.heap.size w1 X0 := by rw [hX0]; exact (Below.refl _ _).alloc (Nat.le_refl _) _
  replace BB := tbt BB hb
  have KD : Hid (X0.heap[w1.heap.size]? = some (.cells #[.int .i64 o, .string s, .string t, .string u] 26 (0, 0))) := Lib.hid (by rw [hX0]; exact heap_new _ _)
  have LD : Hid (w1.heap.size < X0.heap.size) := Lib.hid (by rw [hX0]; simp)
  clear hb
  have hc := k1 X0
  have fD0 := tcr KD 0
  have fD1 := tcr KD 1
  have fD2 := tcr KD 2
  have fD3 := tcr KD 3
  rw [hX0] at hc fD0 fD1 fD2 fD3
  go_wp2_with (go_at_call 26; refine hc.mono ?_; rintro e w2 ⟨rfl, hb⟩; refine Hid.out ?_)
  refine Lib.hid ?_
  rw [← hX0] at hb 
  clear hX0
  replace KD := tkb hb LD KD
  replace LD := tlz LD hb.size
  replace BB := tbt BB hb
  clear hc hb fD0 fD1 fD2 fD3
  obtain ⟨X1, hX1⟩ : ∃ z, z = w2.alloc (.cells #[.int .i64 o, .string s, .string t, .string u] 26) := ⟨_, rfl⟩
  have hb : Below w2.heap.size w2 X1 := by rw [hX1]; exact (Below.refl _ _).alloc (Nat.le_refl _) _
  replace KD := tkb hb LD KD
  replace LD := tlz LD hb.size
  replace BB := tbt BB hb
  have KG : Hid (X1.heap[w2.heap.size]? = some (.cells #[.int .i64 o, .string s, .string t, .string u] 26 (0, 0))) := Lib.hid (by rw [hX1]; exact heap_new _ _)
  have LG : Hid (w2.heap.size < X1.heap.size) := Lib.hid (by rw [hX1]; simp)
  clear hb
  have hc := k2 X1
  have fD0 := tcr KD 0
  have fD1 := tcr KD 1
  have fD2 := tcr KD 2
  have fD3 := tcr KD 3
  rw [hX1] at hc fD0 fD1 fD2 fD3
  go_wp2_with (go_at_call 25; refine hc.mono ?_; rintro e w3 ⟨rfl, hb⟩; refine Hid.out ?_)
  refine Lib.hid ?_
  rw [← hX1] at hb 
  clear hX1
  replace KD := tkb hb LD KD
  replace LD := tlz LD hb.size
  replace KG := tkb hb LG KG
  replace LG := tlz LG hb.size
  replace BB := tbt BB hb
  clear hc hb fD0 fD1 fD2 fD3
  obtain ⟨X2, hX2⟩ : ∃ z, z = w3.alloc (.cells #[.int .i64 o, .string s, .string t, .string u] 26) := ⟨_, rfl⟩
  have hb : Below w3.heap.size w3 X2 := by rw [hX2]; exact (Below.refl _ _).alloc (Nat.le_refl _) _
  replace KD := tkb hb LD KD
  replace LD := tlz LD hb.size
  replace KG := tkb hb LG KG
  replace LG := tlz LG hb.size
  replace BB := tbt BB hb
  have KW : Hid (X2.heap[w3.heap.size]? = some (.cells #[.int .i64 o, .string s, .string t, .string u] 26 (0, 0))) := Lib.hid (by rw [hX2]; exact heap_new _ _)
  have LW : Hid (w3.heap.size < X2.heap.size) := Lib.hid (by rw [hX2]; simp)
  clear hb
  go_wp2_with fail
  rw [← hX2]
  clear hX2
  have FD : Hid (∀ w', Below X2.heap.size X2 w' → w'.cell? ⟨w1.heap.size, 0, none⟩ = some (.int .i64 o) ∧ w'.cell? ⟨w1.heap.size, 1, none⟩ = some (.string s) ∧ w'.cell? ⟨w1.heap.size, 2, none⟩ = some (.string t) ∧ w'.cell? ⟨w1.heap.size, 3, none⟩ = some (.string u)) := Lib.hid (fun w' h => by have K := tkb h LD KD; exact ⟨tcr K 0, tcr K 1, tcr K 2, tcr K 3⟩)
  have FW : Hid (∀ w', Below X2.heap.size X2 w' → w'.cell? ⟨w3.heap.size, 0, none⟩ = some (.int .i64 o) ∧ w'.cell? ⟨w3.heap.size, 1, none⟩ = some (.string s) ∧ w'.cell? ⟨w3.heap.size, 2, none⟩ = some (.string t) ∧ w'.cell? ⟨w3.heap.size, 3, none⟩ = some (.string u)) := Lib.hid (fun w' h => by have K := tkb h LW KW; exact ⟨tcr K 0, tcr K 1, tcr K 2, tcr K 3⟩)
  have FG : Hid (∀ w', Below X2.heap.size X2 w' → w'.cell? ⟨w2.heap.size, 0, none⟩ = some (.int .i64 o) ∧ w'.cell? ⟨w2.heap.size, 1, none⟩ = some (.string s) ∧ w'.cell? ⟨w2.heap.size, 2, none⟩ = some (.string t) ∧ w'.cell? ⟨w2.heap.size, 3, none⟩ = some (.string u)) := Lib.hid (fun w' h => by have K := tkb h LG KG; exact ⟨tcr K 0, tcr K 1, tcr K 2, tcr K 3⟩)
  refine wp_region_held_drew (S := (fun w' => Below X2.heap.size X2 w')) (by kernel_rfl) (Below.refl _ _).drew (fun hHeld => ?_)
  obtain ⟨zD, hzD⟩ : ∃ zz, zz = X2.drew := ⟨_, rfl⟩
  rw [← hzD] at hHeld ⊢
  clear hzD
  have BD := Lib.hid hHeld
  refine tk 0 (v := ?_) ?_ ?_; rotate_left
  · refine Or.inl ⟨by rfl, ?_⟩; intro w hSw; obtain ⟨hG0, hG1, hG2, hG3⟩ := FG.out w hSw; go_simp; first | done | with_reducible rfl
  refine tk 1 (v := ?_) ?_ ?_; rotate_left
  · refine Or.inl ⟨by rfl, ?_⟩; intro w hSw; obtain ⟨hW0, hW1, hW2, hW3⟩ := FW.out w hSw; go_simp; first | done | with_reducible rfl
  refine tk0 2 ?_
  refine tk0 3 ?_
  refine tk0 4 ?_
  refine tk0 5 ?_
  refine tk0 6 ?_
  refine tk0 7 ?_
  refine tk0 8 ?_
  refine tk 9 (v := ?_) ?_ ?_; rotate_left
  · refine Or.inl ⟨by rfl, ?_⟩; intro w hSw; obtain ⟨hD0, hD1, hD2, hD3⟩ := FD.out w hSw; go_simp; first | done | with_reducible rfl
  refine tk 11 (v := ?_) ?_ ?_; rotate_left
  · refine Or.inl ⟨by rfl, ?_⟩; intro w hSw; obtain ⟨hD0, hD1, hD2, hD3⟩ := FD.out w hSw; go_simp; first | done | with_reducible rfl
  refine rd1 10 (fun K hK => ?_)
  go_simp
  have hc := k3 zD
  go_at_call 22
  refine hc.mono ?_
  rintro e w4 ⟨rfl, hb⟩
  replace BD := tbt BD hb
  clear hc hb
  go_wp2_with fail
  refine hK.out _ _ BD.out (fun hHeld => ?_)
  clear hK K
  refine rd1 12 (fun K hK => ?_)
  go_simp
  have hc := k4 w4
  go_at_call 20
  refine hc.mono ?_
  rintro e w5 ⟨rfl, hb⟩
  replace BD := tbt BD hb
  clear hc hb
  go_wp2_with fail
  refine hK.out _ _ BD.out (fun hHeld => ?_)
  clear hK K
  refine tk0 13 ?_
  refine tk0 14 ?_
  refine wpAnyH_done (by kernel_rfl) ?_ _
  clear hHeld
  have hb := BD.out
  replace KD := tkb hb LD KD
  replace LD := tlz LD hb.size
  replace KG := tkb hb LG KG
  replace LG := tlz LG hb.size
  replace KW := tkb hb LW KW
  replace LW := tlz LW hb.size
  replace BB := tbt BB hb
  clear hb BD
  clear FD FG FW
  have fG0 := tcr KG 0
  have fG1 := tcr KG 1
  have fG2 := tcr KG 2
  have fG3 := tcr KG 3
  have fD0 := tcr KD 0
  have fD1 := tcr KD 1
  have fD2 := tcr KD 2
  have fD3 := tcr KD 3
  go_wp2_with fail
  go_ret
  exact ⟨rfl, BB.out⟩
end Go.Proofs.Ytkkmjlpeahkiaaa
