/- The law FnCrash: of what was loose some first bytes are there behind a crash. Condition: none. -/
import Derived.Test.YtkkmjlpeahkiaaaDrawD9
import Derived.Test.YtkkmjlpeahkiaaaImplDsk
import Derived.Test.YtkkmjlpeahkiaaaDskKeep
import Derived.Test.YtkkmjlpeahkiaaaBig
import Derived.Test.YtkkmjlpeahkiaaaTk
namespace Go.Proofs.Ytkkmjlpeahkiaaa
open Go.RowKit
set_option linter.unusedVariables false
set_option linter.unusedSimpArgs false

set_option maxRecDepth 100000 in
set_option maxHeartbeats 8000000 in
theorem law_crash (a : Option Addr) (len cap : Nat) (zs : List Int) (w : World) (hr : IsRow .u8 w a len cap zs) :
    Calls Try.prog 13 #[.slice a len cap] w fun e w' => e = .returned (.bool true) ∧ Below w.heap.size w w' := by
  have hr := row8_of hr
  by_cases hbig : 1048576 < len
  · have hd : decide (1048576 < len) = true := by simpa using hbig
    go_enter Try.func13, Try.ntmps13
    go_wp2_with (go_at_call 41; refine (big_any _ _ _ _).mono ?_; rintro e w' ⟨rfl, rfl⟩)
    go_ret
    exact ⟨rfl, Below.refl _ _⟩
  have hd : decide (1048576 < len) = false := by simpa using hbig
  have hlen : len ≤ 1048576 := by omega
  have Hr8 := Lib.hid hr
  have BB : Hid (Below w.heap.size w w) := Lib.hid (Below.refl _ _)
  go_enter Try.func13, Try.ntmps13
  go_wp2_with (go_at_call 41; refine (big_any _ _ _ _).mono ?_; rintro e w' ⟨rfl, rfl⟩; refine Hid.out ?_)
  refine Lib.hid ?_
  clear hd hbig hr
  have hc := d9DrawCrash a len cap zs w Hr8.out hlen
  go_wp2_with (go_at_call 45; refine hc.mono ?_; rintro e w1 ⟨d, k, rfl, hodd, hk, hb⟩; refine Hid.out ?_)
  refine Lib.hid ?_
  replace BB := tbt BB hb
  clear hc hb 
  have hsm := odd_sm hodd
  have k1 := fun w => impl_crash d k w hsm (by omega)
  have k2 := fun w => spec_crash d k w hsm (by omega)
  have k3 := fun w => spec_diskOk d w hsm
  by_cases hok : dskOk d = true
  · have hok2 := crash_ok k hok
    have k4 := fun w => impl_diskOk (crashS d k) w (dsk_sm hok2)
    have k5 := fun w => impl_crash d (d.ls.size : Nat) w hsm (by have := hsm.2.2.2; omega)
    rw [sync_crash] at k5
    have k6 := fun w => impl_sync d w hsm
    rw [hok2] at k4
    rw [hok] at k3
    have hkn := keep_le d.ls.size k
    have hres : crashS d k = ⟨d.rm, d.sn, d.kp ++ d.ls.extract 0 (keepN d.ls.size k), ⟨#[]⟩⟩ := by unfold crashS; rw [if_pos hok]
    rw [hres] at k1 k2 k4
    obtain ⟨n, hn⟩ : ∃ n, n = keepN d.ls.size k := ⟨_, rfl⟩
    rw [← hn] at k1 k2 k4 hkn
    clear hn hres hok2 hok hodd
    have h1 := hsm.2.2.1
    have h2 := hsm.2.2.2
    clear hsm
    obtain ⟨q, hq⟩ : ∃ q, q = syncS d := ⟨_, rfl⟩
    rw [← hq] at k5 k6
    clear hq
    have heq := fun w => eql_dsk q q w
    rw [dskEq_refl] at heq
    unfold dskV at heq
    try dsimp only at heq
    obtain ⟨qo, qs, qt, qu⟩ := q
    try dsimp only at heq k5 k6
    obtain ⟨v, hv⟩ : ∃ v, v = d.kp ++ d.ls.extract 0 n := ⟨_, rfl⟩
    have hvz : v.size = d.kp.size + n := by rw [hv, ByteArray.size_append, ByteArray.size_extract]; omega
    rw [← hv] at k1 k2 k4
    have HV := Lib.hid hv
    clear hv
    have hne := fun w => neq_dsk ⟨d.rm, d.sn, v, ⟨#[]⟩⟩ ⟨d.rm, d.sn, v, ⟨#[]⟩⟩ w
    rw [dskEq_refl] at hne
    unfold dskV at hne
    try dsimp only at hne
    obtain ⟨o, s, t, u⟩ := d
    unfold dskV at *
    try dsimp only at *
    have hw : IntKind.i64.wrap ((v.size : Int) - (t.size : Int)) = (n : Int) := by rw [IntKind.wrap_i64]; omega
    have hd1 : decide ((0 : Int) ≤ (n : Int)) = true := by simp
    have hd2 : decide ((n : Int) ≤ (u.size : Int)) = true := by simp; omega
    have ns : ¬ 9223372036854775807 < t.size + (u.extract 0 n).size := by rw [ByteArray.size_extract]; omega
    have hvv : t ++ u.extract 0 n = v := HV.out.symm
    have hn0 : ¬ u.size < n := by omega
    have ns2 : ¬ 9223372036854775807 < t.size + n := by omega
    clear hvz
    obtain ⟨X0, hX0⟩ : ∃ z, z = w1.alloc (.cells #[.int .i64 o, .string s, .string t, .string u] 26) := ⟨_, rfl⟩
    have hb : Below w1.heap.size w1 X0 := by rw [hX0]; exact (Below.refl _ _).alloc (Nat.le_refl _) _
    replace BB := tbt BB hb
    have KD : Hid (X0.heap[w1.heap.size]? = some (.cells #[.int .i64 o, .string s, .string t, .string u] 26 (0, 0))) := Lib.hid (by rw [hX0]; exact heap_new _ _)
    have LD : Hid (w1.heap.size < X0.heap.size) := Lib.hid (by rw [hX0]; simp)
    clear hb
    have hc := k1 X0
    have fD0 := tcr KD 0
    have fD1 := tcr KD 1
    have fD2 := tcr KD 2
    have fD3 := tcr KD 3
    rw [hX0] at hc fD0 fD1 fD2 fD3
    go_wp2_with (go_at_call 31; refine hc.mono ?_; rintro e w2 ⟨rfl, hb⟩; refine Hid.out ?_)
    refine Lib.hid ?_
    rw [← hX0] at hb 
    clear hX0
    replace KD := tkb hb LD KD
    replace LD := tlz LD hb.size
    replace BB := tbt BB hb
    clear hc hb fD0 fD1 fD2 fD3
    obtain ⟨X1, hX1⟩ : ∃ z, z = w2.alloc (.cells #[.int .i64 o, .string s, .string v, .string ⟨#[]⟩] 26) := ⟨_, rfl⟩
    have hb : Below w2.heap.size w2 X1 := by rw [hX1]; exact (Below.refl _ _).alloc (Nat.le_refl _) _
    replace KD := tkb hb LD KD
    replace LD := tlz LD hb.size
    replace BB := tbt BB hb
    have KG : Hid (X1.heap[w2.heap.size]? = some (.cells #[.int .i64 o, .string s, .string v, .string ⟨#[]⟩] 26 (0, 0))) := Lib.hid (by rw [hX1]; exact heap_new _ _)
    have LG : Hid (w2.heap.size < X1.heap.size) := Lib.hid (by rw [hX1]; simp)
    clear hb
    have fG0 := tcr KG 0
    have fG1 := tcr KG 1
    have fG2 := tcr KG 2
    have fG3 := tcr KG 3
    have fD0 := tcr KD 0
    have fD1 := tcr KD 1
    have fD2 := tcr KD 2
    have fD3 := tcr KD 3
    rw [hX1] at fG0 fG1 fG2 fG3 fD0 fD1 fD2 fD3
    go_wp2_with fail
    rw [← hX1]
    clear hX1
    clear fG0 fG1 fG2 fG3 fD0 fD1 fD2 fD3
    have FD : Hid (∀ w', Below X1.heap.size X1 w' → w'.cell? ⟨w1.heap.size, 0, none⟩ = some (.int .i64 o) ∧ w'.cell? ⟨w1.heap.size, 1, none⟩ = some (.string s) ∧ w'.cell? ⟨w1.heap.size, 2, none⟩ = some (.string t) ∧ w'.cell? ⟨w1.heap.size, 3, none⟩ = some (.string u)) := Lib.hid (fun w' h => by have K := tkb h LD KD; exact ⟨tcr K 0, tcr K 1, tcr K 2, tcr K 3⟩)
    have FG : Hid (∀ w', Below X1.heap.size X1 w' → w'.cell? ⟨w2.heap.size, 0, none⟩ = some (.int .i64 o) ∧ w'.cell? ⟨w2.heap.size, 1, none⟩ = some (.string s) ∧ w'.cell? ⟨w2.heap.size, 2, none⟩ = some (.string v) ∧ w'.cell? ⟨w2.heap.size, 3, none⟩ = some (.string ⟨#[]⟩)) := Lib.hid (fun w' h => by have K := tkb h LG KG; exact ⟨tcr K 0, tcr K 1, tcr K 2, tcr K 3⟩)
    refine wp_region_held_drew (S := (fun w' => Below X1.heap.size X1 w')) (by kernel_rfl) (Below.refl _ _).drew (fun hHeld => ?_)
    obtain ⟨zD, hzD⟩ : ∃ zz, zz = X1.drew := ⟨_, rfl⟩
    rw [← hzD] at hHeld ⊢
    clear hzD
    have BD := Lib.hid hHeld
    refine tk 0 (v := ?_) ?_ ?_; rotate_left
    · refine Or.inl ⟨by rfl, ?_⟩; intro w hSw; obtain ⟨hG0, hG1, hG2, hG3⟩ := FG.out w hSw; go_simp; first | done | with_reducible rfl
    refine tk 1 (v := ?_) ?_ ?_; rotate_left
    · refine Or.inl ⟨by rfl, ?_⟩; intro w hSw; obtain ⟨hD0, hD1, hD2, hD3⟩ := FD.out w hSw; go_simp; first | done | with_reducible rfl
    refine tk0 2 ?_
    refine rd1 3 (fun K hK => ?_)
    go_simp
    have hc := k2 zD
    go_at_call 30
    refine hc.mono ?_
    rintro e w3 ⟨rfl, hb⟩
    replace BD := tbt BD hb
    clear hc hb
    go_wp2_with fail
    refine hK.out _ _ BD.out (fun hHeld => ?_)
    clear hK K
    refine tk0 4 ?_
    refine wpAnyH_done (by kernel_rfl) ?_ _
    clear hHeld
    have hb := BD.out
    replace KD := tkb hb LD KD
    replace LD := tlz LD hb.size
    replace KG := tkb hb LG KG
    replace LG := tlz LG hb.size
    replace BB := tbt BB hb
    clear hb BD
    clear FD FG
    have hc := k3 w3
    have fD0 := tcr KD 0
    have fD1 := tcr KD 1
    have fD2 := tcr KD 2
    have fD3 := tcr KD 3
    have fG0 := tcr KG 0
    have fG1 := tcr KG 1
    have fG2 := tcr KG 2
    have fG3 := tcr KG 3
    go_wp2_with (go_at_call 20; refine hc.mono ?_; rintro e w4 ⟨rfl, hb⟩; refine Hid.out ?_)
    refine Lib.hid ?_
    replace KD := tkb hb LD KD
    replace LD := tlz LD hb.size
    replace KG := tkb hb LG KG
    replace LG := tlz LG hb.size
    replace BB := tbt BB hb
    clear hc hb fD0 fD1 fD2 fD3 fG0 fG1 fG2 fG3
    have fD0 := tcr KD 0
    have fD1 := tcr KD 1
    have fD2 := tcr KD 2
    have fD3 := tcr KD 3
    have fG0 := tcr KG 0
    have fG1 := tcr KG 1
    have fG2 := tcr KG 2
    have fG3 := tcr KG 3
    go_wp2_with fail
    clear fD0 fD1 fD2 fD3 fG0 fG1 fG2 fG3
    have FD : Hid (∀ w', Below w4.heap.size w4 w' → w'.cell? ⟨w1.heap.size, 0, none⟩ = some (.int .i64 o) ∧ w'.cell? ⟨w1.heap.size, 1, none⟩ = some (.string s) ∧ w'.cell? ⟨w1.heap.size, 2, none⟩ = some (.string t) ∧ w'.cell? ⟨w1.heap.size, 3, none⟩ = some (.string u)) := Lib.hid (fun w' h => by have K := tkb h LD KD; exact ⟨tcr K 0, tcr K 1, tcr K 2, tcr K 3⟩)
    have FG : Hid (∀ w', Below w4.heap.size w4 w' → w'.cell? ⟨w2.heap.size, 0, none⟩ = some (.int .i64 o) ∧ w'.cell? ⟨w2.heap.size, 1, none⟩ = some (.string s) ∧ w'.cell? ⟨w2.heap.size, 2, none⟩ = some (.string v) ∧ w'.cell? ⟨w2.heap.size, 3, none⟩ = some (.string ⟨#[]⟩)) := Lib.hid (fun w' h => by have K := tkb h LG KG; exact ⟨tcr K 0, tcr K 1, tcr K 2, tcr K 3⟩)
    refine wp_region_held_drew (S := (fun w' => Below w4.heap.size w4 w')) (by kernel_rfl) (Below.refl _ _).drew (fun hHeld => ?_)
    obtain ⟨zE, hzE⟩ : ∃ zz, zz = w4.drew := ⟨_, rfl⟩
    rw [← hzE] at hHeld ⊢
    clear hzE
    have BD := Lib.hid hHeld
    refine tk 0 (v := ?_) ?_ ?_; rotate_left
    · refine Or.inl ⟨by rfl, ?_⟩; intro w hSw; obtain ⟨hG0, hG1, hG2, hG3⟩ := FG.out w hSw; go_simp; first | done | with_reducible rfl
    refine rd1 1 (fun K hK => ?_)
    go_simp
    have hc := k4 zE
    go_at_call 22
    refine hc.mono ?_
    rintro e w5 ⟨rfl, hb⟩
    replace BD := tbt BD hb
    clear hc hb
    go_wp2_with fail
    refine hK.out _ _ BD.out (fun hHeld => ?_)
    clear hK K
    refine tk0 2 ?_
    refine tk0 3 ?_
    refine tk 4 (v := ?_) ?_ ?_; rotate_left
    · refine Or.inl ⟨by rfl, ?_⟩; intro w hSw; obtain ⟨hG0, hG1, hG2, hG3⟩ := FG.out w hSw; go_simp; first | done | with_reducible rfl
    refine tk0 5 ?_
    refine tk0 6 ?_
    refine tk0 7 ?_
    refine tk0 8 ?_
    refine tk0 9 ?_
    refine tk0 10 ?_
    refine tk0 11 ?_
    refine tk0 12 ?_
    refine tk0 13 ?_
    refine tk 14 (v := ?_) ?_ ?_; rotate_left
    · refine Or.inl ⟨by rfl, ?_⟩; intro w hSw; obtain ⟨hD0, hD1, hD2, hD3⟩ := FD.out w hSw; go_simp; first | done | with_reducible rfl
    refine tk0 15 ?_
    refine tk0 16 ?_
    refine tk0 17 ?_
    refine tk0 18 ?_
    refine tk0 19 ?_
    refine tk 20 (v := ?_) ?_ ?_; rotate_left
    · refine Or.inl ⟨by rfl, ?_⟩; intro w hSw; obtain ⟨hG0, hG1, hG2, hG3⟩ := FG.out w hSw; go_simp; first | done | with_reducible rfl
    refine tk0 21 ?_
    refine tk 22 (v := ?_) ?_ ?_; rotate_left
    · refine Or.inl ⟨by rfl, ?_⟩; intro w hSw; obtain ⟨hD0, hD1, hD2, hD3⟩ := FD.out w hSw; go_simp; first | done | with_reducible rfl
    refine tk0 23 ?_
    refine tk 24 (v := ?_) ?_ ?_; rotate_left
    · refine Or.inl ⟨by rfl, ?_⟩; intro w hSw; obtain ⟨hD0, hD1, hD2, hD3⟩ := FD.out w hSw; go_simp; first | done | with_reducible rfl
    refine tk0 25 ?_
    refine tk0 26 ?_
    refine tk0 27 ?_
    refine tk0 28 ?_
    refine tk0 29 ?_
    refine tk0 30 ?_
    refine tk 31 (v := ?_) ?_ ?_; rotate_left
    · refine Or.inl ⟨by rfl, ?_⟩; intro w hSw; obtain ⟨hD0, hD1, hD2, hD3⟩ := FD.out w hSw; go_simp; first | done | with_reducible rfl
    refine tk0 32 ?_
    refine tk 33 (v := ?_) ?_ ?_; rotate_left
    · refine Or.inl ⟨by rfl, ?_⟩; intro w hSw; obtain ⟨hD0, hD1, hD2, hD3⟩ := FD.out w hSw; go_simp; first | done | with_reducible rfl
    refine tk0 34 ?_
    refine tk 36 (v := ?_) ?_ ?_; rotate_left
    · refine Or.inl ⟨by rfl, ?_⟩; intro w hSw; obtain ⟨hD0, hD1, hD2, hD3⟩ := FD.out w hSw; go_simp; first | done | with_reducible rfl
    refine rd1 35 (fun K hK => ?_)
    go_simp
    have hc := k5 w5
    go_at_call 31
    refine hc.mono ?_
    rintro e w6 ⟨rfl, hb⟩
    replace BD := tbt BD hb
    clear hc hb
    go_wp2_with fail
    refine hK.out _ _ BD.out (fun hHeld => ?_)
    clear hK K
    refine rd1 37 (fun K hK => ?_)
    go_simp
    have hc := k6 w6
    go_at_call 29
    refine hc.mono ?_
    rintro e w7 ⟨rfl, hb⟩
    replace BD := tbt BD hb
    clear hc hb
    go_wp2_with fail
    refine hK.out _ _ BD.out (fun hHeld => ?_)
    clear hK K
    refine tk0 38 ?_
    refine tk0 39 ?_
    refine tk0 40 ?_
    refine wpAnyH_done (by kernel_rfl) ?_ _
    clear hHeld
    have hb := BD.out
    replace KD := tkb hb LD KD
    replace LD := tlz LD hb.size
    replace KG := tkb hb LG KG
    replace LG := tlz LG hb.size
    replace BB := tbt BB hb
    clear hb BD
    clear FD FG
    go_wp2_with fail
    go_ret
    exact ⟨rfl, BB.out⟩
  have hok := Bool.eq_false_iff.2 hok
  have hres : crashS d k = d := by unfold crashS; rw [if_neg (by rw [hok]; decide)]
  rw [hres] at k1 k2
  rw [hok] at k3
  clear hres hok hsm hodd
  have hne := fun w => neq_dsk d d w
  rw [dskEq_refl] at hne
  unfold dskV at hne
  try dsimp only at hne
  have heq := fun w => eql_dsk d d w
  rw [dskEq_refl] at heq
  unfold dskV at heq
  try dsimp only at heq
  obtain ⟨o, s, t, u⟩ := d
  unfold dskV at *
  try dsimp only at *
  obtain ⟨X0, hX0⟩ : ∃ z, z = w1.alloc (.cells #[.int .i64 o, .string s, .string t, .string u] 26) := ⟨_, rfl⟩
  have hb : Below w1.heap.size w1 X0 := by rw [hX0]; exact (Below.refl _ _).alloc (Nat.le_refl _) _
  replace BB := tbt BB hb
  have KD : Hid (X0.heap[w1.heap.size]? = some (.cells #[.int .i64 o, .string s, .string t, .string u] 26 (0, 0))) := Lib.hid (by rw [hX0]; exact heap_new _ _)
  have LD : Hid (w1.heap.size < X0.heap.size) := Lib.hid (by rw [hX0]; simp)
  clear hb
  have hc := k1 X0
  have fD0 := tcr KD 0
  have fD1 := tcr KD 1
  have fD2 := tcr KD 2
  have fD3 := tcr KD 3
  rw [hX0] at hc fD0 fD1 fD2 fD3
  go_wp2_with (go_at_call 31; refine hc.mono ?_; rintro e w2 ⟨rfl, hb⟩; refine Hid.out ?_)
  refine Lib.hid ?_
  rw [← hX0] at hb 
  clear hX0
  replace KD := tkb hb LD KD
  replace LD := tlz LD hb.size
  replace BB := tbt BB hb
  clear hc hb fD0 fD1 fD2 fD3
  obtain ⟨X1, hX1⟩ : ∃ z, z = w2.alloc (.cells #[.int .i64 o, .string s, .string t, .string u] 26) := ⟨_, rfl⟩
  have hb : Below w2.heap.size w2 X1 := by rw [hX1]; exact (Below.refl _ _).alloc (Nat.le_refl _) _
  replace KD := tkb hb LD KD
  replace LD := tlz LD hb.size
  replace BB := tbt BB hb
  have KG : Hid (X1.heap[w2.heap.size]? = some (.cells #[.int .i64 o, .string s, .string t, .string u] 26 (0, 0))) := Lib.hid (by rw [hX1]; exact heap_new _ _)
  have LG : Hid (w2.heap.size < X1.heap.size) := Lib.hid (by rw [hX1]; simp)
  clear hb
  have fG0 := tcr KG 0
  have fG1 := tcr KG 1
  have fG2 := tcr KG 2
  have fG3 := tcr KG 3
  have fD0 := tcr KD 0
  have fD1 := tcr KD 1
  have fD2 := tcr KD 2
  have fD3 := tcr KD 3
  rw [hX1] at fG0 fG1 fG2 fG3 fD0 fD1 fD2 fD3
  go_wp2_with fail
  rw [← hX1]
  clear hX1
  clear fG0 fG1 fG2 fG3 fD0 fD1 fD2 fD3
  have FD : Hid (∀ w', Below X1.heap.size X1 w' → w'.cell? ⟨w1.heap.size, 0, none⟩ = some (.int .i64 o) ∧ w'.cell? ⟨w1.heap.size, 1, none⟩ = some (.string s) ∧ w'.cell? ⟨w1.heap.size, 2, none⟩ = some (.string t) ∧ w'.cell? ⟨w1.heap.size, 3, none⟩ = some (.string u)) := Lib.hid (fun w' h => by have K := tkb h LD KD; exact ⟨tcr K 0, tcr K 1, tcr K 2, tcr K 3⟩)
  have FG : Hid (∀ w', Below X1.heap.size X1 w' → w'.cell? ⟨w2.heap.size, 0, none⟩ = some (.int .i64 o) ∧ w'.cell? ⟨w2.heap.size, 1, none⟩ = some (.string s) ∧ w'.cell? ⟨w2.heap.size, 2, none⟩ = some (.string t) ∧ w'.cell? ⟨w2.heap.size, 3, none⟩ = some (.string u)) := Lib.hid (fun w' h => by have K := tkb h LG KG; exact ⟨tcr K 0, tcr K 1, tcr K 2, tcr K 3⟩)
  refine wp_region_held_drew (S := (fun w' => Below X1.heap.size X1 w')) (by kernel_rfl) (Below.refl _ _).drew (fun hHeld => ?_)
  obtain ⟨zD, hzD⟩ : ∃ zz, zz = X1.drew := ⟨_, rfl⟩
  rw [← hzD] at hHeld ⊢
  clear hzD
  have BD := Lib.hid hHeld
  refine tk 0 (v := ?_) ?_ ?_; rotate_left
  · refine Or.inl ⟨by rfl, ?_⟩; intro w hSw; obtain ⟨hG0, hG1, hG2, hG3⟩ := FG.out w hSw; go_simp; first | done | with_reducible rfl
  refine tk 1 (v := ?_) ?_ ?_; rotate_left
  · refine Or.inl ⟨by rfl, ?_⟩; intro w hSw; obtain ⟨hD0, hD1, hD2, hD3⟩ := FD.out w hSw; go_simp; first | done | with_reducible rfl
  refine tk0 2 ?_
  refine rd1 3 (fun K hK => ?_)
  go_simp
  have hc := k2 zD
  go_at_call 30
  refine hc.mono ?_
  rintro e w3 ⟨rfl, hb⟩
  replace BD := tbt BD hb
  clear hc hb
  go_wp2_with fail
  refine hK.out _ _ BD.out (fun hHeld => ?_)
  clear hK K
  refine tk0 4 ?_
  refine wpAnyH_done (by kernel_rfl) ?_ _
  clear hHeld
  have hb := BD.out
  replace KD := tkb hb LD KD
  replace LD := tlz LD hb.size
  replace KG := tkb hb LG KG
  replace LG := tlz LG hb.size
  replace BB := tbt BB hb
  clear hb BD
  clear FD FG
  have hc := k3 w3
  have fD0 := tcr KD 0
  have fD1 := tcr KD 1
  have fD2 := tcr KD 2
  have fD3 := tcr KD 3
  have fG0 := tcr KG 0
  have fG1 := tcr KG 1
  have fG2 := tcr KG 2
  have fG3 := tcr KG 3
  go_wp2_with (go_at_call 20; refine hc.mono ?_; rintro e w4 ⟨rfl, hb⟩; refine Hid.out ?_)
  refine Lib.hid ?_
  replace KD := tkb hb LD KD
  replace LD := tlz LD hb.size
  replace KG := tkb hb LG KG
  replace LG := tlz LG hb.size
  replace BB := tbt BB hb
  clear hc hb fD0 fD1 fD2 fD3 fG0 fG1 fG2 fG3
  have fD0 := tcr KD 0
  have fD1 := tcr KD 1
  have fD2 := tcr KD 2
  have fD3 := tcr KD 3
  have fG0 := tcr KG 0
  have fG1 := tcr KG 1
  have fG2 := tcr KG 2
  have fG3 := tcr KG 3
  go_wp2_with fail
  go_ret
  exact ⟨rfl, BB.out⟩
end Go.Proofs.Ytkkmjlpeahkiaaa
