/- The law FnSync: what was synced is there behind a crash. Condition: none. -/
import Derived.Test.YtkkmjlpeahkiaaaDrawD9b
import Derived.Test.YtkkmjlpeahkiaaaImplDsk
import Derived.Test.YtkkmjlpeahkiaaaAtD
import Derived.Test.YtkkmjlpeahkiaaaBig
import Derived.Test.YtkkmjlpeahkiaaaTk
import Derived.Deep.CutBlock
import Derived.Deep.DeepCutAuto
namespace Go.Proofs.Ytkkmjlpeahkiaaa
open Go.RowKit
set_option linter.unusedVariables false
set_option linter.unusedSimpArgs false

theorem keep_le9 (n : Nat) (k : Int) : keepN n k ≤ n := by
  unfold keepN
  split
  · exact Nat.zero_le _
  · split <;> omega
theorem app_keeps (d : Dsk) (x : ByteArray) : (appS d x).1.rm = d.rm ∧ (appS d x).1.sn = d.sn ∧ (appS d x).1.kp = d.kp := by
  unfold appS
  split <;> exact ⟨rfl, rfl, rfl⟩
theorem ext_app (v x : ByteArray) : (v ++ x).extract 0 v.size = v := by
  apply ByteArray.ext
  apply Array.toList_inj.mp
  rw [ByteArray.data_extract, ByteArray.data_append, Array.toList_extract, Array.toList_append, List.extract_eq_take_drop, List.drop_zero, Nat.sub_zero]
  rw [List.take_append_of_le_length (by simp), List.take_of_length_le (by simp)]
set_option maxRecDepth 100000 in
set_option maxHeartbeats 8000000 in
theorem law_sync (a : Option Addr) (len cap : Nat) (zs : List Int) (w : World) (hr : IsRow .u8 w a len cap zs) :
    Calls Try.prog 12 #[.slice a len cap] w fun e w' => e = .returned (.bool true) ∧ Below w.heap.size w w' := by
  have hr := row8_of hr
  by_cases hbig : 1048576 < len
  · have hd : decide (1048576 < len) = true := by simpa using hbig
    go_enter Try.func12, Try.ntmps12
    go_wp2_with (go_at_call 41; refine (big_any _ _ _ _).mono ?_; rintro e w' ⟨rfl, rfl⟩)
    go_ret
    exact ⟨rfl, Below.refl _ _⟩
  have hd : decide (1048576 < len) = false := by simpa using hbig
  have hlen : len ≤ 1048576 := by omega
  have Hr8 := Lib.hid hr
  have BB : Hid (Below w.heap.size w w) := Lib.hid (Below.refl _ _)
  go_enter Try.func12, Try.ntmps12
  go_wp2_with (go_at_call 41; refine (big_any _ _ _ _).mono ?_; rintro e w' ⟨rfl, rfl⟩; refine Hid.out ?_)
  refine Lib.hid ?_
  clear hd hbig hr
  have hc := d9DrawSync a len cap zs w Hr8.out hlen
  go_wp2_with (go_at_call 43; refine hc.mono ?_; rintro e w1 ⟨d, rfl, hodd, hb⟩; refine Hid.out ?_)
  refine Lib.hid ?_
  replace BB := tbt BB hb
  clear hc hb 
  have hsm := odd_sm hodd
  have k1 := fun w => impl_sync d w hsm
  have k2 := fun w => spec_sync d w hsm
  have k3 := fun w => spec_diskOk d w hsm
  by_cases hok : dskOk d = true
  · have hok2 := sync_ok hok
    obtain ⟨x, hx8, KX⟩ := atD_the a len cap zs 0 (by omega) w Hr8.out hlen
    have KX := Lib.hid KX
    have hxt : (x : Int).tmod 20 = ((x % 20 : Nat) : Int) := by rw [Int.tmod_eq_emod_of_nonneg (by omega)]; rfl
    obtain ⟨m, hm⟩ : ∃ m, m = x % 20 := ⟨_, rfl⟩
    rw [← hm] at hxt
    have hm20 : m < 20 := by omega
    clear hm
    have hfk := app_keeps (syncS d) ⟨#[108, 97, 116, 101, 114]⟩
    obtain ⟨F, hF⟩ : ∃ F, F = (appS (syncS d) ⟨#[108, 97, 116, 101, 114]⟩).1 := ⟨_, rfl⟩
    have hFok : dskOk F = true := by rw [hF]; exact app_ok _ hok2
    have k4 := fun w => impl_append (syncS d) ⟨#[108, 97, 116, 101, 114]⟩ w (dsk_sm hok2) (by decide)
    rw [← hF] at k4 hfk
    obtain ⟨b, hbq⟩ : ∃ b, b = (appS (syncS d) ⟨#[108, 97, 116, 101, 114]⟩).2 := ⟨_, rfl⟩
    rw [← hbq] at k4
    clear hF hbq
    have k5 := fun w => impl_crash F (m : Int) w (dsk_sm hFok) (by omega)
    have k6 := fun w => impl_diskOk (syncS d) w (dsk_sm hok2)
    rw [hok2] at k6
    rw [hok] at k3
    have hres : syncS d = ⟨d.rm, d.sn, d.kp ++ d.ls, ⟨#[]⟩⟩ := by unfold syncS; rw [if_pos hok]
    obtain ⟨xx, hxx⟩ : ∃ z, z = F.ls.extract 0 (keepN F.ls.size (m : Int)) := ⟨_, rfl⟩
    have hcr : crashS F (m : Int) = ⟨F.rm, F.sn, F.kp ++ xx, ⟨#[]⟩⟩ := by unfold crashS; rw [if_pos hFok, hxx]
    have hxz : xx.size ≤ 4194304 := by have h := (dsk_sm hFok).2.2.2; rw [hxx, ByteArray.size_extract]; have := keep_le9 F.ls.size (m : Int); omega
    clear hxx
    rw [hcr] at k5
    rw [hres] at k1 k2 k4 k6 hfk
    have h1 := hsm.2.2.1
    have h2 := hsm.2.2.2
    clear hcr hres hok hok2 hFok hodd hsm
    obtain ⟨fo, fs_, ft, fu⟩ := F
    try dsimp only at hfk k4 k5
    obtain ⟨rfl, rfl, rfl⟩ := hfk
    have hne := fun w => neq_dsk ⟨d.rm, d.sn, d.kp ++ d.ls, ⟨#[]⟩⟩ ⟨d.rm, d.sn, d.kp ++ d.ls, ⟨#[]⟩⟩ w
    rw [dskEq_refl] at hne
    unfold dskV at hne
    try dsimp only at hne
    obtain ⟨o, s, t, u⟩ := d
    unfold dskV at *
    try dsimp only at *
    obtain ⟨v, hv⟩ : ∃ v, v = t ++ u := ⟨_, rfl⟩
    have hvz : v.size = t.size + u.size := by rw [hv, ByteArray.size_append]
    rw [← hv] at k1 k2 k4 k5 k6 hne
    have hvv : t ++ u = v := hv.symm
    have ns : ¬ 9223372036854775807 < t.size + u.size := by omega
    obtain ⟨g, hg⟩ : ∃ g, g = v ++ xx := ⟨_, rfl⟩
    have hgz : g.size = v.size + xx.size := by rw [hg, ByteArray.size_append]
    have hgv : g.extract 0 v.size = v := by rw [hg]; exact ext_app v xx
    rw [← hg] at k5
    have hd : decide ((v.size : Int) ≤ (g.size : Int)) = true := by simp; omega
    have hge : ¬ g.size < v.size := by omega
    have hle : v.size ≤ g.size := by omega
    have hd9 : decide (v.size ≤ g.size) = true := by simp; omega
    have hvz0 : ¬ 9223372036854775807 < v.size := by omega
    have Hgz := Lib.hid hgz
    have Hvz := Lib.hid hvz
    clear hg hv hgz hvz
    obtain ⟨X0, hX0⟩ : ∃ z, z = w1.alloc (.cells #[.int .i64 o, .string s, .string t, .string u] 26) := ⟨_, rfl⟩
    have hb : Below w1.heap.size w1 X0 := by rw [hX0]; exact (Below.refl _ _).alloc (Nat.le_refl _) _
    replace BB := tbt BB hb
    have KD : Hid (X0.heap[w1.heap.size]? = some (.cells #[.int .i64 o, .string s, .string t, .string u] 26 (0, 0))) := Lib.hid (by rw [hX0]; exact heap_new _ _)
    have LD : Hid (w1.heap.size < X0.heap.size) := Lib.hid (by rw [hX0]; simp)
    clear hb
    have hc := k1 X0
    have fD0 := tcr KD 0
    have fD1 := tcr KD 1
    have fD2 := tcr KD 2
    have fD3 := tcr KD 3
    rw [hX0] at hc fD0 fD1 fD2 fD3
    go_wp2_with (go_at_call 29; refine hc.mono ?_; rintro e w2 ⟨rfl, hb⟩; refine Hid.out ?_)
    refine Lib.hid ?_
    rw [← hX0] at hb 
    clear hX0
    replace KD := tkb hb LD KD
    replace LD := tlz LD hb.size
    replace BB := tbt BB hb
    clear hc hb fD0 fD1 fD2 fD3
    obtain ⟨X1, hX1⟩ : ∃ z, z = w2.alloc (.cells #[.int .i64 o, .string s, .string v, .string ⟨#[]⟩] 26) := ⟨_, rfl⟩
    have hb : Below w2.heap.size w2 X1 := by rw [hX1]; exact (Below.refl _ _).alloc (Nat.le_refl _) _
    replace KD := tkb hb LD KD
    replace LD := tlz LD hb.size
    replace BB := tbt BB hb
    have KG : Hid (X1.heap[w2.heap.size]? = some (.cells #[.int .i64 o, .string s, .string v, .string ⟨#[]⟩] 26 (0, 0))) := Lib.hid (by rw [hX1]; exact heap_new _ _)
    have LG : Hid (w2.heap.size < X1.heap.size) := Lib.hid (by rw [hX1]; simp)
    clear hb
    have fG0 := tcr KG 0
    have fG1 := tcr KG 1
    have fG2 := tcr KG 2
    have fG3 := tcr KG 3
    have fD0 := tcr KD 0
    have fD1 := tcr KD 1
    have fD2 := tcr KD 2
    have fD3 := tcr KD 3
    rw [hX1] at fG0 fG1 fG2 fG3 fD0 fD1 fD2 fD3
    go_wp2_with fail
    rw [← hX1]
    clear hX1
    clear fG0 fG1 fG2 fG3 fD0 fD1 fD2 fD3
    have FD : Hid (∀ w', Below X1.heap.size X1 w' → w'.cell? ⟨w1.heap.size, 0, none⟩ = some (.int .i64 o) ∧ w'.cell? ⟨w1.heap.size, 1, none⟩ = some (.string s) ∧ w'.cell? ⟨w1.heap.size, 2, none⟩ = some (.string t) ∧ w'.cell? ⟨w1.heap.size, 3, none⟩ = some (.string u)) := Lib.hid (fun w' h => by have K := tkb h LD KD; exact ⟨tcr K 0, tcr K 1, tcr K 2, tcr K 3⟩)
    have FG : Hid (∀ w', Below X1.heap.size X1 w' → w'.cell? ⟨w2.heap.size, 0, none⟩ = some (.int .i64 o) ∧ w'.cell? ⟨w2.heap.size, 1, none⟩ = some (.string s) ∧ w'.cell? ⟨w2.heap.size, 2, none⟩ = some (.string v) ∧ w'.cell? ⟨w2.heap.size, 3, none⟩ = some (.string ⟨#[]⟩)) := Lib.hid (fun w' h => by have K := tkb h LG KG; exact ⟨tcr K 0, tcr K 1, tcr K 2, tcr K 3⟩)
    refine wp_region_held_drew (S := (fun w' => Below X1.heap.size X1 w')) (by kernel_rfl) (Below.refl _ _).drew (fun hHeld => ?_)
    obtain ⟨zD, hzD⟩ : ∃ zz, zz = X1.drew := ⟨_, rfl⟩
    rw [← hzD] at hHeld ⊢
    clear hzD
    have BD := Lib.hid hHeld
    refine tk 0 (v := ?_) ?_ ?_; rotate_left
    · refine Or.inl ⟨by rfl, ?_⟩; intro w hSw; obtain ⟨hG0, hG1, hG2, hG3⟩ := FG.out w hSw; go_simp; first | done | with_reducible rfl
    refine tk 1 (v := ?_) ?_ ?_; rotate_left
    · refine Or.inl ⟨by rfl, ?_⟩; intro w hSw; obtain ⟨hD0, hD1, hD2, hD3⟩ := FD.out w hSw; go_simp; first | done | with_reducible rfl
    refine rd1 2 (fun K hK => ?_)
    go_simp
    have hc := k2 zD
    go_at_call 28
    refine hc.mono ?_
    rintro e w3 ⟨rfl, hb⟩
    replace BD := tbt BD hb
    clear hc hb
    go_wp2_with fail
    refine hK.out _ _ BD.out (fun hHeld => ?_)
    clear hK K
    refine tk0 3 ?_
    refine wpAnyH_done (by kernel_rfl) ?_ _
    clear hHeld
    have hb := BD.out
    replace KD := tkb hb LD KD
    replace LD := tlz LD hb.size
    replace KG := tkb hb LG KG
    replace LG := tlz LG hb.size
    replace BB := tbt BB hb
    clear hb BD
    clear FD FG
    have hc := k3 w3
    have fD0 := tcr KD 0
    have fD1 := tcr KD 1
    have fD2 := tcr KD 2
    have fD3 := tcr KD 3
    have fG0 := tcr KG 0
    have fG1 := tcr KG 1
    have fG2 := tcr KG 2
    have fG3 := tcr KG 3
    go_wp2_with (go_at_call 20; refine hc.mono ?_; rintro e w4 ⟨rfl, hb⟩; refine Hid.out ?_)
    refine Lib.hid ?_
    replace KD := tkb hb LD KD
    replace LD := tlz LD hb.size
    replace KG := tkb hb LG KG
    replace LG := tlz LG hb.size
    replace BB := tbt BB hb
    clear hc hb fD0 fD1 fD2 fD3 fG0 fG1 fG2 fG3
    have hc := k4 w4
    have fD0 := tcr KD 0
    have fD1 := tcr KD 1
    have fD2 := tcr KD 2
    have fD3 := tcr KD 3
    have fG0 := tcr KG 0
    have fG1 := tcr KG 1
    have fG2 := tcr KG 2
    have fG3 := tcr KG 3
    go_wp2_with (go_at_call 26; refine hc.mono ?_; rintro e w5 ⟨rfl, hb⟩; refine Hid.out ?_)
    refine Lib.hid ?_
    replace KD := tkb hb LD KD
    replace LD := tlz LD hb.size
    replace KG := tkb hb LG KG
    replace LG := tlz LG hb.size
    replace BB := tbt BB hb
    clear hc hb fD0 fD1 fD2 fD3 fG0 fG1 fG2 fG3
    obtain ⟨X2, hX2⟩ : ∃ z, z = w5.alloc (.cells #[.int .i64 o, .string s, .string v, .string fu] 26) := ⟨_, rfl⟩
    have hb : Below w5.heap.size w5 X2 := by rw [hX2]; exact (Below.refl _ _).alloc (Nat.le_refl _) _
    replace KD := tkb hb LD KD
    replace LD := tlz LD hb.size
    replace KG := tkb hb LG KG
    replace LG := tlz LG hb.size
    replace BB := tbt BB hb
    have KF : Hid (X2.heap[w5.heap.size]? = some (.cells #[.int .i64 o, .string s, .string v, .string fu] 26 (0, 0))) := Lib.hid (by rw [hX2]; exact heap_new _ _)
    have LF : Hid (w5.heap.size < X2.heap.size) := Lib.hid (by rw [hX2]; simp)
    clear hb
    go_wp2_with fail
    rw [← hX2]
    clear hX2
    go_cut [7] (fun mm wx => ∃ (mb : Nat), mm = .pointer (some ⟨mb, 0, none⟩) ∧ Hid (wx.heap[mb]? = some (.cells #[.int .i64 o, .string s, .string g, .string ⟨#[]⟩] 26 (0, 0))) ∧ Hid (Below X2.heap.size X2 wx) ∧ Hid (X2.heap.size ≤ mb ∧ mb < wx.heap.size))
    case first =>
      have FF : Hid (∀ w', Below X2.heap.size X2 w' → w'.cell? ⟨w5.heap.size, 0, none⟩ = some (.int .i64 o) ∧ w'.cell? ⟨w5.heap.size, 1, none⟩ = some (.string s) ∧ w'.cell? ⟨w5.heap.size, 2, none⟩ = some (.string v) ∧ w'.cell? ⟨w5.heap.size, 3, none⟩ = some (.string fu)) := Lib.hid (fun w' h => by have K := tkb h LF KF; exact ⟨tcr K 0, tcr K 1, tcr K 2, tcr K 3⟩)
      refine wp_region_held_drew (S := (fun w' => Below X2.heap.size X2 w')) (by kernel_rfl) (Below.refl _ _).drew (fun hHeld => ?_)
      obtain ⟨zD, hzD⟩ : ∃ zz, zz = X2.drew := ⟨_, rfl⟩
      rw [← hzD] at hHeld ⊢
      clear hzD
      have BD := Lib.hid hHeld
      refine tk 0 (v := ?_) ?_ ?_; rotate_left
      · refine Or.inl ⟨by rfl, ?_⟩; intro w hSw; obtain ⟨hF0, hF1, hF2, hF3⟩ := FF.out w hSw; go_simp; first | done | with_reducible rfl
      refine tk0 1 ?_
      refine rd2 2 5 (fun K hK => ?_) (fun K hK => ?_)
      · go_simp
        have hc := (KX.out zD (Hr8.out.later (BB.out.trans (BD.out.mono BB.out.size)))).mono (fun e w' (h : _ ∧ zD = w') => (⟨h.1, by rw [← h.2]; exact Below.refl _ _⟩ : e = .returned (.int .i64 x) ∧ Below zD.heap.size zD w'))
        go_at_call 44
        refine hc.mono ?_
        rintro e z21 ⟨rfl, hb⟩
        replace BD := tbt BD hb
        clear hc hb
        go_wp2_with fail
        refine hK.out _ _ BD.out (fun hHeld => ?_)
        clear hK K
        refine tk0 3 ?_
        refine rd2 4 5 (fun K hK => ?_) (fun K hK => ?_)
        · go_simp
          have hc := k5 z21
          go_at_call 31
          refine hc.mono ?_
          rintro e z22 ⟨rfl, hb⟩
          replace BD := tbt BD hb
          clear hc hb
          go_wp2_with fail
          refine hK.out _ _ BD.out (fun hHeld => ?_)
          clear hK K
          refine rd1 5 (fun K hK => ?_)
          go_simp
          obtain ⟨zV, hzV⟩ : ∃ z, z = z22.alloc (.cells #[.int .i64 0, .string ⟨#[]⟩, .string ⟨#[]⟩, .string ⟨#[]⟩] 26) := ⟨_, rfl⟩
          rw [← hzV]
          have bV : Below z22.heap.size z22 zV := by rw [hzV]; exact (Below.refl _ _).alloc (Nat.le_refl _) _
          have KM : Hid (zV.heap[z22.heap.size]? = some (.cells #[.int .i64 0, .string ⟨#[]⟩, .string ⟨#[]⟩, .string ⟨#[]⟩] 26 (0, 0))) := Lib.hid (by rw [hzV]; exact heap_new _ _)
          have LM : Hid (z22.heap.size < zV.heap.size) := Lib.hid (by rw [hzV]; simp)
          have AM : Hid (X2.heap.size ≤ z22.heap.size) := Lib.hid BD.out.size
          replace BD := tbt BD bV
          clear hzV bV
          go_wp2_with fail
          refine hK.out _ _ BD.out (fun hHeld => ?_)
          clear hK K
          refine rd1 6 (fun K hK => ?_)
          have f0 := tcr KM 0
          have f1 := tcr KM 1
          have f2 := tcr KM 2
          have f3 := tcr KM 3
          have z0 := tfr KM 0
          have z1 := tfr KM 1
          have z2 := tfr KM 2
          have z3 := tfr KM 3
          go_simp
          obtain ⟨Y, hY⟩ : ∃ Y, Y = (((zV.setCell ⟨z22.heap.size, 0, none⟩ (.int .i64 o)).setCell ⟨z22.heap.size, 1, none⟩ (.string s)).setCell ⟨z22.heap.size, 2, none⟩ (.string g)).setCell ⟨z22.heap.size, 3, none⟩ (.string ⟨#[]⟩) := ⟨_, rfl⟩
          rw [← hY]
          have QR1 : Hid (Y.heap[z22.heap.size]? = some (.cells #[.int .i64 o, .string s, .string g, .string ⟨#[]⟩] 26 (0, 0))) := Lib.hid (by rw [hY]; exact storeD KM.out)
          have BY : Below X2.heap.size X2 Y := by rw [hY]; exact belowD BD.out AM.out
          have LY : Hid (X2.heap.size ≤ z22.heap.size ∧ z22.heap.size < Y.heap.size) := Lib.hid ⟨AM.out, (Array.getElem?_eq_some_iff.1 QR1.out).1⟩
          refine hK.out _ _ BY (fun hHeld => ?_)
          clear hK K f0 f1 f2 f3 z0 z1 z2 z3 hY
          refine wpAnyH_done (by kernel_rfl) ?_ _
          clear hHeld
          go_wp2_with fail
          go_meet
          exact ⟨z22.heap.size, rfl, QR1, Lib.hid BY, LY⟩
        · go_simp
          obtain ⟨zV, hzV⟩ : ∃ z, z = z21.alloc (.cells #[.int .i64 0, .string ⟨#[]⟩, .string ⟨#[]⟩, .string ⟨#[]⟩] 26) := ⟨_, rfl⟩
          rw [← hzV]
          have bV : Below z21.heap.size z21 zV := by rw [hzV]; exact (Below.refl _ _).alloc (Nat.le_refl _) _
          have KM : Hid (zV.heap[z21.heap.size]? = some (.cells #[.int .i64 0, .string ⟨#[]⟩, .string ⟨#[]⟩, .string ⟨#[]⟩] 26 (0, 0))) := Lib.hid (by rw [hzV]; exact heap_new _ _)
          have LM : Hid (z21.heap.size < zV.heap.size) := Lib.hid (by rw [hzV]; simp)
          have AM : Hid (X2.heap.size ≤ z21.heap.size) := Lib.hid BD.out.size
          replace BD := tbt BD bV
          clear hzV bV
          go_wp2_with fail
          refine hK.out _ _ BD.out (fun hHeld => ?_)
          clear hK K
          refine rd1 4 (fun K hK => ?_)
          go_simp
          have hc := k5 zV
          go_at_call 31
          refine hc.mono ?_
          rintro e z22 ⟨rfl, hb⟩
          replace KM := tkb hb LM KM
          replace LM := tlz LM hb.size
          replace BD := tbt BD hb
          clear hc hb
          go_wp2_with fail
          refine hK.out _ _ BD.out (fun hHeld => ?_)
          clear hK K
          refine rd1 6 (fun K hK => ?_)
          have f0 := tcr KM 0
          have f1 := tcr KM 1
          have f2 := tcr KM 2
          have f3 := tcr KM 3
          have z0 := tfr KM 0
          have z1 := tfr KM 1
          have z2 := tfr KM 2
          have z3 := tfr KM 3
          go_simp
          obtain ⟨Y, hY⟩ : ∃ Y, Y = (((z22.setCell ⟨z21.heap.size, 0, none⟩ (.int .i64 o)).setCell ⟨z21.heap.size, 1, none⟩ (.string s)).setCell ⟨z21.heap.size, 2, none⟩ (.string g)).setCell ⟨z21.heap.size, 3, none⟩ (.string ⟨#[]⟩) := ⟨_, rfl⟩
          rw [← hY]
          have QR1 : Hid (Y.heap[z21.heap.size]? = some (.cells #[.int .i64 o, .string s, .string g, .string ⟨#[]⟩] 26 (0, 0))) := Lib.hid (by rw [hY]; exact storeD KM.out)
          have BY : Below X2.heap.size X2 Y := by rw [hY]; exact belowD BD.out AM.out
          have LY : Hid (X2.heap.size ≤ z21.heap.size ∧ z21.heap.size < Y.heap.size) := Lib.hid ⟨AM.out, (Array.getElem?_eq_some_iff.1 QR1.out).1⟩
          refine hK.out _ _ BY (fun hHeld => ?_)
          clear hK K f0 f1 f2 f3 z0 z1 z2 z3 hY
          refine wpAnyH_done (by kernel_rfl) ?_ _
          clear hHeld
          go_wp2_with fail
          go_meet
          exact ⟨z21.heap.size, rfl, QR1, Lib.hid BY, LY⟩
      · go_simp
        obtain ⟨zV, hzV⟩ : ∃ z, z = zD.alloc (.cells #[.int .i64 0, .string ⟨#[]⟩, .string ⟨#[]⟩, .string ⟨#[]⟩] 26) := ⟨_, rfl⟩
        rw [← hzV]
        have bV : Below zD.heap.size zD zV := by rw [hzV]; exact (Below.refl _ _).alloc (Nat.le_refl _) _
        have KM : Hid (zV.heap[zD.heap.size]? = some (.cells #[.int .i64 0, .string ⟨#[]⟩, .string ⟨#[]⟩, .string ⟨#[]⟩] 26 (0, 0))) := Lib.hid (by rw [hzV]; exact heap_new _ _)
        have LM : Hid (zD.heap.size < zV.heap.size) := Lib.hid (by rw [hzV]; simp)
        have AM : Hid (X2.heap.size ≤ zD.heap.size) := Lib.hid BD.out.size
        replace BD := tbt BD bV
        clear hzV bV
        go_wp2_with fail
        refine hK.out _ _ BD.out (fun hHeld => ?_)
        clear hK K
        refine rd1 2 (fun K hK => ?_)
        go_simp
        have hc := (KX.out zV (Hr8.out.later (BB.out.trans (BD.out.mono BB.out.size)))).mono (fun e w' (h : _ ∧ zV = w') => (⟨h.1, by rw [← h.2]; exact Below.refl _ _⟩ : e = .returned (.int .i64 x) ∧ Below zV.heap.size zV w'))
        go_at_call 44
        refine hc.mono ?_
        rintro e z21 ⟨rfl, hb⟩
        replace KM := tkb hb LM KM
        replace LM := tlz LM hb.size
        replace BD := tbt BD hb
        clear hc hb
        go_wp2_with fail
        refine hK.out _ _ BD.out (fun hHeld => ?_)
        clear hK K
        refine tk0 3 ?_
        refine rd1 4 (fun K hK => ?_)
        go_simp
        have hc := k5 z21
        go_at_call 31
        refine hc.mono ?_
        rintro e z22 ⟨rfl, hb⟩
        replace KM := tkb hb LM KM
        replace LM := tlz LM hb.size
        replace BD := tbt BD hb
        clear hc hb
        go_wp2_with fail
        refine hK.out _ _ BD.out (fun hHeld => ?_)
        clear hK K
        refine rd1 6 (fun K hK => ?_)
        have f0 := tcr KM 0
        have f1 := tcr KM 1
        have f2 := tcr KM 2
        have f3 := tcr KM 3
        have z0 := tfr KM 0
        have z1 := tfr KM 1
        have z2 := tfr KM 2
        have z3 := tfr KM 3
        go_simp
        obtain ⟨Y, hY⟩ : ∃ Y, Y = (((z22.setCell ⟨zD.heap.size, 0, none⟩ (.int .i64 o)).setCell ⟨zD.heap.size, 1, none⟩ (.string s)).setCell ⟨zD.heap.size, 2, none⟩ (.string g)).setCell ⟨zD.heap.size, 3, none⟩ (.string ⟨#[]⟩) := ⟨_, rfl⟩
        rw [← hY]
        have QR1 : Hid (Y.heap[zD.heap.size]? = some (.cells #[.int .i64 o, .string s, .string g, .string ⟨#[]⟩] 26 (0, 0))) := Lib.hid (by rw [hY]; exact storeD KM.out)
        have BY : Below X2.heap.size X2 Y := by rw [hY]; exact belowD BD.out AM.out
        have LY : Hid (X2.heap.size ≤ zD.heap.size ∧ zD.heap.size < Y.heap.size) := Lib.hid ⟨AM.out, (Array.getElem?_eq_some_iff.1 QR1.out).1⟩
        refine hK.out _ _ BY (fun hHeld => ?_)
        clear hK K f0 f1 f2 f3 z0 z1 z2 z3 hY
        refine wpAnyH_done (by kernel_rfl) ?_ _
        clear hHeld
        go_wp2_with fail
        go_meet
        exact ⟨zD.heap.size, rfl, QR1, Lib.hid BY, LY⟩
    case rest =>
      obtain ⟨mH, rfl, KH, bA, L0⟩ := hcut
      obtain ⟨w6, rfl⟩ : ∃ z, z = wc := ⟨_, rfl⟩
      have LH := Lib.hid L0.out.2
      have hb := bA.out
      clear L0 bA
      replace KD := tkb hb LD KD
      replace LD := tlz LD hb.size
      replace KG := tkb hb LG KG
      replace LG := tlz LG hb.size
      replace KF := tkb hb LF KF
      replace LF := tlz LF hb.size
      replace BB := tbt BB hb
      clear hb
      go_wp2_with fail
      have FD : Hid (∀ w', Below w6.heap.size w6 w' → w'.cell? ⟨w1.heap.size, 0, none⟩ = some (.int .i64 o) ∧ w'.cell? ⟨w1.heap.size, 1, none⟩ = some (.string s) ∧ w'.cell? ⟨w1.heap.size, 2, none⟩ = some (.string t) ∧ w'.cell? ⟨w1.heap.size, 3, none⟩ = some (.string u)) := Lib.hid (fun w' h => by have K := tkb h LD KD; exact ⟨tcr K 0, tcr K 1, tcr K 2, tcr K 3⟩)
      have FG : Hid (∀ w', Below w6.heap.size w6 w' → w'.cell? ⟨w2.heap.size, 0, none⟩ = some (.int .i64 o) ∧ w'.cell? ⟨w2.heap.size, 1, none⟩ = some (.string s) ∧ w'.cell? ⟨w2.heap.size, 2, none⟩ = some (.string v) ∧ w'.cell? ⟨w2.heap.size, 3, none⟩ = some (.string ⟨#[]⟩)) := Lib.hid (fun w' h => by have K := tkb h LG KG; exact ⟨tcr K 0, tcr K 1, tcr K 2, tcr K 3⟩)
      have FH : Hid (∀ w', Below w6.heap.size w6 w' → w'.cell? ⟨mH, 0, none⟩ = some (.int .i64 o) ∧ w'.cell? ⟨mH, 1, none⟩ = some (.string s) ∧ w'.cell? ⟨mH, 2, none⟩ = some (.string g) ∧ w'.cell? ⟨mH, 3, none⟩ = some (.string ⟨#[]⟩)) := Lib.hid (fun w' h => by have K := tkb h LH KH; exact ⟨tcr K 0, tcr K 1, tcr K 2, tcr K 3⟩)
      refine wp_region_held_drew (S := (fun w' => Below w6.heap.size w6 w')) (by kernel_rfl) (Below.refl _ _).drew (fun hHeld => ?_)
      obtain ⟨zE, hzE⟩ : ∃ zz, zz = w6.drew := ⟨_, rfl⟩
      rw [← hzE] at hHeld ⊢
      clear hzE
      have BD := Lib.hid hHeld
      refine tk 0 (v := ?_) ?_ ?_; rotate_left
      · refine Or.inl ⟨by rfl, ?_⟩; intro w hSw; obtain ⟨hG0, hG1, hG2, hG3⟩ := FG.out w hSw; go_simp; first | done | with_reducible rfl
      refine rd1 1 (fun K hK => ?_)
      go_simp
      have hc := k6 zE
      go_at_call 22
      refine hc.mono ?_
      rintro e w7 ⟨rfl, hb⟩
      replace BD := tbt BD hb
      clear hc hb
      go_wp2_with fail
      refine hK.out _ _ BD.out (fun hHeld => ?_)
      clear hK K
      refine tk0 2 ?_
      refine tk0 3 ?_
      refine tk 4 (v := ?_) ?_ ?_; rotate_left
      · refine Or.inl ⟨by rfl, ?_⟩; intro w hSw; obtain ⟨hG0, hG1, hG2, hG3⟩ := FG.out w hSw; go_simp; first | done | with_reducible rfl
      refine tk0 5 ?_
      refine tk0 6 ?_
      refine tk0 7 ?_
      refine tk0 8 ?_
      refine tk 9 (v := ?_) ?_ ?_; rotate_left
      · refine Or.inl ⟨by rfl, ?_⟩; intro w hSw; obtain ⟨hG0, hG1, hG2, hG3⟩ := FG.out w hSw; go_simp; first | done | with_reducible rfl
      refine tk0 10 ?_
      refine tk 11 (v := ?_) ?_ ?_; rotate_left
      · refine Or.inl ⟨by rfl, ?_⟩; intro w hSw; obtain ⟨hD0, hD1, hD2, hD3⟩ := FD.out w hSw; go_simp; first | done | with_reducible rfl
      refine tk0 12 ?_
      refine tk 13 (v := ?_) ?_ ?_; rotate_left
      · refine Or.inl ⟨by rfl, ?_⟩; intro w hSw; obtain ⟨hD0, hD1, hD2, hD3⟩ := FD.out w hSw; go_simp; first | done | with_reducible rfl
      refine tk0 14 ?_
      refine tk0 15 ?_
      refine tk0 16 ?_
      refine tk0 17 ?_
      refine tk0 18 ?_
      refine tk 19 (v := ?_) ?_ ?_; rotate_left
      · refine Or.inl ⟨by rfl, ?_⟩; intro w hSw; obtain ⟨hH0, hH1, hH2, hH3⟩ := FH.out w hSw; go_simp; first | done | with_reducible rfl
      refine tk0 20 ?_
      refine tk0 21 ?_
      refine tk 22 (v := ?_) ?_ ?_; rotate_left
      · refine Or.inl ⟨by rfl, ?_⟩; intro w hSw; obtain ⟨hG0, hG1, hG2, hG3⟩ := FG.out w hSw; go_simp; first | done | with_reducible rfl
      refine tk0 23 ?_
      refine tk0 24 ?_
      refine tk0 25 ?_
      refine tk0 26 ?_
      refine tk0 27 ?_
      refine tk 28 (v := ?_) ?_ ?_; rotate_left
      · refine Or.inl ⟨by rfl, ?_⟩; intro w hSw; obtain ⟨hH0, hH1, hH2, hH3⟩ := FH.out w hSw; go_simp; first | done | with_reducible rfl
      refine tk0 29 ?_
      refine tk 30 (v := ?_) ?_ ?_; rotate_left
      · refine Or.inl ⟨by rfl, ?_⟩; intro w hSw; obtain ⟨hG0, hG1, hG2, hG3⟩ := FG.out w hSw; go_simp; first | done | with_reducible rfl
      refine tk0 31 ?_
      refine tk0 32 ?_
      refine tk0 33 ?_
      refine tk 34 (v := ?_) ?_ ?_; rotate_left
      · refine Or.inl ⟨by rfl, ?_⟩; intro w hSw; obtain ⟨hG0, hG1, hG2, hG3⟩ := FG.out w hSw; go_simp; first | done | with_reducible rfl
      refine tk0 35 ?_
      refine tk0 36 ?_
      refine tk0 37 ?_
      refine tk0 38 ?_
      refine tk 39 (v := ?_) ?_ ?_; rotate_left
      · refine Or.inl ⟨by rfl, ?_⟩; intro w hSw; obtain ⟨hH0, hH1, hH2, hH3⟩ := FH.out w hSw; go_simp; first | done | with_reducible rfl
      refine tk0 40 ?_
      refine tk 41 (v := ?_) ?_ ?_; rotate_left
      · refine Or.inl ⟨by rfl, ?_⟩; intro w hSw; obtain ⟨hD0, hD1, hD2, hD3⟩ := FD.out w hSw; go_simp; first | done | with_reducible rfl
      refine tk0 42 ?_
      refine tk0 43 ?_
      refine tk0 44 ?_
      refine wpAnyH_done (by kernel_rfl) ?_ _
      clear hHeld
      have hb := BD.out
      replace KD := tkb hb LD KD
      replace LD := tlz LD hb.size
      replace KG := tkb hb LG KG
      replace LG := tlz LG hb.size
      replace KF := tkb hb LF KF
      replace LF := tlz LF hb.size
      replace KH := tkb hb LH KH
      replace LH := tlz LH hb.size
      replace BB := tbt BB hb
      clear hb BD
      clear FD FG FH
      go_wp2_with fail
      go_ret
      exact ⟨rfl, BB.out⟩
  have hok := Bool.eq_false_iff.2 hok
  have hres : syncS d = d := by unfold syncS; rw [if_neg (by rw [hok]; decide)]
  rw [hres] at k1 k2
  rw [hok] at k3
  clear hres hok hsm hodd
  have hne := fun w => neq_dsk d d w
  rw [dskEq_refl] at hne
  unfold dskV at hne
  try dsimp only at hne
  have heq := fun w => eql_dsk d d w
  rw [dskEq_refl] at heq
  unfold dskV at heq
  try dsimp only at heq
  obtain ⟨o, s, t, u⟩ := d
  unfold dskV at *
  try dsimp only at *
  obtain ⟨X0, hX0⟩ : ∃ z, z = w1.alloc (.cells #[.int .i64 o, .string s, .string t, .string u] 26) := ⟨_, rfl⟩
  have hb : Below w1.heap.size w1 X0 := by rw [hX0]; exact (Below.refl _ _).alloc (Nat.le_refl _) _
  replace BB := tbt BB hb
  have KD : Hid (X0.heap[w1.heap.size]? = some (.cells #[.int .i64 o, .string s, .string t, .string u] 26 (0, 0))) := Lib.hid (by rw [hX0]; exact heap_new _ _)
  have LD : Hid (w1.heap.size < X0.heap.size) := Lib.hid (by rw [hX0]; simp)
  clear hb
  have hc := k1 X0
  have fD0 := tcr KD 0
  have fD1 := tcr KD 1
  have fD2 := tcr KD 2
  have fD3 := tcr KD 3
  rw [hX0] at hc fD0 fD1 fD2 fD3
  go_wp2_with (go_at_call 29; refine hc.mono ?_; rintro e w2 ⟨rfl, hb⟩; refine Hid.out ?_)
  refine Lib.hid ?_
  rw [← hX0] at hb 
  clear hX0
  replace KD := tkb hb LD KD
  replace LD := tlz LD hb.size
  replace BB := tbt BB hb
  clear hc hb fD0 fD1 fD2 fD3
  obtain ⟨X1, hX1⟩ : ∃ z, z = w2.alloc (.cells #[.int .i64 o, .string s, .string t, .string u] 26) := ⟨_, rfl⟩
  have hb : Below w2.heap.size w2 X1 := by rw [hX1]; exact (Below.refl _ _).alloc (Nat.le_refl _) _
  replace KD := tkb hb LD KD
  replace LD := tlz LD hb.size
  replace BB := tbt BB hb
  have KG : Hid (X1.heap[w2.heap.size]? = some (.cells #[.int .i64 o, .string s, .string t, .string u] 26 (0, 0))) := Lib.hid (by rw [hX1]; exact heap_new _ _)
  have LG : Hid (w2.heap.size < X1.heap.size) := Lib.hid (by rw [hX1]; simp)
  clear hb
  have fG0 := tcr KG 0
  have fG1 := tcr KG 1
  have fG2 := tcr KG 2
  have fG3 := tcr KG 3
  have fD0 := tcr KD 0
  have fD1 := tcr KD 1
  have fD2 := tcr KD 2
  have fD3 := tcr KD 3
  rw [hX1] at fG0 fG1 fG2 fG3 fD0 fD1 fD2 fD3
  go_wp2_with fail
  rw [← hX1]
  clear hX1
  clear fG0 fG1 fG2 fG3 fD0 fD1 fD2 fD3
  have FD : Hid (∀ w', Below X1.heap.size X1 w' → w'.cell? ⟨w1.heap.size, 0, none⟩ = some (.int .i64 o) ∧ w'.cell? ⟨w1.heap.size, 1, none⟩ = some (.string s) ∧ w'.cell? ⟨w1.heap.size, 2, none⟩ = some (.string t) ∧ w'.cell? ⟨w1.heap.size, 3, none⟩ = some (.string u)) := Lib.hid (fun w' h => by have K := tkb h LD KD; exact ⟨tcr K 0, tcr K 1, tcr K 2, tcr K 3⟩)
  have FG : Hid (∀ w', Below X1.heap.size X1 w' → w'.cell? ⟨w2.heap.size, 0, none⟩ = some (.int .i64 o) ∧ w'.cell? ⟨w2.heap.size, 1, none⟩ = some (.string s) ∧ w'.cell? ⟨w2.heap.size, 2, none⟩ = some (.string t) ∧ w'.cell? ⟨w2.heap.size, 3, none⟩ = some (.string u)) := Lib.hid (fun w' h => by have K := tkb h LG KG; exact ⟨tcr K 0, tcr K 1, tcr K 2, tcr K 3⟩)
  refine wp_region_held_drew (S := (fun w' => Below X1.heap.size X1 w')) (by kernel_rfl) (Below.refl _ _).drew (fun hHeld => ?_)
  obtain ⟨zD, hzD⟩ : ∃ zz, zz = X1.drew := ⟨_, rfl⟩
  rw [← hzD] at hHeld ⊢
  clear hzD
  have BD := Lib.hid hHeld
  refine tk 0 (v := ?_) ?_ ?_; rotate_left
  · refine Or.inl ⟨by rfl, ?_⟩; intro w hSw; obtain ⟨hG0, hG1, hG2, hG3⟩ := FG.out w hSw; go_simp; first | done | with_reducible rfl
  refine tk 1 (v := ?_) ?_ ?_; rotate_left
  · refine Or.inl ⟨by rfl, ?_⟩; intro w hSw; obtain ⟨hD0, hD1, hD2, hD3⟩ := FD.out w hSw; go_simp; first | done | with_reducible rfl
  refine rd1 2 (fun K hK => ?_)
  go_simp
  have hc := k2 zD
  go_at_call 28
  refine hc.mono ?_
  rintro e w3 ⟨rfl, hb⟩
  replace BD := tbt BD hb
  clear hc hb
  go_wp2_with fail
  refine hK.out _ _ BD.out (fun hHeld => ?_)
  clear hK K
  refine tk0 3 ?_
  refine wpAnyH_done (by kernel_rfl) ?_ _
  clear hHeld
  have hb := BD.out
  replace KD := tkb hb LD KD
  replace LD := tlz LD hb.size
  replace KG := tkb hb LG KG
  replace LG := tlz LG hb.size
  replace BB := tbt BB hb
  clear hb BD
  clear FD FG
  have hc := k3 w3
  have fD0 := tcr KD 0
  have fD1 := tcr KD 1
  have fD2 := tcr KD 2
  have fD3 := tcr KD 3
  have fG0 := tcr KG 0
  have fG1 := tcr KG 1
  have fG2 := tcr KG 2
  have fG3 := tcr KG 3
  go_wp2_with (go_at_call 20; refine hc.mono ?_; rintro e w4 ⟨rfl, hb⟩; refine Hid.out ?_)
  refine Lib.hid ?_
  replace KD := tkb hb LD KD
  replace LD := tlz LD hb.size
  replace KG := tkb hb LG KG
  replace LG := tlz LG hb.size
  replace BB := tbt BB hb
  clear hc hb fD0 fD1 fD2 fD3 fG0 fG1 fG2 fG3
  have fD0 := tcr KD 0
  have fD1 := tcr KD 1
  have fD2 := tcr KD 2
  have fD3 := tcr KD 3
  have fG0 := tcr KG 0
  have fG1 := tcr KG 1
  have fG2 := tcr KG 2
  have fG3 := tcr KG 3
  go_wp2_with fail
  go_ret
  exact ⟨rfl, BB.out⟩
end Go.Proofs.Ytkkmjlpeahkiaaa
