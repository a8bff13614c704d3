/- The draw of a right Disk: l09Make. Condition: none. -/
import Derived.Test.YtkkmjlpeahkiaaaDkBox
import Derived.Test.YtkkmjlpeahkiaaaText
import Derived.Test.YtkkmjlpeahkiaaaTk
import Derived.Deep.CutBlock
import Derived.Deep.DeepCutAuto
namespace Go.Proofs.Ytkkmjlpeahkiaaa
open Go.RowKit
set_option linter.unusedVariables false
set_option linter.unusedSimpArgs false

set_option maxRecDepth 100000 in
set_option maxHeartbeats 8000000 in
theorem make9_any (B blk : Nat) (w : World) (c : Cu TC w B blk) :
    Calls Try.prog 80 #[.pointer (some ⟨blk, 0, none⟩)] w (DrewDsk w B blk (fun d => dskOk d = true)) := by
  have LTB := c.lt
  obtain ⟨W, hW⟩ : ∃ z, z = w.alloc (.cells #[.int .i64 0, .string ⟨#[]⟩, .string ⟨#[]⟩, .string ⟨#[]⟩] 26) := ⟨_, rfl⟩
  have bW : Below w.heap.size w W := by rw [hW]; exact (Below.refl _ _).alloc (Nat.le_refl _) _
  have KR : Hid (W.heap[w.heap.size]? = some (.cells #[.int .i64 0, .string ⟨#[]⟩, .string ⟨#[]⟩, .string ⟨#[]⟩] 26 (0, 0))) := Lib.hid (by rw [hW]; exact heap_new _ _)
  have LR : Hid (w.heap.size < W.heap.size) := Lib.hid (by rw [hW]; simp)
  have cW := cu_below c bW
  have hc := pickI 0 4000 B blk 4 4 W #[.int .i64 4000, .int .i64 200, .int .i64 60, .int .i64 0] 3 cW rfl (by decide) (by decide) (by decide)
  obtain ⟨W2, hW2⟩ : ∃ z, z = W.alloc (.cells #[.int .i64 4000, .int .i64 200, .int .i64 60, .int .i64 0] 3) := ⟨_, rfl⟩
  have bW2 : Below w.heap.size w W2 := by rw [hW2]; exact bW.alloc bW.size _
  have KR2 : Hid (W2.heap[w.heap.size]? = some (.cells #[.int .i64 0, .string ⟨#[]⟩, .string ⟨#[]⟩, .string ⟨#[]⟩] 26 (0, 0))) := Lib.hid (by rw [hW2, Below.heap_alloc _ _ _ LR.out]; exact KR.out)
  have hW2s : W2.heap.size = W.heap.size + 1 := by rw [hW2]; simp
  have LR2 : Hid (w.heap.size < W2.heap.size) := Lib.hid (by have h1 := LR.out; omega)
  clear hW2s
  have hWs : W.heap.size = w.heap.size + 1 := by rw [hW]; simp
  rw [hWs] at hc
  clear KR LR cW bW hWs
  go_enter Try.func80, Try.ntmps80
  rw [hW] at hc
  go_wp2_with (go_at_call 69; refine hc.mono ?_; rintro e w1 ⟨x, hx, rfl, cu, gr⟩; refine Hid.out ?_)
  refine Lib.hid ?_
  rw [← hW, ← hW2] at gr
  clear hc
  obtain ⟨d0, hd0⟩ : ∃ d : Dsk, d = ⟨x, ⟨#[]⟩, ⟨#[]⟩, ⟨#[]⟩⟩ := ⟨_, rfl⟩
  have hok : Hid (dskOk d0 = true) := Lib.hid (by rw [hd0]; exact dsk_mk hx (by show ((0 + 0 + 0 : Nat) : Int) ≤ x; omega))
  obtain ⟨g, hg⟩ : ∃ g, g = w1.heap.size := ⟨_, rfl⟩
  obtain ⟨X, hX⟩ : ∃ z, z = w1.alloc (.cells #[.int .i64 x, .string ⟨#[]⟩, .string ⟨#[]⟩, .string ⟨#[]⟩] 26) := ⟨_, rfl⟩
  have H1 : Hid (DK w X B blk g d0) := Lib.hid (by
    have h1 := LR2.out
    have h2 := gr.size
    have bX : Below w1.heap.size w1 X := by rw [hX]; exact (Below.refl _ _).alloc (Nat.le_refl _) _
    exact ⟨cu_below cu bX, ((grown_any bW2 _).trans gr).trans (grown_any bX _), (bX.block _ (by omega)).trans ((gr.block _ h1 (by simp; omega)).trans KR2.out), by rw [hg, hX, hd0]; exact heap_new _ _, by omega, LTB⟩)
  clear bW2 KR2 LR2 cu gr hW hW2
  have hc := once_any 3 (by omega) B blk X H1.out.cu
  rw [hX] at hc
  go_wp2_with (go_at_call 72; refine hc.mono ?_; rintro e w2 ⟨b, rfl, cu, gr⟩; refine Hid.out ?_)
  refine Lib.hid ?_
  rw [← hX] at gr
  replace H1 := Lib.hid (H1.out.turn gr cu)
  clear hc gr cu hX
  go_upto_if 11 with fail
  rw [← hg]
  clear hg
  go_cut [] (fun wx => ∃ e : Dsk, Hid (dskOk e = true) ∧ Hid (DK w wx B blk g e))
  case first =>
    obtain ⟨o, s, t, u⟩ := d0
    clear hd0
    cases b
    · go_wp2_with fail
      go_meet
      exact ⟨_, hok, H1⟩
    · go_wp2_with fail
      refine wp_region_held_drew (S := (fun _ => True)) (by kernel_rfl) trivial (fun hHeld => ?_)
      obtain ⟨z0, hz0⟩ : ∃ zz, zz = w2.drew := ⟨_, rfl⟩
      rw [← hz0]
      have H1 := Lib.hid (H1.out.below (w2 := z0) (by rw [hz0]; exact (Below.refl _ _).drew))
      clear hz0
      refine tk0 1 ?_
      refine tk0 2 ?_
      refine rd2 0 3 (fun K hK => ?_) (fun K hK => ?_)
      · obtain ⟨f0, f1, f2, f3⟩ := H1.out.ft
        go_simp
        clear f0 f1 f2 f3
        refine hK.out _ _ trivial (fun hHeld => ?_)
        clear hK K
        refine rd1 3 (fun K hK => ?_)
        go_simp
        have hc := below_any 9 (by omega) B blk _ H1.out.cu
        go_at_call 68
        refine hc.mono ?_
        rintro e w3 ⟨y, ⟨hy0, hy1, _⟩, rfl, cu, gr⟩
        replace H1 := Lib.hid (H1.out.turn gr cu)
        have hy1 := hy1 (by omega)
        obtain ⟨y, rfl⟩ := Int.eq_ofNat_of_zero_le hy0
        clear hc gr cu
        go_wp2_with fail
        refine hK.out _ _ trivial (fun hHeld => ?_)
        clear hK K
        refine rd1 4 (fun K hK => ?_)
        go_simp
        have hc := text_any y (by omega) B blk _ H1.out.cu
        go_at_call 67
        refine hc.mono ?_
        rintro e w4 ⟨v, hv, rfl, cu, gr⟩
        replace H1 := Lib.hid (H1.out.turn gr cu)
        clear hc gr cu
        go_wp2_with fail
        refine hK.out _ _ trivial (fun hHeld => ?_)
        clear hK K
        try simp only [List.getElem_toArray, List.getElem_cons_zero, List.getElem_cons_succ, Act.put, List.setIfInBounds_toArray, List.set_cons_zero, List.set_cons_succ]
        have hsi := fun w => spec_install ⟨o, s, t, u⟩ v w (dsk_sm hok.out) (by omega)
        have hok2 : Hid (dskOk (insS ⟨o, s, t, u⟩ v).1 = true) := Lib.hid (ins_ok v hok.out)
        obtain ⟨⟨o2, s2, t2, u2⟩, hr⟩ : ∃ r, r = (insS ⟨o, s, t, u⟩ v).1 := ⟨_, rfl⟩
        obtain ⟨q, hq⟩ : ∃ q, q = (insS ⟨o, s, t, u⟩ v).2 := ⟨_, rfl⟩
        rw [← hr, ← hq] at hsi
        rw [← hr] at hok2
        clear hr hq
        unfold dskV at hsi
        dsimp only at hsi
        refine rd1 5 (fun K hK => ?_)
        go_simp
        have hc := hsi w4
        go_at_call 39
        refine hc.mono ?_
        rintro e w5 ⟨rfl, hb⟩
        replace H1 := Lib.hid (H1.out.below hb)
        clear hc hb
        go_wp2_with fail
        refine hK.out _ _ trivial (fun hHeld => ?_)
        clear hK K
        refine tk0 6 ?_
        refine tk0 7 ?_
        refine tk0 8 ?_
        refine rd1 9 (fun K hK => ?_)
        obtain ⟨f0, f1, f2, f3⟩ := H1.out.ft
        have z0 := H1.out.zt 0
        have z1 := H1.out.zt 1
        have z2 := H1.out.zt 2
        have z3 := H1.out.zt 3
        go_simp
        clear f0 f1 f2 f3 z0 z1 z2 z3
        have H2 := Lib.hid (H1.out.store ⟨o2, s2, t2, u2⟩)
        clear H1
        refine hK.out _ _ trivial (fun hHeld => ?_)
        clear hK K
        try simp only [List.getElem_toArray, List.getElem_cons_zero, List.getElem_cons_succ, Act.put, List.setIfInBounds_toArray, List.set_cons_zero, List.set_cons_succ]
        refine wpAnyH_done (by kernel_rfl) ?_ _
        clear hHeld
        go_wp2_with fail
        go_meet
        exact ⟨_, hok2, H2⟩
      · go_simp
        have hc := below_any 9 (by omega) B blk _ H1.out.cu
        go_at_call 68
        refine hc.mono ?_
        rintro e w3 ⟨y, ⟨hy0, hy1, _⟩, rfl, cu, gr⟩
        replace H1 := Lib.hid (H1.out.turn gr cu)
        have hy1 := hy1 (by omega)
        obtain ⟨y, rfl⟩ := Int.eq_ofNat_of_zero_le hy0
        clear hc gr cu
        go_wp2_with fail
        refine hK.out _ _ trivial (fun hHeld => ?_)
        clear hK K
        try simp only [List.getElem_toArray, List.getElem_cons_zero, List.getElem_cons_succ, Act.put, List.setIfInBounds_toArray, List.set_cons_zero, List.set_cons_succ]
        refine rd2 0 4 (fun K hK => ?_) (fun K hK => ?_)
        · obtain ⟨f0, f1, f2, f3⟩ := H1.out.ft
          go_simp
          clear f0 f1 f2 f3
          refine hK.out _ _ trivial (fun hHeld => ?_)
          clear hK K
          refine rd1 4 (fun K hK => ?_)
          go_simp
          have hc := text_any y (by omega) B blk _ H1.out.cu
          go_at_call 67
          refine hc.mono ?_
          rintro e w4 ⟨v, hv, rfl, cu, gr⟩
          replace H1 := Lib.hid (H1.out.turn gr cu)
          clear hc gr cu
          go_wp2_with fail
          refine hK.out _ _ trivial (fun hHeld => ?_)
          clear hK K
          try simp only [List.getElem_toArray, List.getElem_cons_zero, List.getElem_cons_succ, Act.put, List.setIfInBounds_toArray, List.set_cons_zero, List.set_cons_succ]
          have hsi := fun w => spec_install ⟨o, s, t, u⟩ v w (dsk_sm hok.out) (by omega)
          have hok2 : Hid (dskOk (insS ⟨o, s, t, u⟩ v).1 = true) := Lib.hid (ins_ok v hok.out)
          obtain ⟨⟨o2, s2, t2, u2⟩, hr⟩ : ∃ r, r = (insS ⟨o, s, t, u⟩ v).1 := ⟨_, rfl⟩
          obtain ⟨q, hq⟩ : ∃ q, q = (insS ⟨o, s, t, u⟩ v).2 := ⟨_, rfl⟩
          rw [← hr, ← hq] at hsi
          rw [← hr] at hok2
          clear hr hq
          unfold dskV at hsi
          dsimp only at hsi
          refine rd1 5 (fun K hK => ?_)
          go_simp
          have hc := hsi w4
          go_at_call 39
          refine hc.mono ?_
          rintro e w5 ⟨rfl, hb⟩
          replace H1 := Lib.hid (H1.out.below hb)
          clear hc hb
          go_wp2_with fail
          refine hK.out _ _ trivial (fun hHeld => ?_)
          clear hK K
          refine tk0 6 ?_
          refine tk0 7 ?_
          refine tk0 8 ?_
          refine rd1 9 (fun K hK => ?_)
          obtain ⟨f0, f1, f2, f3⟩ := H1.out.ft
          have z0 := H1.out.zt 0
          have z1 := H1.out.zt 1
          have z2 := H1.out.zt 2
          have z3 := H1.out.zt 3
          go_simp
          clear f0 f1 f2 f3 z0 z1 z2 z3
          have H2 := Lib.hid (H1.out.store ⟨o2, s2, t2, u2⟩)
          clear H1
          refine hK.out _ _ trivial (fun hHeld => ?_)
          clear hK K
          try simp only [List.getElem_toArray, List.getElem_cons_zero, List.getElem_cons_succ, Act.put, List.setIfInBounds_toArray, List.set_cons_zero, List.set_cons_succ]
          refine wpAnyH_done (by kernel_rfl) ?_ _
          clear hHeld
          go_wp2_with fail
          go_meet
          exact ⟨_, hok2, H2⟩
        · go_simp
          have hc := text_any y (by omega) B blk _ H1.out.cu
          go_at_call 67
          refine hc.mono ?_
          rintro e w4 ⟨v, hv, rfl, cu, gr⟩
          replace H1 := Lib.hid (H1.out.turn gr cu)
          clear hc gr cu
          go_wp2_with fail
          refine hK.out _ _ trivial (fun hHeld => ?_)
          clear hK K
          try simp only [List.getElem_toArray, List.getElem_cons_zero, List.getElem_cons_succ, Act.put, List.setIfInBounds_toArray, List.set_cons_zero, List.set_cons_succ]
          refine rd1 0 (fun K hK => ?_)
          obtain ⟨f0, f1, f2, f3⟩ := H1.out.ft
          go_simp
          clear f0 f1 f2 f3
          refine hK.out _ _ trivial (fun hHeld => ?_)
          clear hK K
          try simp only [List.getElem_toArray, List.getElem_cons_zero, List.getElem_cons_succ, Act.put, List.setIfInBounds_toArray, List.set_cons_zero, List.set_cons_succ]
          have hsi := fun w => spec_install ⟨o, s, t, u⟩ v w (dsk_sm hok.out) (by omega)
          have hok2 : Hid (dskOk (insS ⟨o, s, t, u⟩ v).1 = true) := Lib.hid (ins_ok v hok.out)
          obtain ⟨⟨o2, s2, t2, u2⟩, hr⟩ : ∃ r, r = (insS ⟨o, s, t, u⟩ v).1 := ⟨_, rfl⟩
          obtain ⟨q, hq⟩ : ∃ q, q = (insS ⟨o, s, t, u⟩ v).2 := ⟨_, rfl⟩
          rw [← hr, ← hq] at hsi
          rw [← hr] at hok2
          clear hr hq
          unfold dskV at hsi
          dsimp only at hsi
          refine rd1 5 (fun K hK => ?_)
          go_simp
          have hc := hsi w4
          go_at_call 39
          refine hc.mono ?_
          rintro e w5 ⟨rfl, hb⟩
          replace H1 := Lib.hid (H1.out.below hb)
          clear hc hb
          go_wp2_with fail
          refine hK.out _ _ trivial (fun hHeld => ?_)
          clear hK K
          refine tk0 6 ?_
          refine tk0 7 ?_
          refine tk0 8 ?_
          refine rd1 9 (fun K hK => ?_)
          obtain ⟨f0, f1, f2, f3⟩ := H1.out.ft
          have z0 := H1.out.zt 0
          have z1 := H1.out.zt 1
          have z2 := H1.out.zt 2
          have z3 := H1.out.zt 3
          go_simp
          clear f0 f1 f2 f3 z0 z1 z2 z3
          have H2 := Lib.hid (H1.out.store ⟨o2, s2, t2, u2⟩)
          clear H1
          refine hK.out _ _ trivial (fun hHeld => ?_)
          clear hK K
          try simp only [List.getElem_toArray, List.getElem_cons_zero, List.getElem_cons_succ, Act.put, List.setIfInBounds_toArray, List.set_cons_zero, List.set_cons_succ]
          refine wpAnyH_done (by kernel_rfl) ?_ _
          clear hHeld
          go_wp2_with fail
          go_meet
          exact ⟨_, hok2, H2⟩
  case rest =>
    obtain ⟨d1, hok1, H1⟩ := hcut
    clear hok hd0
    obtain ⟨z, rfl⟩ : ∃ z, z = wc := ⟨_, rfl⟩
    have hc := below_any 6 (by omega) B blk z H1.out.cu
    go_wp2_with (go_at_call 68; refine hc.mono ?_; rintro e w3 ⟨y, ⟨hy0, hy1, _⟩, rfl, cu, gr⟩; refine Hid.out ?_)
    refine Lib.hid ?_
    replace H1 := Lib.hid (H1.out.turn gr cu)
    have hy1 := hy1 (by omega)
    obtain ⟨n, rfl⟩ := Int.eq_ofNat_of_zero_le hy0
    clear hc gr cu hy0
    go_wp2_with fail
    go_loopw [5] (fun i wr => ∃ (k : Nat) (e : Dsk), k ≤ n ∧ i = .int .i64 k ∧ Hid (dskOk e = true) ∧ Hid (DK w wr B blk g e)) (fun i _ => n - (intOf i).toNat)
    case atStart => exact ⟨0, d1, Nat.zero_le _, rfl, hok1, H1⟩
    case round =>
      clear hok1 H1
      obtain ⟨k, d2, hk, rfl, hok, H1⟩ := hrel
      by_cases hlt : k < n
      · have hlt' : (k : Int) < (n : Int) := by omega
        obtain ⟨o, s, t, u⟩ := d2
        go_wp2_with fail
        go_cut [] from 23 to 47 (fun wx => ∃ e : Dsk, Hid (dskOk e = true) ∧ Hid (DK w wx B blk g e))
        case first =>
          refine wp_region_held_drew (S := (fun _ => True)) (by kernel_rfl) trivial (fun hHeld => ?_)
          obtain ⟨z0, hz0⟩ : ∃ zz, zz = wr.drew := ⟨_, rfl⟩
          rw [← hz0]
          have H1 := Lib.hid (H1.out.below (w2 := z0) (by rw [hz0]; exact (Below.refl _ _).drew))
          clear hz0
          refine tk0 1 ?_
          refine rd2 0 2 (fun K hK => ?_) (fun K hK => ?_)
          · obtain ⟨f0, f1, f2, f3⟩ := H1.out.ft
            go_simp
            clear f0 f1 f2 f3
            refine hK.out _ _ trivial (fun hHeld => ?_)
            clear hK K
            refine rd1 2 (fun K hK => ?_)
            go_simp
            obtain ⟨zA, hzA⟩ : ∃ zz, zz = z0.alloc (.cells #[.string ⟨#[]⟩, .string ⟨#[111, 110, 101]⟩, .string ⟨#[116, 119, 111, 32, 119, 111, 114, 100, 115]⟩, .string ⟨#[116, 104, 114, 101, 101]⟩] 9) := ⟨_, rfl⟩
            rw [← hzA]
            have H0 := H1
            replace H1 := Lib.hid (H1.out.below (w2 := zA) (by rw [hzA]; exact (Below.refl _ _).alloc (Nat.le_refl _) _))
            have HzA := Lib.hid hzA
            clear hzA
            refine hK.out _ _ trivial (fun hHeld => ?_)
            clear hK K
            refine rd1 3 (fun K hK => ?_)
            go_simp
            have hc := pick_lit 16 B blk 4 4 z0 #[.string ⟨#[]⟩, .string ⟨#[111, 110, 101]⟩, .string ⟨#[116, 119, 111, 32, 119, 111, 114, 100, 115]⟩, .string ⟨#[116, 104, 114, 101, 101]⟩] 9 H0.out.cu rfl (by decide) (by decide) (by decide)
            rw [← HzA.out] at hc
            go_at_call 70
            refine hc.mono ?_
            rintro e w4 ⟨v, hv, rfl, cu, gr⟩
            replace H1 := Lib.hid (H0.out.turn gr cu)
            clear hc gr cu
            go_wp2_with fail
            refine hK.out _ _ trivial (fun hHeld => ?_)
            clear hK K
            try simp only [List.getElem_toArray, List.getElem_cons_zero, List.getElem_cons_succ, Act.put, List.setIfInBounds_toArray, List.set_cons_zero, List.set_cons_succ]
            clear H0 HzA
            have hsi := fun w => spec_append ⟨o, s, t, u⟩ v w (dsk_sm hok.out) (by omega)
            have hok2 : Hid (dskOk (appS ⟨o, s, t, u⟩ v).1 = true) := Lib.hid (app_ok v hok.out)
            obtain ⟨⟨o2, s2, t2, u2⟩, hr⟩ : ∃ r, r = (appS ⟨o, s, t, u⟩ v).1 := ⟨_, rfl⟩
            obtain ⟨q, hq⟩ : ∃ q, q = (appS ⟨o, s, t, u⟩ v).2 := ⟨_, rfl⟩
            rw [← hr, ← hq] at hsi
            rw [← hr] at hok2
            clear hr hq
            unfold dskV at hsi
            dsimp only at hsi
            refine rd1 4 (fun K hK => ?_)
            go_simp
            have hc := hsi w4
            go_at_call 25
            refine hc.mono ?_
            rintro e w5 ⟨rfl, hb⟩
            replace H1 := Lib.hid (H1.out.below hb)
            clear hc hb
            go_wp2_with fail
            refine hK.out _ _ trivial (fun hHeld => ?_)
            clear hK K
            refine tk0 5 ?_
            refine tk0 6 ?_
            refine tk0 7 ?_
            refine rd1 8 (fun K hK => ?_)
            obtain ⟨f0, f1, f2, f3⟩ := H1.out.ft
            have z0 := H1.out.zt 0
            have z1 := H1.out.zt 1
            have z2 := H1.out.zt 2
            have z3 := H1.out.zt 3
            go_simp
            clear f0 f1 f2 f3 z0 z1 z2 z3
            have H2 := Lib.hid (H1.out.store ⟨o2, s2, t2, u2⟩)
            clear H1
            refine hK.out _ _ trivial (fun hHeld => ?_)
            clear hK K
            try simp only [List.getElem_toArray, List.getElem_cons_zero, List.getElem_cons_succ, Act.put, List.setIfInBounds_toArray, List.set_cons_zero, List.set_cons_succ]
            refine wpAnyH_done (by kernel_rfl) ?_ _
            clear hHeld
            go_wp2_with fail
            go_meet
            exact ⟨_, hok2, H2⟩
          · go_simp
            obtain ⟨zA, hzA⟩ : ∃ zz, zz = z0.alloc (.cells #[.string ⟨#[]⟩, .string ⟨#[111, 110, 101]⟩, .string ⟨#[116, 119, 111, 32, 119, 111, 114, 100, 115]⟩, .string ⟨#[116, 104, 114, 101, 101]⟩] 9) := ⟨_, rfl⟩
            rw [← hzA]
            have H0 := H1
            replace H1 := Lib.hid (H1.out.below (w2 := zA) (by rw [hzA]; exact (Below.refl _ _).alloc (Nat.le_refl _) _))
            have HzA := Lib.hid hzA
            clear hzA
            refine hK.out _ _ trivial (fun hHeld => ?_)
            clear hK K
            try simp only [List.getElem_toArray, List.getElem_cons_zero, List.getElem_cons_succ, Act.put, List.setIfInBounds_toArray, List.set_cons_zero, List.set_cons_succ]
            refine rd2 0 3 (fun K hK => ?_) (fun K hK => ?_)
            · obtain ⟨f0, f1, f2, f3⟩ := H1.out.ft
              go_simp
              clear f0 f1 f2 f3
              refine hK.out _ _ trivial (fun hHeld => ?_)
              clear hK K
              refine rd1 3 (fun K hK => ?_)
              go_simp
              have hc := pick_lit 16 B blk 4 4 z0 #[.string ⟨#[]⟩, .string ⟨#[111, 110, 101]⟩, .string ⟨#[116, 119, 111, 32, 119, 111, 114, 100, 115]⟩, .string ⟨#[116, 104, 114, 101, 101]⟩] 9 H0.out.cu rfl (by decide) (by decide) (by decide)
              rw [← HzA.out] at hc
              go_at_call 70
              refine hc.mono ?_
              rintro e w4 ⟨v, hv, rfl, cu, gr⟩
              replace H1 := Lib.hid (H0.out.turn gr cu)
              clear hc gr cu
              go_wp2_with fail
              refine hK.out _ _ trivial (fun hHeld => ?_)
              clear hK K
              try simp only [List.getElem_toArray, List.getElem_cons_zero, List.getElem_cons_succ, Act.put, List.setIfInBounds_toArray, List.set_cons_zero, List.set_cons_succ]
              clear H0 HzA
              have hsi := fun w => spec_append ⟨o, s, t, u⟩ v w (dsk_sm hok.out) (by omega)
              have hok2 : Hid (dskOk (appS ⟨o, s, t, u⟩ v).1 = true) := Lib.hid (app_ok v hok.out)
              obtain ⟨⟨o2, s2, t2, u2⟩, hr⟩ : ∃ r, r = (appS ⟨o, s, t, u⟩ v).1 := ⟨_, rfl⟩
              obtain ⟨q, hq⟩ : ∃ q, q = (appS ⟨o, s, t, u⟩ v).2 := ⟨_, rfl⟩
              rw [← hr, ← hq] at hsi
              rw [← hr] at hok2
              clear hr hq
              unfold dskV at hsi
              dsimp only at hsi
              refine rd1 4 (fun K hK => ?_)
              go_simp
              have hc := hsi w4
              go_at_call 25
              refine hc.mono ?_
              rintro e w5 ⟨rfl, hb⟩
              replace H1 := Lib.hid (H1.out.below hb)
              clear hc hb
              go_wp2_with fail
              refine hK.out _ _ trivial (fun hHeld => ?_)
              clear hK K
              refine tk0 5 ?_
              refine tk0 6 ?_
              refine tk0 7 ?_
              refine rd1 8 (fun K hK => ?_)
              obtain ⟨f0, f1, f2, f3⟩ := H1.out.ft
              have z0 := H1.out.zt 0
              have z1 := H1.out.zt 1
              have z2 := H1.out.zt 2
              have z3 := H1.out.zt 3
              go_simp
              clear f0 f1 f2 f3 z0 z1 z2 z3
              have H2 := Lib.hid (H1.out.store ⟨o2, s2, t2, u2⟩)
              clear H1
              refine hK.out _ _ trivial (fun hHeld => ?_)
              clear hK K
              try simp only [List.getElem_toArray, List.getElem_cons_zero, List.getElem_cons_succ, Act.put, List.setIfInBounds_toArray, List.set_cons_zero, List.set_cons_succ]
              refine wpAnyH_done (by kernel_rfl) ?_ _
              clear hHeld
              go_wp2_with fail
              go_meet
              exact ⟨_, hok2, H2⟩
            · go_simp
              have hc := pick_lit 16 B blk 4 4 z0 #[.string ⟨#[]⟩, .string ⟨#[111, 110, 101]⟩, .string ⟨#[116, 119, 111, 32, 119, 111, 114, 100, 115]⟩, .string ⟨#[116, 104, 114, 101, 101]⟩] 9 H0.out.cu rfl (by decide) (by decide) (by decide)
              rw [← HzA.out] at hc
              go_at_call 70
              refine hc.mono ?_
              rintro e w4 ⟨v, hv, rfl, cu, gr⟩
              replace H1 := Lib.hid (H0.out.turn gr cu)
              clear hc gr cu
              go_wp2_with fail
              refine hK.out _ _ trivial (fun hHeld => ?_)
              clear hK K
              try simp only [List.getElem_toArray, List.getElem_cons_zero, List.getElem_cons_succ, Act.put, List.setIfInBounds_toArray, List.set_cons_zero, List.set_cons_succ]
              refine rd1 0 (fun K hK => ?_)
              obtain ⟨f0, f1, f2, f3⟩ := H1.out.ft
              go_simp
              clear f0 f1 f2 f3
              refine hK.out _ _ trivial (fun hHeld => ?_)
              clear hK K
              try simp only [List.getElem_toArray, List.getElem_cons_zero, List.getElem_cons_succ, Act.put, List.setIfInBounds_toArray, List.set_cons_zero, List.set_cons_succ]
              clear H0 HzA
              have hsi := fun w => spec_append ⟨o, s, t, u⟩ v w (dsk_sm hok.out) (by omega)
              have hok2 : Hid (dskOk (appS ⟨o, s, t, u⟩ v).1 = true) := Lib.hid (app_ok v hok.out)
              obtain ⟨⟨o2, s2, t2, u2⟩, hr⟩ : ∃ r, r = (appS ⟨o, s, t, u⟩ v).1 := ⟨_, rfl⟩
              obtain ⟨q, hq⟩ : ∃ q, q = (appS ⟨o, s, t, u⟩ v).2 := ⟨_, rfl⟩
              rw [← hr, ← hq] at hsi
              rw [← hr] at hok2
              clear hr hq
              unfold dskV at hsi
              dsimp only at hsi
              refine rd1 4 (fun K hK => ?_)
              go_simp
              have hc := hsi w4
              go_at_call 25
              refine hc.mono ?_
              rintro e w5 ⟨rfl, hb⟩
              replace H1 := Lib.hid (H1.out.below hb)
              clear hc hb
              go_wp2_with fail
              refine hK.out _ _ trivial (fun hHeld => ?_)
              clear hK K
              refine tk0 5 ?_
              refine tk0 6 ?_
              refine tk0 7 ?_
              refine rd1 8 (fun K hK => ?_)
              obtain ⟨f0, f1, f2, f3⟩ := H1.out.ft
              have z0 := H1.out.zt 0
              have z1 := H1.out.zt 1
              have z2 := H1.out.zt 2
              have z3 := H1.out.zt 3
              go_simp
              clear f0 f1 f2 f3 z0 z1 z2 z3
              have H2 := Lib.hid (H1.out.store ⟨o2, s2, t2, u2⟩)
              clear H1
              refine hK.out _ _ trivial (fun hHeld => ?_)
              clear hK K
              try simp only [List.getElem_toArray, List.getElem_cons_zero, List.getElem_cons_succ, Act.put, List.setIfInBounds_toArray, List.set_cons_zero, List.set_cons_succ]
              refine wpAnyH_done (by kernel_rfl) ?_ _
              clear hHeld
              go_wp2_with fail
              go_meet
              exact ⟨_, hok2, H2⟩
        case rest =>
          obtain ⟨d3, hok3, H1⟩ := hcut
          clear hok
          have hok := hok3
          clear hok3
          obtain ⟨z, rfl⟩ : ∃ z, z = wc := ⟨_, rfl⟩
          obtain ⟨o, s, t, u⟩ := d3
          have hc := below_any 4 (by omega) B blk z H1.out.cu
          go_wp2_with (go_at_call 68; refine hc.mono ?_; rintro e w4 ⟨y, ⟨hy0, hy1, _⟩, rfl, cu, gr⟩; refine Hid.out ?_)
          refine Lib.hid ?_
          replace H1 := Lib.hid (H1.out.turn gr cu)
          have hy1 := hy1 (by omega)
          clear hc gr cu
          rcases (show y = 0 ∨ y = 1 ∨ 2 ≤ y by omega) with rfl | rfl | hy2
          · have hsi := spec_sync ⟨o, s, t, u⟩ w4 (dsk_sm hok.out)
            have hok2 : Hid (dskOk (syncS ⟨o, s, t, u⟩) = true) := Lib.hid (sync_ok hok.out)
            obtain ⟨⟨o2, s2, t2, u2⟩, hr⟩ : ∃ r, r = syncS ⟨o, s, t, u⟩ := ⟨_, rfl⟩
            rw [← hr] at hsi hok2
            clear hr
            unfold dskV at hsi
            dsimp only at hsi
            obtain ⟨f0, f1, f2, f3⟩ := H1.out.ft
            go_wp2_with (go_at_call 28; refine hsi.mono ?_; rintro e w5 ⟨rfl, hb⟩; refine Hid.out ?_)
            refine Lib.hid ?_
            replace H1 := Lib.hid (H1.out.below hb)
            clear hsi hb f0 f1 f2 f3
            obtain ⟨f0, f1, f2, f3⟩ := H1.out.ft
            have z0 := H1.out.zt 0
            have z1 := H1.out.zt 1
            have z2 := H1.out.zt 2
            have z3 := H1.out.zt 3
            have H2 := Lib.hid (H1.out.store ⟨o2, s2, t2, u2⟩)
            go_wp2_with fail
            go_roundw
            case rel => exact ⟨k + 1, _, by omega, by go_num, hok2, H2⟩
            case measure => simp [intOf]; omega
          · go_wp2_with fail
            refine wp_region_held_drew (S := (fun _ => True)) (by kernel_rfl) trivial (fun hHeld => ?_)
            obtain ⟨z0, hz0⟩ : ∃ zz, zz = w4.drew := ⟨_, rfl⟩
            rw [← hz0]
            have H1 := Lib.hid (H1.out.below (w2 := z0) (by rw [hz0]; exact (Below.refl _ _).drew))
            clear hz0
            refine tk0 1 ?_
            refine rd2 0 2 (fun K hK => ?_) (fun K hK => ?_)
            · obtain ⟨f0, f1, f2, f3⟩ := H1.out.ft
              go_simp
              clear f0 f1 f2 f3
              refine hK.out _ _ trivial (fun hHeld => ?_)
              clear hK K
              refine rd1 2 (fun K hK => ?_)
              go_simp
              have hc := below_any 12 (by omega) B blk _ H1.out.cu
              go_at_call 68
              refine hc.mono ?_
              rintro e w5 ⟨x, ⟨hx0, hx1, _⟩, rfl, cu, gr⟩
              replace H1 := Lib.hid (H1.out.turn gr cu)
              have hx1 := hx1 (by omega)
              clear hc gr cu
              go_wp2_with fail
              refine hK.out _ _ trivial (fun hHeld => ?_)
              clear hK K
              try simp only [List.getElem_toArray, List.getElem_cons_zero, List.getElem_cons_succ, Act.put, List.setIfInBounds_toArray, List.set_cons_zero, List.set_cons_succ]
              have hsi := fun w => spec_crash ⟨o, s, t, u⟩ x w (dsk_sm hok.out) (by omega)
              have hok2 : Hid (dskOk (crashS ⟨o, s, t, u⟩ x) = true) := Lib.hid (crash_ok x hok.out)
              obtain ⟨⟨o2, s2, t2, u2⟩, hr⟩ : ∃ r, r = crashS ⟨o, s, t, u⟩ x := ⟨_, rfl⟩
              rw [← hr] at hsi hok2
              clear hr
              unfold dskV at hsi
              dsimp only at hsi
              refine rd1 3 (fun K hK => ?_)
              go_simp
              have hc := hsi w5
              go_at_call 30
              refine hc.mono ?_
              rintro e w6 ⟨rfl, hb⟩
              replace H1 := Lib.hid (H1.out.below hb)
              clear hc hb
              go_wp2_with fail
              refine hK.out _ _ trivial (fun hHeld => ?_)
              clear hK K
              try simp only [List.getElem_toArray, List.getElem_cons_zero, List.getElem_cons_succ, Act.put, List.setIfInBounds_toArray, List.set_cons_zero, List.set_cons_succ]
              refine rd1 4 (fun K hK => ?_)
              obtain ⟨f0, f1, f2, f3⟩ := H1.out.ft
              have z0 := H1.out.zt 0
              have z1 := H1.out.zt 1
              have z2 := H1.out.zt 2
              have z3 := H1.out.zt 3
              go_simp
              clear f0 f1 f2 f3 z0 z1 z2 z3
              have H2 := Lib.hid (H1.out.store ⟨o2, s2, t2, u2⟩)
              clear H1
              refine hK.out _ _ trivial (fun hHeld => ?_)
              clear hK K
              try simp only [List.getElem_toArray, List.getElem_cons_zero, List.getElem_cons_succ, Act.put, List.setIfInBounds_toArray, List.set_cons_zero, List.set_cons_succ]
              refine wpAnyH_done (by kernel_rfl) ?_ _
              clear hHeld
              go_wp2_with fail
              go_roundw
              case rel => exact ⟨k + 1, _, by omega, by go_num, hok2, H2⟩
              case measure => simp [intOf]; omega
            · go_simp
              have hc := below_any 12 (by omega) B blk _ H1.out.cu
              go_at_call 68
              refine hc.mono ?_
              rintro e w5 ⟨x, ⟨hx0, hx1, _⟩, rfl, cu, gr⟩
              replace H1 := Lib.hid (H1.out.turn gr cu)
              have hx1 := hx1 (by omega)
              clear hc gr cu
              go_wp2_with fail
              refine hK.out _ _ trivial (fun hHeld => ?_)
              clear hK K
              try simp only [List.getElem_toArray, List.getElem_cons_zero, List.getElem_cons_succ, Act.put, List.setIfInBounds_toArray, List.set_cons_zero, List.set_cons_succ]
              refine rd1 0 (fun K hK => ?_)
              obtain ⟨f0, f1, f2, f3⟩ := H1.out.ft
              go_simp
              clear f0 f1 f2 f3
              refine hK.out _ _ trivial (fun hHeld => ?_)
              clear hK K
              try simp only [List.getElem_toArray, List.getElem_cons_zero, List.getElem_cons_succ, Act.put, List.setIfInBounds_toArray, List.set_cons_zero, List.set_cons_succ]
              have hsi := fun w => spec_crash ⟨o, s, t, u⟩ x w (dsk_sm hok.out) (by omega)
              have hok2 : Hid (dskOk (crashS ⟨o, s, t, u⟩ x) = true) := Lib.hid (crash_ok x hok.out)
              obtain ⟨⟨o2, s2, t2, u2⟩, hr⟩ : ∃ r, r = crashS ⟨o, s, t, u⟩ x := ⟨_, rfl⟩
              rw [← hr] at hsi hok2
              clear hr
              unfold dskV at hsi
              dsimp only at hsi
              refine rd1 3 (fun K hK => ?_)
              go_simp
              have hc := hsi w5
              go_at_call 30
              refine hc.mono ?_
              rintro e w6 ⟨rfl, hb⟩
              replace H1 := Lib.hid (H1.out.below hb)
              clear hc hb
              go_wp2_with fail
              refine hK.out _ _ trivial (fun hHeld => ?_)
              clear hK K
              try simp only [List.getElem_toArray, List.getElem_cons_zero, List.getElem_cons_succ, Act.put, List.setIfInBounds_toArray, List.set_cons_zero, List.set_cons_succ]
              refine rd1 4 (fun K hK => ?_)
              obtain ⟨f0, f1, f2, f3⟩ := H1.out.ft
              have z0 := H1.out.zt 0
              have z1 := H1.out.zt 1
              have z2 := H1.out.zt 2
              have z3 := H1.out.zt 3
              go_simp
              clear f0 f1 f2 f3 z0 z1 z2 z3
              have H2 := Lib.hid (H1.out.store ⟨o2, s2, t2, u2⟩)
              clear H1
              refine hK.out _ _ trivial (fun hHeld => ?_)
              clear hK K
              try simp only [List.getElem_toArray, List.getElem_cons_zero, List.getElem_cons_succ, Act.put, List.setIfInBounds_toArray, List.set_cons_zero, List.set_cons_succ]
              refine wpAnyH_done (by kernel_rfl) ?_ _
              clear hHeld
              go_wp2_with fail
              go_roundw
              case rel => exact ⟨k + 1, _, by omega, by go_num, hok2, H2⟩
              case measure => simp [intOf]; omega
          · have e0 : (y == 0) = false := by rw [beq_eq_false_iff_ne]; omega
            have e1 : (y == 1) = false := by rw [beq_eq_false_iff_ne]; omega
            go_wp2_with fail
            go_roundw
            case rel => exact ⟨k + 1, _, by omega, by go_num, hok, H1⟩
            case measure => simp [intOf]; omega
      · have hlt' : ¬ (k : Int) < (n : Int) := by omega
        obtain ⟨o, s, t, u⟩ := d2
        obtain ⟨f0, f1, f2, f3⟩ := H1.out.ft
        have Kr := Lib.hid H1.out.kr
        have r0 := tcr Kr 0
        have r1 := tcr Kr 1
        have r2 := tcr Kr 2
        have r3 := tcr Kr 3
        have s0 := tfr Kr 0
        have s1 := tfr Kr 1
        have s2 := tfr Kr 2
        have s3 := tfr Kr 3
        go_wp2_with fail
        obtain ⟨j0, q1, q2, q3, q4⟩ := info_parts infoDsk
        obtain ⟨g1, g2, g3⟩ := H1.out.ret
        refine bodyPost_ret (results_cell_row (P := Try.prog) rfl _ _ w.heap.size _ _ (0, 0) _ rfl g1 Try.underlying26 rfl (by rw [q1]; simp [q3])) rfl (show DrewDsk w B blk (fun d => dskOk d = true) _ _ from ⟨⟨o, s, t, u⟩, rfl, hok.out, g2, g3⟩)
end Go.Proofs.Ytkkmjlpeahkiaaa
