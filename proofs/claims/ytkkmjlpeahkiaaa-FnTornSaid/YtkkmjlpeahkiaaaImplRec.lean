/- What the program's Recover answers. Condition: a Disk of a small size. -/
import Derived.Test.YtkkmjlpeahkiaaaTk
import Derived.Test.YtkkmjlpeahkiaaaImplScan2
import Derived.Test.YtkkmjlpeahkiaaaImplDsk
import Derived.RegionTactic
namespace Go.Proofs.Ytkkmjlpeahkiaaa
open Go.RowKit
set_option linter.unusedVariables false
set_option linter.unusedSimpArgs false

set_option maxRecDepth 100000 in
set_option maxHeartbeats 8000000 in
theorem impl_recover (d : Dsk) (w : World) (hd : SmD d) : Calls Try.prog 38 #[dskV d] w fun e w' => ∃ v, e = .returned (.tuple #[dskV (recS d).1, v]) ∧ Texts w' w.heap.size v (recS d).2 ∧ Below w.heap.size w w' := by
  have kd := fun w => impl_diskOk d w hd
  have ks := fun w => impl_scan d.kp w (by have := hd.2.2.1; omega)
  have hle := (scan_le (t := d.kp) 0 (Nat.zero_le _)).2
  have HA : Hid (recS d = if dskOk d = true then (⟨d.rm, d.sn, d.kp.extract 0 (scanS d.kp).2, ⟨#[]⟩⟩, (scanS d.kp).1) else (d, [])) := Lib.hid rfl
  change (scanS d.kp).2 ≤ _ at hle
  obtain ⟨n, hn⟩ : ∃ n, n = (scanS d.kp).2 := ⟨_, rfl⟩
  obtain ⟨l, hl⟩ : ∃ n, n = (scanS d.kp).1 := ⟨_, rfl⟩
  obtain ⟨q, hq⟩ : ∃ q, q = dskOk d := ⟨_, rfl⟩
  rw [← hn, ← hl] at ks HA
  rw [← hn] at hle
  rw [← hq] at kd HA
  clear hq hn hl
  obtain ⟨_, z1, z2, z3⟩ := hd
  obtain ⟨o, s, t, u⟩ := d
  unfold dskV at *
  dsimp only at *
  obtain ⟨X, hX⟩ : ∃ z, z = (w.alloc (.cells #[.int .i64 o, .string s, .string t, .string u] 26)).alloc (.cells #[.int .i64 0, .string ⟨#[]⟩, .string ⟨#[]⟩, .string ⟨#[]⟩] 26) := ⟨_, rfl⟩
  have BB : Hid (Below w.heap.size w X) := Lib.hid (by rw [hX]; exact ((Below.refl _ _).alloc (Nat.le_refl _) _).alloc (by simp) _)
  have hXs : X.heap.size = w.heap.size + 2 := by rw [hX]; simp
  have KT : Hid (X.heap[w.heap.size]? = some (.cells #[.int .i64 o, .string s, .string t, .string u] 26 (0, 0))) := Lib.hid (by rw [hX, Below.heap_alloc _ _ _ (by simp)]; exact heap_new _ _)
  have KR : Hid (X.heap[w.heap.size + 1]? = some (.cells #[.int .i64 0, .string ⟨#[]⟩, .string ⟨#[]⟩, .string ⟨#[]⟩] 26 (0, 0))) := Lib.hid (by rw [hX]; simpa using heap_new (w.alloc (.cells #[.int .i64 o, .string s, .string t, .string u] 26)) (.cells #[.int .i64 0, .string ⟨#[]⟩, .string ⟨#[]⟩, .string ⟨#[]⟩] 26))
  have LT : Hid (w.heap.size < X.heap.size) := Lib.hid (by omega)
  have LR : Hid (w.heap.size + 1 < X.heap.size) := Lib.hid (by omega)
  clear hXs
  go_enter Try.func38, Try.ntmps38
  have fT0 := tcr KT 0
  have fT1 := tcr KT 1
  have fT2 := tcr KT 2
  have fT3 := tcr KT 3
  have zT0 := tfr KT 0
  have zT1 := tfr KT 1
  have zT2 := tfr KT 2
  have zT3 := tfr KT 3
  have hc := kd X
  rw [hX] at hc fT0 fT1 fT2 fT3 zT0 zT1 zT2 zT3
  go_wp2_with (go_at_call 22; refine hc.mono ?_; rintro e w1 ⟨rfl, hb⟩; refine Hid.out ?_)
  refine Lib.hid ?_
  rw [← hX] at hb
  clear hX
  replace KT := tkb hb LT KT
  replace LT := tlz LT hb.size
  replace KR := tkb hb LR KR
  replace LR := tlz LR hb.size
  replace BB := tbt BB hb
  clear hc hb fT0 zT0 fT1 zT1 fT2 zT2 fT3 zT3
  clear kd
  cases q
  · have HRES : Hid (recS ⟨o, s, t, u⟩ = (⟨o, s, t, u⟩, [])) := Lib.hid HA.out
    clear HA ks
    have fT0 := tcr KT 0
    have fT1 := tcr KT 1
    have fT2 := tcr KT 2
    have fT3 := tcr KT 3
    have zT0 := tfr KT 0
    have zT1 := tfr KT 1
    have zT2 := tfr KT 2
    have zT3 := tfr KT 3
    have fR0 := tcr KR 0
    have fR1 := tcr KR 1
    have fR2 := tcr KR 2
    have fR3 := tcr KR 3
    have zR0 := tfr KR 0
    have zR1 := tfr KR 1
    have zR2 := tfr KR 2
    have zR3 := tfr KR 3
    go_wp2_with fail
    obtain ⟨j0, q1, q2, q3, q4⟩ := info_parts infoDsk
    refine bodyPost_ret (results_cellD (P := Try.prog) rfl _ _ (w.heap.size + 1) _ _ (0, 0) _ _ rfl rfl (storeD KR.out) Try.underlying26 rfl (by rw [q1]; simp [q3])) rfl ⟨_, by rw [HRES.out]; first | done | rfl, by rw [HRES.out]; exact Texts.nil _ _, belowD BB.out (by omega)⟩
  have HRES : Hid (recS ⟨o, s, t, u⟩ = (⟨o, s, t.extract 0 n, ⟨#[]⟩⟩, l)) := Lib.hid HA.out
  clear HA
  have HL := LR.out
  have HT := LT.out
  have fT0 := tcr KT 0
  have fT1 := tcr KT 1
  have fT2 := tcr KT 2
  have fT3 := tcr KT 3
  have zT0 := tfr KT 0
  have zT1 := tfr KT 1
  have zT2 := tfr KT 2
  have zT3 := tfr KT 3
  have hc := ks w1
  go_wp2_with (go_at_call 33; refine hc.mono ?_; rintro e w2 ⟨v, rfl, hrow, hb⟩; refine Hid.out ?_)
  refine Lib.hid ?_
  replace KT := tkb hb LT KT
  replace LT := tlz LT hb.size
  replace KR := tkb hb LR KR
  replace LR := tlz LR hb.size
  replace BB := tbt BB hb
  clear hc hb fT0 zT0 fT1 zT1 fT2 zT2 fT3 zT3
  have Hrow := Lib.hid hrow
  clear hrow ks
  have fT0 := tcr KT 0
  have fT1 := tcr KT 1
  have fT2 := tcr KT 2
  have fT3 := tcr KT 3
  have zT0 := tfr KT 0
  have zT1 := tfr KT 1
  have zT2 := tfr KT 2
  have zT3 := tfr KT 3
  go_wp2_with fail
  clear fT0 zT0 fT1 zT1 fT2 zT2 fT3 zT3
  have fT0 : w2.drew.cell? ⟨w.heap.size, 0, none⟩ = some (.int .i64 o) := tcr (w := w2.drew) KT 0
  have fT1 : w2.drew.cell? ⟨w.heap.size, 1, none⟩ = some (.string s) := tcr (w := w2.drew) KT 1
  have fT2 : w2.drew.cell? ⟨w.heap.size, 2, none⟩ = some (.string t) := tcr (w := w2.drew) KT 2
  have fT3 : w2.drew.cell? ⟨w.heap.size, 3, none⟩ = some (.string u) := tcr (w := w2.drew) KT 3
  have zT0 : w2.drew.frozen? ⟨w.heap.size, 0, none⟩ = false := tfr (w := w2.drew) KT 0
  have zT1 : w2.drew.frozen? ⟨w.heap.size, 1, none⟩ = false := tfr (w := w2.drew) KT 1
  have zT2 : w2.drew.frozen? ⟨w.heap.size, 2, none⟩ = false := tfr (w := w2.drew) KT 2
  have zT3 : w2.drew.frozen? ⟨w.heap.size, 3, none⟩ = false := tfr (w := w2.drew) KT 3
  have fR0 : w2.drew.cell? ⟨w.heap.size + 1, 0, none⟩ = some (.int .i64 0) := tcr (w := w2.drew) KR 0
  have fR1 : w2.drew.cell? ⟨w.heap.size + 1, 1, none⟩ = some (.string ⟨#[]⟩) := tcr (w := w2.drew) KR 1
  have fR2 : w2.drew.cell? ⟨w.heap.size + 1, 2, none⟩ = some (.string ⟨#[]⟩) := tcr (w := w2.drew) KR 2
  have fR3 : w2.drew.cell? ⟨w.heap.size + 1, 3, none⟩ = some (.string ⟨#[]⟩) := tcr (w := w2.drew) KR 3
  have zR0 : w2.drew.frozen? ⟨w.heap.size + 1, 0, none⟩ = false := tfr (w := w2.drew) KR 0
  have zR1 : w2.drew.frozen? ⟨w.heap.size + 1, 1, none⟩ = false := tfr (w := w2.drew) KR 1
  have zR2 : w2.drew.frozen? ⟨w.heap.size + 1, 2, none⟩ = false := tfr (w := w2.drew) KR 2
  have zR3 : w2.drew.frozen? ⟨w.heap.size + 1, 3, none⟩ = false := tfr (w := w2.drew) KR 3
  have gR0 := tcr KR 0
  have gR1 := tcr KR 1
  have gR2 := tcr KR 2
  have gR3 := tcr KR 3
  have yR0 := tfr KR 0
  have yR1 := tfr KR 1
  have yR2 := tfr KR 2
  have yR3 := tfr KR 3
  go_region
  go_wp2_with fail
  obtain ⟨j0, q1, q2, q3, q4⟩ := info_parts infoDsk
  refine bodyPost_ret (results_cellD (P := Try.prog) rfl _ _ (w.heap.size + 1) _ _ (0, 0) _ _ rfl rfl (storeD KR.out) Try.underlying26 rfl (by rw [q1]; simp [q3])) rfl ⟨_, by rw [HRES.out]; first | done | rfl, by rw [HRES.out]; exact (textsD_lower (textsD_store Hrow.out HL) (by omega)).later (Below.refl _ _).drew, (belowD BB.out (by omega)).drew⟩
end Go.Proofs.Ytkkmjlpeahkiaaa
