/- What the program's takes, DiskOk, Entry, Append, Crash, Sync and Install answer. Condition: a Disk of a small size. -/
import Derived.Test.YtkkmjlpeahkiaaaTk
import Derived.Test.YtkkmjlpeahkiaaaSpecDsk
import Derived.Test.YtkkmjlpeahkiaaaImplText
import Derived.Test.YtkkmjlpeahkiaaaImplSeal
namespace Go.Proofs.Ytkkmjlpeahkiaaa
open Go.RowKit
set_option linter.unusedVariables false
set_option linter.unusedSimpArgs false

def takesB (d : Dsk) (n : Nat) : Bool := decide (d.rm ≤ 4000) && decide ((usedD d : Int) + (n : Int) ≤ d.rm)
theorem takes_ok (d : Dsk) : takesB d 0 = dskOk d := by
  unfold takesB dskOk inB
  by_cases h1 : d.rm ≤ 4000 <;> by_cases h2 : (usedD d : Int) ≤ d.rm
  · have : 0 ≤ d.rm := by omega
    simp [h1, h2, this]
  · simp [h1, h2]
  · simp [h1, h2]
  · simp [h1, h2]
theorem takes_yes {d : Dsk} {n : Nat} (h : takesB d n = true) : dskOk d = true ∧ (usedD d : Int) + (n : Int) ≤ d.rm := by
  unfold takesB at h
  simp only [Bool.and_eq_true, decide_eq_true_eq] at h
  refine ⟨?_, h.2⟩
  unfold dskOk inB
  simp only [Bool.and_eq_true, decide_eq_true_eq]
  omega
theorem takes_no {d : Dsk} {n : Nat} (h : takesB d n = false) : dskOk d = false ∨ d.rm < (usedD d : Int) + (n : Int) := by
  cases hq : dskOk d with
  | false => exact .inl rfl
  | true =>
    refine .inr (Int.not_le.1 fun hc => ?_)
    unfold dskOk inB at hq
    simp only [Bool.and_eq_true, decide_eq_true_eq] at hq
    unfold takesB at h
    rw [Bool.eq_false_iff] at h
    apply h
    simp only [Bool.and_eq_true, decide_eq_true_eq]
    omega
theorem sync_crash (d : Dsk) : crashS d (d.ls.size : Nat) = syncS d := by
  unfold crashS syncS
  split
  · rw [show keepN d.ls.size (d.ls.size : Nat) = d.ls.size by unfold keepN; rw [if_neg (by omega), if_neg (by omega)]; rfl]
    simp
  · rfl
set_option maxHeartbeats 1000000 in
theorem impl_takes (d : Dsk) (x : ByteArray) (w : World) (hd : SmD d) (hx : x.size ≤ 549755813888) : Calls Try.prog 55 #[dskV d, .string x] w fun e w' => e = .returned (.bool (takesB d x.size)) ∧ Below w.heap.size w w' := by
  obtain ⟨o, s, t, u⟩ := d
  obtain ⟨_, h1, h2, h3⟩ := hd
  have HK : Hid (takesB ⟨o, s, t, u⟩ x.size = (decide (o ≤ 4000) && decide ((s.size : Int) + t.size + u.size + x.size ≤ o))) := Lib.hid (by unfold takesB usedD; dsimp only; rw [show ((s.size + t.size + u.size : Nat) : Int) + (x.size : Int) = (s.size : Int) + t.size + u.size + x.size by omega])
  unfold dskV
  dsimp only at *
  have BW : Hid (Below w.heap.size w (w.alloc (.cells #[.int .i64 o, .string s, .string t, .string u] 26))) := Lib.hid ((Below.refl _ _).alloc (Nat.le_refl _) _)
  by_cases c1 : o ≤ 4000
  · by_cases c2 : (s.size : Int) + t.size + u.size + x.size ≤ o
    · have HR := Lib.hid (HK.out.trans (show _ = true by simp [c1, c2]))
      clear HK
      have d1 : decide (o ≤ 4000) = true := decide_eq_true c1
      have d2 : decide ((s.size : Int) + t.size + u.size + x.size ≤ o) = true := decide_eq_true c2
      go_enter Try.func55, Try.ntmps55
      go_wp2
      go_ret
      exact ⟨ret_bool (by rw [HR.out]; first | done | simp_all), BW.out⟩
    · have HR := Lib.hid (HK.out.trans (show _ = false by simp [c1, c2]))
      clear HK
      have d1 : decide (o ≤ 4000) = true := decide_eq_true c1
      have d2 : decide ((s.size : Int) + t.size + u.size + x.size ≤ o) = false := decide_eq_false c2
      go_enter Try.func55, Try.ntmps55
      go_wp2
      go_ret
      exact ⟨ret_bool (by rw [HR.out]; first | done | simp_all), BW.out⟩
  · have HR := Lib.hid (HK.out.trans (show _ = false by simp [c1]))
    clear HK
    have d1 : decide (o ≤ 4000) = false := decide_eq_false c1
    go_enter Try.func55, Try.ntmps55
    go_wp2
    go_ret
    exact ⟨ret_bool (by rw [HR.out]; first | done | simp_all), BW.out⟩
set_option maxHeartbeats 1000000 in
theorem impl_diskOk (d : Dsk) (w : World) (hd : SmD d) : Calls Try.prog 22 #[dskV d] w fun e w' => e = .returned (.bool (dskOk d)) ∧ Below w.heap.size w w' := by
  have k := fun w => impl_takes d ⟨#[]⟩ w hd (by show (0 : Nat) ≤ _; omega)
  rw [show (ByteArray.mk #[]).size = 0 from rfl, takes_ok] at k
  obtain ⟨q, hq⟩ : ∃ q, q = dskOk d := ⟨_, rfl⟩
  rw [← hq] at k ⊢
  clear hq hd
  obtain ⟨o, s, t, u⟩ := d
  unfold dskV at *
  dsimp only at *
  have BW : Hid (Below w.heap.size w (w.alloc (.cells #[.int .i64 o, .string s, .string t, .string u] 26))) := Lib.hid ((Below.refl _ _).alloc (Nat.le_refl _) _)
  go_enter Try.func22, Try.ntmps22
  go_wp2_with (go_at_call 55; refine (k _).mono ?_; rintro e w1 ⟨rfl, hb⟩; replace hb := Lib.hid hb)
  go_ret
  exact ⟨rfl, BW.out.trans (hb.out.mono BW.out.size)⟩
set_option maxHeartbeats 1000000 in
theorem impl_entry (s : ByteArray) (w : World) (hs : s.size ≤ 549755813888) : Calls Try.prog 24 #[.string s] w fun e w' => e = .returned (.string (entB s)) ∧ Below w.heap.size w w' := by
  have hz := seal_size4 s
  have k1 := fun w => impl_sealed s w (by omega)
  have k2 := fun w => impl_putText (sealB s) w (by omega)
  unfold entB
  obtain ⟨x, hx⟩ : ∃ x, x = sealB s := ⟨_, rfl⟩
  rw [← hx] at k1 k2 ⊢
  clear hx hz
  go_enter Try.func24, Try.ntmps24
  go_wp2_with (first | (go_at_call 59; refine (k1 _).mono ?_; rintro e w1 ⟨rfl, hb1⟩; replace hb1 := Lib.hid hb1) | (go_at_call 58; refine (k2 _).mono ?_; rintro e w2 ⟨rfl, hb2⟩; replace hb2 := Lib.hid hb2))
  go_ret
  exact ⟨rfl, hb1.out.trans (hb2.out.mono hb1.out.size)⟩
set_option maxRecDepth 100000 in
set_option maxHeartbeats 8000000 in
theorem impl_append (d : Dsk) (x : ByteArray) (w : World) (hd : SmD d) (hx : x.size ≤ 549755813888) : Calls Try.prog 26 #[dskV d, .string x] w fun e w' => e = .returned (.tuple #[dskV (appS d x).1, .bool (appS d x).2]) ∧ Below w.heap.size w w' := by
  have ke := fun w => impl_entry x w hx
  have hez : (entB x).size ≤ 65537 := by rw [ent_size]; split <;> omega
  have kd := fun w => impl_takes d (entB x) w hd (by omega)
  have HY : Hid (takesB d (entB x).size = true → (entB x).size ≠ 0 → appS d x = (⟨d.rm, d.sn, d.kp, d.ls ++ entB x⟩, true)) := Lib.hid (fun h1 h2 => by have h3 := takes_yes h1; unfold appS; rw [if_pos ⟨h3.1, h2, by omega⟩])
  have HA : Hid (takesB d (entB x).size = false ∨ (entB x).size = 0 → appS d x = (d, false)) := Lib.hid (fun h => app_no (h.elim (fun h => (takes_no h).imp id .inr) (fun h => .inr (.inl h))))
  obtain ⟨q, hq⟩ : ∃ q, q = takesB d (entB x).size := ⟨_, rfl⟩
  rw [← hq] at kd HA HY
  clear hq
  obtain ⟨E, hE⟩ : ∃ z, z = entB x := ⟨_, rfl⟩
  rw [← hE] at ke kd HA HY hez
  clear hE
  obtain ⟨_, z1, z2, z3⟩ := hd
  obtain ⟨o, s, t, u⟩ := d
  unfold dskV at *
  dsimp only at *
  obtain ⟨X, hX⟩ : ∃ z, z = (w.alloc (.cells #[.int .i64 o, .string s, .string t, .string u] 26)).alloc (.cells #[.int .i64 0, .string ⟨#[]⟩, .string ⟨#[]⟩, .string ⟨#[]⟩] 26) := ⟨_, rfl⟩
  have BB : Hid (Below w.heap.size w X) := Lib.hid (by rw [hX]; exact ((Below.refl _ _).alloc (Nat.le_refl _) _).alloc (by simp) _)
  have hXs : X.heap.size = w.heap.size + 2 := by rw [hX]; simp
  have KT : Hid (X.heap[w.heap.size]? = some (.cells #[.int .i64 o, .string s, .string t, .string u] 26 (0, 0))) := Lib.hid (by rw [hX, Below.heap_alloc _ _ _ (by simp)]; exact heap_new _ _)
  have KR : Hid (X.heap[w.heap.size + 1]? = some (.cells #[.int .i64 0, .string ⟨#[]⟩, .string ⟨#[]⟩, .string ⟨#[]⟩] 26 (0, 0))) := Lib.hid (by rw [hX]; simpa using heap_new (w.alloc (.cells #[.int .i64 o, .string s, .string t, .string u] 26)) (.cells #[.int .i64 0, .string ⟨#[]⟩, .string ⟨#[]⟩, .string ⟨#[]⟩] 26))
  have LT : Hid (w.heap.size < X.heap.size) := Lib.hid (by omega)
  have LR : Hid (w.heap.size + 1 < X.heap.size) := Lib.hid (by omega)
  clear hXs
  go_enter Try.func26, Try.ntmps26
  have hc := ke X
  rw [hX] at hc
  go_wp2_with (go_at_call 24; refine hc.mono ?_; rintro e w1 ⟨rfl, hb⟩; refine Hid.out ?_)
  refine Lib.hid ?_
  rw [← hX] at hb
  clear hX
  replace KT := tkb hb LT KT
  replace LT := tlz LT hb.size
  replace KR := tkb hb LR KR
  replace LR := tlz LR hb.size
  replace BB := tbt BB hb
  clear hc hb
  clear ke
  by_cases h0 : E.size = 0
  · have HRES : Hid (appS ⟨o, s, t, u⟩ x = (⟨o, s, t, u⟩, false)) := Lib.hid (HA.out (.inr h0))
    have he := (isEmpty_yes h0).1
    clear h0 HA HY kd
    have fT0 := tcr KT 0
    have fT1 := tcr KT 1
    have fT2 := tcr KT 2
    have fT3 := tcr KT 3
    have zT0 := tfr KT 0
    have zT1 := tfr KT 1
    have zT2 := tfr KT 2
    have zT3 := tfr KT 3
    have fR0 := tcr KR 0
    have fR1 := tcr KR 1
    have fR2 := tcr KR 2
    have fR3 := tcr KR 3
    have zR0 := tfr KR 0
    have zR1 := tfr KR 1
    have zR2 := tfr KR 2
    have zR3 := tfr KR 3
    go_wp2_with fail
    obtain ⟨j0, q1, q2, q3, q4⟩ := info_parts infoDsk
    refine bodyPost_ret (results_cellD (P := Try.prog) rfl _ _ (w.heap.size + 1) _ _ (0, 0) _ _ rfl rfl (storeD KR.out) Try.underlying26 rfl (by rw [q1]; simp [q3])) rfl ⟨by rw [HRES.out]; first | done | rfl, belowD BB.out (by omega)⟩
  have he := isEmpty_no h0
  replace HY := Lib.hid (fun h => HY.out h h0)
  clear h0
  cases q
  · have HRES : Hid (appS ⟨o, s, t, u⟩ x = (⟨o, s, t, u⟩, false)) := Lib.hid (HA.out (.inl rfl))
    clear HA HY
    have fT0 := tcr KT 0
    have fT1 := tcr KT 1
    have fT2 := tcr KT 2
    have fT3 := tcr KT 3
    have zT0 := tfr KT 0
    have zT1 := tfr KT 1
    have zT2 := tfr KT 2
    have zT3 := tfr KT 3
    have hc := kd w1
    go_wp2_with (go_at_call 55; refine hc.mono ?_; rintro e w2 ⟨rfl, hb⟩; refine Hid.out ?_)
    refine Lib.hid ?_
    replace KT := tkb hb LT KT
    replace LT := tlz LT hb.size
    replace KR := tkb hb LR KR
    replace LR := tlz LR hb.size
    replace BB := tbt BB hb
    clear hc hb fT0 zT0 fT1 zT1 fT2 zT2 fT3 zT3
    clear kd
    have fT0 := tcr KT 0
    have fT1 := tcr KT 1
    have fT2 := tcr KT 2
    have fT3 := tcr KT 3
    have zT0 := tfr KT 0
    have zT1 := tfr KT 1
    have zT2 := tfr KT 2
    have zT3 := tfr KT 3
    have fR0 := tcr KR 0
    have fR1 := tcr KR 1
    have fR2 := tcr KR 2
    have fR3 := tcr KR 3
    have zR0 := tfr KR 0
    have zR1 := tfr KR 1
    have zR2 := tfr KR 2
    have zR3 := tfr KR 3
    go_wp2_with fail
    obtain ⟨j0, q1, q2, q3, q4⟩ := info_parts infoDsk
    refine bodyPost_ret (results_cellD (P := Try.prog) rfl _ _ (w.heap.size + 1) _ _ (0, 0) _ _ rfl rfl (storeD KR.out) Try.underlying26 rfl (by rw [q1]; simp [q3])) rfl ⟨by rw [HRES.out]; first | done | rfl, belowD BB.out (by omega)⟩
  have HRES : Hid (appS ⟨o, s, t, u⟩ x = (⟨o, s, t, u ++ E⟩, true)) := Lib.hid (HY.out rfl)
  clear HA HY
  have fT0 := tcr KT 0
  have fT1 := tcr KT 1
  have fT2 := tcr KT 2
  have fT3 := tcr KT 3
  have zT0 := tfr KT 0
  have zT1 := tfr KT 1
  have zT2 := tfr KT 2
  have zT3 := tfr KT 3
  have hc := kd w1
  go_wp2_with (go_at_call 55; refine hc.mono ?_; rintro e w2 ⟨rfl, hb⟩; refine Hid.out ?_)
  refine Lib.hid ?_
  replace KT := tkb hb LT KT
  replace LT := tlz LT hb.size
  replace KR := tkb hb LR KR
  replace LR := tlz LR hb.size
  replace BB := tbt BB hb
  clear hc hb fT0 zT0 fT1 zT1 fT2 zT2 fT3 zT3
  clear kd
  have ns : ¬ 9223372036854775807 < u.size + E.size := by omega
  have fT0 := tcr KT 0
  have fT1 := tcr KT 1
  have fT2 := tcr KT 2
  have fT3 := tcr KT 3
  have zT0 := tfr KT 0
  have zT1 := tfr KT 1
  have zT2 := tfr KT 2
  have zT3 := tfr KT 3
  have fR0 := tcr KR 0
  have fR1 := tcr KR 1
  have fR2 := tcr KR 2
  have fR3 := tcr KR 3
  have zR0 := tfr KR 0
  have zR1 := tfr KR 1
  have zR2 := tfr KR 2
  have zR3 := tfr KR 3
  go_wp2_with fail
  obtain ⟨j0, q1, q2, q3, q4⟩ := info_parts infoDsk
  refine bodyPost_ret (results_cellD (P := Try.prog) rfl _ _ (w.heap.size + 1) _ _ (0, 0) _ _ rfl rfl (storeD (otherD KR.out (by omega))) Try.underlying26 rfl (by rw [q1]; simp [q3])) rfl ⟨by rw [HRES.out]; first | done | rfl, belowD (BB.out.setCell (p := ⟨w.heap.size, 3, none⟩) (Nat.le_refl _) _) (by omega)⟩
set_option maxRecDepth 100000 in
set_option maxHeartbeats 8000000 in
theorem impl_install (d : Dsk) (x : ByteArray) (w : World) (hd : SmD d) (hx : x.size ≤ 549755813888) : Calls Try.prog 40 #[dskV d, .string x] w fun e w' => e = .returned (.tuple #[dskV (insS d x).1, .bool (insS d x).2]) ∧ Below w.heap.size w w' := by
  have kd := fun w => impl_takes d x w hd hx
  have HY : Hid (takesB d x.size = true → insS d x = (⟨d.rm, x, ⟨#[]⟩, ⟨#[]⟩⟩, true)) := Lib.hid (fun h1 => by have h3 := takes_yes h1; unfold insS; rw [if_pos ⟨h3.1, by omega⟩])
  have HA : Hid (takesB d x.size = false → insS d x = (d, false)) := Lib.hid (fun h => ins_no (takes_no h))
  obtain ⟨q, hq⟩ : ∃ q, q = takesB d x.size := ⟨_, rfl⟩
  rw [← hq] at kd HA HY
  clear hq
  obtain ⟨_, z1, z2, z3⟩ := hd
  obtain ⟨o, s, t, u⟩ := d
  unfold dskV at *
  dsimp only at *
  obtain ⟨X, hX⟩ : ∃ z, z = (w.alloc (.cells #[.int .i64 o, .string s, .string t, .string u] 26)).alloc (.cells #[.int .i64 0, .string ⟨#[]⟩, .string ⟨#[]⟩, .string ⟨#[]⟩] 26) := ⟨_, rfl⟩
  have BB : Hid (Below w.heap.size w X) := Lib.hid (by rw [hX]; exact ((Below.refl _ _).alloc (Nat.le_refl _) _).alloc (by simp) _)
  have hXs : X.heap.size = w.heap.size + 2 := by rw [hX]; simp
  have KT : Hid (X.heap[w.heap.size]? = some (.cells #[.int .i64 o, .string s, .string t, .string u] 26 (0, 0))) := Lib.hid (by rw [hX, Below.heap_alloc _ _ _ (by simp)]; exact heap_new _ _)
  have KR : Hid (X.heap[w.heap.size + 1]? = some (.cells #[.int .i64 0, .string ⟨#[]⟩, .string ⟨#[]⟩, .string ⟨#[]⟩] 26 (0, 0))) := Lib.hid (by rw [hX]; simpa using heap_new (w.alloc (.cells #[.int .i64 o, .string s, .string t, .string u] 26)) (.cells #[.int .i64 0, .string ⟨#[]⟩, .string ⟨#[]⟩, .string ⟨#[]⟩] 26))
  have LT : Hid (w.heap.size < X.heap.size) := Lib.hid (by omega)
  have LR : Hid (w.heap.size + 1 < X.heap.size) := Lib.hid (by omega)
  clear hXs
  go_enter Try.func40, Try.ntmps40
  cases q
  · have HRES : Hid (insS ⟨o, s, t, u⟩ x = (⟨o, s, t, u⟩, false)) := Lib.hid (HA.out rfl)
    clear HA HY
    have fT0 := tcr KT 0
    have fT1 := tcr KT 1
    have fT2 := tcr KT 2
    have fT3 := tcr KT 3
    have zT0 := tfr KT 0
    have zT1 := tfr KT 1
    have zT2 := tfr KT 2
    have zT3 := tfr KT 3
    have hc := kd X
    rw [hX] at hc fT0 fT1 fT2 fT3 zT0 zT1 zT2 zT3
    go_wp2_with (go_at_call 55; refine hc.mono ?_; rintro e w2 ⟨rfl, hb⟩; refine Hid.out ?_)
    refine Lib.hid ?_
    rw [← hX] at hb
    clear hX
    replace KT := tkb hb LT KT
    replace LT := tlz LT hb.size
    replace KR := tkb hb LR KR
    replace LR := tlz LR hb.size
    replace BB := tbt BB hb
    clear hc hb fT0 zT0 fT1 zT1 fT2 zT2 fT3 zT3
    clear kd
    have fT0 := tcr KT 0
    have fT1 := tcr KT 1
    have fT2 := tcr KT 2
    have fT3 := tcr KT 3
    have zT0 := tfr KT 0
    have zT1 := tfr KT 1
    have zT2 := tfr KT 2
    have zT3 := tfr KT 3
    have fR0 := tcr KR 0
    have fR1 := tcr KR 1
    have fR2 := tcr KR 2
    have fR3 := tcr KR 3
    have zR0 := tfr KR 0
    have zR1 := tfr KR 1
    have zR2 := tfr KR 2
    have zR3 := tfr KR 3
    go_wp2_with fail
    obtain ⟨j0, q1, q2, q3, q4⟩ := info_parts infoDsk
    refine bodyPost_ret (results_cellD (P := Try.prog) rfl _ _ (w.heap.size + 1) _ _ (0, 0) _ _ rfl rfl (storeD KR.out) Try.underlying26 rfl (by rw [q1]; simp [q3])) rfl ⟨by rw [HRES.out]; first | done | rfl, belowD BB.out (by omega)⟩
  have HRES : Hid (insS ⟨o, s, t, u⟩ x = (⟨o, x, ⟨#[]⟩, ⟨#[]⟩⟩, true)) := Lib.hid (HY.out rfl)
  clear HA HY
  have fT0 := tcr KT 0
  have fT1 := tcr KT 1
  have fT2 := tcr KT 2
  have fT3 := tcr KT 3
  have zT0 := tfr KT 0
  have zT1 := tfr KT 1
  have zT2 := tfr KT 2
  have zT3 := tfr KT 3
  have hc := kd X
  rw [hX] at hc fT0 fT1 fT2 fT3 zT0 zT1 zT2 zT3
  go_wp2_with (go_at_call 55; refine hc.mono ?_; rintro e w2 ⟨rfl, hb⟩; refine Hid.out ?_)
  refine Lib.hid ?_
  rw [← hX] at hb
  clear hX
  replace KT := tkb hb LT KT
  replace LT := tlz LT hb.size
  replace KR := tkb hb LR KR
  replace LR := tlz LR hb.size
  replace BB := tbt BB hb
  clear hc hb fT0 zT0 fT1 zT1 fT2 zT2 fT3 zT3
  clear kd
  have fT0 := tcr KT 0
  have fT1 := tcr KT 1
  have fT2 := tcr KT 2
  have fT3 := tcr KT 3
  have zT0 := tfr KT 0
  have zT1 := tfr KT 1
  have zT2 := tfr KT 2
  have zT3 := tfr KT 3
  have fR0 := tcr KR 0
  have fR1 := tcr KR 1
  have fR2 := tcr KR 2
  have fR3 := tcr KR 3
  have zR0 := tfr KR 0
  have zR1 := tfr KR 1
  have zR2 := tfr KR 2
  have zR3 := tfr KR 3
  go_wp2_with fail
  obtain ⟨j0, q1, q2, q3, q4⟩ := info_parts infoDsk
  refine bodyPost_ret (results_cellD (P := Try.prog) rfl _ _ (w.heap.size + 1) _ _ (0, 0) _ _ rfl rfl (storeD KR.out) Try.underlying26 rfl (by rw [q1]; simp [q3])) rfl ⟨by rw [HRES.out]; first | done | rfl, belowD BB.out (by omega)⟩
set_option maxRecDepth 100000 in
set_option maxHeartbeats 8000000 in
theorem impl_crash (d : Dsk) (k : Int) (w : World) (hd : SmD d) (hk : -9223372036854775808 ≤ k ∧ k ≤ 9223372036854775807) : Calls Try.prog 31 #[dskV d, .int .i64 k] w fun e w' => e = .returned (dskV (crashS d k)) ∧ Below w.heap.size w w' := by
  have kd := fun w => impl_diskOk d w hd
  have HA : Hid (crashS d k = if dskOk d = true then ⟨d.rm, d.sn, d.kp ++ d.ls.extract 0 (keepN d.ls.size k), ⟨#[]⟩⟩ else d) := Lib.hid rfl
  obtain ⟨q, hq⟩ : ∃ q, q = dskOk d := ⟨_, rfl⟩
  rw [← hq] at kd HA
  clear hq
  obtain ⟨_, z1, z2, z3⟩ := hd
  obtain ⟨o, s, t, u⟩ := d
  unfold dskV at *
  dsimp only at *
  obtain ⟨X, hX⟩ : ∃ z, z = (w.alloc (.cells #[.int .i64 o, .string s, .string t, .string u] 26)).alloc (.cells #[.int .i64 0, .string ⟨#[]⟩, .string ⟨#[]⟩, .string ⟨#[]⟩] 26) := ⟨_, rfl⟩
  have BB : Hid (Below w.heap.size w X) := Lib.hid (by rw [hX]; exact ((Below.refl _ _).alloc (Nat.le_refl _) _).alloc (by simp) _)
  have hXs : X.heap.size = w.heap.size + 2 := by rw [hX]; simp
  have KT : Hid (X.heap[w.heap.size]? = some (.cells #[.int .i64 o, .string s, .string t, .string u] 26 (0, 0))) := Lib.hid (by rw [hX, Below.heap_alloc _ _ _ (by simp)]; exact heap_new _ _)
  have KR : Hid (X.heap[w.heap.size + 1]? = some (.cells #[.int .i64 0, .string ⟨#[]⟩, .string ⟨#[]⟩, .string ⟨#[]⟩] 26 (0, 0))) := Lib.hid (by rw [hX]; simpa using heap_new (w.alloc (.cells #[.int .i64 o, .string s, .string t, .string u] 26)) (.cells #[.int .i64 0, .string ⟨#[]⟩, .string ⟨#[]⟩, .string ⟨#[]⟩] 26))
  have LT : Hid (w.heap.size < X.heap.size) := Lib.hid (by omega)
  have LR : Hid (w.heap.size + 1 < X.heap.size) := Lib.hid (by omega)
  clear hXs
  go_enter Try.func31, Try.ntmps31
  have fT0 := tcr KT 0
  have fT1 := tcr KT 1
  have fT2 := tcr KT 2
  have fT3 := tcr KT 3
  have zT0 := tfr KT 0
  have zT1 := tfr KT 1
  have zT2 := tfr KT 2
  have zT3 := tfr KT 3
  have hc := kd X
  rw [hX] at hc fT0 fT1 fT2 fT3 zT0 zT1 zT2 zT3
  go_wp2_with (go_at_call 22; refine hc.mono ?_; rintro e w1 ⟨rfl, hb⟩; refine Hid.out ?_)
  refine Lib.hid ?_
  rw [← hX] at hb
  clear hX
  replace KT := tkb hb LT KT
  replace LT := tlz LT hb.size
  replace KR := tkb hb LR KR
  replace LR := tlz LR hb.size
  replace BB := tbt BB hb
  clear hc hb fT0 zT0 fT1 zT1 fT2 zT2 fT3 zT3
  clear kd
  cases q
  · have HRES : Hid (crashS ⟨o, s, t, u⟩ k = ⟨o, s, t, u⟩) := Lib.hid HA.out
    have fT0 := tcr KT 0
    have fT1 := tcr KT 1
    have fT2 := tcr KT 2
    have fT3 := tcr KT 3
    have zT0 := tfr KT 0
    have zT1 := tfr KT 1
    have zT2 := tfr KT 2
    have zT3 := tfr KT 3
    have fR0 := tcr KR 0
    have fR1 := tcr KR 1
    have fR2 := tcr KR 2
    have fR3 := tcr KR 3
    have zR0 := tfr KR 0
    have zR1 := tfr KR 1
    have zR2 := tfr KR 2
    have zR3 := tfr KR 3
    go_wp2_with fail
    obtain ⟨j0, q1, q2, q3, q4⟩ := info_parts infoDsk
    refine bodyPost_ret (results_cell_row (P := Try.prog) rfl _ _ (w.heap.size + 1) _ _ (0, 0) _ rfl (storeD KR.out) Try.underlying26 rfl (by rw [q1]; simp [q3])) rfl ⟨by rw [HRES.out]; first | done | rfl, belowD BB.out (by omega)⟩
  by_cases h1 : k < 0
  · have hnn : ¬ (u.size : Int) < 0 := by omega
    have HRES : Hid (crashS ⟨o, s, t, u⟩ k = ⟨o, s, t, ⟨#[]⟩⟩) := Lib.hid (HA.out.trans (by rw [if_pos rfl, show keepN u.size k = 0 by unfold keepN; rw [if_pos h1]]; first | done | simp))
    clear HA
    have ns : ¬ 9223372036854775807 < t.size + (u.extract 0 0).size := by rw [ByteArray.size_extract]; omega
    have fT0 := tcr KT 0
    have fT1 := tcr KT 1
    have fT2 := tcr KT 2
    have fT3 := tcr KT 3
    have zT0 := tfr KT 0
    have zT1 := tfr KT 1
    have zT2 := tfr KT 2
    have zT3 := tfr KT 3
    go_wp2_with fail
    clear fT0 zT0 fT1 zT1 fT2 zT2 fT3 zT3
    have fT0 : w1.drew.cell? ⟨w.heap.size, 0, none⟩ = some (.int .i64 o) := tcr (w := w1.drew) KT 0
    have fT1 : w1.drew.cell? ⟨w.heap.size, 1, none⟩ = some (.string s) := tcr (w := w1.drew) KT 1
    have fT2 : w1.drew.cell? ⟨w.heap.size, 2, none⟩ = some (.string t) := tcr (w := w1.drew) KT 2
    have fT3 : w1.drew.cell? ⟨w.heap.size, 3, none⟩ = some (.string u) := tcr (w := w1.drew) KT 3
    have zT0 : w1.drew.frozen? ⟨w.heap.size, 0, none⟩ = false := tfr (w := w1.drew) KT 0
    have zT1 : w1.drew.frozen? ⟨w.heap.size, 1, none⟩ = false := tfr (w := w1.drew) KT 1
    have zT2 : w1.drew.frozen? ⟨w.heap.size, 2, none⟩ = false := tfr (w := w1.drew) KT 2
    have zT3 : w1.drew.frozen? ⟨w.heap.size, 3, none⟩ = false := tfr (w := w1.drew) KT 3
    go_region
    clear ns fT0 zT0 fT1 zT1 fT2 zT2 fT3 zT3
    obtain ⟨Y, hY⟩ : ∃ Y, Y = (w1.setCell ⟨w.heap.size, 2, none⟩ (.string t)).drew := ⟨_, rfl⟩
    replace KT : Hid (Y.heap[w.heap.size]? = some (.cells #[.int .i64 o, .string s, .string t, .string u] 26 (0, 0))) := Lib.hid (by rw [hY]; exact heap_setCell_same w1 _ 2 _ _ (.string t) KT.out)
    replace KR : Hid (Y.heap[w.heap.size + 1]? = some (.cells #[.int .i64 0, .string ⟨#[]⟩, .string ⟨#[]⟩, .string ⟨#[]⟩] 26 (0, 0))) := Lib.hid (by rw [hY]; exact otherD (w := w1) KR.out (by omega))
    replace BB : Hid (Below w.heap.size w Y) := Lib.hid (by rw [hY]; exact (BB.out.setCell (p := ⟨w.heap.size, 2, none⟩) (Nat.le_refl _) _).drew)
    rw [← hY]
    clear hY
    have fT0 := tcr KT 0
    have fT1 := tcr KT 1
    have fT2 := tcr KT 2
    have fT3 := tcr KT 3
    have zT0 := tfr KT 0
    have zT1 := tfr KT 1
    have zT2 := tfr KT 2
    have zT3 := tfr KT 3
    have fR0 := tcr KR 0
    have fR1 := tcr KR 1
    have fR2 := tcr KR 2
    have fR3 := tcr KR 3
    have zR0 := tfr KR 0
    have zR1 := tfr KR 1
    have zR2 := tfr KR 2
    have zR3 := tfr KR 3
    go_wp2_with fail
    obtain ⟨j0, q1, q2, q3, q4⟩ := info_parts infoDsk
    refine bodyPost_ret (results_cell_row (P := Try.prog) rfl _ _ (w.heap.size + 1) _ _ (0, 0) _ rfl (storeD (otherD KR.out (by omega))) Try.underlying26 rfl (by rw [q1]; simp [q3])) rfl ⟨by rw [HRES.out]; first | done | rfl, belowD (BB.out.setCell (p := ⟨w.heap.size, 3, none⟩) (Nat.le_refl _) _) (by omega)⟩
  by_cases h2 : (u.size : Int) < k
  · have h4 : 0 < k := by omega
    have HRES : Hid (crashS ⟨o, s, t, u⟩ k = ⟨o, s, t ++ u, ⟨#[]⟩⟩) := Lib.hid (HA.out.trans (by rw [if_pos rfl, show keepN u.size k = u.size by unfold keepN; rw [if_neg h1, if_pos h2]]; first | done | simp))
    clear HA
    have ns : ¬ 9223372036854775807 < t.size + (u.extract 0 u.size).size := by rw [ByteArray.size_extract]; omega
    have fT0 := tcr KT 0
    have fT1 := tcr KT 1
    have fT2 := tcr KT 2
    have fT3 := tcr KT 3
    have zT0 := tfr KT 0
    have zT1 := tfr KT 1
    have zT2 := tfr KT 2
    have zT3 := tfr KT 3
    go_wp2_with fail
    clear fT0 zT0 fT1 zT1 fT2 zT2 fT3 zT3
    have fT0 : w1.drew.cell? ⟨w.heap.size, 0, none⟩ = some (.int .i64 o) := tcr (w := w1.drew) KT 0
    have fT1 : w1.drew.cell? ⟨w.heap.size, 1, none⟩ = some (.string s) := tcr (w := w1.drew) KT 1
    have fT2 : w1.drew.cell? ⟨w.heap.size, 2, none⟩ = some (.string t) := tcr (w := w1.drew) KT 2
    have fT3 : w1.drew.cell? ⟨w.heap.size, 3, none⟩ = some (.string u) := tcr (w := w1.drew) KT 3
    have zT0 : w1.drew.frozen? ⟨w.heap.size, 0, none⟩ = false := tfr (w := w1.drew) KT 0
    have zT1 : w1.drew.frozen? ⟨w.heap.size, 1, none⟩ = false := tfr (w := w1.drew) KT 1
    have zT2 : w1.drew.frozen? ⟨w.heap.size, 2, none⟩ = false := tfr (w := w1.drew) KT 2
    have zT3 : w1.drew.frozen? ⟨w.heap.size, 3, none⟩ = false := tfr (w := w1.drew) KT 3
    go_region
    clear ns fT0 zT0 fT1 zT1 fT2 zT2 fT3 zT3
    obtain ⟨p, hp⟩ : ∃ p, p = t ++ u := ⟨_, rfl⟩
    rw [← hp] at HRES ⊢
    clear hp
    obtain ⟨Y, hY⟩ : ∃ Y, Y = (w1.setCell ⟨w.heap.size, 2, none⟩ (.string p)).drew := ⟨_, rfl⟩
    replace KT : Hid (Y.heap[w.heap.size]? = some (.cells #[.int .i64 o, .string s, .string p, .string u] 26 (0, 0))) := Lib.hid (by rw [hY]; exact heap_setCell_same w1 _ 2 _ _ (.string p) KT.out)
    replace KR : Hid (Y.heap[w.heap.size + 1]? = some (.cells #[.int .i64 0, .string ⟨#[]⟩, .string ⟨#[]⟩, .string ⟨#[]⟩] 26 (0, 0))) := Lib.hid (by rw [hY]; exact otherD (w := w1) KR.out (by omega))
    replace BB : Hid (Below w.heap.size w Y) := Lib.hid (by rw [hY]; exact (BB.out.setCell (p := ⟨w.heap.size, 2, none⟩) (Nat.le_refl _) _).drew)
    rw [← hY]
    clear hY
    have fT0 := tcr KT 0
    have fT1 := tcr KT 1
    have fT2 := tcr KT 2
    have fT3 := tcr KT 3
    have zT0 := tfr KT 0
    have zT1 := tfr KT 1
    have zT2 := tfr KT 2
    have zT3 := tfr KT 3
    have fR0 := tcr KR 0
    have fR1 := tcr KR 1
    have fR2 := tcr KR 2
    have fR3 := tcr KR 3
    have zR0 := tfr KR 0
    have zR1 := tfr KR 1
    have zR2 := tfr KR 2
    have zR3 := tfr KR 3
    go_wp2_with fail
    obtain ⟨j0, q1, q2, q3, q4⟩ := info_parts infoDsk
    refine bodyPost_ret (results_cell_row (P := Try.prog) rfl _ _ (w.heap.size + 1) _ _ (0, 0) _ rfl (storeD (otherD KR.out (by omega))) Try.underlying26 rfl (by rw [q1]; simp [q3])) rfl ⟨by rw [HRES.out]; first | done | rfl, belowD (BB.out.setCell (p := ⟨w.heap.size, 3, none⟩) (Nat.le_refl _) _) (by omega)⟩
  obtain ⟨m, rfl⟩ := Int.eq_ofNat_of_zero_le (show 0 ≤ k by omega)
  have h2' : ¬ u.size < m := by omega
  have HRES : Hid (crashS ⟨o, s, t, u⟩ (m : Int) = ⟨o, s, t ++ u.extract 0 m, ⟨#[]⟩⟩) := Lib.hid (HA.out.trans (by rw [if_pos rfl, show keepN u.size (m : Int) = m by unfold keepN; rw [if_neg h1, if_neg h2, Int.toNat_natCast]]; first | done | simp))
  clear HA
  have ns : ¬ 9223372036854775807 < t.size + (u.extract 0 m).size := by rw [ByteArray.size_extract]; omega
  have fT0 := tcr KT 0
  have fT1 := tcr KT 1
  have fT2 := tcr KT 2
  have fT3 := tcr KT 3
  have zT0 := tfr KT 0
  have zT1 := tfr KT 1
  have zT2 := tfr KT 2
  have zT3 := tfr KT 3
  go_wp2_with fail
  clear fT0 zT0 fT1 zT1 fT2 zT2 fT3 zT3
  have fT0 : w1.drew.cell? ⟨w.heap.size, 0, none⟩ = some (.int .i64 o) := tcr (w := w1.drew) KT 0
  have fT1 : w1.drew.cell? ⟨w.heap.size, 1, none⟩ = some (.string s) := tcr (w := w1.drew) KT 1
  have fT2 : w1.drew.cell? ⟨w.heap.size, 2, none⟩ = some (.string t) := tcr (w := w1.drew) KT 2
  have fT3 : w1.drew.cell? ⟨w.heap.size, 3, none⟩ = some (.string u) := tcr (w := w1.drew) KT 3
  have zT0 : w1.drew.frozen? ⟨w.heap.size, 0, none⟩ = false := tfr (w := w1.drew) KT 0
  have zT1 : w1.drew.frozen? ⟨w.heap.size, 1, none⟩ = false := tfr (w := w1.drew) KT 1
  have zT2 : w1.drew.frozen? ⟨w.heap.size, 2, none⟩ = false := tfr (w := w1.drew) KT 2
  have zT3 : w1.drew.frozen? ⟨w.heap.size, 3, none⟩ = false := tfr (w := w1.drew) KT 3
  go_region
  clear ns fT0 zT0 fT1 zT1 fT2 zT2 fT3 zT3
  obtain ⟨p, hp⟩ : ∃ p, p = t ++ u.extract 0 m := ⟨_, rfl⟩
  rw [← hp] at HRES ⊢
  clear hp
  obtain ⟨Y, hY⟩ : ∃ Y, Y = (w1.setCell ⟨w.heap.size, 2, none⟩ (.string p)).drew := ⟨_, rfl⟩
  replace KT : Hid (Y.heap[w.heap.size]? = some (.cells #[.int .i64 o, .string s, .string p, .string u] 26 (0, 0))) := Lib.hid (by rw [hY]; exact heap_setCell_same w1 _ 2 _ _ (.string p) KT.out)
  replace KR : Hid (Y.heap[w.heap.size + 1]? = some (.cells #[.int .i64 0, .string ⟨#[]⟩, .string ⟨#[]⟩, .string ⟨#[]⟩] 26 (0, 0))) := Lib.hid (by rw [hY]; exact otherD (w := w1) KR.out (by omega))
  replace BB : Hid (Below w.heap.size w Y) := Lib.hid (by rw [hY]; exact (BB.out.setCell (p := ⟨w.heap.size, 2, none⟩) (Nat.le_refl _) _).drew)
  rw [← hY]
  clear hY
  have fT0 := tcr KT 0
  have fT1 := tcr KT 1
  have fT2 := tcr KT 2
  have fT3 := tcr KT 3
  have zT0 := tfr KT 0
  have zT1 := tfr KT 1
  have zT2 := tfr KT 2
  have zT3 := tfr KT 3
  have fR0 := tcr KR 0
  have fR1 := tcr KR 1
  have fR2 := tcr KR 2
  have fR3 := tcr KR 3
  have zR0 := tfr KR 0
  have zR1 := tfr KR 1
  have zR2 := tfr KR 2
  have zR3 := tfr KR 3
  go_wp2_with fail
  obtain ⟨j0, q1, q2, q3, q4⟩ := info_parts infoDsk
  refine bodyPost_ret (results_cell_row (P := Try.prog) rfl _ _ (w.heap.size + 1) _ _ (0, 0) _ rfl (storeD (otherD KR.out (by omega))) Try.underlying26 rfl (by rw [q1]; simp [q3])) rfl ⟨by rw [HRES.out]; first | done | rfl, belowD (BB.out.setCell (p := ⟨w.heap.size, 3, none⟩) (Nat.le_refl _) _) (by omega)⟩
set_option maxRecDepth 100000 in
set_option maxHeartbeats 8000000 in
theorem impl_sync (d : Dsk) (w : World) (hd : SmD d) : Calls Try.prog 29 #[dskV d] w fun e w' => e = .returned (dskV (syncS d)) ∧ Below w.heap.size w w' := by
  have kd := fun w => impl_crash d (d.ls.size : Nat) w hd (by have := hd.2.2.2; omega)
  rw [sync_crash] at kd
  clear hd
  obtain ⟨⟨o2, s2, t2, u2⟩, hq⟩ : ∃ q, q = syncS d := ⟨_, rfl⟩
  rw [← hq] at kd ⊢
  clear hq
  obtain ⟨o, s, t, u⟩ := d
  unfold dskV at *
  dsimp only at *
  obtain ⟨X, hX⟩ : ∃ z, z = (w.alloc (.cells #[.int .i64 o, .string s, .string t, .string u] 26)).alloc (.cells #[.int .i64 0, .string ⟨#[]⟩, .string ⟨#[]⟩, .string ⟨#[]⟩] 26) := ⟨_, rfl⟩
  have BB : Hid (Below w.heap.size w X) := Lib.hid (by rw [hX]; exact ((Below.refl _ _).alloc (Nat.le_refl _) _).alloc (by simp) _)
  have hXs : X.heap.size = w.heap.size + 2 := by rw [hX]; simp
  have KT : Hid (X.heap[w.heap.size]? = some (.cells #[.int .i64 o, .string s, .string t, .string u] 26 (0, 0))) := Lib.hid (by rw [hX, Below.heap_alloc _ _ _ (by simp)]; exact heap_new _ _)
  have KR : Hid (X.heap[w.heap.size + 1]? = some (.cells #[.int .i64 0, .string ⟨#[]⟩, .string ⟨#[]⟩, .string ⟨#[]⟩] 26 (0, 0))) := Lib.hid (by rw [hX]; simpa using heap_new (w.alloc (.cells #[.int .i64 o, .string s, .string t, .string u] 26)) (.cells #[.int .i64 0, .string ⟨#[]⟩, .string ⟨#[]⟩, .string ⟨#[]⟩] 26))
  have LT : Hid (w.heap.size < X.heap.size) := Lib.hid (by omega)
  have LR : Hid (w.heap.size + 1 < X.heap.size) := Lib.hid (by omega)
  clear hXs
  go_enter Try.func29, Try.ntmps29
  have fT0 := tcr KT 0
  have fT1 := tcr KT 1
  have fT2 := tcr KT 2
  have fT3 := tcr KT 3
  have zT0 := tfr KT 0
  have zT1 := tfr KT 1
  have zT2 := tfr KT 2
  have zT3 := tfr KT 3
  have hc := kd X
  rw [hX] at hc fT0 fT1 fT2 fT3 zT0 zT1 zT2 zT3
  go_wp2_with (go_at_call 31; refine hc.mono ?_; rintro e w1 ⟨rfl, hb⟩; refine Hid.out ?_)
  refine Lib.hid ?_
  rw [← hX] at hb
  clear hX
  replace KT := tkb hb LT KT
  replace LT := tlz LT hb.size
  replace KR := tkb hb LR KR
  replace LR := tlz LR hb.size
  replace BB := tbt BB hb
  clear hc hb fT0 zT0 fT1 zT1 fT2 zT2 fT3 zT3
  clear kd
  have fT0 := tcr KT 0
  have fT1 := tcr KT 1
  have fT2 := tcr KT 2
  have fT3 := tcr KT 3
  have zT0 := tfr KT 0
  have zT1 := tfr KT 1
  have zT2 := tfr KT 2
  have zT3 := tfr KT 3
  have fR0 := tcr KR 0
  have fR1 := tcr KR 1
  have fR2 := tcr KR 2
  have fR3 := tcr KR 3
  have zR0 := tfr KR 0
  have zR1 := tfr KR 1
  have zR2 := tfr KR 2
  have zR3 := tfr KR 3
  go_wp2_with fail
  obtain ⟨j0, q1, q2, q3, q4⟩ := info_parts infoDsk
  refine bodyPost_ret (results_cell_row (P := Try.prog) rfl _ _ (w.heap.size + 1) _ _ (0, 0) _ rfl (storeD KR.out) Try.underlying26 rfl (by rw [q1]; simp [q3])) rfl ⟨rfl, belowD BB.out (by omega)⟩
end Go.Proofs.Ytkkmjlpeahkiaaa
