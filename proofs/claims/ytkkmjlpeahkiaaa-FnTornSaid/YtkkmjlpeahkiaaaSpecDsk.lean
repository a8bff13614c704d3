/- What the model's DiskOk, Entry, Append, Sync, Crash and Install answer. Condition: a Disk of a small size. -/
import Derived.Test.YtkkmjlpeahkiaaaTk
import Derived.Test.YtkkmjlpeahkiaaaDskForms
import Derived.Test.YtkkmjlpeahkiaaaIn
import Derived.Test.YtkkmjlpeahkiaaaTextNum
import Derived.Test.YtkkmjlpeahkiaaaSeal
import Derived.Deep.QuietTactic
import Derived.BigQuiet
import Derived.RegionTactic
namespace Go.Proofs.Ytkkmjlpeahkiaaa
open Go.RowKit
set_option linter.unusedVariables false
set_option linter.unusedSimpArgs false

theorem infoDsk : (Try.prog.info? 26).map (fun i => (i.zero, i.size, i.bytes)) = some (some (.agg #[.int .i64 0, .string ⟨#[]⟩, .string ⟨#[]⟩, .string ⟨#[]⟩]), 4, 56) := by kernel_rfl
theorem storeD {w : World} {g : Nat} {a b c d x y z u : Value} (h : w.heap[g]? = some (.cells #[a, b, c, d] 26 (0, 0))) :
    ((((w.setCell ⟨g, 0, none⟩ x).setCell ⟨g, 1, none⟩ y).setCell ⟨g, 2, none⟩ z).setCell ⟨g, 3, none⟩ u).heap[g]? = some (.cells #[x, y, z, u] 26 (0, 0)) :=
  heap_setCell_same _ g 3 _ _ u (heap_setCell_same _ g 2 _ _ z (heap_setCell_same _ g 1 _ _ y (heap_setCell_same _ g 0 _ _ x h)))
theorem belowD {w0 w : World} {g n : Nat} {x y z u : Value} (h : Below n w0 w) (hg : n ≤ g) :
    Below n w0 ((((w.setCell ⟨g, 0, none⟩ x).setCell ⟨g, 1, none⟩ y).setCell ⟨g, 2, none⟩ z).setCell ⟨g, 3, none⟩ u) :=
  (((h.setCell (p := ⟨g, 0, none⟩) hg _).setCell (p := ⟨g, 1, none⟩) hg _).setCell (p := ⟨g, 2, none⟩) hg _).setCell (p := ⟨g, 3, none⟩) hg _
theorem otherD {w : World} {g k i : Nat} {v : Value} {o : Option Obj} (h : w.heap[g]? = o) (hk : g ≠ k) : (w.setCell ⟨k, i, none⟩ v).heap[g]? = o := (heap_setCell_other w ⟨k, i, none⟩ g v hk).trans h
theorem results_cellD {P : Program} {fn : Func} {p q : Tmp} {ty : TypeId} (h : fn.results = #[.cell p ty, .tmp q]) (tmps : Array Value) (w : World) (g : Nat) (t : TypeId) (cs : Array Value) (fr : Nat × Nat) (d : TypeDesc) (v : Value)
    (hp : tmps.getD p undef = .pointer (some ⟨g, 0, none⟩)) (hq : tmps.getD q undef = v) (hg : w.heap[g]? = some (.cells cs t fr))
    (hu : P.underlying ty = some d) (hd : (match d with | .struct _ | .array _ _ => true | _ => false) = true) (hi : (P.info? ty).map (·.size) = some cs.size) :
    (results fn tmps).run P w = .ok (.tuple #[.agg cs, v]) w := by
  have hp' : tmps[p]?.getD undef = .pointer (some ⟨g, 0, none⟩) := by simpa using hp
  have hq' : tmps[q]?.getD undef = v := by simpa using hq
  simp [results, h, hp', hq', asAddr, run_loadVar_row w g t ty cs fr d hg hu hd hi]
theorem app_no {d : Dsk} {x : ByteArray} (h : dskOk d = false ∨ (entB x).size = 0 ∨ d.rm < (usedD d : Int) + ((entB x).size : Int)) : appS d x = (d, false) := by
  unfold appS
  rw [if_neg]
  rintro ⟨h1, h2, h3⟩
  rcases h with h | h | h
  · rw [h] at h1; cases h1
  · exact h2 h
  · omega
theorem ins_no {d : Dsk} {x : ByteArray} (h : dskOk d = false ∨ d.rm < (usedD d : Int) + (x.size : Int)) : insS d x = (d, false) := by
  unfold insS
  rw [if_neg]
  rintro ⟨h1, h3⟩
  rcases h with h | h
  · rw [h] at h1; cases h1
  · omega
theorem isEmpty_yes {s : ByteArray} (h : s.size = 0) : s.toList.isEmpty = true ∧ s = ⟨#[]⟩ := by
  have : s = ⟨#[]⟩ := ByteArray.ext (Array.eq_empty_of_size_eq_zero h)
  subst this
  exact ⟨by simp [ByteArray.toList_eq], rfl⟩
theorem isEmpty_no {s : ByteArray} (h : ¬ s.size = 0) : s.toList.isEmpty = false := by
  cases hs : s.toList.isEmpty with
  | false => rfl
  | true =>
    exfalso
    apply h
    rw [ByteArray.toList_eq] at hs
    have := List.isEmpty_iff.1 hs
    have h2 := congrArg List.length this
    simpa using h2

set_option maxHeartbeats 1000000 in
theorem spec_used (d : Dsk) (w : World) (hd : SmD d) : Calls Try.prog 54 #[dskV d] w fun e w' => e = .returned (.int .i64 (usedD d : Nat)) ∧ Below w.heap.size w w' := by
  obtain ⟨o, s, t, u⟩ := d
  obtain ⟨_, h1, h2, h3⟩ := hd
  unfold dskV
  dsimp only at *
  have HU : Hid ((s.size : Int) + t.size + u.size = (usedD ⟨o, s, t, u⟩ : Nat)) := Lib.hid (by show _ = ((s.size + t.size + u.size : Nat) : Int); omega)
  have BW : Hid (Below w.heap.size w (w.alloc (.cells #[.int .i64 o, .string s, .string t, .string u] 26))) := Lib.hid ((Below.refl _ _).alloc (Nat.le_refl _) _)
  go_enter Try.func54, Try.ntmps54
  go_wp2
  go_ret
  exact ⟨ret_int HU.out, BW.out⟩
set_option maxHeartbeats 1000000 in
theorem spec_entry (s : ByteArray) (w : World) (hs : s.size ≤ 549755813888) : Calls Try.prog 23 #[.string s] w fun e w' => e = .returned (.string (entB s)) ∧ Below w.heap.size w w' := by
  have hz := seal_size4 s
  have k1 := fun w => spec_sealed s w (by omega)
  have k2 := fun w => spec_putText (sealB s) w (by unfold maxLen; omega)
  unfold entB
  obtain ⟨x, hx⟩ : ∃ x, x = sealB s := ⟨_, rfl⟩
  rw [← hx] at k1 k2 ⊢
  clear hx hz
  go_enter Try.func23, Try.ntmps23
  go_wp2_with (first | (go_at_call 57; refine (k1 _).mono ?_; rintro e w1 ⟨rfl, hb1⟩; replace hb1 := Lib.hid hb1) | (go_at_call 56; refine (k2 _).mono ?_; rintro e w2 ⟨rfl, hb2⟩; replace hb2 := Lib.hid hb2))
  go_ret
  exact ⟨rfl, hb1.out.trans (hb2.out.mono hb1.out.size)⟩
set_option maxRecDepth 100000 in
set_option maxHeartbeats 8000000 in
theorem spec_diskOk (d : Dsk) (w : World) (hd : SmD d) : Calls Try.prog 20 #[dskV d] w fun e w' => e = .returned (.bool (dskOk d)) ∧ Below w.heap.size w w' := by
  have ku := fun w => spec_used d w hd
  have HK : Hid (dskOk d = (inB d.rm 0 4000 && decide ((usedD d : Int) ≤ d.rm))) := Lib.hid rfl
  obtain ⟨n, hn⟩ : ∃ n, n = usedD d := ⟨_, rfl⟩
  rw [← hn] at ku HK
  obtain ⟨o, s, t, u⟩ := d
  unfold dskV at *
  dsimp only at *
  have ki := fun w => (in_any o 0 4000 w).mono (fun e w' (h : _ ∧ w = w') => (⟨h.1, by rw [← h.2]; exact Below.refl _ _⟩ : e = .returned (.bool (inB o 0 4000)) ∧ Below w.heap.size w w'))
  rw [HK.out]
  obtain ⟨r, hr⟩ : ∃ r, r = inB o 0 4000 := ⟨_, rfl⟩
  rw [← hr] at ki ⊢
  clear hr hn hd HK
  obtain ⟨X, hX⟩ : ∃ z, z = w.alloc (.cells #[.int .i64 o, .string s, .string t, .string u] 26) := ⟨_, rfl⟩
  have BB : Hid (Below w.heap.size w X) := Lib.hid (by rw [hX]; exact (Below.refl _ _).alloc (Nat.le_refl _) _)
  have KT : Hid (X.heap[w.heap.size]? = some (.cells #[.int .i64 o, .string s, .string t, .string u] 26 (0, 0))) := Lib.hid (by rw [hX]; exact heap_new _ _)
  have LT : Hid (w.heap.size < X.heap.size) := Lib.hid (by rw [hX]; simp)
  go_enter Try.func20, Try.ntmps20
  go_wp2_with fail
  rw [← hX]
  clear hX
  have FT : Hid (∀ w', Below X.heap.size X w' → w'.cell? ⟨w.heap.size, 0, none⟩ = some (.int .i64 o) ∧ w'.cell? ⟨w.heap.size, 1, none⟩ = some (.string s) ∧ w'.cell? ⟨w.heap.size, 2, none⟩ = some (.string t) ∧ w'.cell? ⟨w.heap.size, 3, none⟩ = some (.string u)) := Lib.hid (fun w' h => by have K := tkb h LT KT; exact ⟨tcr K 0, tcr K 1, tcr K 2, tcr K 3⟩)
  refine wp_region_held_drew (S := (fun w' => Below X.heap.size X w')) (by kernel_rfl) (Below.refl _ _).drew (fun hHeld => ?_)
  obtain ⟨zD, hzD⟩ : ∃ zz, zz = X.drew := ⟨_, rfl⟩
  rw [← hzD] at hHeld ⊢
  clear hzD
  have BD := Lib.hid hHeld
  refine tk0 0 ?_
  refine tk 1 (v := ?_) ?_ ?_; rotate_left
  · refine Or.inl ⟨by rfl, ?_⟩; intro w hSw; obtain ⟨f0, f1, f2, f3⟩ := FT.out w hSw; go_simp; first | done | with_reducible rfl
  refine rd1 2 (fun K hK => ?_)
  go_simp
  have hc := ki zD
  go_at_call 53
  refine hc.mono ?_
  rintro e w2 ⟨rfl, hb⟩
  replace BD := tbt BD hb
  clear hc hb
  go_wp2_with fail
  refine hK.out _ _ BD.out (fun hHeld => ?_)
  clear hK K
  refine tk0 3 ?_
  cases r
  · skip
    refine tku 4 ?_
    refine tku 5 ?_
    refine tku 6 ?_
    refine tku 7 ?_
    refine tku 8 ?_
    refine tk0 9 ?_
    refine tk0 10 ?_
    refine wpAnyH_done (by kernel_rfl) ?_ _
    clear hHeld FT
    have hb := BD.out
    replace KT := tkb hb LT KT
    replace LT := tlz LT hb.size
    replace BB := tbt BB hb
    clear hb BD
    clear ku
    go_wp2_with fail
    go_ret
    exact ⟨rfl, BB.out⟩
  · skip
    refine tk 4 (v := ?_) ?_ ?_; rotate_left
    · refine Or.inl ⟨by rfl, ?_⟩; intro w hSw; obtain ⟨f0, f1, f2, f3⟩ := FT.out w hSw; go_simp; first | done | with_reducible rfl
    refine tk0 6 ?_
    refine tk 7 (v := ?_) ?_ ?_; rotate_left
    · refine Or.inl ⟨by rfl, ?_⟩; intro w hSw; obtain ⟨f0, f1, f2, f3⟩ := FT.out w hSw; go_simp; first | done | with_reducible rfl
    refine rd1 5 (fun K hK => ?_)
    go_simp
    have hc := ku w2
    go_at_call 54
    refine hc.mono ?_
    rintro e w3 ⟨rfl, hb⟩
    replace BD := tbt BD hb
    clear hc hb
    go_wp2_with fail
    refine hK.out _ _ BD.out (fun hHeld => ?_)
    clear hK K
    refine tk0 8 ?_
    refine tk0 9 ?_
    refine tk0 10 ?_
    refine wpAnyH_done (by kernel_rfl) ?_ _
    clear hHeld FT
    have hb := BD.out
    replace KT := tkb hb LT KT
    replace LT := tlz LT hb.size
    replace BB := tbt BB hb
    clear hb BD
    clear ku
    go_wp2_with fail
    go_ret
    exact ⟨rfl, BB.out⟩
set_option maxRecDepth 100000 in
set_option maxHeartbeats 8000000 in
theorem spec_append (d : Dsk) (x : ByteArray) (w : World) (hd : SmD d) (hx : x.size ≤ 549755813888) : Calls Try.prog 25 #[dskV d, .string x] w fun e w' => e = .returned (.tuple #[dskV (appS d x).1, .bool (appS d x).2]) ∧ Below w.heap.size w w' := by
  have ke := fun w => spec_entry x w hx
  have kd := fun w => spec_diskOk d w hd
  have ku := fun w => spec_used d w hd
  have hez : (entB x).size ≤ 65537 := by rw [ent_size]; split <;> omega
  have HY : Hid (dskOk d = true → (entB x).size ≠ 0 → (usedD d : Int) + ((entB x).size : Int) ≤ d.rm → appS d x = (⟨d.rm, d.sn, d.kp, d.ls ++ entB x⟩, true)) := Lib.hid (fun h1 h2 h3 => by unfold appS; rw [if_pos ⟨h1, h2, by omega⟩])
  have HA : Hid (dskOk d = false ∨ (entB x).size = 0 ∨ d.rm < (usedD d : Int) + ((entB x).size : Int) → appS d x = (d, false)) := Lib.hid app_no
  have hu3 : usedD d ≤ 12582912 := by unfold usedD; unfold SmD at hd; omega
  obtain ⟨E, hE⟩ : ∃ z, z = entB x := ⟨_, rfl⟩
  obtain ⟨n, hn⟩ : ∃ n, n = usedD d := ⟨_, rfl⟩
  obtain ⟨q, hq⟩ : ∃ q, q = dskOk d := ⟨_, rfl⟩
  rw [← hE] at ke HA HY hez
  rw [← hn] at ku HA HY hu3
  rw [← hq] at kd HA HY
  clear hE hn hq
  obtain ⟨_, z1, z2, z3⟩ := hd
  obtain ⟨o, s, t, u⟩ := d
  unfold dskV at *
  dsimp only at *
  obtain ⟨X, hX⟩ : ∃ z, z = (w.alloc (.cells #[.int .i64 o, .string s, .string t, .string u] 26)).alloc (.cells #[.int .i64 0, .string ⟨#[]⟩, .string ⟨#[]⟩, .string ⟨#[]⟩] 26) := ⟨_, rfl⟩
  have BB : Hid (Below w.heap.size w X) := Lib.hid (by rw [hX]; exact ((Below.refl _ _).alloc (Nat.le_refl _) _).alloc (by simp) _)
  have hXs : X.heap.size = w.heap.size + 2 := by rw [hX]; simp
  have KT : Hid (X.heap[w.heap.size]? = some (.cells #[.int .i64 o, .string s, .string t, .string u] 26 (0, 0))) := Lib.hid (by rw [hX, Below.heap_alloc _ _ _ (by simp)]; exact heap_new _ _)
  have KR : Hid (X.heap[w.heap.size + 1]? = some (.cells #[.int .i64 0, .string ⟨#[]⟩, .string ⟨#[]⟩, .string ⟨#[]⟩] 26 (0, 0))) := Lib.hid (by rw [hX]; simpa using heap_new (w.alloc (.cells #[.int .i64 o, .string s, .string t, .string u] 26)) (.cells #[.int .i64 0, .string ⟨#[]⟩, .string ⟨#[]⟩, .string ⟨#[]⟩] 26))
  have LT : Hid (w.heap.size < X.heap.size) := Lib.hid (by omega)
  have LR : Hid (w.heap.size + 1 < X.heap.size) := Lib.hid (by omega)
  clear hXs
  go_enter Try.func25, Try.ntmps25
  have hc := ke X
  rw [hX] at hc
  go_wp2_with (go_at_call 23; refine hc.mono ?_; rintro e w1 ⟨rfl, hb⟩; refine Hid.out ?_)
  refine Lib.hid ?_
  rw [← hX] at hb
  clear hX
  replace KT := tkb hb LT KT
  replace LT := tlz LT hb.size
  replace KR := tkb hb LR KR
  replace LR := tlz LR hb.size
  replace BB := tbt BB hb
  clear hc hb
  clear ke
  go_wp2_with fail
  have FT : Hid (∀ w', Below w1.heap.size w1 w' → w'.cell? ⟨w.heap.size, 0, none⟩ = some (.int .i64 o) ∧ w'.cell? ⟨w.heap.size, 1, none⟩ = some (.string s) ∧ w'.cell? ⟨w.heap.size, 2, none⟩ = some (.string t) ∧ w'.cell? ⟨w.heap.size, 3, none⟩ = some (.string u)) := Lib.hid (fun w' h => by have K := tkb h LT KT; exact ⟨tcr K 0, tcr K 1, tcr K 2, tcr K 3⟩)
  refine wp_region_held_drew (S := (fun w' => Below w1.heap.size w1 w')) (by kernel_rfl) (Below.refl _ _).drew (fun hHeld => ?_)
  obtain ⟨zD, hzD⟩ : ∃ zz, zz = w1.drew := ⟨_, rfl⟩
  rw [← hzD] at hHeld ⊢
  clear hzD
  have BD := Lib.hid hHeld
  refine tk 0 (v := ?_) ?_ ?_; rotate_left
  · refine Or.inl ⟨by rfl, ?_⟩; intro w hSw; obtain ⟨f0, f1, f2, f3⟩ := FT.out w hSw; go_simp; first | done | with_reducible rfl
  refine rd1 1 (fun K hK => ?_)
  go_simp
  have hc := kd zD
  go_at_call 20
  refine hc.mono ?_
  rintro e w2 ⟨rfl, hb⟩
  replace BD := tbt BD hb
  clear hc hb
  go_wp2_with fail
  refine hK.out _ _ BD.out (fun hHeld => ?_)
  clear hK K
  refine tk0 2 ?_
  refine tk0 3 ?_
  cases q
  · skip
    have HRES : Hid (appS ⟨o, s, t, u⟩ x = (⟨o, s, t, u⟩, false)) := Lib.hid (HA.out (Or.inl rfl))
    clear HA HY
    refine tku 4 ?_
    refine tku 5 ?_
    refine tk0 6 ?_
    refine tk0 7 ?_
    refine tku 8 ?_
    refine tku 9 ?_
    refine tku 10 ?_
    refine tku 11 ?_
    refine tku 12 ?_
    refine tku 13 ?_
    refine tku 14 ?_
    refine tku 15 ?_
    refine tk0 16 ?_
    refine wpAnyH_done (by kernel_rfl) ?_ _
    clear hHeld FT
    have hb := BD.out
    replace KT := tkb hb LT KT
    replace LT := tlz LT hb.size
    replace KR := tkb hb LR KR
    replace LR := tlz LR hb.size
    replace BB := tbt BB hb
    clear hb BD
    clear kd ku
    have fT0 := tcr KT 0
    have fT1 := tcr KT 1
    have fT2 := tcr KT 2
    have fT3 := tcr KT 3
    have zT0 := tfr KT 0
    have zT1 := tfr KT 1
    have zT2 := tfr KT 2
    have zT3 := tfr KT 3
    have fR0 := tcr KR 0
    have fR1 := tcr KR 1
    have fR2 := tcr KR 2
    have fR3 := tcr KR 3
    have zR0 := tfr KR 0
    have zR1 := tfr KR 1
    have zR2 := tfr KR 2
    have zR3 := tfr KR 3
    go_wp2_with fail
    obtain ⟨j0, q1, q2, q3, q4⟩ := info_parts infoDsk
    refine bodyPost_ret (results_cellD (P := Try.prog) rfl _ _ (w.heap.size + 1) _ _ (0, 0) _ _ rfl rfl (storeD KR.out) Try.underlying26 rfl (by rw [q1]; simp [q3])) rfl ⟨by rw [HRES.out]; first | done | rfl, belowD BB.out (by omega)⟩
  replace HY := Lib.hid (HY.out rfl)
  by_cases h0 : E.size = 0
  · skip
    have HRES : Hid (appS ⟨o, s, t, u⟩ x = (⟨o, s, t, u⟩, false)) := Lib.hid (HA.out (Or.inr (Or.inl h0)))
    clear HA HY
    have he := (isEmpty_yes h0).1
    refine tk0 4 ?_
    refine tk0 5 ?_
    refine tk0 6 ?_
    refine tk0 7 ?_
    refine tku 8 ?_
    refine tku 9 ?_
    refine tku 10 ?_
    refine tku 11 ?_
    refine tku 12 ?_
    refine tku 13 ?_
    refine tku 14 ?_
    refine tku 15 ?_
    refine tk0 16 ?_
    refine wpAnyH_done (by kernel_rfl) ?_ _
    clear hHeld FT
    have hb := BD.out
    replace KT := tkb hb LT KT
    replace LT := tlz LT hb.size
    replace KR := tkb hb LR KR
    replace LR := tlz LR hb.size
    replace BB := tbt BB hb
    clear hb BD
    clear kd ku h0
    have fT0 := tcr KT 0
    have fT1 := tcr KT 1
    have fT2 := tcr KT 2
    have fT3 := tcr KT 3
    have zT0 := tfr KT 0
    have zT1 := tfr KT 1
    have zT2 := tfr KT 2
    have zT3 := tfr KT 3
    have fR0 := tcr KR 0
    have fR1 := tcr KR 1
    have fR2 := tcr KR 2
    have fR3 := tcr KR 3
    have zR0 := tfr KR 0
    have zR1 := tfr KR 1
    have zR2 := tfr KR 2
    have zR3 := tfr KR 3
    go_wp2_with fail
    obtain ⟨j0, q1, q2, q3, q4⟩ := info_parts infoDsk
    refine bodyPost_ret (results_cellD (P := Try.prog) rfl _ _ (w.heap.size + 1) _ _ (0, 0) _ _ rfl rfl (storeD KR.out) Try.underlying26 rfl (by rw [q1]; simp [q3])) rfl ⟨by rw [HRES.out]; first | done | rfl, belowD BB.out (by omega)⟩
  replace HY := Lib.hid (HY.out h0)
  have he := isEmpty_no h0
  clear h0
  have hw : IntKind.i64.wrap ((n : Int) + (E.size : Int)) = (n : Int) + (E.size : Int) := by rw [IntKind.wrap_i64]; omega
  by_cases hf : o < (n : Int) + (E.size : Int)
  · have hfd : decide (o < (n : Int) + (E.size : Int)) = true := by simpa using hf
    have HRES : Hid (appS ⟨o, s, t, u⟩ x = (⟨o, s, t, u⟩, false)) := Lib.hid (HA.out (Or.inr (Or.inr hf)))
    clear HA HY
    refine tk0 4 ?_
    refine tk0 5 ?_
    refine tk0 6 ?_
    refine tk0 7 ?_
    refine tk 8 (v := ?_) ?_ ?_; rotate_left
    · refine Or.inl ⟨by rfl, ?_⟩; intro w hSw; obtain ⟨f0, f1, f2, f3⟩ := FT.out w hSw; go_simp; first | done | with_reducible rfl
    refine tk0 10 ?_
    refine tk0 11 ?_
    refine tk0 13 ?_
    refine tk 14 (v := ?_) ?_ ?_; rotate_left
    · refine Or.inl ⟨by rfl, ?_⟩; intro w hSw; obtain ⟨f0, f1, f2, f3⟩ := FT.out w hSw; go_simp; first | done | with_reducible rfl
    refine rd1 9 (fun K hK => ?_)
    go_simp
    have hc := ku w2
    go_at_call 54
    refine hc.mono ?_
    rintro e w3 ⟨rfl, hb⟩
    replace BD := tbt BD hb
    clear hc hb
    go_wp2_with fail
    refine hK.out _ _ BD.out (fun hHeld => ?_)
    clear hK K
    refine tk0 12 ?_
    refine tk0 15 ?_
    refine tk0 16 ?_
    refine wpAnyH_done (by kernel_rfl) ?_ _
    clear hHeld FT
    have hb := BD.out
    replace KT := tkb hb LT KT
    replace LT := tlz LT hb.size
    replace KR := tkb hb LR KR
    replace LR := tlz LR hb.size
    replace BB := tbt BB hb
    clear hb BD
    clear kd ku hf hfd hw
    have fT0 := tcr KT 0
    have fT1 := tcr KT 1
    have fT2 := tcr KT 2
    have fT3 := tcr KT 3
    have zT0 := tfr KT 0
    have zT1 := tfr KT 1
    have zT2 := tfr KT 2
    have zT3 := tfr KT 3
    have fR0 := tcr KR 0
    have fR1 := tcr KR 1
    have fR2 := tcr KR 2
    have fR3 := tcr KR 3
    have zR0 := tfr KR 0
    have zR1 := tfr KR 1
    have zR2 := tfr KR 2
    have zR3 := tfr KR 3
    go_wp2_with fail
    obtain ⟨j0, q1, q2, q3, q4⟩ := info_parts infoDsk
    refine bodyPost_ret (results_cellD (P := Try.prog) rfl _ _ (w.heap.size + 1) _ _ (0, 0) _ _ rfl rfl (storeD KR.out) Try.underlying26 rfl (by rw [q1]; simp [q3])) rfl ⟨by rw [HRES.out]; first | done | rfl, belowD BB.out (by omega)⟩
  have hfd : decide (o < (n : Int) + (E.size : Int)) = false := by simpa using hf
  have HRES : Hid (appS ⟨o, s, t, u⟩ x = (⟨o, s, t, u ++ E⟩, true)) := Lib.hid (HY.out (by omega))
  clear HA HY
  refine tk0 4 ?_
  refine tk0 5 ?_
  refine tk0 6 ?_
  refine tk0 7 ?_
  refine tk 8 (v := ?_) ?_ ?_; rotate_left
  · refine Or.inl ⟨by rfl, ?_⟩; intro w hSw; obtain ⟨f0, f1, f2, f3⟩ := FT.out w hSw; go_simp; first | done | with_reducible rfl
  refine tk0 10 ?_
  refine tk0 11 ?_
  refine tk0 13 ?_
  refine tk 14 (v := ?_) ?_ ?_; rotate_left
  · refine Or.inl ⟨by rfl, ?_⟩; intro w hSw; obtain ⟨f0, f1, f2, f3⟩ := FT.out w hSw; go_simp; first | done | with_reducible rfl
  refine rd1 9 (fun K hK => ?_)
  go_simp
  have hc := ku w2
  go_at_call 54
  refine hc.mono ?_
  rintro e w3 ⟨rfl, hb⟩
  replace BD := tbt BD hb
  clear hc hb
  go_wp2_with fail
  refine hK.out _ _ BD.out (fun hHeld => ?_)
  clear hK K
  refine tk0 12 ?_
  refine tk0 15 ?_
  refine tk0 16 ?_
  refine wpAnyH_done (by kernel_rfl) ?_ _
  clear hHeld FT
  have hb := BD.out
  replace KT := tkb hb LT KT
  replace LT := tlz LT hb.size
  replace KR := tkb hb LR KR
  replace LR := tlz LR hb.size
  replace BB := tbt BB hb
  clear hb BD
  clear kd ku hf hfd hw
  have ns : ¬ 9223372036854775807 < u.size + E.size := by omega
  have fT0 := tcr KT 0
  have fT1 := tcr KT 1
  have fT2 := tcr KT 2
  have fT3 := tcr KT 3
  have zT0 := tfr KT 0
  have zT1 := tfr KT 1
  have zT2 := tfr KT 2
  have zT3 := tfr KT 3
  have fR0 := tcr KR 0
  have fR1 := tcr KR 1
  have fR2 := tcr KR 2
  have fR3 := tcr KR 3
  have zR0 := tfr KR 0
  have zR1 := tfr KR 1
  have zR2 := tfr KR 2
  have zR3 := tfr KR 3
  go_wp2_with fail
  obtain ⟨j0, q1, q2, q3, q4⟩ := info_parts infoDsk
  refine bodyPost_ret (results_cellD (P := Try.prog) rfl _ _ (w.heap.size + 1) _ _ (0, 0) _ _ rfl rfl (storeD (otherD KR.out (by omega))) Try.underlying26 rfl (by rw [q1]; simp [q3])) rfl ⟨by rw [HRES.out]; first | done | rfl, belowD (BB.out.setCell (p := ⟨w.heap.size, 3, none⟩) (Nat.le_refl _) _) (by omega)⟩
set_option maxRecDepth 100000 in
set_option maxHeartbeats 8000000 in
theorem spec_install (d : Dsk) (x : ByteArray) (w : World) (hd : SmD d) (hx : x.size ≤ 549755813888) : Calls Try.prog 39 #[dskV d, .string x] w fun e w' => e = .returned (.tuple #[dskV (insS d x).1, .bool (insS d x).2]) ∧ Below w.heap.size w w' := by
  have kd := fun w => spec_diskOk d w hd
  have ku := fun w => spec_used d w hd
  have HY : Hid (dskOk d = true → (usedD d : Int) + (x.size : Int) ≤ d.rm → insS d x = (⟨d.rm, x, ⟨#[]⟩, ⟨#[]⟩⟩, true)) := Lib.hid (fun h1 h3 => by unfold insS; rw [if_pos ⟨h1, by omega⟩])
  have HA : Hid (dskOk d = false ∨ d.rm < (usedD d : Int) + (x.size : Int) → insS d x = (d, false)) := Lib.hid ins_no
  have hu3 : usedD d ≤ 12582912 := by unfold usedD; unfold SmD at hd; omega
  obtain ⟨n, hn⟩ : ∃ n, n = usedD d := ⟨_, rfl⟩
  obtain ⟨q, hq⟩ : ∃ q, q = dskOk d := ⟨_, rfl⟩
  rw [← hn] at ku HA HY hu3
  rw [← hq] at kd HA HY
  clear hn hq hd
  obtain ⟨o, s, t, u⟩ := d
  unfold dskV at *
  dsimp only at *
  obtain ⟨X, hX⟩ : ∃ z, z = (w.alloc (.cells #[.int .i64 o, .string s, .string t, .string u] 26)).alloc (.cells #[.int .i64 0, .string ⟨#[]⟩, .string ⟨#[]⟩, .string ⟨#[]⟩] 26) := ⟨_, rfl⟩
  have BB : Hid (Below w.heap.size w X) := Lib.hid (by rw [hX]; exact ((Below.refl _ _).alloc (Nat.le_refl _) _).alloc (by simp) _)
  have hXs : X.heap.size = w.heap.size + 2 := by rw [hX]; simp
  have KT : Hid (X.heap[w.heap.size]? = some (.cells #[.int .i64 o, .string s, .string t, .string u] 26 (0, 0))) := Lib.hid (by rw [hX, Below.heap_alloc _ _ _ (by simp)]; exact heap_new _ _)
  have KR : Hid (X.heap[w.heap.size + 1]? = some (.cells #[.int .i64 0, .string ⟨#[]⟩, .string ⟨#[]⟩, .string ⟨#[]⟩] 26 (0, 0))) := Lib.hid (by rw [hX]; simpa using heap_new (w.alloc (.cells #[.int .i64 o, .string s, .string t, .string u] 26)) (.cells #[.int .i64 0, .string ⟨#[]⟩, .string ⟨#[]⟩, .string ⟨#[]⟩] 26))
  have LT : Hid (w.heap.size < X.heap.size) := Lib.hid (by omega)
  have LR : Hid (w.heap.size + 1 < X.heap.size) := Lib.hid (by omega)
  clear hXs
  go_enter Try.func39, Try.ntmps39
  go_wp2_with fail
  rw [← hX]
  clear hX
  have FT : Hid (∀ w', Below X.heap.size X w' → w'.cell? ⟨w.heap.size, 0, none⟩ = some (.int .i64 o) ∧ w'.cell? ⟨w.heap.size, 1, none⟩ = some (.string s) ∧ w'.cell? ⟨w.heap.size, 2, none⟩ = some (.string t) ∧ w'.cell? ⟨w.heap.size, 3, none⟩ = some (.string u)) := Lib.hid (fun w' h => by have K := tkb h LT KT; exact ⟨tcr K 0, tcr K 1, tcr K 2, tcr K 3⟩)
  refine wp_region_held_drew (S := (fun w' => Below X.heap.size X w')) (by kernel_rfl) (Below.refl _ _).drew (fun hHeld => ?_)
  obtain ⟨zD, hzD⟩ : ∃ zz, zz = X.drew := ⟨_, rfl⟩
  rw [← hzD] at hHeld ⊢
  clear hzD
  have BD := Lib.hid hHeld
  refine tk 0 (v := ?_) ?_ ?_; rotate_left
  · refine Or.inl ⟨by rfl, ?_⟩; intro w hSw; obtain ⟨f0, f1, f2, f3⟩ := FT.out w hSw; go_simp; first | done | with_reducible rfl
  refine rd1 1 (fun K hK => ?_)
  go_simp
  have hc := kd zD
  go_at_call 20
  refine hc.mono ?_
  rintro e w2 ⟨rfl, hb⟩
  replace BD := tbt BD hb
  clear hc hb
  go_wp2_with fail
  refine hK.out _ _ BD.out (fun hHeld => ?_)
  clear hK K
  refine tk0 2 ?_
  refine tk0 3 ?_
  cases q
  · skip
    have HRES : Hid (insS ⟨o, s, t, u⟩ x = (⟨o, s, t, u⟩, false)) := Lib.hid (HA.out (Or.inl rfl))
    clear HA HY
    refine tku 4 ?_
    refine tku 5 ?_
    refine tku 6 ?_
    refine tku 7 ?_
    refine tku 8 ?_
    refine tku 9 ?_
    refine tku 10 ?_
    refine tku 11 ?_
    refine tk0 12 ?_
    refine wpAnyH_done (by kernel_rfl) ?_ _
    clear hHeld FT
    have hb := BD.out
    replace KT := tkb hb LT KT
    replace LT := tlz LT hb.size
    replace KR := tkb hb LR KR
    replace LR := tlz LR hb.size
    replace BB := tbt BB hb
    clear hb BD
    clear kd ku
    have fT0 := tcr KT 0
    have fT1 := tcr KT 1
    have fT2 := tcr KT 2
    have fT3 := tcr KT 3
    have zT0 := tfr KT 0
    have zT1 := tfr KT 1
    have zT2 := tfr KT 2
    have zT3 := tfr KT 3
    have fR0 := tcr KR 0
    have fR1 := tcr KR 1
    have fR2 := tcr KR 2
    have fR3 := tcr KR 3
    have zR0 := tfr KR 0
    have zR1 := tfr KR 1
    have zR2 := tfr KR 2
    have zR3 := tfr KR 3
    go_wp2_with fail
    obtain ⟨j0, q1, q2, q3, q4⟩ := info_parts infoDsk
    refine bodyPost_ret (results_cellD (P := Try.prog) rfl _ _ (w.heap.size + 1) _ _ (0, 0) _ _ rfl rfl (storeD KR.out) Try.underlying26 rfl (by rw [q1]; simp [q3])) rfl ⟨by rw [HRES.out]; first | done | rfl, belowD BB.out (by omega)⟩
  replace HY := Lib.hid (HY.out rfl)
  have hw : IntKind.i64.wrap ((n : Int) + (x.size : Int)) = (n : Int) + (x.size : Int) := by rw [IntKind.wrap_i64]; omega
  by_cases hf : o < (n : Int) + (x.size : Int)
  · have hfd : decide (o < (n : Int) + (x.size : Int)) = true := by simpa using hf
    have HRES : Hid (insS ⟨o, s, t, u⟩ x = (⟨o, s, t, u⟩, false)) := Lib.hid (HA.out (Or.inr hf))
    clear HA HY
    refine tk 4 (v := ?_) ?_ ?_; rotate_left
    · refine Or.inl ⟨by rfl, ?_⟩; intro w hSw; obtain ⟨f0, f1, f2, f3⟩ := FT.out w hSw; go_simp; first | done | with_reducible rfl
    refine tk0 6 ?_
    refine tk0 7 ?_
    refine tk0 9 ?_
    refine tk 10 (v := ?_) ?_ ?_; rotate_left
    · refine Or.inl ⟨by rfl, ?_⟩; intro w hSw; obtain ⟨f0, f1, f2, f3⟩ := FT.out w hSw; go_simp; first | done | with_reducible rfl
    refine rd1 5 (fun K hK => ?_)
    go_simp
    have hc := ku w2
    go_at_call 54
    refine hc.mono ?_
    rintro e w3 ⟨rfl, hb⟩
    replace BD := tbt BD hb
    clear hc hb
    go_wp2_with fail
    refine hK.out _ _ BD.out (fun hHeld => ?_)
    clear hK K
    refine tk0 8 ?_
    refine tk0 11 ?_
    refine tk0 12 ?_
    refine wpAnyH_done (by kernel_rfl) ?_ _
    clear hHeld FT
    have hb := BD.out
    replace KT := tkb hb LT KT
    replace LT := tlz LT hb.size
    replace KR := tkb hb LR KR
    replace LR := tlz LR hb.size
    replace BB := tbt BB hb
    clear hb BD
    clear kd ku hf hfd hw
    have fT0 := tcr KT 0
    have fT1 := tcr KT 1
    have fT2 := tcr KT 2
    have fT3 := tcr KT 3
    have zT0 := tfr KT 0
    have zT1 := tfr KT 1
    have zT2 := tfr KT 2
    have zT3 := tfr KT 3
    have fR0 := tcr KR 0
    have fR1 := tcr KR 1
    have fR2 := tcr KR 2
    have fR3 := tcr KR 3
    have zR0 := tfr KR 0
    have zR1 := tfr KR 1
    have zR2 := tfr KR 2
    have zR3 := tfr KR 3
    go_wp2_with fail
    obtain ⟨j0, q1, q2, q3, q4⟩ := info_parts infoDsk
    refine bodyPost_ret (results_cellD (P := Try.prog) rfl _ _ (w.heap.size + 1) _ _ (0, 0) _ _ rfl rfl (storeD KR.out) Try.underlying26 rfl (by rw [q1]; simp [q3])) rfl ⟨by rw [HRES.out]; first | done | rfl, belowD BB.out (by omega)⟩
  have hfd : decide (o < (n : Int) + (x.size : Int)) = false := by simpa using hf
  have HRES : Hid (insS ⟨o, s, t, u⟩ x = (⟨o, x, ⟨#[]⟩, ⟨#[]⟩⟩, true)) := Lib.hid (HY.out (by omega))
  clear HA HY
  refine tk 4 (v := ?_) ?_ ?_; rotate_left
  · refine Or.inl ⟨by rfl, ?_⟩; intro w hSw; obtain ⟨f0, f1, f2, f3⟩ := FT.out w hSw; go_simp; first | done | with_reducible rfl
  refine tk0 6 ?_
  refine tk0 7 ?_
  refine tk0 9 ?_
  refine tk 10 (v := ?_) ?_ ?_; rotate_left
  · refine Or.inl ⟨by rfl, ?_⟩; intro w hSw; obtain ⟨f0, f1, f2, f3⟩ := FT.out w hSw; go_simp; first | done | with_reducible rfl
  refine rd1 5 (fun K hK => ?_)
  go_simp
  have hc := ku w2
  go_at_call 54
  refine hc.mono ?_
  rintro e w3 ⟨rfl, hb⟩
  replace BD := tbt BD hb
  clear hc hb
  go_wp2_with fail
  refine hK.out _ _ BD.out (fun hHeld => ?_)
  clear hK K
  refine tk0 8 ?_
  refine tk0 11 ?_
  refine tk0 12 ?_
  refine wpAnyH_done (by kernel_rfl) ?_ _
  clear hHeld FT
  have hb := BD.out
  replace KT := tkb hb LT KT
  replace LT := tlz LT hb.size
  replace KR := tkb hb LR KR
  replace LR := tlz LR hb.size
  replace BB := tbt BB hb
  clear hb BD
  clear kd ku hf hfd hw
  have fT0 := tcr KT 0
  have fT1 := tcr KT 1
  have fT2 := tcr KT 2
  have fT3 := tcr KT 3
  have zT0 := tfr KT 0
  have zT1 := tfr KT 1
  have zT2 := tfr KT 2
  have zT3 := tfr KT 3
  have fR0 := tcr KR 0
  have fR1 := tcr KR 1
  have fR2 := tcr KR 2
  have fR3 := tcr KR 3
  have zR0 := tfr KR 0
  have zR1 := tfr KR 1
  have zR2 := tfr KR 2
  have zR3 := tfr KR 3
  go_wp2_with fail
  obtain ⟨j0, q1, q2, q3, q4⟩ := info_parts infoDsk
  refine bodyPost_ret (results_cellD (P := Try.prog) rfl _ _ (w.heap.size + 1) _ _ (0, 0) _ _ rfl rfl (storeD KR.out) Try.underlying26 rfl (by rw [q1]; simp [q3])) rfl ⟨by rw [HRES.out]; first | done | rfl, belowD BB.out (by omega)⟩
set_option maxRecDepth 100000 in
set_option maxHeartbeats 8000000 in
theorem spec_sync (d : Dsk) (w : World) (hd : SmD d) : Calls Try.prog 28 #[dskV d] w fun e w' => e = .returned (dskV (syncS d)) ∧ Below w.heap.size w w' := by
  have kd := fun w => spec_diskOk d w hd
  have HA : Hid (syncS d = if dskOk d = true then ⟨d.rm, d.sn, d.kp ++ d.ls, ⟨#[]⟩⟩ else d) := Lib.hid rfl
  obtain ⟨q, hq⟩ : ∃ q, q = dskOk d := ⟨_, rfl⟩
  rw [← hq] at kd HA
  clear hq
  obtain ⟨_, z1, z2, z3⟩ := hd
  obtain ⟨o, s, t, u⟩ := d
  unfold dskV at *
  dsimp only at *
  obtain ⟨X, hX⟩ : ∃ z, z = (w.alloc (.cells #[.int .i64 o, .string s, .string t, .string u] 26)).alloc (.cells #[.int .i64 0, .string ⟨#[]⟩, .string ⟨#[]⟩, .string ⟨#[]⟩] 26) := ⟨_, rfl⟩
  have BB : Hid (Below w.heap.size w X) := Lib.hid (by rw [hX]; exact ((Below.refl _ _).alloc (Nat.le_refl _) _).alloc (by simp) _)
  have hXs : X.heap.size = w.heap.size + 2 := by rw [hX]; simp
  have KT : Hid (X.heap[w.heap.size]? = some (.cells #[.int .i64 o, .string s, .string t, .string u] 26 (0, 0))) := Lib.hid (by rw [hX, Below.heap_alloc _ _ _ (by simp)]; exact heap_new _ _)
  have KR : Hid (X.heap[w.heap.size + 1]? = some (.cells #[.int .i64 0, .string ⟨#[]⟩, .string ⟨#[]⟩, .string ⟨#[]⟩] 26 (0, 0))) := Lib.hid (by rw [hX]; simpa using heap_new (w.alloc (.cells #[.int .i64 o, .string s, .string t, .string u] 26)) (.cells #[.int .i64 0, .string ⟨#[]⟩, .string ⟨#[]⟩, .string ⟨#[]⟩] 26))
  have LT : Hid (w.heap.size < X.heap.size) := Lib.hid (by omega)
  have LR : Hid (w.heap.size + 1 < X.heap.size) := Lib.hid (by omega)
  clear hXs
  go_enter Try.func28, Try.ntmps28
  have fT0 := tcr KT 0
  have fT1 := tcr KT 1
  have fT2 := tcr KT 2
  have fT3 := tcr KT 3
  have zT0 := tfr KT 0
  have zT1 := tfr KT 1
  have zT2 := tfr KT 2
  have zT3 := tfr KT 3
  have hc := kd X
  rw [hX] at hc fT0 fT1 fT2 fT3 zT0 zT1 zT2 zT3
  go_wp2_with (go_at_call 20; refine hc.mono ?_; rintro e w1 ⟨rfl, hb⟩; refine Hid.out ?_)
  refine Lib.hid ?_
  rw [← hX] at hb
  clear hX
  replace KT := tkb hb LT KT
  replace LT := tlz LT hb.size
  replace KR := tkb hb LR KR
  replace LR := tlz LR hb.size
  replace BB := tbt BB hb
  clear hc hb fT0 zT0 fT1 zT1 fT2 zT2 fT3 zT3
  clear kd
  cases q
  · have HRES : Hid (syncS ⟨o, s, t, u⟩ = ⟨o, s, t, u⟩) := Lib.hid HA.out
    have fT0 := tcr KT 0
    have fT1 := tcr KT 1
    have fT2 := tcr KT 2
    have fT3 := tcr KT 3
    have zT0 := tfr KT 0
    have zT1 := tfr KT 1
    have zT2 := tfr KT 2
    have zT3 := tfr KT 3
    have fR0 := tcr KR 0
    have fR1 := tcr KR 1
    have fR2 := tcr KR 2
    have fR3 := tcr KR 3
    have zR0 := tfr KR 0
    have zR1 := tfr KR 1
    have zR2 := tfr KR 2
    have zR3 := tfr KR 3
    go_wp2_with fail
    obtain ⟨j0, q1, q2, q3, q4⟩ := info_parts infoDsk
    refine bodyPost_ret (results_cell_row (P := Try.prog) rfl _ _ (w.heap.size + 1) _ _ (0, 0) _ rfl (storeD KR.out) Try.underlying26 rfl (by rw [q1]; simp [q3])) rfl ⟨by rw [HRES.out]; first | done | rfl, belowD BB.out (by omega)⟩
  have HRES : Hid (syncS ⟨o, s, t, u⟩ = ⟨o, s, t ++ u, ⟨#[]⟩⟩) := Lib.hid HA.out
  have ns : ¬ 9223372036854775807 < t.size + u.size := by omega
  have fT0 := tcr KT 0
  have fT1 := tcr KT 1
  have fT2 := tcr KT 2
  have fT3 := tcr KT 3
  have zT0 := tfr KT 0
  have zT1 := tfr KT 1
  have zT2 := tfr KT 2
  have zT3 := tfr KT 3
  have fR0 := tcr KR 0
  have fR1 := tcr KR 1
  have fR2 := tcr KR 2
  have fR3 := tcr KR 3
  have zR0 := tfr KR 0
  have zR1 := tfr KR 1
  have zR2 := tfr KR 2
  have zR3 := tfr KR 3
  go_wp2_with fail
  obtain ⟨j0, q1, q2, q3, q4⟩ := info_parts infoDsk
  refine bodyPost_ret (results_cell_row (P := Try.prog) rfl _ _ (w.heap.size + 1) _ _ (0, 0) _ rfl (storeD (otherD (otherD KR.out (by omega)) (by omega))) Try.underlying26 rfl (by rw [q1]; simp [q3])) rfl ⟨by rw [HRES.out]; first | done | rfl, belowD ((BB.out.setCell (p := ⟨w.heap.size, 2, none⟩) (Nat.le_refl _) _).setCell (p := ⟨w.heap.size, 3, none⟩) (Nat.le_refl _) _) (by omega)⟩
set_option maxRecDepth 100000 in
set_option maxHeartbeats 8000000 in
theorem spec_crash (d : Dsk) (k : Int) (w : World) (hd : SmD d) (hk : -9223372036854775808 ≤ k ∧ k ≤ 9223372036854775807) : Calls Try.prog 30 #[dskV d, .int .i64 k] w fun e w' => e = .returned (dskV (crashS d k)) ∧ Below w.heap.size w w' := by
  have kd := fun w => spec_diskOk d w hd
  have HA : Hid (crashS d k = if dskOk d = true then ⟨d.rm, d.sn, d.kp ++ d.ls.extract 0 (keepN d.ls.size k), ⟨#[]⟩⟩ else d) := Lib.hid rfl
  obtain ⟨q, hq⟩ : ∃ q, q = dskOk d := ⟨_, rfl⟩
  rw [← hq] at kd HA
  clear hq
  obtain ⟨_, z1, z2, z3⟩ := hd
  obtain ⟨o, s, t, u⟩ := d
  unfold dskV at *
  dsimp only at *
  obtain ⟨X, hX⟩ : ∃ z, z = (w.alloc (.cells #[.int .i64 o, .string s, .string t, .string u] 26)).alloc (.cells #[.int .i64 0, .string ⟨#[]⟩, .string ⟨#[]⟩, .string ⟨#[]⟩] 26) := ⟨_, rfl⟩
  have BB : Hid (Below w.heap.size w X) := Lib.hid (by rw [hX]; exact ((Below.refl _ _).alloc (Nat.le_refl _) _).alloc (by simp) _)
  have hXs : X.heap.size = w.heap.size + 2 := by rw [hX]; simp
  have KT : Hid (X.heap[w.heap.size]? = some (.cells #[.int .i64 o, .string s, .string t, .string u] 26 (0, 0))) := Lib.hid (by rw [hX, Below.heap_alloc _ _ _ (by simp)]; exact heap_new _ _)
  have KR : Hid (X.heap[w.heap.size + 1]? = some (.cells #[.int .i64 0, .string ⟨#[]⟩, .string ⟨#[]⟩, .string ⟨#[]⟩] 26 (0, 0))) := Lib.hid (by rw [hX]; simpa using heap_new (w.alloc (.cells #[.int .i64 o, .string s, .string t, .string u] 26)) (.cells #[.int .i64 0, .string ⟨#[]⟩, .string ⟨#[]⟩, .string ⟨#[]⟩] 26))
  have LT : Hid (w.heap.size < X.heap.size) := Lib.hid (by omega)
  have LR : Hid (w.heap.size + 1 < X.heap.size) := Lib.hid (by omega)
  clear hXs
  go_enter Try.func30, Try.ntmps30
  have fT0 := tcr KT 0
  have fT1 := tcr KT 1
  have fT2 := tcr KT 2
  have fT3 := tcr KT 3
  have zT0 := tfr KT 0
  have zT1 := tfr KT 1
  have zT2 := tfr KT 2
  have zT3 := tfr KT 3
  have hc := kd X
  rw [hX] at hc fT0 fT1 fT2 fT3 zT0 zT1 zT2 zT3
  go_wp2_with (go_at_call 20; refine hc.mono ?_; rintro e w1 ⟨rfl, hb⟩; refine Hid.out ?_)
  refine Lib.hid ?_
  rw [← hX] at hb
  clear hX
  replace KT := tkb hb LT KT
  replace LT := tlz LT hb.size
  replace KR := tkb hb LR KR
  replace LR := tlz LR hb.size
  replace BB := tbt BB hb
  clear hc hb fT0 zT0 fT1 zT1 fT2 zT2 fT3 zT3
  clear kd
  cases q
  · have HRES : Hid (crashS ⟨o, s, t, u⟩ k = ⟨o, s, t, u⟩) := Lib.hid HA.out
    have fT0 := tcr KT 0
    have fT1 := tcr KT 1
    have fT2 := tcr KT 2
    have fT3 := tcr KT 3
    have zT0 := tfr KT 0
    have zT1 := tfr KT 1
    have zT2 := tfr KT 2
    have zT3 := tfr KT 3
    have fR0 := tcr KR 0
    have fR1 := tcr KR 1
    have fR2 := tcr KR 2
    have fR3 := tcr KR 3
    have zR0 := tfr KR 0
    have zR1 := tfr KR 1
    have zR2 := tfr KR 2
    have zR3 := tfr KR 3
    go_wp2_with fail
    obtain ⟨j0, q1, q2, q3, q4⟩ := info_parts infoDsk
    refine bodyPost_ret (results_cell_row (P := Try.prog) rfl _ _ (w.heap.size + 1) _ _ (0, 0) _ rfl (storeD KR.out) Try.underlying26 rfl (by rw [q1]; simp [q3])) rfl ⟨by rw [HRES.out]; first | done | rfl, belowD BB.out (by omega)⟩
  by_cases h1 : k < 0
  · skip
    have HRES : Hid (crashS ⟨o, s, t, u⟩ k = ⟨o, s, t, ⟨#[]⟩⟩) := Lib.hid (HA.out.trans (by rw [if_pos rfl, show keepN u.size k = 0 by unfold keepN; rw [if_pos h1]]; first | done | simp))
    clear HA
    have ns : ¬ 9223372036854775807 < t.size + (u.extract 0 0).size := by rw [ByteArray.size_extract]; omega
    have fT0 := tcr KT 0
    have fT1 := tcr KT 1
    have fT2 := tcr KT 2
    have fT3 := tcr KT 3
    have zT0 := tfr KT 0
    have zT1 := tfr KT 1
    have zT2 := tfr KT 2
    have zT3 := tfr KT 3
    go_wp2_with fail
    clear fT0 zT0 fT1 zT1 fT2 zT2 fT3 zT3
    have fT0 : w1.drew.cell? ⟨w.heap.size, 0, none⟩ = some (.int .i64 o) := tcr (w := w1.drew) KT 0
    have fT1 : w1.drew.cell? ⟨w.heap.size, 1, none⟩ = some (.string s) := tcr (w := w1.drew) KT 1
    have fT2 : w1.drew.cell? ⟨w.heap.size, 2, none⟩ = some (.string t) := tcr (w := w1.drew) KT 2
    have fT3 : w1.drew.cell? ⟨w.heap.size, 3, none⟩ = some (.string u) := tcr (w := w1.drew) KT 3
    have zT0 : w1.drew.frozen? ⟨w.heap.size, 0, none⟩ = false := tfr (w := w1.drew) KT 0
    have zT1 : w1.drew.frozen? ⟨w.heap.size, 1, none⟩ = false := tfr (w := w1.drew) KT 1
    have zT2 : w1.drew.frozen? ⟨w.heap.size, 2, none⟩ = false := tfr (w := w1.drew) KT 2
    have zT3 : w1.drew.frozen? ⟨w.heap.size, 3, none⟩ = false := tfr (w := w1.drew) KT 3
    go_region
    clear ns fT0 zT0 fT1 zT1 fT2 zT2 fT3 zT3
    obtain ⟨Y, hY⟩ : ∃ Y, Y = (w1.setCell ⟨w.heap.size, 2, none⟩ (.string t)).drew := ⟨_, rfl⟩
    replace KT : Hid (Y.heap[w.heap.size]? = some (.cells #[.int .i64 o, .string s, .string t, .string u] 26 (0, 0))) := Lib.hid (by rw [hY]; exact heap_setCell_same w1 _ 2 _ _ (.string t) KT.out)
    replace KR : Hid (Y.heap[w.heap.size + 1]? = some (.cells #[.int .i64 0, .string ⟨#[]⟩, .string ⟨#[]⟩, .string ⟨#[]⟩] 26 (0, 0))) := Lib.hid (by rw [hY]; exact otherD (w := w1) KR.out (by omega))
    replace BB : Hid (Below w.heap.size w Y) := Lib.hid (by rw [hY]; exact (BB.out.setCell (p := ⟨w.heap.size, 2, none⟩) (Nat.le_refl _) _).drew)
    rw [← hY]
    clear hY
    have fT0 := tcr KT 0
    have fT1 := tcr KT 1
    have fT2 := tcr KT 2
    have fT3 := tcr KT 3
    have zT0 := tfr KT 0
    have zT1 := tfr KT 1
    have zT2 := tfr KT 2
    have zT3 := tfr KT 3
    have fR0 := tcr KR 0
    have fR1 := tcr KR 1
    have fR2 := tcr KR 2
    have fR3 := tcr KR 3
    have zR0 := tfr KR 0
    have zR1 := tfr KR 1
    have zR2 := tfr KR 2
    have zR3 := tfr KR 3
    go_wp2_with fail
    obtain ⟨j0, q1, q2, q3, q4⟩ := info_parts infoDsk
    refine bodyPost_ret (results_cell_row (P := Try.prog) rfl _ _ (w.heap.size + 1) _ _ (0, 0) _ rfl (storeD (otherD KR.out (by omega))) Try.underlying26 rfl (by rw [q1]; simp [q3])) rfl ⟨by rw [HRES.out]; first | done | rfl, belowD (BB.out.setCell (p := ⟨w.heap.size, 3, none⟩) (Nat.le_refl _) _) (by omega)⟩
  by_cases h2 : (u.size : Int) < k
  · skip
    have HRES : Hid (crashS ⟨o, s, t, u⟩ k = ⟨o, s, t ++ u, ⟨#[]⟩⟩) := Lib.hid (HA.out.trans (by rw [if_pos rfl, show keepN u.size k = u.size by unfold keepN; rw [if_neg h1, if_pos h2]]; first | done | simp))
    clear HA
    have ns : ¬ 9223372036854775807 < t.size + (u.extract 0 u.size).size := by rw [ByteArray.size_extract]; omega
    have fT0 := tcr KT 0
    have fT1 := tcr KT 1
    have fT2 := tcr KT 2
    have fT3 := tcr KT 3
    have zT0 := tfr KT 0
    have zT1 := tfr KT 1
    have zT2 := tfr KT 2
    have zT3 := tfr KT 3
    go_wp2_with fail
    clear fT0 zT0 fT1 zT1 fT2 zT2 fT3 zT3
    have fT0 : w1.drew.cell? ⟨w.heap.size, 0, none⟩ = some (.int .i64 o) := tcr (w := w1.drew) KT 0
    have fT1 : w1.drew.cell? ⟨w.heap.size, 1, none⟩ = some (.string s) := tcr (w := w1.drew) KT 1
    have fT2 : w1.drew.cell? ⟨w.heap.size, 2, none⟩ = some (.string t) := tcr (w := w1.drew) KT 2
    have fT3 : w1.drew.cell? ⟨w.heap.size, 3, none⟩ = some (.string u) := tcr (w := w1.drew) KT 3
    have zT0 : w1.drew.frozen? ⟨w.heap.size, 0, none⟩ = false := tfr (w := w1.drew) KT 0
    have zT1 : w1.drew.frozen? ⟨w.heap.size, 1, none⟩ = false := tfr (w := w1.drew) KT 1
    have zT2 : w1.drew.frozen? ⟨w.heap.size, 2, none⟩ = false := tfr (w := w1.drew) KT 2
    have zT3 : w1.drew.frozen? ⟨w.heap.size, 3, none⟩ = false := tfr (w := w1.drew) KT 3
    go_region
    clear ns fT0 zT0 fT1 zT1 fT2 zT2 fT3 zT3
    obtain ⟨p, hp⟩ : ∃ p, p = t ++ u := ⟨_, rfl⟩
    rw [← hp] at HRES ⊢
    clear hp
    obtain ⟨Y, hY⟩ : ∃ Y, Y = (w1.setCell ⟨w.heap.size, 2, none⟩ (.string p)).drew := ⟨_, rfl⟩
    replace KT : Hid (Y.heap[w.heap.size]? = some (.cells #[.int .i64 o, .string s, .string p, .string u] 26 (0, 0))) := Lib.hid (by rw [hY]; exact heap_setCell_same w1 _ 2 _ _ (.string p) KT.out)
    replace KR : Hid (Y.heap[w.heap.size + 1]? = some (.cells #[.int .i64 0, .string ⟨#[]⟩, .string ⟨#[]⟩, .string ⟨#[]⟩] 26 (0, 0))) := Lib.hid (by rw [hY]; exact otherD (w := w1) KR.out (by omega))
    replace BB : Hid (Below w.heap.size w Y) := Lib.hid (by rw [hY]; exact (BB.out.setCell (p := ⟨w.heap.size, 2, none⟩) (Nat.le_refl _) _).drew)
    rw [← hY]
    clear hY
    have fT0 := tcr KT 0
    have fT1 := tcr KT 1
    have fT2 := tcr KT 2
    have fT3 := tcr KT 3
    have zT0 := tfr KT 0
    have zT1 := tfr KT 1
    have zT2 := tfr KT 2
    have zT3 := tfr KT 3
    have fR0 := tcr KR 0
    have fR1 := tcr KR 1
    have fR2 := tcr KR 2
    have fR3 := tcr KR 3
    have zR0 := tfr KR 0
    have zR1 := tfr KR 1
    have zR2 := tfr KR 2
    have zR3 := tfr KR 3
    go_wp2_with fail
    obtain ⟨j0, q1, q2, q3, q4⟩ := info_parts infoDsk
    refine bodyPost_ret (results_cell_row (P := Try.prog) rfl _ _ (w.heap.size + 1) _ _ (0, 0) _ rfl (storeD (otherD KR.out (by omega))) Try.underlying26 rfl (by rw [q1]; simp [q3])) rfl ⟨by rw [HRES.out]; first | done | rfl, belowD (BB.out.setCell (p := ⟨w.heap.size, 3, none⟩) (Nat.le_refl _) _) (by omega)⟩
  obtain ⟨m, rfl⟩ := Int.eq_ofNat_of_zero_le (show 0 ≤ k by omega)
  have HRES : Hid (crashS ⟨o, s, t, u⟩ (m : Int) = ⟨o, s, t ++ u.extract 0 m, ⟨#[]⟩⟩) := Lib.hid (HA.out.trans (by rw [if_pos rfl, show keepN u.size (m : Int) = m by unfold keepN; rw [if_neg h1, if_neg h2, Int.toNat_natCast]]; first | done | simp))
  clear HA
  have ns : ¬ 9223372036854775807 < t.size + (u.extract 0 m).size := by rw [ByteArray.size_extract]; omega
  have fT0 := tcr KT 0
  have fT1 := tcr KT 1
  have fT2 := tcr KT 2
  have fT3 := tcr KT 3
  have zT0 := tfr KT 0
  have zT1 := tfr KT 1
  have zT2 := tfr KT 2
  have zT3 := tfr KT 3
  go_wp2_with fail
  clear fT0 zT0 fT1 zT1 fT2 zT2 fT3 zT3
  have fT0 : w1.drew.cell? ⟨w.heap.size, 0, none⟩ = some (.int .i64 o) := tcr (w := w1.drew) KT 0
  have fT1 : w1.drew.cell? ⟨w.heap.size, 1, none⟩ = some (.string s) := tcr (w := w1.drew) KT 1
  have fT2 : w1.drew.cell? ⟨w.heap.size, 2, none⟩ = some (.string t) := tcr (w := w1.drew) KT 2
  have fT3 : w1.drew.cell? ⟨w.heap.size, 3, none⟩ = some (.string u) := tcr (w := w1.drew) KT 3
  have zT0 : w1.drew.frozen? ⟨w.heap.size, 0, none⟩ = false := tfr (w := w1.drew) KT 0
  have zT1 : w1.drew.frozen? ⟨w.heap.size, 1, none⟩ = false := tfr (w := w1.drew) KT 1
  have zT2 : w1.drew.frozen? ⟨w.heap.size, 2, none⟩ = false := tfr (w := w1.drew) KT 2
  have zT3 : w1.drew.frozen? ⟨w.heap.size, 3, none⟩ = false := tfr (w := w1.drew) KT 3
  go_region
  clear ns fT0 zT0 fT1 zT1 fT2 zT2 fT3 zT3
  obtain ⟨p, hp⟩ : ∃ p, p = t ++ u.extract 0 m := ⟨_, rfl⟩
  rw [← hp] at HRES ⊢
  clear hp
  obtain ⟨Y, hY⟩ : ∃ Y, Y = (w1.setCell ⟨w.heap.size, 2, none⟩ (.string p)).drew := ⟨_, rfl⟩
  replace KT : Hid (Y.heap[w.heap.size]? = some (.cells #[.int .i64 o, .string s, .string p, .string u] 26 (0, 0))) := Lib.hid (by rw [hY]; exact heap_setCell_same w1 _ 2 _ _ (.string p) KT.out)
  replace KR : Hid (Y.heap[w.heap.size + 1]? = some (.cells #[.int .i64 0, .string ⟨#[]⟩, .string ⟨#[]⟩, .string ⟨#[]⟩] 26 (0, 0))) := Lib.hid (by rw [hY]; exact otherD (w := w1) KR.out (by omega))
  replace BB : Hid (Below w.heap.size w Y) := Lib.hid (by rw [hY]; exact (BB.out.setCell (p := ⟨w.heap.size, 2, none⟩) (Nat.le_refl _) _).drew)
  rw [← hY]
  clear hY
  have fT0 := tcr KT 0
  have fT1 := tcr KT 1
  have fT2 := tcr KT 2
  have fT3 := tcr KT 3
  have zT0 := tfr KT 0
  have zT1 := tfr KT 1
  have zT2 := tfr KT 2
  have zT3 := tfr KT 3
  have fR0 := tcr KR 0
  have fR1 := tcr KR 1
  have fR2 := tcr KR 2
  have fR3 := tcr KR 3
  have zR0 := tfr KR 0
  have zR1 := tfr KR 1
  have zR2 := tfr KR 2
  have zR3 := tfr KR 3
  go_wp2_with fail
  obtain ⟨j0, q1, q2, q3, q4⟩ := info_parts infoDsk
  refine bodyPost_ret (results_cell_row (P := Try.prog) rfl _ _ (w.heap.size + 1) _ _ (0, 0) _ rfl (storeD (otherD KR.out (by omega))) Try.underlying26 rfl (by rw [q1]; simp [q3])) rfl ⟨by rw [HRES.out]; first | done | rfl, belowD (BB.out.setCell (p := ⟨w.heap.size, 3, none⟩) (Nat.le_refl _) _) (by omega)⟩
end Go.Proofs.Ytkkmjlpeahkiaaa
