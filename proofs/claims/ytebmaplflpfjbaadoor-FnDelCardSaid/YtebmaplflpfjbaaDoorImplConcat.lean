/- What slices.Grow and slices.Concat make of ordered lists. Condition: lists that can be read, not empty in all. -/
import Derived.Test.YtebmaplflpfjbaaDoorBaseA
import Derived.Test.YtebmaplflpfjbaaDoorImplRow
import Derived.Lib.AppendZerosOnto
namespace Go.Proofs.YtebmaplflpfjbaaDoor
open Go.RowKit
set_option linter.unusedVariables false
set_option linter.unusedSimpArgs false

set_option maxRecDepth 100000 in
set_option maxHeartbeats 2000000 in
theorem grow_item (n : Nat) (w : World) (hn : 0 < n) (hb : n ≤ 2199023255552) :
    Calls Tryd.prog 144 #[.slice none 0 0, .int .i64 n] w fun e w' => ∃ g cap, e = .returned (.slice (some ⟨g, 0, none⟩) 0 cap) ∧ n ≤ cap ∧ Got w' w.heap.size 41 2 g 0 cap [] ∧ Below w.heap.size w w' := by
  obtain ⟨i0, p1, p2, p3, p4⟩ := info_parts infoIt
  have hz : (Builtin.firstCells i0.size 0 (.slice none 0 0)).run Tryd.prog w.drew = .ok (List.toArray []) w.drew := run_firstCells_none w.drew i0.size 0 0 0
  have hr := Lib.run_append_grow_zeros (P := Tryd.prog) w 71 3 71 41 i0 _ .i64 .i64 Tryd.underlying71 Tryd.underlying3 p1 p2 none 0 0 [] hz n (by omega) (by omega) (by omega) (by omega) (by rw [p4]; omega) (by rw [p4]; exact growslice_fits (by omega) (by omega))
  have hge := grownCap_ge w (0 + n) 0 41
  have hmx := grownCap_le_maxLen w (0 + n) 0 41 (by unfold maxLen; omega)
  obtain ⟨cp, hcp⟩ : ∃ c, c = grownCap w (0 + n) 0 41 := ⟨_, rfl⟩
  rw [← hcp] at hr hge hmx
  obtain ⟨z, hz0⟩ : ∃ z : Value, z = .agg #[.string ⟨#[]⟩, .string ⟨#[]⟩] := ⟨_, rfl⟩
  rw [← hz0] at hr
  obtain ⟨cur, hcur⟩ : ∃ cur, cur = (List.toArray []) ++ Builtin.zeroCells z.cells n ++ Builtin.zeroCells z.cells (cp - (0 + n)) := ⟨_, rfl⟩
  rw [← hcur] at hr
  have hcs : cur.size = cp * 2 := by
    rw [hcur, Array.size_append, Array.size_append, size_zeroCells, size_zeroCells, hz0]
    show 0 + n * 2 + (cp - (0 + n)) * 2 = cp * 2
    omega
  obtain ⟨X, hX⟩ : ∃ X, X = w.drew.alloc (.cells cur 41) := ⟨_, rfl⟩
  have hk : X.heap[w.heap.size]? = some (.cells cur 41 (0, 0)) := by rw [hX]; exact heap_new w.drew _
  have hXs : X.heap.size = w.heap.size + 1 := by rw [hX]; simp
  have hbX : Below w.heap.size w X := by rw [hX]; exact (Below.refl w.heap.size w).drew.alloc (Nat.le_refl _) _
  rw [← hX, show 0 + n = n by omega] at hr
  have got : Got X w.heap.size 41 2 w.heap.size 0 cp [] := ⟨by simp, by omega, hmx, Nat.le_refl _, by omega, .inr ⟨by simp, .inr ⟨w.heap.size, cp, cur, rfl, Nat.le_refl _, hk, by omega, hmx, hcs, by simp⟩⟩⟩
  have Hr := Lib.hid hr
  have Hg := Lib.hid got
  have Hb := Lib.hid hbX
  have hmx' : cp ≤ 9223372036854775807 := by unfold maxLen at hmx; omega
  clear hr got hbX hk hXs hcs hX hcur hz hz0 hcp hmx p1 p2 p3 p4
  go_enter Tryd.func144, Tryd.ntmps144
  go_wp2_with (at_builtin; refine Lib.wpList_append_run _ rfl _ _ _ _ rfl _ _ rfl rfl _ _ Hr.out ?_)
  go_ret
  exact ⟨w.heap.size, cp, rfl, by omega, Hg.out, Hb.out⟩

/-- Parts: a slice, how many elements it has, its cells. -/
def tot (ps : List (Value × Nat × List Value)) (k : Nat) : Nat := ((ps.take k).map fun p => p.2.1).sum
def cat (ps : List (Value × Nat × List Value)) (k : Nat) : List Value := (ps.take k).flatMap fun p => p.2.2
theorem tot_succ (ps : List (Value × Nat × List Value)) (k : Nat) (hk : k < ps.length) : tot ps (k + 1) = tot ps k + ps[k].2.1 := by
  unfold tot; rw [List.take_succ_eq_append_getElem hk, List.map_append, List.sum_append]; simp
theorem cat_succ (ps : List (Value × Nat × List Value)) (k : Nat) (hk : k < ps.length) : cat ps (k + 1) = cat ps k ++ ps[k].2.2 := by
  unfold cat; rw [List.take_succ_eq_append_getElem hk, List.flatMap_append]; simp
theorem tot_mono (ps : List (Value × Nat × List Value)) (j k : Nat) (h : j ≤ k) : tot ps j ≤ tot ps k := by
  induction k with
  | zero => obtain rfl : j = 0 := by omega
            exact Nat.le_refl _
  | succ k ih =>
    by_cases hj : j = k + 1
    · subst hj; exact Nat.le_refl _
    · by_cases hk : k < ps.length
      · rw [tot_succ ps k hk]; have := ih (by omega); omega
      · have : tot ps (k + 1) = tot ps k := by unfold tot; rw [List.take_of_length_le (by omega), List.take_of_length_le (by omega)]
        rw [this]; exact ih (by omega)

set_option maxRecDepth 100000 in
set_option maxHeartbeats 4000000 in
theorem concat_items (ps : List (Value × Nat × List Value)) (gq : Nat) (w : World) (B : Nat) (hB : B ≤ w.heap.size) (hq : At w gq 0 (ps.map (·.1))) (hgq : gq < w.heap.size) (hm : ps.length ≤ 1000)
    (each : ∀ p ∈ ps, Raw w B p.1 p.2.1 p.2.2 ∧ p.2.2.length = p.2.1 * 2 ∧ ∀ u ∈ p.2.2, u.oneCell' = true) (ht : 0 < tot ps ps.length) (ht' : tot ps ps.length ≤ 2199023255552) :
    Calls Tryd.prog 141 #[.slice (some ⟨gq, 0, none⟩) ps.length ps.length] w fun e w' => ∃ g cap, e = .returned (.slice (some ⟨g, 0, none⟩) (tot ps ps.length) cap) ∧ Got w' w.heap.size 41 2 g (tot ps ps.length) cap (cat ps ps.length) ∧ Below w.heap.size w w' := by
  obtain ⟨m, hM⟩ : ∃ m, m = ps.length := ⟨_, rfl⟩
  rw [← hM] at hm ht ht' ⊢
  have HM := Lib.hid hM
  have Each := Lib.hid each
  have HQ := Lib.hid hq
  have Hmono := Lib.hid (tot_mono ps)
  clear hM each hq
  go_enter Tryd.func141, Tryd.ntmps141
  go_wp2
  go_loop [3, 11] (fun t i => ∃ k : Nat, k ≤ m ∧ t = .int .i64 (tot ps k) ∧ i = .int .i64 k) (fun _ i => m - (intOf i).toNat)
  case atStart => exact ⟨0, Nat.zero_le _, rfl, rfl⟩
  case round =>
    obtain ⟨k, hk, rfl, rfl⟩ := hrel
    by_cases hlt : k < m
    · have hkl : k < ps.length := by have := HM.out; omega
      have hts := tot_succ ps k hkl
      have hle := Hmono.out (k + 1) m (by omega)
      obtain ⟨p, hp⟩ : ∃ p, p = ps[k] := ⟨_, rfl⟩
      have hc : w.cell? ⟨gq, k, none⟩ = some p.1 := by have := HQ.out k p.1 (by rw [List.getElem?_map, List.getElem?_eq_getElem hkl, hp]; rfl); simpa using this
      obtain ⟨a, c, hv, _⟩ := (Each.out p (by rw [hp]; exact List.getElem_mem _)).1
      rw [hv] at hc
      rw [← hp] at hts
      obtain ⟨q, hq⟩ : ∃ q, q = p.2.1 := ⟨_, rfl⟩
      rw [← hq] at hc hts
      have HTs := Lib.hid hts
      have b1 : (tot ps k : Int) + (q : Int) ≤ 2199023255552 := by omega
      have b2 : ¬ ((tot ps k : Int) + (q : Int) < 0) := by omega
      clear hts hle hp hv hq
      go_wp2
      go_round
      case rel => exact ⟨k + 1, by omega, by rw [HTs.out]; go_num, by go_num⟩
      case measure => simp [intOf]; omega
    · obtain rfl : k = m := by omega
      have hc0 := fun w => grow_item (tot ps k) w ht ht'
      go_wp2_with (go_at_call 144; refine (hc0 _).mono ?_; rintro e w1 ⟨g, cap, rfl, hcap, got1, hb1⟩; refine Hid.out ?_)
      refine Lib.hid ?_
      have G1 := Lib.hid got1
      have B1 := Lib.hid hb1
      obtain ⟨i0, p1, p2, p3, p4⟩ := info_parts infoIt
      clear got1 hb1 hc0 hlt hcap
      go_wp2_with fail
      go_loopw [6, 27] (fun v i wr => ∃ j g cap : Nat, j ≤ k ∧ i = .int .i64 j ∧ v = .slice (some ⟨g, 0, none⟩) (tot ps j) cap ∧ Hid (Got wr w.heap.size 41 2 g (tot ps j) cap (cat ps j)) ∧ Hid (Below w.heap.size w wr)) (fun _ i _ => k - (intOf i).toNat)
      case atStart => exact ⟨0, g, cap, Nat.zero_le _, rfl, rfl, G1, B1⟩
      case round =>
        obtain ⟨j, g, cap, hj, rfl, rfl, hg, hbw⟩ := hrel
        by_cases hlt : j < k
        · have hjl : j < ps.length := by have := HM.out; omega
          have hts := tot_succ ps j hjl
          have hcs := cat_succ ps j hjl
          have hle := Hmono.out (j + 1) k (by omega)
          obtain ⟨p, hp⟩ : ∃ p, p = ps[j] := ⟨_, rfl⟩
          have hpe := Each.out p (by rw [hp]; exact List.getElem_mem _)
          have hc : wr.cell? ⟨gq, j, none⟩ = some p.1 := by
            rw [hbw.out.cell hgq]
            have := HQ.out j p.1 (by rw [List.getElem?_map, List.getElem?_eq_getElem hjl, hp]; rfl); simpa using this
          rw [← hp] at hts hcs
          obtain ⟨g', cap', w2, hrun, h2, _, h4⟩ := run_app (P := Tryd.prog) wr 71 71 41 i0 _ 2 32 Tryd.underlying71 p1 p2 p3 p4 rfl (by decide) g (tot ps j) cap w.heap.size (cat ps j) hg.out p.1 B p.2.1 p.2.2 (hpe.1.later (hbw.out.mono hB) (Nat.le_refl _)) hpe.2.1 hpe.2.2 (by unfold maxLen; omega) (by omega)
          obtain ⟨a, c, hv, _⟩ := hpe.1
          rw [hv] at hc hrun
          obtain ⟨q, hq⟩ : ∃ q, q = p.2.1 := ⟨_, rfl⟩
          have hgg : w.heap.size ≤ g := hg.out.2.2.2.1
          have G2 : Hid (Got w2 w.heap.size 41 2 g' (tot ps (j + 1)) cap' (cat ps (j + 1))) := Lib.hid (by rw [hts, hcs]; exact h4)
          have B2 : Hid (Below w.heap.size w w2) := Lib.hid (hbw.out.grown h2 hbw.out.size (fun x hx => by cases hx; exact hgg))
          have HT : Hid (tot ps j + q = tot ps (j + 1)) := Lib.hid (by rw [hts, hq])
          rw [← hq] at hc hrun
          have HR := Lib.hid hrun
          clear hts hcs hle hp hv hq hpe h2 h4 hrun hg p1 p2 p3 p4
          go_wp2_with (at_builtin; refine wpList_app rfl _ _ _ rfl _ _ _ rfl rfl HR.out ?_)
          go_roundw
          case rel => exact ⟨j + 1, g', cap', by omega, by go_num, by rw [← HT.out], G2, B2⟩
          case measure => simp [intOf]; omega
        · obtain rfl : j = k := by omega
          clear p1 p2 p3 p4
          go_wp2_with fail
          go_ret
          exact ⟨g, cap, rfl, hg.out, hbw.out⟩

set_option maxRecDepth 100000 in
set_option maxHeartbeats 2000000 in
theorem grow_talk (n : Nat) (w : World) (hn : 0 < n) (hb : n ≤ 2199023255552) :
    Calls Tryd.prog 135 #[.slice none 0 0, .int .i64 n] w fun e w' => ∃ g cap, e = .returned (.slice (some ⟨g, 0, none⟩) 0 cap) ∧ n ≤ cap ∧ Got w' w.heap.size 38 3 g 0 cap [] ∧ Below w.heap.size w w' := by
  obtain ⟨i0, p1, p2, p3, p4⟩ := info_parts infoTk
  have hz : (Builtin.firstCells i0.size 0 (.slice none 0 0)).run Tryd.prog w.drew = .ok (List.toArray []) w.drew := run_firstCells_none w.drew i0.size 0 0 0
  have hr := Lib.run_append_grow_zeros (P := Tryd.prog) w 73 3 73 38 i0 _ .i64 .i64 Tryd.underlying73 Tryd.underlying3 p1 p2 none 0 0 [] hz n (by omega) (by omega) (by omega) (by omega) (by rw [p4]; omega) (by rw [p4]; exact growslice_fits (by omega) (by omega))
  have hge := grownCap_ge w (0 + n) 0 38
  have hmx := grownCap_le_maxLen w (0 + n) 0 38 (by unfold maxLen; omega)
  obtain ⟨cp, hcp⟩ : ∃ c, c = grownCap w (0 + n) 0 38 := ⟨_, rfl⟩
  rw [← hcp] at hr hge hmx
  obtain ⟨z, hz0⟩ : ∃ z : Value, z = .agg #[.string ⟨#[]⟩, .int .i64 0, .string ⟨#[]⟩] := ⟨_, rfl⟩
  rw [← hz0] at hr
  obtain ⟨cur, hcur⟩ : ∃ cur, cur = (List.toArray []) ++ Builtin.zeroCells z.cells n ++ Builtin.zeroCells z.cells (cp - (0 + n)) := ⟨_, rfl⟩
  rw [← hcur] at hr
  have hcs : cur.size = cp * 3 := by
    rw [hcur, Array.size_append, Array.size_append, size_zeroCells, size_zeroCells, hz0]
    show 0 + n * 3 + (cp - (0 + n)) * 3 = cp * 3
    omega
  obtain ⟨X, hX⟩ : ∃ X, X = w.drew.alloc (.cells cur 38) := ⟨_, rfl⟩
  have hk : X.heap[w.heap.size]? = some (.cells cur 38 (0, 0)) := by rw [hX]; exact heap_new w.drew _
  have hXs : X.heap.size = w.heap.size + 1 := by rw [hX]; simp
  have hbX : Below w.heap.size w X := by rw [hX]; exact (Below.refl w.heap.size w).drew.alloc (Nat.le_refl _) _
  rw [← hX, show 0 + n = n by omega] at hr
  have got : Got X w.heap.size 38 3 w.heap.size 0 cp [] := ⟨by simp, by omega, hmx, Nat.le_refl _, by omega, .inr ⟨by simp, .inr ⟨w.heap.size, cp, cur, rfl, Nat.le_refl _, hk, by omega, hmx, hcs, by simp⟩⟩⟩
  have Hr := Lib.hid hr
  have Hg := Lib.hid got
  have Hb := Lib.hid hbX
  have hmx' : cp ≤ 9223372036854775807 := by unfold maxLen at hmx; omega
  clear hr got hbX hk hXs hcs hX hcur hz hz0 hcp hmx p1 p2 p3 p4
  go_enter Tryd.func135, Tryd.ntmps135
  go_wp2_with (at_builtin; refine Lib.wpList_append_run _ rfl _ _ _ _ rfl _ _ rfl rfl _ _ Hr.out ?_)
  go_ret
  exact ⟨w.heap.size, cp, rfl, by omega, Hg.out, Hb.out⟩


set_option maxRecDepth 100000 in
set_option maxHeartbeats 4000000 in
theorem concat_talks (ps : List (Value × Nat × List Value)) (gq : Nat) (w : World) (B : Nat) (hB : B ≤ w.heap.size) (hq : At w gq 0 (ps.map (·.1))) (hgq : gq < w.heap.size) (hm : ps.length ≤ 1000)
    (each : ∀ p ∈ ps, Raw w B p.1 p.2.1 p.2.2 ∧ p.2.2.length = p.2.1 * 3 ∧ ∀ u ∈ p.2.2, u.oneCell' = true) (ht : 0 < tot ps ps.length) (ht' : tot ps ps.length ≤ 2199023255552) :
    Calls Tryd.prog 127 #[.slice (some ⟨gq, 0, none⟩) ps.length ps.length] w fun e w' => ∃ g cap, e = .returned (.slice (some ⟨g, 0, none⟩) (tot ps ps.length) cap) ∧ Got w' w.heap.size 38 3 g (tot ps ps.length) cap (cat ps ps.length) ∧ Below w.heap.size w w' := by
  obtain ⟨m, hM⟩ : ∃ m, m = ps.length := ⟨_, rfl⟩
  rw [← hM] at hm ht ht' ⊢
  have HM := Lib.hid hM
  have Each := Lib.hid each
  have HQ := Lib.hid hq
  have Hmono := Lib.hid (tot_mono ps)
  clear hM each hq
  go_enter Tryd.func127, Tryd.ntmps127
  go_wp2
  go_loop [3, 11] (fun t i => ∃ k : Nat, k ≤ m ∧ t = .int .i64 (tot ps k) ∧ i = .int .i64 k) (fun _ i => m - (intOf i).toNat)
  case atStart => exact ⟨0, Nat.zero_le _, rfl, rfl⟩
  case round =>
    obtain ⟨k, hk, rfl, rfl⟩ := hrel
    by_cases hlt : k < m
    · have hkl : k < ps.length := by have := HM.out; omega
      have hts := tot_succ ps k hkl
      have hle := Hmono.out (k + 1) m (by omega)
      obtain ⟨p, hp⟩ : ∃ p, p = ps[k] := ⟨_, rfl⟩
      have hc : w.cell? ⟨gq, k, none⟩ = some p.1 := by have := HQ.out k p.1 (by rw [List.getElem?_map, List.getElem?_eq_getElem hkl, hp]; rfl); simpa using this
      obtain ⟨a, c, hv, _⟩ := (Each.out p (by rw [hp]; exact List.getElem_mem _)).1
      rw [hv] at hc
      rw [← hp] at hts
      obtain ⟨q, hq⟩ : ∃ q, q = p.2.1 := ⟨_, rfl⟩
      rw [← hq] at hc hts
      have HTs := Lib.hid hts
      have b1 : (tot ps k : Int) + (q : Int) ≤ 2199023255552 := by omega
      have b2 : ¬ ((tot ps k : Int) + (q : Int) < 0) := by omega
      clear hts hle hp hv hq
      go_wp2
      go_round
      case rel => exact ⟨k + 1, by omega, by rw [HTs.out]; go_num, by go_num⟩
      case measure => simp [intOf]; omega
    · obtain rfl : k = m := by omega
      have hc0 := fun w => grow_talk (tot ps k) w ht ht'
      go_wp2_with (go_at_call 135; refine (hc0 _).mono ?_; rintro e w1 ⟨g, cap, rfl, hcap, got1, hb1⟩; refine Hid.out ?_)
      refine Lib.hid ?_
      have G1 := Lib.hid got1
      have B1 := Lib.hid hb1
      obtain ⟨i0, p1, p2, p3, p4⟩ := info_parts infoTk
      clear got1 hb1 hc0 hlt hcap
      go_wp2_with fail
      go_loopw [6, 27] (fun v i wr => ∃ j g cap : Nat, j ≤ k ∧ i = .int .i64 j ∧ v = .slice (some ⟨g, 0, none⟩) (tot ps j) cap ∧ Hid (Got wr w.heap.size 38 3 g (tot ps j) cap (cat ps j)) ∧ Hid (Below w.heap.size w wr)) (fun _ i _ => k - (intOf i).toNat)
      case atStart => exact ⟨0, g, cap, Nat.zero_le _, rfl, rfl, G1, B1⟩
      case round =>
        obtain ⟨j, g, cap, hj, rfl, rfl, hg, hbw⟩ := hrel
        by_cases hlt : j < k
        · have hjl : j < ps.length := by have := HM.out; omega
          have hts := tot_succ ps j hjl
          have hcs := cat_succ ps j hjl
          have hle := Hmono.out (j + 1) k (by omega)
          obtain ⟨p, hp⟩ : ∃ p, p = ps[j] := ⟨_, rfl⟩
          have hpe := Each.out p (by rw [hp]; exact List.getElem_mem _)
          have hc : wr.cell? ⟨gq, j, none⟩ = some p.1 := by
            rw [hbw.out.cell hgq]
            have := HQ.out j p.1 (by rw [List.getElem?_map, List.getElem?_eq_getElem hjl, hp]; rfl); simpa using this
          rw [← hp] at hts hcs
          obtain ⟨g', cap', w2, hrun, h2, _, h4⟩ := run_app (P := Tryd.prog) wr 73 73 38 i0 _ 3 40 Tryd.underlying73 p1 p2 p3 p4 rfl (by decide) g (tot ps j) cap w.heap.size (cat ps j) hg.out p.1 B p.2.1 p.2.2 (hpe.1.later (hbw.out.mono hB) (Nat.le_refl _)) hpe.2.1 hpe.2.2 (by unfold maxLen; omega) (by omega)
          obtain ⟨a, c, hv, _⟩ := hpe.1
          rw [hv] at hc hrun
          obtain ⟨q, hq⟩ : ∃ q, q = p.2.1 := ⟨_, rfl⟩
          have hgg : w.heap.size ≤ g := hg.out.2.2.2.1
          have G2 : Hid (Got w2 w.heap.size 38 3 g' (tot ps (j + 1)) cap' (cat ps (j + 1))) := Lib.hid (by rw [hts, hcs]; exact h4)
          have B2 : Hid (Below w.heap.size w w2) := Lib.hid (hbw.out.grown h2 hbw.out.size (fun x hx => by cases hx; exact hgg))
          have HT : Hid (tot ps j + q = tot ps (j + 1)) := Lib.hid (by rw [hts, hq])
          rw [← hq] at hc hrun
          have HR := Lib.hid hrun
          clear hts hcs hle hp hv hq hpe h2 h4 hrun hg p1 p2 p3 p4
          go_wp2_with (at_builtin; refine wpList_app rfl _ _ _ rfl _ _ _ rfl rfl HR.out ?_)
          go_roundw
          case rel => exact ⟨j + 1, g', cap', by omega, by go_num, by rw [← HT.out], G2, B2⟩
          case measure => simp [intOf]; omega
        · obtain rfl : j = k := by omega
          clear p1 p2 p3 p4
          go_wp2_with fail
          go_ret
          exact ⟨g, cap, rfl, hg.out, hbw.out⟩
end Go.Proofs.YtebmaplflpfjbaaDoor
