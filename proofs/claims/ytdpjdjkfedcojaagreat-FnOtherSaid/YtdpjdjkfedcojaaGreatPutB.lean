/- What the proofs of this seat have in common: plain facts, rows in memory, the laws' own helpers, the small functions' contracts. Condition: none. -/
import Derived.Test.YtdpjdjkfedcojaaGreatBaseA
import Derived.Test.YtdpjdjkfedcojaaGreatImplRow
import Derived.Lib.AppendZerosOnto
import Derived.Test.YtdpjdjkfedcojaaGreatPutPlain
import Derived.Lib.SliceRun
import Derived.Test.YtdpjdjkfedcojaaGreatImplState
namespace Go.Proofs.YtdpjdjkfedcojaaGreat
open Go.RowKit
set_option linter.unusedVariables false
set_option linter.unusedSimpArgs false

set_option maxRecDepth 100000 in
set_option maxHeartbeats 2000000 in
theorem grow_item (n : Nat) (w : World) (hn : 0 < n) (hb : n ≤ 2199023255552) :
    Calls Tryz.prog 112 #[.slice none 0 0, .int .i64 n] w fun e w' => ∃ g cap, e = .returned (.slice (some ⟨g, 0, none⟩) 0 cap) ∧ n ≤ cap ∧ Got w' w.heap.size 45 2 g 0 cap [] ∧ Below w.heap.size w w' := by
  obtain ⟨i0, p1, p2, p3, p4⟩ := info_parts infoIt
  have hz : (Builtin.firstCells i0.size 0 (.slice none 0 0)).run Tryz.prog w.drew = .ok (List.toArray []) w.drew := run_firstCells_none w.drew i0.size 0 0 0
  have hr := Lib.run_append_grow_zeros (P := Tryz.prog) w 81 3 81 45 i0 _ .i64 .i64 Tryz.underlying81 Tryz.underlying3 p1 p2 none 0 0 [] hz n (by omega) (by omega) (by omega) (by omega) (by rw [p4]; omega) (by rw [p4]; exact growslice_fits (by omega) (by omega))
  have hge := grownCap_ge w (0 + n) 0 45
  have hmx := grownCap_le_maxLen w (0 + n) 0 45 (by unfold maxLen; omega)
  obtain ⟨cp, hcp⟩ : ∃ c, c = grownCap w (0 + n) 0 45 := ⟨_, rfl⟩
  rw [← hcp] at hr hge hmx
  obtain ⟨z, hz0⟩ : ∃ z : Value, z = .agg #[.string ⟨#[]⟩, .string ⟨#[]⟩] := ⟨_, rfl⟩
  rw [← hz0] at hr
  obtain ⟨cur, hcur⟩ : ∃ cur, cur = (List.toArray []) ++ Builtin.zeroCells z.cells n ++ Builtin.zeroCells z.cells (cp - (0 + n)) := ⟨_, rfl⟩
  rw [← hcur] at hr
  have hcs : cur.size = cp * 2 := by
    rw [hcur, Array.size_append, Array.size_append, size_zeroCells, size_zeroCells, hz0]
    show 0 + n * 2 + (cp - (0 + n)) * 2 = cp * 2
    omega
  obtain ⟨X, hX⟩ : ∃ X, X = w.drew.alloc (.cells cur 45) := ⟨_, rfl⟩
  have hk : X.heap[w.heap.size]? = some (.cells cur 45 (0, 0)) := by rw [hX]; exact heap_new w.drew _
  have hXs : X.heap.size = w.heap.size + 1 := by rw [hX]; simp
  have hbX : Below w.heap.size w X := by rw [hX]; exact (Below.refl w.heap.size w).drew.alloc (Nat.le_refl _) _
  rw [← hX, show 0 + n = n by omega] at hr
  have got : Got X w.heap.size 45 2 w.heap.size 0 cp [] := ⟨by simp, by omega, hmx, Nat.le_refl _, by omega, .inr ⟨by simp, .inr ⟨w.heap.size, cp, cur, rfl, Nat.le_refl _, hk, by omega, hmx, hcs, by simp⟩⟩⟩
  have Hr := Lib.hid hr
  have Hg := Lib.hid got
  have Hb := Lib.hid hbX
  have hmx' : cp ≤ 9223372036854775807 := by unfold maxLen at hmx; omega
  clear hr got hbX hk hXs hcs hX hcur hz hz0 hcp hmx p1 p2 p3 p4
  go_enter Tryz.func112, Tryz.ntmps112
  go_wp2_with (at_builtin; refine Lib.wpList_append_run _ rfl _ _ _ _ rfl _ _ rfl rfl _ _ Hr.out ?_)
  go_ret
  exact ⟨w.heap.size, cp, rfl, by omega, Hg.out, Hb.out⟩

/-- Parts: a slice, how many elements it has, its cells. -/
def tot (ps : List (Value × Nat × List Value)) (k : Nat) : Nat := ((ps.take k).map fun p => p.2.1).sum
def cat (ps : List (Value × Nat × List Value)) (k : Nat) : List Value := (ps.take k).flatMap fun p => p.2.2
theorem tot_succ (ps : List (Value × Nat × List Value)) (k : Nat) (hk : k < ps.length) : tot ps (k + 1) = tot ps k + ps[k].2.1 := by
  unfold tot; rw [List.take_succ_eq_append_getElem hk, List.map_append, List.sum_append]; simp
theorem cat_succ (ps : List (Value × Nat × List Value)) (k : Nat) (hk : k < ps.length) : cat ps (k + 1) = cat ps k ++ ps[k].2.2 := by
  unfold cat; rw [List.take_succ_eq_append_getElem hk, List.flatMap_append]; simp
theorem tot_mono (ps : List (Value × Nat × List Value)) (j k : Nat) (h : j ≤ k) : tot ps j ≤ tot ps k := by
  induction k with
  | zero => obtain rfl : j = 0 := by omega
            exact Nat.le_refl _
  | succ k ih =>
    by_cases hj : j = k + 1
    · subst hj; exact Nat.le_refl _
    · by_cases hk : k < ps.length
      · rw [tot_succ ps k hk]; have := ih (by omega); omega
      · have : tot ps (k + 1) = tot ps k := by unfold tot; rw [List.take_of_length_le (by omega), List.take_of_length_le (by omega)]
        rw [this]; exact ih (by omega)

set_option maxRecDepth 100000 in
set_option maxHeartbeats 4000000 in
theorem concat_items (ps : List (Value × Nat × List Value)) (gq : Nat) (w : World) (B : Nat) (hB : B ≤ w.heap.size) (hq : At w gq 0 (ps.map (·.1))) (hgq : gq < w.heap.size) (hm : ps.length ≤ 1000)
    (each : ∀ p ∈ ps, Raw w B p.1 p.2.1 p.2.2 ∧ p.2.2.length = p.2.1 * 2 ∧ ∀ u ∈ p.2.2, u.oneCell' = true) (ht : 0 < tot ps ps.length) (ht' : tot ps ps.length ≤ 2199023255552) :
    Calls Tryz.prog 88 #[.slice (some ⟨gq, 0, none⟩) ps.length ps.length] w fun e w' => ∃ g cap, e = .returned (.slice (some ⟨g, 0, none⟩) (tot ps ps.length) cap) ∧ Got w' w.heap.size 45 2 g (tot ps ps.length) cap (cat ps ps.length) ∧ Below w.heap.size w w' := by
  obtain ⟨m, hM⟩ : ∃ m, m = ps.length := ⟨_, rfl⟩
  rw [← hM] at hm ht ht' ⊢
  have HM := Lib.hid hM
  have Each := Lib.hid each
  have HQ := Lib.hid hq
  have Hmono := Lib.hid (tot_mono ps)
  clear hM each hq
  go_enter Tryz.func88, Tryz.ntmps88
  go_wp2
  go_loop [3, 11] (fun t i => ∃ k : Nat, k ≤ m ∧ t = .int .i64 (tot ps k) ∧ i = .int .i64 k) (fun _ i => m - (intOf i).toNat)
  case atStart => exact ⟨0, Nat.zero_le _, rfl, rfl⟩
  case round =>
    obtain ⟨k, hk, rfl, rfl⟩ := hrel
    by_cases hlt : k < m
    · have hkl : k < ps.length := by have := HM.out; omega
      have hts := tot_succ ps k hkl
      have hle := Hmono.out (k + 1) m (by omega)
      obtain ⟨p, hp⟩ : ∃ p, p = ps[k] := ⟨_, rfl⟩
      have hc : w.cell? ⟨gq, k, none⟩ = some p.1 := by have := HQ.out k p.1 (by rw [List.getElem?_map, List.getElem?_eq_getElem hkl, hp]; rfl); simpa using this
      obtain ⟨a, c, hv, _⟩ := (Each.out p (by rw [hp]; exact List.getElem_mem _)).1
      rw [hv] at hc
      rw [← hp] at hts
      obtain ⟨q, hq⟩ : ∃ q, q = p.2.1 := ⟨_, rfl⟩
      rw [← hq] at hc hts
      have HTs := Lib.hid hts
      have b1 : (tot ps k : Int) + (q : Int) ≤ 2199023255552 := by omega
      have b2 : ¬ ((tot ps k : Int) + (q : Int) < 0) := by omega
      clear hts hle hp hv hq
      go_wp2
      go_round
      case rel => exact ⟨k + 1, by omega, by rw [HTs.out]; go_num, by go_num⟩
      case measure => simp [intOf]; omega
    · obtain rfl : k = m := by omega
      have hc0 := fun w => grow_item (tot ps k) w ht ht'
      go_wp2_with (go_at_call 112; refine (hc0 _).mono ?_; rintro e w1 ⟨g, cap, rfl, hcap, got1, hb1⟩; refine Hid.out ?_)
      refine Lib.hid ?_
      have G1 := Lib.hid got1
      have B1 := Lib.hid hb1
      obtain ⟨i0, p1, p2, p3, p4⟩ := info_parts infoIt
      clear got1 hb1 hc0 hlt hcap
      go_wp2_with fail
      go_loopw [6, 27] (fun v i wr => ∃ j g cap : Nat, j ≤ k ∧ i = .int .i64 j ∧ v = .slice (some ⟨g, 0, none⟩) (tot ps j) cap ∧ Hid (Got wr w.heap.size 45 2 g (tot ps j) cap (cat ps j)) ∧ Hid (Below w.heap.size w wr)) (fun _ i _ => k - (intOf i).toNat)
      case atStart => exact ⟨0, g, cap, Nat.zero_le _, rfl, rfl, G1, B1⟩
      case round =>
        obtain ⟨j, g, cap, hj, rfl, rfl, hg, hbw⟩ := hrel
        by_cases hlt : j < k
        · have hjl : j < ps.length := by have := HM.out; omega
          have hts := tot_succ ps j hjl
          have hcs := cat_succ ps j hjl
          have hle := Hmono.out (j + 1) k (by omega)
          obtain ⟨p, hp⟩ : ∃ p, p = ps[j] := ⟨_, rfl⟩
          have hpe := Each.out p (by rw [hp]; exact List.getElem_mem _)
          have hc : wr.cell? ⟨gq, j, none⟩ = some p.1 := by
            rw [hbw.out.cell hgq]
            have := HQ.out j p.1 (by rw [List.getElem?_map, List.getElem?_eq_getElem hjl, hp]; rfl); simpa using this
          rw [← hp] at hts hcs
          obtain ⟨g', cap', w2, hrun, h2, _, h4⟩ := run_app (P := Tryz.prog) wr 81 81 45 i0 _ 2 32 Tryz.underlying81 p1 p2 p3 p4 rfl (by decide) g (tot ps j) cap w.heap.size (cat ps j) hg.out p.1 B p.2.1 p.2.2 (hpe.1.later (hbw.out.mono hB) (Nat.le_refl _)) hpe.2.1 hpe.2.2 (by unfold maxLen; omega) (by omega)
          obtain ⟨a, c, hv, _⟩ := hpe.1
          rw [hv] at hc hrun
          obtain ⟨q, hq⟩ : ∃ q, q = p.2.1 := ⟨_, rfl⟩
          have hgg : w.heap.size ≤ g := hg.out.2.2.2.1
          have G2 : Hid (Got w2 w.heap.size 45 2 g' (tot ps (j + 1)) cap' (cat ps (j + 1))) := Lib.hid (by rw [hts, hcs]; exact h4)
          have B2 : Hid (Below w.heap.size w w2) := Lib.hid (hbw.out.grown h2 hbw.out.size (fun x hx => by cases hx; exact hgg))
          have HT : Hid (tot ps j + q = tot ps (j + 1)) := Lib.hid (by rw [hts, hq])
          rw [← hq] at hc hrun
          have HR := Lib.hid hrun
          clear hts hcs hle hp hv hq hpe h2 h4 hrun hg p1 p2 p3 p4
          go_wp2_with (at_builtin; refine wpList_app rfl _ _ _ rfl _ _ _ rfl rfl HR.out ?_)
          go_roundw
          case rel => exact ⟨j + 1, g', cap', by omega, by go_num, by rw [← HT.out], G2, B2⟩
          case measure => simp [intOf]; omega
        · obtain rfl : j = k := by omega
          clear p1 p2 p3 p4
          go_wp2_with fail
          go_ret
          exact ⟨g, cap, rfl, hg.out, hbw.out⟩

end Go.Proofs.YtdpjdjkfedcojaaGreat

namespace Go.Proofs.YtdpjdjkfedcojaaGreat
open Go.RowKit List
set_option linter.unusedVariables false
set_option linter.unusedSimpArgs false

theorem raw_takeI {w : World} {B n cap k : Nat} {a : Option Addr} {cs : List Value} (h : Raw w B (.slice a n cap) n cs) (hk : k ≤ n) : Raw w B (.slice a k cap) k (cs.take (k * 2)) := by
  obtain ⟨a', cap', hv, h1, h2, h3, h4⟩ := h
  cases hv
  refine ⟨a, cap, rfl, by omega, h2, h3, fun h0 => ?_⟩
  obtain ⟨g, o, e, hg, hA⟩ := h4 (by omega)
  refine ⟨g, o, e, hg, fun j u hu => hA j u ?_⟩
  rw [List.getElem?_take] at hu
  split at hu
  · exact hu
  · cases hu
theorem raw_dropI {w : World} {B n cap j m c : Nat} {g o : Nat} {cs : List Value} (h : Raw w B (.slice (some ⟨g, o, none⟩) n cap) n cs) (hm : m = n - j) (hc : m ≤ c) (hc' : c ≤ maxLen) : Raw w B (.slice (some ⟨g, o + j * 2, none⟩) m c) m (cs.drop (j * 2)) := by
  obtain ⟨a', cap', hv, h1, h2, h3, h4⟩ := h
  cases hv
  refine ⟨_, c, rfl, hc, hc', (fun h => by cases h), fun h0 => ?_⟩
  obtain ⟨g', o', e, hg, hA⟩ := h4 (by omega)
  cases e
  refine ⟨g, o + j * 2, rfl, hg, fun i u hu => ?_⟩
  rw [List.getElem?_drop] at hu
  have := hA _ u hu
  rwa [show o + (j * 2 + i) = o + j * 2 + i by omega] at this
theorem raw_noneI {w : World} {B m c : Nat} {ad : Addr} {cs : List Value} (hm : m = 0) (hc : c ≤ maxLen) : Raw w B (.slice (some ad) m c) m cs :=
  ⟨_, c, rfl, by omega, hc, (fun h => by cases h), fun h => absurd h (by omega)⟩
theorem concat3_items (v1 v2 v3 : Value) (n1 n2 n3 : Nat) (c1 c2 c3 : List Value) (gq : Nat) (w : World) (B : Nat) (hB : B ≤ w.heap.size) (hq : w.heap[gq]? = some (.cells #[v1, v2, v3] 81 (0, 0))) (hgq : gq < w.heap.size)
    (h1 : Raw w B v1 n1 c1 ∧ c1.length = n1 * 2 ∧ ∀ u ∈ c1, u.oneCell' = true) (h2 : Raw w B v2 n2 c2 ∧ c2.length = n2 * 2 ∧ ∀ u ∈ c2, u.oneCell' = true) (h3 : Raw w B v3 n3 c3 ∧ c3.length = n3 * 2 ∧ ∀ u ∈ c3, u.oneCell' = true)
    (ht : 0 < n1 + n2 + n3) (ht' : n1 + n2 + n3 ≤ 2199023255552) :
    Calls Tryz.prog 88 #[.slice (some ⟨gq, 0, none⟩) 3 3] w fun e w' => ∃ g cap, e = .returned (.slice (some ⟨g, 0, none⟩) (n1 + n2 + n3) cap) ∧ Got w' w.heap.size 45 2 g (n1 + n2 + n3) cap (c1 ++ c2 ++ c3) ∧ Below w.heap.size w w' := by
  have e1 : tot [(v1, n1, c1), (v2, n2, c2), (v3, n3, c3)] 3 = n1 + n2 + n3 := by simp [tot]; omega
  have e2 : cat [(v1, n1, c1), (v2, n2, c2), (v3, n3, c3)] 3 = c1 ++ c2 ++ c3 := by simp [cat]
  have h := concat_items [(v1, n1, c1), (v2, n2, c2), (v3, n3, c3)] gq w B hB (fun j u hu => by
      rw [Nat.zero_add, cell_of_row w gq j _ _ _ hq]
      simpa using hu) hgq (by simp) (fun p hp => by
      simp only [List.mem_cons, List.not_mem_nil, or_false] at hp
      rcases hp with rfl | rfl | rfl
      · exact h1
      · exact h2
      · exact h3) (by show 0 < tot _ 3; omega) (by show tot _ 3 ≤ _; omega)
  simp only [List.length_cons, List.length_nil, Nat.zero_add, Nat.reduceAdd] at h
  rw [e1, e2] at h
  exact h

set_option maxRecDepth 100000 in
set_option maxHeartbeats 4000000 in
theorem put_items (xs : List It) (x : It) (g o cap B : Nat) (w : World) (hr : Raw w B (.slice (some ⟨g, o, none⟩) xs.length cap) xs.length (xs.flatMap itC)) (hB : B ≤ w.heap.size) (hfew : xs.length ≤ 1099511627776) :
    Calls Tryz.prog 50 #[.slice (some ⟨g, o, none⟩) xs.length cap, itA x] w fun e w' => ∃ g' cap', e = .returned (.slice (some ⟨g', 0, none⟩) (putI xs x).length cap') ∧ Got w' w.heap.size 45 2 g' (putI xs x).length cap' ((putI xs x).flatMap itC) ∧ Below w.heap.size w w' := by
  unfold itA
  obtain ⟨_, _, hv, hn, hcap, _, hat⟩ := id hr
  cases hv
  obtain ⟨n, hN⟩ : ∃ n, n = xs.length := ⟨_, rfl⟩
  have HR := Lib.hid hr
  rw [← hN] at hn hat hfew ⊢
  have HN := Lib.hid hN
  have Hat := Lib.hid hat
  unfold maxLen at hcap
  obtain ⟨W, hW⟩ : ∃ W, W = w.alloc (.cells #[.string x.k, .string x.v] 45) := ⟨_, rfl⟩
  have hbW : Below w.heap.size w W := by rw [hW]; exact (Below.refl _ _).alloc (Nat.le_refl _) _
  have hWs : W.heap.size = w.heap.size + 1 := by rw [hW]; simp
  have HX : Hid (∀ w', Below W.heap.size W w' → w'.cell? ⟨w.heap.size, 0, none⟩ = some (.string x.k) ∧ w'.cell? ⟨w.heap.size, 1, none⟩ = some (.string x.v)) := Lib.hid (fun w' h => by
    rw [h.cell (show w.heap.size < W.heap.size by omega), h.cell (show w.heap.size < W.heap.size by omega), hW, World.cell?_alloc_new, World.cell?_alloc_new]; exact ⟨rfl, rfl⟩)
  have HbW := Lib.hid hbW
  have HWs := Lib.hid hWs
  have hcx := fun w => impl_nameI x w
  unfold itA at hcx
  have mN := meth_nameI
  have hW0 : Hid (Below W.heap.size W (w.alloc (.cells #[.string x.k, .string x.v] 45))) := Lib.hid (by rw [← hW]; exact Below.refl _ _)
  clear hN hat hr hbW hWs hW
  go_enter Tryz.func50, Tryz.ntmps50
  go_wp2
  go_loopw [5] (fun i wr => ∃ k : Nat, k ≤ n ∧ i = .int .i64 k ∧ Hid (Below W.heap.size W wr) ∧ Hid (∀ j (hj : j < xs.length), j < k → lessB xs[j].k x.k = true)) (fun i _ => n - (intOf i).toNat)
  case atStart => exact ⟨0, by omega, rfl, hW0, Lib.hid (fun j hj h => by omega)⟩
  case round =>
    obtain ⟨k, hk, rfl, hbw, hless⟩ := hrel
    by_cases hlt : k < n
    · obtain ⟨_, _, ha, hg, hAt⟩ := Hat.out (by omega)
      cases ha
      have hkl : k < xs.length := by have := HN.out; omega
      obtain ⟨y, hy⟩ : ∃ y, y = xs[k] := ⟨_, rfl⟩
      have HY : Hid (∀ w', Below W.heap.size W w' → w'.cell? ⟨g, o + k * 2, none⟩ = some (.string y.k) ∧ w'.cell? ⟨g, o + k * 2 + 1, none⟩ = some (.string y.v)) := Lib.hid (fun w' h => by
        have hb := HbW.out.trans (h.mono HbW.out.size)
        have hgw : g < w.heap.size := Nat.lt_of_lt_of_le hg hB
        have hc := hAt.item k hkl
        rw [← hy] at hc
        rw [hb.cell hgw, hb.cell hgw]; exact hc)
      have hcy := fun w => impl_nameI y w
      unfold itA at hcy
      have hc2 := fun w => less_any y.k x.k w
      have Hy := Lib.hid hy
      have hlt' : (k : Int) < (n : Int) := by omega
      clear hy hAt
      cases hb2 : lessB y.k x.k
      · rw [hb2] at hc2
        have hpos : Hid (posI xs x.k = k) := Lib.hid (posI_of xs _ k (by omega) hless.out (.inr ⟨hkl, by rw [← Hy.out]; exact hb2⟩))
        clear hb2
        go_wp2_with fail
        refine wp_region_held_drew (S := (fun w' => Below W.heap.size W w')) (by kernel_rfl) ((show Below W.heap.size W wr from hbw.out).drew) (fun hHeld => ?_)
        refine tk0 0 ?_
        refine tk0 1 ?_
        refine tk0 2 ?_
        refine tk0 3 ?_
        refine tk0 4 ?_
        refine tk0 5 ?_
        refine tk0 6 ?_
        refine tk0 7 ?_
        refine tk 8 (v := ?_) ?_ ?_; rotate_left
        · refine Or.inl ⟨by rfl, ?_⟩; intro w hSw; have f0 := HX.out w hSw; have f1 := HY.out w hSw; go_simp; first | done | with_reducible rfl
        refine tk0 9 ?_
        refine tk 11 (v := ?_) ?_ ?_; rotate_left
        · refine Or.inl ⟨by rfl, ?_⟩; intro w hSw; have f0 := HX.out w hSw; have f1 := HY.out w hSw; go_simp; first | done | with_reducible rfl
        refine tk0 12 ?_
        refine rd1 10 (fun K hK => ?_)
        go_simp
        go_at_call 135
        refine (hcy _).mono ?_
        rintro e w' ⟨rfl, hbc⟩
        have hB2 := hHeld.trans (hbc.mono hHeld.size)
        go_wp2_with fail
        refine hK.out _ _ (hB2) (fun hHeld => ?_)
        clear hK K
        refine rd1 13 (fun K hK => ?_)
        go_simp
        go_at_call 135
        refine (hcx _).mono ?_
        rintro e w' ⟨rfl, hbc⟩
        have hB3 := hHeld.trans (hbc.mono hHeld.size)
        go_wp2_with fail
        refine hK.out _ _ (hB3) (fun hHeld => ?_)
        clear hK K
        refine rd1 14 (fun K hK => ?_)
        go_simp
        go_at_call 87
        refine (hc2 _).mono ?_
        rintro e w' ⟨rfl, rfl⟩
        go_wp2_with fail
        refine hK.out _ _ (hHeld) (fun hHeld => ?_)
        clear hK K
        refine tk0 15 ?_
        refine wpAnyH_done (by kernel_rfl) ?_ _
        have hne : ¬ cap = k := by omega
        have hkc : k ≤ cap := by omega
        have e1 : 0 < n - k := by omega
        by_cases he : y.k = x.k
        · have hq := teq he
          have hput : Hid (putI xs x = xs.take k ++ x :: xs.drop (k + 1)) := Lib.hid (by unfold putI; rw [hpos.out, List.getElem?_eq_getElem hkl, ← Hy.out, if_pos (by simp [he])])
          clear he
          by_cases hc1 : cap - k = 1
          · have hn0 : n - k - 1 = 0 := by omega
            go_wp2_with fail
            refine wp_region_held_drew (S := (fun w' => Below W.heap.size W w')) (by kernel_rfl) (hHeld.drew) (fun hHeld => ?_)
            refine tk0 0 ?_
            refine tk0 1 ?_
            refine tk0 2 ?_
            refine tk0 3 ?_
            refine tk0 4 ?_
            refine tk0 5 ?_
            refine tk 6 (v := ?_) ?_ ?_; rotate_left
            · refine Or.inl ⟨by rfl, ?_⟩; intro w hSw; have f0 := HX.out w hSw; have f1 := HY.out w hSw; go_simp; first | done | with_reducible rfl
            refine tk0 7 ?_
            refine tk 9 (v := ?_) ?_ ?_; rotate_left
            · refine Or.inl ⟨by rfl, ?_⟩; intro w hSw; have f0 := HX.out w hSw; have f1 := HY.out w hSw; go_simp; first | done | with_reducible rfl
            refine tk0 10 ?_
            refine rd1 8 (fun K hK => ?_)
            go_simp
            go_at_call 135
            refine (hcy _).mono ?_
            rintro e w' ⟨rfl, hbc⟩
            have hB2 := hHeld.trans (hbc.mono hHeld.size)
            go_wp2_with fail
            refine hK.out _ _ (hB2) (fun hHeld => ?_)
            clear hK K
            refine rd1 11 (fun K hK => ?_)
            go_simp
            go_at_call 135
            refine (hcx _).mono ?_
            rintro e w' ⟨rfl, hbc⟩
            have hB3 := hHeld.trans (hbc.mono hHeld.size)
            go_wp2_with fail
            refine hK.out _ _ (hB3) (fun hHeld => ?_)
            clear hK K
            refine tk0 12 ?_
            refine tk0 13 ?_
            refine wpAnyH_done (by kernel_rfl) ?_ _
            go_wp2_with fail
            obtain ⟨wV, hwV⟩ : ∃ x, x = w' := ⟨_, rfl⟩
            rw [← hwV] at hHeld ⊢
            have BV := Lib.hid hHeld
            clear hwV hHeld
            refine wp_region_held_drew (S := (fun w' => Below W.heap.size W w')) (by kernel_rfl) (BV.out.drew) (fun hHeld => ?_)
            refine tk0 0 ?_
            refine tk0 1 ?_
            refine tk0 2 ?_
            refine tk 3 (v := ?_) ?_ ?_; rotate_left
            · refine Or.inl ⟨by rfl, ?_⟩; intro w hSw; have f0 := HX.out w hSw; go_simp; first | done | with_reducible rfl
            refine tk0 5 ?_
            refine rd1 4 (fun K hK => ?_)
            go_simp
            obtain ⟨V1, hV1⟩ : ∃ z, z = (wV.alloc (.cells #[.string x.k, .string x.v] 45)).drew := ⟨_, rfl⟩
            rw [← hV1]
            have b1 : Below wV.heap.size wV V1 := by rw [hV1]; exact ((Below.refl _ _).alloc (Nat.le_refl _) _).drew
            have s1 : V1.heap.size = wV.heap.size + 1 := by rw [hV1]; simp
            have q1 : V1.heap[wV.heap.size]? = some (.cells #[.string x.k, .string x.v] 45 (0, 0)) := by rw [hV1]; exact heap_new _ _
            have BV1 := Lib.hid (BV.out.trans (b1.mono BV.out.size))
            have S1 := Lib.hid s1
            have Q1 := Lib.hid q1
            clear hV1 b1 s1 q1
            go_wp2_with fail
            refine hK.out _ _ (BV1.out) (fun hHeld => ?_)
            clear hK K
            refine rd1 6 (fun K hK => ?_)
            go_simp
            obtain ⟨V2, hV2⟩ : ∃ z, z = V1.alloc (.cells #[.slice (some ⟨g, o, none⟩) k cap, .slice (some ⟨wV.heap.size, 0, none⟩) 1 1, .slice (some ⟨g, o + k * 2, none⟩) 0 0] 81) := ⟨_, rfl⟩
            rw [← hV2]
            have b2 : Below V1.heap.size V1 V2 := by rw [hV2]; exact (Below.refl _ _).alloc (Nat.le_refl _) _
            have s2 : V2.heap.size = V1.heap.size + 1 := by rw [hV2]; simp
            have q2 : V2.heap[V1.heap.size]? = some (.cells #[.slice (some ⟨g, o, none⟩) k cap, .slice (some ⟨wV.heap.size, 0, none⟩) 1 1, .slice (some ⟨g, o + k * 2, none⟩) 0 0] 81 (0, 0)) := by rw [hV2]; exact heap_new _ _
            have q3 := (b2.block wV.heap.size (by have := S1.out; omega)).trans Q1.out
            have BV2 := Lib.hid (BV1.out.trans (b2.mono BV1.out.size))
            have S2 := Lib.hid s2
            have Q2 := Lib.hid q2
            have Q3 := Lib.hid q3
            clear hV2 b2 s2 q2 q3
            go_wp2_with fail
            refine hK.out _ _ (BV2.out) (fun hHeld => ?_)
            clear hK K
            refine rd1 7 (fun K hK => ?_)
            go_simp
            go_at_call 88
            have HR2 := HR.out.later (B' := V2.heap.size) ((HbW.out.trans (BV2.out.mono HbW.out.size)).mono hB) (by have := HbW.out.size; have := BV2.out.size; omega)
            rw [← HN.out] at HR2
            have hn1 := HN.out
            have hrest : Raw V2 V2.heap.size (.slice (some ⟨g, o + k * 2, none⟩) 0 0) (0) ((xs.flatMap itC).drop ((k + 1) * 2)) := raw_noneI rfl (by unfold maxLen; omega)
            refine (concat3_items _ _ _ k 1 (0) ((xs.flatMap itC).take (k * 2)) (itC x) ((xs.flatMap itC).drop ((k + 1) * 2)) V1.heap.size V2 V2.heap.size (Nat.le_refl _) Q2.out (by have := S2.out; omega) ⟨raw_takeI HR2 hk, by rw [List.length_take, flat_len_it]; omega, fun u hu => one_it xs u (List.mem_of_mem_take hu)⟩
              ⟨⟨_, 1, rfl, Nat.le_refl _, by unfold maxLen; omega, (fun h => by cases h), fun _ => ⟨wV.heap.size, 0, rfl, by have := S1.out; have := S2.out; omega, fun j u hu => by rw [Nat.zero_add, cell_of_row V2 _ j _ _ _ Q3.out]; simpa [itC] using hu⟩⟩, by simp [itC], fun u hu => one_it [x] u (by simpa using hu)⟩
              ⟨hrest, by rw [List.length_drop, flat_len_it]; omega, fun u hu => one_it xs u (List.mem_of_mem_drop hu)⟩ (by omega) (by omega)).mono ?_
            rintro e w' ⟨g4, cap4, rfl, got4, hb4⟩
            have G4 := Lib.hid got4
            have B4 := Lib.hid (BV2.out.trans (hb4.mono BV2.out.size))
            clear got4 hb4 HR2 hrest hn1
            go_wp2_with fail
            refine hK.out _ _ (B4.out) (fun hHeld => ?_)
            clear hK K
            refine tk0 8 ?_
            refine wpAnyH_done (by kernel_rfl) ?_ _
            clear hHeld mN hcx
            go_wp2_with fail
            go_ret
            have hn1 := HN.out
            have hlen : (putI xs x).length = k + 1 + (0) := by rw [hput.out]; simp only [List.length_append, List.length_cons, List.length_take, List.length_drop]; omega
            have hfl : (putI xs x).flatMap itC = (xs.flatMap itC).take (k * 2) ++ itC x ++ (xs.flatMap itC).drop ((k + 1) * 2) := by rw [hput.out, List.flatMap_append, List.flatMap_cons, flat_take_it xs k (by omega), flat_drop_it xs (k + 1) (by omega), List.append_assoc]
            rw [hlen, hfl]
            exact ⟨g4, cap4, rfl, G4.out.base (by have := HbW.out.size; have := BV2.out.size; omega), HbW.out.trans (B4.out.mono HbW.out.size)⟩
          · go_wp2_with fail
            refine wp_region_held_drew (S := (fun w' => Below W.heap.size W w')) (by kernel_rfl) (hHeld.drew) (fun hHeld => ?_)
            refine tk0 0 ?_
            refine tk0 1 ?_
            refine tk0 2 ?_
            refine tk0 3 ?_
            refine tk0 4 ?_
            refine tk0 5 ?_
            refine tk 6 (v := ?_) ?_ ?_; rotate_left
            · refine Or.inl ⟨by rfl, ?_⟩; intro w hSw; have f0 := HX.out w hSw; have f1 := HY.out w hSw; go_simp; first | done | with_reducible rfl
            refine tk0 7 ?_
            refine tk 9 (v := ?_) ?_ ?_; rotate_left
            · refine Or.inl ⟨by rfl, ?_⟩; intro w hSw; have f0 := HX.out w hSw; have f1 := HY.out w hSw; go_simp; first | done | with_reducible rfl
            refine tk0 10 ?_
            refine rd1 8 (fun K hK => ?_)
            go_simp
            go_at_call 135
            refine (hcy _).mono ?_
            rintro e w' ⟨rfl, hbc⟩
            have hB2 := hHeld.trans (hbc.mono hHeld.size)
            go_wp2_with fail
            refine hK.out _ _ (hB2) (fun hHeld => ?_)
            clear hK K
            refine rd1 11 (fun K hK => ?_)
            go_simp
            go_at_call 135
            refine (hcx _).mono ?_
            rintro e w' ⟨rfl, hbc⟩
            have hB3 := hHeld.trans (hbc.mono hHeld.size)
            go_wp2_with fail
            refine hK.out _ _ (hB3) (fun hHeld => ?_)
            clear hK K
            refine tk0 12 ?_
            refine tk0 13 ?_
            refine wpAnyH_done (by kernel_rfl) ?_ _
            go_wp2_with fail
            obtain ⟨wV, hwV⟩ : ∃ x, x = w' := ⟨_, rfl⟩
            rw [← hwV] at hHeld ⊢
            have BV := Lib.hid hHeld
            clear hwV hHeld
            refine wp_region_held_drew (S := (fun w' => Below W.heap.size W w')) (by kernel_rfl) (BV.out.drew) (fun hHeld => ?_)
            refine tk0 0 ?_
            refine tk0 1 ?_
            refine tk0 2 ?_
            refine tk 3 (v := ?_) ?_ ?_; rotate_left
            · refine Or.inl ⟨by rfl, ?_⟩; intro w hSw; have f0 := HX.out w hSw; go_simp; first | done | with_reducible rfl
            refine tk0 5 ?_
            refine rd1 4 (fun K hK => ?_)
            go_simp
            obtain ⟨V1, hV1⟩ : ∃ z, z = (wV.alloc (.cells #[.string x.k, .string x.v] 45)).drew := ⟨_, rfl⟩
            rw [← hV1]
            have b1 : Below wV.heap.size wV V1 := by rw [hV1]; exact ((Below.refl _ _).alloc (Nat.le_refl _) _).drew
            have s1 : V1.heap.size = wV.heap.size + 1 := by rw [hV1]; simp
            have q1 : V1.heap[wV.heap.size]? = some (.cells #[.string x.k, .string x.v] 45 (0, 0)) := by rw [hV1]; exact heap_new _ _
            have BV1 := Lib.hid (BV.out.trans (b1.mono BV.out.size))
            have S1 := Lib.hid s1
            have Q1 := Lib.hid q1
            clear hV1 b1 s1 q1
            go_wp2_with fail
            refine hK.out _ _ (BV1.out) (fun hHeld => ?_)
            clear hK K
            refine rd1 6 (fun K hK => ?_)
            go_simp
            obtain ⟨V2, hV2⟩ : ∃ z, z = V1.alloc (.cells #[.slice (some ⟨g, o, none⟩) k cap, .slice (some ⟨wV.heap.size, 0, none⟩) 1 1, .slice (some ⟨g, o + k * 2 + 2, none⟩) (n - k - 1) (cap - k - 1)] 81) := ⟨_, rfl⟩
            rw [← hV2]
            have b2 : Below V1.heap.size V1 V2 := by rw [hV2]; exact (Below.refl _ _).alloc (Nat.le_refl _) _
            have s2 : V2.heap.size = V1.heap.size + 1 := by rw [hV2]; simp
            have q2 : V2.heap[V1.heap.size]? = some (.cells #[.slice (some ⟨g, o, none⟩) k cap, .slice (some ⟨wV.heap.size, 0, none⟩) 1 1, .slice (some ⟨g, o + k * 2 + 2, none⟩) (n - k - 1) (cap - k - 1)] 81 (0, 0)) := by rw [hV2]; exact heap_new _ _
            have q3 := (b2.block wV.heap.size (by have := S1.out; omega)).trans Q1.out
            have BV2 := Lib.hid (BV1.out.trans (b2.mono BV1.out.size))
            have S2 := Lib.hid s2
            have Q2 := Lib.hid q2
            have Q3 := Lib.hid q3
            clear hV2 b2 s2 q2 q3
            go_wp2_with fail
            refine hK.out _ _ (BV2.out) (fun hHeld => ?_)
            clear hK K
            refine rd1 7 (fun K hK => ?_)
            go_simp
            go_at_call 88
            have HR2 := HR.out.later (B' := V2.heap.size) ((HbW.out.trans (BV2.out.mono HbW.out.size)).mono hB) (by have := HbW.out.size; have := BV2.out.size; omega)
            rw [← HN.out] at HR2
            have hn1 := HN.out
            have hrest : Raw V2 V2.heap.size (.slice (some ⟨g, o + k * 2 + 2, none⟩) (n - k - 1) (cap - k - 1)) (n - k - 1) ((xs.flatMap itC).drop ((k + 1) * 2)) := (by have h := raw_dropI (j := k + 1) (m := n - k - 1) (c := cap - k - 1) HR2 (by omega) (by omega) (by unfold maxLen; omega); rwa [show o + (k + 1) * 2 = o + k * 2 + 2 by omega] at h)
            refine (concat3_items _ _ _ k 1 (n - k - 1) ((xs.flatMap itC).take (k * 2)) (itC x) ((xs.flatMap itC).drop ((k + 1) * 2)) V1.heap.size V2 V2.heap.size (Nat.le_refl _) Q2.out (by have := S2.out; omega) ⟨raw_takeI HR2 hk, by rw [List.length_take, flat_len_it]; omega, fun u hu => one_it xs u (List.mem_of_mem_take hu)⟩
              ⟨⟨_, 1, rfl, Nat.le_refl _, by unfold maxLen; omega, (fun h => by cases h), fun _ => ⟨wV.heap.size, 0, rfl, by have := S1.out; have := S2.out; omega, fun j u hu => by rw [Nat.zero_add, cell_of_row V2 _ j _ _ _ Q3.out]; simpa [itC] using hu⟩⟩, by simp [itC], fun u hu => one_it [x] u (by simpa using hu)⟩
              ⟨hrest, by rw [List.length_drop, flat_len_it]; omega, fun u hu => one_it xs u (List.mem_of_mem_drop hu)⟩ (by omega) (by omega)).mono ?_
            rintro e w' ⟨g4, cap4, rfl, got4, hb4⟩
            have G4 := Lib.hid got4
            have B4 := Lib.hid (BV2.out.trans (hb4.mono BV2.out.size))
            clear got4 hb4 HR2 hrest hn1
            go_wp2_with fail
            refine hK.out _ _ (B4.out) (fun hHeld => ?_)
            clear hK K
            refine tk0 8 ?_
            refine wpAnyH_done (by kernel_rfl) ?_ _
            clear hHeld mN hcx
            go_wp2_with fail
            go_ret
            have hn1 := HN.out
            have hlen : (putI xs x).length = k + 1 + (n - k - 1) := by rw [hput.out]; simp only [List.length_append, List.length_cons, List.length_take, List.length_drop]; omega
            have hfl : (putI xs x).flatMap itC = (xs.flatMap itC).take (k * 2) ++ itC x ++ (xs.flatMap itC).drop ((k + 1) * 2) := by rw [hput.out, List.flatMap_append, List.flatMap_cons, flat_take_it xs k (by omega), flat_drop_it xs (k + 1) (by omega), List.append_assoc]
            rw [hlen, hfl]
            exact ⟨g4, cap4, rfl, G4.out.base (by have := HbW.out.size; have := BV2.out.size; omega), HbW.out.trans (B4.out.mono HbW.out.size)⟩
        · have hq := tne he
          have hput : Hid (putI xs x = xs.take k ++ x :: xs.drop k) := Lib.hid (by unfold putI; rw [hpos.out, List.getElem?_eq_getElem hkl, ← Hy.out, if_neg (by simpa using he)])
          clear he
          go_wp2_with fail
          refine wp_region_held_drew (S := (fun w' => Below W.heap.size W w')) (by kernel_rfl) (hHeld.drew) (fun hHeld => ?_)
          refine tk0 0 ?_
          refine tk0 1 ?_
          refine tk0 2 ?_
          refine tk0 3 ?_
          refine tk0 4 ?_
          refine tk0 5 ?_
          refine tk 6 (v := ?_) ?_ ?_; rotate_left
          · refine Or.inl ⟨by rfl, ?_⟩; intro w hSw; have f0 := HX.out w hSw; have f1 := HY.out w hSw; go_simp; first | done | with_reducible rfl
          refine tk0 7 ?_
          refine tk 9 (v := ?_) ?_ ?_; rotate_left
          · refine Or.inl ⟨by rfl, ?_⟩; intro w hSw; have f0 := HX.out w hSw; have f1 := HY.out w hSw; go_simp; first | done | with_reducible rfl
          refine tk0 10 ?_
          refine rd1 8 (fun K hK => ?_)
          go_simp
          go_at_call 135
          refine (hcy _).mono ?_
          rintro e w' ⟨rfl, hbc⟩
          have hB2 := hHeld.trans (hbc.mono hHeld.size)
          go_wp2_with fail
          refine hK.out _ _ (hB2) (fun hHeld => ?_)
          clear hK K
          refine rd1 11 (fun K hK => ?_)
          go_simp
          go_at_call 135
          refine (hcx _).mono ?_
          rintro e w' ⟨rfl, hbc⟩
          have hB3 := hHeld.trans (hbc.mono hHeld.size)
          go_wp2_with fail
          refine hK.out _ _ (hB3) (fun hHeld => ?_)
          clear hK K
          refine tk0 12 ?_
          refine tk0 13 ?_
          refine wpAnyH_done (by kernel_rfl) ?_ _
          go_wp2_with fail
          obtain ⟨wV, hwV⟩ : ∃ x, x = w' := ⟨_, rfl⟩
          rw [← hwV] at hHeld ⊢
          have BV := Lib.hid hHeld
          clear hwV hHeld
          refine wp_region_held_drew (S := (fun w' => Below W.heap.size W w')) (by kernel_rfl) (BV.out.drew) (fun hHeld => ?_)
          refine tk0 0 ?_
          refine tk0 1 ?_
          refine tk0 2 ?_
          refine tk 3 (v := ?_) ?_ ?_; rotate_left
          · refine Or.inl ⟨by rfl, ?_⟩; intro w hSw; have f0 := HX.out w hSw; go_simp; first | done | with_reducible rfl
          refine tk0 5 ?_
          refine rd1 4 (fun K hK => ?_)
          go_simp
          obtain ⟨V1, hV1⟩ : ∃ z, z = (wV.alloc (.cells #[.string x.k, .string x.v] 45)).drew := ⟨_, rfl⟩
          rw [← hV1]
          have b1 : Below wV.heap.size wV V1 := by rw [hV1]; exact ((Below.refl _ _).alloc (Nat.le_refl _) _).drew
          have s1 : V1.heap.size = wV.heap.size + 1 := by rw [hV1]; simp
          have q1 : V1.heap[wV.heap.size]? = some (.cells #[.string x.k, .string x.v] 45 (0, 0)) := by rw [hV1]; exact heap_new _ _
          have BV1 := Lib.hid (BV.out.trans (b1.mono BV.out.size))
          have S1 := Lib.hid s1
          have Q1 := Lib.hid q1
          clear hV1 b1 s1 q1
          go_wp2_with fail
          refine hK.out _ _ (BV1.out) (fun hHeld => ?_)
          clear hK K
          refine rd1 6 (fun K hK => ?_)
          go_simp
          obtain ⟨V2, hV2⟩ : ∃ z, z = V1.alloc (.cells #[.slice (some ⟨g, o, none⟩) k cap, .slice (some ⟨wV.heap.size, 0, none⟩) 1 1, .slice (some ⟨g, o + k * 2, none⟩) (n - k) (cap - k)] 81) := ⟨_, rfl⟩
          rw [← hV2]
          have b2 : Below V1.heap.size V1 V2 := by rw [hV2]; exact (Below.refl _ _).alloc (Nat.le_refl _) _
          have s2 : V2.heap.size = V1.heap.size + 1 := by rw [hV2]; simp
          have q2 : V2.heap[V1.heap.size]? = some (.cells #[.slice (some ⟨g, o, none⟩) k cap, .slice (some ⟨wV.heap.size, 0, none⟩) 1 1, .slice (some ⟨g, o + k * 2, none⟩) (n - k) (cap - k)] 81 (0, 0)) := by rw [hV2]; exact heap_new _ _
          have q3 := (b2.block wV.heap.size (by have := S1.out; omega)).trans Q1.out
          have BV2 := Lib.hid (BV1.out.trans (b2.mono BV1.out.size))
          have S2 := Lib.hid s2
          have Q2 := Lib.hid q2
          have Q3 := Lib.hid q3
          clear hV2 b2 s2 q2 q3
          go_wp2_with fail
          refine hK.out _ _ (BV2.out) (fun hHeld => ?_)
          clear hK K
          refine rd1 7 (fun K hK => ?_)
          go_simp
          go_at_call 88
          have HR2 := HR.out.later (B' := V2.heap.size) ((HbW.out.trans (BV2.out.mono HbW.out.size)).mono hB) (by have := HbW.out.size; have := BV2.out.size; omega)
          rw [← HN.out] at HR2
          have hn1 := HN.out
          have hrest : Raw V2 V2.heap.size (.slice (some ⟨g, o + k * 2, none⟩) (n - k) (cap - k)) (n - k) ((xs.flatMap itC).drop ((k) * 2)) := raw_dropI HR2 (by omega) (by omega) (by unfold maxLen; omega)
          refine (concat3_items _ _ _ k 1 (n - k) ((xs.flatMap itC).take (k * 2)) (itC x) ((xs.flatMap itC).drop ((k) * 2)) V1.heap.size V2 V2.heap.size (Nat.le_refl _) Q2.out (by have := S2.out; omega) ⟨raw_takeI HR2 hk, by rw [List.length_take, flat_len_it]; omega, fun u hu => one_it xs u (List.mem_of_mem_take hu)⟩
            ⟨⟨_, 1, rfl, Nat.le_refl _, by unfold maxLen; omega, (fun h => by cases h), fun _ => ⟨wV.heap.size, 0, rfl, by have := S1.out; have := S2.out; omega, fun j u hu => by rw [Nat.zero_add, cell_of_row V2 _ j _ _ _ Q3.out]; simpa [itC] using hu⟩⟩, by simp [itC], fun u hu => one_it [x] u (by simpa using hu)⟩
            ⟨hrest, by rw [List.length_drop, flat_len_it]; omega, fun u hu => one_it xs u (List.mem_of_mem_drop hu)⟩ (by omega) (by omega)).mono ?_
          rintro e w' ⟨g4, cap4, rfl, got4, hb4⟩
          have G4 := Lib.hid got4
          have B4 := Lib.hid (BV2.out.trans (hb4.mono BV2.out.size))
          clear got4 hb4 HR2 hrest hn1
          go_wp2_with fail
          refine hK.out _ _ (B4.out) (fun hHeld => ?_)
          clear hK K
          refine tk0 8 ?_
          refine wpAnyH_done (by kernel_rfl) ?_ _
          clear hHeld mN hcx
          go_wp2_with fail
          go_ret
          have hn1 := HN.out
          have hlen : (putI xs x).length = k + 1 + (n - k) := by rw [hput.out]; simp only [List.length_append, List.length_cons, List.length_take, List.length_drop]; omega
          have hfl : (putI xs x).flatMap itC = (xs.flatMap itC).take (k * 2) ++ itC x ++ (xs.flatMap itC).drop ((k) * 2) := by rw [hput.out, List.flatMap_append, List.flatMap_cons, flat_take_it xs k (by omega), flat_drop_it xs (k) (by omega), List.append_assoc]
          rw [hlen, hfl]
          exact ⟨g4, cap4, rfl, G4.out.base (by have := HbW.out.size; have := BV2.out.size; omega), HbW.out.trans (B4.out.mono HbW.out.size)⟩
      · rw [hb2] at hc2
        have hless' : Hid (∀ j (hj : j < xs.length), j < k + 1 → lessB xs[j].k x.k = true) := Lib.hid (fun j hj h => by
          by_cases he : j = k
          · subst he; rw [← Hy.out]; exact hb2
          · exact hless.out j hj (by omega))
        clear hb2
        go_wp2_with fail
        refine wp_region_held_drew (S := (fun w' => Below W.heap.size W w')) (by kernel_rfl) ((show Below W.heap.size W wr from hbw.out).drew) (fun hHeld => ?_)
        refine tk0 0 ?_
        refine tk0 1 ?_
        refine tk0 2 ?_
        refine tk0 3 ?_
        refine tk0 4 ?_
        refine tk0 5 ?_
        refine tk0 6 ?_
        refine tk0 7 ?_
        refine tk 8 (v := ?_) ?_ ?_; rotate_left
        · refine Or.inl ⟨by rfl, ?_⟩; intro w hSw; have f0 := HX.out w hSw; have f1 := HY.out w hSw; go_simp; first | done | with_reducible rfl
        refine tk0 9 ?_
        refine tk 11 (v := ?_) ?_ ?_; rotate_left
        · refine Or.inl ⟨by rfl, ?_⟩; intro w hSw; have f0 := HX.out w hSw; have f1 := HY.out w hSw; go_simp; first | done | with_reducible rfl
        refine tk0 12 ?_
        refine rd1 10 (fun K hK => ?_)
        go_simp
        go_at_call 135
        refine (hcy _).mono ?_
        rintro e w' ⟨rfl, hbc⟩
        have hB2 := hHeld.trans (hbc.mono hHeld.size)
        go_wp2_with fail
        refine hK.out _ _ (hB2) (fun hHeld => ?_)
        clear hK K
        refine rd1 13 (fun K hK => ?_)
        go_simp
        go_at_call 135
        refine (hcx _).mono ?_
        rintro e w' ⟨rfl, hbc⟩
        have hB3 := hHeld.trans (hbc.mono hHeld.size)
        go_wp2_with fail
        refine hK.out _ _ (hB3) (fun hHeld => ?_)
        clear hK K
        refine rd1 14 (fun K hK => ?_)
        go_simp
        go_at_call 87
        refine (hc2 _).mono ?_
        rintro e w' ⟨rfl, rfl⟩
        go_wp2_with fail
        refine hK.out _ _ (hHeld) (fun hHeld => ?_)
        clear hK K
        refine tk0 15 ?_
        refine wpAnyH_done (by kernel_rfl) ?_ _
        go_wp2_with fail
        go_roundw
        case rel => exact ⟨k + 1, by omega, by go_num, Lib.hid hHeld, hless'⟩
        case measure => simp [intOf]; omega
    · obtain rfl : k = n := by omega
      have hpos : Hid (posI xs x.k = k) := Lib.hid (posI_of xs _ k (by have := HN.out; omega) hless.out (.inl HN.out))
      go_wp2_with fail
      refine wp_region_held_drew (S := (fun w' => Below W.heap.size W w')) (by kernel_rfl) ((show Below W.heap.size W wr from hbw.out).drew) (fun hHeld => ?_)
      refine tk0 0 ?_
      refine tk0 1 ?_
      refine tk0 2 ?_
      refine tk0 3 ?_
      refine tk0 4 ?_
      refine tku 5 ?_
      refine tku 6 ?_
      refine tku 7 ?_
      refine tku 8 ?_
      refine tku 9 ?_
      refine tku 10 ?_
      refine tku 11 ?_
      refine tku 12 ?_
      refine tku 13 ?_
      refine tku 14 ?_
      refine tk0 15 ?_
      refine wpAnyH_done (by kernel_rfl) ?_ _
      have hput : Hid (putI xs x = xs.take k ++ x :: xs.drop k) := Lib.hid (by unfold putI; rw [hpos.out, List.getElem?_eq_none (by have := HN.out; omega), if_neg (by simp)])
      by_cases hcc : cap = k
      · have hcc' := hcc.symm
        subst hcc'
        go_wp2_with fail
        refine wp_region_held_drew (S := (fun w' => Below W.heap.size W w')) (by kernel_rfl) (hHeld.drew) (fun hHeld => ?_)
        refine tk0 0 ?_
        refine tk0 1 ?_
        refine tk0 2 ?_
        refine tk0 3 ?_
        refine tku 4 ?_
        refine tku 5 ?_
        refine tku 6 ?_
        refine tku 7 ?_
        refine tku 8 ?_
        refine tku 9 ?_
        refine tku 10 ?_
        refine tku 11 ?_
        refine tku 12 ?_
        refine tk0 13 ?_
        refine wpAnyH_done (by kernel_rfl) ?_ _
        go_wp2_with fail
        obtain ⟨wV, hwV⟩ : ∃ x, x = wr.drew.drew := ⟨_, rfl⟩
        rw [← hwV] at hHeld ⊢
        have BV := Lib.hid hHeld
        clear hwV hHeld
        refine wp_region_held_drew (S := (fun w' => Below W.heap.size W w')) (by kernel_rfl) (BV.out.drew) (fun hHeld => ?_)
        refine tk0 0 ?_
        refine tk0 1 ?_
        refine tk0 2 ?_
        refine tk 3 (v := ?_) ?_ ?_; rotate_left
        · refine Or.inl ⟨by rfl, ?_⟩; intro w hSw; have f0 := HX.out w hSw; go_simp; first | done | with_reducible rfl
        refine tk0 5 ?_
        refine rd1 4 (fun K hK => ?_)
        go_simp
        obtain ⟨V1, hV1⟩ : ∃ z, z = (wV.alloc (.cells #[.string x.k, .string x.v] 45)).drew := ⟨_, rfl⟩
        rw [← hV1]
        have b1 : Below wV.heap.size wV V1 := by rw [hV1]; exact ((Below.refl _ _).alloc (Nat.le_refl _) _).drew
        have s1 : V1.heap.size = wV.heap.size + 1 := by rw [hV1]; simp
        have q1 : V1.heap[wV.heap.size]? = some (.cells #[.string x.k, .string x.v] 45 (0, 0)) := by rw [hV1]; exact heap_new _ _
        have BV1 := Lib.hid (BV.out.trans (b1.mono BV.out.size))
        have S1 := Lib.hid s1
        have Q1 := Lib.hid q1
        clear hV1 b1 s1 q1
        go_wp2_with fail
        refine hK.out _ _ (BV1.out) (fun hHeld => ?_)
        clear hK K
        refine rd1 6 (fun K hK => ?_)
        go_simp
        obtain ⟨V2, hV2⟩ : ∃ z, z = V1.alloc (.cells #[.slice (some ⟨g, o, none⟩) k k, .slice (some ⟨wV.heap.size, 0, none⟩) 1 1, .slice (some ⟨g, o, none⟩) 0 0] 81) := ⟨_, rfl⟩
        rw [← hV2]
        have b2 : Below V1.heap.size V1 V2 := by rw [hV2]; exact (Below.refl _ _).alloc (Nat.le_refl _) _
        have s2 : V2.heap.size = V1.heap.size + 1 := by rw [hV2]; simp
        have q2 : V2.heap[V1.heap.size]? = some (.cells #[.slice (some ⟨g, o, none⟩) k k, .slice (some ⟨wV.heap.size, 0, none⟩) 1 1, .slice (some ⟨g, o, none⟩) 0 0] 81 (0, 0)) := by rw [hV2]; exact heap_new _ _
        have q3 := (b2.block wV.heap.size (by have := S1.out; omega)).trans Q1.out
        have BV2 := Lib.hid (BV1.out.trans (b2.mono BV1.out.size))
        have S2 := Lib.hid s2
        have Q2 := Lib.hid q2
        have Q3 := Lib.hid q3
        clear hV2 b2 s2 q2 q3
        go_wp2_with fail
        refine hK.out _ _ (BV2.out) (fun hHeld => ?_)
        clear hK K
        refine rd1 7 (fun K hK => ?_)
        go_simp
        go_at_call 88
        have HR2 := HR.out.later (B' := V2.heap.size) ((HbW.out.trans (BV2.out.mono HbW.out.size)).mono hB) (by have := HbW.out.size; have := BV2.out.size; omega)
        rw [← HN.out] at HR2
        have hn1 := HN.out
        have hrest : Raw V2 V2.heap.size (.slice (some ⟨g, o, none⟩) 0 0) (0) ((xs.flatMap itC).drop ((k) * 2)) := raw_noneI rfl (by unfold maxLen; omega)
        refine (concat3_items _ _ _ k 1 (0) ((xs.flatMap itC).take (k * 2)) (itC x) ((xs.flatMap itC).drop ((k) * 2)) V1.heap.size V2 V2.heap.size (Nat.le_refl _) Q2.out (by have := S2.out; omega) ⟨raw_takeI HR2 hk, by rw [List.length_take, flat_len_it]; omega, fun u hu => one_it xs u (List.mem_of_mem_take hu)⟩
          ⟨⟨_, 1, rfl, Nat.le_refl _, by unfold maxLen; omega, (fun h => by cases h), fun _ => ⟨wV.heap.size, 0, rfl, by have := S1.out; have := S2.out; omega, fun j u hu => by rw [Nat.zero_add, cell_of_row V2 _ j _ _ _ Q3.out]; simpa [itC] using hu⟩⟩, by simp [itC], fun u hu => one_it [x] u (by simpa using hu)⟩
          ⟨hrest, by rw [List.length_drop, flat_len_it]; omega, fun u hu => one_it xs u (List.mem_of_mem_drop hu)⟩ (by omega) (by omega)).mono ?_
        rintro e w' ⟨g4, cap4, rfl, got4, hb4⟩
        have G4 := Lib.hid got4
        have B4 := Lib.hid (BV2.out.trans (hb4.mono BV2.out.size))
        clear got4 hb4 HR2 hrest hn1
        go_wp2_with fail
        refine hK.out _ _ (B4.out) (fun hHeld => ?_)
        clear hK K
        refine tk0 8 ?_
        refine wpAnyH_done (by kernel_rfl) ?_ _
        clear hHeld mN hcx
        go_wp2_with fail
        go_ret
        have hn1 := HN.out
        have hlen : (putI xs x).length = k + 1 + (0) := by rw [hput.out]; simp only [List.length_append, List.length_cons, List.length_take, List.length_drop]; omega
        have hfl : (putI xs x).flatMap itC = (xs.flatMap itC).take (k * 2) ++ itC x ++ (xs.flatMap itC).drop ((k) * 2) := by rw [hput.out, List.flatMap_append, List.flatMap_cons, flat_take_it xs k (by omega), flat_drop_it xs (k) (by omega), List.append_assoc]
        rw [hlen, hfl]
        exact ⟨g4, cap4, rfl, G4.out.base (by have := HbW.out.size; have := BV2.out.size; omega), HbW.out.trans (B4.out.mono HbW.out.size)⟩
      · go_wp2_with fail
        refine wp_region_held_drew (S := (fun w' => Below W.heap.size W w')) (by kernel_rfl) (hHeld.drew) (fun hHeld => ?_)
        refine tk0 0 ?_
        refine tk0 1 ?_
        refine tk0 2 ?_
        refine tk0 3 ?_
        refine tku 4 ?_
        refine tku 5 ?_
        refine tku 6 ?_
        refine tku 7 ?_
        refine tku 8 ?_
        refine tku 9 ?_
        refine tku 10 ?_
        refine tku 11 ?_
        refine tku 12 ?_
        refine tk0 13 ?_
        refine wpAnyH_done (by kernel_rfl) ?_ _
        go_wp2_with fail
        obtain ⟨wV, hwV⟩ : ∃ x, x = wr.drew.drew := ⟨_, rfl⟩
        rw [← hwV] at hHeld ⊢
        have BV := Lib.hid hHeld
        clear hwV hHeld
        refine wp_region_held_drew (S := (fun w' => Below W.heap.size W w')) (by kernel_rfl) (BV.out.drew) (fun hHeld => ?_)
        refine tk0 0 ?_
        refine tk0 1 ?_
        refine tk0 2 ?_
        refine tk 3 (v := ?_) ?_ ?_; rotate_left
        · refine Or.inl ⟨by rfl, ?_⟩; intro w hSw; have f0 := HX.out w hSw; go_simp; first | done | with_reducible rfl
        refine tk0 5 ?_
        refine rd1 4 (fun K hK => ?_)
        go_simp
        obtain ⟨V1, hV1⟩ : ∃ z, z = (wV.alloc (.cells #[.string x.k, .string x.v] 45)).drew := ⟨_, rfl⟩
        rw [← hV1]
        have b1 : Below wV.heap.size wV V1 := by rw [hV1]; exact ((Below.refl _ _).alloc (Nat.le_refl _) _).drew
        have s1 : V1.heap.size = wV.heap.size + 1 := by rw [hV1]; simp
        have q1 : V1.heap[wV.heap.size]? = some (.cells #[.string x.k, .string x.v] 45 (0, 0)) := by rw [hV1]; exact heap_new _ _
        have BV1 := Lib.hid (BV.out.trans (b1.mono BV.out.size))
        have S1 := Lib.hid s1
        have Q1 := Lib.hid q1
        clear hV1 b1 s1 q1
        go_wp2_with fail
        refine hK.out _ _ (BV1.out) (fun hHeld => ?_)
        clear hK K
        refine rd1 6 (fun K hK => ?_)
        go_simp
        obtain ⟨V2, hV2⟩ : ∃ z, z = V1.alloc (.cells #[.slice (some ⟨g, o, none⟩) k cap, .slice (some ⟨wV.heap.size, 0, none⟩) 1 1, .slice (some ⟨g, o + k * 2, none⟩) 0 (cap - k)] 81) := ⟨_, rfl⟩
        rw [← hV2]
        have b2 : Below V1.heap.size V1 V2 := by rw [hV2]; exact (Below.refl _ _).alloc (Nat.le_refl _) _
        have s2 : V2.heap.size = V1.heap.size + 1 := by rw [hV2]; simp
        have q2 : V2.heap[V1.heap.size]? = some (.cells #[.slice (some ⟨g, o, none⟩) k cap, .slice (some ⟨wV.heap.size, 0, none⟩) 1 1, .slice (some ⟨g, o + k * 2, none⟩) 0 (cap - k)] 81 (0, 0)) := by rw [hV2]; exact heap_new _ _
        have q3 := (b2.block wV.heap.size (by have := S1.out; omega)).trans Q1.out
        have BV2 := Lib.hid (BV1.out.trans (b2.mono BV1.out.size))
        have S2 := Lib.hid s2
        have Q2 := Lib.hid q2
        have Q3 := Lib.hid q3
        clear hV2 b2 s2 q2 q3
        go_wp2_with fail
        refine hK.out _ _ (BV2.out) (fun hHeld => ?_)
        clear hK K
        refine rd1 7 (fun K hK => ?_)
        go_simp
        go_at_call 88
        have HR2 := HR.out.later (B' := V2.heap.size) ((HbW.out.trans (BV2.out.mono HbW.out.size)).mono hB) (by have := HbW.out.size; have := BV2.out.size; omega)
        rw [← HN.out] at HR2
        have hn1 := HN.out
        have hrest : Raw V2 V2.heap.size (.slice (some ⟨g, o + k * 2, none⟩) 0 (cap - k)) (0) ((xs.flatMap itC).drop ((k) * 2)) := raw_noneI rfl (by unfold maxLen; omega)
        refine (concat3_items _ _ _ k 1 (0) ((xs.flatMap itC).take (k * 2)) (itC x) ((xs.flatMap itC).drop ((k) * 2)) V1.heap.size V2 V2.heap.size (Nat.le_refl _) Q2.out (by have := S2.out; omega) ⟨raw_takeI HR2 hk, by rw [List.length_take, flat_len_it]; omega, fun u hu => one_it xs u (List.mem_of_mem_take hu)⟩
          ⟨⟨_, 1, rfl, Nat.le_refl _, by unfold maxLen; omega, (fun h => by cases h), fun _ => ⟨wV.heap.size, 0, rfl, by have := S1.out; have := S2.out; omega, fun j u hu => by rw [Nat.zero_add, cell_of_row V2 _ j _ _ _ Q3.out]; simpa [itC] using hu⟩⟩, by simp [itC], fun u hu => one_it [x] u (by simpa using hu)⟩
          ⟨hrest, by rw [List.length_drop, flat_len_it]; omega, fun u hu => one_it xs u (List.mem_of_mem_drop hu)⟩ (by omega) (by omega)).mono ?_
        rintro e w' ⟨g4, cap4, rfl, got4, hb4⟩
        have G4 := Lib.hid got4
        have B4 := Lib.hid (BV2.out.trans (hb4.mono BV2.out.size))
        clear got4 hb4 HR2 hrest hn1
        go_wp2_with fail
        refine hK.out _ _ (B4.out) (fun hHeld => ?_)
        clear hK K
        refine tk0 8 ?_
        refine wpAnyH_done (by kernel_rfl) ?_ _
        clear hHeld mN hcx
        go_wp2_with fail
        go_ret
        have hn1 := HN.out
        have hlen : (putI xs x).length = k + 1 + (0) := by rw [hput.out]; simp only [List.length_append, List.length_cons, List.length_take, List.length_drop]; omega
        have hfl : (putI xs x).flatMap itC = (xs.flatMap itC).take (k * 2) ++ itC x ++ (xs.flatMap itC).drop ((k) * 2) := by rw [hput.out, List.flatMap_append, List.flatMap_cons, flat_take_it xs k (by omega), flat_drop_it xs (k) (by omega), List.append_assoc]
        rw [hlen, hfl]
        exact ⟨g4, cap4, rfl, G4.out.base (by have := HbW.out.size; have := BV2.out.size; omega), HbW.out.trans (B4.out.mono HbW.out.size)⟩

set_option maxRecDepth 100000 in
set_option maxHeartbeats 4000000 in
theorem put_itemsNil (x : It) (w : World) :
    Calls Tryz.prog 50 #[.slice none 0 0, itA x] w fun e w' => ∃ g' cap', e = .returned (.slice (some ⟨g', 0, none⟩) 1 cap') ∧ Got w' w.heap.size 45 2 g' 1 cap' (itC x) ∧ Below w.heap.size w w' := by
  unfold itA
  obtain ⟨W, hW⟩ : ∃ W, W = w.alloc (.cells #[.string x.k, .string x.v] 45) := ⟨_, rfl⟩
  have hbW : Below w.heap.size w W := by rw [hW]; exact (Below.refl _ _).alloc (Nat.le_refl _) _
  have hWs : W.heap.size = w.heap.size + 1 := by rw [hW]; simp
  have HX : Hid (∀ w', Below W.heap.size W w' → w'.cell? ⟨w.heap.size, 0, none⟩ = some (.string x.k) ∧ w'.cell? ⟨w.heap.size, 1, none⟩ = some (.string x.v)) := Lib.hid (fun w' h => by
    rw [h.cell (show w.heap.size < W.heap.size by omega), h.cell (show w.heap.size < W.heap.size by omega), hW, World.cell?_alloc_new, World.cell?_alloc_new]; exact ⟨rfl, rfl⟩)
  have HbW := Lib.hid hbW
  have mN := meth_nameI
  have hW0 : Hid (Below W.heap.size W (w.alloc (.cells #[.string x.k, .string x.v] 45))) := Lib.hid (by rw [← hW]; exact Below.refl _ _)
  clear hbW hWs hW
  go_enter Tryz.func50, Tryz.ntmps50
  go_wp2
  go_loopw [5] (fun i wr => i = .int .i64 0 ∧ Hid (Below W.heap.size W wr)) (fun _ _ => 0)
  case atStart => exact ⟨rfl, hW0⟩
  case round =>
    obtain ⟨rfl, hbw⟩ := hrel
    go_wp2_with fail
    refine wp_region_held_drew (S := (fun w' => Below W.heap.size W w')) (by kernel_rfl) ((show Below W.heap.size W wr from hbw.out).drew) (fun hHeld => ?_)
    refine tk0 0 ?_
    refine tk0 1 ?_
    refine tk0 2 ?_
    refine tk0 3 ?_
    refine tk0 4 ?_
    refine tku 5 ?_
    refine tku 6 ?_
    refine tku 7 ?_
    refine tku 8 ?_
    refine tku 9 ?_
    refine tku 10 ?_
    refine tku 11 ?_
    refine tku 12 ?_
    refine tku 13 ?_
    refine tku 14 ?_
    refine tk0 15 ?_
    refine wpAnyH_done (by kernel_rfl) ?_ _
    go_wp2_with fail
    refine wp_region_held_drew (S := (fun w' => Below W.heap.size W w')) (by kernel_rfl) (hHeld.drew) (fun hHeld => ?_)
    refine tk0 0 ?_
    refine tk0 1 ?_
    refine tk0 2 ?_
    refine tk0 3 ?_
    refine tku 4 ?_
    refine tku 5 ?_
    refine tku 6 ?_
    refine tku 7 ?_
    refine tku 8 ?_
    refine tku 9 ?_
    refine tku 10 ?_
    refine tku 11 ?_
    refine tku 12 ?_
    refine tk0 13 ?_
    refine wpAnyH_done (by kernel_rfl) ?_ _
    go_wp2_with fail
    obtain ⟨wV, hwV⟩ : ∃ x, x = wr.drew.drew := ⟨_, rfl⟩
    rw [← hwV] at hHeld ⊢
    have BV := Lib.hid hHeld
    clear hwV hHeld
    refine wp_region_held_drew (S := (fun w' => Below W.heap.size W w')) (by kernel_rfl) (BV.out.drew) (fun hHeld => ?_)
    refine tk0 0 ?_
    refine tk0 1 ?_
    refine tk0 2 ?_
    refine tk 3 (v := ?_) ?_ ?_; rotate_left
    · refine Or.inl ⟨by rfl, ?_⟩; intro w hSw; have f0 := HX.out w hSw; go_simp; first | done | with_reducible rfl
    refine tk0 5 ?_
    refine rd1 4 (fun K hK => ?_)
    go_simp
    obtain ⟨V1, hV1⟩ : ∃ z, z = (wV.alloc (.cells #[.string x.k, .string x.v] 45)).drew := ⟨_, rfl⟩
    rw [← hV1]
    have b1 : Below wV.heap.size wV V1 := by rw [hV1]; exact ((Below.refl _ _).alloc (Nat.le_refl _) _).drew
    have s1 : V1.heap.size = wV.heap.size + 1 := by rw [hV1]; simp
    have q1 : V1.heap[wV.heap.size]? = some (.cells #[.string x.k, .string x.v] 45 (0, 0)) := by rw [hV1]; exact heap_new _ _
    have BV1 := Lib.hid (BV.out.trans (b1.mono BV.out.size))
    have S1 := Lib.hid s1
    have Q1 := Lib.hid q1
    clear hV1 b1 s1 q1
    go_wp2_with fail
    refine hK.out _ _ (BV1.out) (fun hHeld => ?_)
    clear hK K
    refine rd1 6 (fun K hK => ?_)
    go_simp
    obtain ⟨V2, hV2⟩ : ∃ z, z = V1.alloc (.cells #[.slice none 0 0, .slice (some ⟨wV.heap.size, 0, none⟩) 1 1, .slice none 0 0] 81) := ⟨_, rfl⟩
    rw [← hV2]
    have b2 : Below V1.heap.size V1 V2 := by rw [hV2]; exact (Below.refl _ _).alloc (Nat.le_refl _) _
    have s2 : V2.heap.size = V1.heap.size + 1 := by rw [hV2]; simp
    have q2 : V2.heap[V1.heap.size]? = some (.cells #[.slice none 0 0, .slice (some ⟨wV.heap.size, 0, none⟩) 1 1, .slice none 0 0] 81 (0, 0)) := by rw [hV2]; exact heap_new _ _
    have q3 := (b2.block wV.heap.size (by have := S1.out; omega)).trans Q1.out
    have BV2 := Lib.hid (BV1.out.trans (b2.mono BV1.out.size))
    have S2 := Lib.hid s2
    have Q2 := Lib.hid q2
    have Q3 := Lib.hid q3
    clear hV2 b2 s2 q2 q3
    go_wp2_with fail
    refine hK.out _ _ (BV2.out) (fun hHeld => ?_)
    clear hK K
    refine rd1 7 (fun K hK => ?_)
    go_simp
    go_at_call 88
    have hrest : Raw V2 V2.heap.size (.slice none 0 0) 0 [] := ⟨none, 0, rfl, Nat.le_refl _, Nat.zero_le _, fun _ => rfl, fun h => absurd h (Nat.lt_irrefl _)⟩
    refine (concat3_items _ _ _ 0 1 0 [] (itC x) [] V1.heap.size V2 V2.heap.size (Nat.le_refl _) Q2.out (by have := S2.out; omega) ⟨hrest, rfl, fun u hu => by simp at hu⟩
      ⟨⟨_, 1, rfl, Nat.le_refl _, by unfold maxLen; omega, (fun h => by cases h), fun _ => ⟨wV.heap.size, 0, rfl, by have := S1.out; have := S2.out; omega, fun j u hu => by rw [Nat.zero_add, cell_of_row V2 _ j _ _ _ Q3.out]; simpa [itC] using hu⟩⟩, by simp [itC], fun u hu => one_it [x] u (by simpa using hu)⟩
      ⟨hrest, rfl, fun u hu => by simp at hu⟩ (by omega) (by omega)).mono ?_
    rintro e w' ⟨g4, cap4, rfl, got4, hb4⟩
    have G4 := Lib.hid got4
    have B4 := Lib.hid (BV2.out.trans (hb4.mono BV2.out.size))
    clear got4 hb4 hrest
    go_wp2_with fail
    refine hK.out _ _ (B4.out) (fun hHeld => ?_)
    clear hK K
    refine tk0 8 ?_
    refine wpAnyH_done (by kernel_rfl) ?_ _
    clear hHeld mN
    go_wp2_with fail
    go_ret
    exact ⟨g4, cap4, rfl, by have h := G4.out.base (show w.heap.size ≤ V2.heap.size by have := HbW.out.size; have := BV2.out.size; omega); simpa using h, HbW.out.trans (B4.out.mono HbW.out.size)⟩

end Go.Proofs.YtdpjdjkfedcojaaGreat

namespace Go.Proofs.YtdpjdjkfedcojaaGreat
open Go.RowKit List
set_option linter.unusedVariables false
/-- A clone's row: nil, or of its own. -/
theorem clone_items (xs : List It) (v : Value) (B d : Nat) (w : World) (hr : Raw w B v xs.length (xs.flatMap itC)) (hB : B ≤ w.heap.size) (hf : xs.length ≤ 4398046511104) (hd : d < w.heap.size) :
    Calls Tryz.prog 110 #[v] w fun e w' => ∃ v' g cap, e = .returned v' ∧ SlN v' g xs.length cap ∧ ((g = d ∧ xs.length = 0 ∧ cap = 0) ∨ w.heap.size ≤ g) ∧ Got w' d 45 2 g xs.length cap (xs.flatMap itC) ∧ Below w.heap.size w w' := by
  have qT : ∀ (w : World) (a : Option Addr) (n c n' c' : Nat), (binOp .eql 24 (.slice a n c) (.slice none n' c')).run Tryz.prog w = .ok (.bool a.isNone) w := fun w a n c n' c' => Lib.run_eql_slice_nil w _ _ a n c n' c' Tryz.underlying24
  obtain ⟨a, cap, rfl, hn, hcap, h0, hat⟩ := id hr
  have HR := Lib.hid hr
  have Hf := Lib.hid hf
  cases a with
  | none =>
    obtain rfl : cap = 0 := h0 rfl
    have hx : Hid (xs = []) := Lib.hid (List.eq_nil_of_length_eq_zero (by omega))
    clear hr h0 hat
    go_enter Tryz.func110, Tryz.ntmps110
    go_wp2
    go_ret
    exact ⟨_, d, 0, rfl, ⟨none, by rw [hx.out]; rfl, .inr ⟨rfl, by rw [hx.out]; rfl, rfl⟩⟩, .inl ⟨rfl, by rw [hx.out]; rfl, rfl⟩, by rw [hx.out]; exact ⟨rfl, Nat.le_refl _, Nat.zero_le _, Nat.le_refl _, hd, .inl ⟨rfl, rfl⟩⟩, Below.refl _ _⟩
  | some ad =>
    obtain ⟨W, hW⟩ : ∃ W, W = w.alloc (.cells #[] 45) := ⟨_, rfl⟩
    have hbW : Below w.heap.size w W := by rw [hW]; exact (Below.refl _ _).alloc (Nat.le_refl _) _
    have hWs : W.heap.size = w.heap.size + 1 := by rw [hW]; simp
    obtain ⟨i0, p1, p2, p3, p4⟩ := info_parts infoIt
    have hrun := run_app0 (P := Tryz.prog) W 24 24 45 i0 _ 2 32 Tryz.underlying24 p1 p2 p3 p4 rfl (by decide) w.heap.size d (by omega) (by omega) _ B xs.length (xs.flatMap itC) (hr.later (hbW.mono hB) (Nat.le_refl _)) (flat_len_it xs) (one_it xs) (by unfold maxLen; omega) (by omega)
    obtain ⟨v', w', hrun, hb1, g, c', rfl, hg, hgot⟩ := hrun
    have HG := Lib.hid hgot
    have Hg := Lib.hid hg
    have Hb1 := Lib.hid hb1
    have HWs := Lib.hid hWs
    have HbW := Lib.hid hbW
    rw [hW] at hrun
    have Hrun := Lib.hid hrun
    clear hrun hr h0 hat hgot hg hb1 hWs hbW hW p1 p2 p3 p4 hf hn hcap
    go_enter Tryz.func110, Tryz.ntmps110
    go_wp2_with (at_builtin; refine wpList_app rfl _ _ _ rfl _ _ _ rfl rfl Hrun.out ?_)
    go_ret
    exact ⟨_, g, c', rfl, ⟨_, rfl, .inl rfl⟩, .inr (by have := Hg.out; have := HWs.out; omega), HG.out, HbW.out.trans (Hb1.out.mono HbW.out.size)⟩

/-- A clone's row: nil, or of its own. -/
theorem clone_talks (xs : List Tk) (v : Value) (B d : Nat) (w : World) (hr : Raw w B v xs.length (xs.flatMap tkC)) (hB : B ≤ w.heap.size) (hf : xs.length ≤ 3518437208883) (hd : d < w.heap.size) :
    Calls Tryz.prog 111 #[v] w fun e w' => ∃ v' g cap, e = .returned v' ∧ SlN v' g xs.length cap ∧ ((g = d ∧ xs.length = 0 ∧ cap = 0) ∨ w.heap.size ≤ g) ∧ Got w' d 65 3 g xs.length cap (xs.flatMap tkC) ∧ Below w.heap.size w w' := by
  have qT : ∀ (w : World) (a : Option Addr) (n c n' c' : Nat), (binOp .eql 25 (.slice a n c) (.slice none n' c')).run Tryz.prog w = .ok (.bool a.isNone) w := fun w a n c n' c' => Lib.run_eql_slice_nil w _ _ a n c n' c' Tryz.underlying25
  obtain ⟨a, cap, rfl, hn, hcap, h0, hat⟩ := id hr
  have HR := Lib.hid hr
  have Hf := Lib.hid hf
  cases a with
  | none =>
    obtain rfl : cap = 0 := h0 rfl
    have hx : Hid (xs = []) := Lib.hid (List.eq_nil_of_length_eq_zero (by omega))
    clear hr h0 hat
    go_enter Tryz.func111, Tryz.ntmps111
    go_wp2
    go_ret
    exact ⟨_, d, 0, rfl, ⟨none, by rw [hx.out]; rfl, .inr ⟨rfl, by rw [hx.out]; rfl, rfl⟩⟩, .inl ⟨rfl, by rw [hx.out]; rfl, rfl⟩, by rw [hx.out]; exact ⟨rfl, Nat.le_refl _, Nat.zero_le _, Nat.le_refl _, hd, .inl ⟨rfl, rfl⟩⟩, Below.refl _ _⟩
  | some ad =>
    obtain ⟨W, hW⟩ : ∃ W, W = w.alloc (.cells #[] 65) := ⟨_, rfl⟩
    have hbW : Below w.heap.size w W := by rw [hW]; exact (Below.refl _ _).alloc (Nat.le_refl _) _
    have hWs : W.heap.size = w.heap.size + 1 := by rw [hW]; simp
    obtain ⟨i0, p1, p2, p3, p4⟩ := info_parts infoTk
    have hrun := run_app0 (P := Tryz.prog) W 25 25 65 i0 _ 3 40 Tryz.underlying25 p1 p2 p3 p4 rfl (by decide) w.heap.size d (by omega) (by omega) _ B xs.length (xs.flatMap tkC) (hr.later (hbW.mono hB) (Nat.le_refl _)) (flat_len_tk xs) (one_tk xs) (by unfold maxLen; omega) (by omega)
    obtain ⟨v', w', hrun, hb1, g, c', rfl, hg, hgot⟩ := hrun
    have HG := Lib.hid hgot
    have Hg := Lib.hid hg
    have Hb1 := Lib.hid hb1
    have HWs := Lib.hid hWs
    have HbW := Lib.hid hbW
    rw [hW] at hrun
    have Hrun := Lib.hid hrun
    clear hrun hr h0 hat hgot hg hb1 hWs hbW hW p1 p2 p3 p4 hf hn hcap
    go_enter Tryz.func111, Tryz.ntmps111
    go_wp2_with (at_builtin; refine wpList_app rfl _ _ _ rfl _ _ _ rfl rfl Hrun.out ?_)
    go_ret
    exact ⟨_, g, c', rfl, ⟨_, rfl, .inl rfl⟩, .inr (by have := Hg.out; have := HWs.out; omega), HG.out, HbW.out.trans (Hb1.out.mono HbW.out.size)⟩



set_option linter.unusedSimpArgs false
set_option maxRecDepth 100000 in
set_option maxHeartbeats 4000000 in
theorem impl_copy (s : St) (v : Value) (B : Nat) (w : World) (hs : Rd w B v s) (hB : B ≤ w.heap.size) (hf : Few s) :
    Calls Tryz.prog 86 #[v] w fun e w' => ∃ v', e = .returned v' ∧ OwnN w' w.heap.size v' s ∧ Below w.heap.size w w' := by
  obtain ⟨vi, vt, rfl, hri, hrt⟩ := hs
  obtain ⟨W, hW⟩ : ∃ W, W = (w.alloc (.cells #[vi, vt] 27)).alloc (.cells #[.slice none 0 0, .slice none 0 0] 27) := ⟨_, rfl⟩
  have hbW : Below w.heap.size w W := by rw [hW]; exact ((Below.refl _ _).alloc (Nat.le_refl _) _).alloc (by simp) _
  have hWs : W.heap.size = w.heap.size + 2 := by rw [hW]; simp
  have k0 : W.heap[w.heap.size]? = some (.cells #[vi, vt] 27 (0, 0)) := by
    rw [hW, Below.heap_alloc _ _ _ (by simp)]; exact heap_new _ _
  have k1 : W.heap[w.heap.size + 1]? = some (.cells #[.slice none 0 0, .slice none 0 0] 27 (0, 0)) := by
    rw [hW]; simpa using heap_new (w.alloc (.cells #[vi, vt] 27)) (.cells #[.slice none 0 0, .slice none 0 0] 27)
  have HV : Hid (∀ w', Below W.heap.size W w' → w'.cell? ⟨w.heap.size, 0, none⟩ = some vi ∧ w'.cell? ⟨w.heap.size, 1, none⟩ = some vt) := Lib.hid (fun w' h => by
    have j0 := (h.block _ (show w.heap.size < W.heap.size by omega)).trans k0
    exact ⟨by simpa using cell_of_row w' _ 0 _ _ _ j0, by simpa using cell_of_row w' _ 1 _ _ _ j0⟩)
  have HB0 : Hid (∀ w', Below W.heap.size W w' → w'.heap[w.heap.size]? = some (.cells #[vi, vt] 27 (0, 0))) := Lib.hid (fun w' h => (h.block _ (by omega)).trans k0)
  have HR : Hid (∀ w', Below W.heap.size W w' → w'.heap[w.heap.size + 1]? = some (.cells #[.slice none 0 0, .slice none 0 0] 27 (0, 0))) := Lib.hid (fun w' h => (h.block _ (by omega)).trans k1)
  have Hri := Lib.hid (fun w' (h : Below W.heap.size W w') => hri.later (B' := B) ((hbW.trans (h.mono hbW.size)).mono hB) (Nat.le_refl _))
  have Hrt := Lib.hid (fun w' (h : Below W.heap.size W w') => hrt.later (B' := B) ((hbW.trans (h.mono hbW.size)).mono hB) (Nat.le_refl _))
  have HbW := Lib.hid hbW
  have Hf := Lib.hid (show Few s from hf)
  have HWs := Lib.hid hWs
  have BW := (Below.refl W.heap.size W).drew
  clear hri hrt k0 k1 hbW hf hWs
  go_enter Tryz.func86, Tryz.ntmps86
  go_wp2_with fail
  rw [← hW]
  clear hW
  refine wp_region_held_drew (S := (fun w' => w'.cell? ⟨w.heap.size, 0, none⟩ = some vi ∧ w'.cell? ⟨w.heap.size, 1, none⟩ = some vt)) (by kernel_rfl) (HV.out _ (Below.refl W.heap.size W).drew) (fun hHeld => ?_)
  refine tk0 0 ?_
  refine tk 1 (v := ?_) ?_ ?_; rotate_left
  · refine Or.inl ⟨by rfl, ?_⟩; intro w hSw; obtain ⟨hS0, hS1⟩ := hSw; go_simp; first | done | with_reducible rfl
  refine tk0 3 ?_
  refine tk 4 (v := ?_) ?_ ?_; rotate_left
  · refine Or.inl ⟨by rfl, ?_⟩; intro w hSw; obtain ⟨hS0, hS1⟩ := hSw; go_simp; first | done | with_reducible rfl
  refine rd1 2 (fun K hK => ?_)
  go_simp
  go_at_call 110
  refine (clone_items s.items vi B w.heap.size _ (Hri.out _ BW) (Nat.le_trans hB HbW.out.size) Hf.out.1 (by have := HWs.out; simp; omega)).mono ?_
  rintro e w1 ⟨v1, gi, ci, rfl, ⟨a1, rfl, sn1⟩, gi1, got1, b1⟩
  have B1 := (Below.refl W.heap.size W).drew.trans b1
  have S1 := Lib.hid sn1
  have G1 := Lib.hid got1
  have E1 := Lib.hid gi1
  have HB1 := Lib.hid B1
  clear sn1 got1 gi1 b1
  go_wp2_with fail
  refine hK.out _ _ (HV.out _ HB1.out) (fun hHeld => ?_)
  clear hK K
  refine rd1 5 (fun K hK => ?_)
  go_simp
  go_at_call 111
  refine (clone_talks s.talks vt B (w.heap.size + 1) _ (Hrt.out _ HB1.out) (Nat.le_trans hB (Nat.le_trans HbW.out.size HB1.out.size)) Hf.out.2 (by have := HWs.out; have := HB1.out.size; omega)).mono ?_
  rintro e w2 ⟨v2, gt, ct, rfl, ⟨a2, rfl, sn2⟩, gt2, got2, b2⟩
  have HB2 := Lib.hid (HB1.out.trans (b2.mono HB1.out.size))
  have S2 := Lib.hid sn2
  have G2 := Lib.hid got2
  have E2 := Lib.hid gt2
  have G1' := Lib.hid (G1.out.later b2)
  have HB1s := Lib.hid HB1.out.size
  clear sn2 got2 gt2 b2
  go_wp2_with fail
  refine hK.out _ _ (HV.out _ HB2.out) (fun hHeld => ?_)
  clear hK K
  refine tk0 6 ?_
  have r2 := HR.out w2 HB2.out
  have R2 := Lib.hid r2
  have d0 := cell_of_row w2 _ 0 _ _ _ r2
  have d1 := cell_of_row w2 _ 1 _ _ _ r2
  have d2 := frozen_of_row w2 _ 0 _ _ r2
  have d3 := frozen_of_row w2 _ 1 _ _ r2
  simp only [List.getElem?_toArray, List.getElem?_cons_zero, List.getElem?_cons_succ] at d0 d1
  clear r2
  refine rd1 7 (fun K hK => ?_)
  go_simp
  obtain ⟨Y, hY⟩ : ∃ Y, Y = (w2.setCell ⟨w.heap.size + 1, 0, none⟩ (.slice a1 s.items.length ci)).setCell ⟨w.heap.size + 1, 1, none⟩ (.slice a2 s.talks.length ct) := ⟨_, rfl⟩
  rw [← hY]
  have f1 := heap_setCell_same _ (w.heap.size + 1) 0 _ _ (.slice a1 s.items.length ci) R2.out
  have f2 := heap_setCell_same _ (w.heap.size + 1) 1 _ _ (.slice a2 s.talks.length ct) f1
  rw [← hY] at f2
  have hBY : Hid (w.heap.size ≤ w2.heap.size ∧ Y.heap[w.heap.size]? = w2.heap[w.heap.size]?) := Lib.hid ⟨by have := HWs.out; have := HB2.out.size; omega, by rw [hY, Below.heap_setCell _ _ _ _ (by simp), Below.heap_setCell _ _ _ _ (by simp)]⟩
  have KY : Hid (Y.cell? ⟨w.heap.size, 0, none⟩ = some vi ∧ Y.cell? ⟨w.heap.size, 1, none⟩ = some vt) := Lib.hid (by
    have j0 := hBY.out.2.trans (HB0.out w2 HB2.out)
    exact ⟨by simpa using cell_of_row Y _ 0 _ _ _ j0, by simpa using cell_of_row Y _ 1 _ _ _ j0⟩)
  have F2 := Lib.hid f2
  have HY := Lib.hid hY
  clear f1 f2 hY
  go_wp2_with fail
  refine hK.out _ _ (KY.out) (fun hHeld => ?_)
  clear hK K
  try simp only [getElem_toArray, getElem_cons_zero, getElem_cons_succ, Act.put, setIfInBounds_toArray, set_cons_zero, set_cons_succ]
  refine wpAnyH_done (by kernel_rfl) ?_ _
  clear hHeld d0 d1 d2 d3
  go_wp2_with fail
  obtain ⟨j0, q1, q2, q3, q4⟩ := info_parts infoSt
  have hWs := HWs.out
  have s1 := HB1s.out
  have e1 := E1.out
  have e2 := E2.out
  refine bodyPost_ret (results_cell_row (P := Tryz.prog) rfl _ _ (w.heap.size + 1) _ _ (0, 0) _ rfl F2.out Tryz.underlying27 rfl (by rw [q1]; simp [q3])) rfl ⟨_, rfl, ⟨_, _, gi, ci, gt, ct, rfl, ?_, ⟨a1, rfl, S1.out⟩, ⟨a2, rfl, S2.out⟩, ?_, ?_⟩, ?_⟩
  · have l1 := G1.out.2.2.2.2.1
    simp at e1
    omega
  · rw [HY.out]
    have g1 := G1'.out
    exact ((g1.base (by omega : w.heap.size ≤ w.heap.size)).set (by simp at e1; omega) _).set (by simp at e1; omega) _
  · rw [HY.out]
    have g2 := G2.out
    by_cases hgt : gt = w.heap.size + 1
    · have hz : s.talks.length = 0 ∧ ct = 0 := by
        rcases e2 with h | h
        · exact h.2
        · omega
      obtain ⟨q1, q2, q3, q4, q5, _⟩ := g2
      exact ⟨q1, q2, q3, by omega, by simpa using q5, .inl hz⟩
    · exact ((g2.base (by omega : w.heap.size ≤ w.heap.size + 1)).set (by omega) _).set (by omega) _
  · rw [HY.out]
    exact ((HbW.out.trans (HB2.out.mono HbW.out.size)).setCell (p := ⟨w.heap.size + 1, 0, none⟩) (by simp) _).setCell (p := ⟨w.heap.size + 1, 1, none⟩) (by simp) _

end Go.Proofs.YtdpjdjkfedcojaaGreat

namespace Go.Proofs.YtdpjdjkfedcojaaGreat
open Go.RowKit
set_option linter.unusedVariables false

set_option linter.unusedSimpArgs false
set_option maxRecDepth 100000 in
set_option maxHeartbeats 4000000 in
theorem impl_changed (s r : St) (vs vr : Value) (B : Nat) (w : World) (hs : StV w B vs s) (hr : StV w B vr r) (hB : B ≤ w.heap.size) (hfs : Few s) (hfr : Few r) (hts : Fits s) (htr : Fits r) :
    Calls Tryz.prog 49 #[vs, vr] w fun e w' => ∃ v', e = .returned (.tuple #[v', .bool (chgB s r)]) ∧ OwnN w' w.heap.size v' (chg s r) ∧ Below w.heap.size w w' := by
  have HS := Lib.hid hs
  have HR := Lib.hid hr
  obtain ⟨si, st, rfl, _, _⟩ := hs
  obtain ⟨ri, rt, rfl, _, _⟩ := hr
  obtain ⟨W, hW⟩ : ∃ W, W = ((w.alloc (.cells #[si, st] 27)).alloc (.cells #[ri, rt] 27)).alloc (.cells #[.slice none 0 0, .slice none 0 0] 27) := ⟨_, rfl⟩
  have hbW : Below w.heap.size w W := by rw [hW]; exact (((Below.refl _ _).alloc (Nat.le_refl _) _).alloc (by simp) _).alloc (by simp; omega) _
  have hWs : W.heap.size = w.heap.size + 3 := by rw [hW]; simp
  have k0 : W.heap[w.heap.size]? = some (.cells #[si, st] 27 (0, 0)) := by
    rw [hW, Below.heap_alloc _ _ _ (by simp; omega), Below.heap_alloc _ _ _ (by simp)]; exact heap_new _ _
  have k1 : W.heap[w.heap.size + 1]? = some (.cells #[ri, rt] 27 (0, 0)) := by
    rw [hW, Below.heap_alloc _ _ _ (by simp)]; simpa using heap_new (w.alloc (.cells #[si, st] 27)) (.cells #[ri, rt] 27)
  have k2 : W.heap[w.heap.size + 1 + 1]? = some (.cells #[.slice none 0 0, .slice none 0 0] 27 (0, 0)) := by
    rw [hW]; simpa using heap_new ((w.alloc (.cells #[si, st] 27)).alloc (.cells #[ri, rt] 27)) (.cells #[.slice none 0 0, .slice none 0 0] 27)
  have HA : Hid (∀ w', Below W.heap.size W w' → w'.cell? ⟨w.heap.size, 0, none⟩ = some si ∧ w'.cell? ⟨w.heap.size, 1, none⟩ = some st) := Lib.hid (fun w' h => by
    have j0 := (h.block _ (by omega)).trans k0
    exact ⟨by simpa using cell_of_row w' _ 0 _ _ _ j0, by simpa using cell_of_row w' _ 1 _ _ _ j0⟩)
  have HC : Hid (∀ w', Below W.heap.size W w' → w'.cell? ⟨w.heap.size + 1, 0, none⟩ = some ri ∧ w'.cell? ⟨w.heap.size + 1, 1, none⟩ = some rt) := Lib.hid (fun w' h => by
    have j0 := (h.block _ (by omega)).trans k1
    exact ⟨by simpa using cell_of_row w' _ 0 _ _ _ j0, by simpa using cell_of_row w' _ 1 _ _ _ j0⟩)
  have HK : Hid (∀ w', Below W.heap.size W w' → w'.heap[w.heap.size + 1 + 1]? = some (.cells #[.slice none 0 0, .slice none 0 0] 27 (0, 0))) := Lib.hid (fun w' h => (h.block _ (by omega)).trans k2)
  have HbW := Lib.hid hbW
  have HWs := Lib.hid hWs
  have Hfs := Lib.hid hfs
  have Hfr := Lib.hid hfr
  have Hts := Lib.hid hts
  have Htr := Lib.hid htr
  obtain ⟨a0, a1⟩ := HA.out W (Below.refl _ _)
  have hc0 := impl_stateOk s _ B W (HS.out.later (HbW.out.mono hB) (Nat.le_refl _)) (Nat.le_trans hB HbW.out.size) Hts.out
  rw [hW] at hc0 a0 a1
  clear k0 k1 k2 hbW hWs hfs hfr hts htr
  go_enter Tryz.func49, Tryz.ntmps49
  go_wp2_with (go_at_call 23; refine hc0.mono ?_; rintro e w1 ⟨rfl, hb1⟩; refine Hid.out ?_)
  refine Lib.hid ?_
  rw [← hW] at hb1
  have B1 := Lib.hid hb1
  clear hc0 a0 a1 hb1 hW
  by_cases hok : stOk s = true
  case neg =>
    have hok' : stOk s = false := by simpa using hok
    have hd : Hid (chg s r = s ∧ chgB s r = false) := Lib.hid ⟨if_neg (fun h => hok h.1), by unfold chgB; rw [hok']; rfl⟩
    obtain ⟨a0, a1⟩ := HA.out w1 B1.out
    have hc2 := impl_copy s _ B w1 (HS.out.rd.later ((HbW.out.trans (B1.out.mono HbW.out.size)).mono hB) (Nat.le_refl _)) (Nat.le_trans hB (Nat.le_trans HbW.out.size B1.out.size)) Hfs.out
    clear hok
    go_wp2_with (go_at_call 86; refine hc2.mono ?_; rintro e w3 ⟨v3, rfl, ho3, hb3⟩; refine Hid.out ?_)
    refine Lib.hid ?_
    have B3 := Lib.hid (B1.out.trans (hb3.mono B1.out.size))
    have SZ := Lib.hid (show W.heap.size ≤ w1.heap.size from B1.out.size)
    clear hc2 a0 a1 hb3
    obtain ⟨_, _, gi, ci, gt, ct, rfl, hne, ⟨ai, rfl, sI⟩, ⟨at_, rfl, sT⟩, gotI, gotT⟩ := ho3
    have GI := Lib.hid gotI
    have GT := Lib.hid gotT
    have SI := Lib.hid sI
    have ST := Lib.hid sT
    have jR := HK.out w3 B3.out
    have JR := Lib.hid jR
    have d0 := cell_of_row w3 _ 0 _ _ _ jR
    have d1 := cell_of_row w3 _ 1 _ _ _ jR
    have d2 := frozen_of_row w3 _ 0 _ _ jR
    have d3 := frozen_of_row w3 _ 1 _ _ jR
    simp only [List.getElem?_toArray, List.getElem?_cons_zero, List.getElem?_cons_succ] at d0 d1
    clear gotI gotT sI sT jR
    go_wp2_with fail
    have f1 := heap_setCell_same _ (w.heap.size + 1 + 1) 0 _ _ (Value.slice ai s.items.length ci) JR.out
    have f2 := heap_setCell_same _ (w.heap.size + 1 + 1) 1 _ _ (Value.slice at_ s.talks.length ct) f1
    clear d0 d1 d2 d3
    obtain ⟨j0, q1, q2, q3, q4⟩ := info_parts infoSt
    have hWs := HWs.out
    have hsz := SZ.out
    have bI := GI.out.2.2.2.1
    have bT := GT.out.2.2.2.1
    refine bodyPost_ret (results_cell_row2 (P := Tryz.prog) rfl _ _ (w.heap.size + 1 + 1) _ _ (0, 0) _ _ rfl rfl f2 Tryz.underlying27 rfl (by rw [q1]; simp [q3])) rfl ⟨.agg #[.slice ai s.items.length ci, .slice at_ s.talks.length ct], (by rw [hd.out.2]; rfl), ?_, ?_⟩
    · rw [hd.out.1]
      exact ⟨_, _, gi, ci, gt, ct, rfl, hne, ⟨ai, rfl, SI.out⟩, ⟨at_, rfl, ST.out⟩, ((GI.out.base (by omega)).set (by omega) _).set (by omega) _, ((GT.out.base (by omega)).set (by omega) _).set (by omega) _⟩
    · exact ((HbW.out.trans (B3.out.mono HbW.out.size)).setCell (p := ⟨w.heap.size + 1 + 1, 0, none⟩) (show w.heap.size ≤ w.heap.size + 1 + 1 by omega) _).setCell (p := ⟨w.heap.size + 1 + 1, 1, none⟩) (show w.heap.size ≤ w.heap.size + 1 + 1 by omega) _
  case pos =>
  obtain ⟨c0, c1⟩ := HC.out w1 B1.out
  have hc1 := impl_stateOk r _ B w1 (HR.out.later ((HbW.out.trans (B1.out.mono HbW.out.size)).mono hB) (Nat.le_refl _)) (Nat.le_trans hB (Nat.le_trans HbW.out.size B1.out.size)) Htr.out
  go_wp2_with (go_at_call 23; refine hc1.mono ?_; rintro e w2 ⟨rfl, hb2⟩; refine Hid.out ?_)
  refine Lib.hid ?_
  have B2 := Lib.hid (B1.out.trans (hb2.mono B1.out.size))
  clear hc1 c0 c1 hb2
  by_cases hok2 : stOk r = true
  case neg =>
    have hok' : stOk r = false := by simpa using hok2
    have hd : Hid (chg s r = s ∧ chgB s r = false) := Lib.hid ⟨if_neg (fun h => hok2 h.2), by unfold chgB; rw [hok', Bool.and_false]⟩
    obtain ⟨a0, a1⟩ := HA.out w2 B2.out
    have hc2 := impl_copy s _ B w2 (HS.out.rd.later ((HbW.out.trans (B2.out.mono HbW.out.size)).mono hB) (Nat.le_refl _)) (Nat.le_trans hB (Nat.le_trans HbW.out.size B2.out.size)) Hfs.out
    clear hok2
    go_wp2_with (go_at_call 86; refine hc2.mono ?_; rintro e w3 ⟨v3, rfl, ho3, hb3⟩; refine Hid.out ?_)
    refine Lib.hid ?_
    have B3 := Lib.hid (B2.out.trans (hb3.mono B2.out.size))
    have SZ := Lib.hid (show W.heap.size ≤ w2.heap.size from B2.out.size)
    clear hc2 a0 a1 hb3
    obtain ⟨_, _, gi, ci, gt, ct, rfl, hne, ⟨ai, rfl, sI⟩, ⟨at_, rfl, sT⟩, gotI, gotT⟩ := ho3
    have GI := Lib.hid gotI
    have GT := Lib.hid gotT
    have SI := Lib.hid sI
    have ST := Lib.hid sT
    have jR := HK.out w3 B3.out
    have JR := Lib.hid jR
    have d0 := cell_of_row w3 _ 0 _ _ _ jR
    have d1 := cell_of_row w3 _ 1 _ _ _ jR
    have d2 := frozen_of_row w3 _ 0 _ _ jR
    have d3 := frozen_of_row w3 _ 1 _ _ jR
    simp only [List.getElem?_toArray, List.getElem?_cons_zero, List.getElem?_cons_succ] at d0 d1
    clear gotI gotT sI sT jR
    go_wp2_with fail
    have f1 := heap_setCell_same _ (w.heap.size + 1 + 1) 0 _ _ (Value.slice ai s.items.length ci) JR.out
    have f2 := heap_setCell_same _ (w.heap.size + 1 + 1) 1 _ _ (Value.slice at_ s.talks.length ct) f1
    clear d0 d1 d2 d3
    obtain ⟨j0, q1, q2, q3, q4⟩ := info_parts infoSt
    have hWs := HWs.out
    have hsz := SZ.out
    have bI := GI.out.2.2.2.1
    have bT := GT.out.2.2.2.1
    refine bodyPost_ret (results_cell_row2 (P := Tryz.prog) rfl _ _ (w.heap.size + 1 + 1) _ _ (0, 0) _ _ rfl rfl f2 Tryz.underlying27 rfl (by rw [q1]; simp [q3])) rfl ⟨.agg #[.slice ai s.items.length ci, .slice at_ s.talks.length ct], (by rw [hd.out.2]; rfl), ?_, ?_⟩
    · rw [hd.out.1]
      exact ⟨_, _, gi, ci, gt, ct, rfl, hne, ⟨ai, rfl, SI.out⟩, ⟨at_, rfl, ST.out⟩, ((GI.out.base (by omega)).set (by omega) _).set (by omega) _, ((GT.out.base (by omega)).set (by omega) _).set (by omega) _⟩
    · exact ((HbW.out.trans (B3.out.mono HbW.out.size)).setCell (p := ⟨w.heap.size + 1 + 1, 0, none⟩) (show w.heap.size ≤ w.heap.size + 1 + 1 by omega) _).setCell (p := ⟨w.heap.size + 1 + 1, 1, none⟩) (show w.heap.size ≤ w.heap.size + 1 + 1 by omega) _
  case pos =>
    have hd : Hid (chg s r = r ∧ chgB s r = true) := Lib.hid ⟨if_pos ⟨hok, hok2⟩, by unfold chgB; rw [hok, hok2]; rfl⟩
    obtain ⟨c0, c1⟩ := HC.out w2 B2.out
    have hc2 := impl_copy r _ B w2 (HR.out.rd.later ((HbW.out.trans (B2.out.mono HbW.out.size)).mono hB) (Nat.le_refl _)) (Nat.le_trans hB (Nat.le_trans HbW.out.size B2.out.size)) Hfr.out
    go_wp2_with (go_at_call 86; refine hc2.mono ?_; rintro e w3 ⟨v3, rfl, ho3, hb3⟩; refine Hid.out ?_)
    refine Lib.hid ?_
    have B3 := Lib.hid (B2.out.trans (hb3.mono B2.out.size))
    have SZ := Lib.hid (show W.heap.size ≤ w2.heap.size from B2.out.size)
    clear hc2 c0 c1 hb3
    obtain ⟨_, _, gi, ci, gt, ct, rfl, hne, ⟨ai, rfl, sI⟩, ⟨at_, rfl, sT⟩, gotI, gotT⟩ := ho3
    have GI := Lib.hid gotI
    have GT := Lib.hid gotT
    have SI := Lib.hid sI
    have ST := Lib.hid sT
    have jR := HK.out w3 B3.out
    have JR := Lib.hid jR
    have d0 := cell_of_row w3 _ 0 _ _ _ jR
    have d1 := cell_of_row w3 _ 1 _ _ _ jR
    have d2 := frozen_of_row w3 _ 0 _ _ jR
    have d3 := frozen_of_row w3 _ 1 _ _ jR
    simp only [List.getElem?_toArray, List.getElem?_cons_zero, List.getElem?_cons_succ] at d0 d1
    clear gotI gotT sI sT jR
    go_wp2_with fail
    have f1 := heap_setCell_same _ (w.heap.size + 1 + 1) 0 _ _ (Value.slice ai r.items.length ci) JR.out
    have f2 := heap_setCell_same _ (w.heap.size + 1 + 1) 1 _ _ (Value.slice at_ r.talks.length ct) f1
    clear d0 d1 d2 d3
    obtain ⟨j0, q1, q2, q3, q4⟩ := info_parts infoSt
    have hWs := HWs.out
    have hsz := SZ.out
    have bI := GI.out.2.2.2.1
    have bT := GT.out.2.2.2.1
    refine bodyPost_ret (results_cell_row2 (P := Tryz.prog) rfl _ _ (w.heap.size + 1 + 1) _ _ (0, 0) _ _ rfl rfl f2 Tryz.underlying27 rfl (by rw [q1]; simp [q3])) rfl ⟨.agg #[.slice ai r.items.length ci, .slice at_ r.talks.length ct], (by rw [hd.out.2]; rfl), ?_, ?_⟩
    · rw [hd.out.1]
      exact ⟨_, _, gi, ci, gt, ct, rfl, hne, ⟨ai, rfl, SI.out⟩, ⟨at_, rfl, ST.out⟩, ((GI.out.base (by omega)).set (by omega) _).set (by omega) _, ((GT.out.base (by omega)).set (by omega) _).set (by omega) _⟩
    · exact ((HbW.out.trans (B3.out.mono HbW.out.size)).setCell (p := ⟨w.heap.size + 1 + 1, 0, none⟩) (show w.heap.size ≤ w.heap.size + 1 + 1 by omega) _).setCell (p := ⟨w.heap.size + 1 + 1, 1, none⟩) (show w.heap.size ≤ w.heap.size + 1 + 1 by omega) _
end Go.Proofs.YtdpjdjkfedcojaaGreat

namespace Go.Proofs.YtdpjdjkfedcojaaGreat
open Go.RowKit List
set_option linter.unusedVariables false
set_option linter.unusedSimpArgs false

/-- What the program's own PutItem answers. -/
def ImplPutItem : Prop := ∀ (s : St) (v : Value) (x : It) (B : Nat) (w : World), StV w B v s → B ≤ w.heap.size → Small s 2097152 → Fits s → FitIt x →
  Calls Tryz.prog 20 #[v, itA x] w fun e w' => ∃ v', e = .returned (.tuple #[v', .bool (chgB s (putSI s x))]) ∧ OwnN w' w.heap.size v' (chg s (putSI s x)) ∧ Below w.heap.size w w'

set_option maxRecDepth 100000 in
set_option maxHeartbeats 4000000 in
theorem impl_putItem : ImplPutItem := by
  intro s v x B w hs hB hsm hts hx
  have HS := Lib.hid hs
  obtain ⟨vi, vt, rfl, hri, hrt⟩ := hs
  obtain ⟨a0, n0, c0, rfl⟩ := slice_of_row hrt
  obtain ⟨r, hr⟩ : ∃ r, r = putSI s x := ⟨_, rfl⟩
  rw [← hr]
  unfold itA
  obtain ⟨W, hW⟩ : ∃ W, W = ((w.alloc (.cells #[vi, (Value.slice a0 n0 c0)] 27)).alloc (.cells #[.string x.k, .string x.v] 45)).alloc (.cells #[.slice none 0 0, .slice none 0 0] 27) := ⟨_, rfl⟩
  have hbW : Below w.heap.size w W := by rw [hW]; exact (((Below.refl _ _).alloc (Nat.le_refl _) _).alloc (by simp) _).alloc (by simp; omega) _
  have hWs : W.heap.size = w.heap.size + 3 := by rw [hW]; simp
  have k0 : W.heap[w.heap.size]? = some (.cells #[vi, (Value.slice a0 n0 c0)] 27 (0, 0)) := by
    rw [hW, Below.heap_alloc _ _ _ (by simp; omega), Below.heap_alloc _ _ _ (by simp)]; exact heap_new _ _
  have k1 : W.heap[w.heap.size + 1]? = some (.cells #[.string x.k, .string x.v] 45 (0, 0)) := by
    rw [hW, Below.heap_alloc _ _ _ (by simp)]; simpa using heap_new (w.alloc (.cells #[vi, (Value.slice a0 n0 c0)] 27)) (.cells #[.string x.k, .string x.v] 45)
  have k2 : W.heap[w.heap.size + 1 + 1]? = some (.cells #[.slice none 0 0, .slice none 0 0] 27 (0, 0)) := by
    rw [hW]; simpa using heap_new ((w.alloc (.cells #[vi, (Value.slice a0 n0 c0)] 27)).alloc (.cells #[.string x.k, .string x.v] 45)) (.cells #[.slice none 0 0, .slice none 0 0] 27)
  have HV : Hid (∀ w', Below W.heap.size W w' → w'.cell? ⟨w.heap.size, 0, none⟩ = some vi ∧ w'.cell? ⟨w.heap.size, 1, none⟩ = some (Value.slice a0 n0 c0) ∧ w'.cell? ⟨w.heap.size + 1, 0, none⟩ = some (.string x.k) ∧ w'.cell? ⟨w.heap.size + 1, 1, none⟩ = some (.string x.v)) := Lib.hid (fun w' h => by
    have j0 := (h.block _ (by omega)).trans k0
    have j1 := (h.block _ (by omega)).trans k1
    exact ⟨by simpa using cell_of_row w' _ 0 _ _ _ j0, by simpa using cell_of_row w' _ 1 _ _ _ j0, by simpa using cell_of_row w' _ 0 _ _ _ j1, by simpa using cell_of_row w' _ 1 _ _ _ j1⟩)
  have HK : Hid (∀ w', Below W.heap.size W w' → w'.heap[w.heap.size + 1 + 1]? = some (.cells #[.slice none 0 0, .slice none 0 0] 27 (0, 0))) := Lib.hid (fun w' h => (h.block _ (by omega)).trans k2)
  have HbW := Lib.hid hbW
  have HWs := Lib.hid hWs
  have Hfs : Hid (Few s) := Lib.hid (by unfold Small at hsm; unfold Few; omega)
  have Hr := Lib.hid hr
  have Hfr : Hid (Few r) := Lib.hid (by
    have h1 := putI_len s.items x
    unfold Small at hsm; unfold Few; rw [hr]; unfold putSI; simp only; omega)
  have Hts := Lib.hid hts
  have Htr : Hid (Fits r) := Lib.hid (by
    rw [hr]
    exact fits_putSI hts hx)
  have Hput : Hid (∀ w', Below W.heap.size W w' → Calls Tryz.prog 50 #[vi, .agg #[.string x.k, .string x.v]] w' fun e w'' => ∃ g' cap', e = .returned (.slice (some ⟨g', 0, none⟩) (putI s.items x).length cap') ∧ Got w'' w'.heap.size 45 2 g' (putI s.items x).length cap' ((putI s.items x).flatMap itC) ∧ Below w'.heap.size w' w'') := Lib.hid (fun w' h => by
    have hrow := hri.later (w' := w') (B' := B) (by decide) ((hbW.trans (h.mono hbW.size)).mono hB) (Nat.le_refl _)
    have hB' : B ≤ w'.heap.size := Nat.le_trans hB (Nat.le_trans hbW.size h.size)
    have hraw := raw_of_row hrow
    rcases hrow with ⟨_, ⟨rfl, h0⟩ | ⟨g, o, cap, rfl, _⟩⟩
    · have hx0 : s.items = [] := List.eq_nil_of_length_eq_zero h0
      have hp := put_itemsNil x w'
      rw [hx0]
      unfold itA at hp
      refine hp.mono ?_
      rintro e w'' ⟨g', cap', rfl, g1, g2⟩
      exact ⟨g', cap', rfl, by simpa [putI, posI] using g1, g2⟩
    · have hp := put_items s.items x g o cap B w' hraw hB' (by unfold Small at hsm; omega)
      unfold itA at hp
      exact hp)
  clear hri hrt k0 k1 k2 hbW hWs hsm hts hx hr
  go_enter Tryz.func20, Tryz.ntmps20
  go_wp2_with fail
  rw [← hW]
  clear hW
  refine wp_region_held_drew (S := (fun w' => w'.cell? ⟨w.heap.size, 0, none⟩ = some vi ∧ w'.cell? ⟨w.heap.size, 1, none⟩ = some (Value.slice a0 n0 c0) ∧ w'.cell? ⟨w.heap.size + 1, 0, none⟩ = some (.string x.k) ∧ w'.cell? ⟨w.heap.size + 1, 1, none⟩ = some (.string x.v))) (by kernel_rfl) (HV.out _ (Below.refl W.heap.size W).drew) (fun hHeld => ?_)
  refine tk 0 (v := ?_) ?_ ?_; rotate_left
  · refine Or.inl ⟨by rfl, ?_⟩; intro w hSw; obtain ⟨hS0, hS1, hS2, hS3⟩ := hSw; go_simp; first | done | with_reducible rfl
  refine tk0 1 ?_
  refine tk 2 (v := ?_) ?_ ?_; rotate_left
  · refine Or.inl ⟨by rfl, ?_⟩; intro w hSw; obtain ⟨hS0, hS1, hS2, hS3⟩ := hSw; go_simp; first | done | with_reducible rfl
  refine tk 3 (v := ?_) ?_ ?_; rotate_left
  · refine Or.inl ⟨by rfl, ?_⟩; intro w hSw; obtain ⟨hS0, hS1, hS2, hS3⟩ := hSw; go_simp; first | done | with_reducible rfl
  refine tk0 5 ?_
  refine tk 6 (v := ?_) ?_ ?_; rotate_left
  · refine Or.inl ⟨by rfl, ?_⟩; intro w hSw; obtain ⟨hS0, hS1, hS2, hS3⟩ := hSw; go_simp; first | done | with_reducible rfl
  refine rd1 4 (fun K hK => ?_)
  go_simp
  go_at_call 50
  refine (Hput.out _ (Below.refl W.heap.size W).drew).mono ?_
  rintro e w1 ⟨g, cap, rfl, got1, b1⟩
  have B1 := Lib.hid ((Below.refl W.heap.size W).drew.trans b1)
  have G1 := Lib.hid got1
  clear got1 b1
  go_wp2_with fail
  refine hK.out _ _ (HV.out _ B1.out) (fun hHeld => ?_)
  clear hK K
  refine tk0 7 ?_
  refine rd1 8 (fun K hK => ?_)
  go_simp
  go_at_call 49
  have hr1 : Row w1 w1.heap.size 2 (.slice (some ⟨g, 0, none⟩) (putI s.items x).length cap) (putI s.items x).length ((putI s.items x).flatMap itC) := row_of_got G1.out
  have hB1 : B ≤ w1.heap.size := Nat.le_trans hB (Nat.le_trans HbW.out.size B1.out.size)
  have hst := HS.out.later ((HbW.out.trans (B1.out.mono HbW.out.size)).mono hB) hB1
  have hst2 : StV w1 w1.heap.size (.agg #[.slice (some ⟨g, 0, none⟩) (putI s.items x).length cap, (Value.slice a0 n0 c0)]) r := by
    obtain ⟨_, _, hv, h1, h2⟩ := hst
    cases hv
    rw [Hr.out]
    exact ⟨_, _, rfl, hr1, h2⟩
  refine (impl_changed s r _ _ w1.heap.size w1 hst hst2 (Nat.le_refl _) Hfs.out Hfr.out Hts.out Htr.out).mono ?_
  rintro e w2 ⟨v2, rfl, ho2, b2⟩
  have B2 := Lib.hid (B1.out.trans (b2.mono B1.out.size))
  have SZ := Lib.hid (Nat.le_trans HbW.out.size B1.out.size)
  obtain ⟨_, _, gi, ci, gt, ct, rfl, hne, ⟨ai, rfl, sI⟩, ⟨at_, rfl, sT⟩, gotI, gotT⟩ := ho2
  have GI := Lib.hid gotI
  have GT := Lib.hid gotT
  have SI := Lib.hid sI
  have ST := Lib.hid sT
  have LW := Lib.hid B1.out.size
  clear hst hst2 hr1 hB1 gotI gotT sI sT b2
  go_wp2_with fail
  refine hK.out _ _ (HV.out _ B2.out) (fun hHeld => ?_)
  clear hK K
  refine tk0 9 ?_
  refine tk0 10 ?_
  have r2 := HK.out w2 B2.out
  have R2 := Lib.hid r2
  have d0 := cell_of_row w2 _ 0 _ _ _ r2
  have d1 := cell_of_row w2 _ 1 _ _ _ r2
  have d2 := frozen_of_row w2 _ 0 _ _ r2
  have d3 := frozen_of_row w2 _ 1 _ _ r2
  simp only [List.getElem?_toArray, List.getElem?_cons_zero, List.getElem?_cons_succ] at d0 d1
  clear r2
  refine rd1 11 (fun K hK => ?_)
  go_simp
  obtain ⟨Y, hY⟩ : ∃ Y, Y = (w2.setCell ⟨w.heap.size + 1 + 1, 0, none⟩ (.slice ai (chg s r).items.length ci)).setCell ⟨w.heap.size + 1 + 1, 1, none⟩ (.slice at_ (chg s r).talks.length ct) := ⟨_, rfl⟩
  rw [← hY]
  have f1 := heap_setCell_same _ (w.heap.size + 1 + 1) 0 _ _ (.slice ai (chg s r).items.length ci) R2.out
  have f2 := heap_setCell_same _ (w.heap.size + 1 + 1) 1 _ _ (.slice at_ (chg s r).talks.length ct) f1
  rw [← hY] at f2
  have KY : Hid (Y.cell? ⟨w.heap.size, 0, none⟩ = some vi ∧ Y.cell? ⟨w.heap.size, 1, none⟩ = some (Value.slice a0 n0 c0) ∧ Y.cell? ⟨w.heap.size + 1, 0, none⟩ = some (.string x.k) ∧ Y.cell? ⟨w.heap.size + 1, 1, none⟩ = some (.string x.v)) := Lib.hid (by
    have j0 : Y.heap[w.heap.size]? = w2.heap[w.heap.size]? := by rw [hY, Below.heap_setCell _ _ _ _ (by simp; omega), Below.heap_setCell _ _ _ _ (by simp; omega)]
    have j1 : Y.heap[w.heap.size + 1]? = w2.heap[w.heap.size + 1]? := by rw [hY, Below.heap_setCell _ _ _ _ (by simp), Below.heap_setCell _ _ _ _ (by simp)]
    have h2 := HV.out w2 B2.out
    simp only [World.cell?, j0, j1] at h2 ⊢
    exact h2)
  have F2 := Lib.hid f2
  have HY := Lib.hid hY
  clear f1 f2 hY
  go_wp2_with fail
  refine hK.out _ _ (KY.out) (fun hHeld => ?_)
  clear hK K
  refine tk0 12 ?_
  refine wpAnyH_done (by kernel_rfl) ?_ _
  clear hHeld d0 d1 d2 d3
  go_wp2_with fail
  obtain ⟨j0, q1, q2, q3, q4⟩ := info_parts infoSt
  have hWs := HWs.out
  have hsz := SZ.out
  have hlw := LW.out
  have bI := GI.out.2.2.2.1
  have bT := GT.out.2.2.2.1
  refine bodyPost_ret (results_cell_row2 (P := Tryz.prog) rfl _ _ (w.heap.size + 1 + 1) _ _ (0, 0) _ _ rfl rfl F2.out Tryz.underlying27 rfl (by rw [q1]; simp [q3])) rfl ⟨.agg #[.slice ai (chg s r).items.length ci, .slice at_ (chg s r).talks.length ct], rfl, ?_, ?_⟩
  · rw [HY.out]
    exact ⟨_, _, gi, ci, gt, ct, rfl, hne, ⟨ai, rfl, SI.out⟩, ⟨at_, rfl, ST.out⟩, ((GI.out.base (by omega)).set (by omega) _).set (by omega) _, ((GT.out.base (by omega)).set (by omega) _).set (by omega) _⟩
  · rw [HY.out]
    exact ((HbW.out.trans (B2.out.mono HbW.out.size)).setCell (p := ⟨w.heap.size + 1 + 1, 0, none⟩) (show w.heap.size ≤ w.heap.size + 1 + 1 by omega) _).setCell (p := ⟨w.heap.size + 1 + 1, 1, none⟩) (show w.heap.size ≤ w.heap.size + 1 + 1 by omega) _

end Go.Proofs.YtdpjdjkfedcojaaGreat
