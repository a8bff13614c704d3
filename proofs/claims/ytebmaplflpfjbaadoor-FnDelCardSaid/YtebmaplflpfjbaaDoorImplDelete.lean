/- What slices.Delete makes of a row of items of the call's own. Condition: the element is there. -/
import Derived.Test.YtebmaplflpfjbaaDoorBaseA
namespace Go.Proofs.YtebmaplflpfjbaaDoor
open Go.RowKit List
set_option linter.unusedVariables false

set_option linter.unusedSimpArgs false
set_option maxRecDepth 100000 in
set_option maxHeartbeats 2000000 in
theorem delete_item (i p g cap base : Nat) (cs : List Value) (w : World) (hg : Got w base 41 2 g (i + 1 + p) cap cs) (h1 : ∀ u ∈ cs, u.oneCell' = true) :
    Calls Tryd.prog 62 #[.slice (some ⟨g, 0, none⟩) (i + 1 + p) cap, .int .i64 i, .int .i64 (i + 1)] w fun e w' => e = .returned (.slice (some ⟨g, 0, none⟩) (i + p) cap) ∧
      Got w' base 41 2 g (i + p) cap (cs.take (i * 2) ++ cs.drop ((i + 1) * 2)) ∧ w.grownBy w' (some g) := by
  obtain ⟨cur, k1, k2, k3⟩ := got_cells hg (by omega)
  have hn := hg.2.1
  have hcap := hg.2.2.1
  have hcl : cs.length = (i + 1 + p) * 2 := hg.1
  have l2 : (cs.drop ((i + 1) * 2)).length = p * 2 := by rw [List.length_drop]; omega
  obtain ⟨i0, p1, p2, p3, p4⟩ := info_parts infoIt
  have hcell : ∀ (w' : World) (cur' : Array Value), w'.heap[g]? = some (.cells cur' 41 (0, 0)) → cur'.size = cap * 2 → ∀ j, j < cap * 2 → (w'.cell? ⟨g, j, none⟩).isSome = true ∧ w'.frozen? ⟨g, j, none⟩ = false := by
    intro w' cur' hk hs j hj
    have hc := cell_of_row w' _ j _ _ _ hk
    have hf := frozen_of_row w' _ j _ _ hk
    rw [hc, Array.getElem?_eq_getElem (by omega)]
    exact ⟨rfl, by first | exact hf | (apply hf; omega)⟩
  have hrun := run_append_room_cells (P := Tryd.prog) (w := w.drew) 24 24 41 i0 Tryd.underlying24 p1 g 0 i cap (if cap = i + 1 then ⟨g, 0, none⟩ else ⟨g, (i + 1) * 2, none⟩) p (cap - (i + 1)) (cs.drop ((i + 1) * 2)) (by rw [p3]; exact l2)
    (fun j u hu => by
      have hj : j < p * 2 := by rw [← l2]; exact (List.getElem?_eq_some_iff.1 hu).1
      rw [if_neg (by omega), add_flat]
      rw [← k3, List.getElem?_drop, List.getElem?_take, if_pos (by omega)] at hu
      have hc := cell_of_row w _ ((i + 1) * 2 + j) _ _ _ k1
      show w.cell? _ = _
      rw [hc, ← hu, Array.getElem?_toList]) (fun u hu => h1 u (List.mem_of_mem_drop hu)) (by omega)
    (fun j hj => by rw [p3]; exact (hcell w cur k1 k2 _ (by omega)).1) (fun j hj => by rw [p3]; exact (hcell w cur k1 k2 _ (by omega)).2)
  rw [p3, Nat.zero_add] at hrun
  have hrun2 : (Builtin.append_ #[24, 24] 24 #[.slice (some ⟨g, 0, none⟩) i cap, .slice (if cap = i + 1 then some ⟨g, 0, none⟩ else some ⟨g, (i + 1) * 2, none⟩) p (cap - (i + 1))]).run Tryd.prog w.drew =
      .ok (.slice (some ⟨g, 0, none⟩) (i + p) cap) (w.drew.setCells g (i * 2) (cs.drop ((i + 1) * 2))) := by
    rw [← apply_ite some]; exact hrun
  have Hrun := Lib.hid hrun2
  have Hg := Lib.hid hg
  have H1 := Lib.hid h1
  have L2 := Lib.hid l2
  have Hcell := Lib.hid hcell
  obtain ⟨W2, hW2⟩ : ∃ W2, W2 = w.drew.setCells g (i * 2) (cs.drop ((i + 1) * 2)) := ⟨_, rfl⟩
  obtain ⟨cur2, m0, m1, m2⟩ := heap_setCells g 41 (cs.drop ((i + 1) * 2)) (i * 2) w.drew cur k1 (by omega)
  have hclr := run_clear1 (P := Tryd.prog) W2 24 41 0 (.agg #[.string ⟨#[]⟩, .string ⟨#[]⟩]) [.string ⟨#[]⟩, .string ⟨#[]⟩] Tryd.underlying24 (fun _ => by kernel_rfl) (by kernel_rfl) (by intro v hv; simp at hv; rw [hv]; rfl) g ((i + p) * 2) (cap - (i + p))
    (fun j hj => by rw [hW2]; exact (hcell _ cur2 m0 (by omega) _ (by simp at hj; omega)).1) (fun j hj => by rw [hW2]; exact (hcell _ cur2 m0 (by omega) _ (by simp at hj; omega)).2)
  have hclr2 : (Builtin.clear_ #[24] 0 #[.slice (some ⟨g, (i + p) * 2, none⟩) (i + 1 + p - (i + p)) (cap - (i + p))]).run Tryd.prog W2 = .ok (.tuple #[]) (W2.setCells g ((i + p) * 2) [.string ⟨#[]⟩, .string ⟨#[]⟩]) := by
    rw [show i + 1 + p - (i + p) = 1 by omega]; exact hclr
  have Hclr := Lib.hid hclr2
  have HW2 := Lib.hid hW2
  have K := Lib.hid (And.intro k1 (And.intro k2 k3))
  have M := Lib.hid (And.intro m0 (And.intro m1 m2))
  unfold maxLen at hcap
  have i1 : (i : Int) ≤ (i : Int) + 1 + p := by omega
  have i2 : (i : Int) + 1 ≤ (i : Int) + 1 + p := by omega
  have i3 : (i : Int) + 1 + p ≤ cap := by omega
  have i4 : (i : Int) ≤ cap := by omega
  have i5 : ((i : Int) == (i : Int) + 1) = false := by simp; omega
  have i6 : ((i : Int) + 1).toNat = i + 1 := by omega
  have i7 : (0 : Int) ≤ (i : Int) + 1 := by omega
  have i8 : ¬ cap = i + p := by omega
  clear hrun hrun2 hg h1 l2 hcell hclr hclr2 hW2 k1 k2 k3 m0 m1 m2 p1 p2 p3 p4 hcl
  by_cases hcc : cap = i + 1
  case pos =>
    subst hcc
    have i9 : (i : Int) ≤ (i : Int) + 1 := by omega
    have i10 : (i : Int) + 1 + p ≤ (i : Int) + 1 := by omega
    have i11 : (i : Int) + p ≤ (i : Int) + 1 := by omega
    go_enter Tryd.func62, Tryd.ntmps62
    go_wp2_with fail
    refine wp_region_held_drew (S := (fun _ => True)) (by kernel_rfl) trivial (fun hHeld => ?_)
    refine tk0 0 ?_
    refine tk0 1 ?_
    refine tk0 2 ?_
    refine tk0 3 ?_
    refine tk0 4 ?_
    refine tk0 5 ?_
    refine rd1 6 (fun K hK => ?_)
    refine step_run rfl _ _ _ rfl _ _ _ (by simp [Act.eval]) (by first | (simp [Act.eval]; done) | (simp [Act.eval, hcc]; done) | (simp [Act.eval]; omega)) Hrun.out ?_
    rw [← HW2.out]
    refine hK.out _ _ (trivial) (fun hHeld => ?_)
    clear hK K
    refine tk0 7 ?_
    refine wpAnyH_done (by kernel_rfl) ?_ _
    clear hHeld
    go_wp2_with (with_reducible refine wpList_clear rfl (.tmp 31) 24 rfl (.slice (some ⟨g, (i + p) * 2, none⟩) (i + 1 + p - (i + p)) ((i + 1) - (i + p))) _ rfl Hclr.out ?_)
    go_ret
    have hg := Hg.out
    have hk := K.out
    have hm := M.out
    have h2 := L2.out
    have hn' : i + p ≤ i + 1 := by omega
    have got2 : Got W2 base 41 2 g (i + p) (i + 1) (cs.take (i * 2) ++ cs.drop ((i + 1) * 2)) := by
      have hl : (cs.take (i * 2) ++ cs.drop ((i + 1) * 2)).length = (i + p) * 2 := by have := hg.1; rw [List.length_append, List.length_take, List.length_drop]; omega
      rw [HW2.out]
      have hgr := grown_setCells g (cs.drop ((i + 1) * 2)) (i * 2) w.drew
      have hlt : g < w.drew.heap.size := hg.2.2.2.2.1
      refine ⟨hl, hn', hg.2.2.1, hg.2.2.2.1, Nat.lt_of_lt_of_le hlt hgr.size, .inr ⟨hl, .inr ⟨g, i + 1, cur2, rfl, hg.2.2.2.1, hm.1, hn', hg.2.2.1, by omega, ?_⟩⟩⟩
      rw [hm.2.2]
      exact cut_list cur.toList cs 2 i p (i + 1) [.string ⟨#[]⟩, .string ⟨#[]⟩] rfl (by simpa using hk.2.1) hk.2.2 (by omega)
    have hgr : w.grownBy W2 (some g) := by
      rw [HW2.out]
      exact (show w.grownBy w.drew (some g) from ⟨rfl, rfl, rfl, Nat.le_refl _, fun _ _ _ => rfl⟩).trans (grown_setCells g (cs.drop ((i + 1) * 2)) (i * 2) w.drew)
    refine ⟨rfl, got_tail got2 ((i + p) * 2) [.string ⟨#[]⟩, .string ⟨#[]⟩] (Nat.le_refl _) (by simp only [List.length_cons, List.length_nil]; omega), hgr.trans (grown_setCells g _ _ _)⟩
  case neg =>
    go_enter Tryd.func62, Tryd.ntmps62
    go_wp2_with fail
    refine wp_region_held_drew (S := (fun _ => True)) (by kernel_rfl) trivial (fun hHeld => ?_)
    refine tk0 0 ?_
    refine tk0 1 ?_
    refine tk0 2 ?_
    refine tk0 3 ?_
    refine tk0 4 ?_
    refine tk0 5 ?_
    refine rd1 6 (fun K hK => ?_)
    refine step_run rfl _ _ _ rfl _ _ _ (by simp [Act.eval]) (by first | (simp [Act.eval]; done) | (simp [Act.eval, hcc]; done) | (simp [Act.eval]; omega)) Hrun.out ?_
    rw [← HW2.out]
    refine hK.out _ _ (trivial) (fun hHeld => ?_)
    clear hK K
    refine tk0 7 ?_
    refine wpAnyH_done (by kernel_rfl) ?_ _
    clear hHeld
    go_wp2_with (with_reducible refine wpList_clear rfl (.tmp 31) 24 rfl (.slice (some ⟨g, (i + p) * 2, none⟩) (i + 1 + p - (i + p)) (cap - (i + p))) _ rfl Hclr.out ?_)
    go_ret
    have hg := Hg.out
    have hk := K.out
    have hm := M.out
    have h2 := L2.out
    have hn' : i + p ≤ cap := by omega
    have got2 : Got W2 base 41 2 g (i + p) cap (cs.take (i * 2) ++ cs.drop ((i + 1) * 2)) := by
      have hl : (cs.take (i * 2) ++ cs.drop ((i + 1) * 2)).length = (i + p) * 2 := by have := hg.1; rw [List.length_append, List.length_take, List.length_drop]; omega
      rw [HW2.out]
      have hgr := grown_setCells g (cs.drop ((i + 1) * 2)) (i * 2) w.drew
      have hlt : g < w.drew.heap.size := hg.2.2.2.2.1
      refine ⟨hl, hn', hg.2.2.1, hg.2.2.2.1, Nat.lt_of_lt_of_le hlt hgr.size, .inr ⟨hl, .inr ⟨g, cap, cur2, rfl, hg.2.2.2.1, hm.1, hn', hg.2.2.1, by omega, ?_⟩⟩⟩
      rw [hm.2.2]
      exact cut_list cur.toList cs 2 i p cap [.string ⟨#[]⟩, .string ⟨#[]⟩] rfl (by simpa using hk.2.1) hk.2.2 (by omega)
    have hgr : w.grownBy W2 (some g) := by
      rw [HW2.out]
      exact (show w.grownBy w.drew (some g) from ⟨rfl, rfl, rfl, Nat.le_refl _, fun _ _ _ => rfl⟩).trans (grown_setCells g (cs.drop ((i + 1) * 2)) (i * 2) w.drew)
    refine ⟨rfl, got_tail got2 ((i + p) * 2) [.string ⟨#[]⟩, .string ⟨#[]⟩] (Nat.le_refl _) (by simp only [List.length_cons, List.length_nil]; omega), hgr.trans (grown_setCells g _ _ _)⟩
end Go.Proofs.YtebmaplflpfjbaaDoor
