/- What impl.Words answers at every text: its words, in a row of the call's own. Condition: the text has at most 2^40 bytes. -/
import Derived.Test.YtebmaplflpfjbaaDoorImplLines
namespace Go.Proofs.YtebmaplflpfjbaaDoor
open Go.RowKit Go.Shelf
set_option linter.unusedVariables false
attribute [local go_sem] Oper.semAt_some
attribute [local simp] wide_fn

set_option maxRecDepth 100000 in
set_option maxHeartbeats 2000000 in
theorem impl_words_in (n : Nat) (hn : 5 ≤ n) (s : ByteArray) (hs : s.size ≤ 1099511627776) (w : World) :
    CallsIn Fence.wide n Tryd.prog 53 #[.string s] w fun e W' => ∃ v, e = .returned v ∧ Texts W' w.heap.size v (wordsOf s) ∧ Below w.heap.size w W' := by
  have h1 : 1 ≤ n := by omega
  obtain ⟨i0, hi, hz0, hz1, hz2⟩ := info_parts infoS
  refine callsIn_of_wp_marks Tryd.func53 rfl trivial ?_ rfl
  simp only [Tryd.ntmps53, List.size_toArray, List.length_cons, List.length_nil, Nat.reduceAdd, Nat.reduceSub, Array.replicate_succ, Array.replicate_zero, List.push_toArray, List.append_toArray, List.nil_append, List.cons_append]
  gi_wp2_with (gi_at_call 89; refine (split_in (n - 1) s _ _).mono ?_; rintro e w' ⟨rfl, rfl⟩)
  have bO := Boxed.new w 50 (.slice none 0 0)
  have bS := Boxed.new (w.alloc (.cells #[.slice none 0 0] 50)) 9 (.string s)
  have bF := Boxed.new ((w.alloc (.cells #[.slice none 0 0] 50)).alloc (.cells #[.string s] 9)) 113 (.func (.func 90) #[] #[])
  rw [World.size_alloc] at bS
  rw [World.size_alloc, World.size_alloc] at bF
  have hB0 : Below w.heap.size w (((w.alloc (.cells #[.slice none 0 0] 50)).alloc (.cells #[.string s] 9)).alloc (.cells #[.func (.func 90) #[] #[]] 113)) := (((Below.refl _ w).alloc (Nat.le_refl _) _).alloc (by simp) _).alloc (by simp; omega) _
  refine wpIn_rangeFunc_ownG rfl h1 (gf := 107) (lb := #[.pointer (some ⟨w.heap.size + 1, 0, none⟩), .pointer (some ⟨w.heap.size + 1 + 1, 0, none⟩)]) rfl trivial (enters_of Tryd.func107 (by kernel_rfl) rfl)
    (stops_bl (n - 1) (by omega) (w.heap.size + 1) s hs _ (by simp) (bS.alloc _).cell bF.cell) Two.trans (Two.put (by simp)) (Below.refl _ _) (fun _ => rfl)
    (fun pre W => (∃ v, Boxed W w.heap.size 50 v ∧ W.ownsRow (w.heap.size + 1 + 2) 9 1 v (pre.filter full).length ((pre.filter full).map Value.string) ∧ True) ∧ Below w.heap.size (((w.alloc (.cells #[.slice none 0 0] 50)).alloc (.cells #[.string s] 9)).alloc (.cells #[.func (.func 90) #[] #[]] 113)) W)
    (fun _ _ _ => False)
    (OwnFrom.and (Own.from (holdsRow_own (w.heap.size + 1 + 2) w.heap.size 50 9 1 (fun pre : List ByteArray => (pre.filter full).length) (fun pre => (pre.filter full).map Value.string) (fun _ _ => True)) _) (ownFrom_below (by simp; omega) (by simp; omega)))
    (fun _ _ _ _ _ hs _ _ => hs)
    ⟨⟨_, (bO.alloc _).alloc _, World.ownsRow_nil _ _ _ _, trivial⟩, Below.refl _ _⟩
    (fun x => { tmps := #[.string s, undef, .slice none 0 0, .pointer (some ⟨w.heap.size, 0, none⟩), .string x, .string s, .func (.func 107) #[] #[.pointer (some ⟨w.heap.size + 1, 0, none⟩), .pointer (some ⟨w.heap.size + 1 + 1, 0, none⟩)], .string x, undef, undef, undef, undef, undef, undef, undef], defers := [] }) ?assign ?body ?done ?stop
  case assign =>
    intro l x W K hK
    gi_wp2
    exact hK
  case body =>
    rintro l pre x W ⟨⟨v, hv, hrow, _⟩, hB⟩ hlt
    have hc := hv.cell
    have hsz := hB.size
    simp at hsz
    have hpl : (pre.filter full).length ≤ pre.length := List.length_filter_le _ _
    have hx1 := Lib.hid (full_yes pre x)
    have hx0 := Lib.hid (full_no pre x)
    gi_wp2_with (gi_at_builtin; refine wpListIn_append_own _ rfl _ _ 50 rfl (w.heap.size + 1 + 2) 9 i0 (.string ⟨#[]⟩) 1 16 Tryd.underlying50 hi hz0 hz1 hz2 rfl (by decide) _ _ _ rfl (hrow.alloc _) ⟨W.heap.size, 0, none⟩ 1 1 [.string x] rfl rfl (cell_one_new _ _ _) (by simp [Value.oneCell']) (by unfold maxLen; omega) (by omega) (by simp; omega) ?_; intro v' w1 hown' hgrow _; obtain ⟨g', cap', rfl⟩ := ownsRow_succ hown'; obtain ⟨hv1, hv2, hr2, hk2, hb2⟩ := hv.appended (by decide) (ownsRow_mono hrow (by omega)) (by omega) (Nat.le_refl _) (ownsRow_mono hown' (by omega)) hgrow; have hr3 := hown'.kept (grownBy_setCell' w1 w.heap.size (.slice (some ⟨g', 0, none⟩) ((pre.filter full).length + 1) cap')) (.inr (hv1.not_row (by decide) hown').symm); have ht2 := two_append (v' := .slice (some ⟨g', 0, none⟩) ((pre.filter full).length + 1) cap') (by omega) hrow (by omega : w.heap.size < w.heap.size + 1) hgrow; have hc1 := hv1.cell; have hf1 := hv1.frozen)
    · have hx : (!x.toList.isEmpty) = true := by assumption
      have hx := hx1.out (by simpa using hx)
      exact ⟨hk2.from _, ht2, ⟨_, hv2, by rw [hx]; simpa using hr3, trivial⟩, hB.trans hb2⟩
    · have hx : (!x.toList.isEmpty) = false := by assumption
      have hx := hx0.out (by simpa using hx)
      exact ⟨KeepsFrom.refl _ _, ⟨rfl, rfl⟩, ⟨v, hv, by rw [hx]; exact hrow, trivial⟩, hB⟩
  case done =>
    rintro D ys W hD rfl ⟨⟨v, hv, hrow, _⟩, hB⟩ hK
    have hc := hv.cell
    have hB := hB0.trans hB
    gi_wp2
    refine ⟨by simp, .inl ⟨_, _, rfl, run_takeDeferred hK, ?_⟩⟩
    exact ⟨_, results_tmp rfl _ _ _, v, rfl, ownsRow_mono (ownsRow_putObj hrow _ hK rfl) (by omega), hB.trans (belowK_b (w := w) (Nat.le_refl _) W D _ _ (by simp at hD; omega) hK rfl rfl)⟩
  case stop =>
    rintro D c pre W _ _ h _
    exact h.elim


theorem impl_words (s : ByteArray) (hs : s.size ≤ 1099511627776) (w : World) :
    Calls Tryd.prog 53 #[.string s] w fun e w' => ∃ v, e = .returned v ∧ Texts w' w.heap.size v (wordsOf s) ∧ Below w.heap.size w w' :=
  callsIn_wide.1 (impl_words_in 5 (Nat.le_refl _) s hs w)
end Go.Proofs.YtebmaplflpfjbaaDoor
