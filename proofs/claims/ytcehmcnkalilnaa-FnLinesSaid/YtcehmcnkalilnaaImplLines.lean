/- What impl.Lines answers at every text: its pieces between newlines, in a row of the call's own. Condition: the text has at most 2^40 bytes. -/
import Derived.Test.YtcehmcnkalilnaaSplit
import Derived.Test.YtcehmcnkalilnaaLines
namespace Go.Proofs.Ytcehmcnkalilnaa
open Go.RowKit Go.Shelf
set_option linter.unusedVariables false
attribute [local go_sem] Oper.semAt_some
attribute [local simp] wide_fn

theorem ownsRow_mono {w : World} {B B' : Nat} {e : TypeId} {size : Nat} {v : Value} {n : Nat} {xs : List Value} (h : w.ownsRow B e size v n xs) (hB : B' ≤ B) : w.ownsRow B' e size v n xs := by
  obtain ⟨h1, h2 | ⟨g, cap, cur, hv, hg, r⟩⟩ := h
  · exact ⟨h1, .inl h2⟩
  · exact ⟨h1, .inr ⟨g, cap, cur, hv, by omega, r⟩⟩

/-- What a round that appends leaves of the two captured variables' blocks. -/
theorem two_append {W w1 : World} {Bs B : Nat} {v v' : Value} {e : TypeId} {size k : Nat} {xs : List Value} {tmp : Obj} (hlt : Bs + 1 < W.heap.size) (hrow : W.ownsRow (Bs + 2) e size v k xs) (hB : B < Bs) (hgrow : (W.alloc tmp).grownBy w1 v.ownBlock) :
    Two Bs W (w1.setCell ⟨B, 0, none⟩ v') := by
  have hne : ∀ b, b < Bs + 2 → some b ≠ v.ownBlock := by
    intro b hb e'
    rcases hrow.2 with ⟨rfl, _⟩ | ⟨g, cap, cur, rfl, hg, _⟩
    · simp [Value.ownBlock] at e'
    · simp [Value.ownBlock] at e'; omega
  have one : ∀ b, b < Bs + 2 → b ≠ B → (w1.setCell ⟨B, 0, none⟩ v').heap[b]? = W.heap[b]? := fun b hb hne' => by
    rw [Below.heap_setCell _ _ _ _ (by simpa using hne'), hgrow.block b (by simp; omega) (hne b hb), Below.heap_alloc _ _ _ (by omega)]
  exact ⟨one Bs (by omega) (by omega), one (Bs + 1) (by omega) (by omega)⟩

set_option maxRecDepth 100000 in
set_option maxHeartbeats 2000000 in
theorem impl_lines_in (n : Nat) (hn : 5 ≤ n) (s : ByteArray) (hs : s.size ≤ 1099511627776) (h0 : s.toList.isEmpty = false) (w : World) :
    CallsIn Fence.wide n Try.prog 11 #[.string s] w fun e W' => ∃ v, e = .returned v ∧ Texts W' w.heap.size v (pieces isNl s) ∧ Below w.heap.size w W' := by
  have h1 : 1 ≤ n := by omega
  obtain ⟨i0, hi, hz0, hz1, hz2⟩ := info_parts infoS
  refine callsIn_of_wp_marks Try.func11 rfl trivial ?_ rfl
  simp only [Try.ntmps11, List.size_toArray, List.length_cons, List.length_nil, Nat.reduceAdd, Nat.reduceSub, Array.replicate_succ, Array.replicate_zero, List.push_toArray, List.append_toArray, List.nil_append, List.cons_append]
  gi_wp2_with (gi_at_call 29; refine (split_in (n - 1) s _ _).mono ?_; rintro e w' ⟨rfl, rfl⟩)
  have bO := Boxed.new w 25 (.slice none 0 0)
  have bS := Boxed.new (w.alloc (.cells #[.slice none 0 0] 25)) 9 (.string s)
  have bF := Boxed.new ((w.alloc (.cells #[.slice none 0 0] 25)).alloc (.cells #[.string s] 9)) 40 (.func (.func 30) #[] #[])
  rw [World.size_alloc] at bS
  rw [World.size_alloc, World.size_alloc] at bF
  have hB0 : Below w.heap.size w (((w.alloc (.cells #[.slice none 0 0] 25)).alloc (.cells #[.string s] 9)).alloc (.cells #[.func (.func 30) #[] #[]] 40)) := (((Below.refl _ w).alloc (Nat.le_refl _) _).alloc (by simp) _).alloc (by simp; omega) _
  refine wpIn_rangeFunc_ownG rfl h1 (gf := 40) (lb := #[.pointer (some ⟨w.heap.size + 1, 0, none⟩), .pointer (some ⟨w.heap.size + 1 + 1, 0, none⟩)]) rfl trivial (enters_of Try.func40 (by kernel_rfl) rfl)
    (stops_nl (n - 1) (by omega) (w.heap.size + 1) s hs _ (by simp) (bS.alloc _).cell bF.cell) Two.trans (Two.put (by simp)) (Below.refl _ _) (fun _ => rfl)
    (fun pre W => (∃ v, Boxed W w.heap.size 25 v ∧ W.ownsRow (w.heap.size + 1 + 2) 9 1 v pre.length (pre.map Value.string) ∧ True) ∧ Below w.heap.size (((w.alloc (.cells #[.slice none 0 0] 25)).alloc (.cells #[.string s] 9)).alloc (.cells #[.func (.func 30) #[] #[]] 40)) W)
    (fun _ _ _ => False)
    (OwnFrom.and (Own.from (holdsRow_own (w.heap.size + 1 + 2) w.heap.size 25 9 1 (fun pre : List ByteArray => pre.length) (fun pre => pre.map Value.string) (fun _ _ => True)) _) (ownFrom_below (by simp; omega) (by simp; omega)))
    (fun _ _ _ _ _ hs _ _ => hs)
    ⟨⟨_, (bO.alloc _).alloc _, World.ownsRow_nil _ _ _ _, trivial⟩, Below.refl _ _⟩
    (fun x => { tmps := #[.string s, undef, .slice none 0 0, .pointer (some ⟨w.heap.size, 0, none⟩), .string x, .string s, .bool false, .string s, .func (.func 40) #[] #[.pointer (some ⟨w.heap.size + 1, 0, none⟩), .pointer (some ⟨w.heap.size + 1 + 1, 0, none⟩)], .string x, undef, undef, undef, undef, undef], defers := [] }) ?assign ?body ?done ?stop
  case assign =>
    intro l x W K hK
    gi_wp2
    exact hK
  case body =>
    rintro l pre x W ⟨⟨v, hv, hrow, _⟩, hB⟩ hlt
    have hc := hv.cell
    have hsz := hB.size
    simp at hsz
    gi_wp2_with (gi_at_builtin; refine wpListIn_append_own _ rfl _ _ 25 rfl (w.heap.size + 1 + 2) 9 i0 (.string ⟨#[]⟩) 1 16 Try.underlying25 hi hz0 hz1 hz2 rfl (by decide) _ _ _ rfl (hrow.alloc _) ⟨W.heap.size, 0, none⟩ 1 1 [.string x] rfl rfl (cell_one_new _ _ _) (by simp [Value.oneCell']) (by unfold maxLen; omega) (by omega) (by simp; omega) ?_; intro v' w1 hown' hgrow _; obtain ⟨g', cap', rfl⟩ := ownsRow_succ hown'; obtain ⟨hv1, hv2, hr2, hk2, hb2⟩ := hv.appended (by decide) (ownsRow_mono hrow (by omega)) (by omega) (Nat.le_refl _) (ownsRow_mono hown' (by omega)) hgrow; have hr3 := hown'.kept (grownBy_setCell' w1 w.heap.size (.slice (some ⟨g', 0, none⟩) (pre.length + 1) cap')) (.inr (hv1.not_row (by decide) hown').symm); have ht2 := two_append (v' := .slice (some ⟨g', 0, none⟩) (pre.length + 1) cap') (by omega) hrow (by omega : w.heap.size < w.heap.size + 1) hgrow; have hc1 := hv1.cell; have hf1 := hv1.frozen)
    exact ⟨hk2.from _, ht2, ⟨_, hv2, by simpa using hr3, trivial⟩, hB.trans hb2⟩
  case done =>
    rintro D ys W hD rfl ⟨⟨v, hv, hrow, _⟩, hB⟩ hK
    have hc := hv.cell
    have hB := hB0.trans hB
    gi_wp2
    refine ⟨by simp, .inl ⟨_, _, rfl, run_takeDeferred hK, ?_⟩⟩
    exact ⟨_, results_tmp rfl _ _ _, v, rfl, ownsRow_mono (ownsRow_putObj hrow _ hK rfl) (by omega), hB.trans (belowK_b (w := w) (Nat.le_refl _) W D _ _ (by simp at hD; omega) hK rfl rfl)⟩
  case stop =>
    rintro D c pre W _ _ h _
    exact h.elim

theorem impl_lines (s : ByteArray) (hs : s.size ≤ 1099511627776) (w : World) :
    Calls Try.prog 11 #[.string s] w fun e w' => ∃ v, e = .returned v ∧ Texts w' w.heap.size v (linesOf s) ∧ Below w.heap.size w w' := by
  by_cases h0 : s.toList = []
  · have h1 : s.toList.isEmpty = true := by simp [h0]
    have hl := Lib.hid (lines_eq s h0)
    clear h0
    go_enter Try.func11, Try.ntmps11
    go_wp2_with fail
    go_ret
    exact ⟨_, rfl, by rw [hl.out]; exact Texts.nil _ _, Below.refl _ _⟩
  · have h1 : s.toList.isEmpty = false := by simpa using h0
    rw [lines_ne s h0]
    exact callsIn_wide.1 (impl_lines_in 5 (Nat.le_refl _) s hs h1 w)
end Go.Proofs.Ytcehmcnkalilnaa
