/- What spec.l03Copy makes of a state: rows of its own that hold the same. Condition: rows that can be read, of a bulk that a row may have. -/
import Derived.Test.YtkoohmibdaomkaaAppend
import Derived.Test.YtkoohmibdaomkaaForms
namespace Go.Proofs.Ytkoohmibdaomkaa
open Go.RowKit
set_option linter.unusedVariables false

/-- Few enough for a row of their own. -/
def Few (s : St) : Prop := s.items.length ≤ 4398046511104 ∧ s.talks.length ≤ 3518437208883
/-- A state whose rows are the call's own. -/
def OwnC (w : World) (base : Nat) (v : Value) (s : St) : Prop := ∃ gi ci gt ct, v = .agg #[.slice (some ⟨gi, 0, none⟩) s.items.length ci, .slice (some ⟨gt, 0, none⟩) s.talks.length ct] ∧ gi ≠ gt ∧
  Got w base 29 2 gi s.items.length ci (s.items.flatMap itC) ∧ Got w base 41 3 gt s.talks.length ct (s.talks.flatMap tkC)

theorem Got.later {w w' : World} {base e size g n cap : Nat} {cs : List Value} (h : Got w base e size g n cap cs) (hb : Below w.heap.size w w') : Got w' base e size g n cap cs := by
  obtain ⟨h1, h2, h3, h4, h5, h6⟩ := h
  exact ⟨h1, h2, h3, h4, Nat.lt_of_lt_of_le h5 hb.size, h6.imp id (fun h => owns_later h hb)⟩
theorem Got.base {w : World} {base base' e size g n cap : Nat} {cs : List Value} (h : Got w base e size g n cap cs) (hb : base' ≤ base) : Got w base' e size g n cap cs := by
  obtain ⟨h1, h2, h3, h4, h5, h6⟩ := h
  exact ⟨h1, h2, h3, Nat.le_trans hb h4, h5, h6.imp id (fun h => owns_base h hb)⟩
theorem Got.set {w : World} {base e size g n cap b o : Nat} {cs : List Value} (h : Got w base e size g n cap cs) (hb : b ≠ g) (v : Value) : Got (w.setCell ⟨b, o, none⟩ v) base e size g n cap cs := by
  obtain ⟨h1, h2, h3, h4, h5, h6⟩ := h
  exact ⟨h1, h2, h3, h4, by simpa using h5, h6.imp id (fun h => h.kept (grown_set w ⟨b, o, none⟩ v) (Or.inr (by simp [Value.ownBlock]; omega)))⟩
theorem one_it (xs : List It) : ∀ u ∈ xs.flatMap itC, u.oneCell' = true := by
  intro u hu
  obtain ⟨x, _, hx⟩ := List.mem_flatMap.1 hu
  simp only [itC, List.mem_cons, List.not_mem_nil, or_false] at hx
  rcases hx with rfl | rfl <;> rfl
theorem one_tk (xs : List Tk) : ∀ u ∈ xs.flatMap tkC, u.oneCell' = true := by
  intro u hu
  obtain ⟨x, _, hx⟩ := List.mem_flatMap.1 hu
  simp only [tkC, List.mem_cons, List.not_mem_nil, or_false] at hx
  rcases hx with rfl | rfl | rfl <;> rfl

set_option linter.unusedSimpArgs false
set_option maxRecDepth 100000 in
set_option maxHeartbeats 4000000 in
theorem spec_copy (s : St) (v : Value) (B : Nat) (w : World) (hs : Rd w B v s) (hB : B ≤ w.heap.size) (hf : Few s) :
    Calls Try.prog 55 #[v] w fun e w' => ∃ v', e = .returned v' ∧ OwnC w' w.heap.size v' s ∧ Below w.heap.size w w' := by
  obtain ⟨vi, vt, rfl, hri, hrt⟩ := hs
  obtain ⟨W, hW⟩ : ∃ W, W = (w.alloc (.cells #[vi, vt] 27)).alloc (.cells #[.slice none 0 0, .slice none 0 0] 27) := ⟨_, rfl⟩
  have hbW : Below w.heap.size w W := by rw [hW]; exact ((Below.refl _ _).alloc (Nat.le_refl _) _).alloc (by simp) _
  have hWs : W.heap.size = w.heap.size + 2 := by rw [hW]; simp
  have k0 : W.heap[w.heap.size]? = some (.cells #[vi, vt] 27 (0, 0)) := by
    rw [hW, Below.heap_alloc _ _ _ (by simp)]; exact heap_new _ _
  have k1 : W.heap[w.heap.size + 1]? = some (.cells #[.slice none 0 0, .slice none 0 0] 27 (0, 0)) := by
    rw [hW]; simpa using heap_new (w.alloc (.cells #[vi, vt] 27)) (.cells #[.slice none 0 0, .slice none 0 0] 27)
  have HV : Hid (∀ w', Below W.heap.size W w' → w'.cell? ⟨w.heap.size, 0, none⟩ = some vi ∧ w'.cell? ⟨w.heap.size, 1, none⟩ = some vt) := Lib.hid (fun w' h => by
    have j0 := (h.block _ (show w.heap.size < W.heap.size by omega)).trans k0
    exact ⟨by simpa using cell_of_row w' _ 0 _ _ _ j0, by simpa using cell_of_row w' _ 1 _ _ _ j0⟩)
  have HB0 : Hid (∀ w', Below W.heap.size W w' → w'.heap[w.heap.size]? = some (.cells #[vi, vt] 27 (0, 0))) := Lib.hid (fun w' h => (h.block _ (by omega)).trans k0)
  have HR : Hid (∀ w', Below W.heap.size W w' → w'.heap[w.heap.size + 1]? = some (.cells #[.slice none 0 0, .slice none 0 0] 27 (0, 0))) := Lib.hid (fun w' h => (h.block _ (by omega)).trans k1)
  have Hri := Lib.hid (fun w' (h : Below W.heap.size W w') => hri.later (B' := w.heap.size) ((hbW.trans (h.mono hbW.size)).mono hB) hB)
  have Hrt := Lib.hid (fun w' (h : Below W.heap.size W w') => hrt.later (B' := w.heap.size) ((hbW.trans (h.mono hbW.size)).mono hB) hB)
  have HbW := Lib.hid hbW
  have Hf := Lib.hid hf
  clear hri hrt k0 k1 hbW hf
  go_enter Try.func55, Try.ntmps55
  go_wp2_with fail
  rw [← hW]
  clear hW
  have BW : Below W.heap.size W W := Below.refl _ _
  refine wp_region_held_drew (S := (fun w' => w'.cell? ⟨w.heap.size, 0, none⟩ = some vi ∧ w'.cell? ⟨w.heap.size, 1, none⟩ = some vt)) (by kernel_rfl) (HV.out _ (Below.refl W.heap.size W).drew) (fun hHeld => ?_)
  refine wpAnyH_take (i := 1) (v := ?_) rfl (by kernel_rfl) (by kernel_rfl) (by kernel_rfl) (fun _ _ _ h => h) ?_ (by assumption) ?_
  rotate_left
  · first | (refine Or.inl ⟨by rfl, ?_⟩; intro w hSw; obtain ⟨f0, f1⟩ := hSw; go_simp; done) | (refine Or.inl ⟨by rfl, ?_⟩; intro w hSw; obtain ⟨f0, f1⟩ := hSw; go_simp; with_reducible rfl)
  try simp only [List.getElem_toArray, List.getElem_cons_zero, Act.put, List.setIfInBounds_toArray, List.set_cons_zero, List.set_cons_succ]
  refine wpAnyH_take (i := 2) (v := ?_) rfl (by kernel_rfl) (by kernel_rfl) (by kernel_rfl) (fun _ _ _ h => h) ?_ (by assumption) ?_
  rotate_left
  · first | (refine Or.inl ⟨by rfl, ?_⟩; intro w hSw; obtain ⟨f0, f1⟩ := hSw; go_simp; done) | (refine Or.inl ⟨by rfl, ?_⟩; intro w hSw; obtain ⟨f0, f1⟩ := hSw; go_simp; with_reducible rfl)
  try simp only [List.getElem_toArray, List.getElem_cons_zero, List.getElem_cons_succ, Act.put, List.setIfInBounds_toArray, List.set_cons_zero, List.set_cons_succ]
  refine wpAnyH_take (i := 5) (v := ?_) rfl (by kernel_rfl) (by kernel_rfl) (by kernel_rfl) (fun _ _ _ h => h) ?_ (by assumption) ?_
  rotate_left
  · first | (refine Or.inl ⟨by rfl, ?_⟩; intro w hSw; obtain ⟨f0, f1⟩ := hSw; go_simp; done) | (refine Or.inl ⟨by rfl, ?_⟩; intro w hSw; obtain ⟨f0, f1⟩ := hSw; go_simp; with_reducible rfl)
  try simp only [List.getElem_toArray, List.getElem_cons_zero, List.getElem_cons_succ, Act.put, List.setIfInBounds_toArray, List.set_cons_zero, List.set_cons_succ]
  refine wpAnyH_take (i := 6) (v := ?_) rfl (by kernel_rfl) (by kernel_rfl) (by kernel_rfl) (fun _ _ _ h => h) ?_ (by assumption) ?_
  rotate_left
  · first | (refine Or.inl ⟨by rfl, ?_⟩; intro w hSw; obtain ⟨f0, f1⟩ := hSw; go_simp; done) | (refine Or.inl ⟨by rfl, ?_⟩; intro w hSw; obtain ⟨f0, f1⟩ := hSw; go_simp; with_reducible rfl)
  try simp only [List.getElem_toArray, List.getElem_cons_zero, List.getElem_cons_succ, Act.put, List.setIfInBounds_toArray, List.set_cons_zero, List.set_cons_succ]
  refine wpAnyH_ready (rs := [0, 4]) (by kernel_rfl) (by simp) ?_
  refine AllReadyH.cons rfl (fun K hK => ?_) (AllReadyH.cons rfl (fun K hK => ?_) (AllReadyH.nil))
  · go_simp
    obtain ⟨w1, hw1⟩ : ∃ x, x = (W.alloc (.cells #[] 29)).drew := ⟨_, rfl⟩
    rw [← hw1]
    have bw1 : Below W.heap.size W w1 := by rw [hw1]; exact ((Below.refl W.heap.size W).alloc (Nat.le_refl _) _).drew
    have zw1 : w1.heap.size = W.heap.size + 1 := by rw [hw1]; simp
    have xi : Hid (W.heap.size < w1.heap.size ∧ W.heap.size ≤ W.heap.size) := Lib.hid ⟨by omega, BW.size⟩
    have yi : Hid (W.heap.size = W.heap.size) := Lib.hid rfl
    have Zw1 := Lib.hid zw1
    clear hw1 zw1
    have Bw1 := BW.trans (bw1.mono BW.size)
    refine hK.out _ _ (HV.out _ Bw1) (fun hHeld => ?_)
    clear hK K
    try simp only [List.getElem_toArray, List.getElem_cons_zero, List.getElem_cons_succ, Act.put, List.setIfInBounds_toArray, List.set_cons_zero, List.set_cons_succ]
    have hXi : Hid (W.heap.size ≤ W.heap.size ∧ W.heap.size < w1.heap.size) := Lib.hid ⟨xi.out.2, xi.out.1⟩
    refine wpAnyH_ready (rs := [3, 4]) (by kernel_rfl) (by simp) ?_
    refine AllReadyH.cons rfl (fun K hK => ?_) (AllReadyH.cons rfl (fun K hK => ?_) (AllReadyH.nil))
    · have hXl := hXi.out
      obtain ⟨ii, p1, p2, p3, p4⟩ := info_parts infoIt
      refine step_app0 rfl (.tmp 3) (.tmp 5) 24 rfl 29 ii _ 2 32 Try.underlying24 p1 p2 p3 p4 rfl (by decide) W.heap.size W.heap.size hXl.1 hXl.2 (by simp [Act.eval]) _ (by simp [Act.eval]) w.heap.size s.items.length (s.items.flatMap itC) (Hri.out w1 Bw1) (flat_len_it s.items) (one_it s.items) (by have := Hf.out; unfold Few at this; unfold maxLen; omega) (by have := Hf.out; unfold Few at this; omega) ?_
      intro gi ci w2 bw2 ei goti
      have Bw2 := Bw1.trans (bw2.mono Bw1.size)
      refine hK.out _ _ (HV.out _ Bw2) (fun hHeld => ?_)
      clear hK K
      try simp only [List.getElem_toArray, List.getElem_cons_zero, List.getElem_cons_succ, Act.put, List.setIfInBounds_toArray, List.set_cons_zero, List.set_cons_succ]
      refine wpAnyH_ready (rs := [4]) (by kernel_rfl) (by simp) ?_
      refine AllReadyH.cons rfl (fun K hK => ?_) (AllReadyH.nil)
      · go_simp
        obtain ⟨w3, hw3⟩ : ∃ x, x = w2.alloc (.cells #[] 41) := ⟨_, rfl⟩
        rw [← hw3]
        have bw3 : Below w2.heap.size w2 w3 := by rw [hw3]; exact ((Below.refl w2.heap.size w2).alloc (Nat.le_refl _) _)
        have zw3 : w3.heap.size = w2.heap.size + 1 := by rw [hw3]; simp
        have xt : Hid (w2.heap.size < w3.heap.size ∧ W.heap.size ≤ w2.heap.size) := Lib.hid ⟨by omega, Bw2.size⟩
        have yt : Hid (w2.heap.size = w2.heap.size) := Lib.hid rfl
        have Zw3 := Lib.hid zw3
        clear hw3 zw3
        have Bw3 := Bw2.trans (bw3.mono Bw2.size)
        refine hK.out _ _ (HV.out _ Bw3) (fun hHeld => ?_)
        clear hK K
        try simp only [List.getElem_toArray, List.getElem_cons_zero, List.getElem_cons_succ, Act.put, List.setIfInBounds_toArray, List.set_cons_zero, List.set_cons_succ]
        have hXt : Hid (W.heap.size ≤ w2.heap.size ∧ w2.heap.size < w3.heap.size) := Lib.hid ⟨xt.out.2, xt.out.1⟩
        refine wpAnyH_ready (rs := [7]) (by kernel_rfl) (by simp) ?_
        refine AllReadyH.cons rfl (fun K hK => ?_) (AllReadyH.nil)
        · have hXl := hXt.out
          obtain ⟨it, p1, p2, p3, p4⟩ := info_parts infoTk
          refine step_app0 rfl (.tmp 7) (.tmp 9) 25 rfl 41 it _ 3 40 Try.underlying25 p1 p2 p3 p4 rfl (by decide) w2.heap.size W.heap.size hXl.1 hXl.2 (by simp [Act.eval]) _ (by simp [Act.eval]) w.heap.size s.talks.length (s.talks.flatMap tkC) (Hrt.out w3 Bw3) (flat_len_tk s.talks) (one_tk s.talks) (by have := Hf.out; unfold Few at this; unfold maxLen; omega) (by have := Hf.out; unfold Few at this; omega) ?_
          intro gt ct w4 bw4 et gott
          have Bw4 := Bw3.trans (bw4.mono Bw3.size)
          refine hK.out _ _ (HV.out _ Bw4) (fun hHeld => ?_)
          clear hK K
          try simp only [List.getElem_toArray, List.getElem_cons_zero, List.getElem_cons_succ, Act.put, List.setIfInBounds_toArray, List.set_cons_zero, List.set_cons_succ]
          refine wpAnyH_take (i := 8) (v := ?_) rfl (by kernel_rfl) (by kernel_rfl) (by kernel_rfl) (fun _ _ _ h => h) ?_ (by assumption) ?_
          rotate_left
          · first | (refine Or.inl ⟨by rfl, ?_⟩; intro w hSw; obtain ⟨f0, f1⟩ := hSw; go_simp; done) | (refine Or.inl ⟨by rfl, ?_⟩; intro w hSw; obtain ⟨f0, f1⟩ := hSw; go_simp; with_reducible rfl)
          try simp only [List.getElem_toArray, List.getElem_cons_zero, List.getElem_cons_succ, Act.put, List.setIfInBounds_toArray, List.set_cons_zero, List.set_cons_succ]
          have r1 := HR.out w4 Bw4
          have d0 := cell_of_row w4 _ 0 _ _ _ r1
          have d1 := cell_of_row w4 _ 1 _ _ _ r1
          have d2 := frozen_of_row w4 _ 0 _ _ r1
          have d3 := frozen_of_row w4 _ 1 _ _ r1
          simp only [List.getElem?_toArray, List.getElem?_cons_zero, List.getElem?_cons_succ] at d0 d1
          refine wpAnyH_ready (rs := [9]) (by kernel_rfl) (by simp) ?_
          refine AllReadyH.cons rfl (fun K hK => ?_) (AllReadyH.nil)
          have r0 := HB0.out w4 Bw4
          have R0 := Lib.hid r0
          have R1 := Lib.hid r1
          clear r0 r1
          go_simp
          have f1 := heap_setCell_same _ (w.heap.size + 1) 0 _ _ (Value.slice (some ⟨gi, 0, none⟩) s.items.length ci) R1.out
          have f2 := heap_setCell_same _ (w.heap.size + 1) 1 _ _ (Value.slice (some ⟨gt, 0, none⟩) s.talks.length ct) f1
          have m0 : ((w4.setCell ⟨w.heap.size + 1, 0, none⟩ (Value.slice (some ⟨gi, 0, none⟩) s.items.length ci)).setCell ⟨w.heap.size + 1, 1, none⟩ (Value.slice (some ⟨gt, 0, none⟩) s.talks.length ct)).heap[w.heap.size]? = some (.cells #[vi, vt] 27 (0, 0)) := by rw [Below.heap_setCell _ _ _ _ (by simp), Below.heap_setCell _ _ _ _ (by simp)]; exact R0.out
          refine hK.out _ _ ⟨by simpa using cell_of_row _ _ 0 _ _ _ m0, by simpa using cell_of_row _ _ 1 _ _ _ m0⟩ (fun hHeld => ?_)
          clear hK K
          try simp only [List.getElem_toArray, List.getElem_cons_zero, List.getElem_cons_succ, Act.put, List.setIfInBounds_toArray, List.set_cons_zero, List.set_cons_succ]
          refine wpAnyH_done (by kernel_rfl) ?_ _
          clear hHeld d0 d1 d2 d3
          go_wp2_with fail
          obtain ⟨j0, q1, q2, q3, q4⟩ := info_parts infoSt
          have lI := goti.2.2.2.2.1
          have lT := gott.2.2.2.2.1
          have bI := goti.2.2.2.1
          have bT := gott.2.2.2.1
          have sz1 := bw1.size
          have sz2 := bw2.size
          have sz3 := bw3.size
          have sz4 := bw4.size
          have xi' := xi.out
          have xt' := xt.out
          refine bodyPost_ret (results_cell_row (P := Try.prog) rfl _ _ (w.heap.size + 1) _ _ (0, 0) _ rfl f2 Try.underlying27 rfl (by rw [q1]; simp [q3])) rfl ⟨_, rfl, ⟨gi, ci, gt, ct, rfl, by omega, ?_, ?_⟩, ?_⟩
          · exact ((((goti.later bw3).later bw4).base (by omega : w.heap.size ≤ W.heap.size)).set (by omega) _).set (by omega) _
          · exact ((gott.base (by omega : w.heap.size ≤ W.heap.size)).set (by omega) _).set (by omega) _
          · exact ((HbW.out.trans (Bw4.mono HbW.out.size)).setCell (p := ⟨w.heap.size + 1, 0, none⟩) (by simp) _).setCell (p := ⟨w.heap.size + 1, 1, none⟩) (by simp) _
    · go_simp
      obtain ⟨w2, hw2⟩ : ∃ x, x = w1.alloc (.cells #[] 41) := ⟨_, rfl⟩
      rw [← hw2]
      have bw2 : Below w1.heap.size w1 w2 := by rw [hw2]; exact ((Below.refl w1.heap.size w1).alloc (Nat.le_refl _) _)
      have zw2 : w2.heap.size = w1.heap.size + 1 := by rw [hw2]; simp
      have xt : Hid (w1.heap.size < w2.heap.size ∧ W.heap.size ≤ w1.heap.size) := Lib.hid ⟨by omega, Bw1.size⟩
      have yt : Hid (w1.heap.size = w1.heap.size) := Lib.hid rfl
      have Zw2 := Lib.hid zw2
      clear hw2 zw2
      have Bw2 := Bw1.trans (bw2.mono Bw1.size)
      refine hK.out _ _ (HV.out _ Bw2) (fun hHeld => ?_)
      clear hK K
      try simp only [List.getElem_toArray, List.getElem_cons_zero, List.getElem_cons_succ, Act.put, List.setIfInBounds_toArray, List.set_cons_zero, List.set_cons_succ]
      have hXt : Hid (W.heap.size ≤ w1.heap.size ∧ w1.heap.size < w2.heap.size) := Lib.hid ⟨xt.out.2, xt.out.1⟩
      have hXi := Lib.hid (And.intro hXi.out.1 (Nat.lt_of_lt_of_le hXi.out.2 bw2.size))
      refine wpAnyH_ready (rs := [3]) (by kernel_rfl) (by simp) ?_
      refine AllReadyH.cons rfl (fun K hK => ?_) (AllReadyH.nil)
      · have hXl := hXi.out
        obtain ⟨ii, p1, p2, p3, p4⟩ := info_parts infoIt
        refine step_app0 rfl (.tmp 3) (.tmp 5) 24 rfl 29 ii _ 2 32 Try.underlying24 p1 p2 p3 p4 rfl (by decide) W.heap.size W.heap.size hXl.1 hXl.2 (by simp [Act.eval]) _ (by simp [Act.eval]) w.heap.size s.items.length (s.items.flatMap itC) (Hri.out w2 Bw2) (flat_len_it s.items) (one_it s.items) (by have := Hf.out; unfold Few at this; unfold maxLen; omega) (by have := Hf.out; unfold Few at this; omega) ?_
        intro gi ci w3 bw3 ei goti
        have Bw3 := Bw2.trans (bw3.mono Bw2.size)
        refine hK.out _ _ (HV.out _ Bw3) (fun hHeld => ?_)
        clear hK K
        try simp only [List.getElem_toArray, List.getElem_cons_zero, List.getElem_cons_succ, Act.put, List.setIfInBounds_toArray, List.set_cons_zero, List.set_cons_succ]
        have hXt := Lib.hid (And.intro hXt.out.1 (Nat.lt_of_lt_of_le hXt.out.2 bw3.size))
        refine wpAnyH_ready (rs := [7]) (by kernel_rfl) (by simp) ?_
        refine AllReadyH.cons rfl (fun K hK => ?_) (AllReadyH.nil)
        · have hXl := hXt.out
          obtain ⟨it, p1, p2, p3, p4⟩ := info_parts infoTk
          refine step_app0 rfl (.tmp 7) (.tmp 9) 25 rfl 41 it _ 3 40 Try.underlying25 p1 p2 p3 p4 rfl (by decide) w1.heap.size W.heap.size hXl.1 hXl.2 (by simp [Act.eval]) _ (by simp [Act.eval]) w.heap.size s.talks.length (s.talks.flatMap tkC) (Hrt.out w3 Bw3) (flat_len_tk s.talks) (one_tk s.talks) (by have := Hf.out; unfold Few at this; unfold maxLen; omega) (by have := Hf.out; unfold Few at this; omega) ?_
          intro gt ct w4 bw4 et gott
          have Bw4 := Bw3.trans (bw4.mono Bw3.size)
          refine hK.out _ _ (HV.out _ Bw4) (fun hHeld => ?_)
          clear hK K
          try simp only [List.getElem_toArray, List.getElem_cons_zero, List.getElem_cons_succ, Act.put, List.setIfInBounds_toArray, List.set_cons_zero, List.set_cons_succ]
          refine wpAnyH_take (i := 8) (v := ?_) rfl (by kernel_rfl) (by kernel_rfl) (by kernel_rfl) (fun _ _ _ h => h) ?_ (by assumption) ?_
          rotate_left
          · first | (refine Or.inl ⟨by rfl, ?_⟩; intro w hSw; obtain ⟨f0, f1⟩ := hSw; go_simp; done) | (refine Or.inl ⟨by rfl, ?_⟩; intro w hSw; obtain ⟨f0, f1⟩ := hSw; go_simp; with_reducible rfl)
          try simp only [List.getElem_toArray, List.getElem_cons_zero, List.getElem_cons_succ, Act.put, List.setIfInBounds_toArray, List.set_cons_zero, List.set_cons_succ]
          have r1 := HR.out w4 Bw4
          have d0 := cell_of_row w4 _ 0 _ _ _ r1
          have d1 := cell_of_row w4 _ 1 _ _ _ r1
          have d2 := frozen_of_row w4 _ 0 _ _ r1
          have d3 := frozen_of_row w4 _ 1 _ _ r1
          simp only [List.getElem?_toArray, List.getElem?_cons_zero, List.getElem?_cons_succ] at d0 d1
          refine wpAnyH_ready (rs := [9]) (by kernel_rfl) (by simp) ?_
          refine AllReadyH.cons rfl (fun K hK => ?_) (AllReadyH.nil)
          have r0 := HB0.out w4 Bw4
          have R0 := Lib.hid r0
          have R1 := Lib.hid r1
          clear r0 r1
          go_simp
          have f1 := heap_setCell_same _ (w.heap.size + 1) 0 _ _ (Value.slice (some ⟨gi, 0, none⟩) s.items.length ci) R1.out
          have f2 := heap_setCell_same _ (w.heap.size + 1) 1 _ _ (Value.slice (some ⟨gt, 0, none⟩) s.talks.length ct) f1
          have m0 : ((w4.setCell ⟨w.heap.size + 1, 0, none⟩ (Value.slice (some ⟨gi, 0, none⟩) s.items.length ci)).setCell ⟨w.heap.size + 1, 1, none⟩ (Value.slice (some ⟨gt, 0, none⟩) s.talks.length ct)).heap[w.heap.size]? = some (.cells #[vi, vt] 27 (0, 0)) := by rw [Below.heap_setCell _ _ _ _ (by simp), Below.heap_setCell _ _ _ _ (by simp)]; exact R0.out
          refine hK.out _ _ ⟨by simpa using cell_of_row _ _ 0 _ _ _ m0, by simpa using cell_of_row _ _ 1 _ _ _ m0⟩ (fun hHeld => ?_)
          clear hK K
          try simp only [List.getElem_toArray, List.getElem_cons_zero, List.getElem_cons_succ, Act.put, List.setIfInBounds_toArray, List.set_cons_zero, List.set_cons_succ]
          refine wpAnyH_done (by kernel_rfl) ?_ _
          clear hHeld d0 d1 d2 d3
          go_wp2_with fail
          obtain ⟨j0, q1, q2, q3, q4⟩ := info_parts infoSt
          have lI := goti.2.2.2.2.1
          have lT := gott.2.2.2.2.1
          have bI := goti.2.2.2.1
          have bT := gott.2.2.2.1
          have sz1 := bw1.size
          have sz2 := bw2.size
          have sz3 := bw3.size
          have sz4 := bw4.size
          have xi' := xi.out
          have xt' := xt.out
          refine bodyPost_ret (results_cell_row (P := Try.prog) rfl _ _ (w.heap.size + 1) _ _ (0, 0) _ rfl f2 Try.underlying27 rfl (by rw [q1]; simp [q3])) rfl ⟨_, rfl, ⟨gi, ci, gt, ct, rfl, by omega, ?_, ?_⟩, ?_⟩
          · exact (((goti.later bw4).base (by omega : w.heap.size ≤ W.heap.size)).set (by omega) _).set (by omega) _
          · exact ((gott.base (by omega : w.heap.size ≤ W.heap.size)).set (by omega) _).set (by omega) _
          · exact ((HbW.out.trans (Bw4.mono HbW.out.size)).setCell (p := ⟨w.heap.size + 1, 0, none⟩) (by simp) _).setCell (p := ⟨w.heap.size + 1, 1, none⟩) (by simp) _
  · go_simp
    obtain ⟨w1, hw1⟩ : ∃ x, x = (W.alloc (.cells #[] 41)).drew := ⟨_, rfl⟩
    rw [← hw1]
    have bw1 : Below W.heap.size W w1 := by rw [hw1]; exact ((Below.refl W.heap.size W).alloc (Nat.le_refl _) _).drew
    have zw1 : w1.heap.size = W.heap.size + 1 := by rw [hw1]; simp
    have xt : Hid (W.heap.size < w1.heap.size ∧ W.heap.size ≤ W.heap.size) := Lib.hid ⟨by omega, BW.size⟩
    have yt : Hid (W.heap.size = W.heap.size) := Lib.hid rfl
    have Zw1 := Lib.hid zw1
    clear hw1 zw1
    have Bw1 := BW.trans (bw1.mono BW.size)
    refine hK.out _ _ (HV.out _ Bw1) (fun hHeld => ?_)
    clear hK K
    try simp only [List.getElem_toArray, List.getElem_cons_zero, List.getElem_cons_succ, Act.put, List.setIfInBounds_toArray, List.set_cons_zero, List.set_cons_succ]
    have hXt : Hid (W.heap.size ≤ W.heap.size ∧ W.heap.size < w1.heap.size) := Lib.hid ⟨xt.out.2, xt.out.1⟩
    refine wpAnyH_ready (rs := [0]) (by kernel_rfl) (by simp) ?_
    refine AllReadyH.cons rfl (fun K hK => ?_) (AllReadyH.nil)
    · go_simp
      obtain ⟨w2, hw2⟩ : ∃ x, x = w1.alloc (.cells #[] 29) := ⟨_, rfl⟩
      rw [← hw2]
      have bw2 : Below w1.heap.size w1 w2 := by rw [hw2]; exact ((Below.refl w1.heap.size w1).alloc (Nat.le_refl _) _)
      have zw2 : w2.heap.size = w1.heap.size + 1 := by rw [hw2]; simp
      have xi : Hid (w1.heap.size < w2.heap.size ∧ W.heap.size ≤ w1.heap.size) := Lib.hid ⟨by omega, Bw1.size⟩
      have yi : Hid (w1.heap.size = w1.heap.size) := Lib.hid rfl
      have Zw2 := Lib.hid zw2
      clear hw2 zw2
      have Bw2 := Bw1.trans (bw2.mono Bw1.size)
      refine hK.out _ _ (HV.out _ Bw2) (fun hHeld => ?_)
      clear hK K
      try simp only [List.getElem_toArray, List.getElem_cons_zero, List.getElem_cons_succ, Act.put, List.setIfInBounds_toArray, List.set_cons_zero, List.set_cons_succ]
      have hXi : Hid (W.heap.size ≤ w1.heap.size ∧ w1.heap.size < w2.heap.size) := Lib.hid ⟨xi.out.2, xi.out.1⟩
      have hXt := Lib.hid (And.intro hXt.out.1 (Nat.lt_of_lt_of_le hXt.out.2 bw2.size))
      refine wpAnyH_ready (rs := [3]) (by kernel_rfl) (by simp) ?_
      refine AllReadyH.cons rfl (fun K hK => ?_) (AllReadyH.nil)
      · have hXl := hXi.out
        obtain ⟨ii, p1, p2, p3, p4⟩ := info_parts infoIt
        refine step_app0 rfl (.tmp 3) (.tmp 5) 24 rfl 29 ii _ 2 32 Try.underlying24 p1 p2 p3 p4 rfl (by decide) w1.heap.size W.heap.size hXl.1 hXl.2 (by simp [Act.eval]) _ (by simp [Act.eval]) w.heap.size s.items.length (s.items.flatMap itC) (Hri.out w2 Bw2) (flat_len_it s.items) (one_it s.items) (by have := Hf.out; unfold Few at this; unfold maxLen; omega) (by have := Hf.out; unfold Few at this; omega) ?_
        intro gi ci w3 bw3 ei goti
        have Bw3 := Bw2.trans (bw3.mono Bw2.size)
        refine hK.out _ _ (HV.out _ Bw3) (fun hHeld => ?_)
        clear hK K
        try simp only [List.getElem_toArray, List.getElem_cons_zero, List.getElem_cons_succ, Act.put, List.setIfInBounds_toArray, List.set_cons_zero, List.set_cons_succ]
        have hXt := Lib.hid (And.intro hXt.out.1 (Nat.lt_of_lt_of_le hXt.out.2 bw3.size))
        refine wpAnyH_ready (rs := [7]) (by kernel_rfl) (by simp) ?_
        refine AllReadyH.cons rfl (fun K hK => ?_) (AllReadyH.nil)
        · have hXl := hXt.out
          obtain ⟨it, p1, p2, p3, p4⟩ := info_parts infoTk
          refine step_app0 rfl (.tmp 7) (.tmp 9) 25 rfl 41 it _ 3 40 Try.underlying25 p1 p2 p3 p4 rfl (by decide) W.heap.size W.heap.size hXl.1 hXl.2 (by simp [Act.eval]) _ (by simp [Act.eval]) w.heap.size s.talks.length (s.talks.flatMap tkC) (Hrt.out w3 Bw3) (flat_len_tk s.talks) (one_tk s.talks) (by have := Hf.out; unfold Few at this; unfold maxLen; omega) (by have := Hf.out; unfold Few at this; omega) ?_
          intro gt ct w4 bw4 et gott
          have Bw4 := Bw3.trans (bw4.mono Bw3.size)
          refine hK.out _ _ (HV.out _ Bw4) (fun hHeld => ?_)
          clear hK K
          try simp only [List.getElem_toArray, List.getElem_cons_zero, List.getElem_cons_succ, Act.put, List.setIfInBounds_toArray, List.set_cons_zero, List.set_cons_succ]
          refine wpAnyH_take (i := 8) (v := ?_) rfl (by kernel_rfl) (by kernel_rfl) (by kernel_rfl) (fun _ _ _ h => h) ?_ (by assumption) ?_
          rotate_left
          · first | (refine Or.inl ⟨by rfl, ?_⟩; intro w hSw; obtain ⟨f0, f1⟩ := hSw; go_simp; done) | (refine Or.inl ⟨by rfl, ?_⟩; intro w hSw; obtain ⟨f0, f1⟩ := hSw; go_simp; with_reducible rfl)
          try simp only [List.getElem_toArray, List.getElem_cons_zero, List.getElem_cons_succ, Act.put, List.setIfInBounds_toArray, List.set_cons_zero, List.set_cons_succ]
          have r1 := HR.out w4 Bw4
          have d0 := cell_of_row w4 _ 0 _ _ _ r1
          have d1 := cell_of_row w4 _ 1 _ _ _ r1
          have d2 := frozen_of_row w4 _ 0 _ _ r1
          have d3 := frozen_of_row w4 _ 1 _ _ r1
          simp only [List.getElem?_toArray, List.getElem?_cons_zero, List.getElem?_cons_succ] at d0 d1
          refine wpAnyH_ready (rs := [9]) (by kernel_rfl) (by simp) ?_
          refine AllReadyH.cons rfl (fun K hK => ?_) (AllReadyH.nil)
          have r0 := HB0.out w4 Bw4
          have R0 := Lib.hid r0
          have R1 := Lib.hid r1
          clear r0 r1
          go_simp
          have f1 := heap_setCell_same _ (w.heap.size + 1) 0 _ _ (Value.slice (some ⟨gi, 0, none⟩) s.items.length ci) R1.out
          have f2 := heap_setCell_same _ (w.heap.size + 1) 1 _ _ (Value.slice (some ⟨gt, 0, none⟩) s.talks.length ct) f1
          have m0 : ((w4.setCell ⟨w.heap.size + 1, 0, none⟩ (Value.slice (some ⟨gi, 0, none⟩) s.items.length ci)).setCell ⟨w.heap.size + 1, 1, none⟩ (Value.slice (some ⟨gt, 0, none⟩) s.talks.length ct)).heap[w.heap.size]? = some (.cells #[vi, vt] 27 (0, 0)) := by rw [Below.heap_setCell _ _ _ _ (by simp), Below.heap_setCell _ _ _ _ (by simp)]; exact R0.out
          refine hK.out _ _ ⟨by simpa using cell_of_row _ _ 0 _ _ _ m0, by simpa using cell_of_row _ _ 1 _ _ _ m0⟩ (fun hHeld => ?_)
          clear hK K
          try simp only [List.getElem_toArray, List.getElem_cons_zero, List.getElem_cons_succ, Act.put, List.setIfInBounds_toArray, List.set_cons_zero, List.set_cons_succ]
          refine wpAnyH_done (by kernel_rfl) ?_ _
          clear hHeld d0 d1 d2 d3
          go_wp2_with fail
          obtain ⟨j0, q1, q2, q3, q4⟩ := info_parts infoSt
          have lI := goti.2.2.2.2.1
          have lT := gott.2.2.2.2.1
          have bI := goti.2.2.2.1
          have bT := gott.2.2.2.1
          have sz1 := bw1.size
          have sz2 := bw2.size
          have sz3 := bw3.size
          have sz4 := bw4.size
          have xi' := xi.out
          have xt' := xt.out
          refine bodyPost_ret (results_cell_row (P := Try.prog) rfl _ _ (w.heap.size + 1) _ _ (0, 0) _ rfl f2 Try.underlying27 rfl (by rw [q1]; simp [q3])) rfl ⟨_, rfl, ⟨gi, ci, gt, ct, rfl, by omega, ?_, ?_⟩, ?_⟩
          · exact (((goti.later bw4).base (by omega : w.heap.size ≤ W.heap.size)).set (by omega) _).set (by omega) _
          · exact ((gott.base (by omega : w.heap.size ≤ W.heap.size)).set (by omega) _).set (by omega) _
          · exact ((HbW.out.trans (Bw4.mono HbW.out.size)).setCell (p := ⟨w.heap.size + 1, 0, none⟩) (by simp) _).setCell (p := ⟨w.heap.size + 1, 1, none⟩) (by simp) _
end Go.Proofs.Ytkoohmibdaomkaa
