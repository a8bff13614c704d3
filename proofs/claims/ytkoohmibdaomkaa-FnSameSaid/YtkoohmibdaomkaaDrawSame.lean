/- Two drawn states: SameState. Condition: a code of at most 2^20 bytes. -/
import Derived.Test.YtkoohmibdaomkaaDrawPlain
import Derived.Test.YtkoohmibdaomkaaCopy
import Derived.Test.YtkoohmibdaomkaaRowSet
import Derived.Deep.DeepCutAuto
import Derived.Deep.CutBlock
namespace Go.Proofs.Ytkoohmibdaomkaa
open Go.RowKit
set_option linter.unusedVariables false
set_option linter.unusedSimpArgs false

/-- What the draw leaves: two states. -/
def DrawnSt2 (w : World) (e : Ending) (w' : World) : Prop := ∃ v s v2 s2, e = .returned (.tuple #[v, v2]) ∧ StV w' w'.heap.size v s ∧ Sm s 65 4 ∧ StV w' w'.heap.size v2 s2 ∧ Sm s2 65 4 ∧ Below w.heap.size w w'
/-- The two results' boxes are as laid; the two states stand in their boxes, and on rows of the call's own. -/
structure Sd (w0 : World) (base sa sb : Nat) (w : World) (va va' vb vb' : Value) (s t : St) : Prop where
  lb : w0.heap.size + 2 < base
  ba : base ≤ sa
  ab : sa < sb
  bl : sb < w.heap.size
  r0 : w.heap[w0.heap.size]? = some (.cells #[.slice none 0 0, .slice none 0 0] 27 (0, 0))
  r1 : w.heap[w0.heap.size + 1]? = some (.cells #[.slice none 0 0, .slice none 0 0] 27 (0, 0))
  ka : w.heap[sa]? = some (.cells #[va, va'] 27 (0, 0))
  kb : w.heap[sb]? = some (.cells #[vb, vb'] 27 (0, 0))
  oa : OwnN w base (.agg #[va, va']) s
  ob : OwnN w base (.agg #[vb, vb']) t
  cu : Cu TC w (w0.heap.size + 2) (w0.heap.size + 2)
  bw : Below w0.heap.size w0 w
section
variable {w0 w w2 : World} {base sa sb : Nat} {va va' vb vb' : Value} {s t : St}
theorem Sd.turn (h : Sd w0 base sa sb w va va' vb vb' s t) (g : w.grownBy w2 (some (w0.heap.size + 2))) (c : Cu TC w2 (w0.heap.size + 2) (w0.heap.size + 2)) : Sd w0 base sa sb w2 va va' vb vb' s t := by
  have h1 := h.lb; have h2 := h.ba; have h3 := h.ab; have h4 := h.bl
  exact ⟨h.lb, h.ba, h.ab, Nat.lt_of_lt_of_le h.bl g.size, (g.block _ (by omega) (by simp)).trans h.r0, (g.block _ (by omega) (by simp)).trans h.r1, (g.block _ (by omega) (by simp; omega)).trans h.ka, (g.block _ (by omega) (by simp; omega)).trans h.kb, h.oa.kept g h1, h.ob.kept g h1, c, h.bw.trans (below_other g (by omega) (by omega))⟩
theorem Sd.below (h : Sd w0 base sa sb w va va' vb vb' s t) (b : Below w.heap.size w w2) : Sd w0 base sa sb w2 va va' vb vb' s t :=
  h.turn (grown_of_below b _) (h.cu.kept (b.mono (Nat.le_trans h.cu.le (Nat.le_of_lt h.cu.lt))) (b.block _ h.cu.lt))
theorem own_over {w w2 : World} {base blk sb : Nat} {v : Value} {s : St} (h : OwnN w base v s) (hs : w.heap.size ≤ sb) (g : w.grownBy w2 (some blk)) (hb : blk < base) (u0 u1 : Value) :
    OwnN ((w2.setCell ⟨sb, 0, none⟩ u0).setCell ⟨sb, 1, none⟩ u1) base v s := by
  obtain ⟨vi, vt, gi, ci, gt, ct, rfl, hne, hi, ht, oi, ot⟩ := h
  have a1 := oi.2.2.2.1; have a2 := oi.2.2.2.2.1; have b1 := ot.2.2.2.1; have b2 := ot.2.2.2.2.1
  exact ⟨vi, vt, gi, ci, gt, ct, rfl, hne, hi, ht, ((oi.grown g (by omega)).grown (grown_set _ ⟨sb, 0, none⟩ _) (by show gi ≠ sb; omega)).grown (grown_set _ ⟨sb, 1, none⟩ _) (by show gi ≠ sb; omega),
    ((ot.grown g (by omega)).grown (grown_set _ ⟨sb, 0, none⟩ _) (by show gt ≠ sb; omega)).grown (grown_set _ ⟨sb, 1, none⟩ _) (by show gt ≠ sb; omega)⟩
/-- A state of new rows is put into the second box. -/
theorem Sd.store {z0 : World} {u0 u1 : Value} {base' : Nat} {t' : St} (h : Sd w0 base sa sb w va va' vb vb' s t) (hz : z0.heap.size ≤ sb) (oz : OwnN z0 base (.agg #[va, va']) s) (gz : z0.grownBy w (some (w0.heap.size + 2))) (ot : OwnN w base' (.agg #[u0, u1]) t') (hb : sb < base') :
    Sd w0 base sa sb ((w.setCell ⟨sb, 0, none⟩ u0).setCell ⟨sb, 1, none⟩ u1) va va' u0 u1 s t' := by
  have h1 := h.lb; have h2 := h.ba; have h3 := h.ab; have h4 := h.bl
  have g1 := grown_set w ⟨sb, 0, none⟩ u0
  have g2 := grown_set (w.setCell ⟨sb, 0, none⟩ u0) ⟨sb, 1, none⟩ u1
  have far : ∀ j, j < w.heap.size → j ≠ sb → ((w.setCell ⟨sb, 0, none⟩ u0).setCell ⟨sb, 1, none⟩ u1).heap[j]? = w.heap[j]? := fun j hj hn => (g2.block j (Nat.lt_of_lt_of_le hj g1.size) (by simp; omega)).trans (g1.block j hj (by simp; omega))
  have k1 := heap_setCell_same w sb 0 _ _ u0 h.kb
  have k2 := heap_setCell_same _ sb 1 _ _ u1 k1
  refine ⟨h1, h2, h3, Nat.lt_of_lt_of_le h4 (Nat.le_trans g1.size g2.size), (far _ (by omega) (by omega)).trans h.r0, (far _ (by omega) (by omega)).trans h.r1, (far _ (by omega) (by omega)).trans h.ka, ?_, own_over oz hz gz h1 _ _, ((ot.kept g1 hb).kept g2 hb).base (by omega), cu_far (cu_far h.cu g1 (by show _ < sb; omega)) g2 (by show _ < sb; omega), (h.bw.setCell (p := ⟨sb, 0, none⟩) (by show _ ≤ sb; omega) _).setCell (p := ⟨sb, 1, none⟩) (by show _ ≤ sb; omega) _⟩
  simpa using k2
end

set_option maxRecDepth 100000 in
set_option maxHeartbeats 8000000 in
theorem drawSameState_any (a : Option Addr) (len cap : Nat) (zs : List Int) (w : World) (hr : Row8 w w.heap.size a len cap zs) (hl : len ≤ 1048576) :
    Calls Try.prog 34 #[.slice a len cap] w (DrawnSt2 w) := by
  obtain ⟨W, hW⟩ : ∃ W, W = (w.alloc (.cells #[.slice none 0 0, .slice none 0 0] 27)).alloc (.cells #[.slice none 0 0, .slice none 0 0] 27) := ⟨_, rfl⟩
  have hbW : Below w.heap.size w W := by rw [hW]; exact ((Below.refl _ _).alloc (Nat.le_refl _) _).alloc (by simp) _
  have hWs : W.heap.size = w.heap.size + 2 := by rw [hW]; simp
  have kr : W.heap[w.heap.size]? = some (.cells #[.slice none 0 0, .slice none 0 0] 27 (0, 0)) := by rw [hW, Below.heap_alloc _ _ _ (by simp)]; exact heap_new _ _
  have kx : W.heap[w.heap.size + 1]? = some (.cells #[.slice none 0 0, .slice none 0 0] 27 (0, 0)) := by rw [hW]; simpa using heap_new (w.alloc (.cells #[.slice none 0 0, .slice none 0 0] 27)) (.cells #[.slice none 0 0, .slice none 0 0] 27)
  have HRX : Hid (∀ z, Below W.heap.size W z → z.heap[w.heap.size]? = some (.cells #[.slice none 0 0, .slice none 0 0] 27 (0, 0)) ∧ z.heap[w.heap.size + 1]? = some (.cells #[.slice none 0 0, .slice none 0 0] 27 (0, 0))) := Lib.hid (fun z h => ⟨(h.block _ (by omega)).trans kr, (h.block _ (by omega)).trans kx⟩)
  have hc0 := new_any a len cap zs W (hr.later hbW) hl
  rw [hW] at hc0
  have HbW := Lib.hid hbW
  go_enter Try.func34, Try.ntmps34
  go_wp2_with (go_at_call 48; refine hc0.mono ?_; rintro e w1 ⟨rfl, cu, hb⟩; refine Hid.out ?_)
  refine Lib.hid ?_
  rw [← hW] at cu hb
  rw [hWs] at cu
  have LB1 : Hid (W.heap.size < w1.heap.size) := Lib.hid (by have := cu.lt; omega)
  have BW : Hid (Below W.heap.size W w1) := Lib.hid hb
  have HWs := Lib.hid hWs
  have hc1 := odd_any _ _ w1 cu
  clear hc0 hb kr kx hr hbW hWs hW cu
  go_wp2_with (go_at_call 49; refine hc1.mono ?_; rintro e w2 ⟨v, s, rfl, ho, hsm, cu, gr⟩; refine Hid.out ?_)
  refine Lib.hid ?_
  have OS := Lib.hid ho
  obtain ⟨_, _, gi, ci, gt, ct, rfl, _, ⟨ai, rfl, _⟩, ⟨at_, rfl, _⟩, _, _⟩ := ho
  replace BW := Lib.hid (BW.out.trans (below_other gr (by have := HWs.out; omega) BW.out.size))
  have NS : Hid (w1.heap.size ≤ w2.heap.size) := Lib.hid gr.size
  have CU := Lib.hid cu
  clear hc1 gr cu
  obtain ⟨X2, hX2⟩ : ∃ x, x = w2.alloc (.cells #[.slice ai s.items.length ci, .slice at_ s.talks.length ct] 27) := ⟨_, rfl⟩
  have bX : Below w2.heap.size w2 X2 := by rw [hX2]; exact (Below.refl _ _).alloc (Nat.le_refl _) _
  have sX : X2.heap.size = w2.heap.size + 1 := by rw [hX2]; simp
  have KS : Hid (X2.heap[w2.heap.size]? = some (.cells #[.slice ai s.items.length ci, .slice at_ s.talks.length ct] 27 (0, 0))) := Lib.hid (by rw [hX2]; exact heap_new _ _)
  have LS : Hid (w2.heap.size < X2.heap.size) := Lib.hid (by omega)
  replace OS := Lib.hid (OS.out.later bX)
  replace BW := Lib.hid (BW.out.trans (bX.mono BW.out.size))
  replace CU := Lib.hid (CU.out.kept (bX.mono (by have := CU.out.le; have := CU.out.lt; omega)) (bX.block _ CU.out.lt))
  clear bX sX
  have RD : Rd X2 X2.heap.size (.agg #[.slice ai s.items.length ci, .slice at_ s.talks.length ct]) s := OS.out.st.rd
  have hc := spec_copy s _ X2.heap.size X2 RD (Nat.le_refl _) (by have h1 := hsm.1; have h2 := hsm.2.1; unfold Few; omega)
  rw [hX2] at hc
  have f0 := cell_of_row X2 _ 0 _ _ _ KS.out
  have f1 := cell_of_row X2 _ 1 _ _ _ KS.out
  simp only [List.getElem?_toArray, List.getElem?_cons_zero, List.getElem?_cons_succ] at f0 f1
  rw [hX2] at f0 f1
  clear RD
  go_wp2_with (go_at_call 55; refine hc.mono ?_; rintro e w3 ⟨v3, rfl, ho3, hb3⟩; refine Hid.out ?_)
  refine Lib.hid ?_
  rw [← hX2] at ho3 hb3
  have OA := Lib.hid OS.out
  replace OS := Lib.hid (OS.out.later hb3)
  replace KS := Lib.hid ((hb3.block _ LS.out).trans KS.out)
  replace BW := Lib.hid (BW.out.trans (hb3.mono BW.out.size))
  replace CU := Lib.hid (CU.out.kept (hb3.mono (by have := CU.out.le; have := CU.out.lt; omega)) (hb3.block _ CU.out.lt))
  have OB := Lib.hid ho3.n
  obtain ⟨gi3, ci3, gt3, ct3, rfl, _, _, _⟩ := ho3
  obtain ⟨X3, hX3⟩ : ∃ x, x = w3.alloc (.cells #[.slice (some ⟨gi3, 0, none⟩) s.items.length ci3, .slice (some ⟨gt3, 0, none⟩) s.talks.length ct3] 27) := ⟨_, rfl⟩
  have bX : Below w3.heap.size w3 X3 := by rw [hX3]; exact (Below.refl _ _).alloc (Nat.le_refl _) _
  have sX : X3.heap.size = w3.heap.size + 1 := by rw [hX3]; simp
  have SD : Hid (Sd w w1.heap.size w2.heap.size w3.heap.size X3 (.slice ai s.items.length ci) (.slice at_ s.talks.length ct) (.slice (some ⟨gi3, 0, none⟩) s.items.length ci3) (.slice (some ⟨gt3, 0, none⟩) s.talks.length ct3) s s) := Lib.hid (by
    have q1 := LB1.out; have q2 := HWs.out; have q3 := NS.out; have q4 := LS.out; have q5 := hb3.size
    have bw := BW.out.trans (bX.mono BW.out.size)
    have rx := HRX.out _ bw
    exact ⟨by omega, q3, by omega, by omega, rx.1, rx.2, (bX.block _ (by omega)).trans KS.out, by rw [hX3]; exact heap_new _ _, OS.out.later bX, (OB.out.later bX).base (by omega), CU.out.kept (bX.mono (by have := CU.out.le; have := CU.out.lt; omega)) (bX.block _ CU.out.lt), HbW.out.trans (bw.mono (by omega))⟩)
  have GZ : Hid (X2.grownBy X3 (some (w.heap.size + 2))) := Lib.hid ((grown_of_below hb3 _).trans (grown_of_below bX _))
  have HZ : Hid (X2.heap.size ≤ w3.heap.size) := Lib.hid hb3.size
  have hc := below_any 4 (by omega) _ _ X3 SD.out.cu
  rw [hX3] at hc
  clear f0 f1 hX2 bX sX hb3 OB CU BW KS LS OS NS LB1 HWs HRX HbW
  go_wp2_with (go_at_call 68; refine hc.mono ?_; rintro e w4 ⟨q, ⟨hq0, hq1, _⟩, rfl, cu, gr⟩; refine Hid.out ?_)
  refine Lib.hid ?_
  rw [← hX3] at gr
  have hq1 := hq1 (by omega)
  replace SD := Lib.hid (SD.out.turn gr cu)
  replace GZ := Lib.hid (GZ.out.trans gr)
  clear gr cu hX3 hc
  go_upto_block 0 with fail
  go_cut [] (fun wx => ∃ (vb vb' : Value) (t : St), Sm t 65 4 ∧ Hid (Sd w w1.heap.size w2.heap.size w3.heap.size wx (.slice ai s.items.length ci) (.slice at_ s.talks.length ct) vb vb' s t))
  case first =>
    by_cases h0 : q = 0
    · subst h0
      have hc := odd_any _ _ w4 SD.out.cu
      go_wp2_with (go_at_call 49; refine hc.mono ?_; rintro e w5 ⟨v5, t, rfl, ho5, hsm5, cu, gr⟩; refine Hid.out ?_)
      refine Lib.hid ?_
      have OB := Lib.hid ho5
      obtain ⟨_, _, gi5, ci5, gt5, ct5, rfl, _, ⟨ai5, rfl, _⟩, ⟨at5, rfl, _⟩, _, _⟩ := ho5
      have LB := Lib.hid SD.out.bl
      replace SD := Lib.hid (SD.out.turn gr cu)
      replace GZ := Lib.hid (GZ.out.trans gr)
      have gs0 := cell_of_row w5 _ 0 _ _ _ SD.out.kb
      have gs1 := cell_of_row w5 _ 1 _ _ _ SD.out.kb
      have gz0 := frozen_of_row w5 _ 0 _ _ SD.out.kb
      have gz1 := frozen_of_row w5 _ 1 _ _ SD.out.kb
      simp only [List.getElem?_toArray, List.getElem?_cons_zero, List.getElem?_cons_succ] at gs0 gs1
      clear gr cu hc
      go_wp2_with fail
      go_meet
      exact ⟨_, _, t, hsm5.mono (by omega) (by omega), Lib.hid (SD.out.store HZ.out OA.out GZ.out OB.out LB.out)⟩
    · by_cases h1 : q = 1
      · subst h1
        go_wp2_with fail
        refine wp_region_held_drew (S := (fun _ => True)) (by kernel_rfl) trivial (fun hHeld => ?_)
        obtain ⟨zD, hzD⟩ : ∃ z, z = w4.drew := ⟨_, rfl⟩
        rw [← hzD]
        have bzD : Below w4.heap.size w4 zD := by rw [hzD]; exact (Below.refl _ _).drew
        replace SD := Lib.hid (SD.out.below bzD)
        replace GZ := Lib.hid (GZ.out.trans (grown_of_below bzD _))
        clear bzD hzD
        refine wpAnyH_take (i := 1) (v := ?_) rfl (by kernel_rfl) (by kernel_rfl) (by kernel_rfl) (fun _ _ _ h => h) ?_ (by assumption) ?_
        rotate_left
        · first | (refine Or.inl ⟨by rfl, ?_⟩; intro w hSw; go_simp; done) | (refine Or.inl ⟨by rfl, ?_⟩; intro w hSw; go_simp; with_reducible rfl)
        try simp only [List.getElem_toArray, List.getElem_cons_zero, List.getElem_cons_succ, Act.put, List.setIfInBounds_toArray, List.set_cons_zero, List.set_cons_succ]
        refine wpAnyH_take (i := 3) (v := ?_) rfl (by kernel_rfl) (by kernel_rfl) (by kernel_rfl) (fun _ _ _ h => h) ?_ (by assumption) ?_
        rotate_left
        · first | (refine Or.inl ⟨by rfl, ?_⟩; intro w hSw; go_simp; done) | (refine Or.inl ⟨by rfl, ?_⟩; intro w hSw; go_simp; with_reducible rfl)
        try simp only [List.getElem_toArray, List.getElem_cons_zero, List.getElem_cons_succ, Act.put, List.setIfInBounds_toArray, List.set_cons_zero, List.set_cons_succ]
        refine wpAnyH_ready (rs := [0, 2]) (by kernel_rfl) (by simp) ?_
        refine AllReadyH.cons rfl (fun K hK => ?_) (AllReadyH.cons rfl (fun K hK => ?_) (AllReadyH.nil))
        focus
          have f0 := cell_of_row zD _ 0 _ _ _ SD.out.kb
          have f1 := cell_of_row zD _ 1 _ _ _ SD.out.kb
          simp only [List.getElem?_toArray, List.getElem?_cons_zero, List.getElem?_cons_succ] at f0 f1
          go_simp
          clear f0 f1
          refine hK.out _ _ trivial (fun hHeld => ?_)
          clear hK K
          try simp only [List.getElem_toArray, List.getElem_cons_zero, List.getElem_cons_succ, Act.put, List.setIfInBounds_toArray, List.set_cons_zero, List.set_cons_succ]
          refine wpAnyH_ready (rs := [2]) (by kernel_rfl) (by simp) ?_
          refine AllReadyH.cons rfl (fun K hK => ?_) (AllReadyH.nil)
          go_simp
          go_at_call 50
          refine (name_any _ _ zD SD.out.cu).mono ?_
          rintro e y1 ⟨y, hy, rfl, cu, gr⟩
          replace SD := Lib.hid (SD.out.turn gr cu)
          replace GZ := Lib.hid (GZ.out.trans gr)
          clear gr cu
          go_wp2_with fail
          refine hK.out _ _ trivial (fun hHeld => ?_)
          clear hK K
          try simp only [List.getElem_toArray, List.getElem_cons_zero, List.getElem_cons_succ, Act.put, List.setIfInBounds_toArray, List.set_cons_zero, List.set_cons_succ]
          refine wpAnyH_ready (rs := [4]) (by kernel_rfl) (by simp) ?_
          refine AllReadyH.cons rfl (fun K hK => ?_) (AllReadyH.nil)
          go_simp
          go_at_call 52
          refine (value_any _ _ y1 SD.out.cu).mono ?_
          rintro e y2 ⟨x, hx, rfl, cu, gr⟩
          replace SD := Lib.hid (SD.out.turn gr cu)
          replace GZ := Lib.hid (GZ.out.trans gr)
          clear gr cu
          go_wp2_with fail
          refine hK.out _ _ trivial (fun hHeld => ?_)
          clear hK K
          try simp only [List.getElem_toArray, List.getElem_cons_zero, List.getElem_cons_succ, Act.put, List.setIfInBounds_toArray, List.set_cons_zero, List.set_cons_succ]
          refine wpAnyH_take (i := 5) (v := ?_) rfl (by kernel_rfl) (by kernel_rfl) (by kernel_rfl) (fun _ _ _ h => h) ?_ (by assumption) ?_
          rotate_left
          · first | (refine Or.inl ⟨by rfl, ?_⟩; intro w hSw; go_simp; done) | (refine Or.inl ⟨by rfl, ?_⟩; intro w hSw; go_simp; with_reducible rfl)
          try simp only [List.getElem_toArray, List.getElem_cons_zero, List.getElem_cons_succ, Act.put, List.setIfInBounds_toArray, List.set_cons_zero, List.set_cons_succ]
          obtain ⟨zz, rfl⟩ : ∃ z, z = y2 := ⟨_, rfl⟩
        rotate_left 1
        focus
          go_simp
          go_at_call 50
          refine (name_any _ _ zD SD.out.cu).mono ?_
          rintro e y3 ⟨y, hy, rfl, cu, gr⟩
          replace SD := Lib.hid (SD.out.turn gr cu)
          replace GZ := Lib.hid (GZ.out.trans gr)
          clear gr cu
          go_wp2_with fail
          refine hK.out _ _ trivial (fun hHeld => ?_)
          clear hK K
          try simp only [List.getElem_toArray, List.getElem_cons_zero, List.getElem_cons_succ, Act.put, List.setIfInBounds_toArray, List.set_cons_zero, List.set_cons_succ]
          refine wpAnyH_ready (rs := [0, 4]) (by kernel_rfl) (by simp) ?_
          refine AllReadyH.cons rfl (fun K hK => ?_) (AllReadyH.cons rfl (fun K hK => ?_) (AllReadyH.nil))
          focus
            have f0 := cell_of_row y3 _ 0 _ _ _ SD.out.kb
            have f1 := cell_of_row y3 _ 1 _ _ _ SD.out.kb
            simp only [List.getElem?_toArray, List.getElem?_cons_zero, List.getElem?_cons_succ] at f0 f1
            go_simp
            clear f0 f1
            refine hK.out _ _ trivial (fun hHeld => ?_)
            clear hK K
            try simp only [List.getElem_toArray, List.getElem_cons_zero, List.getElem_cons_succ, Act.put, List.setIfInBounds_toArray, List.set_cons_zero, List.set_cons_succ]
            refine wpAnyH_ready (rs := [4]) (by kernel_rfl) (by simp) ?_
            refine AllReadyH.cons rfl (fun K hK => ?_) (AllReadyH.nil)
            go_simp
            go_at_call 52
            refine (value_any _ _ y3 SD.out.cu).mono ?_
            rintro e y4 ⟨x, hx, rfl, cu, gr⟩
            replace SD := Lib.hid (SD.out.turn gr cu)
            replace GZ := Lib.hid (GZ.out.trans gr)
            clear gr cu
            go_wp2_with fail
            refine hK.out _ _ trivial (fun hHeld => ?_)
            clear hK K
            try simp only [List.getElem_toArray, List.getElem_cons_zero, List.getElem_cons_succ, Act.put, List.setIfInBounds_toArray, List.set_cons_zero, List.set_cons_succ]
            refine wpAnyH_take (i := 5) (v := ?_) rfl (by kernel_rfl) (by kernel_rfl) (by kernel_rfl) (fun _ _ _ h => h) ?_ (by assumption) ?_
            rotate_left
            · first | (refine Or.inl ⟨by rfl, ?_⟩; intro w hSw; go_simp; done) | (refine Or.inl ⟨by rfl, ?_⟩; intro w hSw; go_simp; with_reducible rfl)
            try simp only [List.getElem_toArray, List.getElem_cons_zero, List.getElem_cons_succ, Act.put, List.setIfInBounds_toArray, List.set_cons_zero, List.set_cons_succ]
            obtain ⟨zz, rfl⟩ : ∃ z, z = y4 := ⟨_, rfl⟩
          rotate_left 1
          focus
            go_simp
            go_at_call 52
            refine (value_any _ _ y3 SD.out.cu).mono ?_
            rintro e y5 ⟨x, hx, rfl, cu, gr⟩
            replace SD := Lib.hid (SD.out.turn gr cu)
            replace GZ := Lib.hid (GZ.out.trans gr)
            clear gr cu
            go_wp2_with fail
            refine hK.out _ _ trivial (fun hHeld => ?_)
            clear hK K
            try simp only [List.getElem_toArray, List.getElem_cons_zero, List.getElem_cons_succ, Act.put, List.setIfInBounds_toArray, List.set_cons_zero, List.set_cons_succ]
            refine wpAnyH_take (i := 5) (v := ?_) rfl (by kernel_rfl) (by kernel_rfl) (by kernel_rfl) (fun _ _ _ h => h) ?_ (by assumption) ?_
            rotate_left
            · first | (refine Or.inl ⟨by rfl, ?_⟩; intro w hSw; go_simp; done) | (refine Or.inl ⟨by rfl, ?_⟩; intro w hSw; go_simp; with_reducible rfl)
            try simp only [List.getElem_toArray, List.getElem_cons_zero, List.getElem_cons_succ, Act.put, List.setIfInBounds_toArray, List.set_cons_zero, List.set_cons_succ]
            refine wpAnyH_ready (rs := [0]) (by kernel_rfl) (by simp) ?_
            refine AllReadyH.cons rfl (fun K hK => ?_) (AllReadyH.nil)
            have f0 := cell_of_row y5 _ 0 _ _ _ SD.out.kb
            have f1 := cell_of_row y5 _ 1 _ _ _ SD.out.kb
            simp only [List.getElem?_toArray, List.getElem?_cons_zero, List.getElem?_cons_succ] at f0 f1
            go_simp
            clear f0 f1
            refine hK.out _ _ trivial (fun hHeld => ?_)
            clear hK K
            try simp only [List.getElem_toArray, List.getElem_cons_zero, List.getElem_cons_succ, Act.put, List.setIfInBounds_toArray, List.set_cons_zero, List.set_cons_succ]
            obtain ⟨zz, rfl⟩ : ∃ z, z = y5 := ⟨_, rfl⟩
        all_goals (
          refine wpAnyH_ready (rs := [6]) (by kernel_rfl) (by simp) ?_
          refine AllReadyH.cons rfl (fun K hK => ?_) (AllReadyH.nil)
          go_simp
          go_at_call 18
          have hx : (⟨y, x⟩ : It).k.size ≤ 64 ∧ (⟨y, x⟩ : It).v.size ≤ 64 := ⟨by show y.size ≤ 64; omega, hx⟩
          refine (spec_putItemAny s _ ⟨y, x⟩ zz.heap.size zz SD.out.ob.st (Nat.le_refl _) (by have := hsm.1; omega) (hsm.few (by omega) (by omega)) hsm.fits ⟨by unfold maxLen; show y.size ≤ _; omega, by unfold maxLen; show x.size ≤ _; omega⟩).mono ?_
          rintro e z9 ⟨v9, rfl, o9, b9⟩
          have LB := Lib.hid SD.out.bl
          have OB := Lib.hid o9.n
          obtain ⟨r, hr⟩ : ∃ r, r = chg s (putSI s ⟨y, x⟩) := ⟨_, rfl⟩
          have hsr : Sm r 65 4 := by rw [hr]; exact hsm.putI hx
          rw [← hr] at o9 OB
          obtain ⟨gi9, ci9, gt9, ct9, rfl, _⟩ := o9
          replace SD := Lib.hid (SD.out.below b9)
          replace GZ := Lib.hid (GZ.out.trans (grown_of_below b9 _))
          clear b9 hr hx
          go_wp2_with fail
          refine hK.out _ _ trivial (fun hHeld => ?_)
          clear hK K
          try simp only [List.getElem_toArray, List.getElem_cons_zero, List.getElem_cons_succ, Act.put, List.setIfInBounds_toArray, List.set_cons_zero, List.set_cons_succ]
          refine wpAnyH_take (i := 7) (v := ?_) rfl (by kernel_rfl) (by kernel_rfl) (by kernel_rfl) (fun _ _ _ h => h) ?_ (by assumption) ?_
          rotate_left
          · first | (refine Or.inl ⟨by rfl, ?_⟩; intro w hSw; go_simp; done) | (refine Or.inl ⟨by rfl, ?_⟩; intro w hSw; go_simp; with_reducible rfl)
          try simp only [List.getElem_toArray, List.getElem_cons_zero, List.getElem_cons_succ, Act.put, List.setIfInBounds_toArray, List.set_cons_zero, List.set_cons_succ]
          refine wpAnyH_take (i := 8) (v := ?_) rfl (by kernel_rfl) (by kernel_rfl) (by kernel_rfl) (fun _ _ _ h => h) ?_ (by assumption) ?_
          rotate_left
          · first | (refine Or.inl ⟨by rfl, ?_⟩; intro w hSw; go_simp; done) | (refine Or.inl ⟨by rfl, ?_⟩; intro w hSw; go_simp; with_reducible rfl)
          try simp only [List.getElem_toArray, List.getElem_cons_zero, List.getElem_cons_succ, Act.put, List.setIfInBounds_toArray, List.set_cons_zero, List.set_cons_succ]
          refine wpAnyH_take (i := 9) (v := ?_) rfl (by kernel_rfl) (by kernel_rfl) (by kernel_rfl) (fun _ _ _ h => h) ?_ (by assumption) ?_
          rotate_left
          · first | (refine Or.inl ⟨by rfl, ?_⟩; intro w hSw; go_simp; done) | (refine Or.inl ⟨by rfl, ?_⟩; intro w hSw; go_simp; with_reducible rfl)
          try simp only [List.getElem_toArray, List.getElem_cons_zero, List.getElem_cons_succ, Act.put, List.setIfInBounds_toArray, List.set_cons_zero, List.set_cons_succ]
          refine wpAnyH_ready (rs := [10]) (by kernel_rfl) (by simp) ?_
          refine AllReadyH.cons rfl (fun K hK => ?_) (AllReadyH.nil)
          have gs0 := cell_of_row z9 _ 0 _ _ _ SD.out.kb
          have gs1 := cell_of_row z9 _ 1 _ _ _ SD.out.kb
          have gz0 := frozen_of_row z9 _ 0 _ _ SD.out.kb
          have gz1 := frozen_of_row z9 _ 1 _ _ SD.out.kb
          simp only [List.getElem?_toArray, List.getElem?_cons_zero, List.getElem?_cons_succ] at gs0 gs1
          go_simp
          clear gs0 gs1 gz0 gz1
          refine hK.out _ _ trivial (fun hHeld => ?_)
          clear hK K
          try simp only [List.getElem_toArray, List.getElem_cons_zero, List.getElem_cons_succ, Act.put, List.setIfInBounds_toArray, List.set_cons_zero, List.set_cons_succ]
          refine wpAnyH_done (by kernel_rfl) ?_ _
          clear hHeld
          go_wp2_with fail
          go_meet
          exact ⟨_, _, r, hsr, Lib.hid (SD.out.store HZ.out OA.out GZ.out OB.out LB.out)⟩)
      · have e0 : (q == 0) = false := by simpa using h0
        have e1 : (q == 1) = false := by simpa using h1
        go_wp2_with fail
        go_meet
        exact ⟨_, _, s, hsm.mono (by omega) (by omega), SD⟩
  case rest =>
    obtain ⟨vb, vb', t, hst, SD⟩ := hcut
    obtain ⟨z, rfl⟩ : ∃ z, z = wc := ⟨_, rfl⟩
    have HOB := SD.out.ob
    obtain ⟨vi, vt, g6, c6, g7, c7, hv, _, ⟨a6, hv6, _⟩, ⟨a7, hv7, _⟩, _, _⟩ := HOB
    obtain ⟨rfl, rfl⟩ : vb = vi ∧ vb' = vt := by simpa using hv
    clear hv
    subst hv6
    subst hv7
    obtain ⟨zD, hzD⟩ : ∃ x, x = z.drew := ⟨_, rfl⟩
    have bzD : Below z.heap.size z zD := by rw [hzD]; exact (Below.refl _ _).drew
    replace SD := Lib.hid (SD.out.below bzD)
    have HNa0 : Hid (w.heap.size ≠ w2.heap.size) := Lib.hid (by have h1 := SD.out.lb; have h2 := SD.out.ba; omega)
    have HNa1 : Hid (w.heap.size + 1 ≠ w2.heap.size) := Lib.hid (by have h1 := SD.out.lb; have h2 := SD.out.ba; omega)
    have HNb0 : Hid (w.heap.size ≠ w3.heap.size) := Lib.hid (by have h1 := SD.out.lb; have h2 := SD.out.ba; have h3 := SD.out.ab; omega)
    have HNb1 : Hid (w.heap.size + 1 ≠ w3.heap.size) := Lib.hid (by have h1 := SD.out.lb; have h2 := SD.out.ba; have h3 := SD.out.ab; omega)
    have fa0 : zD.cell? ⟨w2.heap.size, 0, none⟩ = some (.slice ai s.items.length ci) := by simpa using cell_of_row zD _ 0 _ _ _ SD.out.ka
    have fa1 : zD.cell? ⟨w2.heap.size, 1, none⟩ = some (.slice at_ s.talks.length ct) := by simpa using cell_of_row zD _ 1 _ _ _ SD.out.ka
    have fb0 : zD.cell? ⟨w3.heap.size, 0, none⟩ = some (.slice a6 t.items.length c6) := by simpa using cell_of_row zD _ 0 _ _ _ SD.out.kb
    have fb1 : zD.cell? ⟨w3.heap.size, 1, none⟩ = some (.slice a7 t.talks.length c7) := by simpa using cell_of_row zD _ 1 _ _ _ SD.out.kb
    go_wp2_with fail
    refine wp_region_held_drew (S := (fun w' => w'.cell? ⟨w2.heap.size, 0, none⟩ = some (.slice ai s.items.length ci) ∧ w'.cell? ⟨w2.heap.size, 1, none⟩ = some (.slice at_ s.talks.length ct) ∧ w'.cell? ⟨w3.heap.size, 0, none⟩ = some (.slice a6 t.items.length c6) ∧ w'.cell? ⟨w3.heap.size, 1, none⟩ = some (.slice a7 t.talks.length c7))) (by kernel_rfl) (by rw [hzD] at fa0 fa1 fb0 fb1; exact ⟨fa0, fa1, fb0, fb1⟩) (fun hHeld => ?_)
    rw [← hzD] at hHeld
    rw [← hzD]
    clear hzD bzD
    refine wpAnyH_take (i := 0) (v := ?_) rfl (by kernel_rfl) (by kernel_rfl) (by kernel_rfl) (fun _ _ _ h => h) ?_ (by assumption) ?_
    rotate_left
    · first | (refine Or.inl ⟨by rfl, ?_⟩; intro w hSw; obtain ⟨hS0, hS1, hS2, hS3⟩ := hSw; go_simp; done) | (refine Or.inl ⟨by rfl, ?_⟩; intro w hSw; obtain ⟨hS0, hS1, hS2, hS3⟩ := hSw; go_simp; with_reducible rfl)
    try simp only [List.getElem_toArray, List.getElem_cons_zero, List.getElem_cons_succ, Act.put, List.setIfInBounds_toArray, List.set_cons_zero, List.set_cons_succ]
    refine wpAnyH_take (i := 1) (v := ?_) rfl (by kernel_rfl) (by kernel_rfl) (by kernel_rfl) (fun _ _ _ h => h) ?_ (by assumption) ?_
    rotate_left
    · first | (refine Or.inl ⟨by rfl, ?_⟩; intro w hSw; obtain ⟨hS0, hS1, hS2, hS3⟩ := hSw; go_simp; done) | (refine Or.inl ⟨by rfl, ?_⟩; intro w hSw; obtain ⟨hS0, hS1, hS2, hS3⟩ := hSw; go_simp; with_reducible rfl)
    try simp only [List.getElem_toArray, List.getElem_cons_zero, List.getElem_cons_succ, Act.put, List.setIfInBounds_toArray, List.set_cons_zero, List.set_cons_succ]
    have r0 := cell_of_row zD _ 0 _ _ _ SD.out.r0
    have r1 := cell_of_row zD _ 1 _ _ _ SD.out.r0
    have rf0 := frozen_of_row zD _ 0 _ _ SD.out.r0
    have rf1 := frozen_of_row zD _ 1 _ _ SD.out.r0
    have x0 := cell_of_row zD _ 0 _ _ _ SD.out.r1
    have x1 := cell_of_row zD _ 1 _ _ _ SD.out.r1
    have xf0 := frozen_of_row zD _ 0 _ _ SD.out.r1
    have xf1 := frozen_of_row zD _ 1 _ _ SD.out.r1
    simp only [List.getElem?_toArray, List.getElem?_cons_zero, List.getElem?_cons_succ] at r0 r1 x0 x1
    refine wpAnyH_ready (rs := [2]) (by kernel_rfl) (by simp) ?_
    refine AllReadyH.cons rfl (fun K hK => ?_) AllReadyH.nil
    go_simp
    refine hK.out _ _ (show _ from ⟨(cell_far (cell_far (show zD.cell? ⟨w2.heap.size, 0, none⟩ = some (.slice ai s.items.length ci) from fa0) (show w.heap.size ≠ w2.heap.size from HNa0.out)) (show w.heap.size ≠ w2.heap.size from HNa0.out)), (cell_far (cell_far (show zD.cell? ⟨w2.heap.size, 1, none⟩ = some (.slice at_ s.talks.length ct) from fa1) (show w.heap.size ≠ w2.heap.size from HNa0.out)) (show w.heap.size ≠ w2.heap.size from HNa0.out)), (cell_far (cell_far (show zD.cell? ⟨w3.heap.size, 0, none⟩ = some (.slice a6 t.items.length c6) from fb0) (show w.heap.size ≠ w3.heap.size from HNb0.out)) (show w.heap.size ≠ w3.heap.size from HNb0.out)), (cell_far (cell_far (show zD.cell? ⟨w3.heap.size, 1, none⟩ = some (.slice a7 t.talks.length c7) from fb1) (show w.heap.size ≠ w3.heap.size from HNb0.out)) (show w.heap.size ≠ w3.heap.size from HNb0.out))⟩) (fun hHeld => ?_)
    clear hK K
    try simp only [List.getElem_toArray, List.getElem_cons_zero, List.getElem_cons_succ, Act.put, List.setIfInBounds_toArray, List.set_cons_zero, List.set_cons_succ]
    refine wpAnyH_ready (rs := [3]) (by kernel_rfl) (by simp) ?_
    refine AllReadyH.cons rfl (fun K hK => ?_) AllReadyH.nil
    go_simp
    refine hK.out _ _ (show _ from ⟨(cell_far (cell_far (cell_far (cell_far (show zD.cell? ⟨w2.heap.size, 0, none⟩ = some (.slice ai s.items.length ci) from fa0) (show w.heap.size ≠ w2.heap.size from HNa0.out)) (show w.heap.size ≠ w2.heap.size from HNa0.out)) (show w.heap.size + 1 ≠ w2.heap.size from HNa1.out)) (show w.heap.size + 1 ≠ w2.heap.size from HNa1.out)), (cell_far (cell_far (cell_far (cell_far (show zD.cell? ⟨w2.heap.size, 1, none⟩ = some (.slice at_ s.talks.length ct) from fa1) (show w.heap.size ≠ w2.heap.size from HNa0.out)) (show w.heap.size ≠ w2.heap.size from HNa0.out)) (show w.heap.size + 1 ≠ w2.heap.size from HNa1.out)) (show w.heap.size + 1 ≠ w2.heap.size from HNa1.out)), (cell_far (cell_far (cell_far (cell_far (show zD.cell? ⟨w3.heap.size, 0, none⟩ = some (.slice a6 t.items.length c6) from fb0) (show w.heap.size ≠ w3.heap.size from HNb0.out)) (show w.heap.size ≠ w3.heap.size from HNb0.out)) (show w.heap.size + 1 ≠ w3.heap.size from HNb1.out)) (show w.heap.size + 1 ≠ w3.heap.size from HNb1.out)), (cell_far (cell_far (cell_far (cell_far (show zD.cell? ⟨w3.heap.size, 1, none⟩ = some (.slice a7 t.talks.length c7) from fb1) (show w.heap.size ≠ w3.heap.size from HNb0.out)) (show w.heap.size ≠ w3.heap.size from HNb0.out)) (show w.heap.size + 1 ≠ w3.heap.size from HNb1.out)) (show w.heap.size + 1 ≠ w3.heap.size from HNb1.out))⟩) (fun hHeld => ?_)
    clear hK K
    try simp only [List.getElem_toArray, List.getElem_cons_zero, List.getElem_cons_succ, Act.put, List.setIfInBounds_toArray, List.set_cons_zero, List.set_cons_succ]
    refine wpAnyH_done (by kernel_rfl) ?_ _
    clear hHeld r0 r1 rf0 rf1 x0 x1 xf0 xf1 fa0 fa1 fb0 fb1
    go_wp2_with fail
    obtain ⟨Y, hY, y1, y2, y3⟩ := two_boxes2 zD w.heap.size (w.heap.size + 1) _ _ _ _ _ _ SD.out.r0 SD.out.r1 (by omega) (.slice ai s.items.length ci) (.slice at_ s.talks.length ct) (.slice a6 t.items.length c6) (.slice a7 t.talks.length c7)
    rw [← hY]
    obtain ⟨j0, q1, q2, q3, q4⟩ := info_parts infoSt
    have hb := SD.out.lb
    refine bodyPost_ret (results_cells2 (P := Try.prog) rfl _ _ (w.heap.size) (w.heap.size + 1) _ _ _ _ (0, 0) (0, 0) _ _ rfl rfl y1 y2 Try.underlying27 rfl (by rw [q1]; simp [q3]) Try.underlying27 rfl (by rw [q1]; simp [q3])) rfl ⟨_, s, _, t, rfl, ?_, hsm.mono (by omega) (by omega), ?_, hst, ?_⟩
    · exact (y3 _ (by omega) SD.out.oa).st
    · exact (y3 _ (by omega) SD.out.ob).st
    · rw [hY]
      exact (((SD.out.bw.setCell (p := ⟨w.heap.size, 0, none⟩) (Nat.le_refl _) _).setCell (p := ⟨w.heap.size, 1, none⟩) (Nat.le_refl _) _).setCell (p := ⟨w.heap.size + 1, 0, none⟩) (Nat.le_succ _) _).setCell (p := ⟨w.heap.size + 1, 1, none⟩) (Nat.le_succ _) _
end Go.Proofs.Ytkoohmibdaomkaa
