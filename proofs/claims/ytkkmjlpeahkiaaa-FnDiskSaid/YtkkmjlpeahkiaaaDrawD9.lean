/- What is drawn for the laws of stage 9. Condition: a code of at most 2^20 bytes. -/
import Derived.Test.YtkkmjlpeahkiaaaTk
import Derived.Test.YtkkmjlpeahkiaaaDrawOdd9
namespace Go.Proofs.Ytkkmjlpeahkiaaa
open Go.RowKit
set_option linter.unusedVariables false
set_option linter.unusedSimpArgs false

set_option maxRecDepth 100000 in
set_option maxHeartbeats 8000000 in
theorem d9DrawAppend (a : Option Addr) (len cap : Nat) (zs : List Int) (w : World) (hr : Row8 w w.heap.size a len cap zs) (hl : len ≤ 1048576) :
    Calls Try.prog 42 #[.slice a len cap] w fun e w' => ∃ d y, e = .returned (.tuple #[dskV d, .string y]) ∧ OddD d ∧ y.size ≤ 32 ∧ Below w.heap.size w w' := by
  obtain ⟨W, hW⟩ : ∃ W, W = w.alloc (.cells #[.int .i64 0, .string ⟨#[]⟩, .string ⟨#[]⟩, .string ⟨#[]⟩] 26) := ⟨_, rfl⟩
  have bW : Below w.heap.size w W := by rw [hW]; exact (Below.refl _ _).alloc (Nat.le_refl _) _
  have KR : Hid (W.heap[w.heap.size]? = some (.cells #[.int .i64 0, .string ⟨#[]⟩, .string ⟨#[]⟩, .string ⟨#[]⟩] 26 (0, 0))) := Lib.hid (by rw [hW]; exact heap_new _ _)
  have LR : Hid (w.heap.size < W.heap.size) := Lib.hid (by rw [hW]; simp)
  have hWs : W.heap.size = w.heap.size + 1 := by rw [hW]; simp
  have hc := new_any a len cap zs W (hr.later bW) hl
  rw [hWs] at hc
  have HW := Lib.hid hWs
  clear hWs
  rw [hW] at hc
  have BB := Lib.hid bW
  clear hr bW
  go_enter Try.func42, Try.ntmps42
  go_wp2_with (go_at_call 65; refine hc.mono ?_; rintro e w1 ⟨rfl, cu, hb⟩; refine Hid.out ?_)
  refine Lib.hid ?_
  rw [← hW] at hb
  clear hc hW
  have hb2 : Below W.heap.size W w1 := by rw [HW.out]; exact hb
  replace KR := tkb hb2 LR KR
  replace LR := tlz LR hb2.size
  replace BB := tbt BB hb2
  have CU := Lib.hid cu
  clear hb hb2 cu HW
  have hc := odd9_any _ _ _ CU.out
  go_wp2_with (go_at_call 66; refine hc.mono ?_; rintro e w2 ⟨d, rfl, hodd, cu, gr⟩; refine Hid.out ?_)
  refine Lib.hid ?_
  have HLT := Lib.hid CU.out.lt
  replace KR := tkg gr LR KR (by simp)
  replace LR := tlz LR gr.size
  replace BB := Lib.hid (BB.out.grown gr BB.out.size (fun j e => by cases e; omega))
  have HG := Lib.hid gr.size
  have CU2 := Lib.hid cu
  have HODD := Lib.hid hodd
  clear hc gr cu CU hodd
  obtain ⟨o, s, t, u⟩ := d
  unfold dskV
  dsimp only
  obtain ⟨X, hX⟩ : ∃ z, z = w2.alloc (.cells #[.int .i64 o, .string s, .string t, .string u] 26) := ⟨_, rfl⟩
  have H1 : Hid (DX w X w2.heap.size ⟨o, s, t, u⟩) := Lib.hid (by
    have h1 := HLT.out
    have h2 := HG.out
    have bX : Below w2.heap.size w2 X := by rw [hX]; exact (Below.refl _ _).alloc (Nat.le_refl _) _
    exact ⟨cu_below CU2.out bX, BB.out.trans (bX.mono BB.out.size), (bX.block _ LR.out).trans KR.out, by rw [hX]; exact heap_new _ _, by omega⟩)
  clear KR LR BB CU2 HLT HG
  go_wp2_with fail
  rw [← hX]
  obtain ⟨g, hg⟩ : ∃ g, g = w2.heap.size := ⟨_, rfl⟩
  rw [← hg] at H1 ⊢
  clear hX hg
  refine wp_region_held_drew (S := (fun w' => w'.heap[g]? = some (.cells #[.int .i64 o, .string s, .string t, .string u] 26 (0, 0)))) (by kernel_rfl) H1.out.kd (fun hHeld => ?_)
  obtain ⟨z0, hz0⟩ : ∃ zz, zz = X.drew := ⟨_, rfl⟩
  rw [← hz0] at hHeld ⊢
  replace H1 := Lib.hid (H1.out.below (w2 := z0) (by rw [hz0]; exact (Below.refl _ _).drew))
  clear hz0
  refine tk 0 (v := ?_) ?_ ?_; rotate_left
  · refine Or.inl ⟨by rfl, ?_⟩; intro w hSw; have K := Lib.hid hSw; have f0 := tcr K 0; have f1 := tcr K 1; have f2 := tcr K 2; have f3 := tcr K 3; go_simp; first | done | with_reducible rfl
  refine tk0 1 ?_
  refine tk0 2 ?_
  refine rd1 3 (fun K hK => ?_)
  go_simp
  have hc := below_any 20 (by omega) _ _ _ H1.out.cu
  go_at_call 68
  refine hc.mono ?_
  rintro e w3 ⟨x, ⟨hx0, hx1, _⟩, rfl, cu, gr⟩
  replace H1 := Lib.hid (H1.out.turn gr cu)
  have hx1 := hx1 (by omega)
  obtain ⟨x, rfl⟩ := Int.eq_ofNat_of_zero_le hx0
  clear hc gr cu
  go_wp2_with fail
  refine hK.out _ _ H1.out.kd (fun hHeld => ?_)
  clear hK K
  refine rd1 4 (fun K hK => ?_)
  go_simp
  have hc := text_any x (by omega) _ _ _ H1.out.cu
  go_at_call 67
  refine hc.mono ?_
  rintro e w4 ⟨y, hy, rfl, cu, gr⟩
  replace H1 := Lib.hid (H1.out.turn gr cu)
  clear hc gr cu
  go_wp2_with fail
  refine hK.out _ _ H1.out.kd (fun hHeld => ?_)
  clear hK K
  try simp only [List.getElem_toArray, List.getElem_cons_zero, List.getElem_cons_succ, Act.put, List.setIfInBounds_toArray, List.set_cons_zero, List.set_cons_succ]
  refine rd1 5 (fun K hK => ?_)
  obtain ⟨⟨r0, r1, r2, r3⟩, p0, p1, p2, p3⟩ := H1.out.fr
  go_simp
  clear r0 r1 r2 r3 p0 p1 p2 p3
  obtain ⟨g1, g2⟩ := H1.out.ret
  have hkd := H1.out.kd
  have hgg := H1.out.hg
  refine hK.out _ _ (otherD (otherD (otherD (otherD hkd (by omega)) (by omega)) (by omega)) (by omega)) (fun hHeld => ?_)
  clear hK K hkd hgg
  try simp only [List.getElem_toArray, List.getElem_cons_zero, List.getElem_cons_succ, Act.put, List.setIfInBounds_toArray, List.set_cons_zero, List.set_cons_succ]
  refine tk0 6 ?_
  refine wpAnyH_done (by kernel_rfl) ?_ _
  clear hHeld
  have G1 := Lib.hid g1
  have G2 := Lib.hid g2
  clear g1 g2
  go_wp2_with fail
  obtain ⟨j0, q1, q2, q3, q4⟩ := info_parts infoDsk
  refine bodyPost_ret (results_cellD (P := Try.prog) rfl _ _ w.heap.size _ _ (0, 0) _ _ rfl rfl G1.out Try.underlying26 rfl (by rw [q1]; simp [q3])) rfl ⟨⟨o, s, t, u⟩, _, rfl, HODD.out, by omega, G2.out⟩
set_option maxRecDepth 100000 in
set_option maxHeartbeats 8000000 in
theorem d9DrawInstall (a : Option Addr) (len cap : Nat) (zs : List Int) (w : World) (hr : Row8 w w.heap.size a len cap zs) (hl : len ≤ 1048576) :
    Calls Try.prog 52 #[.slice a len cap] w fun e w' => ∃ d y, e = .returned (.tuple #[dskV d, .string y]) ∧ OddD d ∧ y.size ≤ 32 ∧ Below w.heap.size w w' := by
  obtain ⟨W, hW⟩ : ∃ W, W = w.alloc (.cells #[.int .i64 0, .string ⟨#[]⟩, .string ⟨#[]⟩, .string ⟨#[]⟩] 26) := ⟨_, rfl⟩
  have bW : Below w.heap.size w W := by rw [hW]; exact (Below.refl _ _).alloc (Nat.le_refl _) _
  have KR : Hid (W.heap[w.heap.size]? = some (.cells #[.int .i64 0, .string ⟨#[]⟩, .string ⟨#[]⟩, .string ⟨#[]⟩] 26 (0, 0))) := Lib.hid (by rw [hW]; exact heap_new _ _)
  have LR : Hid (w.heap.size < W.heap.size) := Lib.hid (by rw [hW]; simp)
  have hWs : W.heap.size = w.heap.size + 1 := by rw [hW]; simp
  have hc := new_any a len cap zs W (hr.later bW) hl
  rw [hWs] at hc
  have HW := Lib.hid hWs
  clear hWs
  rw [hW] at hc
  have BB := Lib.hid bW
  clear hr bW
  go_enter Try.func52, Try.ntmps52
  go_wp2_with (go_at_call 65; refine hc.mono ?_; rintro e w1 ⟨rfl, cu, hb⟩; refine Hid.out ?_)
  refine Lib.hid ?_
  rw [← hW] at hb
  clear hc hW
  have hb2 : Below W.heap.size W w1 := by rw [HW.out]; exact hb
  replace KR := tkb hb2 LR KR
  replace LR := tlz LR hb2.size
  replace BB := tbt BB hb2
  have CU := Lib.hid cu
  clear hb hb2 cu HW
  have hc := odd9_any _ _ _ CU.out
  go_wp2_with (go_at_call 66; refine hc.mono ?_; rintro e w2 ⟨d, rfl, hodd, cu, gr⟩; refine Hid.out ?_)
  refine Lib.hid ?_
  have HLT := Lib.hid CU.out.lt
  replace KR := tkg gr LR KR (by simp)
  replace LR := tlz LR gr.size
  replace BB := Lib.hid (BB.out.grown gr BB.out.size (fun j e => by cases e; omega))
  have HG := Lib.hid gr.size
  have CU2 := Lib.hid cu
  have HODD := Lib.hid hodd
  clear hc gr cu CU hodd
  obtain ⟨o, s, t, u⟩ := d
  unfold dskV
  dsimp only
  obtain ⟨X, hX⟩ : ∃ z, z = w2.alloc (.cells #[.int .i64 o, .string s, .string t, .string u] 26) := ⟨_, rfl⟩
  have H1 : Hid (DX w X w2.heap.size ⟨o, s, t, u⟩) := Lib.hid (by
    have h1 := HLT.out
    have h2 := HG.out
    have bX : Below w2.heap.size w2 X := by rw [hX]; exact (Below.refl _ _).alloc (Nat.le_refl _) _
    exact ⟨cu_below CU2.out bX, BB.out.trans (bX.mono BB.out.size), (bX.block _ LR.out).trans KR.out, by rw [hX]; exact heap_new _ _, by omega⟩)
  clear KR LR BB CU2 HLT HG
  go_wp2_with fail
  rw [← hX]
  obtain ⟨g, hg⟩ : ∃ g, g = w2.heap.size := ⟨_, rfl⟩
  rw [← hg] at H1 ⊢
  clear hX hg
  refine wp_region_held_drew (S := (fun w' => w'.heap[g]? = some (.cells #[.int .i64 o, .string s, .string t, .string u] 26 (0, 0)))) (by kernel_rfl) H1.out.kd (fun hHeld => ?_)
  obtain ⟨z0, hz0⟩ : ∃ zz, zz = X.drew := ⟨_, rfl⟩
  rw [← hz0] at hHeld ⊢
  replace H1 := Lib.hid (H1.out.below (w2 := z0) (by rw [hz0]; exact (Below.refl _ _).drew))
  clear hz0
  refine tk 0 (v := ?_) ?_ ?_; rotate_left
  · refine Or.inl ⟨by rfl, ?_⟩; intro w hSw; have K := Lib.hid hSw; have f0 := tcr K 0; have f1 := tcr K 1; have f2 := tcr K 2; have f3 := tcr K 3; go_simp; first | done | with_reducible rfl
  refine tk0 1 ?_
  refine tk0 2 ?_
  refine rd1 3 (fun K hK => ?_)
  go_simp
  have hc := below_any 30 (by omega) _ _ _ H1.out.cu
  go_at_call 68
  refine hc.mono ?_
  rintro e w3 ⟨x, ⟨hx0, hx1, _⟩, rfl, cu, gr⟩
  replace H1 := Lib.hid (H1.out.turn gr cu)
  have hx1 := hx1 (by omega)
  obtain ⟨x, rfl⟩ := Int.eq_ofNat_of_zero_le hx0
  clear hc gr cu
  go_wp2_with fail
  refine hK.out _ _ H1.out.kd (fun hHeld => ?_)
  clear hK K
  refine rd1 4 (fun K hK => ?_)
  go_simp
  have hc := text_any x (by omega) _ _ _ H1.out.cu
  go_at_call 67
  refine hc.mono ?_
  rintro e w4 ⟨y, hy, rfl, cu, gr⟩
  replace H1 := Lib.hid (H1.out.turn gr cu)
  clear hc gr cu
  go_wp2_with fail
  refine hK.out _ _ H1.out.kd (fun hHeld => ?_)
  clear hK K
  try simp only [List.getElem_toArray, List.getElem_cons_zero, List.getElem_cons_succ, Act.put, List.setIfInBounds_toArray, List.set_cons_zero, List.set_cons_succ]
  refine rd1 5 (fun K hK => ?_)
  obtain ⟨⟨r0, r1, r2, r3⟩, p0, p1, p2, p3⟩ := H1.out.fr
  go_simp
  clear r0 r1 r2 r3 p0 p1 p2 p3
  obtain ⟨g1, g2⟩ := H1.out.ret
  have hkd := H1.out.kd
  have hgg := H1.out.hg
  refine hK.out _ _ (otherD (otherD (otherD (otherD hkd (by omega)) (by omega)) (by omega)) (by omega)) (fun hHeld => ?_)
  clear hK K hkd hgg
  try simp only [List.getElem_toArray, List.getElem_cons_zero, List.getElem_cons_succ, Act.put, List.setIfInBounds_toArray, List.set_cons_zero, List.set_cons_succ]
  refine tk0 6 ?_
  refine wpAnyH_done (by kernel_rfl) ?_ _
  clear hHeld
  have G1 := Lib.hid g1
  have G2 := Lib.hid g2
  clear g1 g2
  go_wp2_with fail
  obtain ⟨j0, q1, q2, q3, q4⟩ := info_parts infoDsk
  refine bodyPost_ret (results_cellD (P := Try.prog) rfl _ _ w.heap.size _ _ (0, 0) _ _ rfl rfl G1.out Try.underlying26 rfl (by rw [q1]; simp [q3])) rfl ⟨⟨o, s, t, u⟩, _, rfl, HODD.out, by omega, G2.out⟩
set_option maxRecDepth 100000 in
set_option maxHeartbeats 8000000 in
theorem d9DrawCrash (a : Option Addr) (len cap : Nat) (zs : List Int) (w : World) (hr : Row8 w w.heap.size a len cap zs) (hl : len ≤ 1048576) :
    Calls Try.prog 45 #[.slice a len cap] w fun e w' => ∃ d k, e = .returned (.tuple #[dskV d, .int .i64 k]) ∧ OddD d ∧ (-1 ≤ k ∧ k ≤ 100) ∧ Below w.heap.size w w' := by
  obtain ⟨W, hW⟩ : ∃ W, W = w.alloc (.cells #[.int .i64 0, .string ⟨#[]⟩, .string ⟨#[]⟩, .string ⟨#[]⟩] 26) := ⟨_, rfl⟩
  have bW : Below w.heap.size w W := by rw [hW]; exact (Below.refl _ _).alloc (Nat.le_refl _) _
  have KR : Hid (W.heap[w.heap.size]? = some (.cells #[.int .i64 0, .string ⟨#[]⟩, .string ⟨#[]⟩, .string ⟨#[]⟩] 26 (0, 0))) := Lib.hid (by rw [hW]; exact heap_new _ _)
  have LR : Hid (w.heap.size < W.heap.size) := Lib.hid (by rw [hW]; simp)
  have hWs : W.heap.size = w.heap.size + 1 := by rw [hW]; simp
  have hc := new_any a len cap zs W (hr.later bW) hl
  rw [hWs] at hc
  have HW := Lib.hid hWs
  clear hWs
  rw [hW] at hc
  have BB := Lib.hid bW
  clear hr bW
  go_enter Try.func45, Try.ntmps45
  go_wp2_with (go_at_call 65; refine hc.mono ?_; rintro e w1 ⟨rfl, cu, hb⟩; refine Hid.out ?_)
  refine Lib.hid ?_
  rw [← hW] at hb
  clear hc hW
  have hb2 : Below W.heap.size W w1 := by rw [HW.out]; exact hb
  replace KR := tkb hb2 LR KR
  replace LR := tlz LR hb2.size
  replace BB := tbt BB hb2
  have CU := Lib.hid cu
  clear hb hb2 cu HW
  have hc := odd9_any _ _ _ CU.out
  go_wp2_with (go_at_call 66; refine hc.mono ?_; rintro e w2 ⟨d, rfl, hodd, cu, gr⟩; refine Hid.out ?_)
  refine Lib.hid ?_
  have HLT := Lib.hid CU.out.lt
  replace KR := tkg gr LR KR (by simp)
  replace LR := tlz LR gr.size
  replace BB := Lib.hid (BB.out.grown gr BB.out.size (fun j e => by cases e; omega))
  have HG := Lib.hid gr.size
  have CU2 := Lib.hid cu
  have HODD := Lib.hid hodd
  clear hc gr cu CU hodd
  obtain ⟨o, s, t, u⟩ := d
  unfold dskV
  dsimp only
  obtain ⟨X, hX⟩ : ∃ z, z = w2.alloc (.cells #[.int .i64 o, .string s, .string t, .string u] 26) := ⟨_, rfl⟩
  have H1 : Hid (DX w X w2.heap.size ⟨o, s, t, u⟩) := Lib.hid (by
    have h1 := HLT.out
    have h2 := HG.out
    have bX : Below w2.heap.size w2 X := by rw [hX]; exact (Below.refl _ _).alloc (Nat.le_refl _) _
    exact ⟨cu_below CU2.out bX, BB.out.trans (bX.mono BB.out.size), (bX.block _ LR.out).trans KR.out, by rw [hX]; exact heap_new _ _, by omega⟩)
  clear KR LR BB CU2 HLT HG
  go_wp2_with fail
  rw [← hX]
  obtain ⟨g, hg⟩ : ∃ g, g = w2.heap.size := ⟨_, rfl⟩
  rw [← hg] at H1 ⊢
  clear hX hg
  refine wp_region_held_drew (S := (fun w' => w'.heap[g]? = some (.cells #[.int .i64 o, .string s, .string t, .string u] 26 (0, 0)))) (by kernel_rfl) H1.out.kd (fun hHeld => ?_)
  obtain ⟨z0, hz0⟩ : ∃ zz, zz = X.drew := ⟨_, rfl⟩
  rw [← hz0] at hHeld ⊢
  replace H1 := Lib.hid (H1.out.below (w2 := z0) (by rw [hz0]; exact (Below.refl _ _).drew))
  clear hz0
  refine tk 0 (v := ?_) ?_ ?_; rotate_left
  · refine Or.inl ⟨by rfl, ?_⟩; intro w hSw; have K := Lib.hid hSw; have f0 := tcr K 0; have f1 := tcr K 1; have f2 := tcr K 2; have f3 := tcr K 3; go_simp; first | done | with_reducible rfl
  refine tk0 1 ?_
  refine rd1 2 (fun K hK => ?_)
  go_simp
  have hc := pickI (-1) 100 _ _ 6 6 z0 #[.int .i64 0, .int .i64 1, .int .i64 5, .int .i64 11, .int .i64 100, .int .i64 (-1)] 3 H1.out.cu rfl (by decide) (by decide) (by decide)
  obtain ⟨zA, hzA⟩ : ∃ zz, zz = z0.alloc (.cells #[.int .i64 0, .int .i64 1, .int .i64 5, .int .i64 11, .int .i64 100, .int .i64 (-1)] 3) := ⟨_, rfl⟩
  rw [← hzA] at hc ⊢
  replace H1 := Lib.hid (H1.out.below (w2 := zA) (by rw [hzA]; exact (Below.refl _ _).alloc (Nat.le_refl _) _))
  clear hzA
  refine hK.out _ _ H1.out.kd (fun hHeld => ?_)
  clear hK K
  refine rd1 3 (fun K hK => ?_)
  go_simp
  go_at_call 69
  refine hc.mono ?_
  rintro e w4 ⟨x, hx, rfl, cu, gr⟩
  replace H1 := Lib.hid (H1.out.turn gr cu)
  clear hc gr cu
  go_wp2_with fail
  refine hK.out _ _ H1.out.kd (fun hHeld => ?_)
  clear hK K
  try simp only [List.getElem_toArray, List.getElem_cons_zero, List.getElem_cons_succ, Act.put, List.setIfInBounds_toArray, List.set_cons_zero, List.set_cons_succ]
  refine rd1 4 (fun K hK => ?_)
  obtain ⟨⟨r0, r1, r2, r3⟩, p0, p1, p2, p3⟩ := H1.out.fr
  go_simp
  clear r0 r1 r2 r3 p0 p1 p2 p3
  obtain ⟨g1, g2⟩ := H1.out.ret
  have hkd := H1.out.kd
  have hgg := H1.out.hg
  refine hK.out _ _ (otherD (otherD (otherD (otherD hkd (by omega)) (by omega)) (by omega)) (by omega)) (fun hHeld => ?_)
  clear hK K hkd hgg
  try simp only [List.getElem_toArray, List.getElem_cons_zero, List.getElem_cons_succ, Act.put, List.setIfInBounds_toArray, List.set_cons_zero, List.set_cons_succ]
  refine tk0 5 ?_
  refine wpAnyH_done (by kernel_rfl) ?_ _
  clear hHeld
  have G1 := Lib.hid g1
  have G2 := Lib.hid g2
  clear g1 g2
  go_wp2_with fail
  obtain ⟨j0, q1, q2, q3, q4⟩ := info_parts infoDsk
  refine bodyPost_ret (results_cellD (P := Try.prog) rfl _ _ w.heap.size _ _ (0, 0) _ _ rfl rfl G1.out Try.underlying26 rfl (by rw [q1]; simp [q3])) rfl ⟨⟨o, s, t, u⟩, _, rfl, HODD.out, hx, G2.out⟩
end Go.Proofs.Ytkkmjlpeahkiaaa
