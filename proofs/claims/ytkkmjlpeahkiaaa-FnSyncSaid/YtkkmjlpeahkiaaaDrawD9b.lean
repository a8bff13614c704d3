/- What is drawn for the laws of stage 9. Condition: a code of at most 2^20 bytes. -/
import Derived.Test.YtkkmjlpeahkiaaaTk
import Derived.Test.YtkkmjlpeahkiaaaDrawOdd9
namespace Go.Proofs.Ytkkmjlpeahkiaaa
open Go.RowKit
set_option linter.unusedVariables false
set_option linter.unusedSimpArgs false

set_option maxRecDepth 100000 in
set_option maxHeartbeats 8000000 in
theorem d9DrawSync (a : Option Addr) (len cap : Nat) (zs : List Int) (w : World) (hr : Row8 w w.heap.size a len cap zs) (hl : len ≤ 1048576) :
    Calls Try.prog 43 #[.slice a len cap] w fun e w' => ∃ d, e = .returned (dskV d) ∧ OddD d ∧ Below w.heap.size w w' := by
  obtain ⟨W, hW⟩ : ∃ W, W = w.alloc (.cells #[.int .i64 0, .string ⟨#[]⟩, .string ⟨#[]⟩, .string ⟨#[]⟩] 26) := ⟨_, rfl⟩
  have bW : Below w.heap.size w W := by rw [hW]; exact (Below.refl _ _).alloc (Nat.le_refl _) _
  have KR : Hid (W.heap[w.heap.size]? = some (.cells #[.int .i64 0, .string ⟨#[]⟩, .string ⟨#[]⟩, .string ⟨#[]⟩] 26 (0, 0))) := Lib.hid (by rw [hW]; exact heap_new _ _)
  have LR : Hid (w.heap.size < W.heap.size) := Lib.hid (by rw [hW]; simp)
  have hWs : W.heap.size = w.heap.size + 1 := by rw [hW]; simp
  have hc := new_any a len cap zs W (hr.later bW) hl
  rw [hWs] at hc
  have HW := Lib.hid hWs
  clear hWs
  rw [hW] at hc
  have BB := Lib.hid bW
  clear hr bW
  go_enter Try.func43, Try.ntmps43
  go_wp2_with (go_at_call 65; refine hc.mono ?_; rintro e w1 ⟨rfl, cu, hb⟩; refine Hid.out ?_)
  refine Lib.hid ?_
  rw [← hW] at hb
  clear hc hW
  have hb2 : Below W.heap.size W w1 := by rw [HW.out]; exact hb
  replace KR := tkb hb2 LR KR
  replace LR := tlz LR hb2.size
  replace BB := tbt BB hb2
  have CU := Lib.hid cu
  clear hb hb2 cu HW
  have hc := odd9_any _ _ _ CU.out
  go_wp2_with (go_at_call 66; refine hc.mono ?_; rintro e w2 ⟨d, rfl, hodd, cu, gr⟩; refine Hid.out ?_)
  refine Lib.hid ?_
  have HLT := Lib.hid CU.out.lt
  replace KR := tkg gr LR KR (by simp)
  replace LR := tlz LR gr.size
  replace BB := Lib.hid (BB.out.grown gr BB.out.size (fun j e => by cases e; omega))
  have HG := Lib.hid gr.size
  have CU2 := Lib.hid cu
  have HODD := Lib.hid hodd
  clear hc gr cu CU hodd
  obtain ⟨o, s, t, u⟩ := d
  unfold dskV
  dsimp only
  have r0 := tcr KR 0
  have r1 := tcr KR 1
  have r2 := tcr KR 2
  have r3 := tcr KR 3
  have p0 := tfr KR 0
  have p1 := tfr KR 1
  have p2 := tfr KR 2
  have p3 := tfr KR 3
  go_wp2_with fail
  obtain ⟨j0, q1, q2, q3, q4⟩ := info_parts infoDsk
  refine bodyPost_ret (results_cell_row (P := Try.prog) rfl _ _ w.heap.size _ _ (0, 0) _ rfl (storeD KR.out) Try.underlying26 rfl (by rw [q1]; simp [q3])) rfl ⟨⟨o, s, t, u⟩, rfl, HODD.out, belowD BB.out (Nat.le_refl _)⟩
set_option maxRecDepth 100000 in
set_option maxHeartbeats 8000000 in
theorem d9DrawRecover (a : Option Addr) (len cap : Nat) (zs : List Int) (w : World) (hr : Row8 w w.heap.size a len cap zs) (hl : len ≤ 1048576) :
    Calls Try.prog 51 #[.slice a len cap] w fun e w' => ∃ d, e = .returned (dskV d) ∧ SmD d ∧ Below w.heap.size w w' := by
  obtain ⟨W, hW⟩ : ∃ W, W = w.alloc (.cells #[.int .i64 0, .string ⟨#[]⟩, .string ⟨#[]⟩, .string ⟨#[]⟩] 26) := ⟨_, rfl⟩
  have bW : Below w.heap.size w W := by rw [hW]; exact (Below.refl _ _).alloc (Nat.le_refl _) _
  have KR : Hid (W.heap[w.heap.size]? = some (.cells #[.int .i64 0, .string ⟨#[]⟩, .string ⟨#[]⟩, .string ⟨#[]⟩] 26 (0, 0))) := Lib.hid (by rw [hW]; exact heap_new _ _)
  have LR : Hid (w.heap.size < W.heap.size) := Lib.hid (by rw [hW]; simp)
  have hWs : W.heap.size = w.heap.size + 1 := by rw [hW]; simp
  have hc := new_any a len cap zs W (hr.later bW) hl
  rw [hWs] at hc
  have HW := Lib.hid hWs
  clear hWs
  rw [hW] at hc
  have BB := Lib.hid bW
  clear hr bW
  go_enter Try.func51, Try.ntmps51
  go_wp2_with (go_at_call 65; refine hc.mono ?_; rintro e w1 ⟨rfl, cu, hb⟩; refine Hid.out ?_)
  refine Lib.hid ?_
  rw [← hW] at hb
  clear hc hW
  have hb2 : Below W.heap.size W w1 := by rw [HW.out]; exact hb
  replace KR := tkb hb2 LR KR
  replace LR := tlz LR hb2.size
  replace BB := tbt BB hb2
  have CU := Lib.hid cu
  clear hb hb2 cu HW
  have hc := odd9_any _ _ _ CU.out
  go_wp2_with (go_at_call 66; refine hc.mono ?_; rintro e w2 ⟨d, rfl, hodd, cu, gr⟩; refine Hid.out ?_)
  refine Lib.hid ?_
  have HLT := Lib.hid CU.out.lt
  replace KR := tkg gr LR KR (by simp)
  replace LR := tlz LR gr.size
  replace BB := Lib.hid (BB.out.grown gr BB.out.size (fun j e => by cases e; omega))
  have HG := Lib.hid gr.size
  have CU2 := Lib.hid cu
  have HODD := Lib.hid hodd
  clear hc gr cu CU hodd
  obtain ⟨o, s, t, u⟩ := d
  unfold dskV
  dsimp only
  obtain ⟨X, hX⟩ : ∃ z, z = w2.alloc (.cells #[.int .i64 o, .string s, .string t, .string u] 26) := ⟨_, rfl⟩
  have H1 : Hid (DX w X w2.heap.size ⟨o, s, t, u⟩) := Lib.hid (by
    have h1 := HLT.out
    have h2 := HG.out
    have bX : Below w2.heap.size w2 X := by rw [hX]; exact (Below.refl _ _).alloc (Nat.le_refl _) _
    exact ⟨cu_below CU2.out bX, BB.out.trans (bX.mono BB.out.size), (bX.block _ LR.out).trans KR.out, by rw [hX]; exact heap_new _ _, by omega⟩)
  clear KR LR BB CU2 HLT HG
  have hc := once_any 3 (by omega) _ _ X H1.out.cu
  rw [hX] at hc
  go_wp2_with (go_at_call 72; refine hc.mono ?_; rintro e w3 ⟨b, rfl, cu, gr⟩; refine Hid.out ?_)
  refine Lib.hid ?_
  rw [← hX] at gr
  replace H1 := Lib.hid (H1.out.turn gr cu)
  clear hc gr cu hX
  obtain ⟨g, hg⟩ : ∃ g, g = w2.heap.size := ⟨_, rfl⟩
  rw [← hg] at H1 ⊢
  clear hg
  have hgg := H1.out.hg
  cases b
  · obtain ⟨f0, f1, f2, f3⟩ := H1.out.ft
    obtain ⟨⟨r0, r1, r2, r3⟩, p0, p1, p2, p3⟩ := H1.out.fr
    go_wp2_with fail
    obtain ⟨j0, q1, q2, q3, q4⟩ := info_parts infoDsk
    obtain ⟨g1, g2⟩ := H1.out.ret
    refine bodyPost_ret (results_cell_row (P := Try.prog) rfl _ _ w.heap.size _ _ (0, 0) _ rfl g1 Try.underlying26 rfl (by rw [q1]; simp [q3])) rfl ⟨⟨o, s, t, u⟩, rfl, odd_sm HODD.out, g2⟩
  · have htz : t.size ≤ 4001 := HODD.out.2.2.1
    obtain ⟨f0, f1, f2, f3⟩ := H1.out.ft
    have hc := bent_any t 4001 (by omega) htz _ _ w3 H1.out.cu
    go_wp2_with (go_at_call 71; refine hc.mono ?_; rintro e w4 ⟨v, hv, rfl, cu, gr⟩; refine Hid.out ?_)
    refine Lib.hid ?_
    replace H1 := Lib.hid (H1.out.turn gr cu)
    clear hc gr cu f0 f1 f2 f3
    have KD := Lib.hid H1.out.kd
    have y2 := tcr KD 2
    have z2 := tfr KD 2
    obtain ⟨Y, hY⟩ : ∃ Y, Y = w4.setCell ⟨g, 2, none⟩ (.string v) := ⟨_, rfl⟩
    have H2 : Hid (DX w Y g ⟨o, s, v, u⟩) := Lib.hid (by
      have h1 := H1.out.hg
      rw [hY]
      exact ⟨cu_set H1.out.cu (by omega), H1.out.bl.setCell (p := ⟨g, 2, none⟩) (by show w.heap.size ≤ g; omega) _, otherD H1.out.kr (by omega), heap_setCell_same _ _ 2 _ _ _ H1.out.kd, h1⟩)
    clear H1 KD
    have H1 := H2
    clear H2
    obtain ⟨f0, f1, f2, f3⟩ := H1.out.ft
    obtain ⟨⟨r0, r1, r2, r3⟩, p0, p1, p2, p3⟩ := H1.out.fr
    rw [hY] at f0 f1 f2 f3 r0 r1 r2 r3 p0 p1 p2 p3
    go_wp2_with fail
    rw [← hY]
    obtain ⟨j0, q1, q2, q3, q4⟩ := info_parts infoDsk
    obtain ⟨g1, g2⟩ := H1.out.ret
    refine bodyPost_ret (results_cell_row (P := Try.prog) rfl _ _ w.heap.size _ _ (0, 0) _ rfl g1 Try.underlying26 rfl (by rw [q1]; simp [q3])) rfl ⟨⟨o, s, v, u⟩, rfl, ⟨(odd_sm HODD.out).1, (odd_sm HODD.out).2.1, by show v.size ≤ _; omega, (odd_sm HODD.out).2.2.2⟩, g2⟩
set_option maxRecDepth 100000 in
set_option maxHeartbeats 8000000 in
theorem d9DrawEntry (a : Option Addr) (len cap : Nat) (zs : List Int) (w : World) (hr : Row8 w w.heap.size a len cap zs) (hl : len ≤ 1048576) :
    Calls Try.prog 48 #[.slice a len cap] w fun e w' => ∃ y, e = .returned (.string y) ∧ y.size ≤ 65532 ∧ Below w.heap.size w w' := by
  have hc := new_any a len cap zs w hr hl
  clear hr
  go_enter Try.func48, Try.ntmps48
  go_wp2_with (go_at_call 65; refine hc.mono ?_; rintro e w1 ⟨rfl, cu, hb⟩; refine Hid.out ?_)
  refine Lib.hid ?_
  have CU := Lib.hid cu
  have BB := Lib.hid hb
  clear hc cu hb
  have hc := once_any 20 (by omega) _ _ _ CU.out
  go_wp2_with (go_at_call 72; refine hc.mono ?_; rintro e w2 ⟨b, rfl, cu, gr⟩; refine Hid.out ?_)
  refine Lib.hid ?_
  replace BB := Lib.hid (BB.out.grown gr BB.out.size (fun j e => by cases e; omega))
  replace CU := Lib.hid cu
  clear hc gr cu
  cases b
  · have hc := below_any 7 (by omega) _ _ _ CU.out
    go_wp2_with (go_at_call 68; refine hc.mono ?_; rintro e w3 ⟨x, ⟨hx0, hx1, _⟩, rfl, cu, gr⟩; refine Hid.out ?_)
    refine Lib.hid ?_
    replace BB := Lib.hid (BB.out.grown gr BB.out.size (fun j e => by cases e; omega))
    replace CU := Lib.hid cu
    have hx1 := hx1 (by omega)
    obtain ⟨x, rfl⟩ := Int.eq_ofNat_of_zero_le hx0
    clear hc gr cu
    have hc := text_any x (by omega) _ _ _ CU.out
    go_wp2_with (go_at_call 67; refine hc.mono ?_; rintro e w4 ⟨y, hy, rfl, cu, gr⟩; refine Hid.out ?_)
    refine Lib.hid ?_
    replace BB := Lib.hid (BB.out.grown gr BB.out.size (fun j e => by cases e; omega))
    replace CU := Lib.hid cu
    clear hc gr cu
    go_wp2_with fail
    go_ret
    exact ⟨y, rfl, by omega, BB.out⟩
  · have hc := below_any 2 (by omega) _ _ _ CU.out
    go_wp2_with (go_at_call 68; refine hc.mono ?_; rintro e w3 ⟨x, ⟨hx0, hx1, _⟩, rfl, cu, gr⟩; refine Hid.out ?_)
    refine Lib.hid ?_
    replace BB := Lib.hid (BB.out.grown gr BB.out.size (fun j e => by cases e; omega))
    replace CU := Lib.hid cu
    have hx1 := hx1 (by omega)
    obtain ⟨x, rfl⟩ := Int.eq_ofNat_of_zero_le hx0
    clear hc gr cu
    obtain ⟨i0, hi, hz0, hz1, hz2⟩ := info_parts infoB
    obtain ⟨w4, hmk, hcv, hb⟩ := make_zeros i0 hi hz0 hz1 hz2 w3 (65531 + (x : Int)) (65531 + x) (by omega) (by omega) (by omega)
    clear hi hz0 hz1 hz2
    obtain ⟨v, hv⟩ : ∃ v, v = txt (List.replicate (65531 + x) 0) := ⟨_, rfl⟩
    have hvz : v.size ≤ 65532 := by rw [hv, txt_size, List.length_replicate]; omega
    rw [← hv] at hcv
    clear hv
    go_wp2_with fail
    go_ret
    exact ⟨v, rfl, hvz, BB.out.trans (hb.mono BB.out.size)⟩
set_option maxRecDepth 100000 in
set_option maxHeartbeats 8000000 in
theorem d9DrawScan (a : Option Addr) (len cap : Nat) (zs : List Int) (w : World) (hr : Row8 w w.heap.size a len cap zs) (hl : len ≤ 1048576) :
    Calls Try.prog 46 #[.slice a len cap] w fun e w' => ∃ y, e = .returned (.string y) ∧ y.size ≤ 1000 ∧ Below w.heap.size w w' := by
  have hc := new_any a len cap zs w hr hl
  clear hr
  go_enter Try.func46, Try.ntmps46
  go_wp2_with (go_at_call 65; refine hc.mono ?_; rintro e w1 ⟨rfl, cu, hb⟩; refine Hid.out ?_)
  refine Lib.hid ?_
  have CU := Lib.hid cu
  have BB := Lib.hid hb
  clear hc cu hb
  have hc := below_any 5 (by omega) _ _ _ CU.out
  go_wp2_with (go_at_call 68; refine hc.mono ?_; rintro e w2 ⟨n, ⟨hn0, hn1, _⟩, rfl, cu, gr⟩; refine Hid.out ?_)
  refine Lib.hid ?_
  replace BB := Lib.hid (BB.out.grown gr BB.out.size (fun j e => by cases e; omega))
  replace CU := Lib.hid cu
  have hn1 := hn1 (by omega)
  obtain ⟨n, rfl⟩ := Int.eq_ofNat_of_zero_le hn0
  clear hc gr cu
  go_wp2_with fail
  go_loopw [4, 6] (fun sv i wr => ∃ (k : Nat) (y : ByteArray), k ≤ n ∧ i = .int .i64 k ∧ sv = .string y ∧ y.size ≤ k * 32 ∧ Hid (Cu TC wr w.heap.size w.heap.size) ∧ Hid (Below w.heap.size w wr)) (fun _ i _ => n - (intOf i).toNat)
  case atStart => exact ⟨0, ⟨#[]⟩, Nat.zero_le _, rfl, rfl, Nat.zero_le _, CU, BB⟩
  case round =>
    clear CU BB
    obtain ⟨k, y, hk, rfl, rfl, hy, CU, BB⟩ := hrel
    by_cases hlt : k < n
    · have hlt' : (k : Int) < (n : Int) := by omega
      have hc := pick_lit 16 _ _ 3 3 wr #[.string ⟨#[]⟩, .string ⟨#[111, 110, 101]⟩, .string ⟨#[116, 119, 111]⟩] 9 CU.out rfl (by decide) (by decide) (by decide)
      go_wp2_with (go_at_call 70; refine hc.mono ?_; rintro e w3 ⟨v, hv, rfl, cu, gr⟩; refine Hid.out ?_)
      refine Lib.hid ?_
      replace BB := Lib.hid (BB.out.grown gr BB.out.size (fun j e => by cases e; omega))
      replace CU := Lib.hid cu
      clear hc gr cu
      have hc := spec_entry v w3 (by omega)
      have hez : (entB v).size ≤ 22 := by rw [ent_size]; split <;> omega
      obtain ⟨E, hE⟩ : ∃ z, z = entB v := ⟨_, rfl⟩
      rw [← hE] at hc hez
      clear hE
      go_wp2_with (go_at_call 23; refine hc.mono ?_; rintro e w4 ⟨rfl, hb⟩; refine Hid.out ?_)
      refine Lib.hid ?_
      replace BB := tbt BB hb
      replace CU := Lib.hid (cu_below CU.out hb)
      clear hc hb
      have ns : ¬ 9223372036854775807 < y.size + E.size := by omega
      go_wp2_with fail
      go_roundw
      case rel => exact ⟨k + 1, y ++ E, by omega, by go_num, rfl, by rw [ByteArray.size_append]; omega, CU, BB⟩
      case measure => simp [intOf]; omega
    · have hlt' : ¬ (k : Int) < (n : Int) := by omega
      have hc := bent_any y 160 (by omega) (by omega) _ _ _ CU.out
      go_wp2_with (go_at_call 71; refine hc.mono ?_; rintro e w3 ⟨v, hv, rfl, cu, gr⟩; refine Hid.out ?_)
      refine Lib.hid ?_
      replace BB := Lib.hid (BB.out.grown gr BB.out.size (fun j e => by cases e; omega))
      clear hc gr cu
      go_wp2_with fail
      go_ret
      exact ⟨v, rfl, by omega, BB.out⟩
end Go.Proofs.Ytkkmjlpeahkiaaa
