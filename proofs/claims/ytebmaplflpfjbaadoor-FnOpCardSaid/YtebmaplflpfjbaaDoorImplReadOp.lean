/- What impl.ReadOp answers. Condition: the text has at most 2^20 bytes; the tables and the two errors of strconv read as their initialisers lay them. -/
import Derived.Test.YtebmaplflpfjbaaDoorBaseA
import Derived.Test.YtebmaplflpfjbaaDoorImplOpText
import Derived.Test.YtebmaplflpfjbaaDoorReadOpPlain
import Derived.Test.YtebmaplflpfjbaaDoorImplWords
import Derived.Test.YtebmaplflpfjbaaDoorAtoi
import Derived.Test.YtebmaplflpfjbaaDoorReadOpForms
import Derived.Deep.RegionHeld
import Derived.Deep.CutBlock
import Derived.Deep.DeepCutAuto
namespace Go.Proofs.YtebmaplflpfjbaaDoor
open Go.RowKit List
set_option linter.unusedVariables false
set_option linter.unusedSimpArgs false

theorem kix0 (w : World) : (Instr.index 77 (.agg #[.string ⟨#[103, 101, 116]⟩, .string ⟨#[112, 117, 116]⟩, .string ⟨#[100, 101, 108]⟩]) (.int .i64 0)).run Tryd.prog w = .ok (.string ⟨#[103, 101, 116]⟩) w := by kernel_rfl
theorem kix1 (w : World) : (Instr.index 77 (.agg #[.string ⟨#[103, 101, 116]⟩, .string ⟨#[112, 117, 116]⟩, .string ⟨#[100, 101, 108]⟩]) (.int .i64 1)).run Tryd.prog w = .ok (.string ⟨#[112, 117, 116]⟩) w := by kernel_rfl
theorem kix2 (w : World) : (Instr.index 77 (.agg #[.string ⟨#[103, 101, 116]⟩, .string ⟨#[112, 117, 116]⟩, .string ⟨#[100, 101, 108]⟩]) (.int .i64 2)).run Tryd.prog w = .ok (.string ⟨#[100, 101, 108]⟩) w := by kernel_rfl
set_option maxRecDepth 100000 in
set_option maxHeartbeats 2000000 in
theorem impl_kindOf (b : ByteArray) (w : World) (hk : Kinds w) :
    Calls Tryd.prog 55 #[.string b] w fun e w' => e = .returned (.int .i64 (kd b)) ∧ w = w' := by
  obtain ⟨hl, k0, k1, k2⟩ := hk
  have hcase : (¬ b = ⟨#[103, 101, 116]⟩ ∧ ¬ b = ⟨#[112, 117, 116]⟩ ∧ ¬ b = ⟨#[100, 101, 108]⟩) ∨ (¬ b = ⟨#[103, 101, 116]⟩ ∧ ¬ b = ⟨#[112, 117, 116]⟩ ∧ b = ⟨#[100, 101, 108]⟩) ∨ (¬ b = ⟨#[103, 101, 116]⟩ ∧ b = ⟨#[112, 117, 116]⟩) ∨ b = ⟨#[103, 101, 116]⟩ := by
    by_cases h0 : b = ⟨#[103, 101, 116]⟩
    · exact .inr (.inr (.inr h0))
    · by_cases h1 : b = ⟨#[112, 117, 116]⟩
      · exact .inr (.inr (.inl ⟨h0, h1⟩))
      · by_cases h2 : b = ⟨#[100, 101, 108]⟩
        · exact .inr (.inl ⟨h0, h1, h2⟩)
        · exact .inl ⟨h0, h1, h2⟩
  rcases hcase with ⟨h0, h1, h2⟩ | ⟨h0, h1, h2⟩ | ⟨h0, h1⟩ | h0
  · have HK : Hid (kd b = -1) := Lib.hid (by unfold kd; rw [if_neg h0, if_neg h1, if_neg h2])
    have e0 := tne (fun e => h0 e.symm)
    rw [ByteArray.toList_eq] at e0
    have e1 := tne (fun e => h1 e.symm)
    rw [ByteArray.toList_eq] at e1
    have e2 := tne (fun e => h2 e.symm)
    rw [ByteArray.toList_eq] at e2
    clear h0
    clear h1
    clear h2
    have x0 := kix0
    have x1 := kix1
    have x2 := kix2
    go_enter Tryd.func55, Tryd.ntmps55
    go_wp2
    refine wp_loop_rounds 4 ?_
    rw [rounds_succ]
    go_wp2
    rw [rounds_succ]
    go_wp2
    rw [rounds_succ]
    go_wp2
    rw [rounds_succ]
    go_wp2
    try rw [Exit.noGoto_ret]
    go_ret
    exact ⟨ret_int (by rw [HK.out]), rfl⟩
  · have HK : Hid (kd b = 2) := Lib.hid (by unfold kd; rw [if_neg h0, if_neg h1, if_pos h2])
    have e0 := tne (fun e => h0 e.symm)
    rw [ByteArray.toList_eq] at e0
    have e1 := tne (fun e => h1 e.symm)
    rw [ByteArray.toList_eq] at e1
    have e2 := teq h2.symm
    rw [ByteArray.toList_eq] at e2
    clear h0
    clear h1
    clear h2
    have x0 := kix0
    have x1 := kix1
    have x2 := kix2
    go_enter Tryd.func55, Tryd.ntmps55
    go_wp2
    refine wp_loop_rounds 3 ?_
    rw [rounds_succ]
    go_wp2
    rw [rounds_succ]
    go_wp2
    rw [rounds_succ]
    go_wp2
    try rw [Exit.noGoto_ret]
    go_ret
    exact ⟨ret_int (by rw [HK.out]), rfl⟩
  · have HK : Hid (kd b = 1) := Lib.hid (by unfold kd; rw [if_neg h0, if_pos h1])
    have e0 := tne (fun e => h0 e.symm)
    rw [ByteArray.toList_eq] at e0
    have e1 := teq h1.symm
    rw [ByteArray.toList_eq] at e1
    clear h0
    clear h1
    have x0 := kix0
    have x1 := kix1
    have x2 := kix2
    go_enter Tryd.func55, Tryd.ntmps55
    go_wp2
    refine wp_loop_rounds 2 ?_
    rw [rounds_succ]
    go_wp2
    rw [rounds_succ]
    go_wp2
    try rw [Exit.noGoto_ret]
    go_ret
    exact ⟨ret_int (by rw [HK.out]), rfl⟩
  · have HK : Hid (kd b = 0) := Lib.hid (by unfold kd; rw [if_pos h0])
    have e0 := teq h0.symm
    rw [ByteArray.toList_eq] at e0
    clear h0
    have x0 := kix0
    have x1 := kix1
    have x2 := kix2
    go_enter Tryd.func55, Tryd.ntmps55
    go_wp2
    refine wp_loop_rounds 1 ?_
    rw [rounds_succ]
    go_wp2
    try rw [Exit.noGoto_ret]
    go_ret
    exact ⟨ret_int (by rw [HK.out]), rfl⟩
set_option maxRecDepth 100000 in
set_option maxHeartbeats 4000000 in
theorem impl_readOp (s : ByteArray) (w : World) (hs : s.size ≤ 1048576) (hdo : Doors w) (her : Errs w) :
    Calls Tryd.prog 20 #[.string s] w fun e w' => e = .returned (.tuple #[rqA (roX s), .bool (roOk s)]) ∧ Below w.heap.size w w' := by
  have Hs := Lib.hid hs
  have DO0 := Lib.hid hdo
  have ER0 := Lib.hid her
  obtain ⟨W, hW⟩ : ∃ W, W = w.alloc (.cells #[.string ⟨#[]⟩, .int .i64 0, .int .i64 0, .string ⟨#[]⟩, .string ⟨#[]⟩] 29) := ⟨_, rfl⟩
  have hbW : Below w.heap.size w W := by rw [hW]; exact (Below.refl _ _).alloc (Nat.le_refl _) _
  have KR : Hid (W.heap[w.heap.size]? = some (.cells #[.string ⟨#[]⟩, .int .i64 0, .int .i64 0, .string ⟨#[]⟩, .string ⟨#[]⟩] 29 (0, 0))) := Lib.hid (by rw [hW]; exact heap_new _ _)
  have LR : Hid (w.heap.size < W.heap.size) := Lib.hid (by rw [hW]; simp)
  have BB := Lib.hid hbW
  have DO := Lib.hid (DO0.out.later hbW)
  have ER := Lib.hid (ER0.out.later hbW)
  clear hdo her hbW DO0 ER0 hs
  have LR0 := LR
  have hc0 := impl_words s (by have := Hs.out; omega) W
  rw [hW] at hc0
  go_enter Tryd.func20, Tryd.ntmps20
  go_wp2_with (go_at_call 53; refine hc0.mono ?_; rintro e w1 ⟨vw, rfl, htx, hb1⟩; refine Hid.out ?_)
  refine Lib.hid ?_
  rw [← hW] at htx hb1
  clear hc0 hW
  replace KR := tkb hb1 LR KR
  replace LR := tlz LR hb1.size
  replace DO := Lib.hid (DO.out.later hb1)
  replace ER := Lib.hid (ER.out.later hb1)
  replace BB := tbt BB hb1
  have hsz := words_sizes s
  obtain ⟨ws, hws⟩ : ∃ ws, ws = wordsOf s := ⟨_, rfl⟩
  rw [← hws] at htx hsz
  have HWS := Lib.hid hws
  have HSZ := Lib.hid hsz
  clear hws hsz
  obtain ⟨cap, g, vs, rfl, HWD, HGN⟩ : ∃ (cap : Nat) (g : Nat) (a : Option Addr), vw = .slice a ws.length cap ∧ Hid (0 < ws.length → a = some ⟨g, 0, none⟩ ∧ WordsAt w1 g ws) ∧ Hid (w.heap.size < g) := words_form htx hb1 LR0.out
  clear htx hb1
  by_cases h4 : ws.length < 4
  · have h4' : decide ((ws.length : Int) < 4) = true := by simp; omega
    have fR0 := tcr KR 0
    have fR1 := tcr KR 1
    have fR2 := tcr KR 2
    have fR3 := tcr KR 3
    have fR4 := tcr KR 4
    have zR0 := tfr KR 0
    have zR1 := tfr KR 1
    have zR2 := tfr KR 2
    have zR3 := tfr KR 3
    have zR4 := tfr KR 4
    go_wp2_with fail
    clear fR0 fR1 fR2 fR3 fR4
    clear zR0 zR1 zR2 zR3 zR4
    have HN := Lib.hid (ro_no (by rw [← HWS.out]; omega) : roOk s = false)
    have hb : w.heap.size < w1.heap.size := LR.out
    have r0 := heap_setCell_same _ w.heap.size 0 _ _ (.string ⟨#[]⟩) KR.out
    have r1 := heap_setCell_same _ w.heap.size 1 _ _ (.int .i64 0) r0
    have r2 := heap_setCell_same _ w.heap.size 2 _ _ (.int .i64 0) r1
    have r3 := heap_setCell_same _ w.heap.size 3 _ _ (.string ⟨#[]⟩) r2
    have r4 := heap_setCell_same _ w.heap.size 4 _ _ (.string ⟨#[]⟩) r3
    simp only [List.setIfInBounds_toArray, List.set_cons_zero, List.set_cons_succ] at r4
    obtain ⟨j0, q1, q2, q3, q4⟩ := info_parts infoOp
    refine bodyPost_ret (results_two (P := Tryd.prog) rfl _ _ w.heap.size _ _ (0, 0) _ _ rfl rfl r4 Tryd.underlying29 rfl (by rw [q1]; simp [q3])) rfl ⟨by unfold roX; rw [HN.out]; rfl, ?_⟩
    exact ((((BB.out.setCell (p := ⟨w.heap.size, 0, none⟩) (Nat.le_refl _) _).setCell (p := ⟨w.heap.size, 1, none⟩) (Nat.le_refl _) _).setCell (p := ⟨w.heap.size, 2, none⟩) (Nat.le_refl _) _).setCell (p := ⟨w.heap.size, 3, none⟩) (Nat.le_refl _) _).setCell (p := ⟨w.heap.size, 4, none⟩) (Nat.le_refl _) _
  obtain ⟨rfl, hwd⟩ := HWD.out (by omega)
  have HW1 := Lib.hid hwd
  clear HWD hwd
  have h4n : decide ((ws.length : Int) < 4) = false := by simp; omega
  have g1 : (1 : Int) < (ws.length : Int) := by omega
  have g2 : (2 : Int) < (ws.length : Int) := by omega
  have g3 : (3 : Int) < (ws.length : Int) := by omega
  have n0 : 0 < ws.length := by omega
  have n1 : 1 < ws.length := by omega
  have n2 : 2 < ws.length := by omega
  have n3 : 3 < ws.length := by omega
  have HF := Lib.hid (wd_size HSZ.out)
  have c1 := HW1.out.2 1 n1
  by_cases hat : ∃ v, Lib.atoiAll (wd ws 1).data.toList = .ok v
  case neg =>
    have hno : ∀ v, Lib.atoiAll (wd ws 1).data.toList ≠ .ok v := fun v h => hat ⟨v, h⟩
    have HNO := Lib.hid hno
    clear hat hno
    have hca := fun w hE => atoi_fail (wd ws 1) (by have := HF.out 1; have := Hs.out; omega) HNO.out w hE
    have HCA := Lib.hid hca
    clear hca
    go_wp2_with (go_at_call 54; refine (HCA.out _ ER.out).mono ?_; rintro e w2 ⟨n, N, rfl, hb2⟩; refine Hid.out ?_)
    refine Lib.hid ?_
    replace KR := tkb hb2 LR KR
    replace LR := tlz LR hb2.size
    replace DO := Lib.hid (DO.out.later hb2)
    replace ER := Lib.hid (ER.out.later hb2)
    replace HW1 := Lib.hid (HW1.out.later hb2)
    replace BB := tbt BB hb2
    clear hb2 c1
    have fR0 := tcr KR 0
    have fR1 := tcr KR 1
    have fR2 := tcr KR 2
    have fR3 := tcr KR 3
    have fR4 := tcr KR 4
    have zR0 := tfr KR 0
    have zR1 := tfr KR 1
    have zR2 := tfr KR 2
    have zR3 := tfr KR 3
    have zR4 := tfr KR 4
    go_wp2_with fail
    clear fR0 fR1 fR2 fR3 fR4
    clear zR0 zR1 zR2 zR3 zR4
    have HN := Lib.hid (ro_fail (by rw [← HWS.out]; exact HNO.out) (by rw [← HWS.out]; omega) : roOk s = false)
    have hb : w.heap.size < w2.heap.size := LR.out
    have r0 := heap_setCell_same _ w.heap.size 0 _ _ (.string ⟨#[]⟩) KR.out
    have r1 := heap_setCell_same _ w.heap.size 1 _ _ (.int .i64 0) r0
    have r2 := heap_setCell_same _ w.heap.size 2 _ _ (.int .i64 0) r1
    have r3 := heap_setCell_same _ w.heap.size 3 _ _ (.string ⟨#[]⟩) r2
    have r4 := heap_setCell_same _ w.heap.size 4 _ _ (.string ⟨#[]⟩) r3
    simp only [List.setIfInBounds_toArray, List.set_cons_zero, List.set_cons_succ] at r4
    obtain ⟨j0, q1, q2, q3, q4⟩ := info_parts infoOp
    refine bodyPost_ret (results_two (P := Tryd.prog) rfl _ _ w.heap.size _ _ (0, 0) _ _ rfl rfl r4 Tryd.underlying29 rfl (by rw [q1]; simp [q3])) rfl ⟨by unfold roX; rw [HN.out]; rfl, ?_⟩
    exact ((((BB.out.setCell (p := ⟨w.heap.size, 0, none⟩) (Nat.le_refl _) _).setCell (p := ⟨w.heap.size, 1, none⟩) (Nat.le_refl _) _).setCell (p := ⟨w.heap.size, 2, none⟩) (Nat.le_refl _) _).setCell (p := ⟨w.heap.size, 3, none⟩) (Nat.le_refl _) _).setCell (p := ⟨w.heap.size, 4, none⟩) (Nat.le_refl _) _
  obtain ⟨q, hq⟩ := hat
  have HQA := Lib.hid hq
  have HQB := Lib.hid (Lib.atoiAll_bounds hq)
  clear hq
  have hro := ro_atoi (s := s) (v := q) (by rw [← HWS.out]; exact HQA.out) (by rw [← HWS.out]; omega)
  rw [← HWS.out] at hro
  have HRO := Lib.hid hro
  clear hro
  go_wp2_with (go_at_call 54; refine (atoi_ok (wd ws 1) (by have := HF.out 1; have := Hs.out; omega) q HQA.out _).mono ?_; rintro e w2 ⟨rfl, hb2⟩; refine Hid.out ?_)
  refine Lib.hid ?_
  replace KR := tkb hb2 LR KR
  replace LR := tlz LR hb2.size
  replace DO := Lib.hid (DO.out.later hb2)
  replace ER := Lib.hid (ER.out.later hb2)
  replace HW1 := Lib.hid (HW1.out.later hb2)
  replace BB := tbt BB hb2
  clear hb2 c1
  go_wp2_with fail
  have LR2 := LR
  have DO2 := DO
  go_cut [7] (fun y wx => ∃ yb : Nat, y = .pointer (some ⟨yb, 0, none⟩) ∧ Hid (wx.heap[yb]? = some (.cells #[.string (wd ws 0), .int .i64 q, .int .i64 (kd (wd ws 2)), .string (wd ws 3), .string ⟨#[]⟩] 29 (0, 0))) ∧ Hid (Below w2.heap.size w2 wx) ∧ Hid (w2.heap.size ≤ yb ∧ yb < wx.heap.size))
  case first =>
    have HSS : Hid (∀ w' : World, WordsAt w' g ws → w'.cell? ⟨g, 0, none⟩ = some (.string (wd ws 0)) ∧ w'.cell? ⟨g, 2, none⟩ = some (.string (wd ws 2)) ∧ w'.cell? ⟨g, 3, none⟩ = some (.string (wd ws 3))) := Lib.hid (fun w' h => ⟨h.2 0 n0, h.2 2 n2, h.2 3 n3⟩)
    refine wp_region_held_drew (S := (fun w' => w'.cell? ⟨g, 0, none⟩ = some (.string (wd ws 0)) ∧ w'.cell? ⟨g, 2, none⟩ = some (.string (wd ws 2)) ∧ w'.cell? ⟨g, 3, none⟩ = some (.string (wd ws 3)))) (by kernel_rfl) (HSS.out _ (HW1.out.later (Below.refl _ _).drew)) (fun hHeld => ?_)
    obtain ⟨zD, hzD⟩ : ∃ z, z = w2.drew := ⟨_, rfl⟩
    rw [← hzD] at hHeld ⊢
    have bzD : Below w2.heap.size w2 zD := by rw [hzD]; exact (Below.refl _ _).drew
    have B2 : Hid (Below w2.heap.size w2 zD) := Lib.hid bzD
    replace KR := tkb bzD LR KR
    replace LR := tlz LR bzD.size
    replace DO := Lib.hid (DO.out.later bzD)
    replace ER := Lib.hid (ER.out.later bzD)
    replace HW1 := Lib.hid (HW1.out.later bzD)
    replace BB := tbt BB bzD
    clear bzD hzD
    refine tk0 0 ?_
    refine tk0 1 ?_
    refine tk 2 (v := ?_) ?_ ?_; rotate_left
    · refine Or.inl ⟨by rfl, ?_⟩; intro w hSw; obtain ⟨c0, c2, c3⟩ := hSw; go_simp; first | done | with_reducible rfl
    refine tk0 3 ?_
    refine tk0 4 ?_
    refine tk0 5 ?_
    refine tk 6 (v := ?_) ?_ ?_; rotate_left
    · refine Or.inl ⟨by rfl, ?_⟩; intro w hSw; obtain ⟨c0, c2, c3⟩ := hSw; go_simp; first | done | with_reducible rfl
    refine tk0 8 ?_
    refine tk0 9 ?_
    refine tk 10 (v := ?_) ?_ ?_; rotate_left
    · refine Or.inl ⟨by rfl, ?_⟩; intro w hSw; obtain ⟨c0, c2, c3⟩ := hSw; go_simp; first | done | with_reducible rfl
    refine rd2 7 12 (fun K hK => ?_) (fun K hK => ?_)
    · have hc := impl_kindOf (wd ws 2) zD DO.out.1
      go_simp
      go_at_call 55
      refine hc.mono ?_
      rintro e wq ⟨rfl, rfl⟩
      clear hc
      go_wp2_with fail
      refine hK.out _ _ (HSS.out _ HW1.out) (fun hHeld => ?_)
      clear hK K
      refine tk0 11 ?_
      refine rd1 12 (fun K hK => ?_)
      go_simp
      obtain ⟨V, hV⟩ : ∃ V, V = zD.alloc (.cells #[.string ⟨#[]⟩, .int .i64 0, .int .i64 0, .string ⟨#[]⟩, .string ⟨#[]⟩] 29) := ⟨_, rfl⟩
      rw [← hV]
      have bV : Below zD.heap.size zD V := by rw [hV]; exact (Below.refl _ _).alloc (Nat.le_refl _) _
      have KY : Hid (V.heap[zD.heap.size]? = some (.cells #[.string ⟨#[]⟩, .int .i64 0, .int .i64 0, .string ⟨#[]⟩, .string ⟨#[]⟩] 29 (0, 0))) := Lib.hid (by rw [hV]; exact heap_new _ _)
      have LY : Hid (zD.heap.size < V.heap.size) := Lib.hid (by rw [hV]; simp)
      have NY : Hid (w2.heap.size ≤ zD.heap.size) := Lib.hid B2.out.size
      have GZ : Hid (g < zD.heap.size) := Lib.hid HW1.out.1
      replace KR := tkb bV LR KR
      replace LR := tlz LR bV.size
      replace DO := Lib.hid (DO.out.later bV)
      replace ER := Lib.hid (ER.out.later bV)
      replace HW1 := Lib.hid (HW1.out.later bV)
      replace BB := tbt BB bV
      replace B2 := tbt B2 bV
      clear bV hV
      refine hK.out _ _ (HSS.out _ HW1.out) (fun hHeld => ?_)
      clear hK K
      try simp only [getElem_toArray, getElem_cons_zero, getElem_cons_succ, Act.put, setIfInBounds_toArray, set_cons_zero, set_cons_succ]
      have fY0 := tcr KY 0
      have fY1 := tcr KY 1
      have fY2 := tcr KY 2
      have fY3 := tcr KY 3
      have fY4 := tcr KY 4
      have zY0 := tfr KY 0
      have zY1 := tfr KY 1
      have zY2 := tfr KY 2
      have zY3 := tfr KY 3
      have zY4 := tfr KY 4
      refine rd1 13 (fun K hK => ?_)
      go_simp
      obtain ⟨Y, hY⟩ : ∃ Y, Y = (((((V.setCell ⟨zD.heap.size, 0, none⟩ (.string (wd ws 0))).setCell ⟨zD.heap.size, 1, none⟩ (.int .i64 q)).setCell ⟨zD.heap.size, 2, none⟩ (.int .i64 (kd (wd ws 2)))).setCell ⟨zD.heap.size, 3, none⟩ (.string (wd ws 3))).setCell ⟨zD.heap.size, 4, none⟩ (.string ⟨#[]⟩)) := ⟨_, rfl⟩
      rw [← hY]
      have r0 := heap_setCell_same _ zD.heap.size 0 _ _ (.string (wd ws 0)) KY.out
      have r1 := heap_setCell_same _ zD.heap.size 1 _ _ (.int .i64 q) r0
      have r2 := heap_setCell_same _ zD.heap.size 2 _ _ (.int .i64 (kd (wd ws 2))) r1
      have r3 := heap_setCell_same _ zD.heap.size 3 _ _ (.string (wd ws 3)) r2
      have r4 := heap_setCell_same _ zD.heap.size 4 _ _ (.string ⟨#[]⟩) r3
      rw [← hY] at r4
      simp only [List.setIfInBounds_toArray, List.set_cons_zero, List.set_cons_succ] at r4
      have R4 := Lib.hid r4
      have gY : V.grownBy Y (some zD.heap.size) := by rw [hY]; exact ((((grown_set _ ⟨zD.heap.size, 0, none⟩ _).trans (grown_set _ ⟨zD.heap.size, 1, none⟩ _)).trans (grown_set _ ⟨zD.heap.size, 2, none⟩ _)).trans (grown_set _ ⟨zD.heap.size, 3, none⟩ _)).trans (grown_set _ ⟨zD.heap.size, 4, none⟩ _)
      clear fY0 fY1 fY2 fY3 fY4
      clear zY0 zY1 zY2 zY3 zY4
      have HWY : WordsAt Y g ws := HW1.out.grown gY (by have := GZ.out; omega)
      have BY : Hid (Below w2.heap.size w2 Y) := Lib.hid (B2.out.grown gY B2.out.size (fun k hk => by cases hk; exact NY.out))
      have LY2 : Hid (zD.heap.size < Y.heap.size) := Lib.hid (Nat.lt_of_lt_of_le LY.out gY.size)
      clear r0 r1 r2 r3 r4 hY gY
      refine hK.out _ _ (HSS.out _ HWY) (fun hHeld => ?_)
      clear hK K
      try simp only [getElem_toArray, getElem_cons_zero, getElem_cons_succ, Act.put, setIfInBounds_toArray, set_cons_zero, set_cons_succ]
      refine wpAnyH_done (by kernel_rfl) ?_ _
      clear hHeld HSS
      go_wp2_with fail
      go_meet
      exact ⟨zD.heap.size, rfl, R4, BY, Lib.hid ⟨NY.out, LY2.out⟩⟩
    · go_simp
      obtain ⟨V, hV⟩ : ∃ V, V = zD.alloc (.cells #[.string ⟨#[]⟩, .int .i64 0, .int .i64 0, .string ⟨#[]⟩, .string ⟨#[]⟩] 29) := ⟨_, rfl⟩
      rw [← hV]
      have bV : Below zD.heap.size zD V := by rw [hV]; exact (Below.refl _ _).alloc (Nat.le_refl _) _
      have KY : Hid (V.heap[zD.heap.size]? = some (.cells #[.string ⟨#[]⟩, .int .i64 0, .int .i64 0, .string ⟨#[]⟩, .string ⟨#[]⟩] 29 (0, 0))) := Lib.hid (by rw [hV]; exact heap_new _ _)
      have LY : Hid (zD.heap.size < V.heap.size) := Lib.hid (by rw [hV]; simp)
      have NY : Hid (w2.heap.size ≤ zD.heap.size) := Lib.hid B2.out.size
      have GZ : Hid (g < zD.heap.size) := Lib.hid HW1.out.1
      replace KR := tkb bV LR KR
      replace LR := tlz LR bV.size
      replace DO := Lib.hid (DO.out.later bV)
      replace ER := Lib.hid (ER.out.later bV)
      replace HW1 := Lib.hid (HW1.out.later bV)
      replace BB := tbt BB bV
      replace B2 := tbt B2 bV
      clear bV hV
      refine hK.out _ _ (HSS.out _ HW1.out) (fun hHeld => ?_)
      clear hK K
      try simp only [getElem_toArray, getElem_cons_zero, getElem_cons_succ, Act.put, setIfInBounds_toArray, set_cons_zero, set_cons_succ]
      refine rd1 7 (fun K hK => ?_)
      have hc := impl_kindOf (wd ws 2) V DO.out.1
      go_simp
      go_at_call 55
      refine hc.mono ?_
      rintro e wq ⟨rfl, rfl⟩
      clear hc
      go_wp2_with fail
      refine hK.out _ _ (HSS.out _ HW1.out) (fun hHeld => ?_)
      clear hK K
      refine tk0 11 ?_
      have fY0 := tcr KY 0
      have fY1 := tcr KY 1
      have fY2 := tcr KY 2
      have fY3 := tcr KY 3
      have fY4 := tcr KY 4
      have zY0 := tfr KY 0
      have zY1 := tfr KY 1
      have zY2 := tfr KY 2
      have zY3 := tfr KY 3
      have zY4 := tfr KY 4
      refine rd1 13 (fun K hK => ?_)
      go_simp
      obtain ⟨Y, hY⟩ : ∃ Y, Y = (((((V.setCell ⟨zD.heap.size, 0, none⟩ (.string (wd ws 0))).setCell ⟨zD.heap.size, 1, none⟩ (.int .i64 q)).setCell ⟨zD.heap.size, 2, none⟩ (.int .i64 (kd (wd ws 2)))).setCell ⟨zD.heap.size, 3, none⟩ (.string (wd ws 3))).setCell ⟨zD.heap.size, 4, none⟩ (.string ⟨#[]⟩)) := ⟨_, rfl⟩
      rw [← hY]
      have r0 := heap_setCell_same _ zD.heap.size 0 _ _ (.string (wd ws 0)) KY.out
      have r1 := heap_setCell_same _ zD.heap.size 1 _ _ (.int .i64 q) r0
      have r2 := heap_setCell_same _ zD.heap.size 2 _ _ (.int .i64 (kd (wd ws 2))) r1
      have r3 := heap_setCell_same _ zD.heap.size 3 _ _ (.string (wd ws 3)) r2
      have r4 := heap_setCell_same _ zD.heap.size 4 _ _ (.string ⟨#[]⟩) r3
      rw [← hY] at r4
      simp only [List.setIfInBounds_toArray, List.set_cons_zero, List.set_cons_succ] at r4
      have R4 := Lib.hid r4
      have gY : V.grownBy Y (some zD.heap.size) := by rw [hY]; exact ((((grown_set _ ⟨zD.heap.size, 0, none⟩ _).trans (grown_set _ ⟨zD.heap.size, 1, none⟩ _)).trans (grown_set _ ⟨zD.heap.size, 2, none⟩ _)).trans (grown_set _ ⟨zD.heap.size, 3, none⟩ _)).trans (grown_set _ ⟨zD.heap.size, 4, none⟩ _)
      clear fY0 fY1 fY2 fY3 fY4
      clear zY0 zY1 zY2 zY3 zY4
      have HWY : WordsAt Y g ws := HW1.out.grown gY (by have := GZ.out; omega)
      have BY : Hid (Below w2.heap.size w2 Y) := Lib.hid (B2.out.grown gY B2.out.size (fun k hk => by cases hk; exact NY.out))
      have LY2 : Hid (zD.heap.size < Y.heap.size) := Lib.hid (Nat.lt_of_lt_of_le LY.out gY.size)
      clear r0 r1 r2 r3 r4 hY gY
      refine hK.out _ _ (HSS.out _ HWY) (fun hHeld => ?_)
      clear hK K
      try simp only [getElem_toArray, getElem_cons_zero, getElem_cons_succ, Act.put, setIfInBounds_toArray, set_cons_zero, set_cons_succ]
      refine wpAnyH_done (by kernel_rfl) ?_ _
      clear hHeld HSS
      go_wp2_with fail
      go_meet
      exact ⟨zD.heap.size, rfl, R4, BY, Lib.hid ⟨NY.out, LY2.out⟩⟩
  case rest =>
    obtain ⟨yb, rfl, KY, bA, NY⟩ := hcut
    obtain ⟨w3, rfl⟩ : ∃ z, z = wc := ⟨_, rfl⟩
    replace KR := Lib.hid ((bA.out.block _ LR.out).trans KR.out)
    replace LR := Lib.hid (Nat.lt_of_lt_of_le LR.out bA.out.size)
    replace DO := Lib.hid (DO.out.later bA.out)
    replace ER := Lib.hid (ER.out.later bA.out)
    replace HW1 := Lib.hid (HW1.out.later bA.out)
    replace BB := Lib.hid (BB.out.trans (bA.out.mono BB.out.size))
    have LY : Hid (yb < w3.heap.size) := Lib.hid NY.out.2
    have NRY : Hid (w.heap.size < yb) := Lib.hid (Nat.lt_of_lt_of_le LR2.out NY.out.1)
    have HBA := bA
    have NY2 := NY
    clear bA NY
    by_cases h5 : 4 < ws.length
    · have h5' : decide ((4 : Int) < (ws.length : Int)) = true := by simp; omega
      have c4 := HW1.out.2 4 h5
      have hv : rqW ws q = ⟨wd ws 0, q, kd (wd ws 2), wd ws 3, wd ws 4⟩ := by unfold rqW; rw [if_pos h5]
      have HV := Lib.hid hv
      clear hv
      have r0 := heap_setCell_same _ yb 4 _ _ (.string (wd ws 4)) KY.out
      obtain ⟨Y, hY⟩ : ∃ Y, Y = w3.setCell ⟨yb, 4, none⟩ (.string (wd ws 4)) := ⟨_, rfl⟩
      have gY : w3.grownBy Y (some yb) := by rw [hY]; exact grown_set _ ⟨yb, 4, none⟩ _
      rw [← hY] at r0
      simp only [List.setIfInBounds_toArray, List.set_cons_zero, List.set_cons_succ] at r0
      have KYY : Hid (Y.heap[yb]? = some (.cells #[.string (wd ws 0), .int .i64 q, .int .i64 (kd (wd ws 2)), .string (wd ws 3), .string (wd ws 4)] 29 (0, 0))) := Lib.hid r0
      clear r0
      have hc := fun w => impl_opText (rqW ws q) w (fit_rqW HF.out Hs.out HQB.out)
      rw [HV.out] at hc
      unfold rqA at hc
      have HC := Lib.hid hc
      clear hc
      have BY : Hid (Below w.heap.size w Y) := Lib.hid (BB.out.grown gY BB.out.size (fun k hk => by cases hk; exact Nat.le_of_lt NRY.out))
      have DY := Lib.hid (DO2.out.later (HBA.out.grown gY HBA.out.size (fun k hk => by cases hk; exact NY2.out.1)))
      have KRY := Lib.hid ((gY.block _ LR.out (fun e => by have := NRY.out; simp only [Option.some.injEq] at e; omega)).trans KR.out)
      have LRY := Lib.hid (Nat.lt_of_lt_of_le LR.out gY.size)
      have LYY := Lib.hid (Nat.lt_of_lt_of_le LY.out gY.size)
      have HY := Lib.hid hY
      clear gY hY
      have fY0 := tcr KY 0
      have fY1 := tcr KY 1
      have fY2 := tcr KY 2
      have fY3 := tcr KY 3
      have fY4 := tcr KY 4
      have zY0 := tfr KY 0
      have zY1 := tfr KY 1
      have zY2 := tfr KY 2
      have zY3 := tfr KY 3
      have zY4 := tfr KY 4
      go_wp2_with (go_at_call 18; rw [← HY.out]; refine (HC.out Y DY.out).mono ?_; rintro e w4 ⟨rfl, hb4⟩; refine Hid.out ?_)
      refine Lib.hid ?_
      clear fY0 fY1 fY2 fY3 fY4
      clear zY0 zY1 zY2 zY3 zY4
      clear KY KR BB LR LY c4 HW1 DO ER
      have KY := KYY
      have KR := KRY
      have BB := BY
      have LR := LRY
      have LY := LYY
      clear KYY KRY BY LRY LYY HC HY DO2 DY HBA
      replace KR := tkb hb4 LR KR
      replace LR := tlz LR hb4.size
      replace KY := tkb hb4 LY KY
      replace LY := tlz LY hb4.size
      replace BB := tbt BB hb4
      clear hb4
      obtain ⟨T, hT⟩ : ∃ T, T = opText (rqW ws q) := ⟨_, rfl⟩
      have HTT := Lib.hid hT
      rw [HV.out] at hT
      rw [← hT]
      clear hT
      by_cases he : T = s
      · have he' := teq he
        have hne : (T.toList != s.toList) = false := by simp [bne, he']
        have HX : Hid (roX s = rqW ws q) := Lib.hid (HRO.out.2 (by rw [← HTT.out]; exact he))
        have HK : Hid (roOk s = true) := Lib.hid (by rw [HRO.out.1, ← HTT.out]; simp [he])
        clear he
        have fR0 := tcr KR 0
        have fR1 := tcr KR 1
        have fR2 := tcr KR 2
        have fR3 := tcr KR 3
        have fR4 := tcr KR 4
        have fY0 := tcr KY 0
        have fY1 := tcr KY 1
        have fY2 := tcr KY 2
        have fY3 := tcr KY 3
        have fY4 := tcr KY 4
        have zR0 := tfr KR 0
        have zR1 := tfr KR 1
        have zR2 := tfr KR 2
        have zR3 := tfr KR 3
        have zR4 := tfr KR 4
        go_wp2_with fail
        clear fR0 fR1 fR2 fR3 fR4 fY0 fY1 fY2 fY3 fY4
        clear zR0 zR1 zR2 zR3 zR4
        have hb : w.heap.size < w4.heap.size := LR.out
        have r0 := heap_setCell_same _ w.heap.size 0 _ _ (.string (wd ws 0)) KR.out
        have r1 := heap_setCell_same _ w.heap.size 1 _ _ (.int .i64 q) r0
        have r2 := heap_setCell_same _ w.heap.size 2 _ _ (.int .i64 (kd (wd ws 2))) r1
        have r3 := heap_setCell_same _ w.heap.size 3 _ _ (.string (wd ws 3)) r2
        have r4 := heap_setCell_same _ w.heap.size 4 _ _ (.string (wd ws 4)) r3
        simp only [List.setIfInBounds_toArray, List.set_cons_zero, List.set_cons_succ] at r4
        obtain ⟨j0, q1, q2, q3, q4⟩ := info_parts infoOp
        refine bodyPost_ret (results_two (P := Tryd.prog) rfl _ _ w.heap.size _ _ (0, 0) _ _ rfl rfl r4 Tryd.underlying29 rfl (by rw [q1]; simp [q3])) rfl ⟨by rw [HK.out, HX.out, HV.out]; rfl, ?_⟩
        exact ((((BB.out.setCell (p := ⟨w.heap.size, 0, none⟩) (Nat.le_refl _) _).setCell (p := ⟨w.heap.size, 1, none⟩) (Nat.le_refl _) _).setCell (p := ⟨w.heap.size, 2, none⟩) (Nat.le_refl _) _).setCell (p := ⟨w.heap.size, 3, none⟩) (Nat.le_refl _) _).setCell (p := ⟨w.heap.size, 4, none⟩) (Nat.le_refl _) _
      · have he' := tne he
        have hne : (T.toList != s.toList) = true := by simp [bne, he']
        have HK : Hid (roOk s = false) := Lib.hid (by rw [HRO.out.1, ← HTT.out]; simp [he])
        clear he
        have fR0 := tcr KR 0
        have fR1 := tcr KR 1
        have fR2 := tcr KR 2
        have fR3 := tcr KR 3
        have fR4 := tcr KR 4
        have zR0 := tfr KR 0
        have zR1 := tfr KR 1
        have zR2 := tfr KR 2
        have zR3 := tfr KR 3
        have zR4 := tfr KR 4
        go_wp2_with fail
        clear fR0 fR1 fR2 fR3 fR4
        clear zR0 zR1 zR2 zR3 zR4
        have HN := Lib.hid (HK.out : roOk s = false)
        have hb : w.heap.size < w4.heap.size := LR.out
        have r0 := heap_setCell_same _ w.heap.size 0 _ _ (.string ⟨#[]⟩) KR.out
        have r1 := heap_setCell_same _ w.heap.size 1 _ _ (.int .i64 0) r0
        have r2 := heap_setCell_same _ w.heap.size 2 _ _ (.int .i64 0) r1
        have r3 := heap_setCell_same _ w.heap.size 3 _ _ (.string ⟨#[]⟩) r2
        have r4 := heap_setCell_same _ w.heap.size 4 _ _ (.string ⟨#[]⟩) r3
        simp only [List.setIfInBounds_toArray, List.set_cons_zero, List.set_cons_succ] at r4
        obtain ⟨j0, q1, q2, q3, q4⟩ := info_parts infoOp
        refine bodyPost_ret (results_two (P := Tryd.prog) rfl _ _ w.heap.size _ _ (0, 0) _ _ rfl rfl r4 Tryd.underlying29 rfl (by rw [q1]; simp [q3])) rfl ⟨by unfold roX; rw [HN.out]; rfl, ?_⟩
        exact ((((BB.out.setCell (p := ⟨w.heap.size, 0, none⟩) (Nat.le_refl _) _).setCell (p := ⟨w.heap.size, 1, none⟩) (Nat.le_refl _) _).setCell (p := ⟨w.heap.size, 2, none⟩) (Nat.le_refl _) _).setCell (p := ⟨w.heap.size, 3, none⟩) (Nat.le_refl _) _).setCell (p := ⟨w.heap.size, 4, none⟩) (Nat.le_refl _) _
    · have h5' : decide ((4 : Int) < (ws.length : Int)) = false := by simp; omega
      have hv : rqW ws q = ⟨wd ws 0, q, kd (wd ws 2), wd ws 3, ⟨#[]⟩⟩ := by unfold rqW; rw [if_neg h5]
      have HV := Lib.hid hv
      clear hv
      have hc := impl_opText (rqW ws q) w3 (fit_rqW HF.out Hs.out HQB.out) DO.out
      rw [HV.out] at hc
      unfold rqA at hc
      have fY0 := tcr KY 0
      have fY1 := tcr KY 1
      have fY2 := tcr KY 2
      have fY3 := tcr KY 3
      have fY4 := tcr KY 4
      go_wp2_with (go_at_call 18; refine hc.mono ?_; rintro e w4 ⟨rfl, hb4⟩; refine Hid.out ?_)
      refine Lib.hid ?_
      clear fY0 fY1 fY2 fY3 fY4
      replace KR := tkb hb4 LR KR
      replace LR := tlz LR hb4.size
      replace KY := tkb hb4 LY KY
      replace LY := tlz LY hb4.size
      replace DO := Lib.hid (DO.out.later hb4)
      replace ER := Lib.hid (ER.out.later hb4)
      replace HW1 := Lib.hid (HW1.out.later hb4)
      replace BB := tbt BB hb4
      clear hc hb4
      obtain ⟨T, hT⟩ : ∃ T, T = opText (rqW ws q) := ⟨_, rfl⟩
      have HTT := Lib.hid hT
      rw [HV.out] at hT
      rw [← hT]
      clear hT
      by_cases he : T = s
      · have he' := teq he
        have hne : (T.toList != s.toList) = false := by simp [bne, he']
        have HX : Hid (roX s = rqW ws q) := Lib.hid (HRO.out.2 (by rw [← HTT.out]; exact he))
        have HK : Hid (roOk s = true) := Lib.hid (by rw [HRO.out.1, ← HTT.out]; simp [he])
        clear he
        have fR0 := tcr KR 0
        have fR1 := tcr KR 1
        have fR2 := tcr KR 2
        have fR3 := tcr KR 3
        have fR4 := tcr KR 4
        have fY0 := tcr KY 0
        have fY1 := tcr KY 1
        have fY2 := tcr KY 2
        have fY3 := tcr KY 3
        have fY4 := tcr KY 4
        have zR0 := tfr KR 0
        have zR1 := tfr KR 1
        have zR2 := tfr KR 2
        have zR3 := tfr KR 3
        have zR4 := tfr KR 4
        go_wp2_with fail
        clear fR0 fR1 fR2 fR3 fR4 fY0 fY1 fY2 fY3 fY4
        clear zR0 zR1 zR2 zR3 zR4
        have hb : w.heap.size < w4.heap.size := LR.out
        have r0 := heap_setCell_same _ w.heap.size 0 _ _ (.string (wd ws 0)) KR.out
        have r1 := heap_setCell_same _ w.heap.size 1 _ _ (.int .i64 q) r0
        have r2 := heap_setCell_same _ w.heap.size 2 _ _ (.int .i64 (kd (wd ws 2))) r1
        have r3 := heap_setCell_same _ w.heap.size 3 _ _ (.string (wd ws 3)) r2
        have r4 := heap_setCell_same _ w.heap.size 4 _ _ (.string ⟨#[]⟩) r3
        simp only [List.setIfInBounds_toArray, List.set_cons_zero, List.set_cons_succ] at r4
        obtain ⟨j0, q1, q2, q3, q4⟩ := info_parts infoOp
        refine bodyPost_ret (results_two (P := Tryd.prog) rfl _ _ w.heap.size _ _ (0, 0) _ _ rfl rfl r4 Tryd.underlying29 rfl (by rw [q1]; simp [q3])) rfl ⟨by rw [HK.out, HX.out, HV.out]; rfl, ?_⟩
        exact ((((BB.out.setCell (p := ⟨w.heap.size, 0, none⟩) (Nat.le_refl _) _).setCell (p := ⟨w.heap.size, 1, none⟩) (Nat.le_refl _) _).setCell (p := ⟨w.heap.size, 2, none⟩) (Nat.le_refl _) _).setCell (p := ⟨w.heap.size, 3, none⟩) (Nat.le_refl _) _).setCell (p := ⟨w.heap.size, 4, none⟩) (Nat.le_refl _) _
      · have he' := tne he
        have hne : (T.toList != s.toList) = true := by simp [bne, he']
        have HK : Hid (roOk s = false) := Lib.hid (by rw [HRO.out.1, ← HTT.out]; simp [he])
        clear he
        have fR0 := tcr KR 0
        have fR1 := tcr KR 1
        have fR2 := tcr KR 2
        have fR3 := tcr KR 3
        have fR4 := tcr KR 4
        have zR0 := tfr KR 0
        have zR1 := tfr KR 1
        have zR2 := tfr KR 2
        have zR3 := tfr KR 3
        have zR4 := tfr KR 4
        go_wp2_with fail
        clear fR0 fR1 fR2 fR3 fR4
        clear zR0 zR1 zR2 zR3 zR4
        have HN := Lib.hid (HK.out : roOk s = false)
        have hb : w.heap.size < w4.heap.size := LR.out
        have r0 := heap_setCell_same _ w.heap.size 0 _ _ (.string ⟨#[]⟩) KR.out
        have r1 := heap_setCell_same _ w.heap.size 1 _ _ (.int .i64 0) r0
        have r2 := heap_setCell_same _ w.heap.size 2 _ _ (.int .i64 0) r1
        have r3 := heap_setCell_same _ w.heap.size 3 _ _ (.string ⟨#[]⟩) r2
        have r4 := heap_setCell_same _ w.heap.size 4 _ _ (.string ⟨#[]⟩) r3
        simp only [List.setIfInBounds_toArray, List.set_cons_zero, List.set_cons_succ] at r4
        obtain ⟨j0, q1, q2, q3, q4⟩ := info_parts infoOp
        refine bodyPost_ret (results_two (P := Tryd.prog) rfl _ _ w.heap.size _ _ (0, 0) _ _ rfl rfl r4 Tryd.underlying29 rfl (by rw [q1]; simp [q3])) rfl ⟨by unfold roX; rw [HN.out]; rfl, ?_⟩
        exact ((((BB.out.setCell (p := ⟨w.heap.size, 0, none⟩) (Nat.le_refl _) _).setCell (p := ⟨w.heap.size, 1, none⟩) (Nat.le_refl _) _).setCell (p := ⟨w.heap.size, 2, none⟩) (Nat.le_refl _) _).setCell (p := ⟨w.heap.size, 3, none⟩) (Nat.le_refl _) _).setCell (p := ⟨w.heap.size, 4, none⟩) (Nat.le_refl _) _
end Go.Proofs.YtebmaplflpfjbaaDoor
