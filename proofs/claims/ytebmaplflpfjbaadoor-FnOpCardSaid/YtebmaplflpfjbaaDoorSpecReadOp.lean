/- What spec.ReadOp answers. Condition: the text has at most 2^20 bytes. -/
import Derived.Test.YtebmaplflpfjbaaDoorBaseA
import Derived.Test.YtebmaplflpfjbaaDoorSpecOpText2
import Derived.Test.YtebmaplflpfjbaaDoorReadOpForms
import Derived.Test.YtebmaplflpfjbaaDoorWords
import Derived.Test.YtebmaplflpfjbaaDoorSpecReadDec
import Derived.Deep.RegionHeld
import Derived.Deep.CutBlock
import Derived.Deep.DeepCutAuto
namespace Go.Proofs.YtebmaplflpfjbaaDoor
open Go.RowKit List
set_option linter.unusedVariables false
set_option linter.unusedSimpArgs false

/-- The kind as the model's loop finds it. -/
def kdTo (k : Nat) (b : ByteArray) : Int := match k with
  | 0 => -1
  | 1 => if b = ⟨#[103, 101, 116]⟩ then 0 else -1
  | 2 => if b = ⟨#[112, 117, 116]⟩ then 1 else if b = ⟨#[103, 101, 116]⟩ then 0 else -1
  | _ + 3 => if b = ⟨#[100, 101, 108]⟩ then 2 else if b = ⟨#[112, 117, 116]⟩ then 1 else if b = ⟨#[103, 101, 116]⟩ then 0 else -1
theorem kdTo_kd (b : ByteArray) : kdTo 3 b = kd b := by
  show (if b = ⟨#[100, 101, 108]⟩ then (2 : Int) else if b = ⟨#[112, 117, 116]⟩ then 1 else if b = ⟨#[103, 101, 116]⟩ then 0 else -1) = kd b
  unfold kd
  by_cases h0 : b = ⟨#[103, 101, 116]⟩
  · subst h0; decide +kernel
  · by_cases h1 : b = ⟨#[112, 117, 116]⟩
    · subst h1; decide +kernel
    · by_cases h2 : b = ⟨#[100, 101, 108]⟩
      · subst h2; decide +kernel
      · rw [if_neg h2, if_neg h1, if_neg h0, if_neg h0, if_neg h1, if_neg h2]
theorem rd_range (l : List UInt8) : -1 ≤ rd l ∧ rd l ≤ 999999999 := by
  unfold rd
  split
  · split
    · omega
    · omega
  · omega
theorem qs_range (b : ByteArray) : -9223372036854775808 ≤ qs b ∧ qs b ≤ 9223372036854775807 := by
  have := rd_range b.data.toList
  unfold qs
  split <;> omega
theorem ro_spec {s : ByteArray} {ws : List ByteArray} {q : Int} (hw : ws = wordsOf s) (h4 : 4 ≤ ws.length) (h5 : ws.length ≤ 5) (hq : q = qs (wd ws 1)) : roOk s = decide (opText (rqW ws q) = s) ∧ (opText (rqW ws q) = s → roX s = rqW ws q) := by
  subst hw; subst hq
  refine ⟨by unfold roOk; simp [h4, h5], fun h => ?_⟩
  unfold roX
  rw [if_pos (by unfold roOk; simp [h4, h5, h])]
theorem str_ne_of_words {s : ByteArray} {ws : List ByteArray} (hw : ws = wordsOf s) (h : 3 < ws.length) : s.toList.isEmpty = false ∧ ¬ s.toList = [] := by
  have hp := pos_of_words (s := s) (by rw [← hw]; omega)
  have hn : ¬ s.toList = [] := by
    intro e
    rw [ByteArray.toList_eq] at e
    have h2 : s.data.toList.length = s.size := by simp
    have h3 : s.data.toList.length = 0 := by rw [e]; rfl
    omega
  exact ⟨by cases h : s.toList with
    | nil => exact absurd h hn
    | cons _ _ => rfl, hn⟩
set_option maxRecDepth 100000 in
set_option maxHeartbeats 4000000 in
theorem spec_readOp (s : ByteArray) (w : World) (hs : s.size ≤ 1048576) :
    Calls Tryd.prog 21 #[.string s] w fun e w' => e = .returned (.tuple #[rqA (roX s), .bool (roOk s)]) ∧ Below w.heap.size w w' := by
  have Hs := Lib.hid hs
  obtain ⟨W, hW⟩ : ∃ W, W = w.alloc (.cells #[.string ⟨#[]⟩, .int .i64 0, .int .i64 0, .string ⟨#[]⟩, .string ⟨#[]⟩] 29) := ⟨_, rfl⟩
  have hbW : Below w.heap.size w W := by rw [hW]; exact (Below.refl _ _).alloc (Nat.le_refl _) _
  have KR : Hid (W.heap[w.heap.size]? = some (.cells #[.string ⟨#[]⟩, .int .i64 0, .int .i64 0, .string ⟨#[]⟩, .string ⟨#[]⟩] 29 (0, 0))) := Lib.hid (by rw [hW]; exact heap_new _ _)
  have LR : Hid (w.heap.size < W.heap.size) := Lib.hid (by rw [hW]; simp)
  have BB := Lib.hid hbW
  clear hbW hs
  have LR0 := LR
  have hc0 := spec_words s W (by have := Hs.out; omega)
  rw [hW] at hc0
  go_enter Tryd.func21, Tryd.ntmps21
  go_wp2_with (go_at_call 56; refine hc0.mono ?_; rintro e w1 ⟨vw, rfl, htx, hb1⟩; refine Hid.out ?_)
  refine Lib.hid ?_
  rw [← hW] at htx hb1
  clear hc0 hW
  replace KR := tkb hb1 LR KR
  replace LR := tlz LR hb1.size
  replace BB := tbt BB hb1
  have hsz := words_sizes s
  obtain ⟨ws, hws⟩ : ∃ ws, ws = wordsOf s := ⟨_, rfl⟩
  rw [← hws] at htx hsz
  have HWS := Lib.hid hws
  have HSZ := Lib.hid hsz
  clear hws hsz
  obtain ⟨cap, g, vs, rfl, HWD, HGN⟩ : ∃ (cap : Nat) (g : Nat) (a : Option Addr), vw = .slice a ws.length cap ∧ Hid (0 < ws.length → a = some ⟨g, 0, none⟩ ∧ WordsAt w1 g ws) ∧ Hid (w.heap.size < g) := words_form htx hb1 LR0.out
  clear htx hb1
  by_cases h45 : 4 ≤ ws.length ∧ ws.length ≤ 5
  case neg =>
    have hin : inB (ws.length : Int) 4 5 = false := by unfold inB; simp; omega
    have HK0 : Hid (roOk s = false) := Lib.hid (by unfold roOk; rw [← HWS.out]; simp; omega)
    have c5 := in_any (ws.length : Int) 4 5
    rw [hin] at c5
    clear hin h45
    go_wp2_with (go_at_call 46; refine (c5 _).mono ?_; rintro e wq ⟨rfl, rfl⟩; refine Hid.out ?_)
    refine Lib.hid ?_
    clear c5
    have fR0 := tcr KR 0
    have fR1 := tcr KR 1
    have fR2 := tcr KR 2
    have fR3 := tcr KR 3
    have fR4 := tcr KR 4
    have zR0 := tfr KR 0
    have zR1 := tfr KR 1
    have zR2 := tfr KR 2
    have zR3 := tfr KR 3
    have zR4 := tfr KR 4
    go_wp2_with fail
    clear fR0 fR1 fR2 fR3 fR4
    clear zR0 zR1 zR2 zR3 zR4
    have HN := Lib.hid (HK0.out : roOk s = false)
    have hb : w.heap.size < w1.heap.size := LR.out
    have r0 := heap_setCell_same _ w.heap.size 0 _ _ (.string ⟨#[]⟩) KR.out
    have r1 := heap_setCell_same _ w.heap.size 1 _ _ (.int .i64 0) r0
    have r2 := heap_setCell_same _ w.heap.size 2 _ _ (.int .i64 0) r1
    have r3 := heap_setCell_same _ w.heap.size 3 _ _ (.string ⟨#[]⟩) r2
    have r4 := heap_setCell_same _ w.heap.size 4 _ _ (.string ⟨#[]⟩) r3
    simp only [List.setIfInBounds_toArray, List.set_cons_zero, List.set_cons_succ] at r4
    obtain ⟨j0, q1, q2, q3, q4⟩ := info_parts infoOp
    refine bodyPost_ret (results_two (P := Tryd.prog) rfl _ _ w.heap.size _ _ (0, 0) _ _ rfl rfl r4 Tryd.underlying29 rfl (by rw [q1]; simp [q3])) rfl ⟨by unfold roX; rw [HN.out]; rfl, ?_⟩
    exact ((((BB.out.setCell (p := ⟨w.heap.size, 0, none⟩) (Nat.le_refl _) _).setCell (p := ⟨w.heap.size, 1, none⟩) (Nat.le_refl _) _).setCell (p := ⟨w.heap.size, 2, none⟩) (Nat.le_refl _) _).setCell (p := ⟨w.heap.size, 3, none⟩) (Nat.le_refl _) _).setCell (p := ⟨w.heap.size, 4, none⟩) (Nat.le_refl _) _
  obtain ⟨h4, h5⟩ := h45
  obtain ⟨rfl, hwd⟩ := HWD.out (by omega)
  have HW1 := Lib.hid hwd
  clear HWD hwd
  have hin : inB (ws.length : Int) 4 5 = true := by unfold inB; simp; omega
  have c5 := in_any (ws.length : Int) 4 5
  rw [hin] at c5
  clear hin
  have n0 : 0 < ws.length := by omega
  have g1 : (1 : Int) < (ws.length : Int) := by omega
  have g2 : (2 : Int) < (ws.length : Int) := by omega
  have g3 : (3 : Int) < (ws.length : Int) := by omega
  have n1 : 1 < ws.length := by omega
  have n2 : 2 < ws.length := by omega
  have n3 : 3 < ws.length := by omega
  have HF := Lib.hid (wd_size HSZ.out)
  go_wp2_with (go_at_call 46; refine (c5 _).mono ?_; rintro e wq ⟨rfl, rfl⟩; refine Hid.out ?_)
  refine Lib.hid ?_
  clear c5
  go_wp2_with fail
  have LR2 := LR
  go_cut [5] (fun y wx => ∃ yb : Nat, y = .pointer (some ⟨yb, 0, none⟩) ∧ Hid (wx.heap[yb]? = some (.cells #[.string (wd ws 0), .int .i64 (rd (wd ws 1).data.toList), .int .i64 (-1), .string (wd ws 3), .string ⟨#[]⟩] 29 (0, 0))) ∧ Hid (Below w1.heap.size w1 wx) ∧ Hid (w1.heap.size ≤ yb ∧ yb < wx.heap.size))
  case first =>
    have HSS : Hid (∀ w' : World, WordsAt w' g ws → w'.cell? ⟨g, 0, none⟩ = some (.string (wd ws 0)) ∧ w'.cell? ⟨g, 1, none⟩ = some (.string (wd ws 1)) ∧ w'.cell? ⟨g, 3, none⟩ = some (.string (wd ws 3))) := Lib.hid (fun w' h => ⟨h.2 0 n0, h.2 1 n1, h.2 3 n3⟩)
    refine wp_region_held_drew (S := (fun w' => w'.cell? ⟨g, 0, none⟩ = some (.string (wd ws 0)) ∧ w'.cell? ⟨g, 1, none⟩ = some (.string (wd ws 1)) ∧ w'.cell? ⟨g, 3, none⟩ = some (.string (wd ws 3)))) (by kernel_rfl) (HSS.out _ (HW1.out.later (Below.refl _ _).drew)) (fun hHeld => ?_)
    obtain ⟨zD, hzD⟩ : ∃ z, z = w1.drew := ⟨_, rfl⟩
    rw [← hzD] at hHeld ⊢
    have bzD : Below w1.heap.size w1 zD := by rw [hzD]; exact (Below.refl _ _).drew
    have B2 : Hid (Below w1.heap.size w1 zD) := Lib.hid bzD
    replace KR := tkb bzD LR KR
    replace LR := tlz LR bzD.size
    replace HW1 := Lib.hid (HW1.out.later bzD)
    replace BB := tbt BB bzD
    clear bzD hzD
    refine tk0 0 ?_
    refine tk0 1 ?_
    refine tk 2 (v := ?_) ?_ ?_; rotate_left
    · refine Or.inl ⟨by rfl, ?_⟩; intro w hSw; obtain ⟨c0, c1, c3⟩ := hSw; go_simp; first | done | with_reducible rfl
    refine tk0 3 ?_
    refine tk0 4 ?_
    refine tk 5 (v := ?_) ?_ ?_; rotate_left
    · refine Or.inl ⟨by rfl, ?_⟩; intro w hSw; obtain ⟨c0, c1, c3⟩ := hSw; go_simp; first | done | with_reducible rfl
    refine tk0 7 ?_
    refine tk0 8 ?_
    refine tk 9 (v := ?_) ?_ ?_; rotate_left
    · refine Or.inl ⟨by rfl, ?_⟩; intro w hSw; obtain ⟨c0, c1, c3⟩ := hSw; go_simp; first | done | with_reducible rfl
    refine rd2 6 11 (fun K hK => ?_) (fun K hK => ?_)
    · have hc := spec_readDec (wd ws 1) zD (by have := HF.out 1; have := Hs.out; unfold maxLen; omega)
      go_simp
      go_at_call 57
      refine hc.mono ?_
      rintro e wq ⟨rfl, rfl⟩
      clear hc
      go_wp2_with fail
      refine hK.out _ _ (HSS.out _ HW1.out) (fun hHeld => ?_)
      clear hK K
      refine tk0 10 ?_
      refine rd1 11 (fun K hK => ?_)
      go_simp
      obtain ⟨V, hV⟩ : ∃ V, V = zD.alloc (.cells #[.string ⟨#[]⟩, .int .i64 0, .int .i64 0, .string ⟨#[]⟩, .string ⟨#[]⟩] 29) := ⟨_, rfl⟩
      rw [← hV]
      have bV : Below zD.heap.size zD V := by rw [hV]; exact (Below.refl _ _).alloc (Nat.le_refl _) _
      have KY : Hid (V.heap[zD.heap.size]? = some (.cells #[.string ⟨#[]⟩, .int .i64 0, .int .i64 0, .string ⟨#[]⟩, .string ⟨#[]⟩] 29 (0, 0))) := Lib.hid (by rw [hV]; exact heap_new _ _)
      have LY : Hid (zD.heap.size < V.heap.size) := Lib.hid (by rw [hV]; simp)
      have NY : Hid (w1.heap.size ≤ zD.heap.size) := Lib.hid B2.out.size
      have GZ : Hid (g < zD.heap.size) := Lib.hid HW1.out.1
      replace KR := tkb bV LR KR
      replace LR := tlz LR bV.size
      replace HW1 := Lib.hid (HW1.out.later bV)
      replace BB := tbt BB bV
      replace B2 := tbt B2 bV
      clear bV hV
      refine hK.out _ _ (HSS.out _ HW1.out) (fun hHeld => ?_)
      clear hK K
      try simp only [getElem_toArray, getElem_cons_zero, getElem_cons_succ, Act.put, setIfInBounds_toArray, set_cons_zero, set_cons_succ]
      have fY0 := tcr KY 0
      have fY1 := tcr KY 1
      have fY2 := tcr KY 2
      have fY3 := tcr KY 3
      have fY4 := tcr KY 4
      have zY0 := tfr KY 0
      have zY1 := tfr KY 1
      have zY2 := tfr KY 2
      have zY3 := tfr KY 3
      have zY4 := tfr KY 4
      refine rd1 12 (fun K hK => ?_)
      go_simp
      obtain ⟨Y, hY⟩ : ∃ Y, Y = (((((V.setCell ⟨zD.heap.size, 0, none⟩ (.string (wd ws 0))).setCell ⟨zD.heap.size, 1, none⟩ (.int .i64 (rd (wd ws 1).data.toList))).setCell ⟨zD.heap.size, 2, none⟩ (.int .i64 (-1))).setCell ⟨zD.heap.size, 3, none⟩ (.string (wd ws 3))).setCell ⟨zD.heap.size, 4, none⟩ (.string ⟨#[]⟩)) := ⟨_, rfl⟩
      rw [← hY]
      have r0 := heap_setCell_same _ zD.heap.size 0 _ _ (.string (wd ws 0)) KY.out
      have r1 := heap_setCell_same _ zD.heap.size 1 _ _ (.int .i64 (rd (wd ws 1).data.toList)) r0
      have r2 := heap_setCell_same _ zD.heap.size 2 _ _ (.int .i64 (-1)) r1
      have r3 := heap_setCell_same _ zD.heap.size 3 _ _ (.string (wd ws 3)) r2
      have r4 := heap_setCell_same _ zD.heap.size 4 _ _ (.string ⟨#[]⟩) r3
      rw [← hY] at r4
      simp only [List.setIfInBounds_toArray, List.set_cons_zero, List.set_cons_succ] at r4
      have R4 := Lib.hid r4
      have gY : V.grownBy Y (some zD.heap.size) := by rw [hY]; exact ((((grown_set _ ⟨zD.heap.size, 0, none⟩ _).trans (grown_set _ ⟨zD.heap.size, 1, none⟩ _)).trans (grown_set _ ⟨zD.heap.size, 2, none⟩ _)).trans (grown_set _ ⟨zD.heap.size, 3, none⟩ _)).trans (grown_set _ ⟨zD.heap.size, 4, none⟩ _)
      clear fY0 fY1 fY2 fY3 fY4
      clear zY0 zY1 zY2 zY3 zY4
      have HWY : WordsAt Y g ws := HW1.out.grown gY (by have := GZ.out; omega)
      have BY : Hid (Below w1.heap.size w1 Y) := Lib.hid (B2.out.grown gY B2.out.size (fun k hk => by cases hk; exact NY.out))
      have LY2 : Hid (zD.heap.size < Y.heap.size) := Lib.hid (Nat.lt_of_lt_of_le LY.out gY.size)
      clear r0 r1 r2 r3 r4 hY gY
      refine hK.out _ _ (HSS.out _ HWY) (fun hHeld => ?_)
      clear hK K
      try simp only [getElem_toArray, getElem_cons_zero, getElem_cons_succ, Act.put, setIfInBounds_toArray, set_cons_zero, set_cons_succ]
      refine wpAnyH_done (by kernel_rfl) ?_ _
      clear hHeld HSS
      go_wp2_with fail
      go_meet
      exact ⟨zD.heap.size, rfl, R4, BY, Lib.hid ⟨NY.out, LY2.out⟩⟩
    · go_simp
      obtain ⟨V, hV⟩ : ∃ V, V = zD.alloc (.cells #[.string ⟨#[]⟩, .int .i64 0, .int .i64 0, .string ⟨#[]⟩, .string ⟨#[]⟩] 29) := ⟨_, rfl⟩
      rw [← hV]
      have bV : Below zD.heap.size zD V := by rw [hV]; exact (Below.refl _ _).alloc (Nat.le_refl _) _
      have KY : Hid (V.heap[zD.heap.size]? = some (.cells #[.string ⟨#[]⟩, .int .i64 0, .int .i64 0, .string ⟨#[]⟩, .string ⟨#[]⟩] 29 (0, 0))) := Lib.hid (by rw [hV]; exact heap_new _ _)
      have LY : Hid (zD.heap.size < V.heap.size) := Lib.hid (by rw [hV]; simp)
      have NY : Hid (w1.heap.size ≤ zD.heap.size) := Lib.hid B2.out.size
      have GZ : Hid (g < zD.heap.size) := Lib.hid HW1.out.1
      replace KR := tkb bV LR KR
      replace LR := tlz LR bV.size
      replace HW1 := Lib.hid (HW1.out.later bV)
      replace BB := tbt BB bV
      replace B2 := tbt B2 bV
      clear bV hV
      refine hK.out _ _ (HSS.out _ HW1.out) (fun hHeld => ?_)
      clear hK K
      try simp only [getElem_toArray, getElem_cons_zero, getElem_cons_succ, Act.put, setIfInBounds_toArray, set_cons_zero, set_cons_succ]
      refine rd1 6 (fun K hK => ?_)
      have hc := spec_readDec (wd ws 1) V (by have := HF.out 1; have := Hs.out; unfold maxLen; omega)
      go_simp
      go_at_call 57
      refine hc.mono ?_
      rintro e wq ⟨rfl, rfl⟩
      clear hc
      go_wp2_with fail
      refine hK.out _ _ (HSS.out _ HW1.out) (fun hHeld => ?_)
      clear hK K
      refine tk0 10 ?_
      have fY0 := tcr KY 0
      have fY1 := tcr KY 1
      have fY2 := tcr KY 2
      have fY3 := tcr KY 3
      have fY4 := tcr KY 4
      have zY0 := tfr KY 0
      have zY1 := tfr KY 1
      have zY2 := tfr KY 2
      have zY3 := tfr KY 3
      have zY4 := tfr KY 4
      refine rd1 12 (fun K hK => ?_)
      go_simp
      obtain ⟨Y, hY⟩ : ∃ Y, Y = (((((V.setCell ⟨zD.heap.size, 0, none⟩ (.string (wd ws 0))).setCell ⟨zD.heap.size, 1, none⟩ (.int .i64 (rd (wd ws 1).data.toList))).setCell ⟨zD.heap.size, 2, none⟩ (.int .i64 (-1))).setCell ⟨zD.heap.size, 3, none⟩ (.string (wd ws 3))).setCell ⟨zD.heap.size, 4, none⟩ (.string ⟨#[]⟩)) := ⟨_, rfl⟩
      rw [← hY]
      have r0 := heap_setCell_same _ zD.heap.size 0 _ _ (.string (wd ws 0)) KY.out
      have r1 := heap_setCell_same _ zD.heap.size 1 _ _ (.int .i64 (rd (wd ws 1).data.toList)) r0
      have r2 := heap_setCell_same _ zD.heap.size 2 _ _ (.int .i64 (-1)) r1
      have r3 := heap_setCell_same _ zD.heap.size 3 _ _ (.string (wd ws 3)) r2
      have r4 := heap_setCell_same _ zD.heap.size 4 _ _ (.string ⟨#[]⟩) r3
      rw [← hY] at r4
      simp only [List.setIfInBounds_toArray, List.set_cons_zero, List.set_cons_succ] at r4
      have R4 := Lib.hid r4
      have gY : V.grownBy Y (some zD.heap.size) := by rw [hY]; exact ((((grown_set _ ⟨zD.heap.size, 0, none⟩ _).trans (grown_set _ ⟨zD.heap.size, 1, none⟩ _)).trans (grown_set _ ⟨zD.heap.size, 2, none⟩ _)).trans (grown_set _ ⟨zD.heap.size, 3, none⟩ _)).trans (grown_set _ ⟨zD.heap.size, 4, none⟩ _)
      clear fY0 fY1 fY2 fY3 fY4
      clear zY0 zY1 zY2 zY3 zY4
      have HWY : WordsAt Y g ws := HW1.out.grown gY (by have := GZ.out; omega)
      have BY : Hid (Below w1.heap.size w1 Y) := Lib.hid (B2.out.grown gY B2.out.size (fun k hk => by cases hk; exact NY.out))
      have LY2 : Hid (zD.heap.size < Y.heap.size) := Lib.hid (Nat.lt_of_lt_of_le LY.out gY.size)
      clear r0 r1 r2 r3 r4 hY gY
      refine hK.out _ _ (HSS.out _ HWY) (fun hHeld => ?_)
      clear hK K
      try simp only [getElem_toArray, getElem_cons_zero, getElem_cons_succ, Act.put, setIfInBounds_toArray, set_cons_zero, set_cons_succ]
      refine wpAnyH_done (by kernel_rfl) ?_ _
      clear hHeld HSS
      go_wp2_with fail
      go_meet
      exact ⟨zD.heap.size, rfl, R4, BY, Lib.hid ⟨NY.out, LY2.out⟩⟩
  case rest =>
    obtain ⟨yb, rfl, KY, bA, NY⟩ := hcut
    obtain ⟨w3, rfl⟩ : ∃ z, z = wc := ⟨_, rfl⟩
    have NRY : Hid (w.heap.size < yb) := Lib.hid (Nat.lt_of_lt_of_le LR2.out NY.out.1)
    have NYL : Hid (w1.heap.size ≤ yb) := Lib.hid NY.out.1
    have LY0 : Hid (yb < w3.heap.size) := Lib.hid NY.out.2
    go_wp2_with fail
    go_loopw [6] (fun i wr => ∃ k : Nat, k ≤ 3 ∧ i = .int .i64 k ∧ Hid (wr.heap[yb]? = some (.cells #[.string (wd ws 0), .int .i64 (rd (wd ws 1).data.toList), .int .i64 (kdTo k (wd ws 2)), .string (wd ws 3), .string ⟨#[]⟩] 29 (0, 0))) ∧ Hid (Below w1.heap.size w1 wr) ∧ Hid (yb < wr.heap.size)) (fun i _ => 3 - (intOf i).toNat)
    case atStart => exact ⟨0, by omega, rfl, KY, bA, LY0⟩
    case round =>
      clear KY bA LY0 NY
      obtain ⟨k, hk, rfl, KY, bA, LY⟩ := hrel
      replace KR := Lib.hid ((bA.out.block _ LR.out).trans KR.out)
      replace LR := Lib.hid (Nat.lt_of_lt_of_le LR.out bA.out.size)
      replace BB := Lib.hid (BB.out.trans (bA.out.mono BB.out.size))
      replace HW1 := Lib.hid (HW1.out.later bA.out)
      by_cases hlt : k < 3
      · have hk3 : k = 0 ∨ k = 1 ∨ k = 2 := by omega
        clear hlt hk
        rcases hk3 with rfl | rfl | rfl
        · have HSS : Hid (∀ w' : World, WordsAt w' g ws → w'.cell? ⟨g, 2, none⟩ = some (.string (wd ws 2))) := Lib.hid (fun w' h => h.2 2 n2)
          go_wp2_with fail
          refine wp_region_held_drew (S := (fun w' => w'.cell? ⟨g, 2, none⟩ = some (.string (wd ws 2)))) (by kernel_rfl) (HSS.out _ (HW1.out.later (Below.refl _ _).drew)) (fun hHeld => ?_)
          obtain ⟨zD, hzD⟩ : ∃ z, z = wr.drew := ⟨_, rfl⟩
          rw [← hzD] at hHeld ⊢
          have bzD : Below wr.heap.size wr zD := by rw [hzD]; exact (Below.refl _ _).drew
          replace KR := tkb bzD LR KR
          replace LR := tlz LR bzD.size
          replace KY := tkb bzD LY KY
          replace LY := tlz LY bzD.size
          replace HW1 := Lib.hid (HW1.out.later bzD)
          replace BB := tbt BB bzD
          replace bA := tbt bA bzD
          clear bzD hzD
          refine tk0 0 ?_
          refine tk0 1 ?_
          refine tk 2 (v := ?_) ?_ ?_; rotate_left
          · refine Or.inl ⟨by rfl, ?_⟩; intro w hSw; have c2 := hSw; go_simp; first | done | with_reducible rfl
          refine tk0 4 ?_
          refine rd1 3 (fun K hK => ?_)
          go_simp
          obtain ⟨V, hV⟩ : ∃ V, V = zD.alloc (.cells #[.string ⟨#[103, 101, 116]⟩, .string ⟨#[112, 117, 116]⟩, .string ⟨#[100, 101, 108]⟩] 9) := ⟨_, rfl⟩
          rw [← hV]
          have bV : Below zD.heap.size zD V := by rw [hV]; exact (Below.refl _ _).alloc (Nat.le_refl _) _
          have fV := cell_of_row V zD.heap.size 0 _ _ _ (by rw [hV]; exact heap_new _ _)
          simp only [List.getElem?_toArray, List.getElem?_cons_zero, List.getElem?_cons_succ] at fV
          have FV := Lib.hid fV
          replace KR := tkb bV LR KR
          replace LR := tlz LR bV.size
          replace KY := tkb bV LY KY
          replace LY := tlz LY bV.size
          replace HW1 := Lib.hid (HW1.out.later bV)
          replace BB := tbt BB bV
          replace bA := tbt bA bV
          clear bV hV fV
          refine hK.out _ _ (HSS.out _ HW1.out) (fun hHeld => ?_)
          clear hK K
          refine tk0 5 ?_
          refine rd1 6 (fun K hK => ?_)
          have fV := FV.out
          go_simp
          clear fV
          refine hK.out _ _ (HSS.out _ HW1.out) (fun hHeld => ?_)
          clear hK K
          refine tk0 7 ?_
          refine wpAnyH_done (by kernel_rfl) ?_ _
          clear hHeld HSS FV
          by_cases he : wd ws 2 = ⟨#[103, 101, 116]⟩
          · have he' := teq he
            rw [ByteArray.toList_eq ⟨#[103, 101, 116]⟩] at he'
            change ((wd ws 2).toList == [103, 101, 116]) = true at he'
            simp only [he']
            clear he'
            have HKD : Hid (kdTo 1 (wd ws 2) = 0) := Lib.hid (if_pos he)
            clear he
            have fY0 := tcr KY 0
            have fY1 := tcr KY 1
            have fY2 := tcr KY 2
            have fY3 := tcr KY 3
            have fY4 := tcr KY 4
            have zY0 := tfr KY 0
            have zY1 := tfr KY 1
            have zY2 := tfr KY 2
            have zY3 := tfr KY 3
            have zY4 := tfr KY 4
            have r0 := heap_setCell_same _ yb 2 _ _ (.int .i64 0) KY.out
            simp only [List.setIfInBounds_toArray, List.set_cons_zero, List.set_cons_succ] at r0
            have R0 := Lib.hid r0
            clear r0
            have BY : Hid (Below w1.heap.size w1 (V.setCell ⟨yb, 2, none⟩ (.int .i64 0))) := Lib.hid (bA.out.setCell (p := ⟨yb, 2, none⟩) NYL.out _)
            have LYv : Hid (yb < (V.setCell ⟨yb, 2, none⟩ (.int .i64 0)).heap.size) := Lib.hid (by simpa using LY.out)
            go_wp2_with fail
            clear fY0 fY1 fY2 fY3 fY4
            clear zY0 zY1 zY2 zY3 zY4
            go_roundw
            case rel => exact ⟨1, by omega, by go_num, by rw [HKD.out]; exact R0, BY, LYv⟩
            case measure => simp [intOf]
          · have he' := tne he
            rw [ByteArray.toList_eq ⟨#[103, 101, 116]⟩] at he'
            change ((wd ws 2).toList == [103, 101, 116]) = false at he'
            simp only [he']
            clear he'
            have HKD : Hid (kdTo 1 (wd ws 2) = kdTo 0 (wd ws 2)) := Lib.hid (if_neg he)
            clear he
            go_wp2_with fail
            go_roundw
            case rel => exact ⟨1, by omega, by go_num, by rw [HKD.out]; exact KY, bA, LY⟩
            case measure => simp [intOf]
        · have HSS : Hid (∀ w' : World, WordsAt w' g ws → w'.cell? ⟨g, 2, none⟩ = some (.string (wd ws 2))) := Lib.hid (fun w' h => h.2 2 n2)
          go_wp2_with fail
          refine wp_region_held_drew (S := (fun w' => w'.cell? ⟨g, 2, none⟩ = some (.string (wd ws 2)))) (by kernel_rfl) (HSS.out _ (HW1.out.later (Below.refl _ _).drew)) (fun hHeld => ?_)
          obtain ⟨zD, hzD⟩ : ∃ z, z = wr.drew := ⟨_, rfl⟩
          rw [← hzD] at hHeld ⊢
          have bzD : Below wr.heap.size wr zD := by rw [hzD]; exact (Below.refl _ _).drew
          replace KR := tkb bzD LR KR
          replace LR := tlz LR bzD.size
          replace KY := tkb bzD LY KY
          replace LY := tlz LY bzD.size
          replace HW1 := Lib.hid (HW1.out.later bzD)
          replace BB := tbt BB bzD
          replace bA := tbt bA bzD
          clear bzD hzD
          refine tk0 0 ?_
          refine tk0 1 ?_
          refine tk 2 (v := ?_) ?_ ?_; rotate_left
          · refine Or.inl ⟨by rfl, ?_⟩; intro w hSw; have c2 := hSw; go_simp; first | done | with_reducible rfl
          refine tk0 4 ?_
          refine rd1 3 (fun K hK => ?_)
          go_simp
          obtain ⟨V, hV⟩ : ∃ V, V = zD.alloc (.cells #[.string ⟨#[103, 101, 116]⟩, .string ⟨#[112, 117, 116]⟩, .string ⟨#[100, 101, 108]⟩] 9) := ⟨_, rfl⟩
          rw [← hV]
          have bV : Below zD.heap.size zD V := by rw [hV]; exact (Below.refl _ _).alloc (Nat.le_refl _) _
          have fV := cell_of_row V zD.heap.size 1 _ _ _ (by rw [hV]; exact heap_new _ _)
          simp only [List.getElem?_toArray, List.getElem?_cons_zero, List.getElem?_cons_succ] at fV
          have FV := Lib.hid fV
          replace KR := tkb bV LR KR
          replace LR := tlz LR bV.size
          replace KY := tkb bV LY KY
          replace LY := tlz LY bV.size
          replace HW1 := Lib.hid (HW1.out.later bV)
          replace BB := tbt BB bV
          replace bA := tbt bA bV
          clear bV hV fV
          refine hK.out _ _ (HSS.out _ HW1.out) (fun hHeld => ?_)
          clear hK K
          refine tk0 5 ?_
          refine rd1 6 (fun K hK => ?_)
          have fV := FV.out
          go_simp
          clear fV
          refine hK.out _ _ (HSS.out _ HW1.out) (fun hHeld => ?_)
          clear hK K
          refine tk0 7 ?_
          refine wpAnyH_done (by kernel_rfl) ?_ _
          clear hHeld HSS FV
          by_cases he : wd ws 2 = ⟨#[112, 117, 116]⟩
          · have he' := teq he
            rw [ByteArray.toList_eq ⟨#[112, 117, 116]⟩] at he'
            change ((wd ws 2).toList == [112, 117, 116]) = true at he'
            simp only [he']
            clear he'
            have HKD : Hid (kdTo 2 (wd ws 2) = 1) := Lib.hid (if_pos he)
            clear he
            have fY0 := tcr KY 0
            have fY1 := tcr KY 1
            have fY2 := tcr KY 2
            have fY3 := tcr KY 3
            have fY4 := tcr KY 4
            have zY0 := tfr KY 0
            have zY1 := tfr KY 1
            have zY2 := tfr KY 2
            have zY3 := tfr KY 3
            have zY4 := tfr KY 4
            have r0 := heap_setCell_same _ yb 2 _ _ (.int .i64 1) KY.out
            simp only [List.setIfInBounds_toArray, List.set_cons_zero, List.set_cons_succ] at r0
            have R0 := Lib.hid r0
            clear r0
            have BY : Hid (Below w1.heap.size w1 (V.setCell ⟨yb, 2, none⟩ (.int .i64 1))) := Lib.hid (bA.out.setCell (p := ⟨yb, 2, none⟩) NYL.out _)
            have LYv : Hid (yb < (V.setCell ⟨yb, 2, none⟩ (.int .i64 1)).heap.size) := Lib.hid (by simpa using LY.out)
            go_wp2_with fail
            clear fY0 fY1 fY2 fY3 fY4
            clear zY0 zY1 zY2 zY3 zY4
            go_roundw
            case rel => exact ⟨2, by omega, by go_num, by rw [HKD.out]; exact R0, BY, LYv⟩
            case measure => simp [intOf]
          · have he' := tne he
            rw [ByteArray.toList_eq ⟨#[112, 117, 116]⟩] at he'
            change ((wd ws 2).toList == [112, 117, 116]) = false at he'
            simp only [he']
            clear he'
            have HKD : Hid (kdTo 2 (wd ws 2) = kdTo 1 (wd ws 2)) := Lib.hid (if_neg he)
            clear he
            go_wp2_with fail
            go_roundw
            case rel => exact ⟨2, by omega, by go_num, by rw [HKD.out]; exact KY, bA, LY⟩
            case measure => simp [intOf]
        · have HSS : Hid (∀ w' : World, WordsAt w' g ws → w'.cell? ⟨g, 2, none⟩ = some (.string (wd ws 2))) := Lib.hid (fun w' h => h.2 2 n2)
          go_wp2_with fail
          refine wp_region_held_drew (S := (fun w' => w'.cell? ⟨g, 2, none⟩ = some (.string (wd ws 2)))) (by kernel_rfl) (HSS.out _ (HW1.out.later (Below.refl _ _).drew)) (fun hHeld => ?_)
          obtain ⟨zD, hzD⟩ : ∃ z, z = wr.drew := ⟨_, rfl⟩
          rw [← hzD] at hHeld ⊢
          have bzD : Below wr.heap.size wr zD := by rw [hzD]; exact (Below.refl _ _).drew
          replace KR := tkb bzD LR KR
          replace LR := tlz LR bzD.size
          replace KY := tkb bzD LY KY
          replace LY := tlz LY bzD.size
          replace HW1 := Lib.hid (HW1.out.later bzD)
          replace BB := tbt BB bzD
          replace bA := tbt bA bzD
          clear bzD hzD
          refine tk0 0 ?_
          refine tk0 1 ?_
          refine tk 2 (v := ?_) ?_ ?_; rotate_left
          · refine Or.inl ⟨by rfl, ?_⟩; intro w hSw; have c2 := hSw; go_simp; first | done | with_reducible rfl
          refine tk0 4 ?_
          refine rd1 3 (fun K hK => ?_)
          go_simp
          obtain ⟨V, hV⟩ : ∃ V, V = zD.alloc (.cells #[.string ⟨#[103, 101, 116]⟩, .string ⟨#[112, 117, 116]⟩, .string ⟨#[100, 101, 108]⟩] 9) := ⟨_, rfl⟩
          rw [← hV]
          have bV : Below zD.heap.size zD V := by rw [hV]; exact (Below.refl _ _).alloc (Nat.le_refl _) _
          have fV := cell_of_row V zD.heap.size 2 _ _ _ (by rw [hV]; exact heap_new _ _)
          simp only [List.getElem?_toArray, List.getElem?_cons_zero, List.getElem?_cons_succ] at fV
          have FV := Lib.hid fV
          replace KR := tkb bV LR KR
          replace LR := tlz LR bV.size
          replace KY := tkb bV LY KY
          replace LY := tlz LY bV.size
          replace HW1 := Lib.hid (HW1.out.later bV)
          replace BB := tbt BB bV
          replace bA := tbt bA bV
          clear bV hV fV
          refine hK.out _ _ (HSS.out _ HW1.out) (fun hHeld => ?_)
          clear hK K
          refine tk0 5 ?_
          refine rd1 6 (fun K hK => ?_)
          have fV := FV.out
          go_simp
          clear fV
          refine hK.out _ _ (HSS.out _ HW1.out) (fun hHeld => ?_)
          clear hK K
          refine tk0 7 ?_
          refine wpAnyH_done (by kernel_rfl) ?_ _
          clear hHeld HSS FV
          by_cases he : wd ws 2 = ⟨#[100, 101, 108]⟩
          · have he' := teq he
            rw [ByteArray.toList_eq ⟨#[100, 101, 108]⟩] at he'
            change ((wd ws 2).toList == [100, 101, 108]) = true at he'
            simp only [he']
            clear he'
            have HKD : Hid (kdTo 3 (wd ws 2) = 2) := Lib.hid (if_pos he)
            clear he
            have fY0 := tcr KY 0
            have fY1 := tcr KY 1
            have fY2 := tcr KY 2
            have fY3 := tcr KY 3
            have fY4 := tcr KY 4
            have zY0 := tfr KY 0
            have zY1 := tfr KY 1
            have zY2 := tfr KY 2
            have zY3 := tfr KY 3
            have zY4 := tfr KY 4
            have r0 := heap_setCell_same _ yb 2 _ _ (.int .i64 2) KY.out
            simp only [List.setIfInBounds_toArray, List.set_cons_zero, List.set_cons_succ] at r0
            have R0 := Lib.hid r0
            clear r0
            have BY : Hid (Below w1.heap.size w1 (V.setCell ⟨yb, 2, none⟩ (.int .i64 2))) := Lib.hid (bA.out.setCell (p := ⟨yb, 2, none⟩) NYL.out _)
            have LYv : Hid (yb < (V.setCell ⟨yb, 2, none⟩ (.int .i64 2)).heap.size) := Lib.hid (by simpa using LY.out)
            go_wp2_with fail
            clear fY0 fY1 fY2 fY3 fY4
            clear zY0 zY1 zY2 zY3 zY4
            go_roundw
            case rel => exact ⟨3, by omega, by go_num, by rw [HKD.out]; exact R0, BY, LYv⟩
            case measure => simp [intOf]
          · have he' := tne he
            rw [ByteArray.toList_eq ⟨#[100, 101, 108]⟩] at he'
            change ((wd ws 2).toList == [100, 101, 108]) = false at he'
            simp only [he']
            clear he'
            have HKD : Hid (kdTo 3 (wd ws 2) = kdTo 2 (wd ws 2)) := Lib.hid (if_neg he)
            clear he
            go_wp2_with fail
            go_roundw
            case rel => exact ⟨3, by omega, by go_num, by rw [HKD.out]; exact KY, bA, LY⟩
            case measure => simp [intOf]
      · obtain rfl : k = 3 := by omega
        rw [kdTo_kd] at KY
        clear hlt hk
        go_wp2_with fail
        have HSS : Hid (∀ w' : World, WordsAt w' g ws → w'.cell? ⟨g, 1, none⟩ = some (.string (wd ws 1))) := Lib.hid (fun w' h => h.2 1 n1)
        obtain ⟨D, hD⟩ : ∃ D, D = decS 1000000000 := ⟨_, rfl⟩
        have HD := Lib.hid hD
        have hcd : ∀ w, Calls Tryd.prog 58 #[.int .i64 1000000000] w fun e w' => e = .returned (.string D) ∧ w = w' := by rw [hD]; exact spec_decText 1000000000 (by omega) (by omega)
        have HCD := Lib.hid hcd
        clear hD hcd
        refine wp_region_held_drew (S := (fun w' => w'.cell? ⟨g, 1, none⟩ = some (.string (wd ws 1)))) (by kernel_rfl) (HSS.out _ (HW1.out.later (Below.refl _ _).drew)) (fun hHeld => ?_)
        obtain ⟨zD, hzD⟩ : ∃ z, z = wr.drew := ⟨_, rfl⟩
        rw [← hzD] at hHeld ⊢
        have bzD : Below wr.heap.size wr zD := by rw [hzD]; exact (Below.refl _ _).drew
        replace KR := tkb bzD LR KR
        replace LR := tlz LR bzD.size
        replace KY := tkb bzD LY KY
        replace LY := tlz LY bzD.size
        replace HW1 := Lib.hid (HW1.out.later bzD)
        replace BB := tbt BB bzD
        clear bzD hzD
        refine tk0 0 ?_
        refine tk0 1 ?_
        refine tk 2 (v := ?_) ?_ ?_; rotate_left
        · refine Or.inl ⟨by rfl, ?_⟩; intro w hSw; have c1 := hSw; go_simp; first | done | with_reducible rfl
        refine rd1 3 (fun K hK => ?_)
        go_simp
        go_at_call 58
        refine (HCD.out _).mono ?_
        rintro e wq ⟨rfl, rfl⟩
        go_wp2_with fail
        refine hK.out _ _ (HSS.out _ HW1.out) (fun hHeld => ?_)
        clear hK K
        refine tk0 4 ?_
        refine wpAnyH_done (by kernel_rfl) ?_ _
        clear hHeld HSS HCD
        by_cases hq : wd ws 1 = D
        · have hq' := teq hq
          simp only [hq']
          clear hq'
          have HQ : Hid (qs (wd ws 1) = 1000000000) := Lib.hid (by unfold qs; rw [if_pos (by rw [hq, HD.out])])
          clear hq
          obtain ⟨q, hqq⟩ : ∃ q, q = qs (wd ws 1) := ⟨_, rfl⟩
          have HQQ := Lib.hid hqq
          have HRO : Hid (roOk s = decide (opText (rqW ws q) = s) ∧ (opText (rqW ws q) = s → roX s = rqW ws q)) := Lib.hid (ro_spec HWS.out h4 h5 hqq)
          have HQB : Hid (-9223372036854775808 ≤ q ∧ q ≤ 9223372036854775807) := Lib.hid (by rw [hqq]; exact qs_range _)
          rw [← hqq] at HQ
          clear hqq
          by_cases h5e : ws.length = 5
          · have h5' : ((ws.length : Int) == 5) = true := by simp [h5e]
            have c4 := HW1.out.2 4 (by omega)
            have g4 : (4 : Int) < (ws.length : Int) := by omega
            have HV : Hid (rqW ws q = ⟨wd ws 0, q, kd (wd ws 2), wd ws 3, wd ws 4⟩) := Lib.hid (by unfold rqW; rw [if_pos (by omega)])
            clear h5e h5 h4
            have r0 := heap_setCell_same _ yb 1 _ _ (.int .i64 1000000000) KY.out
            have r1 := heap_setCell_same _ yb 4 _ _ (.string (wd ws 4)) r0
            obtain ⟨Y, hY⟩ : ∃ Y, Y = ((zD.setCell ⟨yb, 1, none⟩ (.int .i64 1000000000)).setCell ⟨yb, 4, none⟩ (.string (wd ws 4))) := ⟨_, rfl⟩
            simp only [List.setIfInBounds_toArray, List.set_cons_zero, List.set_cons_succ] at r1
            rw [← hY] at r1
            have KYY : Hid (Y.heap[yb]? = some (.cells #[.string (wd ws 0), .int .i64 1000000000, .int .i64 (kd (wd ws 2)), .string (wd ws 3), .string (wd ws 4)] 29 (0, 0))) := Lib.hid r1
            have gY : zD.grownBy Y (some yb) := by rw [hY]; exact ((grown_set _ ⟨yb, 1, none⟩ _).trans (grown_set _ ⟨yb, 4, none⟩ _))
            clear r0 r1
            have KRY := Lib.hid ((gY.block _ LR.out (fun e => by have := NRY.out; simp only [Option.some.injEq] at e; omega)).trans KR.out)
            have LRY := Lib.hid (Nat.lt_of_lt_of_le LR.out gY.size)
            have LYY := Lib.hid (Nat.lt_of_lt_of_le LY.out gY.size)
            have BY : Hid (Below w.heap.size w Y) := Lib.hid (BB.out.grown gY BB.out.size (fun k hk => by cases hk; exact Nat.le_of_lt NRY.out))
            clear gY
            have hc := spec_opText (rqW ws q) Y (fit_rqW HF.out Hs.out HQB.out)
            rw [HV.out, HQ.out] at hc
            unfold rqA at hc
            have HC := Lib.hid hc
            have HY := Lib.hid hY
            clear hc hY
            have hse := str_ne_of_words HWS.out n3
            have HSE := Lib.hid hse
            obtain ⟨hse1, hse2⟩ := hse
            have fY0 := tcr KY 0
            have fY1 := tcr KY 1
            have fY2 := tcr KY 2
            have fY3 := tcr KY 3
            have fY4 := tcr KY 4
            have zY0 := tfr KY 0
            have zY1 := tfr KY 1
            have zY2 := tfr KY 2
            have zY3 := tfr KY 3
            have zY4 := tfr KY 4
            go_wp2_with (go_at_call 22; rw [← HY.out]; refine HC.out.mono ?_; rintro e w4 ⟨rfl, hb4⟩; refine Hid.out ?_)
            refine Lib.hid ?_
            clear fY0 fY1 fY2 fY3 fY4
            clear zY0 zY1 zY2 zY3 zY4
            clear KY KR BB LR LY HW1 hse1 hse2 c4
            have KY := KYY
            have KR := KRY
            have BB := BY
            have LR := LRY
            have LY := LYY
            clear KYY KRY BY LRY LYY HC HY bA
            replace KR := tkb hb4 LR KR
            replace LR := tlz LR hb4.size
            replace KY := tkb hb4 LY KY
            replace LY := tlz LY hb4.size
            replace BB := tbt BB hb4
            clear hb4
            obtain ⟨T, hT⟩ : ∃ T, T = opText (rqW ws q) := ⟨_, rfl⟩
            have HTT := Lib.hid hT
            rw [HV.out, HQ.out] at hT
            rw [← hT]
            clear hT
            by_cases he : T = s
            · have he' := teq he
              have hne : (T.toList != s.toList) = false := by simp [bne, he']
              have HX : Hid (roX s = rqW ws q) := Lib.hid (HRO.out.2 (by rw [← HTT.out]; exact he))
              have HK : Hid (roOk s = true) := Lib.hid (by rw [HRO.out.1, ← HTT.out]; simp [he])
              clear he
              have fR0 := tcr KR 0
              have fR1 := tcr KR 1
              have fR2 := tcr KR 2
              have fR3 := tcr KR 3
              have fR4 := tcr KR 4
              have fY0 := tcr KY 0
              have fY1 := tcr KY 1
              have fY2 := tcr KY 2
              have fY3 := tcr KY 3
              have fY4 := tcr KY 4
              have zR0 := tfr KR 0
              have zR1 := tfr KR 1
              have zR2 := tfr KR 2
              have zR3 := tfr KR 3
              have zR4 := tfr KR 4
              go_wp2_with fail
              clear fR0 fR1 fR2 fR3 fR4 fY0 fY1 fY2 fY3 fY4
              clear zR0 zR1 zR2 zR3 zR4
              have hb : w.heap.size < w4.heap.size := LR.out
              have r0 := heap_setCell_same _ w.heap.size 0 _ _ (.string (wd ws 0)) KR.out
              have r1 := heap_setCell_same _ w.heap.size 1 _ _ (.int .i64 1000000000) r0
              have r2 := heap_setCell_same _ w.heap.size 2 _ _ (.int .i64 (kd (wd ws 2))) r1
              have r3 := heap_setCell_same _ w.heap.size 3 _ _ (.string (wd ws 3)) r2
              have r4 := heap_setCell_same _ w.heap.size 4 _ _ (.string (wd ws 4)) r3
              simp only [List.setIfInBounds_toArray, List.set_cons_zero, List.set_cons_succ] at r4
              obtain ⟨j0, q1, q2, q3, q4⟩ := info_parts infoOp
              refine bodyPost_ret (results_two (P := Tryd.prog) rfl _ _ w.heap.size _ _ (0, 0) _ _ rfl rfl r4 Tryd.underlying29 rfl (by rw [q1]; simp [q3])) rfl ⟨by rw [HK.out, HX.out, HV.out, HQ.out]; rfl, ?_⟩
              exact ((((BB.out.setCell (p := ⟨w.heap.size, 0, none⟩) (Nat.le_refl _) _).setCell (p := ⟨w.heap.size, 1, none⟩) (Nat.le_refl _) _).setCell (p := ⟨w.heap.size, 2, none⟩) (Nat.le_refl _) _).setCell (p := ⟨w.heap.size, 3, none⟩) (Nat.le_refl _) _).setCell (p := ⟨w.heap.size, 4, none⟩) (Nat.le_refl _) _
            · have he' := tne he
              have hne : (T.toList != s.toList) = true := by simp [bne, he']
              have HK : Hid (roOk s = false) := Lib.hid (by rw [HRO.out.1, ← HTT.out]; simp [he])
              clear he
              have fR0 := tcr KR 0
              have fR1 := tcr KR 1
              have fR2 := tcr KR 2
              have fR3 := tcr KR 3
              have fR4 := tcr KR 4
              have zR0 := tfr KR 0
              have zR1 := tfr KR 1
              have zR2 := tfr KR 2
              have zR3 := tfr KR 3
              have zR4 := tfr KR 4
              go_wp2_with fail
              clear fR0 fR1 fR2 fR3 fR4
              clear zR0 zR1 zR2 zR3 zR4
              have HN := Lib.hid (HK.out : roOk s = false)
              have hb : w.heap.size < w4.heap.size := LR.out
              have r0 := heap_setCell_same _ w.heap.size 0 _ _ (.string ⟨#[]⟩) KR.out
              have r1 := heap_setCell_same _ w.heap.size 1 _ _ (.int .i64 0) r0
              have r2 := heap_setCell_same _ w.heap.size 2 _ _ (.int .i64 0) r1
              have r3 := heap_setCell_same _ w.heap.size 3 _ _ (.string ⟨#[]⟩) r2
              have r4 := heap_setCell_same _ w.heap.size 4 _ _ (.string ⟨#[]⟩) r3
              simp only [List.setIfInBounds_toArray, List.set_cons_zero, List.set_cons_succ] at r4
              obtain ⟨j0, q1, q2, q3, q4⟩ := info_parts infoOp
              refine bodyPost_ret (results_two (P := Tryd.prog) rfl _ _ w.heap.size _ _ (0, 0) _ _ rfl rfl r4 Tryd.underlying29 rfl (by rw [q1]; simp [q3])) rfl ⟨by unfold roX; rw [HN.out]; rfl, ?_⟩
              exact ((((BB.out.setCell (p := ⟨w.heap.size, 0, none⟩) (Nat.le_refl _) _).setCell (p := ⟨w.heap.size, 1, none⟩) (Nat.le_refl _) _).setCell (p := ⟨w.heap.size, 2, none⟩) (Nat.le_refl _) _).setCell (p := ⟨w.heap.size, 3, none⟩) (Nat.le_refl _) _).setCell (p := ⟨w.heap.size, 4, none⟩) (Nat.le_refl _) _
          · have h5' : ((ws.length : Int) == 5) = false := by simp; omega
            have HV : Hid (rqW ws q = ⟨wd ws 0, q, kd (wd ws 2), wd ws 3, ⟨#[]⟩⟩) := Lib.hid (by unfold rqW; rw [if_neg (by omega)])
            clear h5e h5 h4
            have r0 := heap_setCell_same _ yb 1 _ _ (.int .i64 1000000000) KY.out
            obtain ⟨Y, hY⟩ : ∃ Y, Y = (zD.setCell ⟨yb, 1, none⟩ (.int .i64 1000000000)) := ⟨_, rfl⟩
            simp only [List.setIfInBounds_toArray, List.set_cons_zero, List.set_cons_succ] at r0
            rw [← hY] at r0
            have KYY : Hid (Y.heap[yb]? = some (.cells #[.string (wd ws 0), .int .i64 1000000000, .int .i64 (kd (wd ws 2)), .string (wd ws 3), .string ⟨#[]⟩] 29 (0, 0))) := Lib.hid r0
            have gY : zD.grownBy Y (some yb) := by rw [hY]; exact (grown_set _ ⟨yb, 1, none⟩ _)
            clear r0
            have KRY := Lib.hid ((gY.block _ LR.out (fun e => by have := NRY.out; simp only [Option.some.injEq] at e; omega)).trans KR.out)
            have LRY := Lib.hid (Nat.lt_of_lt_of_le LR.out gY.size)
            have LYY := Lib.hid (Nat.lt_of_lt_of_le LY.out gY.size)
            have BY : Hid (Below w.heap.size w Y) := Lib.hid (BB.out.grown gY BB.out.size (fun k hk => by cases hk; exact Nat.le_of_lt NRY.out))
            clear gY
            have hc := spec_opText (rqW ws q) Y (fit_rqW HF.out Hs.out HQB.out)
            rw [HV.out, HQ.out] at hc
            unfold rqA at hc
            have HC := Lib.hid hc
            have HY := Lib.hid hY
            clear hc hY
            have hse := str_ne_of_words HWS.out n3
            have HSE := Lib.hid hse
            obtain ⟨hse1, hse2⟩ := hse
            have fY0 := tcr KY 0
            have fY1 := tcr KY 1
            have fY2 := tcr KY 2
            have fY3 := tcr KY 3
            have fY4 := tcr KY 4
            have zY0 := tfr KY 0
            have zY1 := tfr KY 1
            have zY2 := tfr KY 2
            have zY3 := tfr KY 3
            have zY4 := tfr KY 4
            go_wp2_with (go_at_call 22; rw [← HY.out]; refine HC.out.mono ?_; rintro e w4 ⟨rfl, hb4⟩; refine Hid.out ?_)
            refine Lib.hid ?_
            clear fY0 fY1 fY2 fY3 fY4
            clear zY0 zY1 zY2 zY3 zY4
            clear KY KR BB LR LY HW1 hse1 hse2
            have KY := KYY
            have KR := KRY
            have BB := BY
            have LR := LRY
            have LY := LYY
            clear KYY KRY BY LRY LYY HC HY bA
            replace KR := tkb hb4 LR KR
            replace LR := tlz LR hb4.size
            replace KY := tkb hb4 LY KY
            replace LY := tlz LY hb4.size
            replace BB := tbt BB hb4
            clear hb4
            obtain ⟨T, hT⟩ : ∃ T, T = opText (rqW ws q) := ⟨_, rfl⟩
            have HTT := Lib.hid hT
            rw [HV.out, HQ.out] at hT
            rw [← hT]
            clear hT
            by_cases he : T = s
            · have he' := teq he
              have hne : (T.toList != s.toList) = false := by simp [bne, he']
              have HX : Hid (roX s = rqW ws q) := Lib.hid (HRO.out.2 (by rw [← HTT.out]; exact he))
              have HK : Hid (roOk s = true) := Lib.hid (by rw [HRO.out.1, ← HTT.out]; simp [he])
              clear he
              have fR0 := tcr KR 0
              have fR1 := tcr KR 1
              have fR2 := tcr KR 2
              have fR3 := tcr KR 3
              have fR4 := tcr KR 4
              have fY0 := tcr KY 0
              have fY1 := tcr KY 1
              have fY2 := tcr KY 2
              have fY3 := tcr KY 3
              have fY4 := tcr KY 4
              have zR0 := tfr KR 0
              have zR1 := tfr KR 1
              have zR2 := tfr KR 2
              have zR3 := tfr KR 3
              have zR4 := tfr KR 4
              go_wp2_with fail
              clear fR0 fR1 fR2 fR3 fR4 fY0 fY1 fY2 fY3 fY4
              clear zR0 zR1 zR2 zR3 zR4
              have hb : w.heap.size < w4.heap.size := LR.out
              have r0 := heap_setCell_same _ w.heap.size 0 _ _ (.string (wd ws 0)) KR.out
              have r1 := heap_setCell_same _ w.heap.size 1 _ _ (.int .i64 1000000000) r0
              have r2 := heap_setCell_same _ w.heap.size 2 _ _ (.int .i64 (kd (wd ws 2))) r1
              have r3 := heap_setCell_same _ w.heap.size 3 _ _ (.string (wd ws 3)) r2
              have r4 := heap_setCell_same _ w.heap.size 4 _ _ (.string ⟨#[]⟩) r3
              simp only [List.setIfInBounds_toArray, List.set_cons_zero, List.set_cons_succ] at r4
              obtain ⟨j0, q1, q2, q3, q4⟩ := info_parts infoOp
              refine bodyPost_ret (results_two (P := Tryd.prog) rfl _ _ w.heap.size _ _ (0, 0) _ _ rfl rfl r4 Tryd.underlying29 rfl (by rw [q1]; simp [q3])) rfl ⟨by rw [HK.out, HX.out, HV.out, HQ.out]; rfl, ?_⟩
              exact ((((BB.out.setCell (p := ⟨w.heap.size, 0, none⟩) (Nat.le_refl _) _).setCell (p := ⟨w.heap.size, 1, none⟩) (Nat.le_refl _) _).setCell (p := ⟨w.heap.size, 2, none⟩) (Nat.le_refl _) _).setCell (p := ⟨w.heap.size, 3, none⟩) (Nat.le_refl _) _).setCell (p := ⟨w.heap.size, 4, none⟩) (Nat.le_refl _) _
            · have he' := tne he
              have hne : (T.toList != s.toList) = true := by simp [bne, he']
              have HK : Hid (roOk s = false) := Lib.hid (by rw [HRO.out.1, ← HTT.out]; simp [he])
              clear he
              have fR0 := tcr KR 0
              have fR1 := tcr KR 1
              have fR2 := tcr KR 2
              have fR3 := tcr KR 3
              have fR4 := tcr KR 4
              have zR0 := tfr KR 0
              have zR1 := tfr KR 1
              have zR2 := tfr KR 2
              have zR3 := tfr KR 3
              have zR4 := tfr KR 4
              go_wp2_with fail
              clear fR0 fR1 fR2 fR3 fR4
              clear zR0 zR1 zR2 zR3 zR4
              have HN := Lib.hid (HK.out : roOk s = false)
              have hb : w.heap.size < w4.heap.size := LR.out
              have r0 := heap_setCell_same _ w.heap.size 0 _ _ (.string ⟨#[]⟩) KR.out
              have r1 := heap_setCell_same _ w.heap.size 1 _ _ (.int .i64 0) r0
              have r2 := heap_setCell_same _ w.heap.size 2 _ _ (.int .i64 0) r1
              have r3 := heap_setCell_same _ w.heap.size 3 _ _ (.string ⟨#[]⟩) r2
              have r4 := heap_setCell_same _ w.heap.size 4 _ _ (.string ⟨#[]⟩) r3
              simp only [List.setIfInBounds_toArray, List.set_cons_zero, List.set_cons_succ] at r4
              obtain ⟨j0, q1, q2, q3, q4⟩ := info_parts infoOp
              refine bodyPost_ret (results_two (P := Tryd.prog) rfl _ _ w.heap.size _ _ (0, 0) _ _ rfl rfl r4 Tryd.underlying29 rfl (by rw [q1]; simp [q3])) rfl ⟨by unfold roX; rw [HN.out]; rfl, ?_⟩
              exact ((((BB.out.setCell (p := ⟨w.heap.size, 0, none⟩) (Nat.le_refl _) _).setCell (p := ⟨w.heap.size, 1, none⟩) (Nat.le_refl _) _).setCell (p := ⟨w.heap.size, 2, none⟩) (Nat.le_refl _) _).setCell (p := ⟨w.heap.size, 3, none⟩) (Nat.le_refl _) _).setCell (p := ⟨w.heap.size, 4, none⟩) (Nat.le_refl _) _
        · have hq' := tne hq
          simp only [hq']
          clear hq'
          have HQ : Hid (qs (wd ws 1) = rd (wd ws 1).data.toList) := Lib.hid (by unfold qs; rw [if_neg (by rw [← HD.out]; exact hq)])
          clear hq
          obtain ⟨q, hqq⟩ : ∃ q, q = qs (wd ws 1) := ⟨_, rfl⟩
          have HQQ := Lib.hid hqq
          have HRO : Hid (roOk s = decide (opText (rqW ws q) = s) ∧ (opText (rqW ws q) = s → roX s = rqW ws q)) := Lib.hid (ro_spec HWS.out h4 h5 hqq)
          have HQB : Hid (-9223372036854775808 ≤ q ∧ q ≤ 9223372036854775807) := Lib.hid (by rw [hqq]; exact qs_range _)
          rw [← hqq] at HQ
          clear hqq
          by_cases h5e : ws.length = 5
          · have h5' : ((ws.length : Int) == 5) = true := by simp [h5e]
            have c4 := HW1.out.2 4 (by omega)
            have g4 : (4 : Int) < (ws.length : Int) := by omega
            have HV : Hid (rqW ws q = ⟨wd ws 0, q, kd (wd ws 2), wd ws 3, wd ws 4⟩) := Lib.hid (by unfold rqW; rw [if_pos (by omega)])
            clear h5e h5 h4
            have r0 := heap_setCell_same _ yb 4 _ _ (.string (wd ws 4)) KY.out
            obtain ⟨Y, hY⟩ : ∃ Y, Y = (zD.setCell ⟨yb, 4, none⟩ (.string (wd ws 4))) := ⟨_, rfl⟩
            simp only [List.setIfInBounds_toArray, List.set_cons_zero, List.set_cons_succ] at r0
            rw [← hY] at r0
            have KYY : Hid (Y.heap[yb]? = some (.cells #[.string (wd ws 0), .int .i64 (rd (wd ws 1).data.toList), .int .i64 (kd (wd ws 2)), .string (wd ws 3), .string (wd ws 4)] 29 (0, 0))) := Lib.hid r0
            have gY : zD.grownBy Y (some yb) := by rw [hY]; exact (grown_set _ ⟨yb, 4, none⟩ _)
            clear r0
            have KRY := Lib.hid ((gY.block _ LR.out (fun e => by have := NRY.out; simp only [Option.some.injEq] at e; omega)).trans KR.out)
            have LRY := Lib.hid (Nat.lt_of_lt_of_le LR.out gY.size)
            have LYY := Lib.hid (Nat.lt_of_lt_of_le LY.out gY.size)
            have BY : Hid (Below w.heap.size w Y) := Lib.hid (BB.out.grown gY BB.out.size (fun k hk => by cases hk; exact Nat.le_of_lt NRY.out))
            clear gY
            have hc := spec_opText (rqW ws q) Y (fit_rqW HF.out Hs.out HQB.out)
            rw [HV.out, HQ.out] at hc
            unfold rqA at hc
            have HC := Lib.hid hc
            have HY := Lib.hid hY
            clear hc hY
            have hse := str_ne_of_words HWS.out n3
            have HSE := Lib.hid hse
            obtain ⟨hse1, hse2⟩ := hse
            have fY0 := tcr KY 0
            have fY1 := tcr KY 1
            have fY2 := tcr KY 2
            have fY3 := tcr KY 3
            have fY4 := tcr KY 4
            have zY0 := tfr KY 0
            have zY1 := tfr KY 1
            have zY2 := tfr KY 2
            have zY3 := tfr KY 3
            have zY4 := tfr KY 4
            go_wp2_with (go_at_call 22; rw [← HY.out]; refine HC.out.mono ?_; rintro e w4 ⟨rfl, hb4⟩; refine Hid.out ?_)
            refine Lib.hid ?_
            clear fY0 fY1 fY2 fY3 fY4
            clear zY0 zY1 zY2 zY3 zY4
            clear KY KR BB LR LY HW1 hse1 hse2 c4
            have KY := KYY
            have KR := KRY
            have BB := BY
            have LR := LRY
            have LY := LYY
            clear KYY KRY BY LRY LYY HC HY bA
            replace KR := tkb hb4 LR KR
            replace LR := tlz LR hb4.size
            replace KY := tkb hb4 LY KY
            replace LY := tlz LY hb4.size
            replace BB := tbt BB hb4
            clear hb4
            obtain ⟨T, hT⟩ : ∃ T, T = opText (rqW ws q) := ⟨_, rfl⟩
            have HTT := Lib.hid hT
            rw [HV.out, HQ.out] at hT
            rw [← hT]
            clear hT
            by_cases he : T = s
            · have he' := teq he
              have hne : (T.toList != s.toList) = false := by simp [bne, he']
              have HX : Hid (roX s = rqW ws q) := Lib.hid (HRO.out.2 (by rw [← HTT.out]; exact he))
              have HK : Hid (roOk s = true) := Lib.hid (by rw [HRO.out.1, ← HTT.out]; simp [he])
              clear he
              have fR0 := tcr KR 0
              have fR1 := tcr KR 1
              have fR2 := tcr KR 2
              have fR3 := tcr KR 3
              have fR4 := tcr KR 4
              have fY0 := tcr KY 0
              have fY1 := tcr KY 1
              have fY2 := tcr KY 2
              have fY3 := tcr KY 3
              have fY4 := tcr KY 4
              have zR0 := tfr KR 0
              have zR1 := tfr KR 1
              have zR2 := tfr KR 2
              have zR3 := tfr KR 3
              have zR4 := tfr KR 4
              go_wp2_with fail
              clear fR0 fR1 fR2 fR3 fR4 fY0 fY1 fY2 fY3 fY4
              clear zR0 zR1 zR2 zR3 zR4
              have hb : w.heap.size < w4.heap.size := LR.out
              have r0 := heap_setCell_same _ w.heap.size 0 _ _ (.string (wd ws 0)) KR.out
              have r1 := heap_setCell_same _ w.heap.size 1 _ _ (.int .i64 (rd (wd ws 1).data.toList)) r0
              have r2 := heap_setCell_same _ w.heap.size 2 _ _ (.int .i64 (kd (wd ws 2))) r1
              have r3 := heap_setCell_same _ w.heap.size 3 _ _ (.string (wd ws 3)) r2
              have r4 := heap_setCell_same _ w.heap.size 4 _ _ (.string (wd ws 4)) r3
              simp only [List.setIfInBounds_toArray, List.set_cons_zero, List.set_cons_succ] at r4
              obtain ⟨j0, q1, q2, q3, q4⟩ := info_parts infoOp
              refine bodyPost_ret (results_two (P := Tryd.prog) rfl _ _ w.heap.size _ _ (0, 0) _ _ rfl rfl r4 Tryd.underlying29 rfl (by rw [q1]; simp [q3])) rfl ⟨by rw [HK.out, HX.out, HV.out, HQ.out]; rfl, ?_⟩
              exact ((((BB.out.setCell (p := ⟨w.heap.size, 0, none⟩) (Nat.le_refl _) _).setCell (p := ⟨w.heap.size, 1, none⟩) (Nat.le_refl _) _).setCell (p := ⟨w.heap.size, 2, none⟩) (Nat.le_refl _) _).setCell (p := ⟨w.heap.size, 3, none⟩) (Nat.le_refl _) _).setCell (p := ⟨w.heap.size, 4, none⟩) (Nat.le_refl _) _
            · have he' := tne he
              have hne : (T.toList != s.toList) = true := by simp [bne, he']
              have HK : Hid (roOk s = false) := Lib.hid (by rw [HRO.out.1, ← HTT.out]; simp [he])
              clear he
              have fR0 := tcr KR 0
              have fR1 := tcr KR 1
              have fR2 := tcr KR 2
              have fR3 := tcr KR 3
              have fR4 := tcr KR 4
              have zR0 := tfr KR 0
              have zR1 := tfr KR 1
              have zR2 := tfr KR 2
              have zR3 := tfr KR 3
              have zR4 := tfr KR 4
              go_wp2_with fail
              clear fR0 fR1 fR2 fR3 fR4
              clear zR0 zR1 zR2 zR3 zR4
              have HN := Lib.hid (HK.out : roOk s = false)
              have hb : w.heap.size < w4.heap.size := LR.out
              have r0 := heap_setCell_same _ w.heap.size 0 _ _ (.string ⟨#[]⟩) KR.out
              have r1 := heap_setCell_same _ w.heap.size 1 _ _ (.int .i64 0) r0
              have r2 := heap_setCell_same _ w.heap.size 2 _ _ (.int .i64 0) r1
              have r3 := heap_setCell_same _ w.heap.size 3 _ _ (.string ⟨#[]⟩) r2
              have r4 := heap_setCell_same _ w.heap.size 4 _ _ (.string ⟨#[]⟩) r3
              simp only [List.setIfInBounds_toArray, List.set_cons_zero, List.set_cons_succ] at r4
              obtain ⟨j0, q1, q2, q3, q4⟩ := info_parts infoOp
              refine bodyPost_ret (results_two (P := Tryd.prog) rfl _ _ w.heap.size _ _ (0, 0) _ _ rfl rfl r4 Tryd.underlying29 rfl (by rw [q1]; simp [q3])) rfl ⟨by unfold roX; rw [HN.out]; rfl, ?_⟩
              exact ((((BB.out.setCell (p := ⟨w.heap.size, 0, none⟩) (Nat.le_refl _) _).setCell (p := ⟨w.heap.size, 1, none⟩) (Nat.le_refl _) _).setCell (p := ⟨w.heap.size, 2, none⟩) (Nat.le_refl _) _).setCell (p := ⟨w.heap.size, 3, none⟩) (Nat.le_refl _) _).setCell (p := ⟨w.heap.size, 4, none⟩) (Nat.le_refl _) _
          · have h5' : ((ws.length : Int) == 5) = false := by simp; omega
            have HV : Hid (rqW ws q = ⟨wd ws 0, q, kd (wd ws 2), wd ws 3, ⟨#[]⟩⟩) := Lib.hid (by unfold rqW; rw [if_neg (by omega)])
            clear h5e h5 h4
            obtain ⟨Y, hY⟩ : ∃ Y, Y = zD := ⟨_, rfl⟩
            have KYY : Hid (Y.heap[yb]? = some (.cells #[.string (wd ws 0), .int .i64 (rd (wd ws 1).data.toList), .int .i64 (kd (wd ws 2)), .string (wd ws 3), .string ⟨#[]⟩] 29 (0, 0))) := Lib.hid (by rw [hY]; exact KY.out)
            have KRY : Hid (Y.heap[w.heap.size]? = some (.cells #[.string ⟨#[]⟩, .int .i64 0, .int .i64 0, .string ⟨#[]⟩, .string ⟨#[]⟩] 29 (0, 0))) := Lib.hid (by rw [hY]; exact KR.out)
            have LRY : Hid (w.heap.size < Y.heap.size) := Lib.hid (by rw [hY]; exact LR.out)
            have LYY : Hid (yb < Y.heap.size) := Lib.hid (by rw [hY]; exact LY.out)
            have BY : Hid (Below w.heap.size w Y) := Lib.hid (by rw [hY]; exact BB.out)
            have hc := spec_opText (rqW ws q) Y (fit_rqW HF.out Hs.out HQB.out)
            rw [HV.out, HQ.out] at hc
            unfold rqA at hc
            have HC := Lib.hid hc
            have HY := Lib.hid hY
            clear hc hY
            have hse := str_ne_of_words HWS.out n3
            have HSE := Lib.hid hse
            obtain ⟨hse1, hse2⟩ := hse
            have fY0 := tcr KY 0
            have fY1 := tcr KY 1
            have fY2 := tcr KY 2
            have fY3 := tcr KY 3
            have fY4 := tcr KY 4
            have zY0 := tfr KY 0
            have zY1 := tfr KY 1
            have zY2 := tfr KY 2
            have zY3 := tfr KY 3
            have zY4 := tfr KY 4
            go_wp2_with (go_at_call 22; rw [← HY.out]; refine HC.out.mono ?_; rintro e w4 ⟨rfl, hb4⟩; refine Hid.out ?_)
            refine Lib.hid ?_
            clear fY0 fY1 fY2 fY3 fY4
            clear zY0 zY1 zY2 zY3 zY4
            clear KY KR BB LR LY HW1 hse1 hse2
            have KY := KYY
            have KR := KRY
            have BB := BY
            have LR := LRY
            have LY := LYY
            clear KYY KRY BY LRY LYY HC HY bA
            replace KR := tkb hb4 LR KR
            replace LR := tlz LR hb4.size
            replace KY := tkb hb4 LY KY
            replace LY := tlz LY hb4.size
            replace BB := tbt BB hb4
            clear hb4
            obtain ⟨T, hT⟩ : ∃ T, T = opText (rqW ws q) := ⟨_, rfl⟩
            have HTT := Lib.hid hT
            rw [HV.out, HQ.out] at hT
            rw [← hT]
            clear hT
            by_cases he : T = s
            · have he' := teq he
              have hne : (T.toList != s.toList) = false := by simp [bne, he']
              have HX : Hid (roX s = rqW ws q) := Lib.hid (HRO.out.2 (by rw [← HTT.out]; exact he))
              have HK : Hid (roOk s = true) := Lib.hid (by rw [HRO.out.1, ← HTT.out]; simp [he])
              clear he
              have fR0 := tcr KR 0
              have fR1 := tcr KR 1
              have fR2 := tcr KR 2
              have fR3 := tcr KR 3
              have fR4 := tcr KR 4
              have fY0 := tcr KY 0
              have fY1 := tcr KY 1
              have fY2 := tcr KY 2
              have fY3 := tcr KY 3
              have fY4 := tcr KY 4
              have zR0 := tfr KR 0
              have zR1 := tfr KR 1
              have zR2 := tfr KR 2
              have zR3 := tfr KR 3
              have zR4 := tfr KR 4
              go_wp2_with fail
              clear fR0 fR1 fR2 fR3 fR4 fY0 fY1 fY2 fY3 fY4
              clear zR0 zR1 zR2 zR3 zR4
              have hb : w.heap.size < w4.heap.size := LR.out
              have r0 := heap_setCell_same _ w.heap.size 0 _ _ (.string (wd ws 0)) KR.out
              have r1 := heap_setCell_same _ w.heap.size 1 _ _ (.int .i64 (rd (wd ws 1).data.toList)) r0
              have r2 := heap_setCell_same _ w.heap.size 2 _ _ (.int .i64 (kd (wd ws 2))) r1
              have r3 := heap_setCell_same _ w.heap.size 3 _ _ (.string (wd ws 3)) r2
              have r4 := heap_setCell_same _ w.heap.size 4 _ _ (.string ⟨#[]⟩) r3
              simp only [List.setIfInBounds_toArray, List.set_cons_zero, List.set_cons_succ] at r4
              obtain ⟨j0, q1, q2, q3, q4⟩ := info_parts infoOp
              refine bodyPost_ret (results_two (P := Tryd.prog) rfl _ _ w.heap.size _ _ (0, 0) _ _ rfl rfl r4 Tryd.underlying29 rfl (by rw [q1]; simp [q3])) rfl ⟨by rw [HK.out, HX.out, HV.out, HQ.out]; rfl, ?_⟩
              exact ((((BB.out.setCell (p := ⟨w.heap.size, 0, none⟩) (Nat.le_refl _) _).setCell (p := ⟨w.heap.size, 1, none⟩) (Nat.le_refl _) _).setCell (p := ⟨w.heap.size, 2, none⟩) (Nat.le_refl _) _).setCell (p := ⟨w.heap.size, 3, none⟩) (Nat.le_refl _) _).setCell (p := ⟨w.heap.size, 4, none⟩) (Nat.le_refl _) _
            · have he' := tne he
              have hne : (T.toList != s.toList) = true := by simp [bne, he']
              have HK : Hid (roOk s = false) := Lib.hid (by rw [HRO.out.1, ← HTT.out]; simp [he])
              clear he
              have fR0 := tcr KR 0
              have fR1 := tcr KR 1
              have fR2 := tcr KR 2
              have fR3 := tcr KR 3
              have fR4 := tcr KR 4
              have zR0 := tfr KR 0
              have zR1 := tfr KR 1
              have zR2 := tfr KR 2
              have zR3 := tfr KR 3
              have zR4 := tfr KR 4
              go_wp2_with fail
              clear fR0 fR1 fR2 fR3 fR4
              clear zR0 zR1 zR2 zR3 zR4
              have HN := Lib.hid (HK.out : roOk s = false)
              have hb : w.heap.size < w4.heap.size := LR.out
              have r0 := heap_setCell_same _ w.heap.size 0 _ _ (.string ⟨#[]⟩) KR.out
              have r1 := heap_setCell_same _ w.heap.size 1 _ _ (.int .i64 0) r0
              have r2 := heap_setCell_same _ w.heap.size 2 _ _ (.int .i64 0) r1
              have r3 := heap_setCell_same _ w.heap.size 3 _ _ (.string ⟨#[]⟩) r2
              have r4 := heap_setCell_same _ w.heap.size 4 _ _ (.string ⟨#[]⟩) r3
              simp only [List.setIfInBounds_toArray, List.set_cons_zero, List.set_cons_succ] at r4
              obtain ⟨j0, q1, q2, q3, q4⟩ := info_parts infoOp
              refine bodyPost_ret (results_two (P := Tryd.prog) rfl _ _ w.heap.size _ _ (0, 0) _ _ rfl rfl r4 Tryd.underlying29 rfl (by rw [q1]; simp [q3])) rfl ⟨by unfold roX; rw [HN.out]; rfl, ?_⟩
              exact ((((BB.out.setCell (p := ⟨w.heap.size, 0, none⟩) (Nat.le_refl _) _).setCell (p := ⟨w.heap.size, 1, none⟩) (Nat.le_refl _) _).setCell (p := ⟨w.heap.size, 2, none⟩) (Nat.le_refl _) _).setCell (p := ⟨w.heap.size, 3, none⟩) (Nat.le_refl _) _).setCell (p := ⟨w.heap.size, 4, none⟩) (Nat.le_refl _) _
end Go.Proofs.YtebmaplflpfjbaaDoor
