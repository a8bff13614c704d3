/- What spec.ReadOp answers. Condition: the text has at most 2^20 bytes. -/
import Derived.Test.YtclcaflkopnbpaaDoorSpecOpText2
import Derived.Test.YtclcaflkopnbpaaDoorReadOpForms
import Derived.Test.YtclcaflkopnbpaaDoorWords
import Derived.Test.YtclcaflkopnbpaaDoorSpecReadDec
import Derived.Deep.RegionHeld
import Derived.Deep.CutBlock
import Derived.Deep.DeepCutAuto
namespace Go.Proofs.YtclcaflkopnbpaaDoor
open Go.RowKit
set_option linter.unusedVariables false
set_option linter.unusedSimpArgs false

/-- The kind as the model's loop finds it. -/
def kdTo (k : Nat) (b : ByteArray) : Int := match k with
  | 0 => -1
  | 1 => if b = ⟨#[103, 101, 116]⟩ then 0 else -1
  | 2 => if b = ⟨#[112, 117, 116]⟩ then 1 else if b = ⟨#[103, 101, 116]⟩ then 0 else -1
  | _ + 3 => if b = ⟨#[100, 101, 108]⟩ then 2 else if b = ⟨#[112, 117, 116]⟩ then 1 else if b = ⟨#[103, 101, 116]⟩ then 0 else -1
theorem kdTo_kd (b : ByteArray) : kdTo 3 b = kd b := by
  show (if b = ⟨#[100, 101, 108]⟩ then (2 : Int) else if b = ⟨#[112, 117, 116]⟩ then 1 else if b = ⟨#[103, 101, 116]⟩ then 0 else -1) = kd b
  unfold kd
  by_cases h0 : b = ⟨#[103, 101, 116]⟩
  · subst h0; decide +kernel
  · by_cases h1 : b = ⟨#[112, 117, 116]⟩
    · subst h1; decide +kernel
    · by_cases h2 : b = ⟨#[100, 101, 108]⟩
      · subst h2; decide +kernel
      · rw [if_neg h2, if_neg h1, if_neg h0, if_neg h0, if_neg h1, if_neg h2]
theorem rd_range (l : List UInt8) : -1 ≤ rd l ∧ rd l ≤ 999999999 := by
  unfold rd
  split
  · split
    · omega
    · omega
  · omega
theorem qs_range (b : ByteArray) : -9223372036854775808 ≤ qs b ∧ qs b ≤ 9223372036854775807 := by
  have := rd_range b.data.toList
  unfold qs
  split <;> omega
theorem ro_spec {s : ByteArray} {ws : List ByteArray} {q : Int} (hw : ws = wordsOf s) (h4 : 4 ≤ ws.length) (h5 : ws.length ≤ 5) (hq : q = qs (wd ws 1)) : roOk s = decide (opText (rqW ws q) = s) ∧ (opText (rqW ws q) = s → roX s = rqW ws q) := by
  subst hw; subst hq
  refine ⟨by unfold roOk; simp [h4, h5], fun h => ?_⟩
  unfold roX
  rw [if_pos (by unfold roOk; simp [h4, h5, h])]
theorem str_ne_of_words {s : ByteArray} {ws : List ByteArray} (hw : ws = wordsOf s) (h : 3 < ws.length) : s.toList.isEmpty = false ∧ ¬ s.toList = [] := by
  have hp := pos_of_words (s := s) (by rw [← hw]; omega)
  have hn : ¬ s.toList = [] := by
    intro e
    rw [ByteArray.toList_eq] at e
    have h2 : s.data.toList.length = s.size := by simp
    have h3 : s.data.toList.length = 0 := by rw [e]; rfl
    omega
  exact ⟨by cases h : s.toList with
    | nil => exact absurd h hn
    | cons _ _ => rfl, hn⟩
set_option maxRecDepth 100000 in
set_option maxHeartbeats 4000000 in
theorem spec_readOp (s : ByteArray) (w : World) (hs : s.size ≤ 1048576) :
    Calls Tryd.prog 24 #[.string s] w fun e w' => e = .returned (.tuple #[rqA (roX s), .bool (roOk s)]) ∧ Below w.heap.size w w' := by
  have Hs := Lib.hid hs
  obtain ⟨W, hW⟩ : ∃ W, W = w.alloc (.cells #[.string ⟨#[]⟩, .int .i64 0, .int .i64 0, .string ⟨#[]⟩, .string ⟨#[]⟩] 29) := ⟨_, rfl⟩
  have hbW : Below w.heap.size w W := by rw [hW]; exact (Below.refl _ _).alloc (Nat.le_refl _) _
  have KR : Hid (W.heap[w.heap.size]? = some (.cells #[.string ⟨#[]⟩, .int .i64 0, .int .i64 0, .string ⟨#[]⟩, .string ⟨#[]⟩] 29 (0, 0))) := Lib.hid (by rw [hW]; exact heap_new _ _)
  have LR : Hid (w.heap.size < W.heap.size) := Lib.hid (by rw [hW]; simp)
  have BB := Lib.hid hbW
  clear hbW hs
  have LR0 := LR
  have hc0 := spec_words s W (by have := Hs.out; omega)
  rw [hW] at hc0
  go_enter Tryd.func24, Tryd.ntmps24
  go_wp2_with (go_at_call 57; refine hc0.mono ?_; rintro e w1 ⟨vw, rfl, htx, hb1⟩; refine Hid.out ?_)
  refine Lib.hid ?_
  rw [← hW] at htx hb1
  clear hc0 hW
  replace KR := Lib.hid ((hb1.block _ LR.out).trans KR.out)
  replace LR := Lib.hid (Nat.lt_of_lt_of_le LR.out hb1.size)
  replace BB := Lib.hid (BB.out.trans (hb1.mono BB.out.size))
  have hsz := words_sizes s
  obtain ⟨ws, hws⟩ : ∃ ws, ws = wordsOf s := ⟨_, rfl⟩
  rw [← hws] at htx hsz
  have HWS := Lib.hid hws
  have HSZ := Lib.hid hsz
  clear hws hsz
  obtain ⟨cap, g, vs, rfl, HWD, HGN⟩ : ∃ (cap : Nat) (g : Nat) (a : Option Addr), vw = .slice a ws.length cap ∧ Hid (0 < ws.length → a = some ⟨g, 0, none⟩ ∧ WordsAt w1 g ws) ∧ Hid (w.heap.size < g) := words_form htx hb1 LR0.out
  clear htx hb1
  by_cases h45 : 4 ≤ ws.length ∧ ws.length ≤ 5
  case neg =>
    have hin : inB (ws.length : Int) 4 5 = false := by unfold inB; simp; omega
    have HK0 : Hid (roOk s = false) := Lib.hid (by unfold roOk; rw [← HWS.out]; simp; omega)
    have c5 := in_any (ws.length : Int) 4 5
    rw [hin] at c5
    clear hin h45
    go_wp2_with (go_at_call 58; refine (c5 _).mono ?_; rintro e wq ⟨rfl, rfl⟩; refine Hid.out ?_)
    refine Lib.hid ?_
    clear c5
    have fR0 := cell_of_row w1 _ 0 _ _ _ KR.out
    have fR1 := cell_of_row w1 _ 1 _ _ _ KR.out
    have fR2 := cell_of_row w1 _ 2 _ _ _ KR.out
    have fR3 := cell_of_row w1 _ 3 _ _ _ KR.out
    have fR4 := cell_of_row w1 _ 4 _ _ _ KR.out
    simp only [List.getElem?_toArray, List.getElem?_cons_zero, List.getElem?_cons_succ] at fR0 fR1 fR2 fR3 fR4
    have zR0 := frozen_of_row w1 _ 0 _ _ KR.out
    have zR1 := frozen_of_row w1 _ 1 _ _ KR.out
    have zR2 := frozen_of_row w1 _ 2 _ _ KR.out
    have zR3 := frozen_of_row w1 _ 3 _ _ KR.out
    have zR4 := frozen_of_row w1 _ 4 _ _ KR.out
    go_wp2_with fail
    clear fR0 fR1 fR2 fR3 fR4
    clear zR0 zR1 zR2 zR3 zR4
    have HN := Lib.hid (HK0.out : roOk s = false)
    have hb : w.heap.size < w1.heap.size := LR.out
    have r0 := heap_setCell_same _ w.heap.size 0 _ _ (.string ⟨#[]⟩) KR.out
    have r1 := heap_setCell_same _ w.heap.size 1 _ _ (.int .i64 0) r0
    have r2 := heap_setCell_same _ w.heap.size 2 _ _ (.int .i64 0) r1
    have r3 := heap_setCell_same _ w.heap.size 3 _ _ (.string ⟨#[]⟩) r2
    have r4 := heap_setCell_same _ w.heap.size 4 _ _ (.string ⟨#[]⟩) r3
    simp only [List.setIfInBounds_toArray, List.set_cons_zero, List.set_cons_succ] at r4
    obtain ⟨j0, q1, q2, q3, q4⟩ := info_parts infoOp
    refine bodyPost_ret (results_two (P := Tryd.prog) rfl _ _ w.heap.size _ _ (0, 0) _ _ rfl rfl r4 Tryd.underlying29 rfl (by rw [q1]; simp [q3])) rfl ⟨by unfold roX; rw [HN.out]; rfl, ?_⟩
    exact ((((BB.out.setCell (p := ⟨w.heap.size, 0, none⟩) (Nat.le_refl _) _).setCell (p := ⟨w.heap.size, 1, none⟩) (Nat.le_refl _) _).setCell (p := ⟨w.heap.size, 2, none⟩) (Nat.le_refl _) _).setCell (p := ⟨w.heap.size, 3, none⟩) (Nat.le_refl _) _).setCell (p := ⟨w.heap.size, 4, none⟩) (Nat.le_refl _) _
  obtain ⟨h4, h5⟩ := h45
  obtain ⟨rfl, hwd⟩ := HWD.out (by omega)
  have HW1 := Lib.hid hwd
  clear HWD hwd
  have hin : inB (ws.length : Int) 4 5 = true := by unfold inB; simp; omega
  have c5 := in_any (ws.length : Int) 4 5
  rw [hin] at c5
  clear hin
  have n0 : 0 < ws.length := by omega
  have g1 : (1 : Int) < (ws.length : Int) := by omega
  have g2 : (2 : Int) < (ws.length : Int) := by omega
  have g3 : (3 : Int) < (ws.length : Int) := by omega
  have n1 : 1 < ws.length := by omega
  have n2 : 2 < ws.length := by omega
  have n3 : 3 < ws.length := by omega
  have HF := Lib.hid (wd_size HSZ.out)
  go_wp2_with (go_at_call 58; refine (c5 _).mono ?_; rintro e wq ⟨rfl, rfl⟩; refine Hid.out ?_)
  refine Lib.hid ?_
  clear c5
  go_wp2_with fail
  have LR2 := LR
  go_cut [5] (fun y wx => ∃ yb : Nat, y = .pointer (some ⟨yb, 0, none⟩) ∧ Hid (wx.heap[yb]? = some (.cells #[.string (wd ws 0), .int .i64 (rd (wd ws 1).data.toList), .int .i64 (-1), .string (wd ws 3), .string ⟨#[]⟩] 29 (0, 0))) ∧ Hid (Below w1.heap.size w1 wx) ∧ Hid (w1.heap.size ≤ yb ∧ yb < wx.heap.size))
  case first =>
    have HSS : Hid (∀ w' : World, WordsAt w' g ws → w'.cell? ⟨g, 0, none⟩ = some (.string (wd ws 0)) ∧ w'.cell? ⟨g, 1, none⟩ = some (.string (wd ws 1)) ∧ w'.cell? ⟨g, 3, none⟩ = some (.string (wd ws 3))) := Lib.hid (fun w' h => ⟨h.2 0 n0, h.2 1 n1, h.2 3 n3⟩)
    refine wp_region_held_drew (S := (fun w' => w'.cell? ⟨g, 0, none⟩ = some (.string (wd ws 0)) ∧ w'.cell? ⟨g, 1, none⟩ = some (.string (wd ws 1)) ∧ w'.cell? ⟨g, 3, none⟩ = some (.string (wd ws 3)))) (by kernel_rfl) (HSS.out _ (HW1.out.later (Below.refl _ _).drew)) (fun hHeld => ?_)
    obtain ⟨zD, hzD⟩ : ∃ z, z = w1.drew := ⟨_, rfl⟩
    rw [← hzD] at hHeld ⊢
    have bzD : Below w1.heap.size w1 zD := by rw [hzD]; exact (Below.refl _ _).drew
    have B2 : Hid (Below w1.heap.size w1 zD) := Lib.hid bzD
    replace KR := Lib.hid ((bzD.block _ LR.out).trans KR.out)
    replace LR := Lib.hid (Nat.lt_of_lt_of_le LR.out bzD.size)
    replace HW1 := Lib.hid (HW1.out.later bzD)
    replace BB := Lib.hid (BB.out.trans (bzD.mono BB.out.size))
    clear bzD hzD
    refine wpAnyH_take (i := 0) (v := ?_) rfl (by kernel_rfl) (by kernel_rfl) (by kernel_rfl) (fun _ _ _ h => h) ?_ (by assumption) ?_
    rotate_left
    · first | (refine Or.inl ⟨by rfl, ?_⟩; intro w hSw; go_simp; done) | (refine Or.inl ⟨by rfl, ?_⟩; intro w hSw; go_simp; with_reducible rfl)
    try simp only [List.getElem_toArray, List.getElem_cons_zero, Act.put, List.setIfInBounds_toArray, List.set_cons_zero, List.set_cons_succ]
    refine wpAnyH_take (i := 1) (v := ?_) rfl (by kernel_rfl) (by kernel_rfl) (by kernel_rfl) (fun _ _ _ h => h) ?_ (by assumption) ?_
    rotate_left
    · first | (refine Or.inl ⟨by rfl, ?_⟩; intro w hSw; go_simp; done) | (refine Or.inl ⟨by rfl, ?_⟩; intro w hSw; go_simp; with_reducible rfl)
    try simp only [List.getElem_toArray, List.getElem_cons_zero, List.getElem_cons_succ, Act.put, List.setIfInBounds_toArray, List.set_cons_zero, List.set_cons_succ]
    refine wpAnyH_take (i := 2) (v := ?_) rfl (by kernel_rfl) (by kernel_rfl) (by kernel_rfl) (fun _ _ _ h => h) ?_ (by assumption) ?_
    rotate_left
    · first | (refine Or.inl ⟨by rfl, ?_⟩; intro w hSw; obtain ⟨c0, c1, c3⟩ := hSw; go_simp; done) | (refine Or.inl ⟨by rfl, ?_⟩; intro w hSw; obtain ⟨c0, c1, c3⟩ := hSw; go_simp; with_reducible rfl)
    try simp only [List.getElem_toArray, List.getElem_cons_zero, List.getElem_cons_succ, Act.put, List.setIfInBounds_toArray, List.set_cons_zero, List.set_cons_succ]
    refine wpAnyH_take (i := 3) (v := ?_) rfl (by kernel_rfl) (by kernel_rfl) (by kernel_rfl) (fun _ _ _ h => h) ?_ (by assumption) ?_
    rotate_left
    · first | (refine Or.inl ⟨by rfl, ?_⟩; intro w hSw; go_simp; done) | (refine Or.inl ⟨by rfl, ?_⟩; intro w hSw; go_simp; with_reducible rfl)
    try simp only [List.getElem_toArray, List.getElem_cons_zero, List.getElem_cons_succ, Act.put, List.setIfInBounds_toArray, List.set_cons_zero, List.set_cons_succ]
    refine wpAnyH_take (i := 4) (v := ?_) rfl (by kernel_rfl) (by kernel_rfl) (by kernel_rfl) (fun _ _ _ h => h) ?_ (by assumption) ?_
    rotate_left
    · first | (refine Or.inl ⟨by rfl, ?_⟩; intro w hSw; go_simp; done) | (refine Or.inl ⟨by rfl, ?_⟩; intro w hSw; go_simp; with_reducible rfl)
    try simp only [List.getElem_toArray, List.getElem_cons_zero, List.getElem_cons_succ, Act.put, List.setIfInBounds_toArray, List.set_cons_zero, List.set_cons_succ]
    refine wpAnyH_take (i := 5) (v := ?_) rfl (by kernel_rfl) (by kernel_rfl) (by kernel_rfl) (fun _ _ _ h => h) ?_ (by assumption) ?_
    rotate_left
    · first | (refine Or.inl ⟨by rfl, ?_⟩; intro w hSw; obtain ⟨c0, c1, c3⟩ := hSw; go_simp; done) | (refine Or.inl ⟨by rfl, ?_⟩; intro w hSw; obtain ⟨c0, c1, c3⟩ := hSw; go_simp; with_reducible rfl)
    try simp only [List.getElem_toArray, List.getElem_cons_zero, List.getElem_cons_succ, Act.put, List.setIfInBounds_toArray, List.set_cons_zero, List.set_cons_succ]
    refine wpAnyH_take (i := 7) (v := ?_) rfl (by kernel_rfl) (by kernel_rfl) (by kernel_rfl) (fun _ _ _ h => h) ?_ (by assumption) ?_
    rotate_left
    · first | (refine Or.inl ⟨by rfl, ?_⟩; intro w hSw; go_simp; done) | (refine Or.inl ⟨by rfl, ?_⟩; intro w hSw; go_simp; with_reducible rfl)
    try simp only [List.getElem_toArray, List.getElem_cons_zero, List.getElem_cons_succ, Act.put, List.setIfInBounds_toArray, List.set_cons_zero, List.set_cons_succ]
    refine wpAnyH_take (i := 8) (v := ?_) rfl (by kernel_rfl) (by kernel_rfl) (by kernel_rfl) (fun _ _ _ h => h) ?_ (by assumption) ?_
    rotate_left
    · first | (refine Or.inl ⟨by rfl, ?_⟩; intro w hSw; go_simp; done) | (refine Or.inl ⟨by rfl, ?_⟩; intro w hSw; go_simp; with_reducible rfl)
    try simp only [List.getElem_toArray, List.getElem_cons_zero, List.getElem_cons_succ, Act.put, List.setIfInBounds_toArray, List.set_cons_zero, List.set_cons_succ]
    refine wpAnyH_take (i := 9) (v := ?_) rfl (by kernel_rfl) (by kernel_rfl) (by kernel_rfl) (fun _ _ _ h => h) ?_ (by assumption) ?_
    rotate_left
    · first | (refine Or.inl ⟨by rfl, ?_⟩; intro w hSw; obtain ⟨c0, c1, c3⟩ := hSw; go_simp; done) | (refine Or.inl ⟨by rfl, ?_⟩; intro w hSw; obtain ⟨c0, c1, c3⟩ := hSw; go_simp; with_reducible rfl)
    try simp only [List.getElem_toArray, List.getElem_cons_zero, List.getElem_cons_succ, Act.put, List.setIfInBounds_toArray, List.set_cons_zero, List.set_cons_succ]
    refine wpAnyH_ready (rs := [6, 11]) (by kernel_rfl) (by simp) ?_
    refine AllReadyH.cons rfl (fun K hK => ?_) (AllReadyH.cons rfl (fun K hK => ?_) (AllReadyH.nil))
    · have hc := spec_readDec (wd ws 1) zD (by have := HF.out 1; have := Hs.out; unfold maxLen; omega)
      go_simp
      go_at_call 59
      refine hc.mono ?_
      rintro e wq ⟨rfl, rfl⟩
      clear hc
      go_wp2_with fail
      refine hK.out _ _ (HSS.out _ HW1.out) (fun hHeld => ?_)
      clear hK K
      try simp only [List.getElem_toArray, List.getElem_cons_zero, List.getElem_cons_succ, Act.put, List.setIfInBounds_toArray, List.set_cons_zero, List.set_cons_succ]
      refine wpAnyH_take (i := 10) (v := ?_) rfl (by kernel_rfl) (by kernel_rfl) (by kernel_rfl) (fun _ _ _ h => h) ?_ (by assumption) ?_
      rotate_left
      · first | (refine Or.inl ⟨by rfl, ?_⟩; intro w hSw; go_simp; done) | (refine Or.inl ⟨by rfl, ?_⟩; intro w hSw; go_simp; with_reducible rfl)
      try simp only [List.getElem_toArray, List.getElem_cons_zero, List.getElem_cons_succ, Act.put, List.setIfInBounds_toArray, List.set_cons_zero, List.set_cons_succ]
      refine wpAnyH_ready (rs := [11]) (by kernel_rfl) (by simp) ?_
      refine AllReadyH.cons rfl (fun K hK => ?_) (AllReadyH.nil)
      go_simp
      obtain ⟨V, hV⟩ : ∃ V, V = zD.alloc (.cells #[.string ⟨#[]⟩, .int .i64 0, .int .i64 0, .string ⟨#[]⟩, .string ⟨#[]⟩] 29) := ⟨_, rfl⟩
      rw [← hV]
      have bV : Below zD.heap.size zD V := by rw [hV]; exact (Below.refl _ _).alloc (Nat.le_refl _) _
      have KY : Hid (V.heap[zD.heap.size]? = some (.cells #[.string ⟨#[]⟩, .int .i64 0, .int .i64 0, .string ⟨#[]⟩, .string ⟨#[]⟩] 29 (0, 0))) := Lib.hid (by rw [hV]; exact heap_new _ _)
      have LY : Hid (zD.heap.size < V.heap.size) := Lib.hid (by rw [hV]; simp)
      have NY : Hid (w1.heap.size ≤ zD.heap.size) := Lib.hid B2.out.size
      have GZ : Hid (g < zD.heap.size) := Lib.hid HW1.out.1
      replace KR := Lib.hid ((bV.block _ LR.out).trans KR.out)
      replace LR := Lib.hid (Nat.lt_of_lt_of_le LR.out bV.size)
      replace HW1 := Lib.hid (HW1.out.later bV)
      replace BB := Lib.hid (BB.out.trans (bV.mono BB.out.size))
      replace B2 := Lib.hid (B2.out.trans (bV.mono B2.out.size))
      clear bV hV
      refine hK.out _ _ (HSS.out _ HW1.out) (fun hHeld => ?_)
      clear hK K
      try simp only [List.getElem_toArray, List.getElem_cons_zero, List.getElem_cons_succ, Act.put, List.setIfInBounds_toArray, List.set_cons_zero, List.set_cons_succ]
      have fY0 := cell_of_row V _ 0 _ _ _ KY.out
      have fY1 := cell_of_row V _ 1 _ _ _ KY.out
      have fY2 := cell_of_row V _ 2 _ _ _ KY.out
      have fY3 := cell_of_row V _ 3 _ _ _ KY.out
      have fY4 := cell_of_row V _ 4 _ _ _ KY.out
      simp only [List.getElem?_toArray, List.getElem?_cons_zero, List.getElem?_cons_succ] at fY0 fY1 fY2 fY3 fY4
      have zY0 := frozen_of_row V _ 0 _ _ KY.out
      have zY1 := frozen_of_row V _ 1 _ _ KY.out
      have zY2 := frozen_of_row V _ 2 _ _ KY.out
      have zY3 := frozen_of_row V _ 3 _ _ KY.out
      have zY4 := frozen_of_row V _ 4 _ _ KY.out
      refine wpAnyH_ready (rs := [12]) (by kernel_rfl) (by simp) ?_
      refine AllReadyH.cons rfl (fun K hK => ?_) (AllReadyH.nil)
      go_simp
      obtain ⟨Y, hY⟩ : ∃ Y, Y = (((((V.setCell ⟨zD.heap.size, 0, none⟩ (.string (wd ws 0))).setCell ⟨zD.heap.size, 1, none⟩ (.int .i64 (rd (wd ws 1).data.toList))).setCell ⟨zD.heap.size, 2, none⟩ (.int .i64 (-1))).setCell ⟨zD.heap.size, 3, none⟩ (.string (wd ws 3))).setCell ⟨zD.heap.size, 4, none⟩ (.string ⟨#[]⟩)) := ⟨_, rfl⟩
      rw [← hY]
      have r0 := heap_setCell_same _ zD.heap.size 0 _ _ (.string (wd ws 0)) KY.out
      have r1 := heap_setCell_same _ zD.heap.size 1 _ _ (.int .i64 (rd (wd ws 1).data.toList)) r0
      have r2 := heap_setCell_same _ zD.heap.size 2 _ _ (.int .i64 (-1)) r1
      have r3 := heap_setCell_same _ zD.heap.size 3 _ _ (.string (wd ws 3)) r2
      have r4 := heap_setCell_same _ zD.heap.size 4 _ _ (.string ⟨#[]⟩) r3
      rw [← hY] at r4
      simp only [List.setIfInBounds_toArray, List.set_cons_zero, List.set_cons_succ] at r4
      have R4 := Lib.hid r4
      have gY : V.grownBy Y (some zD.heap.size) := by rw [hY]; exact ((((grown_set _ ⟨zD.heap.size, 0, none⟩ _).trans (grown_set _ ⟨zD.heap.size, 1, none⟩ _)).trans (grown_set _ ⟨zD.heap.size, 2, none⟩ _)).trans (grown_set _ ⟨zD.heap.size, 3, none⟩ _)).trans (grown_set _ ⟨zD.heap.size, 4, none⟩ _)
      clear fY0 fY1 fY2 fY3 fY4
      clear zY0 zY1 zY2 zY3 zY4
      have HWY : WordsAt Y g ws := HW1.out.grown gY (by have := GZ.out; omega)
      have BY : Hid (Below w1.heap.size w1 Y) := Lib.hid (B2.out.grown gY B2.out.size (fun k hk => by cases hk; exact NY.out))
      have LY2 : Hid (zD.heap.size < Y.heap.size) := Lib.hid (Nat.lt_of_lt_of_le LY.out gY.size)
      clear r0 r1 r2 r3 r4 hY gY
      refine hK.out _ _ (HSS.out _ HWY) (fun hHeld => ?_)
      clear hK K
      try simp only [List.getElem_toArray, List.getElem_cons_zero, List.getElem_cons_succ, Act.put, List.setIfInBounds_toArray, List.set_cons_zero, List.set_cons_succ]
      refine wpAnyH_done (by kernel_rfl) ?_ _
      clear hHeld HSS
      go_wp2_with fail
      go_meet
      exact ⟨zD.heap.size, rfl, R4, BY, Lib.hid ⟨NY.out, LY2.out⟩⟩
    · go_simp
      obtain ⟨V, hV⟩ : ∃ V, V = zD.alloc (.cells #[.string ⟨#[]⟩, .int .i64 0, .int .i64 0, .string ⟨#[]⟩, .string ⟨#[]⟩] 29) := ⟨_, rfl⟩
      rw [← hV]
      have bV : Below zD.heap.size zD V := by rw [hV]; exact (Below.refl _ _).alloc (Nat.le_refl _) _
      have KY : Hid (V.heap[zD.heap.size]? = some (.cells #[.string ⟨#[]⟩, .int .i64 0, .int .i64 0, .string ⟨#[]⟩, .string ⟨#[]⟩] 29 (0, 0))) := Lib.hid (by rw [hV]; exact heap_new _ _)
      have LY : Hid (zD.heap.size < V.heap.size) := Lib.hid (by rw [hV]; simp)
      have NY : Hid (w1.heap.size ≤ zD.heap.size) := Lib.hid B2.out.size
      have GZ : Hid (g < zD.heap.size) := Lib.hid HW1.out.1
      replace KR := Lib.hid ((bV.block _ LR.out).trans KR.out)
      replace LR := Lib.hid (Nat.lt_of_lt_of_le LR.out bV.size)
      replace HW1 := Lib.hid (HW1.out.later bV)
      replace BB := Lib.hid (BB.out.trans (bV.mono BB.out.size))
      replace B2 := Lib.hid (B2.out.trans (bV.mono B2.out.size))
      clear bV hV
      refine hK.out _ _ (HSS.out _ HW1.out) (fun hHeld => ?_)
      clear hK K
      try simp only [List.getElem_toArray, List.getElem_cons_zero, List.getElem_cons_succ, Act.put, List.setIfInBounds_toArray, List.set_cons_zero, List.set_cons_succ]
      refine wpAnyH_ready (rs := [6]) (by kernel_rfl) (by simp) ?_
      refine AllReadyH.cons rfl (fun K hK => ?_) (AllReadyH.nil)
      have hc := spec_readDec (wd ws 1) V (by have := HF.out 1; have := Hs.out; unfold maxLen; omega)
      go_simp
      go_at_call 59
      refine hc.mono ?_
      rintro e wq ⟨rfl, rfl⟩
      clear hc
      go_wp2_with fail
      refine hK.out _ _ (HSS.out _ HW1.out) (fun hHeld => ?_)
      clear hK K
      try simp only [List.getElem_toArray, List.getElem_cons_zero, List.getElem_cons_succ, Act.put, List.setIfInBounds_toArray, List.set_cons_zero, List.set_cons_succ]
      refine wpAnyH_take (i := 10) (v := ?_) rfl (by kernel_rfl) (by kernel_rfl) (by kernel_rfl) (fun _ _ _ h => h) ?_ (by assumption) ?_
      rotate_left
      · first | (refine Or.inl ⟨by rfl, ?_⟩; intro w hSw; go_simp; done) | (refine Or.inl ⟨by rfl, ?_⟩; intro w hSw; go_simp; with_reducible rfl)
      try simp only [List.getElem_toArray, List.getElem_cons_zero, List.getElem_cons_succ, Act.put, List.setIfInBounds_toArray, List.set_cons_zero, List.set_cons_succ]
      have fY0 := cell_of_row V _ 0 _ _ _ KY.out
      have fY1 := cell_of_row V _ 1 _ _ _ KY.out
      have fY2 := cell_of_row V _ 2 _ _ _ KY.out
      have fY3 := cell_of_row V _ 3 _ _ _ KY.out
      have fY4 := cell_of_row V _ 4 _ _ _ KY.out
      simp only [List.getElem?_toArray, List.getElem?_cons_zero, List.getElem?_cons_succ] at fY0 fY1 fY2 fY3 fY4
      have zY0 := frozen_of_row V _ 0 _ _ KY.out
      have zY1 := frozen_of_row V _ 1 _ _ KY.out
      have zY2 := frozen_of_row V _ 2 _ _ KY.out
      have zY3 := frozen_of_row V _ 3 _ _ KY.out
      have zY4 := frozen_of_row V _ 4 _ _ KY.out
      refine wpAnyH_ready (rs := [12]) (by kernel_rfl) (by simp) ?_
      refine AllReadyH.cons rfl (fun K hK => ?_) (AllReadyH.nil)
      go_simp
      obtain ⟨Y, hY⟩ : ∃ Y, Y = (((((V.setCell ⟨zD.heap.size, 0, none⟩ (.string (wd ws 0))).setCell ⟨zD.heap.size, 1, none⟩ (.int .i64 (rd (wd ws 1).data.toList))).setCell ⟨zD.heap.size, 2, none⟩ (.int .i64 (-1))).setCell ⟨zD.heap.size, 3, none⟩ (.string (wd ws 3))).setCell ⟨zD.heap.size, 4, none⟩ (.string ⟨#[]⟩)) := ⟨_, rfl⟩
      rw [← hY]
      have r0 := heap_setCell_same _ zD.heap.size 0 _ _ (.string (wd ws 0)) KY.out
      have r1 := heap_setCell_same _ zD.heap.size 1 _ _ (.int .i64 (rd (wd ws 1).data.toList)) r0
      have r2 := heap_setCell_same _ zD.heap.size 2 _ _ (.int .i64 (-1)) r1
      have r3 := heap_setCell_same _ zD.heap.size 3 _ _ (.string (wd ws 3)) r2
      have r4 := heap_setCell_same _ zD.heap.size 4 _ _ (.string ⟨#[]⟩) r3
      rw [← hY] at r4
      simp only [List.setIfInBounds_toArray, List.set_cons_zero, List.set_cons_succ] at r4
      have R4 := Lib.hid r4
      have gY : V.grownBy Y (some zD.heap.size) := by rw [hY]; exact ((((grown_set _ ⟨zD.heap.size, 0, none⟩ _).trans (grown_set _ ⟨zD.heap.size, 1, none⟩ _)).trans (grown_set _ ⟨zD.heap.size, 2, none⟩ _)).trans (grown_set _ ⟨zD.heap.size, 3, none⟩ _)).trans (grown_set _ ⟨zD.heap.size, 4, none⟩ _)
      clear fY0 fY1 fY2 fY3 fY4
      clear zY0 zY1 zY2 zY3 zY4
      have HWY : WordsAt Y g ws := HW1.out.grown gY (by have := GZ.out; omega)
      have BY : Hid (Below w1.heap.size w1 Y) := Lib.hid (B2.out.grown gY B2.out.size (fun k hk => by cases hk; exact NY.out))
      have LY2 : Hid (zD.heap.size < Y.heap.size) := Lib.hid (Nat.lt_of_lt_of_le LY.out gY.size)
      clear r0 r1 r2 r3 r4 hY gY
      refine hK.out _ _ (HSS.out _ HWY) (fun hHeld => ?_)
      clear hK K
      try simp only [List.getElem_toArray, List.getElem_cons_zero, List.getElem_cons_succ, Act.put, List.setIfInBounds_toArray, List.set_cons_zero, List.set_cons_succ]
      refine wpAnyH_done (by kernel_rfl) ?_ _
      clear hHeld HSS
      go_wp2_with fail
      go_meet
      exact ⟨zD.heap.size, rfl, R4, BY, Lib.hid ⟨NY.out, LY2.out⟩⟩
  case rest =>
    obtain ⟨yb, rfl, KY, bA, NY⟩ := hcut
    obtain ⟨w3, rfl⟩ : ∃ z, z = wc := ⟨_, rfl⟩
    have NRY : Hid (w.heap.size < yb) := Lib.hid (Nat.lt_of_lt_of_le LR2.out NY.out.1)
    have NYL : Hid (w1.heap.size ≤ yb) := Lib.hid NY.out.1
    have LY0 : Hid (yb < w3.heap.size) := Lib.hid NY.out.2
    go_wp2_with fail
    go_loopw [6] (fun i wr => ∃ k : Nat, k ≤ 3 ∧ i = .int .i64 k ∧ Hid (wr.heap[yb]? = some (.cells #[.string (wd ws 0), .int .i64 (rd (wd ws 1).data.toList), .int .i64 (kdTo k (wd ws 2)), .string (wd ws 3), .string ⟨#[]⟩] 29 (0, 0))) ∧ Hid (Below w1.heap.size w1 wr) ∧ Hid (yb < wr.heap.size)) (fun i _ => 3 - (intOf i).toNat)
    case atStart => exact ⟨0, by omega, rfl, KY, bA, LY0⟩
    case round =>
      clear KY bA LY0 NY
      obtain ⟨k, hk, rfl, KY, bA, LY⟩ := hrel
      replace KR := Lib.hid ((bA.out.block _ LR.out).trans KR.out)
      replace LR := Lib.hid (Nat.lt_of_lt_of_le LR.out bA.out.size)
      replace BB := Lib.hid (BB.out.trans (bA.out.mono BB.out.size))
      replace HW1 := Lib.hid (HW1.out.later bA.out)
      by_cases hlt : k < 3
      · have hk3 : k = 0 ∨ k = 1 ∨ k = 2 := by omega
        clear hlt hk
        rcases hk3 with rfl | rfl | rfl
        · have HSS : Hid (∀ w' : World, WordsAt w' g ws → w'.cell? ⟨g, 2, none⟩ = some (.string (wd ws 2))) := Lib.hid (fun w' h => h.2 2 n2)
          go_wp2_with fail
          refine wp_region_held_drew (S := (fun w' => w'.cell? ⟨g, 2, none⟩ = some (.string (wd ws 2)))) (by kernel_rfl) (HSS.out _ (HW1.out.later (Below.refl _ _).drew)) (fun hHeld => ?_)
          obtain ⟨zD, hzD⟩ : ∃ z, z = wr.drew := ⟨_, rfl⟩
          rw [← hzD] at hHeld ⊢
          have bzD : Below wr.heap.size wr zD := by rw [hzD]; exact (Below.refl _ _).drew
          replace KR := Lib.hid ((bzD.block _ LR.out).trans KR.out)
          replace LR := Lib.hid (Nat.lt_of_lt_of_le LR.out bzD.size)
          replace KY := Lib.hid ((bzD.block _ LY.out).trans KY.out)
          replace LY := Lib.hid (Nat.lt_of_lt_of_le LY.out bzD.size)
          replace HW1 := Lib.hid (HW1.out.later bzD)
          replace BB := Lib.hid (BB.out.trans (bzD.mono BB.out.size))
          replace bA := Lib.hid (bA.out.trans (bzD.mono bA.out.size))
          clear bzD hzD
          refine wpAnyH_take (i := 0) (v := ?_) rfl (by kernel_rfl) (by kernel_rfl) (by kernel_rfl) (fun _ _ _ h => h) ?_ (by assumption) ?_
          rotate_left
          · first | (refine Or.inl ⟨by rfl, ?_⟩; intro w hSw; go_simp; done) | (refine Or.inl ⟨by rfl, ?_⟩; intro w hSw; go_simp; with_reducible rfl)
          try simp only [List.getElem_toArray, List.getElem_cons_zero, Act.put, List.setIfInBounds_toArray, List.set_cons_zero, List.set_cons_succ]
          refine wpAnyH_take (i := 1) (v := ?_) rfl (by kernel_rfl) (by kernel_rfl) (by kernel_rfl) (fun _ _ _ h => h) ?_ (by assumption) ?_
          rotate_left
          · first | (refine Or.inl ⟨by rfl, ?_⟩; intro w hSw; go_simp; done) | (refine Or.inl ⟨by rfl, ?_⟩; intro w hSw; go_simp; with_reducible rfl)
          try simp only [List.getElem_toArray, List.getElem_cons_zero, List.getElem_cons_succ, Act.put, List.setIfInBounds_toArray, List.set_cons_zero, List.set_cons_succ]
          refine wpAnyH_take (i := 2) (v := ?_) rfl (by kernel_rfl) (by kernel_rfl) (by kernel_rfl) (fun _ _ _ h => h) ?_ (by assumption) ?_
          rotate_left
          · first | (refine Or.inl ⟨by rfl, ?_⟩; intro w hSw; have c2 := hSw; go_simp; done) | (refine Or.inl ⟨by rfl, ?_⟩; intro w hSw; have c2 := hSw; go_simp; with_reducible rfl)
          try simp only [List.getElem_toArray, List.getElem_cons_zero, List.getElem_cons_succ, Act.put, List.setIfInBounds_toArray, List.set_cons_zero, List.set_cons_succ]
          refine wpAnyH_take (i := 4) (v := ?_) rfl (by kernel_rfl) (by kernel_rfl) (by kernel_rfl) (fun _ _ _ h => h) ?_ (by assumption) ?_
          rotate_left
          · first | (refine Or.inl ⟨by rfl, ?_⟩; intro w hSw; go_simp; done) | (refine Or.inl ⟨by rfl, ?_⟩; intro w hSw; go_simp; with_reducible rfl)
          try simp only [List.getElem_toArray, List.getElem_cons_zero, List.getElem_cons_succ, Act.put, List.setIfInBounds_toArray, List.set_cons_zero, List.set_cons_succ]
          refine wpAnyH_ready (rs := [3]) (by kernel_rfl) (by simp) ?_
          refine AllReadyH.cons rfl (fun K hK => ?_) (AllReadyH.nil)
          go_simp
          obtain ⟨V, hV⟩ : ∃ V, V = zD.alloc (.cells #[.string ⟨#[103, 101, 116]⟩, .string ⟨#[112, 117, 116]⟩, .string ⟨#[100, 101, 108]⟩] 9) := ⟨_, rfl⟩
          rw [← hV]
          have bV : Below zD.heap.size zD V := by rw [hV]; exact (Below.refl _ _).alloc (Nat.le_refl _) _
          have fV := cell_of_row V zD.heap.size 0 _ _ _ (by rw [hV]; exact heap_new _ _)
          simp only [List.getElem?_toArray, List.getElem?_cons_zero, List.getElem?_cons_succ] at fV
          have FV := Lib.hid fV
          replace KR := Lib.hid ((bV.block _ LR.out).trans KR.out)
          replace LR := Lib.hid (Nat.lt_of_lt_of_le LR.out bV.size)
          replace KY := Lib.hid ((bV.block _ LY.out).trans KY.out)
          replace LY := Lib.hid (Nat.lt_of_lt_of_le LY.out bV.size)
          replace HW1 := Lib.hid (HW1.out.later bV)
          replace BB := Lib.hid (BB.out.trans (bV.mono BB.out.size))
          replace bA := Lib.hid (bA.out.trans (bV.mono bA.out.size))
          clear bV hV fV
          refine hK.out _ _ (HSS.out _ HW1.out) (fun hHeld => ?_)
          clear hK K
          try simp only [List.getElem_toArray, List.getElem_cons_zero, List.getElem_cons_succ, Act.put, List.setIfInBounds_toArray, List.set_cons_zero, List.set_cons_succ]
          refine wpAnyH_take (i := 5) (v := ?_) rfl (by kernel_rfl) (by kernel_rfl) (by kernel_rfl) (fun _ _ _ h => h) ?_ (by assumption) ?_
          rotate_left
          · first | (refine Or.inl ⟨by rfl, ?_⟩; intro w hSw; go_simp; done) | (refine Or.inl ⟨by rfl, ?_⟩; intro w hSw; go_simp; with_reducible rfl)
          try simp only [List.getElem_toArray, List.getElem_cons_zero, List.getElem_cons_succ, Act.put, List.setIfInBounds_toArray, List.set_cons_zero, List.set_cons_succ]
          refine wpAnyH_ready (rs := [6]) (by kernel_rfl) (by simp) ?_
          refine AllReadyH.cons rfl (fun K hK => ?_) (AllReadyH.nil)
          have fV := FV.out
          go_simp
          clear fV
          refine hK.out _ _ (HSS.out _ HW1.out) (fun hHeld => ?_)
          clear hK K
          try simp only [List.getElem_toArray, List.getElem_cons_zero, List.getElem_cons_succ, Act.put, List.setIfInBounds_toArray, List.set_cons_zero, List.set_cons_succ]
          refine wpAnyH_take (i := 7) (v := ?_) rfl (by kernel_rfl) (by kernel_rfl) (by kernel_rfl) (fun _ _ _ h => h) ?_ (by assumption) ?_
          rotate_left
          · first | (refine Or.inl ⟨by rfl, ?_⟩; intro w hSw; go_simp; done) | (refine Or.inl ⟨by rfl, ?_⟩; intro w hSw; go_simp; with_reducible rfl)
          try simp only [List.getElem_toArray, List.getElem_cons_zero, List.getElem_cons_succ, Act.put, List.setIfInBounds_toArray, List.set_cons_zero, List.set_cons_succ]
          refine wpAnyH_done (by kernel_rfl) ?_ _
          clear hHeld HSS FV
          by_cases he : wd ws 2 = ⟨#[103, 101, 116]⟩
          · have he' := teq he
            rw [ByteArray.toList_eq ⟨#[103, 101, 116]⟩] at he'
            change ((wd ws 2).toList == [103, 101, 116]) = true at he'
            simp only [he']
            clear he'
            have HKD : Hid (kdTo 1 (wd ws 2) = 0) := Lib.hid (if_pos he)
            clear he
            have fY0 := cell_of_row V _ 0 _ _ _ KY.out
            have fY1 := cell_of_row V _ 1 _ _ _ KY.out
            have fY2 := cell_of_row V _ 2 _ _ _ KY.out
            have fY3 := cell_of_row V _ 3 _ _ _ KY.out
            have fY4 := cell_of_row V _ 4 _ _ _ KY.out
            simp only [List.getElem?_toArray, List.getElem?_cons_zero, List.getElem?_cons_succ] at fY0 fY1 fY2 fY3 fY4
            have zY0 := frozen_of_row V _ 0 _ _ KY.out
            have zY1 := frozen_of_row V _ 1 _ _ KY.out
            have zY2 := frozen_of_row V _ 2 _ _ KY.out
            have zY3 := frozen_of_row V _ 3 _ _ KY.out
            have zY4 := frozen_of_row V _ 4 _ _ KY.out
            have r0 := heap_setCell_same _ yb 2 _ _ (.int .i64 0) KY.out
            simp only [List.setIfInBounds_toArray, List.set_cons_zero, List.set_cons_succ] at r0
            have R0 := Lib.hid r0
            clear r0
            have BY : Hid (Below w1.heap.size w1 (V.setCell ⟨yb, 2, none⟩ (.int .i64 0))) := Lib.hid (bA.out.setCell (p := ⟨yb, 2, none⟩) NYL.out _)
            have LYv : Hid (yb < (V.setCell ⟨yb, 2, none⟩ (.int .i64 0)).heap.size) := Lib.hid (by simpa using LY.out)
            go_wp2_with fail
            clear fY0 fY1 fY2 fY3 fY4
            clear zY0 zY1 zY2 zY3 zY4
            go_roundw
            case rel => exact ⟨1, by omega, by go_num, by rw [HKD.out]; exact R0, BY, LYv⟩
            case measure => simp [intOf]
          · have he' := tne he
            rw [ByteArray.toList_eq ⟨#[103, 101, 116]⟩] at he'
            change ((wd ws 2).toList == [103, 101, 116]) = false at he'
            simp only [he']
            clear he'
            have HKD : Hid (kdTo 1 (wd ws 2) = kdTo 0 (wd ws 2)) := Lib.hid (if_neg he)
            clear he
            go_wp2_with fail
            go_roundw
            case rel => exact ⟨1, by omega, by go_num, by rw [HKD.out]; exact KY, bA, LY⟩
            case measure => simp [intOf]
        · have HSS : Hid (∀ w' : World, WordsAt w' g ws → w'.cell? ⟨g, 2, none⟩ = some (.string (wd ws 2))) := Lib.hid (fun w' h => h.2 2 n2)
          go_wp2_with fail
          refine wp_region_held_drew (S := (fun w' => w'.cell? ⟨g, 2, none⟩ = some (.string (wd ws 2)))) (by kernel_rfl) (HSS.out _ (HW1.out.later (Below.refl _ _).drew)) (fun hHeld => ?_)
          obtain ⟨zD, hzD⟩ : ∃ z, z = wr.drew := ⟨_, rfl⟩
          rw [← hzD] at hHeld ⊢
          have bzD : Below wr.heap.size wr zD := by rw [hzD]; exact (Below.refl _ _).drew
          replace KR := Lib.hid ((bzD.block _ LR.out).trans KR.out)
          replace LR := Lib.hid (Nat.lt_of_lt_of_le LR.out bzD.size)
          replace KY := Lib.hid ((bzD.block _ LY.out).trans KY.out)
          replace LY := Lib.hid (Nat.lt_of_lt_of_le LY.out bzD.size)
          replace HW1 := Lib.hid (HW1.out.later bzD)
          replace BB := Lib.hid (BB.out.trans (bzD.mono BB.out.size))
          replace bA := Lib.hid (bA.out.trans (bzD.mono bA.out.size))
          clear bzD hzD
          refine wpAnyH_take (i := 0) (v := ?_) rfl (by kernel_rfl) (by kernel_rfl) (by kernel_rfl) (fun _ _ _ h => h) ?_ (by assumption) ?_
          rotate_left
          · first | (refine Or.inl ⟨by rfl, ?_⟩; intro w hSw; go_simp; done) | (refine Or.inl ⟨by rfl, ?_⟩; intro w hSw; go_simp; with_reducible rfl)
          try simp only [List.getElem_toArray, List.getElem_cons_zero, Act.put, List.setIfInBounds_toArray, List.set_cons_zero, List.set_cons_succ]
          refine wpAnyH_take (i := 1) (v := ?_) rfl (by kernel_rfl) (by kernel_rfl) (by kernel_rfl) (fun _ _ _ h => h) ?_ (by assumption) ?_
          rotate_left
          · first | (refine Or.inl ⟨by rfl, ?_⟩; intro w hSw; go_simp; done) | (refine Or.inl ⟨by rfl, ?_⟩; intro w hSw; go_simp; with_reducible rfl)
          try simp only [List.getElem_toArray, List.getElem_cons_zero, List.getElem_cons_succ, Act.put, List.setIfInBounds_toArray, List.set_cons_zero, List.set_cons_succ]
          refine wpAnyH_take (i := 2) (v := ?_) rfl (by kernel_rfl) (by kernel_rfl) (by kernel_rfl) (fun _ _ _ h => h) ?_ (by assumption) ?_
          rotate_left
          · first | (refine Or.inl ⟨by rfl, ?_⟩; intro w hSw; have c2 := hSw; go_simp; done) | (refine Or.inl ⟨by rfl, ?_⟩; intro w hSw; have c2 := hSw; go_simp; with_reducible rfl)
          try simp only [List.getElem_toArray, List.getElem_cons_zero, List.getElem_cons_succ, Act.put, List.setIfInBounds_toArray, List.set_cons_zero, List.set_cons_succ]
          refine wpAnyH_take (i := 4) (v := ?_) rfl (by kernel_rfl) (by kernel_rfl) (by kernel_rfl) (fun _ _ _ h => h) ?_ (by assumption) ?_
          rotate_left
          · first | (refine Or.inl ⟨by rfl, ?_⟩; intro w hSw; go_simp; done) | (refine Or.inl ⟨by rfl, ?_⟩; intro w hSw; go_simp; with_reducible rfl)
          try simp only [List.getElem_toArray, List.getElem_cons_zero, List.getElem_cons_succ, Act.put, List.setIfInBounds_toArray, List.set_cons_zero, List.set_cons_succ]
          refine wpAnyH_ready (rs := [3]) (by kernel_rfl) (by simp) ?_
          refine AllReadyH.cons rfl (fun K hK => ?_) (AllReadyH.nil)
          go_simp
          obtain ⟨V, hV⟩ : ∃ V, V = zD.alloc (.cells #[.string ⟨#[103, 101, 116]⟩, .string ⟨#[112, 117, 116]⟩, .string ⟨#[100, 101, 108]⟩] 9) := ⟨_, rfl⟩
          rw [← hV]
          have bV : Below zD.heap.size zD V := by rw [hV]; exact (Below.refl _ _).alloc (Nat.le_refl _) _
          have fV := cell_of_row V zD.heap.size 1 _ _ _ (by rw [hV]; exact heap_new _ _)
          simp only [List.getElem?_toArray, List.getElem?_cons_zero, List.getElem?_cons_succ] at fV
          have FV := Lib.hid fV
          replace KR := Lib.hid ((bV.block _ LR.out).trans KR.out)
          replace LR := Lib.hid (Nat.lt_of_lt_of_le LR.out bV.size)
          replace KY := Lib.hid ((bV.block _ LY.out).trans KY.out)
          replace LY := Lib.hid (Nat.lt_of_lt_of_le LY.out bV.size)
          replace HW1 := Lib.hid (HW1.out.later bV)
          replace BB := Lib.hid (BB.out.trans (bV.mono BB.out.size))
          replace bA := Lib.hid (bA.out.trans (bV.mono bA.out.size))
          clear bV hV fV
          refine hK.out _ _ (HSS.out _ HW1.out) (fun hHeld => ?_)
          clear hK K
          try simp only [List.getElem_toArray, List.getElem_cons_zero, List.getElem_cons_succ, Act.put, List.setIfInBounds_toArray, List.set_cons_zero, List.set_cons_succ]
          refine wpAnyH_take (i := 5) (v := ?_) rfl (by kernel_rfl) (by kernel_rfl) (by kernel_rfl) (fun _ _ _ h => h) ?_ (by assumption) ?_
          rotate_left
          · first | (refine Or.inl ⟨by rfl, ?_⟩; intro w hSw; go_simp; done) | (refine Or.inl ⟨by rfl, ?_⟩; intro w hSw; go_simp; with_reducible rfl)
          try simp only [List.getElem_toArray, List.getElem_cons_zero, List.getElem_cons_succ, Act.put, List.setIfInBounds_toArray, List.set_cons_zero, List.set_cons_succ]
          refine wpAnyH_ready (rs := [6]) (by kernel_rfl) (by simp) ?_
          refine AllReadyH.cons rfl (fun K hK => ?_) (AllReadyH.nil)
          have fV := FV.out
          go_simp
          clear fV
          refine hK.out _ _ (HSS.out _ HW1.out) (fun hHeld => ?_)
          clear hK K
          try simp only [List.getElem_toArray, List.getElem_cons_zero, List.getElem_cons_succ, Act.put, List.setIfInBounds_toArray, List.set_cons_zero, List.set_cons_succ]
          refine wpAnyH_take (i := 7) (v := ?_) rfl (by kernel_rfl) (by kernel_rfl) (by kernel_rfl) (fun _ _ _ h => h) ?_ (by assumption) ?_
          rotate_left
          · first | (refine Or.inl ⟨by rfl, ?_⟩; intro w hSw; go_simp; done) | (refine Or.inl ⟨by rfl, ?_⟩; intro w hSw; go_simp; with_reducible rfl)
          try simp only [List.getElem_toArray, List.getElem_cons_zero, List.getElem_cons_succ, Act.put, List.setIfInBounds_toArray, List.set_cons_zero, List.set_cons_succ]
          refine wpAnyH_done (by kernel_rfl) ?_ _
          clear hHeld HSS FV
          by_cases he : wd ws 2 = ⟨#[112, 117, 116]⟩
          · have he' := teq he
            rw [ByteArray.toList_eq ⟨#[112, 117, 116]⟩] at he'
            change ((wd ws 2).toList == [112, 117, 116]) = true at he'
            simp only [he']
            clear he'
            have HKD : Hid (kdTo 2 (wd ws 2) = 1) := Lib.hid (if_pos he)
            clear he
            have fY0 := cell_of_row V _ 0 _ _ _ KY.out
            have fY1 := cell_of_row V _ 1 _ _ _ KY.out
            have fY2 := cell_of_row V _ 2 _ _ _ KY.out
            have fY3 := cell_of_row V _ 3 _ _ _ KY.out
            have fY4 := cell_of_row V _ 4 _ _ _ KY.out
            simp only [List.getElem?_toArray, List.getElem?_cons_zero, List.getElem?_cons_succ] at fY0 fY1 fY2 fY3 fY4
            have zY0 := frozen_of_row V _ 0 _ _ KY.out
            have zY1 := frozen_of_row V _ 1 _ _ KY.out
            have zY2 := frozen_of_row V _ 2 _ _ KY.out
            have zY3 := frozen_of_row V _ 3 _ _ KY.out
            have zY4 := frozen_of_row V _ 4 _ _ KY.out
            have r0 := heap_setCell_same _ yb 2 _ _ (.int .i64 1) KY.out
            simp only [List.setIfInBounds_toArray, List.set_cons_zero, List.set_cons_succ] at r0
            have R0 := Lib.hid r0
            clear r0
            have BY : Hid (Below w1.heap.size w1 (V.setCell ⟨yb, 2, none⟩ (.int .i64 1))) := Lib.hid (bA.out.setCell (p := ⟨yb, 2, none⟩) NYL.out _)
            have LYv : Hid (yb < (V.setCell ⟨yb, 2, none⟩ (.int .i64 1)).heap.size) := Lib.hid (by simpa using LY.out)
            go_wp2_with fail
            clear fY0 fY1 fY2 fY3 fY4
            clear zY0 zY1 zY2 zY3 zY4
            go_roundw
            case rel => exact ⟨2, by omega, by go_num, by rw [HKD.out]; exact R0, BY, LYv⟩
            case measure => simp [intOf]
          · have he' := tne he
            rw [ByteArray.toList_eq ⟨#[112, 117, 116]⟩] at he'
            change ((wd ws 2).toList == [112, 117, 116]) = false at he'
            simp only [he']
            clear he'
            have HKD : Hid (kdTo 2 (wd ws 2) = kdTo 1 (wd ws 2)) := Lib.hid (if_neg he)
            clear he
            go_wp2_with fail
            go_roundw
            case rel => exact ⟨2, by omega, by go_num, by rw [HKD.out]; exact KY, bA, LY⟩
            case measure => simp [intOf]
        · have HSS : Hid (∀ w' : World, WordsAt w' g ws → w'.cell? ⟨g, 2, none⟩ = some (.string (wd ws 2))) := Lib.hid (fun w' h => h.2 2 n2)
          go_wp2_with fail
          refine wp_region_held_drew (S := (fun w' => w'.cell? ⟨g, 2, none⟩ = some (.string (wd ws 2)))) (by kernel_rfl) (HSS.out _ (HW1.out.later (Below.refl _ _).drew)) (fun hHeld => ?_)
          obtain ⟨zD, hzD⟩ : ∃ z, z = wr.drew := ⟨_, rfl⟩
          rw [← hzD] at hHeld ⊢
          have bzD : Below wr.heap.size wr zD := by rw [hzD]; exact (Below.refl _ _).drew
          replace KR := Lib.hid ((bzD.block _ LR.out).trans KR.out)
          replace LR := Lib.hid (Nat.lt_of_lt_of_le LR.out bzD.size)
          replace KY := Lib.hid ((bzD.block _ LY.out).trans KY.out)
          replace LY := Lib.hid (Nat.lt_of_lt_of_le LY.out bzD.size)
          replace HW1 := Lib.hid (HW1.out.later bzD)
          replace BB := Lib.hid (BB.out.trans (bzD.mono BB.out.size))
          replace bA := Lib.hid (bA.out.trans (bzD.mono bA.out.size))
          clear bzD hzD
          refine wpAnyH_take (i := 0) (v := ?_) rfl (by kernel_rfl) (by kernel_rfl) (by kernel_rfl) (fun _ _ _ h => h) ?_ (by assumption) ?_
          rotate_left
          · first | (refine Or.inl ⟨by rfl, ?_⟩; intro w hSw; go_simp; done) | (refine Or.inl ⟨by rfl, ?_⟩; intro w hSw; go_simp; with_reducible rfl)
          try simp only [List.getElem_toArray, List.getElem_cons_zero, Act.put, List.setIfInBounds_toArray, List.set_cons_zero, List.set_cons_succ]
          refine wpAnyH_take (i := 1) (v := ?_) rfl (by kernel_rfl) (by kernel_rfl) (by kernel_rfl) (fun _ _ _ h => h) ?_ (by assumption) ?_
          rotate_left
          · first | (refine Or.inl ⟨by rfl, ?_⟩; intro w hSw; go_simp; done) | (refine Or.inl ⟨by rfl, ?_⟩; intro w hSw; go_simp; with_reducible rfl)
          try simp only [List.getElem_toArray, List.getElem_cons_zero, List.getElem_cons_succ, Act.put, List.setIfInBounds_toArray, List.set_cons_zero, List.set_cons_succ]
          refine wpAnyH_take (i := 2) (v := ?_) rfl (by kernel_rfl) (by kernel_rfl) (by kernel_rfl) (fun _ _ _ h => h) ?_ (by assumption) ?_
          rotate_left
          · first | (refine Or.inl ⟨by rfl, ?_⟩; intro w hSw; have c2 := hSw; go_simp; done) | (refine Or.inl ⟨by rfl, ?_⟩; intro w hSw; have c2 := hSw; go_simp; with_reducible rfl)
          try simp only [List.getElem_toArray, List.getElem_cons_zero, List.getElem_cons_succ, Act.put, List.setIfInBounds_toArray, List.set_cons_zero, List.set_cons_succ]
          refine wpAnyH_take (i := 4) (v := ?_) rfl (by kernel_rfl) (by kernel_rfl) (by kernel_rfl) (fun _ _ _ h => h) ?_ (by assumption) ?_
          rotate_left
          · first | (refine Or.inl ⟨by rfl, ?_⟩; intro w hSw; go_simp; done) | (refine Or.inl ⟨by rfl, ?_⟩; intro w hSw; go_simp; with_reducible rfl)
          try simp only [List.getElem_toArray, List.getElem_cons_zero, List.getElem_cons_succ, Act.put, List.setIfInBounds_toArray, List.set_cons_zero, List.set_cons_succ]
          refine wpAnyH_ready (rs := [3]) (by kernel_rfl) (by simp) ?_
          refine AllReadyH.cons rfl (fun K hK => ?_) (AllReadyH.nil)
          go_simp
          obtain ⟨V, hV⟩ : ∃ V, V = zD.alloc (.cells #[.string ⟨#[103, 101, 116]⟩, .string ⟨#[112, 117, 116]⟩, .string ⟨#[100, 101, 108]⟩] 9) := ⟨_, rfl⟩
          rw [← hV]
          have bV : Below zD.heap.size zD V := by rw [hV]; exact (Below.refl _ _).alloc (Nat.le_refl _) _
          have fV := cell_of_row V zD.heap.size 2 _ _ _ (by rw [hV]; exact heap_new _ _)
          simp only [List.getElem?_toArray, List.getElem?_cons_zero, List.getElem?_cons_succ] at fV
          have FV := Lib.hid fV
          replace KR := Lib.hid ((bV.block _ LR.out).trans KR.out)
          replace LR := Lib.hid (Nat.lt_of_lt_of_le LR.out bV.size)
          replace KY := Lib.hid ((bV.block _ LY.out).trans KY.out)
          replace LY := Lib.hid (Nat.lt_of_lt_of_le LY.out bV.size)
          replace HW1 := Lib.hid (HW1.out.later bV)
          replace BB := Lib.hid (BB.out.trans (bV.mono BB.out.size))
          replace bA := Lib.hid (bA.out.trans (bV.mono bA.out.size))
          clear bV hV fV
          refine hK.out _ _ (HSS.out _ HW1.out) (fun hHeld => ?_)
          clear hK K
          try simp only [List.getElem_toArray, List.getElem_cons_zero, List.getElem_cons_succ, Act.put, List.setIfInBounds_toArray, List.set_cons_zero, List.set_cons_succ]
          refine wpAnyH_take (i := 5) (v := ?_) rfl (by kernel_rfl) (by kernel_rfl) (by kernel_rfl) (fun _ _ _ h => h) ?_ (by assumption) ?_
          rotate_left
          · first | (refine Or.inl ⟨by rfl, ?_⟩; intro w hSw; go_simp; done) | (refine Or.inl ⟨by rfl, ?_⟩; intro w hSw; go_simp; with_reducible rfl)
          try simp only [List.getElem_toArray, List.getElem_cons_zero, List.getElem_cons_succ, Act.put, List.setIfInBounds_toArray, List.set_cons_zero, List.set_cons_succ]
          refine wpAnyH_ready (rs := [6]) (by kernel_rfl) (by simp) ?_
          refine AllReadyH.cons rfl (fun K hK => ?_) (AllReadyH.nil)
          have fV := FV.out
          go_simp
          clear fV
          refine hK.out _ _ (HSS.out _ HW1.out) (fun hHeld => ?_)
          clear hK K
          try simp only [List.getElem_toArray, List.getElem_cons_zero, List.getElem_cons_succ, Act.put, List.setIfInBounds_toArray, List.set_cons_zero, List.set_cons_succ]
          refine wpAnyH_take (i := 7) (v := ?_) rfl (by kernel_rfl) (by kernel_rfl) (by kernel_rfl) (fun _ _ _ h => h) ?_ (by assumption) ?_
          rotate_left
          · first | (refine Or.inl ⟨by rfl, ?_⟩; intro w hSw; go_simp; done) | (refine Or.inl ⟨by rfl, ?_⟩; intro w hSw; go_simp; with_reducible rfl)
          try simp only [List.getElem_toArray, List.getElem_cons_zero, List.getElem_cons_succ, Act.put, List.setIfInBounds_toArray, List.set_cons_zero, List.set_cons_succ]
          refine wpAnyH_done (by kernel_rfl) ?_ _
          clear hHeld HSS FV
          by_cases he : wd ws 2 = ⟨#[100, 101, 108]⟩
          · have he' := teq he
            rw [ByteArray.toList_eq ⟨#[100, 101, 108]⟩] at he'
            change ((wd ws 2).toList == [100, 101, 108]) = true at he'
            simp only [he']
            clear he'
            have HKD : Hid (kdTo 3 (wd ws 2) = 2) := Lib.hid (if_pos he)
            clear he
            have fY0 := cell_of_row V _ 0 _ _ _ KY.out
            have fY1 := cell_of_row V _ 1 _ _ _ KY.out
            have fY2 := cell_of_row V _ 2 _ _ _ KY.out
            have fY3 := cell_of_row V _ 3 _ _ _ KY.out
            have fY4 := cell_of_row V _ 4 _ _ _ KY.out
            simp only [List.getElem?_toArray, List.getElem?_cons_zero, List.getElem?_cons_succ] at fY0 fY1 fY2 fY3 fY4
            have zY0 := frozen_of_row V _ 0 _ _ KY.out
            have zY1 := frozen_of_row V _ 1 _ _ KY.out
            have zY2 := frozen_of_row V _ 2 _ _ KY.out
            have zY3 := frozen_of_row V _ 3 _ _ KY.out
            have zY4 := frozen_of_row V _ 4 _ _ KY.out
            have r0 := heap_setCell_same _ yb 2 _ _ (.int .i64 2) KY.out
            simp only [List.setIfInBounds_toArray, List.set_cons_zero, List.set_cons_succ] at r0
            have R0 := Lib.hid r0
            clear r0
            have BY : Hid (Below w1.heap.size w1 (V.setCell ⟨yb, 2, none⟩ (.int .i64 2))) := Lib.hid (bA.out.setCell (p := ⟨yb, 2, none⟩) NYL.out _)
            have LYv : Hid (yb < (V.setCell ⟨yb, 2, none⟩ (.int .i64 2)).heap.size) := Lib.hid (by simpa using LY.out)
            go_wp2_with fail
            clear fY0 fY1 fY2 fY3 fY4
            clear zY0 zY1 zY2 zY3 zY4
            go_roundw
            case rel => exact ⟨3, by omega, by go_num, by rw [HKD.out]; exact R0, BY, LYv⟩
            case measure => simp [intOf]
          · have he' := tne he
            rw [ByteArray.toList_eq ⟨#[100, 101, 108]⟩] at he'
            change ((wd ws 2).toList == [100, 101, 108]) = false at he'
            simp only [he']
            clear he'
            have HKD : Hid (kdTo 3 (wd ws 2) = kdTo 2 (wd ws 2)) := Lib.hid (if_neg he)
            clear he
            go_wp2_with fail
            go_roundw
            case rel => exact ⟨3, by omega, by go_num, by rw [HKD.out]; exact KY, bA, LY⟩
            case measure => simp [intOf]
      · obtain rfl : k = 3 := by omega
        rw [kdTo_kd] at KY
        clear hlt hk
        go_wp2_with fail
        have HSS : Hid (∀ w' : World, WordsAt w' g ws → w'.cell? ⟨g, 1, none⟩ = some (.string (wd ws 1))) := Lib.hid (fun w' h => h.2 1 n1)
        obtain ⟨D, hD⟩ : ∃ D, D = decS 1000000000 := ⟨_, rfl⟩
        have HD := Lib.hid hD
        have hcd : ∀ w, Calls Tryd.prog 52 #[.int .i64 1000000000] w fun e w' => e = .returned (.string D) ∧ w = w' := by rw [hD]; exact spec_decText 1000000000 (by omega) (by omega)
        have HCD := Lib.hid hcd
        clear hD hcd
        refine wp_region_held_drew (S := (fun w' => w'.cell? ⟨g, 1, none⟩ = some (.string (wd ws 1)))) (by kernel_rfl) (HSS.out _ (HW1.out.later (Below.refl _ _).drew)) (fun hHeld => ?_)
        obtain ⟨zD, hzD⟩ : ∃ z, z = wr.drew := ⟨_, rfl⟩
        rw [← hzD] at hHeld ⊢
        have bzD : Below wr.heap.size wr zD := by rw [hzD]; exact (Below.refl _ _).drew
        replace KR := Lib.hid ((bzD.block _ LR.out).trans KR.out)
        replace LR := Lib.hid (Nat.lt_of_lt_of_le LR.out bzD.size)
        replace KY := Lib.hid ((bzD.block _ LY.out).trans KY.out)
        replace LY := Lib.hid (Nat.lt_of_lt_of_le LY.out bzD.size)
        replace HW1 := Lib.hid (HW1.out.later bzD)
        replace BB := Lib.hid (BB.out.trans (bzD.mono BB.out.size))
        clear bzD hzD
        refine wpAnyH_take (i := 0) (v := ?_) rfl (by kernel_rfl) (by kernel_rfl) (by kernel_rfl) (fun _ _ _ h => h) ?_ (by assumption) ?_
        rotate_left
        · first | (refine Or.inl ⟨by rfl, ?_⟩; intro w hSw; go_simp; done) | (refine Or.inl ⟨by rfl, ?_⟩; intro w hSw; go_simp; with_reducible rfl)
        try simp only [List.getElem_toArray, List.getElem_cons_zero, Act.put, List.setIfInBounds_toArray, List.set_cons_zero, List.set_cons_succ]
        refine wpAnyH_take (i := 1) (v := ?_) rfl (by kernel_rfl) (by kernel_rfl) (by kernel_rfl) (fun _ _ _ h => h) ?_ (by assumption) ?_
        rotate_left
        · first | (refine Or.inl ⟨by rfl, ?_⟩; intro w hSw; go_simp; done) | (refine Or.inl ⟨by rfl, ?_⟩; intro w hSw; go_simp; with_reducible rfl)
        try simp only [List.getElem_toArray, List.getElem_cons_zero, List.getElem_cons_succ, Act.put, List.setIfInBounds_toArray, List.set_cons_zero, List.set_cons_succ]
        refine wpAnyH_take (i := 2) (v := ?_) rfl (by kernel_rfl) (by kernel_rfl) (by kernel_rfl) (fun _ _ _ h => h) ?_ (by assumption) ?_
        rotate_left
        · first | (refine Or.inl ⟨by rfl, ?_⟩; intro w hSw; have c1 := hSw; go_simp; done) | (refine Or.inl ⟨by rfl, ?_⟩; intro w hSw; have c1 := hSw; go_simp; with_reducible rfl)
        try simp only [List.getElem_toArray, List.getElem_cons_zero, List.getElem_cons_succ, Act.put, List.setIfInBounds_toArray, List.set_cons_zero, List.set_cons_succ]
        refine wpAnyH_ready (rs := [3]) (by kernel_rfl) (by simp) ?_
        refine AllReadyH.cons rfl (fun K hK => ?_) (AllReadyH.nil)
        go_simp
        go_at_call 52
        refine (HCD.out _).mono ?_
        rintro e wq ⟨rfl, rfl⟩
        go_wp2_with fail
        refine hK.out _ _ (HSS.out _ HW1.out) (fun hHeld => ?_)
        clear hK K
        try simp only [List.getElem_toArray, List.getElem_cons_zero, List.getElem_cons_succ, Act.put, List.setIfInBounds_toArray, List.set_cons_zero, List.set_cons_succ]
        refine wpAnyH_take (i := 4) (v := ?_) rfl (by kernel_rfl) (by kernel_rfl) (by kernel_rfl) (fun _ _ _ h => h) ?_ (by assumption) ?_
        rotate_left
        · first | (refine Or.inl ⟨by rfl, ?_⟩; intro w hSw; go_simp; done) | (refine Or.inl ⟨by rfl, ?_⟩; intro w hSw; go_simp; with_reducible rfl)
        try simp only [List.getElem_toArray, List.getElem_cons_zero, List.getElem_cons_succ, Act.put, List.setIfInBounds_toArray, List.set_cons_zero, List.set_cons_succ]
        refine wpAnyH_done (by kernel_rfl) ?_ _
        clear hHeld HSS HCD
        by_cases hq : wd ws 1 = D
        · have hq' := teq hq
          simp only [hq']
          clear hq'
          have HQ : Hid (qs (wd ws 1) = 1000000000) := Lib.hid (by unfold qs; rw [if_pos (by rw [hq, HD.out])])
          clear hq
          obtain ⟨q, hqq⟩ : ∃ q, q = qs (wd ws 1) := ⟨_, rfl⟩
          have HQQ := Lib.hid hqq
          have HRO : Hid (roOk s = decide (opText (rqW ws q) = s) ∧ (opText (rqW ws q) = s → roX s = rqW ws q)) := Lib.hid (ro_spec HWS.out h4 h5 hqq)
          have HQB : Hid (-9223372036854775808 ≤ q ∧ q ≤ 9223372036854775807) := Lib.hid (by rw [hqq]; exact qs_range _)
          rw [← hqq] at HQ
          clear hqq
          by_cases h5e : ws.length = 5
          · have h5' : ((ws.length : Int) == 5) = true := by simp [h5e]
            have c4 := HW1.out.2 4 (by omega)
            have g4 : (4 : Int) < (ws.length : Int) := by omega
            have HV : Hid (rqW ws q = ⟨wd ws 0, q, kd (wd ws 2), wd ws 3, wd ws 4⟩) := Lib.hid (by unfold rqW; rw [if_pos (by omega)])
            clear h5e h5 h4
            have r0 := heap_setCell_same _ yb 1 _ _ (.int .i64 1000000000) KY.out
            have r1 := heap_setCell_same _ yb 4 _ _ (.string (wd ws 4)) r0
            obtain ⟨Y, hY⟩ : ∃ Y, Y = ((zD.setCell ⟨yb, 1, none⟩ (.int .i64 1000000000)).setCell ⟨yb, 4, none⟩ (.string (wd ws 4))) := ⟨_, rfl⟩
            simp only [List.setIfInBounds_toArray, List.set_cons_zero, List.set_cons_succ] at r1
            rw [← hY] at r1
            have KYY : Hid (Y.heap[yb]? = some (.cells #[.string (wd ws 0), .int .i64 1000000000, .int .i64 (kd (wd ws 2)), .string (wd ws 3), .string (wd ws 4)] 29 (0, 0))) := Lib.hid r1
            have gY : zD.grownBy Y (some yb) := by rw [hY]; exact ((grown_set _ ⟨yb, 1, none⟩ _).trans (grown_set _ ⟨yb, 4, none⟩ _))
            clear r0 r1
            have KRY := Lib.hid ((gY.block _ LR.out (fun e => by have := NRY.out; simp only [Option.some.injEq] at e; omega)).trans KR.out)
            have LRY := Lib.hid (Nat.lt_of_lt_of_le LR.out gY.size)
            have LYY := Lib.hid (Nat.lt_of_lt_of_le LY.out gY.size)
            have BY : Hid (Below w.heap.size w Y) := Lib.hid (BB.out.grown gY BB.out.size (fun k hk => by cases hk; exact Nat.le_of_lt NRY.out))
            clear gY
            have hc := spec_opText (rqW ws q) Y (fit_rqW HF.out Hs.out HQB.out)
            rw [HV.out, HQ.out] at hc
            unfold rqA at hc
            have HC := Lib.hid hc
            have HY := Lib.hid hY
            clear hc hY
            have hse := str_ne_of_words HWS.out n3
            have HSE := Lib.hid hse
            obtain ⟨hse1, hse2⟩ := hse
            have fY0 := cell_of_row zD _ 0 _ _ _ KY.out
            have fY1 := cell_of_row zD _ 1 _ _ _ KY.out
            have fY2 := cell_of_row zD _ 2 _ _ _ KY.out
            have fY3 := cell_of_row zD _ 3 _ _ _ KY.out
            have fY4 := cell_of_row zD _ 4 _ _ _ KY.out
            simp only [List.getElem?_toArray, List.getElem?_cons_zero, List.getElem?_cons_succ] at fY0 fY1 fY2 fY3 fY4
            have zY0 := frozen_of_row zD _ 0 _ _ KY.out
            have zY1 := frozen_of_row zD _ 1 _ _ KY.out
            have zY2 := frozen_of_row zD _ 2 _ _ KY.out
            have zY3 := frozen_of_row zD _ 3 _ _ KY.out
            have zY4 := frozen_of_row zD _ 4 _ _ KY.out
            go_wp2_with (go_at_call 21; rw [← HY.out]; refine HC.out.mono ?_; rintro e w4 ⟨rfl, hb4⟩; refine Hid.out ?_)
            refine Lib.hid ?_
            clear fY0 fY1 fY2 fY3 fY4
            clear zY0 zY1 zY2 zY3 zY4
            clear KY KR BB LR LY HW1 hse1 hse2 c4
            have KY := KYY
            have KR := KRY
            have BB := BY
            have LR := LRY
            have LY := LYY
            clear KYY KRY BY LRY LYY HC HY bA
            replace KR := Lib.hid ((hb4.block _ LR.out).trans KR.out)
            replace LR := Lib.hid (Nat.lt_of_lt_of_le LR.out hb4.size)
            replace KY := Lib.hid ((hb4.block _ LY.out).trans KY.out)
            replace LY := Lib.hid (Nat.lt_of_lt_of_le LY.out hb4.size)
            replace BB := Lib.hid (BB.out.trans (hb4.mono BB.out.size))
            clear hb4
            obtain ⟨T, hT⟩ : ∃ T, T = opText (rqW ws q) := ⟨_, rfl⟩
            have HTT := Lib.hid hT
            rw [HV.out, HQ.out] at hT
            rw [← hT]
            clear hT
            by_cases he : T = s
            · have he' := teq he
              have hne : (T.toList != s.toList) = false := by simp [bne, he']
              have HX : Hid (roX s = rqW ws q) := Lib.hid (HRO.out.2 (by rw [← HTT.out]; exact he))
              have HK : Hid (roOk s = true) := Lib.hid (by rw [HRO.out.1, ← HTT.out]; simp [he])
              clear he
              have fR0 := cell_of_row w4 _ 0 _ _ _ KR.out
              have fR1 := cell_of_row w4 _ 1 _ _ _ KR.out
              have fR2 := cell_of_row w4 _ 2 _ _ _ KR.out
              have fR3 := cell_of_row w4 _ 3 _ _ _ KR.out
              have fR4 := cell_of_row w4 _ 4 _ _ _ KR.out
              simp only [List.getElem?_toArray, List.getElem?_cons_zero, List.getElem?_cons_succ] at fR0 fR1 fR2 fR3 fR4
              have fY0 := cell_of_row w4 _ 0 _ _ _ KY.out
              have fY1 := cell_of_row w4 _ 1 _ _ _ KY.out
              have fY2 := cell_of_row w4 _ 2 _ _ _ KY.out
              have fY3 := cell_of_row w4 _ 3 _ _ _ KY.out
              have fY4 := cell_of_row w4 _ 4 _ _ _ KY.out
              simp only [List.getElem?_toArray, List.getElem?_cons_zero, List.getElem?_cons_succ] at fY0 fY1 fY2 fY3 fY4
              have zR0 := frozen_of_row w4 _ 0 _ _ KR.out
              have zR1 := frozen_of_row w4 _ 1 _ _ KR.out
              have zR2 := frozen_of_row w4 _ 2 _ _ KR.out
              have zR3 := frozen_of_row w4 _ 3 _ _ KR.out
              have zR4 := frozen_of_row w4 _ 4 _ _ KR.out
              go_wp2_with fail
              clear fR0 fR1 fR2 fR3 fR4 fY0 fY1 fY2 fY3 fY4
              clear zR0 zR1 zR2 zR3 zR4
              have hb : w.heap.size < w4.heap.size := LR.out
              have r0 := heap_setCell_same _ w.heap.size 0 _ _ (.string (wd ws 0)) KR.out
              have r1 := heap_setCell_same _ w.heap.size 1 _ _ (.int .i64 1000000000) r0
              have r2 := heap_setCell_same _ w.heap.size 2 _ _ (.int .i64 (kd (wd ws 2))) r1
              have r3 := heap_setCell_same _ w.heap.size 3 _ _ (.string (wd ws 3)) r2
              have r4 := heap_setCell_same _ w.heap.size 4 _ _ (.string (wd ws 4)) r3
              simp only [List.setIfInBounds_toArray, List.set_cons_zero, List.set_cons_succ] at r4
              obtain ⟨j0, q1, q2, q3, q4⟩ := info_parts infoOp
              refine bodyPost_ret (results_two (P := Tryd.prog) rfl _ _ w.heap.size _ _ (0, 0) _ _ rfl rfl r4 Tryd.underlying29 rfl (by rw [q1]; simp [q3])) rfl ⟨by rw [HK.out, HX.out, HV.out, HQ.out]; rfl, ?_⟩
              exact ((((BB.out.setCell (p := ⟨w.heap.size, 0, none⟩) (Nat.le_refl _) _).setCell (p := ⟨w.heap.size, 1, none⟩) (Nat.le_refl _) _).setCell (p := ⟨w.heap.size, 2, none⟩) (Nat.le_refl _) _).setCell (p := ⟨w.heap.size, 3, none⟩) (Nat.le_refl _) _).setCell (p := ⟨w.heap.size, 4, none⟩) (Nat.le_refl _) _
            · have he' := tne he
              have hne : (T.toList != s.toList) = true := by simp [bne, he']
              have HK : Hid (roOk s = false) := Lib.hid (by rw [HRO.out.1, ← HTT.out]; simp [he])
              clear he
              have fR0 := cell_of_row w4 _ 0 _ _ _ KR.out
              have fR1 := cell_of_row w4 _ 1 _ _ _ KR.out
              have fR2 := cell_of_row w4 _ 2 _ _ _ KR.out
              have fR3 := cell_of_row w4 _ 3 _ _ _ KR.out
              have fR4 := cell_of_row w4 _ 4 _ _ _ KR.out
              simp only [List.getElem?_toArray, List.getElem?_cons_zero, List.getElem?_cons_succ] at fR0 fR1 fR2 fR3 fR4
              have zR0 := frozen_of_row w4 _ 0 _ _ KR.out
              have zR1 := frozen_of_row w4 _ 1 _ _ KR.out
              have zR2 := frozen_of_row w4 _ 2 _ _ KR.out
              have zR3 := frozen_of_row w4 _ 3 _ _ KR.out
              have zR4 := frozen_of_row w4 _ 4 _ _ KR.out
              go_wp2_with fail
              clear fR0 fR1 fR2 fR3 fR4
              clear zR0 zR1 zR2 zR3 zR4
              have HN := Lib.hid (HK.out : roOk s = false)
              have hb : w.heap.size < w4.heap.size := LR.out
              have r0 := heap_setCell_same _ w.heap.size 0 _ _ (.string ⟨#[]⟩) KR.out
              have r1 := heap_setCell_same _ w.heap.size 1 _ _ (.int .i64 0) r0
              have r2 := heap_setCell_same _ w.heap.size 2 _ _ (.int .i64 0) r1
              have r3 := heap_setCell_same _ w.heap.size 3 _ _ (.string ⟨#[]⟩) r2
              have r4 := heap_setCell_same _ w.heap.size 4 _ _ (.string ⟨#[]⟩) r3
              simp only [List.setIfInBounds_toArray, List.set_cons_zero, List.set_cons_succ] at r4
              obtain ⟨j0, q1, q2, q3, q4⟩ := info_parts infoOp
              refine bodyPost_ret (results_two (P := Tryd.prog) rfl _ _ w.heap.size _ _ (0, 0) _ _ rfl rfl r4 Tryd.underlying29 rfl (by rw [q1]; simp [q3])) rfl ⟨by unfold roX; rw [HN.out]; rfl, ?_⟩
              exact ((((BB.out.setCell (p := ⟨w.heap.size, 0, none⟩) (Nat.le_refl _) _).setCell (p := ⟨w.heap.size, 1, none⟩) (Nat.le_refl _) _).setCell (p := ⟨w.heap.size, 2, none⟩) (Nat.le_refl _) _).setCell (p := ⟨w.heap.size, 3, none⟩) (Nat.le_refl _) _).setCell (p := ⟨w.heap.size, 4, none⟩) (Nat.le_refl _) _
          · have h5' : ((ws.length : Int) == 5) = false := by simp; omega
            have HV : Hid (rqW ws q = ⟨wd ws 0, q, kd (wd ws 2), wd ws 3, ⟨#[]⟩⟩) := Lib.hid (by unfold rqW; rw [if_neg (by omega)])
            clear h5e h5 h4
            have r0 := heap_setCell_same _ yb 1 _ _ (.int .i64 1000000000) KY.out
            obtain ⟨Y, hY⟩ : ∃ Y, Y = (zD.setCell ⟨yb, 1, none⟩ (.int .i64 1000000000)) := ⟨_, rfl⟩
            simp only [List.setIfInBounds_toArray, List.set_cons_zero, List.set_cons_succ] at r0
            rw [← hY] at r0
            have KYY : Hid (Y.heap[yb]? = some (.cells #[.string (wd ws 0), .int .i64 1000000000, .int .i64 (kd (wd ws 2)), .string (wd ws 3), .string ⟨#[]⟩] 29 (0, 0))) := Lib.hid r0
            have gY : zD.grownBy Y (some yb) := by rw [hY]; exact (grown_set _ ⟨yb, 1, none⟩ _)
            clear r0
            have KRY := Lib.hid ((gY.block _ LR.out (fun e => by have := NRY.out; simp only [Option.some.injEq] at e; omega)).trans KR.out)
            have LRY := Lib.hid (Nat.lt_of_lt_of_le LR.out gY.size)
            have LYY := Lib.hid (Nat.lt_of_lt_of_le LY.out gY.size)
            have BY : Hid (Below w.heap.size w Y) := Lib.hid (BB.out.grown gY BB.out.size (fun k hk => by cases hk; exact Nat.le_of_lt NRY.out))
            clear gY
            have hc := spec_opText (rqW ws q) Y (fit_rqW HF.out Hs.out HQB.out)
            rw [HV.out, HQ.out] at hc
            unfold rqA at hc
            have HC := Lib.hid hc
            have HY := Lib.hid hY
            clear hc hY
            have hse := str_ne_of_words HWS.out n3
            have HSE := Lib.hid hse
            obtain ⟨hse1, hse2⟩ := hse
            have fY0 := cell_of_row zD _ 0 _ _ _ KY.out
            have fY1 := cell_of_row zD _ 1 _ _ _ KY.out
            have fY2 := cell_of_row zD _ 2 _ _ _ KY.out
            have fY3 := cell_of_row zD _ 3 _ _ _ KY.out
            have fY4 := cell_of_row zD _ 4 _ _ _ KY.out
            simp only [List.getElem?_toArray, List.getElem?_cons_zero, List.getElem?_cons_succ] at fY0 fY1 fY2 fY3 fY4
            have zY0 := frozen_of_row zD _ 0 _ _ KY.out
            have zY1 := frozen_of_row zD _ 1 _ _ KY.out
            have zY2 := frozen_of_row zD _ 2 _ _ KY.out
            have zY3 := frozen_of_row zD _ 3 _ _ KY.out
            have zY4 := frozen_of_row zD _ 4 _ _ KY.out
            go_wp2_with (go_at_call 21; rw [← HY.out]; refine HC.out.mono ?_; rintro e w4 ⟨rfl, hb4⟩; refine Hid.out ?_)
            refine Lib.hid ?_
            clear fY0 fY1 fY2 fY3 fY4
            clear zY0 zY1 zY2 zY3 zY4
            clear KY KR BB LR LY HW1 hse1 hse2
            have KY := KYY
            have KR := KRY
            have BB := BY
            have LR := LRY
            have LY := LYY
            clear KYY KRY BY LRY LYY HC HY bA
            replace KR := Lib.hid ((hb4.block _ LR.out).trans KR.out)
            replace LR := Lib.hid (Nat.lt_of_lt_of_le LR.out hb4.size)
            replace KY := Lib.hid ((hb4.block _ LY.out).trans KY.out)
            replace LY := Lib.hid (Nat.lt_of_lt_of_le LY.out hb4.size)
            replace BB := Lib.hid (BB.out.trans (hb4.mono BB.out.size))
            clear hb4
            obtain ⟨T, hT⟩ : ∃ T, T = opText (rqW ws q) := ⟨_, rfl⟩
            have HTT := Lib.hid hT
            rw [HV.out, HQ.out] at hT
            rw [← hT]
            clear hT
            by_cases he : T = s
            · have he' := teq he
              have hne : (T.toList != s.toList) = false := by simp [bne, he']
              have HX : Hid (roX s = rqW ws q) := Lib.hid (HRO.out.2 (by rw [← HTT.out]; exact he))
              have HK : Hid (roOk s = true) := Lib.hid (by rw [HRO.out.1, ← HTT.out]; simp [he])
              clear he
              have fR0 := cell_of_row w4 _ 0 _ _ _ KR.out
              have fR1 := cell_of_row w4 _ 1 _ _ _ KR.out
              have fR2 := cell_of_row w4 _ 2 _ _ _ KR.out
              have fR3 := cell_of_row w4 _ 3 _ _ _ KR.out
              have fR4 := cell_of_row w4 _ 4 _ _ _ KR.out
              simp only [List.getElem?_toArray, List.getElem?_cons_zero, List.getElem?_cons_succ] at fR0 fR1 fR2 fR3 fR4
              have fY0 := cell_of_row w4 _ 0 _ _ _ KY.out
              have fY1 := cell_of_row w4 _ 1 _ _ _ KY.out
              have fY2 := cell_of_row w4 _ 2 _ _ _ KY.out
              have fY3 := cell_of_row w4 _ 3 _ _ _ KY.out
              have fY4 := cell_of_row w4 _ 4 _ _ _ KY.out
              simp only [List.getElem?_toArray, List.getElem?_cons_zero, List.getElem?_cons_succ] at fY0 fY1 fY2 fY3 fY4
              have zR0 := frozen_of_row w4 _ 0 _ _ KR.out
              have zR1 := frozen_of_row w4 _ 1 _ _ KR.out
              have zR2 := frozen_of_row w4 _ 2 _ _ KR.out
              have zR3 := frozen_of_row w4 _ 3 _ _ KR.out
              have zR4 := frozen_of_row w4 _ 4 _ _ KR.out
              go_wp2_with fail
              clear fR0 fR1 fR2 fR3 fR4 fY0 fY1 fY2 fY3 fY4
              clear zR0 zR1 zR2 zR3 zR4
              have hb : w.heap.size < w4.heap.size := LR.out
              have r0 := heap_setCell_same _ w.heap.size 0 _ _ (.string (wd ws 0)) KR.out
              have r1 := heap_setCell_same _ w.heap.size 1 _ _ (.int .i64 1000000000) r0
              have r2 := heap_setCell_same _ w.heap.size 2 _ _ (.int .i64 (kd (wd ws 2))) r1
              have r3 := heap_setCell_same _ w.heap.size 3 _ _ (.string (wd ws 3)) r2
              have r4 := heap_setCell_same _ w.heap.size 4 _ _ (.string ⟨#[]⟩) r3
              simp only [List.setIfInBounds_toArray, List.set_cons_zero, List.set_cons_succ] at r4
              obtain ⟨j0, q1, q2, q3, q4⟩ := info_parts infoOp
              refine bodyPost_ret (results_two (P := Tryd.prog) rfl _ _ w.heap.size _ _ (0, 0) _ _ rfl rfl r4 Tryd.underlying29 rfl (by rw [q1]; simp [q3])) rfl ⟨by rw [HK.out, HX.out, HV.out, HQ.out]; rfl, ?_⟩
              exact ((((BB.out.setCell (p := ⟨w.heap.size, 0, none⟩) (Nat.le_refl _) _).setCell (p := ⟨w.heap.size, 1, none⟩) (Nat.le_refl _) _).setCell (p := ⟨w.heap.size, 2, none⟩) (Nat.le_refl _) _).setCell (p := ⟨w.heap.size, 3, none⟩) (Nat.le_refl _) _).setCell (p := ⟨w.heap.size, 4, none⟩) (Nat.le_refl _) _
            · have he' := tne he
              have hne : (T.toList != s.toList) = true := by simp [bne, he']
              have HK : Hid (roOk s = false) := Lib.hid (by rw [HRO.out.1, ← HTT.out]; simp [he])
              clear he
              have fR0 := cell_of_row w4 _ 0 _ _ _ KR.out
              have fR1 := cell_of_row w4 _ 1 _ _ _ KR.out
              have fR2 := cell_of_row w4 _ 2 _ _ _ KR.out
              have fR3 := cell_of_row w4 _ 3 _ _ _ KR.out
              have fR4 := cell_of_row w4 _ 4 _ _ _ KR.out
              simp only [List.getElem?_toArray, List.getElem?_cons_zero, List.getElem?_cons_succ] at fR0 fR1 fR2 fR3 fR4
              have zR0 := frozen_of_row w4 _ 0 _ _ KR.out
              have zR1 := frozen_of_row w4 _ 1 _ _ KR.out
              have zR2 := frozen_of_row w4 _ 2 _ _ KR.out
              have zR3 := frozen_of_row w4 _ 3 _ _ KR.out
              have zR4 := frozen_of_row w4 _ 4 _ _ KR.out
              go_wp2_with fail
              clear fR0 fR1 fR2 fR3 fR4
              clear zR0 zR1 zR2 zR3 zR4
              have HN := Lib.hid (HK.out : roOk s = false)
              have hb : w.heap.size < w4.heap.size := LR.out
              have r0 := heap_setCell_same _ w.heap.size 0 _ _ (.string ⟨#[]⟩) KR.out
              have r1 := heap_setCell_same _ w.heap.size 1 _ _ (.int .i64 0) r0
              have r2 := heap_setCell_same _ w.heap.size 2 _ _ (.int .i64 0) r1
              have r3 := heap_setCell_same _ w.heap.size 3 _ _ (.string ⟨#[]⟩) r2
              have r4 := heap_setCell_same _ w.heap.size 4 _ _ (.string ⟨#[]⟩) r3
              simp only [List.setIfInBounds_toArray, List.set_cons_zero, List.set_cons_succ] at r4
              obtain ⟨j0, q1, q2, q3, q4⟩ := info_parts infoOp
              refine bodyPost_ret (results_two (P := Tryd.prog) rfl _ _ w.heap.size _ _ (0, 0) _ _ rfl rfl r4 Tryd.underlying29 rfl (by rw [q1]; simp [q3])) rfl ⟨by unfold roX; rw [HN.out]; rfl, ?_⟩
              exact ((((BB.out.setCell (p := ⟨w.heap.size, 0, none⟩) (Nat.le_refl _) _).setCell (p := ⟨w.heap.size, 1, none⟩) (Nat.le_refl _) _).setCell (p := ⟨w.heap.size, 2, none⟩) (Nat.le_refl _) _).setCell (p := ⟨w.heap.size, 3, none⟩) (Nat.le_refl _) _).setCell (p := ⟨w.heap.size, 4, none⟩) (Nat.le_refl _) _
        · have hq' := tne hq
          simp only [hq']
          clear hq'
          have HQ : Hid (qs (wd ws 1) = rd (wd ws 1).data.toList) := Lib.hid (by unfold qs; rw [if_neg (by rw [← HD.out]; exact hq)])
          clear hq
          obtain ⟨q, hqq⟩ : ∃ q, q = qs (wd ws 1) := ⟨_, rfl⟩
          have HQQ := Lib.hid hqq
          have HRO : Hid (roOk s = decide (opText (rqW ws q) = s) ∧ (opText (rqW ws q) = s → roX s = rqW ws q)) := Lib.hid (ro_spec HWS.out h4 h5 hqq)
          have HQB : Hid (-9223372036854775808 ≤ q ∧ q ≤ 9223372036854775807) := Lib.hid (by rw [hqq]; exact qs_range _)
          rw [← hqq] at HQ
          clear hqq
          by_cases h5e : ws.length = 5
          · have h5' : ((ws.length : Int) == 5) = true := by simp [h5e]
            have c4 := HW1.out.2 4 (by omega)
            have g4 : (4 : Int) < (ws.length : Int) := by omega
            have HV : Hid (rqW ws q = ⟨wd ws 0, q, kd (wd ws 2), wd ws 3, wd ws 4⟩) := Lib.hid (by unfold rqW; rw [if_pos (by omega)])
            clear h5e h5 h4
            have r0 := heap_setCell_same _ yb 4 _ _ (.string (wd ws 4)) KY.out
            obtain ⟨Y, hY⟩ : ∃ Y, Y = (zD.setCell ⟨yb, 4, none⟩ (.string (wd ws 4))) := ⟨_, rfl⟩
            simp only [List.setIfInBounds_toArray, List.set_cons_zero, List.set_cons_succ] at r0
            rw [← hY] at r0
            have KYY : Hid (Y.heap[yb]? = some (.cells #[.string (wd ws 0), .int .i64 (rd (wd ws 1).data.toList), .int .i64 (kd (wd ws 2)), .string (wd ws 3), .string (wd ws 4)] 29 (0, 0))) := Lib.hid r0
            have gY : zD.grownBy Y (some yb) := by rw [hY]; exact (grown_set _ ⟨yb, 4, none⟩ _)
            clear r0
            have KRY := Lib.hid ((gY.block _ LR.out (fun e => by have := NRY.out; simp only [Option.some.injEq] at e; omega)).trans KR.out)
            have LRY := Lib.hid (Nat.lt_of_lt_of_le LR.out gY.size)
            have LYY := Lib.hid (Nat.lt_of_lt_of_le LY.out gY.size)
            have BY : Hid (Below w.heap.size w Y) := Lib.hid (BB.out.grown gY BB.out.size (fun k hk => by cases hk; exact Nat.le_of_lt NRY.out))
            clear gY
            have hc := spec_opText (rqW ws q) Y (fit_rqW HF.out Hs.out HQB.out)
            rw [HV.out, HQ.out] at hc
            unfold rqA at hc
            have HC := Lib.hid hc
            have HY := Lib.hid hY
            clear hc hY
            have hse := str_ne_of_words HWS.out n3
            have HSE := Lib.hid hse
            obtain ⟨hse1, hse2⟩ := hse
            have fY0 := cell_of_row zD _ 0 _ _ _ KY.out
            have fY1 := cell_of_row zD _ 1 _ _ _ KY.out
            have fY2 := cell_of_row zD _ 2 _ _ _ KY.out
            have fY3 := cell_of_row zD _ 3 _ _ _ KY.out
            have fY4 := cell_of_row zD _ 4 _ _ _ KY.out
            simp only [List.getElem?_toArray, List.getElem?_cons_zero, List.getElem?_cons_succ] at fY0 fY1 fY2 fY3 fY4
            have zY0 := frozen_of_row zD _ 0 _ _ KY.out
            have zY1 := frozen_of_row zD _ 1 _ _ KY.out
            have zY2 := frozen_of_row zD _ 2 _ _ KY.out
            have zY3 := frozen_of_row zD _ 3 _ _ KY.out
            have zY4 := frozen_of_row zD _ 4 _ _ KY.out
            go_wp2_with (go_at_call 21; rw [← HY.out]; refine HC.out.mono ?_; rintro e w4 ⟨rfl, hb4⟩; refine Hid.out ?_)
            refine Lib.hid ?_
            clear fY0 fY1 fY2 fY3 fY4
            clear zY0 zY1 zY2 zY3 zY4
            clear KY KR BB LR LY HW1 hse1 hse2 c4
            have KY := KYY
            have KR := KRY
            have BB := BY
            have LR := LRY
            have LY := LYY
            clear KYY KRY BY LRY LYY HC HY bA
            replace KR := Lib.hid ((hb4.block _ LR.out).trans KR.out)
            replace LR := Lib.hid (Nat.lt_of_lt_of_le LR.out hb4.size)
            replace KY := Lib.hid ((hb4.block _ LY.out).trans KY.out)
            replace LY := Lib.hid (Nat.lt_of_lt_of_le LY.out hb4.size)
            replace BB := Lib.hid (BB.out.trans (hb4.mono BB.out.size))
            clear hb4
            obtain ⟨T, hT⟩ : ∃ T, T = opText (rqW ws q) := ⟨_, rfl⟩
            have HTT := Lib.hid hT
            rw [HV.out, HQ.out] at hT
            rw [← hT]
            clear hT
            by_cases he : T = s
            · have he' := teq he
              have hne : (T.toList != s.toList) = false := by simp [bne, he']
              have HX : Hid (roX s = rqW ws q) := Lib.hid (HRO.out.2 (by rw [← HTT.out]; exact he))
              have HK : Hid (roOk s = true) := Lib.hid (by rw [HRO.out.1, ← HTT.out]; simp [he])
              clear he
              have fR0 := cell_of_row w4 _ 0 _ _ _ KR.out
              have fR1 := cell_of_row w4 _ 1 _ _ _ KR.out
              have fR2 := cell_of_row w4 _ 2 _ _ _ KR.out
              have fR3 := cell_of_row w4 _ 3 _ _ _ KR.out
              have fR4 := cell_of_row w4 _ 4 _ _ _ KR.out
              simp only [List.getElem?_toArray, List.getElem?_cons_zero, List.getElem?_cons_succ] at fR0 fR1 fR2 fR3 fR4
              have fY0 := cell_of_row w4 _ 0 _ _ _ KY.out
              have fY1 := cell_of_row w4 _ 1 _ _ _ KY.out
              have fY2 := cell_of_row w4 _ 2 _ _ _ KY.out
              have fY3 := cell_of_row w4 _ 3 _ _ _ KY.out
              have fY4 := cell_of_row w4 _ 4 _ _ _ KY.out
              simp only [List.getElem?_toArray, List.getElem?_cons_zero, List.getElem?_cons_succ] at fY0 fY1 fY2 fY3 fY4
              have zR0 := frozen_of_row w4 _ 0 _ _ KR.out
              have zR1 := frozen_of_row w4 _ 1 _ _ KR.out
              have zR2 := frozen_of_row w4 _ 2 _ _ KR.out
              have zR3 := frozen_of_row w4 _ 3 _ _ KR.out
              have zR4 := frozen_of_row w4 _ 4 _ _ KR.out
              go_wp2_with fail
              clear fR0 fR1 fR2 fR3 fR4 fY0 fY1 fY2 fY3 fY4
              clear zR0 zR1 zR2 zR3 zR4
              have hb : w.heap.size < w4.heap.size := LR.out
              have r0 := heap_setCell_same _ w.heap.size 0 _ _ (.string (wd ws 0)) KR.out
              have r1 := heap_setCell_same _ w.heap.size 1 _ _ (.int .i64 (rd (wd ws 1).data.toList)) r0
              have r2 := heap_setCell_same _ w.heap.size 2 _ _ (.int .i64 (kd (wd ws 2))) r1
              have r3 := heap_setCell_same _ w.heap.size 3 _ _ (.string (wd ws 3)) r2
              have r4 := heap_setCell_same _ w.heap.size 4 _ _ (.string (wd ws 4)) r3
              simp only [List.setIfInBounds_toArray, List.set_cons_zero, List.set_cons_succ] at r4
              obtain ⟨j0, q1, q2, q3, q4⟩ := info_parts infoOp
              refine bodyPost_ret (results_two (P := Tryd.prog) rfl _ _ w.heap.size _ _ (0, 0) _ _ rfl rfl r4 Tryd.underlying29 rfl (by rw [q1]; simp [q3])) rfl ⟨by rw [HK.out, HX.out, HV.out, HQ.out]; rfl, ?_⟩
              exact ((((BB.out.setCell (p := ⟨w.heap.size, 0, none⟩) (Nat.le_refl _) _).setCell (p := ⟨w.heap.size, 1, none⟩) (Nat.le_refl _) _).setCell (p := ⟨w.heap.size, 2, none⟩) (Nat.le_refl _) _).setCell (p := ⟨w.heap.size, 3, none⟩) (Nat.le_refl _) _).setCell (p := ⟨w.heap.size, 4, none⟩) (Nat.le_refl _) _
            · have he' := tne he
              have hne : (T.toList != s.toList) = true := by simp [bne, he']
              have HK : Hid (roOk s = false) := Lib.hid (by rw [HRO.out.1, ← HTT.out]; simp [he])
              clear he
              have fR0 := cell_of_row w4 _ 0 _ _ _ KR.out
              have fR1 := cell_of_row w4 _ 1 _ _ _ KR.out
              have fR2 := cell_of_row w4 _ 2 _ _ _ KR.out
              have fR3 := cell_of_row w4 _ 3 _ _ _ KR.out
              have fR4 := cell_of_row w4 _ 4 _ _ _ KR.out
              simp only [List.getElem?_toArray, List.getElem?_cons_zero, List.getElem?_cons_succ] at fR0 fR1 fR2 fR3 fR4
              have zR0 := frozen_of_row w4 _ 0 _ _ KR.out
              have zR1 := frozen_of_row w4 _ 1 _ _ KR.out
              have zR2 := frozen_of_row w4 _ 2 _ _ KR.out
              have zR3 := frozen_of_row w4 _ 3 _ _ KR.out
              have zR4 := frozen_of_row w4 _ 4 _ _ KR.out
              go_wp2_with fail
              clear fR0 fR1 fR2 fR3 fR4
              clear zR0 zR1 zR2 zR3 zR4
              have HN := Lib.hid (HK.out : roOk s = false)
              have hb : w.heap.size < w4.heap.size := LR.out
              have r0 := heap_setCell_same _ w.heap.size 0 _ _ (.string ⟨#[]⟩) KR.out
              have r1 := heap_setCell_same _ w.heap.size 1 _ _ (.int .i64 0) r0
              have r2 := heap_setCell_same _ w.heap.size 2 _ _ (.int .i64 0) r1
              have r3 := heap_setCell_same _ w.heap.size 3 _ _ (.string ⟨#[]⟩) r2
              have r4 := heap_setCell_same _ w.heap.size 4 _ _ (.string ⟨#[]⟩) r3
              simp only [List.setIfInBounds_toArray, List.set_cons_zero, List.set_cons_succ] at r4
              obtain ⟨j0, q1, q2, q3, q4⟩ := info_parts infoOp
              refine bodyPost_ret (results_two (P := Tryd.prog) rfl _ _ w.heap.size _ _ (0, 0) _ _ rfl rfl r4 Tryd.underlying29 rfl (by rw [q1]; simp [q3])) rfl ⟨by unfold roX; rw [HN.out]; rfl, ?_⟩
              exact ((((BB.out.setCell (p := ⟨w.heap.size, 0, none⟩) (Nat.le_refl _) _).setCell (p := ⟨w.heap.size, 1, none⟩) (Nat.le_refl _) _).setCell (p := ⟨w.heap.size, 2, none⟩) (Nat.le_refl _) _).setCell (p := ⟨w.heap.size, 3, none⟩) (Nat.le_refl _) _).setCell (p := ⟨w.heap.size, 4, none⟩) (Nat.le_refl _) _
          · have h5' : ((ws.length : Int) == 5) = false := by simp; omega
            have HV : Hid (rqW ws q = ⟨wd ws 0, q, kd (wd ws 2), wd ws 3, ⟨#[]⟩⟩) := Lib.hid (by unfold rqW; rw [if_neg (by omega)])
            clear h5e h5 h4
            obtain ⟨Y, hY⟩ : ∃ Y, Y = zD := ⟨_, rfl⟩
            have KYY : Hid (Y.heap[yb]? = some (.cells #[.string (wd ws 0), .int .i64 (rd (wd ws 1).data.toList), .int .i64 (kd (wd ws 2)), .string (wd ws 3), .string ⟨#[]⟩] 29 (0, 0))) := Lib.hid (by rw [hY]; exact KY.out)
            have KRY : Hid (Y.heap[w.heap.size]? = some (.cells #[.string ⟨#[]⟩, .int .i64 0, .int .i64 0, .string ⟨#[]⟩, .string ⟨#[]⟩] 29 (0, 0))) := Lib.hid (by rw [hY]; exact KR.out)
            have LRY : Hid (w.heap.size < Y.heap.size) := Lib.hid (by rw [hY]; exact LR.out)
            have LYY : Hid (yb < Y.heap.size) := Lib.hid (by rw [hY]; exact LY.out)
            have BY : Hid (Below w.heap.size w Y) := Lib.hid (by rw [hY]; exact BB.out)
            have hc := spec_opText (rqW ws q) Y (fit_rqW HF.out Hs.out HQB.out)
            rw [HV.out, HQ.out] at hc
            unfold rqA at hc
            have HC := Lib.hid hc
            have HY := Lib.hid hY
            clear hc hY
            have hse := str_ne_of_words HWS.out n3
            have HSE := Lib.hid hse
            obtain ⟨hse1, hse2⟩ := hse
            have fY0 := cell_of_row zD _ 0 _ _ _ KY.out
            have fY1 := cell_of_row zD _ 1 _ _ _ KY.out
            have fY2 := cell_of_row zD _ 2 _ _ _ KY.out
            have fY3 := cell_of_row zD _ 3 _ _ _ KY.out
            have fY4 := cell_of_row zD _ 4 _ _ _ KY.out
            simp only [List.getElem?_toArray, List.getElem?_cons_zero, List.getElem?_cons_succ] at fY0 fY1 fY2 fY3 fY4
            have zY0 := frozen_of_row zD _ 0 _ _ KY.out
            have zY1 := frozen_of_row zD _ 1 _ _ KY.out
            have zY2 := frozen_of_row zD _ 2 _ _ KY.out
            have zY3 := frozen_of_row zD _ 3 _ _ KY.out
            have zY4 := frozen_of_row zD _ 4 _ _ KY.out
            go_wp2_with (go_at_call 21; rw [← HY.out]; refine HC.out.mono ?_; rintro e w4 ⟨rfl, hb4⟩; refine Hid.out ?_)
            refine Lib.hid ?_
            clear fY0 fY1 fY2 fY3 fY4
            clear zY0 zY1 zY2 zY3 zY4
            clear KY KR BB LR LY HW1 hse1 hse2
            have KY := KYY
            have KR := KRY
            have BB := BY
            have LR := LRY
            have LY := LYY
            clear KYY KRY BY LRY LYY HC HY bA
            replace KR := Lib.hid ((hb4.block _ LR.out).trans KR.out)
            replace LR := Lib.hid (Nat.lt_of_lt_of_le LR.out hb4.size)
            replace KY := Lib.hid ((hb4.block _ LY.out).trans KY.out)
            replace LY := Lib.hid (Nat.lt_of_lt_of_le LY.out hb4.size)
            replace BB := Lib.hid (BB.out.trans (hb4.mono BB.out.size))
            clear hb4
            obtain ⟨T, hT⟩ : ∃ T, T = opText (rqW ws q) := ⟨_, rfl⟩
            have HTT := Lib.hid hT
            rw [HV.out, HQ.out] at hT
            rw [← hT]
            clear hT
            by_cases he : T = s
            · have he' := teq he
              have hne : (T.toList != s.toList) = false := by simp [bne, he']
              have HX : Hid (roX s = rqW ws q) := Lib.hid (HRO.out.2 (by rw [← HTT.out]; exact he))
              have HK : Hid (roOk s = true) := Lib.hid (by rw [HRO.out.1, ← HTT.out]; simp [he])
              clear he
              have fR0 := cell_of_row w4 _ 0 _ _ _ KR.out
              have fR1 := cell_of_row w4 _ 1 _ _ _ KR.out
              have fR2 := cell_of_row w4 _ 2 _ _ _ KR.out
              have fR3 := cell_of_row w4 _ 3 _ _ _ KR.out
              have fR4 := cell_of_row w4 _ 4 _ _ _ KR.out
              simp only [List.getElem?_toArray, List.getElem?_cons_zero, List.getElem?_cons_succ] at fR0 fR1 fR2 fR3 fR4
              have fY0 := cell_of_row w4 _ 0 _ _ _ KY.out
              have fY1 := cell_of_row w4 _ 1 _ _ _ KY.out
              have fY2 := cell_of_row w4 _ 2 _ _ _ KY.out
              have fY3 := cell_of_row w4 _ 3 _ _ _ KY.out
              have fY4 := cell_of_row w4 _ 4 _ _ _ KY.out
              simp only [List.getElem?_toArray, List.getElem?_cons_zero, List.getElem?_cons_succ] at fY0 fY1 fY2 fY3 fY4
              have zR0 := frozen_of_row w4 _ 0 _ _ KR.out
              have zR1 := frozen_of_row w4 _ 1 _ _ KR.out
              have zR2 := frozen_of_row w4 _ 2 _ _ KR.out
              have zR3 := frozen_of_row w4 _ 3 _ _ KR.out
              have zR4 := frozen_of_row w4 _ 4 _ _ KR.out
              go_wp2_with fail
              clear fR0 fR1 fR2 fR3 fR4 fY0 fY1 fY2 fY3 fY4
              clear zR0 zR1 zR2 zR3 zR4
              have hb : w.heap.size < w4.heap.size := LR.out
              have r0 := heap_setCell_same _ w.heap.size 0 _ _ (.string (wd ws 0)) KR.out
              have r1 := heap_setCell_same _ w.heap.size 1 _ _ (.int .i64 (rd (wd ws 1).data.toList)) r0
              have r2 := heap_setCell_same _ w.heap.size 2 _ _ (.int .i64 (kd (wd ws 2))) r1
              have r3 := heap_setCell_same _ w.heap.size 3 _ _ (.string (wd ws 3)) r2
              have r4 := heap_setCell_same _ w.heap.size 4 _ _ (.string ⟨#[]⟩) r3
              simp only [List.setIfInBounds_toArray, List.set_cons_zero, List.set_cons_succ] at r4
              obtain ⟨j0, q1, q2, q3, q4⟩ := info_parts infoOp
              refine bodyPost_ret (results_two (P := Tryd.prog) rfl _ _ w.heap.size _ _ (0, 0) _ _ rfl rfl r4 Tryd.underlying29 rfl (by rw [q1]; simp [q3])) rfl ⟨by rw [HK.out, HX.out, HV.out, HQ.out]; rfl, ?_⟩
              exact ((((BB.out.setCell (p := ⟨w.heap.size, 0, none⟩) (Nat.le_refl _) _).setCell (p := ⟨w.heap.size, 1, none⟩) (Nat.le_refl _) _).setCell (p := ⟨w.heap.size, 2, none⟩) (Nat.le_refl _) _).setCell (p := ⟨w.heap.size, 3, none⟩) (Nat.le_refl _) _).setCell (p := ⟨w.heap.size, 4, none⟩) (Nat.le_refl _) _
            · have he' := tne he
              have hne : (T.toList != s.toList) = true := by simp [bne, he']
              have HK : Hid (roOk s = false) := Lib.hid (by rw [HRO.out.1, ← HTT.out]; simp [he])
              clear he
              have fR0 := cell_of_row w4 _ 0 _ _ _ KR.out
              have fR1 := cell_of_row w4 _ 1 _ _ _ KR.out
              have fR2 := cell_of_row w4 _ 2 _ _ _ KR.out
              have fR3 := cell_of_row w4 _ 3 _ _ _ KR.out
              have fR4 := cell_of_row w4 _ 4 _ _ _ KR.out
              simp only [List.getElem?_toArray, List.getElem?_cons_zero, List.getElem?_cons_succ] at fR0 fR1 fR2 fR3 fR4
              have zR0 := frozen_of_row w4 _ 0 _ _ KR.out
              have zR1 := frozen_of_row w4 _ 1 _ _ KR.out
              have zR2 := frozen_of_row w4 _ 2 _ _ KR.out
              have zR3 := frozen_of_row w4 _ 3 _ _ KR.out
              have zR4 := frozen_of_row w4 _ 4 _ _ KR.out
              go_wp2_with fail
              clear fR0 fR1 fR2 fR3 fR4
              clear zR0 zR1 zR2 zR3 zR4
              have HN := Lib.hid (HK.out : roOk s = false)
              have hb : w.heap.size < w4.heap.size := LR.out
              have r0 := heap_setCell_same _ w.heap.size 0 _ _ (.string ⟨#[]⟩) KR.out
              have r1 := heap_setCell_same _ w.heap.size 1 _ _ (.int .i64 0) r0
              have r2 := heap_setCell_same _ w.heap.size 2 _ _ (.int .i64 0) r1
              have r3 := heap_setCell_same _ w.heap.size 3 _ _ (.string ⟨#[]⟩) r2
              have r4 := heap_setCell_same _ w.heap.size 4 _ _ (.string ⟨#[]⟩) r3
              simp only [List.setIfInBounds_toArray, List.set_cons_zero, List.set_cons_succ] at r4
              obtain ⟨j0, q1, q2, q3, q4⟩ := info_parts infoOp
              refine bodyPost_ret (results_two (P := Tryd.prog) rfl _ _ w.heap.size _ _ (0, 0) _ _ rfl rfl r4 Tryd.underlying29 rfl (by rw [q1]; simp [q3])) rfl ⟨by unfold roX; rw [HN.out]; rfl, ?_⟩
              exact ((((BB.out.setCell (p := ⟨w.heap.size, 0, none⟩) (Nat.le_refl _) _).setCell (p := ⟨w.heap.size, 1, none⟩) (Nat.le_refl _) _).setCell (p := ⟨w.heap.size, 2, none⟩) (Nat.le_refl _) _).setCell (p := ⟨w.heap.size, 3, none⟩) (Nat.le_refl _) _).setCell (p := ⟨w.heap.size, 4, none⟩) (Nat.le_refl _) _
end Go.Proofs.YtclcaflkopnbpaaDoor
