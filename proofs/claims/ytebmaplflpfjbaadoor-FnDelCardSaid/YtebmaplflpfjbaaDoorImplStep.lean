/- What the program's valueOf answers, and its operations' three methods. Condition: a right state and a right operation. -/
import Derived.Test.YtebmaplflpfjbaaDoorBaseA
import Derived.Test.YtebmaplflpfjbaaDoorApplyPlain
import Derived.Test.YtebmaplflpfjbaaDoorImplPutState
import Derived.Test.YtebmaplflpfjbaaDoorImplAt
import Derived.Test.YtebmaplflpfjbaaDoorImplDrop
import Derived.Test.YtebmaplflpfjbaaDoorAppendNil
namespace Go.Proofs.YtebmaplflpfjbaaDoor
open Go.RowKit
set_option linter.unusedVariables false
set_option linter.unusedSimpArgs false

set_option maxHeartbeats 1000000 in
theorem impl_valueOf (s : St) (v : Value) (k : ByteArray) (B : Nat) (w : World) (hs : StV w B v s) (hB : B ≤ w.heap.size) (hfit : Fits s) (hk : k.size ≤ maxLen) :
    Calls Tryd.prog 98 #[v, .string k] w fun e w' => e = .returned (.string (valOf s k)) ∧ Below w.heap.size w w' := by
  have HS := Lib.hid hs
  obtain ⟨vi, vt, rfl, hri, hrt⟩ := hs
  have HRi := Lib.hid hri
  obtain ⟨W, hW⟩ : ∃ W, W = w.alloc (.cells #[vi, vt] 27) := ⟨_, rfl⟩
  have hbW : Below w.heap.size w W := by rw [hW]; exact (Below.refl _ _).alloc (Nat.le_refl _) _
  have KP : Hid (W.heap[w.heap.size]? = some (.cells #[vi, vt] 27 (0, 0))) := Lib.hid (by rw [hW]; exact heap_new _ _)
  have LP : Hid (w.heap.size < W.heap.size) := Lib.hid (by rw [hW]; simp)
  have BB := Lib.hid hbW
  have hc0 := impl_itemAt s _ B k W (HS.out.later (hbW.mono hB) (Nat.le_refl _)) (Nat.le_trans hB hbW.size) hfit hk
  rw [hW] at hc0
  clear hri hrt hbW
  go_enter Tryd.func98, Tryd.ntmps98
  go_wp2_with (go_at_call 29; refine hc0.mono ?_; rintro e w1 ⟨rfl, hb1⟩; refine Hid.out ?_)
  refine Lib.hid ?_
  rw [← hW] at hb1
  replace KP := tkb hb1 LP KP
  replace BB := tbt BB hb1
  clear hc0 hb1 LP hW
  by_cases hi : 0 ≤ itemAt s.items k
  · obtain ⟨i, hi', ht, hn⟩ := itemAt_hit hi
    obtain ⟨T, hT⟩ : ∃ T, T = s.items[i] := ⟨_, rfl⟩
    have hv : Hid (valOf s k = T.v) := Lib.hid (by unfold valOf; rw [if_pos hi, ht, Int.toNat_natCast, getD_at hi', hT])
    rw [ht]
    obtain ⟨hrl, hr⟩ := HRi.out
    rcases hr with ⟨_, h0⟩ | ⟨g, o, cap, rfl, hnc, hcm, hgB, hAt⟩
    · omega
    have hgB : g < B := by rcases hgB with h | h <;> omega
    have hcell := (hAt.item i hi').2
    rw [← hT] at hcell
    have hlt : (i : Int) < (s.items.length : Int) := by omega
    unfold maxLen at hcm
    rw [← BB.out.cell (p := ⟨g, o + i * 2 + 1, none⟩) (Nat.lt_of_lt_of_le hgB hB)] at hcell
    have fP0 := tcr KP 0
    clear hi ht hn hT hAt hrl
    go_wp2
    go_ret
    exact ⟨by rw [hv.out]; rfl, BB.out⟩
  · have hv : Hid (valOf s k = ⟨#[]⟩) := Lib.hid (if_neg hi)
    have hi2 : itemAt s.items k < 0 := by omega
    clear hi
    go_wp2
    go_ret
    exact ⟨by rw [hv.out]; rfl, BB.out⟩
/-- What a method of the map leaves: it may be read as long as no block of it turns. -/
def LeftSt (B lo : Nat) (v : Value) (s : St) (w' : World) : Prop := ∀ w2, (∃ b, B ≤ b ∧ b < lo ∧ w'.grownBy w2 (some b)) ∨ Below w'.heap.size w' w2 → StV w2 w2.heap.size v s
theorem LeftSt.of_own {B lo : Nat} {v : Value} {s : St} {w' : World} (h : OwnN w' lo v s) : LeftSt B lo v s w' := by
  rintro w2 (⟨b, _, h2, h3⟩ | h2)
  · exact (h.kept h3 h2).st
  · exact (h.later h2).st
theorem LeftSt.of_stv {B lo : Nat} {v : Value} {s : St} {w' : World} (h : StV w' B v s) (hB : B ≤ w'.heap.size) : LeftSt B lo v s w' := by
  rintro w2 (⟨b, h1, _, h3⟩ | h2)
  · exact h.later ((Below.refl _ _).grown h3 hB (fun k hk => by cases hk; exact h1)) (Nat.le_trans hB h3.size)
  · exact h.later (h2.mono hB) (Nat.le_trans hB h2.size)
def Step (f : Nat) (n : Int) : Prop := ∀ (s : St) (v : Value) (x : Rq) (B : Nat) (w : World), StV w B v s → B ≤ w.heap.size → stOk s = true → FitRq x → x.n = n →
  Calls Tryd.prog f #[rqA x, v] w fun e w' => ∃ a0 n0 c0 a1 n1 c1, e = .returned (.tuple #[.agg #[.slice a0 n0 c0, .slice a1 n1 c1], .bool (stOk (stepS s x))]) ∧ (stOk (stepS s x) = true → LeftSt B w.heap.size (.agg #[.slice a0 n0 c0, .slice a1 n1 c1]) (stepS s x) w') ∧ Below w.heap.size w w'
theorem OwnN.two' {w : World} {b : Nat} {v : Value} {s : St} (h : OwnN w b v s) : ∃ a0 n0 k0 a1 n1 k1, v = .agg #[.slice a0 n0 k0, .slice a1 n1 k1] := by
  obtain ⟨_, _, _, _, _, _, h, _, ⟨a0, rfl, _⟩, ⟨a1, rfl, _⟩, _⟩ := h
  exact ⟨_, _, _, _, _, _, h⟩
set_option maxRecDepth 100000 in
set_option maxHeartbeats 4000000 in
theorem step_get : Step 115 0 := by
  intro s v x B w hs hB hok hx hn
  have HS := Lib.hid hs
  have Hx := Lib.hid hx
  have HO := Lib.hid hok
  have hsm := ok_small hok
  have Hsm := Lib.hid hsm
  have Hfit := Lib.hid (ok_fits hok)
  obtain ⟨vi, vt, rfl, hri, hrt⟩ := hs
  obtain ⟨a0, n0, c0, rfl⟩ := slice_of_row hri
  obtain ⟨a1, n1, c1, rfl⟩ := slice_of_row hrt
  unfold rqA
  obtain ⟨W, hW⟩ : ∃ W, W = ((w.alloc (.cells #[.string x.c, .int .i64 x.q, .int .i64 x.n, .string x.k, .string x.v] 29)).alloc (.cells #[.slice a0 n0 c0, .slice a1 n1 c1] 27)).alloc (.cells #[.slice none 0 0, .slice none 0 0] 27) := ⟨_, rfl⟩
  have hbW : Below w.heap.size w W := by rw [hW]; exact (((Below.refl _ _).alloc (Nat.le_refl _) _).alloc (by simp) _).alloc (by simp; omega) _
  have hWs : W.heap.size = w.heap.size + 3 := by rw [hW]; simp
  have KQ : Hid (W.heap[w.heap.size]? = some (.cells #[.string x.c, .int .i64 x.q, .int .i64 x.n, .string x.k, .string x.v] 29 (0, 0))) := Lib.hid (by rw [hW, Below.heap_alloc _ _ _ (by simp; omega), Below.heap_alloc _ _ _ (by simp)]; exact heap_new _ _)
  have KP : Hid (W.heap[w.heap.size + 1]? = some (.cells #[.slice a0 n0 c0, .slice a1 n1 c1] 27 (0, 0))) := Lib.hid (by rw [hW, Below.heap_alloc _ _ _ (by simp)]; simpa using heap_new (w.alloc (.cells #[.string x.c, .int .i64 x.q, .int .i64 x.n, .string x.k, .string x.v] 29)) (.cells #[.slice a0 n0 c0, .slice a1 n1 c1] 27))
  have KR : Hid (W.heap[w.heap.size + 1 + 1]? = some (.cells #[.slice none 0 0, .slice none 0 0] 27 (0, 0))) := Lib.hid (by rw [hW]; simpa using heap_new ((w.alloc (.cells #[.string x.c, .int .i64 x.q, .int .i64 x.n, .string x.k, .string x.v] 29)).alloc (.cells #[.slice a0 n0 c0, .slice a1 n1 c1] 27)) (.cells #[.slice none 0 0, .slice none 0 0] 27))
  have LP : Hid (w.heap.size + 1 < W.heap.size) := Lib.hid (by omega)
  have LQ : Hid (w.heap.size < W.heap.size) := Lib.hid (by omega)
  have LR : Hid (w.heap.size + 1 + 1 < W.heap.size) := Lib.hid (by omega)
  have HWs := Lib.hid hWs
  have BB := Lib.hid hbW
  have hst : stepS s x = s := by unfold stepS; rw [if_neg (by omega), if_neg (by omega)]
  have HST := Lib.hid hst
  have HE : Hid (stOk (stepS s x) = true) := Lib.hid (by rw [hst]; exact hok)
  have hbx := hbW
  clear hri hrt hst hsm hok hx hn
  have fP0 := tcr KP 0
  have fP1 := tcr KP 1
  have fR0 := tcr KR 0
  have fR1 := tcr KR 1
  have zR0 := tfr KR 0
  have zR1 := tfr KR 1
  rw [hW] at fP0 fP1 fR0 fR1 zR0 zR1
  go_enter Tryd.func115, Tryd.ntmps115
  go_wp2_with fail
  clear fP0 fP1 fR0 fR1
  clear zR0 zR1
  have f2 : (((w.alloc (.cells #[.string x.c, .int .i64 x.q, .int .i64 x.n, .string x.k, .string x.v] 29)).alloc (.cells #[.slice a0 n0 c0, .slice a1 n1 c1] 27)).alloc (.cells #[.slice a0 n0 c0, .slice a1 n1 c1] 27)).heap[w.heap.size + 1 + 1]? = some (.cells #[.slice a0 n0 c0, .slice a1 n1 c1] 27 (0, 0)) := by simpa using heap_new ((w.alloc (.cells #[.string x.c, .int .i64 x.q, .int .i64 x.n, .string x.k, .string x.v] 29)).alloc (.cells #[.slice a0 n0 c0, .slice a1 n1 c1] 27)) (.cells #[.slice a0 n0 c0, .slice a1 n1 c1] 27)
  have bf : Below w.heap.size w (((w.alloc (.cells #[.string x.c, .int .i64 x.q, .int .i64 x.n, .string x.k, .string x.v] 29)).alloc (.cells #[.slice a0 n0 c0, .slice a1 n1 c1] 27)).alloc (.cells #[.slice a0 n0 c0, .slice a1 n1 c1] 27)) := (((Below.refl _ _).alloc (Nat.le_refl _) _).alloc (by simp) _).alloc (by simp; omega) _
  obtain ⟨j0, q1, q2, q3, q4⟩ := info_parts infoSt
  refine bodyPost_ret (results_cell_row2 (P := Tryd.prog) rfl _ _ (w.heap.size + 1 + 1) _ _ (0, 0) _ _ rfl rfl f2 Tryd.underlying27 rfl (by rw [q1]; simp [q3])) rfl ⟨_, _, _, _, _, _, (by rw [HE.out]; rfl), fun h => by rw [HST.out]; exact LeftSt.of_stv (HS.out.later (bf.mono hB) (Nat.le_refl _)) (Nat.le_trans hB bf.size), ?_⟩
  exact bf
set_option maxRecDepth 100000 in
set_option maxHeartbeats 4000000 in
theorem step_put : Step 116 1 := by
  intro s v x B w hs hB hok hx hn
  have HS := Lib.hid hs
  have Hx := Lib.hid hx
  have HO := Lib.hid hok
  have hsm := ok_small hok
  have Hsm := Lib.hid hsm
  have Hfit := Lib.hid (ok_fits hok)
  obtain ⟨vi, vt, rfl, hri, hrt⟩ := hs
  obtain ⟨a0, n0, c0, rfl⟩ := slice_of_row hri
  obtain ⟨a1, n1, c1, rfl⟩ := slice_of_row hrt
  unfold rqA
  obtain ⟨W, hW⟩ : ∃ W, W = ((w.alloc (.cells #[.string x.c, .int .i64 x.q, .int .i64 x.n, .string x.k, .string x.v] 29)).alloc (.cells #[.slice a0 n0 c0, .slice a1 n1 c1] 27)).alloc (.cells #[.slice none 0 0, .slice none 0 0] 27) := ⟨_, rfl⟩
  have hbW : Below w.heap.size w W := by rw [hW]; exact (((Below.refl _ _).alloc (Nat.le_refl _) _).alloc (by simp) _).alloc (by simp; omega) _
  have hWs : W.heap.size = w.heap.size + 3 := by rw [hW]; simp
  have KQ : Hid (W.heap[w.heap.size]? = some (.cells #[.string x.c, .int .i64 x.q, .int .i64 x.n, .string x.k, .string x.v] 29 (0, 0))) := Lib.hid (by rw [hW, Below.heap_alloc _ _ _ (by simp; omega), Below.heap_alloc _ _ _ (by simp)]; exact heap_new _ _)
  have KP : Hid (W.heap[w.heap.size + 1]? = some (.cells #[.slice a0 n0 c0, .slice a1 n1 c1] 27 (0, 0))) := Lib.hid (by rw [hW, Below.heap_alloc _ _ _ (by simp)]; simpa using heap_new (w.alloc (.cells #[.string x.c, .int .i64 x.q, .int .i64 x.n, .string x.k, .string x.v] 29)) (.cells #[.slice a0 n0 c0, .slice a1 n1 c1] 27))
  have KR : Hid (W.heap[w.heap.size + 1 + 1]? = some (.cells #[.slice none 0 0, .slice none 0 0] 27 (0, 0))) := Lib.hid (by rw [hW]; simpa using heap_new ((w.alloc (.cells #[.string x.c, .int .i64 x.q, .int .i64 x.n, .string x.k, .string x.v] 29)).alloc (.cells #[.slice a0 n0 c0, .slice a1 n1 c1] 27)) (.cells #[.slice none 0 0, .slice none 0 0] 27))
  have LP : Hid (w.heap.size + 1 < W.heap.size) := Lib.hid (by omega)
  have LQ : Hid (w.heap.size < W.heap.size) := Lib.hid (by omega)
  have LR : Hid (w.heap.size + 1 + 1 < W.heap.size) := Lib.hid (by omega)
  have HWs := Lib.hid hWs
  have BB := Lib.hid hbW
  have hst : stepS s x = putSI s ⟨x.k, x.v⟩ := if_pos hn
  have hc := impl_putItem s _ ⟨x.k, x.v⟩ B W (HS.out.later (hbW.mono hB) (Nat.le_refl _)) (Nat.le_trans hB hbW.size) (hsm.mono (by omega)) Hfit.out ⟨hx.2.1, hx.2.2.1⟩
  rw [← hst] at hc
  have hE : chgB s (stepS s x) = stOk (stepS s x) := by unfold chgB; rw [hok]; rfl
  have HCH : Hid (stOk (stepS s x) = true → chg s (stepS s x) = stepS s x) := Lib.hid (fun h => chg_of (hE.trans h))
  rw [hE] at hc
  obtain ⟨F, hF⟩ : ∃ F, F = chg s (stepS s x) := ⟨_, rfl⟩
  rw [← hF] at hc HCH
  simp only [itA] at hc
  clear hri hrt hst hsm hok hx hn hE hF
  have fP0 := tcr KP 0
  have fP1 := tcr KP 1
  have fQ0 := tcr KQ 0
  have fQ1 := tcr KQ 1
  have fQ2 := tcr KQ 2
  have fQ3 := tcr KQ 3
  have fQ4 := tcr KQ 4
  rw [hW] at hc fP0 fP1 fQ0 fQ1 fQ2 fQ3 fQ4
  go_enter Tryd.func116, Tryd.ntmps116
  go_wp2_with (go_at_call 126; refine hc.mono ?_; rintro e w1 ⟨v1, rfl, ho, hb⟩; refine Hid.out ?_)
  refine Lib.hid ?_
  rw [← hW] at ho hb
  have S1 := Lib.hid ho
  obtain ⟨a2, n2, k2, a3, n3, k3, rfl⟩ := ho.two'
  have HsW := Lib.hid hb.size
  clear fP0 fP1 fQ0 fQ1 fQ2 fQ3 fQ4
  replace KP := tkb hb LP KP
  replace LP := tlz LP hb.size
  replace KQ := tkb hb LQ KQ
  replace LQ := tlz LQ hb.size
  replace KR := tkb hb LR KR
  replace LR := tlz LR hb.size
  replace BB := tbt BB hb
  clear hc ho hb hW hbW
  have fR0 := tcr KR 0
  have fR1 := tcr KR 1
  have zR0 := tfr KR 0
  have zR1 := tfr KR 1
  go_wp2_with fail
  clear fR0 fR1
  clear zR0 zR1
  have f1 := heap_setCell_same _ (w.heap.size + 1 + 1) 0 _ _ (.slice a2 n2 k2) KR.out
  have f2 := heap_setCell_same _ (w.heap.size + 1 + 1) 1 _ _ (.slice a3 n3 k3) f1
  obtain ⟨j0, q1, q2, q3, q4⟩ := info_parts infoSt
  have hWs := HWs.out
  refine bodyPost_ret (results_cell_row2 (P := Tryd.prog) rfl _ _ (w.heap.size + 1 + 1) _ _ (0, 0) _ _ rfl rfl f2 Tryd.underlying27 rfl (by rw [q1]; simp [q3])) rfl ⟨_, _, _, _, _, _, rfl, fun h => by have h1 := S1.out; rw [HCH.out h] at h1; exact LeftSt.of_own (((h1.kept (grown_set _ ⟨w.heap.size + 1 + 1, 0, none⟩ _) (show w.heap.size + 1 + 1 < _ by omega)).kept (grown_set _ ⟨w.heap.size + 1 + 1, 1, none⟩ _) (show w.heap.size + 1 + 1 < _ by omega)).base (by omega)), ?_⟩
  exact (BB.out.setCell (p := ⟨w.heap.size + 1 + 1, 0, none⟩) (by simp; omega) _).setCell (p := ⟨w.heap.size + 1 + 1, 1, none⟩) (by simp; omega) _
set_option maxRecDepth 100000 in
set_option maxHeartbeats 4000000 in
theorem step_delete : Step 117 2 := by
  intro s v x B w hs hB hok hx hn
  have HS := Lib.hid hs
  have Hx := Lib.hid hx
  have HO := Lib.hid hok
  have hsm := ok_small hok
  have Hsm := Lib.hid hsm
  have Hfit := Lib.hid (ok_fits hok)
  obtain ⟨vi, vt, rfl, hri, hrt⟩ := hs
  obtain ⟨a0, n0, c0, rfl⟩ := slice_of_row hri
  obtain ⟨a1, n1, c1, rfl⟩ := slice_of_row hrt
  unfold rqA
  obtain ⟨W, hW⟩ : ∃ W, W = ((w.alloc (.cells #[.string x.c, .int .i64 x.q, .int .i64 x.n, .string x.k, .string x.v] 29)).alloc (.cells #[.slice a0 n0 c0, .slice a1 n1 c1] 27)).alloc (.cells #[.slice none 0 0, .slice none 0 0] 27) := ⟨_, rfl⟩
  have hbW : Below w.heap.size w W := by rw [hW]; exact (((Below.refl _ _).alloc (Nat.le_refl _) _).alloc (by simp) _).alloc (by simp; omega) _
  have hWs : W.heap.size = w.heap.size + 3 := by rw [hW]; simp
  have KQ : Hid (W.heap[w.heap.size]? = some (.cells #[.string x.c, .int .i64 x.q, .int .i64 x.n, .string x.k, .string x.v] 29 (0, 0))) := Lib.hid (by rw [hW, Below.heap_alloc _ _ _ (by simp; omega), Below.heap_alloc _ _ _ (by simp)]; exact heap_new _ _)
  have KP : Hid (W.heap[w.heap.size + 1]? = some (.cells #[.slice a0 n0 c0, .slice a1 n1 c1] 27 (0, 0))) := Lib.hid (by rw [hW, Below.heap_alloc _ _ _ (by simp)]; simpa using heap_new (w.alloc (.cells #[.string x.c, .int .i64 x.q, .int .i64 x.n, .string x.k, .string x.v] 29)) (.cells #[.slice a0 n0 c0, .slice a1 n1 c1] 27))
  have KR : Hid (W.heap[w.heap.size + 1 + 1]? = some (.cells #[.slice none 0 0, .slice none 0 0] 27 (0, 0))) := Lib.hid (by rw [hW]; simpa using heap_new ((w.alloc (.cells #[.string x.c, .int .i64 x.q, .int .i64 x.n, .string x.k, .string x.v] 29)).alloc (.cells #[.slice a0 n0 c0, .slice a1 n1 c1] 27)) (.cells #[.slice none 0 0, .slice none 0 0] 27))
  have LP : Hid (w.heap.size + 1 < W.heap.size) := Lib.hid (by omega)
  have LQ : Hid (w.heap.size < W.heap.size) := Lib.hid (by omega)
  have LR : Hid (w.heap.size + 1 + 1 < W.heap.size) := Lib.hid (by omega)
  have HWs := Lib.hid hWs
  have BB := Lib.hid hbW
  have hst : stepS s x = dropS s x.k := by unfold stepS; rw [if_neg (by omega), if_pos hn]
  have hc := impl_dropItem s _ B x.k W (HS.out.later (hbW.mono hB) (Nat.le_refl _)) (Nat.le_trans hB hbW.size) (by unfold Small at hsm; unfold Few; omega) Hfit.out hx.2.1
  have HE : Hid (stOk (stepS s x) = true) := Lib.hid (by rw [hst]; exact stepS_drop hok)
  rw [← hst] at hc
  clear hri hrt hst hsm hok hx hn
  have fP0 := tcr KP 0
  have fP1 := tcr KP 1
  have fQ0 := tcr KQ 0
  have fQ1 := tcr KQ 1
  have fQ2 := tcr KQ 2
  have fQ3 := tcr KQ 3
  have fQ4 := tcr KQ 4
  rw [hW] at hc fP0 fP1 fQ0 fQ1 fQ2 fQ3 fQ4
  go_enter Tryd.func117, Tryd.ntmps117
  go_wp2_with (go_at_call 26; refine hc.mono ?_; rintro e w1 ⟨v1, rfl, ho, hb⟩; refine Hid.out ?_)
  refine Lib.hid ?_
  rw [← hW] at ho hb
  have S1 := Lib.hid ho
  obtain ⟨a2, n2, k2, a3, n3, k3, rfl⟩ := ho.two'
  have HsW := Lib.hid hb.size
  clear fP0 fP1 fQ0 fQ1 fQ2 fQ3 fQ4
  replace KP := tkb hb LP KP
  replace LP := tlz LP hb.size
  replace KQ := tkb hb LQ KQ
  replace LQ := tlz LQ hb.size
  replace KR := tkb hb LR KR
  replace LR := tlz LR hb.size
  replace BB := tbt BB hb
  clear hc ho hb hW hbW
  have fR0 := tcr KR 0
  have fR1 := tcr KR 1
  have zR0 := tfr KR 0
  have zR1 := tfr KR 1
  go_wp2_with fail
  clear fR0 fR1
  clear zR0 zR1
  have f1 := heap_setCell_same _ (w.heap.size + 1 + 1) 0 _ _ (.slice a2 n2 k2) KR.out
  have f2 := heap_setCell_same _ (w.heap.size + 1 + 1) 1 _ _ (.slice a3 n3 k3) f1
  obtain ⟨j0, q1, q2, q3, q4⟩ := info_parts infoSt
  have hWs := HWs.out
  refine bodyPost_ret (results_cell_row2 (P := Tryd.prog) rfl _ _ (w.heap.size + 1 + 1) _ _ (0, 0) _ _ rfl rfl f2 Tryd.underlying27 rfl (by rw [q1]; simp [q3])) rfl ⟨_, _, _, _, _, _, (by rw [HE.out]; rfl), fun h => by have h1 := S1.out; exact LeftSt.of_own (((h1.kept (grown_set _ ⟨w.heap.size + 1 + 1, 0, none⟩ _) (show w.heap.size + 1 + 1 < _ by omega)).kept (grown_set _ ⟨w.heap.size + 1 + 1, 1, none⟩ _) (show w.heap.size + 1 + 1 < _ by omega)).base (by omega)), ?_⟩
  exact (BB.out.setCell (p := ⟨w.heap.size + 1 + 1, 0, none⟩) (by simp; omega) _).setCell (p := ⟨w.heap.size + 1 + 1, 1, none⟩) (by simp; omega) _
end Go.Proofs.YtebmaplflpfjbaaDoor
