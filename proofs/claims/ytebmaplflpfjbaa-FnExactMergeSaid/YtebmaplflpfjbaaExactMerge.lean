/- The exact law of Merge: the program answers as its model, keeps its argument, and its answer's memory is its own. Condition: none beyond what the argument may be. -/
import Derived.Test.YtebmaplflpfjbaaBaseA
import Derived.Test.YtebmaplflpfjbaaMarkV
import Derived.Test.YtebmaplflpfjbaaExactPlain
import Derived.Test.YtebmaplflpfjbaaImplMerge
import Derived.Test.YtebmaplflpfjbaaSpecMerge
namespace Go.Proofs.Ytebmaplflpfjbaa
open Go.RowKit
set_option linter.unusedVariables false
set_option linter.unusedSimpArgs false

theorem small_same {rs qs : List Sq} {l : Int} (h : rs.map Sq.s = qs.map Sq.s) (hs : ∀ q ∈ qs, Small q.s l) : ∀ q ∈ rs, Small q.s l := by
  intro q hq
  have hm : q.s ∈ rs.map Sq.s := List.mem_map_of_mem hq
  rw [h] at hm
  obtain ⟨q', hq', e⟩ := List.mem_map.1 hm
  rw [← e]; exact hs q' hq'
theorem fits_same {rs qs : List Sq} (h : rs.map Sq.s = qs.map Sq.s) (hs : ∀ q ∈ qs, Fits q.s) : ∀ q ∈ rs, Fits q.s := by
  intro q hq
  have hm : q.s ∈ rs.map Sq.s := List.mem_map_of_mem hq
  rw [h] at hm
  obtain ⟨q', hq', e⟩ := List.mem_map.1 hm
  rw [← e]; exact hs q' hq'
theorem len_same {rs qs : List Sq} (h : rs.map Sq.s = qs.map Sq.s) : rs.length = qs.length := by
  have := congrArg List.length h; simpa using this
theorem sum_small (rs : List Sq) (hl : rs.length ≤ 1048576) (hs : ∀ q ∈ rs, Small q.s 1048576) : 1 + sumL rs ≤ 9223372036854775807 := by
  have hx : ∀ l : List Sq, (∀ q ∈ l, Small q.s 1048576) → sumL l ≤ l.length * 5242880 := by
    intro l
    induction l with
    | nil => intro _; exact Nat.le_refl _
    | cons x xs ih =>
      intro h
      have h1 := h x (by simp)
      have h2 := ih (fun q hq => h q (by simp [hq]))
      unfold Small at h1
      simp only [sumL, List.length_cons]
      omega
  have := hx rs hs
  omega
theorem merge_ok {l : List St} {r : St} (h : mergeS l = some r) : stOk r = true := by
  unfold mergeS at h
  cases e : fr ⟨[], []⟩ l with
  | none => rw [e] at h; cases h
  | some r' =>
    rw [e] at h
    simp only [okO] at h
    split at h
    · rename_i hok; obtain rfl := Option.some.inj h; exact hok
    · cases h
theorem mg_len (l : List St) : ((mergeS l).getD ⟨[], []⟩).items.length ≤ 40 ∧ ((mergeS l).getD ⟨[], []⟩).talks.length ≤ 20 := by
  cases h : mergeS l with
  | none => exact ⟨Nat.zero_le _, Nat.zero_le _⟩
  | some r => exact ok_len (merge_ok h)
/-- The rows of a state that is the call's own, or no state. -/
def GO (w : World) (base hi : Nat) (ai : Option Addr) (ni ci : Nat) (at_ : Option Addr) (nt ct : Nat) (R : St) : Prop := ni = R.items.length ∧ nt = R.talks.length ∧
  ((ai = none ∧ ci = 0 ∧ at_ = none ∧ ct = 0 ∧ R = ⟨[], []⟩) ∨ ∃ gi gt, ai = some ⟨gi, 0, none⟩ ∧ at_ = some ⟨gt, 0, none⟩ ∧ gi ≠ gt ∧ gi < hi ∧ gt < hi ∧ Got w base 74 2 gi ni ci (R.items.flatMap itC) ∧ Got w base 45 3 gt nt ct (R.talks.flatMap tkC))
theorem GO.later {w w' : World} {base hi : Nat} {ai at_ : Option Addr} {ni ci nt ct : Nat} {R : St} (h : GO w base hi ai ni ci at_ nt ct R) (hb : Below w.heap.size w w') : GO w' base hi ai ni ci at_ nt ct R := by
  obtain ⟨h1, h2, h3 | ⟨gi, gt, a, b, c, d, e, f, g⟩⟩ := h
  · exact ⟨h1, h2, .inl h3⟩
  · exact ⟨h1, h2, .inr ⟨gi, gt, a, b, c, d, e, f.later hb, g.later hb⟩⟩
theorem GO.moved {w w' : World} {base hi : Nat} {ai at_ : Option Addr} {ni ci nt ct : Nat} {R : St} (h : GO w base hi ai ni ci at_ nt ct R) (hs : w.heap.size ≤ w'.heap.size) (hg : ∀ j, base ≤ j → j < w.heap.size → w'.heap[j]? = w.heap[j]?) : GO w' base hi ai ni ci at_ nt ct R := by
  obtain ⟨h1, h2, h3 | ⟨gi, gt, a, b, c, d, e, f, g⟩⟩ := h
  · exact ⟨h1, h2, .inl h3⟩
  · exact ⟨h1, h2, .inr ⟨gi, gt, a, b, c, d, e, f.moved hs (hg _ f.2.2.2.1 f.2.2.2.2.1), g.moved hs (hg _ g.2.2.2.1 g.2.2.2.2.1)⟩⟩
theorem GO.rd {w : World} {base hi : Nat} {ai at_ : Option Addr} {ni ci nt ct : Nat} {R : St} (h : GO w base hi ai ni ci at_ nt ct R) : Rd w w.heap.size (.agg #[.slice ai ni ci, .slice at_ nt ct]) R := by
  obtain ⟨rfl, rfl, ⟨rfl, rfl, rfl, rfl, rfl⟩ | ⟨gi, gt, rfl, rfl, _, _, _, f, g⟩⟩ := h
  · exact (stv_nil w _).rd
  · exact ⟨_, _, rfl, raw_of_row (row_of_got f), raw_of_row (row_of_got g)⟩
theorem mg_go {w : World} {base : Nat} {v : Value} {M : Option St} (h : MgR w base v M) : ∃ ai ni ci at_ nt ct, v = .agg #[.slice ai ni ci, .slice at_ nt ct] ∧ GO w base w.heap.size ai ni ci at_ nt ct (M.getD ⟨[], []⟩) := by
  cases M with
  | none => exact ⟨none, 0, 0, none, 0, 0, h, rfl, rfl, .inl ⟨rfl, rfl, rfl, rfl, rfl⟩⟩
  | some r =>
    obtain ⟨gi, ci, gt, ct, h0, h1, h2, h3⟩ := h
    exact ⟨some ⟨gi, 0, none⟩, _, ci, some ⟨gt, 0, none⟩, _, ct, h0, rfl, rfl, .inr ⟨gi, gt, rfl, rfl, h1, h2.2.2.2.2.1, h3.2.2.2.2.1, h2, h3⟩⟩
/-- Two blocks that hold the rows; two spare ones where there are none. -/
theorem GO.pick {w : World} {base hi lo p q : Nat} {ai at_ : Option Addr} {ni ci nt ct : Nat} {R : St} (h : GO w base hi ai ni ci at_ nt ct R) (hpq : p ≠ q) (hp : lo ≤ p ∧ p < w.heap.size) (hq : lo ≤ q ∧ q < w.heap.size) (hl : lo ≤ base) :
    ∃ gi gt cs ds, gi ≠ gt ∧ NilOr ai gi ni ci ∧ NilOr at_ gt nt ct ∧ Got w lo 74 2 gi ni ci cs ∧ Got w lo 45 3 gt nt ct ds ∧ (gi = p ∨ gi < hi) ∧ (gt = q ∨ gt < hi) := by
  obtain ⟨rfl, rfl, ⟨rfl, rfl, rfl, rfl, rfl⟩ | ⟨gi, gt, rfl, rfl, h1, h2, h3, f, g⟩⟩ := h
  · exact ⟨p, q, [], [], hpq, .inr ⟨rfl, rfl, rfl⟩, .inr ⟨rfl, rfl, rfl⟩, ⟨rfl, Nat.le_refl _, Nat.zero_le _, hp.1, hp.2, .inl ⟨rfl, rfl⟩⟩, ⟨rfl, Nat.le_refl _, Nat.zero_le _, hq.1, hq.2, .inl ⟨rfl, rfl⟩⟩, .inl rfl, .inl rfl⟩
  · exact ⟨gi, gt, _, _, h1, .inl rfl, .inl rfl, f.base hl, g.base hl, .inr h2, .inr h3⟩
set_option maxRecDepth 100000 in
set_option maxHeartbeats 8000000 in
theorem law_merge (qs : List Sq) (v : Value) (w : World) (hr : RawL w w.heap.size v qs) :
    Calls Try.prog 9 #[v] w fun e w' => e = .returned (.bool true) ∧ Below w.heap.size w w' := by
  have hc0 := sz_states qs v w.heap.size 1048576 w hr (Nat.le_refl _) ⟨by omega, by omega⟩
  have Hr := Lib.hid hr
  have HF : Hid (∀ q ∈ qs, Fits q.s) := Lib.hid (fun q hq => (hr.2 q hq).fits)
  clear hr
  obtain ⟨M, hM⟩ : ∃ M, M = mergeS (qs.map Sq.s) := ⟨_, rfl⟩
  obtain ⟨bM, hbM⟩ : ∃ b, b = M.isSome := ⟨_, rfl⟩
  obtain ⟨R, hR⟩ : ∃ r, r = M.getD ⟨[], []⟩ := ⟨_, rfl⟩
  have HM := Lib.hid hM
  have HbM := Lib.hid hbM
  have HR := Lib.hid hR
  have HRl : Hid (R.items.length ≤ 40 ∧ R.talks.length ≤ 20) := Lib.hid (by rw [hR, hM]; exact mg_len _)
  clear hM hbM hR
  go_enter Try.func9, Try.ntmps9
  go_wp2_with (go_at_call 38; refine hc0.mono ?_; rintro e w1 ⟨r, rfl, hr0, hr1, hr2, hb1⟩; refine Hid.out ?_)
  refine Lib.hid ?_
  by_cases hneg : r < 0
  · clear hr2 hc0
    go_wp2_with fail
    go_ret
    exact ⟨rfl, hb1⟩
  have H2 := Lib.hid (hr2 (by omega))
  have HL : Hid (qs.length ≤ 1048576) := Lib.hid (by have := H2.out.1; omega)
  have HS : Hid (∀ q ∈ qs, Small q.s 1048576) := Lib.hid (fun q hq => (H2.out.2 q hq).mono (by omega))
  have BB := Lib.hid hb1
  clear hr2 hb1 hc0
  have hc := to_states qs v w.heap.size w1 (Hr.out.later BB.out (Nat.le_refl _)) BB.out.size HL.out HS.out
  go_wp2_with (go_at_call 39; refine hc.mono ?_; rintro e w2 ⟨g2, rs2, rfl, ho2, hm2, hb⟩; refine Hid.out ?_)
  refine Lib.hid ?_
  replace BB := tbt BB hb
  clear hc hb 
  have hc := spec_merge rs2 _ w2.heap.size w2 ho2.stl (Nat.le_refl _) (by rw [len_same hm2]; exact HL.out) (fits_same hm2 HF.out)
  rw [hm2, ← HM.out, ← HbM.out, ← HR.out] at hc
  go_wp2_with (go_at_call 25; refine hc.mono ?_; rintro e w3 ⟨vW, rfl, hW, hb⟩; refine Hid.out ?_)
  refine Lib.hid ?_
  replace BB := tbt BB hb
  clear hc hb 
  obtain ⟨wi, wt, rfl, r1, r2⟩ := hW.rd
  obtain ⟨aW, cW, rfl, _⟩ := r1
  obtain ⟨bW, dW, rfl, _⟩ := r2
  have SW := Lib.hid hW.rd
  have BB3 : Hid (w.heap.size ≤ w3.heap.size) := Lib.hid BB.out.size
  have B3 : Hid (Below w3.heap.size w3 w3) := Lib.hid (Below.refl _ _)
  clear hW ho2 hm2
  obtain ⟨X1, hX1⟩ : ∃ z, z = w3.alloc (.cells #[.slice aW R.items.length cW, .slice bW R.talks.length dW] 31) := ⟨_, rfl⟩
  have hb : Below w3.heap.size w3 X1 := by rw [hX1]; exact (Below.refl _ _).alloc (Nat.le_refl _) _
  replace B3 := tbt B3 hb
  replace BB := tbt BB hb
  have KW : Hid (X1.heap[w3.heap.size]? = some (.cells #[.slice aW R.items.length cW, .slice bW R.talks.length dW] 31 (0, 0))) := Lib.hid (by rw [hX1]; exact heap_new _ _)
  have LW : Hid (w3.heap.size < X1.heap.size) := Lib.hid (by rw [hX1]; simp)
  clear hb
  have N1 := LW
  have SZ : Hid (X1.heap.size ≤ X1.heap.size) := Lib.hid (Nat.le_refl _)
  have hc := to_states qs v w.heap.size X1 (Hr.out.later BB.out (Nat.le_refl _)) BB.out.size HL.out HS.out
  rw [hX1] at hc 
  go_wp2_with (go_at_call 39; refine hc.mono ?_; rintro e w4 ⟨g4, rs4, rfl, ho4, hm4, hb⟩; refine Hid.out ?_)
  refine Lib.hid ?_
  rw [← hX1] at hb ho4
  clear hX1
  replace KW := tkb hb LW KW
  replace LW := tlz LW hb.size
  replace B3 := tbt B3 hb
  replace SZ := Lib.hid (Nat.le_trans SZ.out hb.size)
  replace BB := tbt BB hb
  clear hc hb 
  have O4 := Lib.hid ho4
  have HM4 := Lib.hid hm4
  have NB : Hid (∀ b ∈ sqB rs4, X1.heap.size ≤ b ∧ b < w4.heap.size) := Lib.hid (sqB_lt ho4.own)
  have N4 : Hid (X1.heap.size ≤ g4 ∧ g4 < w4.heap.size) := Lib.hid ho4.glt
  have Z4 : Hid (X1.heap.size ≤ w4.heap.size) := SZ
  clear ho4 hm4
  have hc := impl_merge rs4 _ w4.heap.size w4 O4.out.stl (Nat.le_refl _) (by rw [len_same HM4.out]; exact HL.out) (fits_same HM4.out HF.out)
  rw [HM4.out, ← HM.out, ← HbM.out] at hc
  go_wp2_with (go_at_call 21; refine hc.mono ?_; rintro e w5 ⟨vG, rfl, hG, hb⟩; refine Hid.out ?_)
  refine Lib.hid ?_
  have Z45 : Hid (w4.heap.size ≤ w5.heap.size) := Lib.hid hb.size
  replace KW := tkb hb LW KW
  replace LW := tlz LW hb.size
  replace B3 := tbt B3 hb
  replace SZ := Lib.hid (Nat.le_trans SZ.out hb.size)
  replace O4 := Lib.hid (O4.out.later hb)
  replace BB := tbt BB hb
  clear hc hb 
  obtain ⟨ai, ni, ci, at_, nt, ct, rfl, hgo⟩ := mg_go hG
  rw [← HR.out] at hgo
  have G := Lib.hid hgo
  have Z5 := Z45
  clear hgo hG
  obtain ⟨X2, hX2⟩ : ∃ z, z = w5.alloc (.cells #[.slice ai ni ci, .slice at_ nt ct] 31) := ⟨_, rfl⟩
  have hb : Below w5.heap.size w5 X2 := by rw [hX2]; exact (Below.refl _ _).alloc (Nat.le_refl _) _
  replace KW := tkb hb LW KW
  replace LW := tlz LW hb.size
  replace B3 := tbt B3 hb
  replace SZ := Lib.hid (Nat.le_trans SZ.out hb.size)
  replace O4 := Lib.hid (O4.out.later hb)
  replace G := Lib.hid (G.out.later hb)
  replace BB := tbt BB hb
  have KG : Hid (X2.heap[w5.heap.size]? = some (.cells #[.slice ai ni ci, .slice at_ nt ct] 31 (0, 0))) := Lib.hid (by rw [hX2]; exact heap_new _ _)
  have LG : Hid (w5.heap.size < X2.heap.size) := Lib.hid (by rw [hX2]; simp)
  clear hb
  have NG := LG
  have hbb : (bM != bM) = false := by simp
  have hc := eq_state R _ _ X2.heap.size X2 G.out.rd (SW.out.later B3.out B3.out.size) (Nat.le_refl _)
  have fG0 := tcr KG 0
  have fG1 := tcr KG 1
  have fW0 := tcr KW 0
  have fW1 := tcr KW 1
  rw [hX2] at hc fG0 fG1 fW0 fW1
  go_wp2_with (go_at_call 34; refine hc.mono ?_; rintro e w6 ⟨rfl, hb⟩; refine Hid.out ?_)
  refine Lib.hid ?_
  rw [← hX2] at hb 
  clear hX2
  replace KW := tkb hb LW KW
  replace LW := tlz LW hb.size
  replace KG := tkb hb LG KG
  replace LG := tlz LG hb.size
  replace B3 := tbt B3 hb
  replace SZ := Lib.hid (Nat.le_trans SZ.out hb.size)
  replace O4 := Lib.hid (O4.out.later hb)
  replace G := Lib.hid (G.out.later hb)
  replace BB := tbt BB hb
  clear hc hb fG0 fG1 fW0 fW1
  have Z6 := LG
  have hc := to_states qs v w.heap.size w6 (Hr.out.later BB.out (Nat.le_refl _)) BB.out.size HL.out HS.out
  go_wp2_with (go_at_call 39; refine hc.mono ?_; rintro e w7 ⟨g7, rs7, rfl, ho7, hm7, hb⟩; refine Hid.out ?_)
  refine Lib.hid ?_
  replace KW := tkb hb LW KW
  replace LW := tlz LW hb.size
  replace KG := tkb hb LG KG
  replace LG := tlz LG hb.size
  replace B3 := tbt B3 hb
  replace SZ := Lib.hid (Nat.le_trans SZ.out hb.size)
  replace O4 := Lib.hid (O4.out.later hb)
  replace G := Lib.hid (G.out.later hb)
  replace BB := tbt BB hb
  clear hc hb 
  have N7 : Hid (w5.heap.size < g7 ∧ g7 < w7.heap.size) := Lib.hid (by have h := ho7.glt; have := Z6.out; omega)
  have hc := eq_states rs4 rs7 _ _ w7.heap.size w7 O4.out.rd ho7.rd (Nat.le_refl _) (by rw [HM4.out, hm7])
  go_wp2_with (go_at_call 33; refine hc.mono ?_; rintro e w8 ⟨rfl, hb⟩; refine Hid.out ?_)
  refine Lib.hid ?_
  have Z78 : Hid (w7.heap.size ≤ w8.heap.size) := Lib.hid hb.size
  replace KW := tkb hb LW KW
  replace LW := tlz LW hb.size
  replace KG := tkb hb LG KG
  replace LG := tlz LG hb.size
  replace B3 := tbt B3 hb
  replace SZ := Lib.hid (Nat.le_trans SZ.out hb.size)
  replace O4 := Lib.hid (O4.out.later hb)
  replace G := Lib.hid (G.out.later hb)
  replace BB := tbt BB hb
  clear hc hb 
  have N8 : Hid (g7 < w8.heap.size) := Lib.hid (Nat.lt_of_lt_of_le N7.out.2 Z78.out)
  clear ho7 hm7
  have hsum := sum_small rs4 (by rw [len_same HM4.out]; exact HL.out) (small_same HM4.out HS.out)
  have hc := mark_states _ 1 g4 _ X1.heap.size rs4 w8 (by omega) hsum O4.out SZ.out
  obtain ⟨T, hT⟩ : ∃ T, T = 1 + sumL rs4 := ⟨_, rfl⟩
  rw [← hT] at hc
  clear hT hsum
  go_wp2_with (go_at_call 36; refine hc.mono ?_; rintro e w9 ⟨rfl, _, hkp, hb⟩; refine Hid.out ?_)
  refine Lib.hid ?_
  have z1 := N1.out
  have z4 := Z4.out
  have z5 := Z5.out
  have zg := NG.out
  have hx3 : w3.heap.size ≤ X1.heap.size := by omega
  replace KW := Lib.hid ((hb.block _ z1).trans KW.out)
  replace LW := tlz LW hb.size
  replace KG := Lib.hid ((hkp _ LG.out (fun h => by have := NB.out _ h; omega)).trans KG.out)
  replace LG := tlz LG hb.size
  replace G := Lib.hid (G.out.moved hb.size (fun j h1 h2 => hkp j h2 (fun h => by have := NB.out _ h; omega)))
  replace B3 := Lib.hid (B3.out.trans (hb.mono hx3))
  have hx0 : w.heap.size ≤ X1.heap.size := Nat.le_trans BB3.out hx3
  replace BB := Lib.hid (BB.out.trans (hb.mono hx0))
  replace SZ := Lib.hid (Nat.le_trans SZ.out hb.size)
  replace N8 := tlz N8 hb.size
  clear hb hkp hc O4 hx0 z1 z4 z5 zg hx3
  have hT0 : decide ((T : Int) < 0) = false := by simp
  have hc := eq_state R _ _ w9.heap.size w9 G.out.rd (SW.out.later B3.out B3.out.size) (Nat.le_refl _)
  have fG0 := tcr KG 0
  have fG1 := tcr KG 1
  have fW0 := tcr KW 0
  have fW1 := tcr KW 1
  go_wp2_with (go_at_call 34; refine hc.mono ?_; rintro e w10 ⟨rfl, hb⟩; refine Hid.out ?_)
  refine Lib.hid ?_
  replace KW := tkb hb LW KW
  replace LW := tlz LW hb.size
  replace KG := tkb hb LG KG
  replace LG := tlz LG hb.size
  replace B3 := tbt B3 hb
  replace SZ := Lib.hid (Nat.le_trans SZ.out hb.size)
  replace G := Lib.hid (G.out.later hb)
  replace N8 := tlz N8 hb.size
  replace BB := tbt BB hb
  clear hc hb fG0 fG1 fW0 fW1
  obtain ⟨gi, gt, cs, ds, hne, hai, hat, gI, gT, hgi, hgt⟩ := G.out.pick (lo := X1.heap.size) (p := g4) (q := g7) (by have := N4.out; have := N7.out; have := Z5.out; omega) ⟨N4.out.1, by have := N4.out; have := Z5.out; have := LG.out; omega⟩ ⟨by have := N7.out; have := Z4.out; have := Z5.out; omega, N8.out⟩ Z4.out
  have HNE : Hid (w5.heap.size ≠ gi ∧ w5.heap.size ≠ gt ∧ X1.heap.size ≤ gi ∧ X1.heap.size ≤ gt) := Lib.hid ⟨by have := N4.out; have := Z5.out; omega, by have := N7.out; omega, gI.2.2.2.1, gT.2.2.2.1⟩
  have hnn : ni ≤ 40 ∧ nt ≤ 20 := ⟨by rw [G.out.1]; exact HRl.out.1, by rw [G.out.2.1]; exact HRl.out.2⟩
  have hc := mark_stateN ni nt 1 gi ci gt ct X1.heap.size ai at_ _ _ w10 (by omega) (by omega) hne hai hat gI gT
  have HAI := Lib.hid hai
  have HAT := Lib.hid hat
  have Hnn := Lib.hid hnn
  obtain ⟨ms, hmS⟩ : ∃ m, m = 1 + 2 * ni + 3 * nt := ⟨_, rfl⟩
  rw [← hmS] at hc
  have HmS := Lib.hid hmS
  clear hmS hne hai hat gI gT hgi hgt hnn
  have fG0 := tcr KG 0
  have fG1 := tcr KG 1
  go_wp2_with (go_at_call 35; refine hc.mono ?_; rintro e w11 ⟨rfl, gX, tX, ho⟩; refine Hid.out ?_)
  refine Lib.hid ?_
  have GX := Lib.hid gX
  have TX := Lib.hid tX
  clear gX tX hc G fG0 fG1
  have hne := HNE.out
  have z1 := N1.out
  have hs := ho.size
  obtain ⟨wo, go1, go2⟩ := id ho
  have hs1 := go1.size
  replace KW := Lib.hid ((ho.block LW.out (by omega) (by omega)).trans KW.out)
  replace KG := Lib.hid ((ho.block LG.out hne.1 hne.2.1).trans KG.out)
  replace LW := tlz LW hs
  replace LG := tlz LG hs
  replace B3 := Lib.hid ((B3.out.grown go1 B3.out.size (fun j e => by cases e; omega)).grown go2 (Nat.le_trans B3.out.size hs1) (fun j e => by cases e; omega))
  have z3 := BB3.out
  replace BB := Lib.hid ((BB.out.grown go1 BB.out.size (fun j e => by cases e; omega)).grown go2 (Nat.le_trans BB.out.size hs1) (fun j e => by cases e; omega))
  clear hs go1 go2 hs1 ho wo z1 z3 hne SZ N8 N7 N4
  have hm0 : decide ((ms : Int) < 0) = false := by simp
  have hmm : ((ms : Int) != (ms : Int)) = false := by simp
  have hc := held_stateN ni nt 1 gi ci gt ct X1.heap.size ai at_ w11 (by omega) (by have := Hnn.out; omega) HAI.out HAT.out GX.out TX.out
  rw [← HmS.out] at hc
  have fG0 := tcr KG 0
  have fG1 := tcr KG 1
  go_wp2_with (go_at_call 40; refine hc.mono ?_; rintro e w12 ⟨rfl, hb⟩; refine Hid.out ?_)
  refine Lib.hid ?_
  replace KW := tkb hb LW KW
  replace LW := tlz LW hb.size
  replace KG := tkb hb LG KG
  replace LG := tlz LG hb.size
  replace B3 := tbt B3 hb
  replace GX := Lib.hid (GX.out.later hb)
  replace TX := Lib.hid (TX.out.later hb)
  replace BB := tbt BB hb
  clear hc hb fG0 fG1
  have hc := to_states qs v w.heap.size w12 (Hr.out.later BB.out (Nat.le_refl _)) BB.out.size HL.out HS.out
  go_wp2_with (go_at_call 39; refine hc.mono ?_; rintro e w13 ⟨g13, rs13, rfl, ho13, hm13, hb⟩; refine Hid.out ?_)
  refine Lib.hid ?_
  replace KW := tkb hb LW KW
  replace LW := tlz LW hb.size
  replace KG := tkb hb LG KG
  replace LG := tlz LG hb.size
  replace B3 := tbt B3 hb
  replace GX := Lib.hid (GX.out.later hb)
  replace TX := Lib.hid (TX.out.later hb)
  replace BB := tbt BB hb
  clear hc hb 
  have hc := impl_merge rs13 _ w13.heap.size w13 ho13.stl (Nat.le_refl _) (by rw [len_same hm13]; exact HL.out) (fits_same hm13 HF.out)
  rw [hm13, ← HM.out, ← HbM.out] at hc
  go_wp2_with (go_at_call 21; refine hc.mono ?_; rintro e w14 ⟨vH, rfl, hH, hb⟩; refine Hid.out ?_)
  refine Lib.hid ?_
  replace KW := tkb hb LW KW
  replace LW := tlz LW hb.size
  replace KG := tkb hb LG KG
  replace LG := tlz LG hb.size
  replace B3 := tbt B3 hb
  replace GX := Lib.hid (GX.out.later hb)
  replace TX := Lib.hid (TX.out.later hb)
  replace BB := tbt BB hb
  clear hc hb 
  obtain ⟨ah, nh, ch, bh, mh, dh, rfl, hgo⟩ := mg_go hH
  rw [← HR.out] at hgo
  have GH := Lib.hid hgo
  clear hgo hH ho13 hm13
  obtain ⟨X3, hX3⟩ : ∃ z, z = w14.alloc (.cells #[.slice ah nh ch, .slice bh mh dh] 31) := ⟨_, rfl⟩
  have hb : Below w14.heap.size w14 X3 := by rw [hX3]; exact (Below.refl _ _).alloc (Nat.le_refl _) _
  replace KW := tkb hb LW KW
  replace LW := tlz LW hb.size
  replace KG := tkb hb LG KG
  replace LG := tlz LG hb.size
  replace B3 := tbt B3 hb
  replace GX := Lib.hid (GX.out.later hb)
  replace TX := Lib.hid (TX.out.later hb)
  replace GH := Lib.hid (GH.out.later hb)
  replace BB := tbt BB hb
  have KH : Hid (X3.heap[w14.heap.size]? = some (.cells #[.slice ah nh ch, .slice bh mh dh] 31 (0, 0))) := Lib.hid (by rw [hX3]; exact heap_new _ _)
  have LH : Hid (w14.heap.size < X3.heap.size) := Lib.hid (by rw [hX3]; simp)
  clear hb
  have hc := eq_state R _ _ X3.heap.size X3 GH.out.rd (SW.out.later B3.out B3.out.size) (Nat.le_refl _)
  have fH0 := tcr KH 0
  have fH1 := tcr KH 1
  have fW0 := tcr KW 0
  have fW1 := tcr KW 1
  rw [hX3] at hc fH0 fH1 fW0 fW1
  go_wp2_with (go_at_call 34; refine hc.mono ?_; rintro e w15 ⟨rfl, hb⟩; refine Hid.out ?_)
  refine Lib.hid ?_
  rw [← hX3] at hb 
  clear hX3
  replace KW := tkb hb LW KW
  replace LW := tlz LW hb.size
  replace KG := tkb hb LG KG
  replace LG := tlz LG hb.size
  replace KH := tkb hb LH KH
  replace LH := tlz LH hb.size
  replace B3 := tbt B3 hb
  replace GX := Lib.hid (GX.out.later hb)
  replace TX := Lib.hid (TX.out.later hb)
  replace GH := Lib.hid (GH.out.later hb)
  replace BB := tbt BB hb
  clear hc hb fH0 fH1 fW0 fW1
  have hc := held_stateN ni nt 1 gi ci gt ct X1.heap.size ai at_ w15 (by omega) (by have := Hnn.out; omega) HAI.out HAT.out GX.out TX.out
  rw [← HmS.out] at hc
  have fG0 := tcr KG 0
  have fG1 := tcr KG 1
  go_wp2_with (go_at_call 40; refine hc.mono ?_; rintro e w16 ⟨rfl, hb⟩; refine Hid.out ?_)
  refine Lib.hid ?_
  replace KW := tkb hb LW KW
  replace LW := tlz LW hb.size
  replace KG := tkb hb LG KG
  replace LG := tlz LG hb.size
  replace KH := tkb hb LH KH
  replace LH := tlz LH hb.size
  replace B3 := tbt B3 hb
  replace GX := Lib.hid (GX.out.later hb)
  replace TX := Lib.hid (TX.out.later hb)
  replace GH := Lib.hid (GH.out.later hb)
  replace BB := tbt BB hb
  clear hc hb fG0 fG1
  go_wp2_with fail
  go_ret
  exact ⟨rfl, BB.out⟩
end Go.Proofs.Ytebmaplflpfjbaa
