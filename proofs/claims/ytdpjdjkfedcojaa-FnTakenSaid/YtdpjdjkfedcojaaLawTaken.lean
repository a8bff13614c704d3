/- The law FnTaken: what isn't taken whole tells nothing. Condition: none. -/
import Derived.Test.YtdpjdjkfedcojaaCurA
import Derived.Test.YtdpjdjkfedcojaaDrawTk2
import Derived.Test.YtdpjdjkfedcojaaImplTaken
import Derived.Test.YtdpjdjkfedcojaaSpecTaken
import Derived.Test.YtdpjdjkfedcojaaSpecSame
import Derived.Test.YtdpjdjkfedcojaaVerUp
import Derived.Test.YtdpjdjkfedcojaaImplState
import Derived.Test.YtdpjdjkfedcojaaBaseA
namespace Go.Proofs.Ytdpjdjkfedcojaa
open Go.RowKit
set_option linter.unusedVariables false
set_option linter.unusedSimpArgs false

theorem taken_facts {t : Tkr} (h : (takenS t).2 = true) : t.nx = t.of + 1 ∧ t.of ≤ 600 ∧ 1 ≤ t.of ∧ stOk (takenS t).1 = true ∧ 0 < (decS t.b).2 := by
  obtain ⟨h1, h2, h3, h4⟩ := taken_yes h
  have hok : tkrOk t = true ∧ ¬ t.of = 0 := by
    unfold takenS at h
    split at h
    · cases h
    · rename_i q1
      split at h
      · cases h
      · rename_i q2
        exact ⟨by simpa using q1, q2⟩
  have h5 := tkr_in hok.1 hok.2
  refine ⟨h1, by omega, by omega, ?_, h4⟩
  rw [h2]
  exact (dec_fmt h3).2.1
theorem taken_no {t : Tkr} (h : (takenS t).2 = false) : (takenS t).1 = ⟨[], []⟩ := by
  unfold takenS at h ⊢
  split
  · rfl
  · rename_i q1
    split
    · rfl
    · rename_i q2
      split
      · rfl
      · rename_i q3
        rw [if_neg q1, if_neg q2, if_neg q3] at h
        dsimp only at h ⊢
        by_cases h0 : (decS t.b).2 = 0
        · exact dec_zero (fun q => q h0)
        · have h5 := inB_true (dec_fmt h0).2.2
          have : ¬ 0 < (decS t.b).2 := of_decide_eq_false h
          omega
set_option maxRecDepth 100000 in
set_option maxHeartbeats 8000000 in
theorem law_taken (a : Option Addr) (len cap : Nat) (zs : List Int) (w : World) (hr : IsRow .u8 w a len cap zs) :
    Calls Try.prog 4 #[.slice a len cap] w fun e w' => e = .returned (.bool true) ∧ Below w.heap.size w w' := by
  have hr := row8_of hr
  by_cases hbig : 1048576 < len
  · have hd : decide (1048576 < len) = true := by simpa using hbig
    go_enter Try.func4, Try.ntmps4
    go_wp2_with (go_at_call 9; refine (big_any _ _ _ _).mono ?_; rintro e w' ⟨rfl, rfl⟩)
    go_ret
    exact ⟨rfl, Below.refl _ _⟩
  have hd : decide (1048576 < len) = false := by simpa using hbig
  have hlen : len ≤ 1048576 := by omega
  have Hr8 := Lib.hid hr
  have BB : Hid (Below w.heap.size w w) := Lib.hid (Below.refl _ _)
  go_enter Try.func4, Try.ntmps4
  go_wp2_with (go_at_call 9; refine (big_any _ _ _ _).mono ?_; rintro e w' ⟨rfl, rfl⟩; refine Hid.out ?_)
  refine Lib.hid ?_
  clear hd hbig hr
  have hc := drawDrawTaken_any a len cap zs w Hr8.out hlen
  go_wp2_with (go_at_call 16; refine hc.mono ?_; rintro e w1 ⟨t, rfl, hf, hbz, hb⟩; refine Hid.out ?_)
  refine Lib.hid ?_
  have HY := fun h => taken_facts (t := t) h
  have HNo := fun h => taken_no (t := t) h
  have ki := fun w => impl_taken t w hf (by omega)
  have ks := fun w => spec_taken t w hf (by omega)
  have kv := fun w => impl_versionOf t.b w (by omega)
  obtain ⟨R, hR⟩ : ∃ x, x = (takenS t).1 := ⟨_, rfl⟩
  obtain ⟨q, hq⟩ : ∃ x, x = (takenS t).2 := ⟨_, rfl⟩
  obtain ⟨dv, hdv⟩ : ∃ x, x = (decS t.b).2 := ⟨_, rfl⟩
  rw [← hR, ← hq] at ki ks
  rw [← hR, ← hq, ← hdv] at HY
  rw [← hR, ← hq] at HNo
  rw [← hdv] at kv
  clear hR hq hdv hf hc
  obtain ⟨mo, mn, mc, mb⟩ := t
  unfold tkrV at ki ks
  dsimp only at HY HNo ki ks kv hbz
  replace BB := Lib.hid hb
  have HY := Lib.hid HY
  have HNo := Lib.hid HNo
  clear hb
  obtain ⟨X1, hX1⟩ : ∃ z, z = w1.alloc (.cells #[.int .i64 mo, .int .i64 mn, .int .i64 mc, .string mb] 25) := ⟨_, rfl⟩
  have hb : Below w1.heap.size w1 X1 := by rw [hX1]; exact (Below.refl _ _).alloc (Nat.le_refl _) _
  replace BB := tbt BB hb
  have KT : Hid (X1.heap[w1.heap.size]? = some (.cells #[.int .i64 mo, .int .i64 mn, .int .i64 mc, .string mb] 25 (0, 0))) := Lib.hid (by rw [hX1]; exact heap_new _ _)
  have LT : Hid (w1.heap.size < X1.heap.size) := Lib.hid (by rw [hX1]; simp)
  clear hb
  have hc := ki X1
  have fT0 := tcr KT 0
  have fT1 := tcr KT 1
  have fT2 := tcr KT 2
  have fT3 := tcr KT 3
  rw [hX1] at hc fT0 fT1 fT2 fT3
  go_wp2_with (go_at_call 17; refine hc.mono ?_; rintro e w2 ⟨vG, rfl, hG, hb⟩; refine Hid.out ?_)
  refine Lib.hid ?_
  rw [← hX1] at hb hG
  clear hX1
  replace KT := tkb hb LT KT
  replace LT := tlz LT hb.size
  replace BB := tbt BB hb
  clear hc hb fT0 fT1 fT2 fT3
  obtain ⟨aG, cG, bG, dG, rfl⟩ := hG.two
  have SG := Lib.hid hG.st.rd
  have SGv := Lib.hid hG.st
  clear hG
  obtain ⟨X2, hX2⟩ : ∃ z, z = w2.alloc (.cells #[.slice aG R.items.length cG, .slice bG R.talks.length dG] 35) := ⟨_, rfl⟩
  have hb : Below w2.heap.size w2 X2 := by rw [hX2]; exact (Below.refl _ _).alloc (Nat.le_refl _) _
  replace KT := tkb hb LT KT
  replace LT := tlz LT hb.size
  replace SG := Lib.hid (SG.out.later hb hb.size)
  replace SGv := Lib.hid (SGv.out.later hb hb.size)
  replace BB := tbt BB hb
  have KG : Hid (X2.heap[w2.heap.size]? = some (.cells #[.slice aG R.items.length cG, .slice bG R.talks.length dG] 35 (0, 0))) := Lib.hid (by rw [hX2]; exact heap_new _ _)
  have LG : Hid (w2.heap.size < X2.heap.size) := Lib.hid (by rw [hX2]; simp)
  clear hb
  have hc := ks X2
  have fT0 := tcr KT 0
  have fT1 := tcr KT 1
  have fT2 := tcr KT 2
  have fT3 := tcr KT 3
  rw [hX2] at hc fT0 fT1 fT2 fT3
  go_wp2_with (go_at_call 18; refine hc.mono ?_; rintro e w3 ⟨vW, rfl, hW, hb⟩; refine Hid.out ?_)
  refine Lib.hid ?_
  rw [← hX2] at hb hW
  clear hX2
  replace KT := tkb hb LT KT
  replace LT := tlz LT hb.size
  replace KG := tkb hb LG KG
  replace LG := tlz LG hb.size
  replace SG := Lib.hid (SG.out.later hb hb.size)
  replace SGv := Lib.hid (SGv.out.later hb hb.size)
  replace BB := tbt BB hb
  clear hc hb fT0 fT1 fT2 fT3
  obtain ⟨aW, cW, bW, dW, rfl⟩ := hW.two
  have SW := Lib.hid hW.st.rd
  clear hW
  obtain ⟨X3, hX3⟩ : ∃ z, z = w3.alloc (.cells #[.slice aW R.items.length cW, .slice bW R.talks.length dW] 35) := ⟨_, rfl⟩
  have hb : Below w3.heap.size w3 X3 := by rw [hX3]; exact (Below.refl _ _).alloc (Nat.le_refl _) _
  replace KT := tkb hb LT KT
  replace LT := tlz LT hb.size
  replace KG := tkb hb LG KG
  replace LG := tlz LG hb.size
  replace SG := Lib.hid (SG.out.later hb hb.size)
  replace SGv := Lib.hid (SGv.out.later hb hb.size)
  replace SW := Lib.hid (SW.out.later hb hb.size)
  replace BB := tbt BB hb
  have KW : Hid (X3.heap[w3.heap.size]? = some (.cells #[.slice aW R.items.length cW, .slice bW R.talks.length dW] 35 (0, 0))) := Lib.hid (by rw [hX3]; exact heap_new _ _)
  have LW : Hid (w3.heap.size < X3.heap.size) := Lib.hid (by rw [hX3]; simp)
  clear hb
  have hqq : (q != q) = false := by simp
  have hc := spec_same R R _ _ X3.heap.size X3 SG.out SW.out (Nat.le_refl _)
  have fG0 := tcr KG 0
  have fG1 := tcr KG 1
  have fW0 := tcr KW 0
  have fW1 := tcr KW 1
  rw [hX3] at hc fG0 fG1 fW0 fW1
  go_wp2_with (go_at_call 19; refine hc.mono ?_; rintro e w4 ⟨bb, rfl, hbe, hb⟩; refine Hid.out ?_)
  refine Lib.hid ?_
  rw [← hX3] at hb 
  clear hX3
  replace KT := tkb hb LT KT
  replace LT := tlz LT hb.size
  replace KG := tkb hb LG KG
  replace LG := tlz LG hb.size
  replace KW := tkb hb LW KW
  replace LW := tlz LW hb.size
  replace SG := Lib.hid (SG.out.later hb hb.size)
  replace SGv := Lib.hid (SGv.out.later hb hb.size)
  replace SW := Lib.hid (SW.out.later hb hb.size)
  replace BB := tbt BB hb
  clear hc hb fG0 fG1 fW0 fW1
  obtain rfl : bb = true := hbe.2 (by first | trivial | rfl)
  clear hbe
  cases q
  · have hR0 := HNo.out rfl
    have hl1 : R.items.length = 0 := by rw [hR0]; rfl
    have hl2 : R.talks.length = 0 := by rw [hR0]; rfl
    rw [hl1, hl2] at KG
    clear hR0 hl1 hl2
    have fG0 := tcr KG 0
    have fG1 := tcr KG 1
    go_wp2_with fail
    go_ret
    exact ⟨rfl, BB.out⟩
  obtain ⟨y1, y2, y3, y4, y5⟩ := HY.out rfl
  have Y4 := Lib.hid y4
  have hwt : IntKind.i64.wrap (mo + 1) = mo + 1 := by rw [IntKind.wrap_i64] <;> omega
  have hen : (mn == mo + 1) = true := by rw [y1]; simp
  have hdp : decide (0 < dv) = true := decide_eq_true y5
  clear y1 y2 y3 y4 y5
  have hc := impl_stateOk R _ w4.heap.size w4 SGv.out (Nat.le_refl _) (good_fits2 Y4.out)
  rw [Y4.out] at hc
  have fG0 := tcr KG 0
  have fG1 := tcr KG 1
  have fT0 := tcr KT 0
  have fT1 := tcr KT 1
  have fT2 := tcr KT 2
  have fT3 := tcr KT 3
  go_wp2_with (go_at_call 20; refine hc.mono ?_; rintro e w5 ⟨rfl, hb⟩; refine Hid.out ?_)
  refine Lib.hid ?_
  replace KT := tkb hb LT KT
  replace LT := tlz LT hb.size
  replace KG := tkb hb LG KG
  replace LG := tlz LG hb.size
  replace KW := tkb hb LW KW
  replace LW := tlz LW hb.size
  replace SG := Lib.hid (SG.out.later hb hb.size)
  replace SGv := Lib.hid (SGv.out.later hb hb.size)
  replace SW := Lib.hid (SW.out.later hb hb.size)
  replace BB := tbt BB hb
  clear hc hb fG0 fG1 fT0 fT1 fT2 fT3
  have hc := kv w5
  have fT0 := tcr KT 0
  have fT1 := tcr KT 1
  have fT2 := tcr KT 2
  have fT3 := tcr KT 3
  go_wp2_with (go_at_call 21; refine hc.mono ?_; rintro e w6 ⟨rfl, hb⟩; refine Hid.out ?_)
  refine Lib.hid ?_
  replace KT := tkb hb LT KT
  replace LT := tlz LT hb.size
  replace KG := tkb hb LG KG
  replace LG := tlz LG hb.size
  replace KW := tkb hb LW KW
  replace LW := tlz LW hb.size
  replace SG := Lib.hid (SG.out.later hb hb.size)
  replace SGv := Lib.hid (SGv.out.later hb hb.size)
  replace SW := Lib.hid (SW.out.later hb hb.size)
  replace BB := tbt BB hb
  clear hc hb fT0 fT1 fT2 fT3
  go_wp2_with fail
  go_ret
  exact ⟨rfl, BB.out⟩
end Go.Proofs.Ytdpjdjkfedcojaa
