/- The exact law of Apart: the program answers as its model and keeps its argument. Condition: none beyond what the argument may be. -/
import Derived.Test.YtfhalcmpamnapaaBaseA
import Derived.Test.YtfhalcmpamnapaaApart
namespace Go.Proofs.Ytfhalcmpamnapaa
open Go.RowKit
set_option linter.unusedVariables false
set_option linter.unusedSimpArgs false

theorem RawL.keys {w : World} {B : Nat} {v : Value} {qs : List Sq} (h : RawL w B v qs) : ∀ q ∈ qs, ∀ x ∈ q.s.items, x.k.size ≤ maxLen := by
  intro q hq x hx
  obtain ⟨_, _, _, _, _, h3, _⟩ := h.2 q hq
  exact (h3 x hx).1
theorem keys_same {ps qs : List Sq} (h : ps.map Sq.s = qs.map Sq.s) (hf : ∀ q ∈ qs, ∀ x ∈ q.s.items, x.k.size ≤ maxLen) : ∀ q ∈ ps, ∀ x ∈ q.s.items, x.k.size ≤ maxLen := by
  intro q hq x hx
  have hm : q.s ∈ ps.map Sq.s := List.mem_map_of_mem hq
  rw [h] at hm
  obtain ⟨r, hr, e⟩ := List.mem_map.1 hm
  exact hf r hr x (by rw [e]; exact hx)
set_option maxHeartbeats 4000000 in
theorem law_apart (qs : List Sq) (v : Value) (w : World) (hr : RawL w w.heap.size v qs) :
    Calls Try.prog 10 #[v] w fun e w' => e = .returned (.bool true) ∧ Below w.heap.size w w' := by
  have hc0 := sz_states qs v w.heap.size 1048576 w hr (Nat.le_refl _) ⟨by omega, by omega⟩
  have Hr := Lib.hid hr
  have Hk := Lib.hid hr.keys
  clear hr
  go_enter Try.func10, Try.ntmps10
  go_wp2_with (go_at_call 38; refine hc0.mono ?_; rintro e w1 ⟨r, rfl, hr0, hr1, hr2, hb1⟩; refine Hid.out ?_)
  refine Lib.hid ?_
  by_cases hneg : r < 0
  · clear hr2 hc0
    go_wp2_with fail
    go_ret
    exact ⟨rfl, hb1⟩
  have H2 := Lib.hid (hr2 (by omega))
  have HL : Hid (qs.length ≤ 1048576) := Lib.hid (by have := H2.out.1; omega)
  have HS : Hid (∀ q ∈ qs, Small q.s 1048576) := Lib.hid (fun q hq => (H2.out.2 q hq).mono (by omega))
  have BB := Lib.hid hb1
  clear hr2 hb1 hc0
  have hc := to_states qs v w.heap.size w1 (Hr.out.later BB.out (Nat.le_refl _)) BB.out.size HL.out HS.out
  go_wp2_with (go_at_call 39; refine hc.mono ?_; rintro e w2 ⟨g2, rs2, rfl, ho2, hm2, hb2⟩; refine Hid.out ?_)
  refine Lib.hid ?_
  replace BB := tbt BB hb2
  have hc2 := spec_apart rs2 _ w2.heap.size w2 ho2.rd (Nat.le_refl _) (keys_same hm2 Hk.out)
  rw [hm2] at hc2
  clear hc hb2 ho2 hm2
  go_wp2_with (go_at_call 27; refine hc2.mono ?_; rintro e w2' ⟨rfl, rfl⟩; refine Hid.out ?_)
  refine Lib.hid ?_
  clear hc2
  have hc := to_states qs v w.heap.size w2 (Hr.out.later BB.out (Nat.le_refl _)) BB.out.size HL.out HS.out
  go_wp2_with (go_at_call 39; refine hc.mono ?_; rintro e w3 ⟨g3, rs3, rfl, ho3, hm3, hb3⟩; refine Hid.out ?_)
  refine Lib.hid ?_
  replace BB := tbt BB hb3
  have hc2 := impl_apart rs3 _ w3.heap.size w3 ho3.rd (Nat.le_refl _) (keys_same hm3 Hk.out)
  rw [hm3] at hc2
  have HO3 := Lib.hid ho3
  have HM3 := Lib.hid hm3
  clear hc hb3 ho3 hm3
  go_wp2_with (go_at_call 22; refine hc2.mono ?_; rintro e w4 ⟨rfl, hb4⟩; refine Hid.out ?_)
  refine Lib.hid ?_
  replace BB := tbt BB hb4
  replace HO3 := Lib.hid (HO3.out.later hb4)
  clear hc2 hb4
  generalize apartB (qs.map Sq.s) = bb
  have hbb : (bb != bb) = false := by simp
  have hc := to_states qs v w.heap.size w4 (Hr.out.later BB.out (Nat.le_refl _)) BB.out.size HL.out HS.out
  go_wp2_with (go_at_call 39; refine hc.mono ?_; rintro e w5 ⟨g5, rs5, rfl, ho5, hm5, hb5⟩; refine Hid.out ?_)
  refine Lib.hid ?_
  replace BB := tbt BB hb5
  have hc2 := eq_states rs3 rs5 _ _ w5.heap.size w5 (HO3.out.later hb5).rd ho5.rd (Nat.le_refl _) (by rw [HM3.out, hm5])
  clear hc hb5 ho5 hm5
  go_wp2_with (go_at_call 33; refine hc2.mono ?_; rintro e w6 ⟨rfl, hb6⟩)
  go_ret
  exact ⟨rfl, BB.out.trans (hb6.mono BB.out.size)⟩
end Go.Proofs.Ytfhalcmpamnapaa
