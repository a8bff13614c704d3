/- container/heap's Pop over the program's heap of codes: it answers the first code. Condition: at most fifty codes. -/
import Derived.Test.YtdpjdjkfedcojaaBaseA
import Derived.Test.YtdpjdjkfedcojaaHeapUp
namespace Go.Proofs.Ytdpjdjkfedcojaa
open Go.RowKit
set_option linter.unusedVariables false
set_option linter.unusedSimpArgs false
/-- Something true or false is answered. -/
def ABool (e : Ending) : Prop := ∃ r : Bool, e = .returned (.bool r)
theorem swp_keep {zs : List Int} {i j n : Nat} (hi : i < zs.length) (hj : j < zs.length) (h1 : i ≠ n) (h2 : j ≠ n) : (swp zs i j).getD n 0 = zs.getD n 0 := by rw [swp_at hi hj, if_neg (fun h => h2 h.symm), if_neg (fun h => h1 h.symm)]
set_option maxRecDepth 100000 in
set_option maxHeartbeats 8000000 in
theorem heap_down (zs0 : List Int) (x : Int) (B h g cap n : Nat) (w : World) (hp : Hp w B h g cap zs0) (hl : zs0.length ≤ 50) (hB : B ≤ w.heap.size) (hn : n < zs0.length) (hx : zs0.getD n 0 = x) :
    Calls Try.prog 108 #[.iface 65 (.pointer (some ⟨h, 0, none⟩)), .int .i64 0, .int .i64 n] w fun e w' => ABool e ∧ (∃ zs, Hp w' B h g cap zs ∧ zs.length = zs0.length ∧ zs.getD n 0 = x) ∧ Below B w w' := by
  have HNL := Lib.hid hn
  have hn50 : n < 50 := by omega
  clear hn
  go_enter Try.func108, Try.ntmps108
  go_wp2_with fail
  go_loopw [7] (fun iv wr => ∃ (i : Nat) (zs : List Int), i ≤ n ∧ iv = .int .i64 i ∧ Hid (Hp wr B h g cap zs) ∧ Hid (zs.length = zs0.length) ∧ Hid (zs.getD n 0 = x) ∧ Hid (Below B w wr)) (fun iv _ => n - (intOf iv).toNat)
  case atStart => exact ⟨0, zs0, Nat.zero_le _, rfl, Lib.hid hp, Lib.hid rfl, Lib.hid hx, Lib.hid (Below.refl _ _)⟩
  case round =>
    obtain ⟨i, zs, hin, rfl, HP, HL, HX, BW⟩ := hrel
    clear hp hx
    obtain ⟨a, ha⟩ : ∃ a, a = 2 * i := ⟨_, rfl⟩
    obtain ⟨b, hb⟩ : ∃ b, b = a + 1 := ⟨_, rfl⟩
    obtain ⟨c, hc⟩ : ∃ c, c = b + 1 := ⟨_, rfl⟩
    have hw1 : IntKind.i64.wrap (2 * (i : Int)) = (a : Int) := by rw [IntKind.wrap_i64]; omega
    have hw2 : IntKind.i64.wrap ((a : Int) + 1) = (b : Int) := by rw [IntKind.wrap_i64]; omega
    have hw3 : IntKind.i64.wrap ((b : Int) + 1) = (c : Int) := by rw [IntKind.wrap_i64]; omega
    have hb0 : ¬ (b : Int) < 0 := by omega
    have hib : Hid (i < b) := Lib.hid (by omega)
    have hbc : Hid (b < c) := Lib.hid (by omega)
    have HLN : Hid (n < zs.length) := Lib.hid (by rw [HL.out]; exact HNL.out)
    have H50 : Hid (zs.length ≤ 50) := Lib.hid (by rw [HL.out]; exact hl)
    clear ha hb hc hl
    by_cases h1 : (n : Int) ≤ (b : Int)
    · have d1 : decide ((n : Int) ≤ (b : Int)) = true := decide_eq_true h1
      go_wp2_with fail
      go_ret
      exact ⟨⟨_, rfl⟩, ⟨zs, HP.out, HL.out, HX.out⟩, BW.out⟩
    have d1 : decide ((n : Int) ≤ (b : Int)) = false := decide_eq_false h1
    have d2 : decide ((b : Int) < 0) = false := decide_eq_false hb0
    have hbn : b < n := by omega
    obtain ⟨k1, k2, k3, k4⟩ := HP.out
    have KH := Lib.hid k1
    have GT := Lib.hid k4
    have LH : Hid (h < wr.heap.size) := Lib.hid (Array.getElem?_eq_some_iff.1 k1).1
    have hBr : Hid (B ≤ wr.heap.size) := Lib.hid (Nat.le_trans hB BW.out.size)
    clear k1 k4 hb0
    obtain ⟨l, hl⟩ : ∃ l, l = zs.length := ⟨_, rfl⟩
    have HLL := Lib.hid hl
    rw [← hl] at KH
    clear hl
    have hless := fun (p q : Nat) (r : Bool) (w1 : World) (hb1 : Below wr.heap.size wr w1) (hp : p < zs.length) (hq : q < zs.length) (hr : decide (zs.getD q 0 < zs.getD p 0) = r) => (show Calls Try.prog 146 #[.slice (some ⟨g, 0, none⟩) l cap, .int .i64 p, .int .i64 q] w1 fun e w' => e = .returned (.bool r) ∧ Below w1.heap.size w1 w' from by rw [HLL.out, ← hr]; exact codes_less zs B g cap p q w1 (GT.out.later hb1) hp hq (by have := H50.out; omega))
    have hswap := fun (p q : Nat) (w1 : World) (hb1 : Below wr.heap.size wr w1) (hp : p < zs.length) (hq : q < zs.length) => (show Calls Try.prog 149 #[.slice (some ⟨g, 0, none⟩) l cap, .int .i64 p, .int .i64 q] w1 fun e w' => e = .returned (.tuple #[]) ∧ Got w' B 3 1 g zs.length cap ((swp zs p q).map (Value.int .i64)) ∧ w1.grownBy w' (some g) from by rw [HLL.out]; exact codes_swap zs B g cap p q w1 (GT.out.later hb1) hp hq (by have := H50.out; omega))
    have hcell : Hid (∀ w1, Below wr.heap.size wr w1 → w1.cell? ⟨h, 0, none⟩ = some (.slice (some ⟨g, 0, none⟩) l cap)) := Lib.hid (fun w1 hb => tcr (tkb hb LH KH) 0)
    clear hin d1 d2
    have BR : Hid (Below wr.heap.size wr wr) := Lib.hid (Below.refl _ _)
    by_cases h2 : (c : Int) < (n : Int)
    · have hcn : c < n := by omega
      cases hr1 : decide (zs.getD b 0 < zs.getD c 0)
      · skip
        have hms := m_less h _ wr (hcell.out wr BR.out)
        have hc := hless c b false wr BR.out (by have := HLN.out; omega) (by have := HLN.out; have := hib.out; omega) (hr1)
        go_wp2_with (go_at_call 146; refine hc.mono ?_; rintro e w1 ⟨rfl, hb1⟩; refine Hid.out ?_)
        refine Lib.hid ?_
        replace BR := tbt BR hb1
        clear hc hms hb1
        have hjn : b < n := by omega
        have hij : Hid (i < b) := Lib.hid (by have := hib.out; have := hbc.out; omega)
        cases hr2 : decide (zs.getD i 0 < zs.getD b 0)
        · skip
          have hms := m_less h _ w1 (hcell.out w1 BR.out)
          have hc := hless b i false w1 BR.out (by have := HLN.out; omega) (by have := HLN.out; have := hib.out; omega) (hr2)
          go_wp2_with (go_at_call 146; refine hc.mono ?_; rintro e w2 ⟨rfl, hb1⟩; refine Hid.out ?_)
          refine Lib.hid ?_
          replace BR := tbt BR hb1
          clear hc hms hb1
          have HP2 := Lib.hid (HP.out.later BR.out)
          have BW2 := Lib.hid (BW.out.trans (BR.out.mono hBr.out))
          clear hless hswap hcell
          go_wp2_with fail
          go_ret
          exact ⟨⟨_, rfl⟩, ⟨zs, HP2.out, HL.out, HX.out⟩, BW2.out⟩
        · skip
          have hms := m_less h _ w1 (hcell.out w1 BR.out)
          have hc := hless b i true w1 BR.out (by have := HLN.out; omega) (by have := HLN.out; have := hib.out; omega) (hr2)
          go_wp2_with (go_at_call 146; refine hc.mono ?_; rintro e w2 ⟨rfl, hb1⟩; refine Hid.out ?_)
          refine Lib.hid ?_
          replace BR := tbt BR hb1
          clear hc hms hb1
          have hms := m_swap h _ w2 (hcell.out w2 BR.out)
          have hc := hswap i b w2 BR.out (by have := HLN.out; have := hij.out; omega) (by have := HLN.out; omega)
          have KH1 := tkb BR.out LH KH
          have LH1 := tlz LH BR.out.size
          have GT1 := Lib.hid (GT.out.later BR.out)
          have BW1 := Lib.hid (BW.out.trans (BR.out.mono hBr.out))
          clear hless hswap hcell
          go_wp2_with (go_at_call 149; refine hc.mono ?_; rintro e w3 ⟨rfl, got2, gr2⟩; refine Hid.out ?_)
          refine Lib.hid ?_
          have KH2 := tkg gr2 LH1 KH1 (by simp; omega)
          have BW2 := Lib.hid (BW1.out.grown gr2 (Nat.le_trans hB BW1.out.size) (fun k ek => by cases ek; exact GT1.out.2.2.2.1))
          have HP2 : Hid (Hp w3 B h g cap (swp zs i b)) := Lib.hid (by
            unfold Hp
            rw [swp_len, ← HLL.out]
            exact ⟨KH2.out, k2, k3, by rw [HLL.out]; exact got2⟩)
          have HL2 := Lib.hid (show (swp zs i b).length = zs0.length by rw [swp_len]; exact HL.out)
          have HX2 : Hid ((swp zs i b).getD n 0 = x) := Lib.hid (by rw [swp_keep (by have := HLN.out; have := hij.out; omega) (by have := HLN.out; omega) (by have := hij.out; omega) (by omega)]; exact HX.out)
          clear hc hms got2 gr2 KH2 KH1 LH1 BW1 GT1
          go_wp2_with fail
          go_roundw
          case rel => exact ⟨b, _, by omega, by go_num, HP2, HL2, HX2, BW2⟩
          case measure => simp [intOf]; have := hij.out; omega
      · skip
        have hms := m_less h _ wr (hcell.out wr BR.out)
        have hc := hless c b true wr BR.out (by have := HLN.out; omega) (by have := HLN.out; have := hib.out; omega) (hr1)
        go_wp2_with (go_at_call 146; refine hc.mono ?_; rintro e w1 ⟨rfl, hb1⟩; refine Hid.out ?_)
        refine Lib.hid ?_
        replace BR := tbt BR hb1
        clear hc hms hb1
        have hjn : c < n := by omega
        have hij : Hid (i < c) := Lib.hid (by have := hib.out; have := hbc.out; omega)
        cases hr2 : decide (zs.getD i 0 < zs.getD c 0)
        · skip
          have hms := m_less h _ w1 (hcell.out w1 BR.out)
          have hc := hless c i false w1 BR.out (by have := HLN.out; omega) (by have := HLN.out; have := hib.out; omega) (hr2)
          go_wp2_with (go_at_call 146; refine hc.mono ?_; rintro e w2 ⟨rfl, hb1⟩; refine Hid.out ?_)
          refine Lib.hid ?_
          replace BR := tbt BR hb1
          clear hc hms hb1
          have HP2 := Lib.hid (HP.out.later BR.out)
          have BW2 := Lib.hid (BW.out.trans (BR.out.mono hBr.out))
          clear hless hswap hcell
          go_wp2_with fail
          go_ret
          exact ⟨⟨_, rfl⟩, ⟨zs, HP2.out, HL.out, HX.out⟩, BW2.out⟩
        · skip
          have hms := m_less h _ w1 (hcell.out w1 BR.out)
          have hc := hless c i true w1 BR.out (by have := HLN.out; omega) (by have := HLN.out; have := hib.out; omega) (hr2)
          go_wp2_with (go_at_call 146; refine hc.mono ?_; rintro e w2 ⟨rfl, hb1⟩; refine Hid.out ?_)
          refine Lib.hid ?_
          replace BR := tbt BR hb1
          clear hc hms hb1
          have hms := m_swap h _ w2 (hcell.out w2 BR.out)
          have hc := hswap i c w2 BR.out (by have := HLN.out; have := hij.out; omega) (by have := HLN.out; omega)
          have KH1 := tkb BR.out LH KH
          have LH1 := tlz LH BR.out.size
          have GT1 := Lib.hid (GT.out.later BR.out)
          have BW1 := Lib.hid (BW.out.trans (BR.out.mono hBr.out))
          clear hless hswap hcell
          go_wp2_with (go_at_call 149; refine hc.mono ?_; rintro e w3 ⟨rfl, got2, gr2⟩; refine Hid.out ?_)
          refine Lib.hid ?_
          have KH2 := tkg gr2 LH1 KH1 (by simp; omega)
          have BW2 := Lib.hid (BW1.out.grown gr2 (Nat.le_trans hB BW1.out.size) (fun k ek => by cases ek; exact GT1.out.2.2.2.1))
          have HP2 : Hid (Hp w3 B h g cap (swp zs i c)) := Lib.hid (by
            unfold Hp
            rw [swp_len, ← HLL.out]
            exact ⟨KH2.out, k2, k3, by rw [HLL.out]; exact got2⟩)
          have HL2 := Lib.hid (show (swp zs i c).length = zs0.length by rw [swp_len]; exact HL.out)
          have HX2 : Hid ((swp zs i c).getD n 0 = x) := Lib.hid (by rw [swp_keep (by have := HLN.out; have := hij.out; omega) (by have := HLN.out; omega) (by have := hij.out; omega) (by omega)]; exact HX.out)
          clear hc hms got2 gr2 KH2 KH1 LH1 BW1 GT1
          go_wp2_with fail
          go_roundw
          case rel => exact ⟨c, _, by omega, by go_num, HP2, HL2, HX2, BW2⟩
          case measure => simp [intOf]; have := hij.out; omega
    · skip
      have hjn : b < n := by omega
      have hij : Hid (i < b) := Lib.hid (by have := hib.out; have := hbc.out; omega)
      cases hr2 : decide (zs.getD i 0 < zs.getD b 0)
      · skip
        have hms := m_less h _ wr (hcell.out wr BR.out)
        have hc := hless b i false wr BR.out (by have := HLN.out; omega) (by have := HLN.out; have := hib.out; omega) (hr2)
        go_wp2_with (go_at_call 146; refine hc.mono ?_; rintro e w1 ⟨rfl, hb1⟩; refine Hid.out ?_)
        refine Lib.hid ?_
        replace BR := tbt BR hb1
        clear hc hms hb1
        have HP2 := Lib.hid (HP.out.later BR.out)
        have BW2 := Lib.hid (BW.out.trans (BR.out.mono hBr.out))
        clear hless hswap hcell
        go_wp2_with fail
        go_ret
        exact ⟨⟨_, rfl⟩, ⟨zs, HP2.out, HL.out, HX.out⟩, BW2.out⟩
      · skip
        have hms := m_less h _ wr (hcell.out wr BR.out)
        have hc := hless b i true wr BR.out (by have := HLN.out; omega) (by have := HLN.out; have := hib.out; omega) (hr2)
        go_wp2_with (go_at_call 146; refine hc.mono ?_; rintro e w1 ⟨rfl, hb1⟩; refine Hid.out ?_)
        refine Lib.hid ?_
        replace BR := tbt BR hb1
        clear hc hms hb1
        have hms := m_swap h _ w1 (hcell.out w1 BR.out)
        have hc := hswap i b w1 BR.out (by have := HLN.out; have := hij.out; omega) (by have := HLN.out; omega)
        have KH1 := tkb BR.out LH KH
        have LH1 := tlz LH BR.out.size
        have GT1 := Lib.hid (GT.out.later BR.out)
        have BW1 := Lib.hid (BW.out.trans (BR.out.mono hBr.out))
        clear hless hswap hcell
        go_wp2_with (go_at_call 149; refine hc.mono ?_; rintro e w2 ⟨rfl, got2, gr2⟩; refine Hid.out ?_)
        refine Lib.hid ?_
        have KH2 := tkg gr2 LH1 KH1 (by simp; omega)
        have BW2 := Lib.hid (BW1.out.grown gr2 (Nat.le_trans hB BW1.out.size) (fun k ek => by cases ek; exact GT1.out.2.2.2.1))
        have HP2 : Hid (Hp w2 B h g cap (swp zs i b)) := Lib.hid (by
          unfold Hp
          rw [swp_len, ← HLL.out]
          exact ⟨KH2.out, k2, k3, by rw [HLL.out]; exact got2⟩)
        have HL2 := Lib.hid (show (swp zs i b).length = zs0.length by rw [swp_len]; exact HL.out)
        have HX2 : Hid ((swp zs i b).getD n 0 = x) := Lib.hid (by rw [swp_keep (by have := HLN.out; have := hij.out; omega) (by have := HLN.out; omega) (by have := hij.out; omega) (by omega)]; exact HX.out)
        clear hc hms got2 gr2 KH2 KH1 LH1 BW1 GT1
        go_wp2_with fail
        go_roundw
        case rel => exact ⟨b, _, by omega, by go_num, HP2, HL2, HX2, BW2⟩
        case measure => simp [intOf]; have := hij.out; omega
set_option maxRecDepth 100000 in
set_option maxHeartbeats 4000000 in
theorem heap_pop (zs : List Int) (x : Int) (B h g cap : Nat) (w : World) (hp : Hp w B h g cap zs) (hl : zs.length ≤ 40) (hB : B ≤ w.heap.size) (h0 : 0 < zs.length) (hx : zs.getD 0 0 = x) :
    Calls Try.prog 77 #[.iface 65 (.pointer (some ⟨h, 0, none⟩))] w fun e w' => e = .returned (.iface 3 (.int .i64 x)) ∧ Below B w w' := by
  obtain ⟨k1, k2, k3, k4⟩ := hp
  obtain ⟨n, hn⟩ : ∃ n, zs.length = n + 1 := ⟨zs.length - 1, by omega⟩
  have hsw := fun (w1 : World) (hb1 : Below w.heap.size w w1) => codes_swap zs B g cap 0 n w1 (k4.later hb1) h0 (by omega) (by omega)
  have hxs : (swp zs 0 n).getD n 0 = x := by rw [swp_at h0 (by omega), if_pos rfl]; exact hx
  have hsl : (swp zs 0 n).length = n + 1 := by rw [swp_len]; exact hn
  obtain ⟨sw, hsw2⟩ : ∃ s, s = swp zs 0 n := ⟨_, rfl⟩
  rw [← hsw2] at hsw hxs hsl
  rw [hn] at k1 k4 hsw hl
  have KH := Lib.hid k1
  have GT := Lib.hid k4
  have LH : Hid (h < w.heap.size) := Lib.hid (Array.getElem?_eq_some_iff.1 k1).1
  have HXS := Lib.hid hxs
  have HSL := Lib.hid hsl
  have hn40 : n < 40 := by omega
  clear k1 k4 hn hx h0 hxs hsl hsw2 hl
  have f0 := tcr KH 0
  have hml := m_len h _ w f0
  have hcl := codes_len (some ⟨g, 0, none⟩) (n + 1) cap w (by omega)
  have hw1 : IntKind.i64.wrap (((n + 1 : Nat) : Int) - 1) = (n : Int) := by rw [IntKind.wrap_i64]; omega
  obtain ⟨m, hm⟩ : ∃ m : Int, m = ((n + 1 : Nat) : Int) := ⟨_, rfl⟩
  rw [← hm] at hcl hw1
  clear hm
  go_enter Try.func77, Try.ntmps77
  go_wp2_with (go_at_call 145; refine hcl.mono ?_; rintro e w1 ⟨rfl, rfl⟩; refine Hid.out ?_)
  refine Lib.hid ?_
  clear hcl hml
  have hms := m_swap h _ w1 f0
  replace hsw := hsw w1 (Below.refl _ _)
  try simp only [Int.ofNat_zero, Nat.cast_zero] at hsw
  go_wp2_with (go_at_call 149; refine hsw.mono ?_; rintro e w2 ⟨rfl, got2, gr2⟩; refine Hid.out ?_)
  refine Lib.hid ?_
  clear hsw hms f0
  have KH2 := tkg gr2 LH KH (by simp; omega)
  have BW2 := Lib.hid ((Below.refl B w1).grown gr2 hB (fun k ek => by cases ek; exact GT.out.2.2.2.1))
  have hB2 : Hid (B ≤ w2.heap.size) := Lib.hid (Nat.le_trans hB gr2.size)
  have hp2 : Hp w2 B h g cap sw := by
    unfold Hp
    rw [HSL.out]
    exact ⟨KH2.out, k2, k3, got2⟩
  have hd := heap_down sw x B h g cap n w2 hp2 (by rw [HSL.out]; omega) hB2.out (by rw [HSL.out]; omega) HXS.out
  clear got2 gr2 KH2 KH LH GT hp2
  go_wp2_with (go_at_call 108; refine hd.mono ?_; rintro e w3 ⟨⟨r, rfl⟩, ⟨zs3, hp3, hl3, hx3⟩, hb3⟩; refine Hid.out ?_)
  refine Lib.hid ?_
  clear hd
  have hl4 : zs3.length = n + 1 := by rw [hl3]; exact HSL.out
  have hpop := codes_pop zs3 n x B h g cap w3 hp3 (by omega) hl4 hx3
  have hmp := m_pop ⟨h, 0, none⟩ w3
  have BW3 := Lib.hid (BW2.out.trans hb3)
  clear hl3 hl4 hx3 hp3 hb3
  go_wp2_with (go_at_call 147; refine hpop.mono ?_; rintro e w4 ⟨rfl, hb4⟩; refine Hid.out ?_)
  refine Lib.hid ?_
  clear hpop hmp
  go_wp2_with fail
  go_ret
  exact ⟨rfl, BW3.out.trans hb4⟩
end Go.Proofs.Ytdpjdjkfedcojaa
