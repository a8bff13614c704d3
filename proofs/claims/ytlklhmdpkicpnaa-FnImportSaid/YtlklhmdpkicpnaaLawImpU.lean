/- The law FnImport: what is read back, and what is refused. Condition: none. -/
import Derived.Test.YtlklhmdpkicpnaaCurA
import Derived.Test.YtlklhmdpkicpnaaDrawRow
import Derived.Test.YtlklhmdpkicpnaaImplImport
import Derived.Test.YtlklhmdpkicpnaaStrA
import Derived.Test.YtlklhmdpkicpnaaSpecSame
import Derived.Test.YtlklhmdpkicpnaaVerUp
import Derived.Test.YtlklhmdpkicpnaaFmtA
import Derived.Test.YtlklhmdpkicpnaaImplState
import Derived.Test.YtlklhmdpkicpnaaBaseA
import Derived.BigQuiet
import Derived.Deep.QuietTactic
namespace Go.Proofs.Ytlklhmdpkicpnaa
open Go.RowKit
set_option linter.unusedVariables false
set_option linter.unusedSimpArgs false

theorem impGo_codes (m : Nat) : ∀ (l : List ByteArray) (i c : Nat) (b : ByteArray), (impGo m l i c b).1 = 0 ∨ 2 ≤ (impGo m l i c b).1
  | [], _, _, _ => .inl rfl
  | t :: r, i, c, b => by
    rw [impGo]
    split
    · exact .inr (by decide)
    · split
      · exact .inr (by decide)
      · split
        · exact .inr (by decide)
        · exact impGo_codes m r _ _ _
/-- What Import answers, with its code. -/
theorem import_says (xs : List ByteArray) : ((importS xs).2 = 0 → stOk (importS xs).1 = true) ∧ (¬ (importS xs).2 = 0 → (importS xs).1 = ⟨[], []⟩ ∧ ((importS xs).2 = 1 ↔ xs.length = 0)) := by
  by_cases hx : xs = []
  · subst hx
    exact ⟨fun h => absurd h (by decide), fun _ => ⟨rfl, fun _ => rfl, fun _ => rfl⟩⟩
  · have hl : ¬ xs.length = 0 := fun h => hx (List.eq_nil_of_length_eq_zero h)
    rcases impGo_codes xs.length xs 0 (hashN []) ⟨#[]⟩ with h | h
    · have hg := imp_good hx (b := (impGo xs.length xs 0 (hashN []) ⟨#[]⟩).2) (Prod.ext h rfl)
      by_cases hd : (decS (impGo xs.length xs 0 (hashN []) ⟨#[]⟩).2).2 = 0
      · rw [if_pos hd] at hg
        rw [hg]
        exact ⟨fun h => absurd h (by decide), fun _ => ⟨rfl, fun h => absurd h (by decide), fun h => absurd h hl⟩⟩
      · rw [if_neg hd] at hg
        rw [hg]
        exact ⟨fun _ => (dec_fmt hd).2.1, fun h => absurd rfl h⟩
    · have hb := imp_bad hx rfl (show ¬ (impGo xs.length xs 0 (hashN []) ⟨#[]⟩).1 = 0 by omega)
      rw [hb]
      exact ⟨fun h0 => absurd h0 (by show ¬ (impGo xs.length xs 0 (hashN []) ⟨#[]⟩).1 = 0; omega), fun _ => ⟨rfl, fun h1 => absurd h1 (by show ¬ (impGo xs.length xs 0 (hashN []) ⟨#[]⟩).1 = 1; omega), fun h => absurd h hl⟩⟩
set_option maxRecDepth 100000 in
set_option maxHeartbeats 8000000 in
theorem law_importU (a : Option Addr) (len cap : Nat) (zs : List Int) (w : World) (hr : IsRow .u8 w a len cap zs) :
    Calls Try.prog 7 #[.slice a len cap] w fun e w' => e = .returned (.bool true) ∧ Below w.heap.size w w' := by
  have hr := row8_of hr
  by_cases hbig : 1048576 < len
  · have hd : decide (1048576 < len) = true := by simpa using hbig
    go_enter Try.func7, Try.ntmps7
    go_wp2_with (go_at_call 17; refine (big_any _ _ _ _).mono ?_; rintro e w' ⟨rfl, rfl⟩)
    go_ret
    exact ⟨rfl, Below.refl _ _⟩
  have hd : decide (1048576 < len) = false := by simpa using hbig
  have hlen : len ≤ 1048576 := by omega
  have Hr8 := Lib.hid hr
  have BB : Hid (Below w.heap.size w w) := Lib.hid (Below.refl _ _)
  go_enter Try.func7, Try.ntmps7
  go_wp2_with (go_at_call 17; refine (big_any _ _ _ _).mono ?_; rintro e w' ⟨rfl, rfl⟩; refine Hid.out ?_)
  refine Lib.hid ?_
  clear hd hbig hr
  have hc := drawImport_any a len cap zs w Hr8.out hlen
  go_wp2_with (go_at_call 39; refine hc.mono ?_; rintro e w1 ⟨v, xs, rfl, hraw, hx, hl, hb⟩; refine Hid.out ?_)
  refine Lib.hid ?_
  replace BB := Lib.hid hb
  have RX := Lib.hid hraw
  have HX := Lib.hid hx
  obtain ⟨va, vc, rfl⟩ : ∃ a c, v = .slice a xs.length c := by obtain ⟨a, c, h, _⟩ := hraw; exact ⟨a, c, h⟩
  clear hb hc hraw hx
  obtain ⟨R, hR⟩ : ∃ x, x = (importS xs).1 := ⟨_, rfl⟩
  obtain ⟨q, hq⟩ : ∃ y, y = (importS xs).2 := ⟨_, rfl⟩
  have HR := Lib.hid hR
  have Hq := Lib.hid hq
  clear hR hq
  have hc := impl_import xs _ w1 (by omega) HX.out RX.out
  rw [← HR.out, ← Hq.out] at hc
  go_wp2_with (go_at_call 37; refine hc.mono ?_; rintro e w2 ⟨vG, rfl, hG, hb⟩; refine Hid.out ?_)
  refine Lib.hid ?_
  replace RX := Lib.hid (RX.out.later hb hb.size)
  replace BB := tbt BB hb
  clear hc hb 
  obtain ⟨aG, cG, bG, dG, rfl⟩ := hG.two
  have SG := Lib.hid hG.st.rd
  have SGv := Lib.hid hG.st
  clear hG
  obtain ⟨X1, hX1⟩ : ∃ z, z = w2.alloc (.cells #[.slice aG R.items.length cG, .slice bG R.talks.length dG] 44) := ⟨_, rfl⟩
  have hb : Below w2.heap.size w2 X1 := by rw [hX1]; exact (Below.refl _ _).alloc (Nat.le_refl _) _
  replace RX := Lib.hid (RX.out.later hb hb.size)
  replace SG := Lib.hid (SG.out.later hb hb.size)
  replace SGv := Lib.hid (SGv.out.later hb hb.size)
  replace BB := tbt BB hb
  have KG : Hid (X1.heap[w2.heap.size]? = some (.cells #[.slice aG R.items.length cG, .slice bG R.talks.length dG] 44 (0, 0))) := Lib.hid (by rw [hX1]; exact heap_new _ _)
  have LG : Hid (w2.heap.size < X1.heap.size) := Lib.hid (by rw [hX1]; simp)
  clear hb
  have hc := spec_import xs _ X1 (by omega) HX.out RX.out
  rw [← HR.out, ← Hq.out] at hc
  rw [hX1] at hc 
  go_wp2_with (go_at_call 40; refine hc.mono ?_; rintro e w3 ⟨vW, rfl, hW, hb⟩; refine Hid.out ?_)
  refine Lib.hid ?_
  rw [← hX1] at hb hW
  clear hX1
  replace KG := tkb hb LG KG
  replace LG := tlz LG hb.size
  replace RX := Lib.hid (RX.out.later hb hb.size)
  replace SG := Lib.hid (SG.out.later hb hb.size)
  replace SGv := Lib.hid (SGv.out.later hb hb.size)
  replace BB := tbt BB hb
  clear hc hb 
  obtain ⟨aW, cW, bW, dW, rfl⟩ := hW.two
  have SW := Lib.hid hW.st.rd
  clear hW
  obtain ⟨X2, hX2⟩ : ∃ z, z = w3.alloc (.cells #[.slice aW R.items.length cW, .slice bW R.talks.length dW] 44) := ⟨_, rfl⟩
  have hb : Below w3.heap.size w3 X2 := by rw [hX2]; exact (Below.refl _ _).alloc (Nat.le_refl _) _
  replace KG := tkb hb LG KG
  replace LG := tlz LG hb.size
  replace RX := Lib.hid (RX.out.later hb hb.size)
  replace SG := Lib.hid (SG.out.later hb hb.size)
  replace SGv := Lib.hid (SGv.out.later hb hb.size)
  replace SW := Lib.hid (SW.out.later hb hb.size)
  replace BB := tbt BB hb
  have KW : Hid (X2.heap[w3.heap.size]? = some (.cells #[.slice aW R.items.length cW, .slice bW R.talks.length dW] 44 (0, 0))) := Lib.hid (by rw [hX2]; exact heap_new _ _)
  have LW : Hid (w3.heap.size < X2.heap.size) := Lib.hid (by rw [hX2]; simp)
  clear hb
  have hqq : (q != q) = false := by simp
  have hc := spec_same R R _ _ X2.heap.size X2 SG.out SW.out (Nat.le_refl _)
  have fG0 := tcr KG 0
  have fG1 := tcr KG 1
  have fW0 := tcr KW 0
  have fW1 := tcr KW 1
  rw [hX2] at hc fG0 fG1 fW0 fW1
  go_wp2_with (go_at_call 38; refine hc.mono ?_; rintro e w4 ⟨bb, rfl, hbe, hb⟩; refine Hid.out ?_)
  refine Lib.hid ?_
  rw [← hX2] at hb 
  clear hX2
  replace KG := tkb hb LG KG
  replace LG := tlz LG hb.size
  replace KW := tkb hb LW KW
  replace LW := tlz LW hb.size
  replace RX := Lib.hid (RX.out.later hb hb.size)
  replace SG := Lib.hid (SG.out.later hb hb.size)
  replace SGv := Lib.hid (SGv.out.later hb hb.size)
  replace SW := Lib.hid (SW.out.later hb hb.size)
  replace BB := tbt BB hb
  clear hc hb fG0 fG1 fW0 fW1
  obtain rfl : bb = true := hbe.2 (by first | trivial | rfl)
  clear hbe
  have him := import_says xs
  rw [← HR.out, ← Hq.out] at him
  by_cases h0 : q = 0
  · have hq0 : (q != 0) = false := by simp [h0]
    have hok := him.1 h0
    clear him h0
    have hc := impl_stateOk R _ w4.heap.size w4 SGv.out (Nat.le_refl _) (good_fits2 hok)
    rw [hok] at hc
    have fG0 := tcr KG 0
    have fG1 := tcr KG 1
    go_wp2_with (go_at_call 41; refine hc.mono ?_; rintro e w5 ⟨rfl, hb⟩; refine Hid.out ?_)
    refine Lib.hid ?_
    replace KG := tkb hb LG KG
    replace LG := tlz LG hb.size
    replace KW := tkb hb LW KW
    replace LW := tlz LW hb.size
    replace RX := Lib.hid (RX.out.later hb hb.size)
    replace SG := Lib.hid (SG.out.later hb hb.size)
    replace SGv := Lib.hid (SGv.out.later hb hb.size)
    replace SW := Lib.hid (SW.out.later hb hb.size)
    replace BB := tbt BB hb
    clear hc hb fG0 fG1
    go_wp2_with fail
    go_ret
    exact ⟨rfl, BB.out⟩
  · have hq0 : (q != 0) = true := by rw [bne_iff_ne]; exact h0
    obtain ⟨hR0, hq1⟩ := him.2 h0
    have hl1 : R.items.length = 0 := by rw [hR0]; rfl
    have hl2 : R.talks.length = 0 := by rw [hR0]; rfl
    rw [hl1, hl2] at KG
    clear him hR0 hl1 hl2
    have fG0 := tcr KG 0
    have fG1 := tcr KG 1
    by_cases hn : xs.length = 0
    · have e1 : ((xs.length : Int) == 0) = true := by rw [hn]; rfl
      have e2 : (q == 1) = true := by rw [hq1.2 hn]; rfl
      go_wp2_with fail
      go_ret
      exact ⟨rfl, BB.out⟩
    have e1 : ((xs.length : Int) == 0) = false := by rw [beq_eq_false_iff_ne]; omega
    have e2 : (q == 1) = false := by rw [beq_eq_false_iff_ne]; exact fun h => hn (hq1.1 h)
    go_wp2_with fail
    go_ret
    exact ⟨rfl, BB.out⟩
end Go.Proofs.Ytlklhmdpkicpnaa
