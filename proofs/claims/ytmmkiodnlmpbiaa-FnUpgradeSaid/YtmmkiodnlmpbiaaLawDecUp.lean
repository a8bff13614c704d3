/- The laws FnDecode and FnUpgrade: what is read is written so, and only so; what is brought to a later format is the same, in one step as in two. Condition: none. -/
import Derived.Test.YtmmkiodnlmpbiaaBaseA
import Derived.Test.YtmmkiodnlmpbiaaCurA
import Derived.Test.YtmmkiodnlmpbiaaDrawFmt
import Derived.Test.YtmmkiodnlmpbiaaVerUp
import Derived.Test.YtmmkiodnlmpbiaaSpecSame
import Derived.Test.YtmmkiodnlmpbiaaFmtUp
namespace Go.Proofs.Ytmmkiodnlmpbiaa
open Go.RowKit
set_option linter.unusedVariables false
set_option linter.unusedSimpArgs false

theorem up_le (t : ByteArray) (v : Int) : (upS t v).1.size ≤ 8192 := by
  unfold upS
  split
  · exact Nat.zero_le _
  · exact fmt_le _ _
set_option maxRecDepth 100000 in
set_option maxHeartbeats 8000000 in
theorem law_dec (a : Option Addr) (len cap : Nat) (zs : List Int) (w : World) (hr : IsRow .u8 w a len cap zs) :
    Calls Try.prog 4 #[.slice a len cap] w fun e w' => e = .returned (.bool true) ∧ Below w.heap.size w w' := by
  have hr := row8_of hr
  by_cases hbig : 1048576 < len
  · have hd : decide (1048576 < len) = true := by simpa using hbig
    go_enter Try.func4, Try.ntmps4
    go_wp2_with (go_at_call 11; refine (big_any _ _ _ _).mono ?_; rintro e w' ⟨rfl, rfl⟩)
    go_ret
    exact ⟨rfl, Below.refl _ _⟩
  have hd : decide (1048576 < len) = false := by simpa using hbig
  have hlen : len ≤ 1048576 := by omega
  have Hr8 := Lib.hid hr
  have BB : Hid (Below w.heap.size w w) := Lib.hid (Below.refl _ _)
  go_enter Try.func4, Try.ntmps4
  go_wp2_with (go_at_call 11; refine (big_any _ _ _ _).mono ?_; rintro e w' ⟨rfl, rfl⟩; refine Hid.out ?_)
  refine Lib.hid ?_
  clear hd hbig hr
  have hc := drawDecode_any a len cap zs w Hr8.out hlen
  go_wp2_with (go_at_call 19; refine hc.mono ?_; rintro e w1 ⟨u, rfl, hu, hb⟩; refine Hid.out ?_)
  refine Lib.hid ?_
  replace BB := Lib.hid hb
  clear hc hb
  obtain ⟨R, hR⟩ : ∃ x, x = (decS u).1 := ⟨_, rfl⟩
  obtain ⟨q, hq⟩ : ∃ y, y = (decS u).2 := ⟨_, rfl⟩
  have HR := Lib.hid hR
  have Hq := Lib.hid hq
  clear hR hq
  have hc := impl_decode u w1 (by omega)
  rw [← HR.out, ← Hq.out] at hc
  go_wp2_with (go_at_call 16; refine hc.mono ?_; rintro e w2 ⟨vG, rfl, hG, hb, _⟩; refine Hid.out ?_)
  refine Lib.hid ?_
  replace BB := tbt BB hb
  clear hc hb 
  obtain ⟨aG, cG, bG, dG, rfl⟩ := hG.two
  have SG := Lib.hid hG.st
  clear hG
  have B2 : Hid (Below w2.heap.size w2 w2) := Lib.hid (Below.refl _ _)
  obtain ⟨X1, hX1⟩ : ∃ z, z = w2.alloc (.cells #[.slice aG R.items.length cG, .slice bG R.talks.length dG] 27) := ⟨_, rfl⟩
  have hb : Below w2.heap.size w2 X1 := by rw [hX1]; exact (Below.refl _ _).alloc (Nat.le_refl _) _
  replace B2 := tbt B2 hb
  replace BB := tbt BB hb
  have KG : Hid (X1.heap[w2.heap.size]? = some (.cells #[.slice aG R.items.length cG, .slice bG R.talks.length dG] 27 (0, 0))) := Lib.hid (by rw [hX1]; exact heap_new _ _)
  have LG : Hid (w2.heap.size < X1.heap.size) := Lib.hid (by rw [hX1]; simp)
  clear hb
  have hc := spec_decode u X1 (by omega)
  rw [← HR.out, ← Hq.out] at hc
  rw [hX1] at hc 
  go_wp2_with (go_at_call 20; refine hc.mono ?_; rintro e w3 ⟨vW, rfl, hW, hb, _⟩; refine Hid.out ?_)
  refine Lib.hid ?_
  rw [← hX1] at hb hW
  clear hX1
  replace KG := tkb hb LG KG
  replace LG := tlz LG hb.size
  replace B2 := tbt B2 hb
  replace BB := tbt BB hb
  clear hc hb 
  obtain ⟨aW, cW, bW, dW, rfl⟩ := hW.two
  have SW := Lib.hid hW.st
  clear hW
  have B3 : Hid (Below w3.heap.size w3 w3) := Lib.hid (Below.refl _ _)
  obtain ⟨X2, hX2⟩ : ∃ z, z = w3.alloc (.cells #[.slice aW R.items.length cW, .slice bW R.talks.length dW] 27) := ⟨_, rfl⟩
  have hb : Below w3.heap.size w3 X2 := by rw [hX2]; exact (Below.refl _ _).alloc (Nat.le_refl _) _
  replace KG := tkb hb LG KG
  replace LG := tlz LG hb.size
  replace B2 := tbt B2 hb
  replace B3 := tbt B3 hb
  replace BB := tbt BB hb
  have KW : Hid (X2.heap[w3.heap.size]? = some (.cells #[.slice aW R.items.length cW, .slice bW R.talks.length dW] 27 (0, 0))) := Lib.hid (by rw [hX2]; exact heap_new _ _)
  have LW : Hid (w3.heap.size < X2.heap.size) := Lib.hid (by rw [hX2]; simp)
  clear hb
  have hc := drawVersionOf_any a len cap zs X2 (Hr8.out.later BB.out) hlen
  rw [hX2] at hc 
  go_wp2_with (go_at_call 21; refine hc.mono ?_; rintro e w4 ⟨u2, rfl, hu2, hb⟩; refine Hid.out ?_)
  refine Lib.hid ?_
  rw [← hX2] at hb 
  clear hX2
  replace KG := tkb hb LG KG
  replace LG := tlz LG hb.size
  replace KW := tkb hb LW KW
  replace LW := tlz LW hb.size
  replace B2 := tbt B2 hb
  replace B3 := tbt B3 hb
  replace BB := tbt BB hb
  clear hc hb 
  have hqq : (q != q) = false := by simp
  obtain ⟨q2, hq2⟩ : ∃ y, y = (decS u2).2 := ⟨_, rfl⟩
  have Hq2 := Lib.hid hq2
  have hqq2 : (q2 != q2) = false := by simp
  clear hq2
  have hc := spec_same R R _ _ w4.heap.size w4 (SG.out.later B2.out B2.out.size).rd (SW.out.later B3.out B3.out.size).rd (Nat.le_refl _)
  have fG0 := tcr KG 0
  have fG1 := tcr KG 1
  have fW0 := tcr KW 0
  have fW1 := tcr KW 1
  go_wp2_with (go_at_call 17; refine hc.mono ?_; rintro e w5 ⟨bb, rfl, hbe, hb⟩; refine Hid.out ?_)
  refine Lib.hid ?_
  replace KG := tkb hb LG KG
  replace LG := tlz LG hb.size
  replace KW := tkb hb LW KW
  replace LW := tlz LW hb.size
  replace B2 := tbt B2 hb
  replace B3 := tbt B3 hb
  replace BB := tbt BB hb
  clear hc hb fG0 fG1 fW0 fW1
  obtain rfl : bb = true := hbe.2 (by first | trivial | rfl)
  clear hbe
  have hc := impl_versionOf u2 w5 (by omega)
  rw [← Hq2.out] at hc
  go_wp2_with (go_at_call 18; refine hc.mono ?_; rintro e w6 ⟨rfl, hb⟩; refine Hid.out ?_)
  refine Lib.hid ?_
  replace KG := tkb hb LG KG
  replace LG := tlz LG hb.size
  replace KW := tkb hb LW KW
  replace LW := tlz LW hb.size
  replace B2 := tbt B2 hb
  replace B3 := tbt B3 hb
  replace BB := tbt BB hb
  clear hc hb 
  have hc := spec_versionOf u2 w6 (by omega)
  rw [← Hq2.out] at hc
  go_wp2_with (go_at_call 22; refine hc.mono ?_; rintro e w7 ⟨rfl, hb⟩; refine Hid.out ?_)
  refine Lib.hid ?_
  replace KG := tkb hb LG KG
  replace LG := tlz LG hb.size
  replace KW := tkb hb LW KW
  replace LW := tlz LW hb.size
  replace B2 := tbt B2 hb
  replace B3 := tbt B3 hb
  replace BB := tbt BB hb
  clear hc hb 
  by_cases h0 : q = 0
  · have hq0 : (q == 0) = true := by simp [h0]
    have hR0 : R = ⟨[], []⟩ := by rw [HR.out]; exact dec_zero (by rw [← Hq.out]; simp [h0])
    have hl1 : R.items.length = 0 := by rw [hR0]; rfl
    have hl2 : R.talks.length = 0 := by rw [hR0]; rfl
    rw [hl1, hl2] at KG
    clear h0 hR0 hl1 hl2
    have fG0 := tcr KG 0
    have fG1 := tcr KG 1
    go_wp2_with fail
    go_ret
    exact ⟨rfl, BB.out⟩
  · have hq0 : (q == 0) = false := by simpa using h0
    have hdf := dec_fmt (t := u) (by rw [← Hq.out]; exact h0)
    rw [← HR.out, ← Hq.out] at hdf
    have HF := Lib.hid hdf.1
    have HO := Lib.hid hdf.2.1
    clear h0 hdf
    have hc := impl_stateOk R _ w7.heap.size w7 (SG.out.later B2.out B2.out.size) (Nat.le_refl _) (good_fits2 HO.out)
    rw [HO.out] at hc
    have fG0 := tcr KG 0
    have fG1 := tcr KG 1
    go_wp2_with (go_at_call 23; refine hc.mono ?_; rintro e w8 ⟨rfl, hb⟩; refine Hid.out ?_)
    refine Lib.hid ?_
    replace KG := tkb hb LG KG
    replace LG := tlz LG hb.size
    replace KW := tkb hb LW KW
    replace LW := tlz LW hb.size
    replace B2 := tbt B2 hb
    replace B3 := tbt B3 hb
    replace BB := tbt BB hb
    clear hc hb fG0 fG1
    have hc := impl_encode R _ q w8.heap.size w8 (SG.out.later B2.out B2.out.size) (Nat.le_refl _) (good_fits2 HO.out)
    rw [HF.out] at hc
    have fG0 := tcr KG 0
    have fG1 := tcr KG 1
    go_wp2_with (go_at_call 13; refine hc.mono ?_; rintro e w9 ⟨rfl, hb⟩; refine Hid.out ?_)
    refine Lib.hid ?_
    replace KG := tkb hb LG KG
    replace LG := tlz LG hb.size
    replace KW := tkb hb LW KW
    replace LW := tlz LW hb.size
    replace B2 := tbt B2 hb
    replace B3 := tbt B3 hb
    replace BB := tbt BB hb
    clear hc hb fG0 fG1
    go_wp2_with fail
    go_ret
    exact ⟨rfl, BB.out⟩
set_option maxRecDepth 100000 in
set_option maxHeartbeats 8000000 in
theorem law_up (a : Option Addr) (len cap : Nat) (zs : List Int) (w : World) (hr : IsRow .u8 w a len cap zs) :
    Calls Try.prog 5 #[.slice a len cap] w fun e w' => e = .returned (.bool true) ∧ Below w.heap.size w w' := by
  have hr := row8_of hr
  by_cases hbig : 1048576 < len
  · have hd : decide (1048576 < len) = true := by simpa using hbig
    go_enter Try.func5, Try.ntmps5
    go_wp2_with (go_at_call 11; refine (big_any _ _ _ _).mono ?_; rintro e w' ⟨rfl, rfl⟩)
    go_ret
    exact ⟨rfl, Below.refl _ _⟩
  have hd : decide (1048576 < len) = false := by simpa using hbig
  have hlen : len ≤ 1048576 := by omega
  have Hr8 := Lib.hid hr
  have BB : Hid (Below w.heap.size w w) := Lib.hid (Below.refl _ _)
  go_enter Try.func5, Try.ntmps5
  go_wp2_with (go_at_call 11; refine (big_any _ _ _ _).mono ?_; rintro e w' ⟨rfl, rfl⟩; refine Hid.out ?_)
  refine Lib.hid ?_
  clear hd hbig hr
  have hc := drawUpgrade_any a len cap zs w Hr8.out hlen
  go_wp2_with (go_at_call 24; refine hc.mono ?_; rintro e w1 ⟨u, n, rfl, hu, hn64, hb⟩; refine Hid.out ?_)
  refine Lib.hid ?_
  replace BB := Lib.hid hb
  clear hc hb
  obtain ⟨x, hx⟩ : ∃ x, x = (upS u n).1 := ⟨_, rfl⟩
  obtain ⟨y, hy⟩ : ∃ y, y = (upS u n).2 := ⟨_, rfl⟩
  have Hx := Lib.hid hx
  have Hy := Lib.hid hy
  have hxz : x.size ≤ 8192 := by rw [hx]; exact up_le u n
  clear hx hy
  have hyy : (y != y) = false := by simp
  have hc := impl_upgrade u n w1 (by omega)
  rw [← Hx.out, ← Hy.out] at hc
  go_wp2_with (go_at_call 25; refine hc.mono ?_; rintro e w2 ⟨rfl, hb⟩; refine Hid.out ?_)
  refine Lib.hid ?_
  replace BB := tbt BB hb
  clear hc hb 
  have hc := spec_upgrade u n w2 (by omega)
  rw [← Hx.out, ← Hy.out] at hc
  go_wp2_with (go_at_call 26; refine hc.mono ?_; rintro e w3 ⟨rfl, hb⟩; refine Hid.out ?_)
  refine Lib.hid ?_
  replace BB := tbt BB hb
  clear hc hb 
  cases y
  · have hxe : x = ⟨#[]⟩ := by rw [Hx.out]; exact up_none Hy.out.symm
    have hee : x.toList.isEmpty = true := by rw [hxe]; simp
    clear hxe
    go_wp2_with fail
    go_ret
    exact ⟨rfl, BB.out⟩
  · have hup := up_ok (t := u) (v := n) Hy.out.symm
    have htw := up_twice (t := u) (v := n) Hy.out.symm
    rw [← Hx.out] at hup htw
    obtain ⟨R, hR⟩ : ∃ x, x = (decS u).1 := ⟨_, rfl⟩
    obtain ⟨q, hq⟩ : ∃ y, y = (decS u).2 := ⟨_, rfl⟩
    rw [← hR, ← hq] at hup
    have HR := Lib.hid hR
    have Hq := Lib.hid hq
    obtain ⟨hd1, hqn, hn3, hq1⟩ := hup
    have HD := Lib.hid hd1
    obtain ⟨z, hz⟩ : ∃ z, z = (upS u 3).1 := ⟨_, rfl⟩
    have HZ := Lib.hid hz
    have HT : Hid (upS x 3 = (z, true)) := Lib.hid (by rw [htw.1, hz]; exact Prod.ext rfl htw.2.1)
    have HT3 : Hid (upS u 3 = (z, true)) := Lib.hid (by rw [hz]; exact Prod.ext rfl htw.2.1)
    obtain ⟨z2, hz2⟩ : ∃ z2, z2 = (upS x (n - 1)).1 := ⟨_, rfl⟩
    have HB : Hid (upS x (n - 1) = (z2, false)) := Lib.hid (by rw [hz2]; exact Prod.ext rfl htw.2.2)
    clear hR hq hd1 hz hz2 htw
    have hc := impl_decode u w3 (by omega)
    rw [← HR.out, ← Hq.out] at hc
    go_wp2_with (go_at_call 16; refine hc.mono ?_; rintro e w4 ⟨vG, rfl, hG, hb, _⟩; refine Hid.out ?_)
    refine Lib.hid ?_
    replace BB := tbt BB hb
    clear hc hb 
    obtain ⟨aG, cG, bG, dG, rfl⟩ := hG.two
    have SG := Lib.hid hG.st.rd
    clear hG
    obtain ⟨X1, hX1⟩ : ∃ z, z = w4.alloc (.cells #[.slice aG R.items.length cG, .slice bG R.talks.length dG] 27) := ⟨_, rfl⟩
    have hb : Below w4.heap.size w4 X1 := by rw [hX1]; exact (Below.refl _ _).alloc (Nat.le_refl _) _
    replace SG := Lib.hid (SG.out.later hb hb.size)
    replace BB := tbt BB hb
    have KG : Hid (X1.heap[w4.heap.size]? = some (.cells #[.slice aG R.items.length cG, .slice bG R.talks.length dG] 27 (0, 0))) := Lib.hid (by rw [hX1]; exact heap_new _ _)
    have LG : Hid (w4.heap.size < X1.heap.size) := Lib.hid (by rw [hX1]; simp)
    clear hb
    have hc := impl_decode x X1 (by omega)
    rw [HD.out] at hc
    rw [hX1] at hc 
    go_wp2_with (go_at_call 16; refine hc.mono ?_; rintro e w5 ⟨vW, rfl, hW, hb, _⟩; refine Hid.out ?_)
    refine Lib.hid ?_
    rw [← hX1] at hb hW
    clear hX1
    replace KG := tkb hb LG KG
    replace LG := tlz LG hb.size
    replace SG := Lib.hid (SG.out.later hb hb.size)
    replace BB := tbt BB hb
    clear hc hb 
    obtain ⟨aW, cW, bW, dW, rfl⟩ := hW.two
    have SW := Lib.hid hW.st.rd
    clear hW
    obtain ⟨X2, hX2⟩ : ∃ z, z = w5.alloc (.cells #[.slice aW R.items.length cW, .slice bW R.talks.length dW] 27) := ⟨_, rfl⟩
    have hb : Below w5.heap.size w5 X2 := by rw [hX2]; exact (Below.refl _ _).alloc (Nat.le_refl _) _
    replace KG := tkb hb LG KG
    replace LG := tlz LG hb.size
    replace SG := Lib.hid (SG.out.later hb hb.size)
    replace SW := Lib.hid (SW.out.later hb hb.size)
    replace BB := tbt BB hb
    have KW : Hid (X2.heap[w5.heap.size]? = some (.cells #[.slice aW R.items.length cW, .slice bW R.talks.length dW] 27 (0, 0))) := Lib.hid (by rw [hX2]; exact heap_new _ _)
    have LW : Hid (w5.heap.size < X2.heap.size) := Lib.hid (by rw [hX2]; simp)
    clear hb
    have hc := impl_upgrade x 3 X2 (by omega)
    rw [HT.out] at hc
    rw [hX2] at hc 
    go_wp2_with (go_at_call 25; refine hc.mono ?_; rintro e w6 ⟨rfl, hb⟩; refine Hid.out ?_)
    refine Lib.hid ?_
    rw [← hX2] at hb 
    clear hX2
    replace KG := tkb hb LG KG
    replace LG := tlz LG hb.size
    replace KW := tkb hb LW KW
    replace LW := tlz LW hb.size
    replace SG := Lib.hid (SG.out.later hb hb.size)
    replace SW := Lib.hid (SW.out.later hb hb.size)
    replace BB := tbt BB hb
    clear hc hb 
    have hc := impl_upgrade u 3 w6 (by omega)
    rw [HT3.out] at hc
    go_wp2_with (go_at_call 25; refine hc.mono ?_; rintro e w7 ⟨rfl, hb⟩; refine Hid.out ?_)
    refine Lib.hid ?_
    replace KG := tkb hb LG KG
    replace LG := tlz LG hb.size
    replace KW := tkb hb LW KW
    replace LW := tlz LW hb.size
    replace SG := Lib.hid (SG.out.later hb hb.size)
    replace SW := Lib.hid (SW.out.later hb hb.size)
    replace BB := tbt BB hb
    clear hc hb 
    have hc := impl_upgrade x (n - 1) w7 (by omega)
    rw [HB.out] at hc
    go_wp2_with (go_at_call 25; refine hc.mono ?_; rintro e w8 ⟨rfl, hb⟩; refine Hid.out ?_)
    refine Lib.hid ?_
    replace KG := tkb hb LG KG
    replace LG := tlz LG hb.size
    replace KW := tkb hb LW KW
    replace LW := tlz LW hb.size
    replace SG := Lib.hid (SG.out.later hb hb.size)
    replace SW := Lib.hid (SW.out.later hb hb.size)
    replace BB := tbt BB hb
    clear hc hb 
    have hnn : (n == n) = true := by simp
    have hle : decide (q ≤ n) = true := by simpa using hqn
    have hc := spec_same R R _ _ w8.heap.size w8 SG.out SW.out (Nat.le_refl _)
    have fG0 := tcr KG 0
    have fG1 := tcr KG 1
    have fW0 := tcr KW 0
    have fW1 := tcr KW 1
    go_wp2_with (go_at_call 17; refine hc.mono ?_; rintro e w9 ⟨bb, rfl, hbe, hb⟩; refine Hid.out ?_)
    refine Lib.hid ?_
    replace KG := tkb hb LG KG
    replace LG := tlz LG hb.size
    replace KW := tkb hb LW KW
    replace LW := tlz LW hb.size
    replace SG := Lib.hid (SG.out.later hb hb.size)
    replace SW := Lib.hid (SW.out.later hb hb.size)
    replace BB := tbt BB hb
    clear hc hb fG0 fG1 fW0 fW1
    obtain rfl : bb = true := hbe.2 (by first | trivial | rfl)
    clear hbe
    go_wp2_with fail
    go_ret
    exact ⟨rfl, BB.out⟩
end Go.Proofs.Ytmmkiodnlmpbiaa
