/- The draws of this chapter: texts of the formats, bent sometimes; a number besides. Condition: a code of at most 2^20 bytes. -/
import Derived.Test.YtmmkiodnlmpbiaaDrawState
import Derived.Test.YtmmkiodnlmpbiaaCurA
import Derived.Test.YtmmkiodnlmpbiaaSpecEnc
import Derived.Test.YtmmkiodnlmpbiaaImplPutRows
namespace Go.Proofs.Ytmmkiodnlmpbiaa
open Go.RowKit
set_option linter.unusedVariables false
set_option linter.unusedSimpArgs false

theorem fmt_le (s : St) (v : Int) : (fmtS s v).size ≤ 8192 := by
  unfold fmtS
  split
  · rename_i h
    obtain ⟨i1, i2, i3, i4⟩ := ok_smI h.1
    have h1 := encI_flat i1
    have h2 := encT_flat i2
    have hb : ∀ n, (bodyL n s).length ≤ 8010 := by
      intro n
      unfold bodyL
      rw [List.length_append, List.length_append, List.length_append, List.length_append, be8_len, be8_len]
      split
      · simp only [List.length_cons, List.length_nil]; omega
      · rw [List.length_append, be8_len]; simp only [List.length_cons, List.length_nil]; omega
    have hs : ∀ n, (bodyB n s).size ≤ 8010 := fun n => hb n
    split
    · unfold sealB
      rw [ByteArray.size_append, leB_size]
      have := hs 3; omega
    · have := hs v.toNat; omega
  · exact Nat.zero_le _
theorem two_own {w : World} {b : Nat} {v : Value} {s : St} (h : OwnN w b v s) : ∃ a0 k0 a1 k1, v = .agg #[.slice a0 s.items.length k0, .slice a1 s.talks.length k1] := by
  obtain ⟨_, _, _, _, _, _, h, _, ⟨a0, rfl, _⟩, ⟨a1, rfl, _⟩, _⟩ := h
  exact ⟨_, _, _, _, h⟩
def int6 : Value → Bool
  | .int .i64 n => decide (-9223372036854775808 ≤ n ∧ n ≤ 9223372036854775807)
  | _ => false
theorem ints_row6 {w : World} {g : Nat} {cs : Array Value} {t : TypeId} (h : w.heap[g]? = some (.cells cs t (0, 0))) (hs : cs.toList.all int6 = true) (n : Nat) (hn : n = cs.size) : ∀ j, j < n → ∃ s : Int, w.cell? ⟨g, j, none⟩ = some (.int .i64 s) ∧ I64 (.int .i64 s) := by
  subst hn
  intro j hj
  have hc := cell_of_row w g j _ _ _ h
  rw [Array.getElem?_eq_getElem hj] at hc
  have h1 := List.all_eq_true.1 hs cs[j] (by simp)
  revert h1 hc
  cases cs[j] <;> intro hc h1 <;> simp [int6] at h1
  rename_i k n
  cases k <;> simp [int6] at h1
  exact ⟨n, hc, n, rfl, h1.1, h1.2⟩
theorem sm_fits {s : St} {a b : Nat} (h : Sm s a b) : Fits s := by
  obtain ⟨_, _, h1, h2⟩ := h
  refine ⟨fun x hx => ?_, fun x hx => ?_⟩
  · have := h1 x hx
    unfold maxLen; omega
  · have := h2 x hx
    unfold maxLen; omega
set_option maxRecDepth 100000 in
set_option maxHeartbeats 2000000 in
theorem text6_any (B blk : Nat) (w : World) (c : Cu TC w B blk) :
    Calls Try.prog 55 #[.pointer (some ⟨blk, 0, none⟩)] w (DrewText TC w B blk 8193) := by
  have LT := Lib.hid c.lt
  go_enter Try.func55, Try.ntmps55
  go_wp2_with (go_at_call 73; refine (make_any B blk w c).mono ?_; rintro e w1 ⟨v, s, rfl, own, hsm, cu, gr⟩; obtain ⟨a0, k0, a1, k1, rfl⟩ := two_own own; refine Hid.out ?_)
  refine Lib.hid ?_
  have OS := Lib.hid own
  have GR := Lib.hid gr
  have Hsm := Lib.hid (sm_fits hsm)
  clear c own gr hsm
  go_wp2_with (go_at_call 74; refine (below_any _ (by omega) B blk _ cu).mono ?_; rintro e w2 ⟨x, ⟨hx0, hx1, _⟩, rfl, cu2, gr2⟩; refine Hid.out ?_)
  refine Lib.hid ?_
  have hx1 := hx1 (by omega)
  replace OS := Lib.hid (OS.out.kept gr2 LT.out)
  replace GR := Lib.hid (GR.out.trans gr2)
  have CU := Lib.hid cu2
  clear cu gr2 cu2
  have hc := spec_encode s _ (1 + x) w2.heap.size w2 OS.out.st (Nat.le_refl _) Hsm.out
  have hz := fmt_le s (1 + x)
  obtain ⟨E, hE⟩ : ∃ E, E = fmtS s (1 + x) := ⟨_, rfl⟩
  rw [← hE] at hc hz
  clear hE
  go_wp2_with (go_at_call 14; refine hc.mono ?_; rintro e w3 ⟨rfl, hb3⟩; refine Hid.out ?_)
  refine Lib.hid ?_
  have cl := CU.out.lt
  have cle := CU.out.le
  replace CU := Lib.hid (CU.out.kept (hb3.mono (by omega)) (hb3.block _ cl))
  replace GR := Lib.hid (GR.out.trans (grown_of_below hb3 _))
  clear hc hb3 cl cle
  go_wp2_with (go_at_call 53; refine (once_any _ (by omega) B blk _ CU.out).mono ?_; rintro e w4 ⟨b, rfl, cu, gr⟩; refine Hid.out ?_)
  refine Lib.hid ?_
  replace CU := Lib.hid cu
  replace GR := Lib.hid (GR.out.trans gr)
  clear cu gr
  cases b
  · go_wp2_with fail
    go_ret
    exact ⟨E, by omega, rfl, CU.out, GR.out⟩
  · go_wp2_with (go_at_call 84; refine (bent_any E 8192 (by omega) hz B blk _ CU.out).mono ?_; rintro e w5 ⟨u, hu, rfl, cu, gr⟩)
    go_ret
    exact ⟨u, hu, rfl, cu, GR.out.trans gr⟩
set_option maxRecDepth 100000 in
set_option maxHeartbeats 2000000 in
theorem drawVersionOf_any (a : Option Addr) (len cap : Nat) (zs : List Int) (w : World) (hr : Row8 w w.heap.size a len cap zs) (hl : len ≤ 1048576) :
    Calls Try.prog 21 #[.slice a len cap] w (DrawnText 8193 w) := by
  go_enter Try.func21, Try.ntmps21
  go_wp2_with (go_at_call 33; refine (new_any a len cap zs _ hr hl).mono ?_; rintro e w1 ⟨rfl, hc1, hb1⟩; refine Hid.out ?_)
  refine Lib.hid ?_
  have hsz1 := hb1.size
  go_wp2_with (go_at_call 55; refine (text6_any _ _ _ hc1).mono ?_; rintro e w2 ⟨u, hu, rfl, hc2, hg2⟩; refine Hid.out ?_)
  refine Lib.hid ?_
  have hb2 := below_grown hb1 hg2 (Nat.le_refl _) hsz1
  clear hc1 hg2
  go_wp2_with fail
  go_ret
  exact ⟨u, rfl, hu, hb2⟩
set_option maxRecDepth 100000 in
set_option maxHeartbeats 2000000 in
theorem drawDecode_any (a : Option Addr) (len cap : Nat) (zs : List Int) (w : World) (hr : Row8 w w.heap.size a len cap zs) (hl : len ≤ 1048576) :
    Calls Try.prog 19 #[.slice a len cap] w (DrawnText 8193 w) := by
  go_enter Try.func19, Try.ntmps19
  go_wp2_with (go_at_call 33; refine (new_any a len cap zs _ hr hl).mono ?_; rintro e w1 ⟨rfl, hc1, hb1⟩; refine Hid.out ?_)
  refine Lib.hid ?_
  have hsz1 := hb1.size
  go_wp2_with (go_at_call 53; refine (once_any _ (by omega) _ _ _ hc1).mono ?_; rintro e w2 ⟨b, rfl, hc2, hg2⟩; refine Hid.out ?_)
  refine Lib.hid ?_
  have hb2 := below_grown hb1 hg2 (Nat.le_refl _) hsz1
  have hsz2 := hb2.size
  clear hc1 hg2
  cases b
  · go_wp2_with (go_at_call 55; refine (text6_any _ _ _ hc2).mono ?_; rintro e w3 ⟨u, hu, rfl, hc3, hg3⟩; refine Hid.out ?_)
    refine Lib.hid ?_
    have hb3 := below_grown hb2 hg3 (Nat.le_refl _) hsz2
    clear hc2 hg3
    go_wp2_with fail
    go_ret
    exact ⟨u, rfl, hu, hb3⟩
  · go_wp2_with (go_at_call 54; refine (pick_lit 9 _ _ 9 9 w2 _ _ hc2 rfl (by decide) (by decide) rfl).mono ?_; rintro e w3 ⟨u, hu, rfl, hc3, hg3⟩; refine Hid.out ?_)
    refine Lib.hid ?_
    have hb3 := below_grown hb2 hg3 (Nat.le_refl _) hsz2
    clear hc2 hg3
    go_wp2_with fail
    go_ret
    exact ⟨u, rfl, by omega, hb3⟩
set_option maxRecDepth 100000 in
set_option maxHeartbeats 2000000 in
theorem drawUpgrade_any (a : Option Addr) (len cap : Nat) (zs : List Int) (w : World) (hr : Row8 w w.heap.size a len cap zs) (hl : len ≤ 1048576) :
    Calls Try.prog 24 #[.slice a len cap] w fun e w' => ∃ u n, e = .returned (.tuple #[.string u, .int .i64 n]) ∧ u.size ≤ 8193 ∧ (-9223372036854775808 ≤ n ∧ n ≤ 9223372036854775807) ∧ Below w.heap.size w w' := by
  go_enter Try.func24, Try.ntmps24
  go_wp2_with (go_at_call 33; refine (new_any a len cap zs _ hr hl).mono ?_; rintro e w1 ⟨rfl, hc1, hb1⟩; refine Hid.out ?_)
  refine Lib.hid ?_
  have hsz1 := hb1.size
  go_wp2_with (go_at_call 55; refine (text6_any _ _ _ hc1).mono ?_; rintro e w2 ⟨u, hu, rfl, hc2, hg2⟩; refine Hid.out ?_)
  refine Lib.hid ?_
  have hb2 := below_grown hb1 hg2 (Nat.le_refl _) hsz1
  have hsz2 := hb2.size
  clear hc1 hg2
  obtain ⟨X, hX⟩ : ∃ x, x = w2.alloc (.cells #[.int .i64 1, .int .i64 2, .int .i64 3, .int .i64 3, .int .i64 0, .int .i64 4] 3) := ⟨_, rfl⟩
  have bX : Below w2.heap.size w2 X := by rw [hX]; exact (Below.refl _ _).alloc (Nat.le_refl _) _
  have kI : X.heap[w2.heap.size]? = some (.cells #[.int .i64 1, .int .i64 2, .int .i64 3, .int .i64 3, .int .i64 0, .int .i64 4] 3 (0, 0)) := by rw [hX]; exact heap_new _ _
  have cl := hc2.lt
  have cle := hc2.le
  have cX := hc2.kept (bX.mono (by omega)) (bX.block _ cl)
  have hc := pickInt_any I64 w2.heap.size 6 6 (by omega) (by omega) w.heap.size w.heap.size X (by omega) (ints_row6 kI (by decide) _ rfl) cX
  have BB := Lib.hid (hb2.trans (bX.mono hsz2))
  rw [hX] at hc
  clear kI cX cl cle bX hc2
  go_wp2_with (go_at_call 35; refine hc.mono ?_; rintro e w3 ⟨y, hy, rfl, cu, gr⟩; refine Hid.out ?_)
  refine Lib.hid ?_
  rw [← hX] at gr
  obtain ⟨y', hy', hyb⟩ := hy
  obtain rfl : y = y' := by simpa using hy'
  have Hyb := Lib.hid hyb
  have B3 := Lib.hid (below_grown BB.out gr (Nat.le_refl _) BB.out.size)
  clear hc hX gr cu hy' hyb
  go_wp2_with fail
  go_ret2
  exact ⟨u, y, rfl, hu, Hyb.out, B3.out⟩
end Go.Proofs.Ytmmkiodnlmpbiaa
