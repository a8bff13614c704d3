/- What the program's Encode answers. Condition: what the arguments may be. -/
import Derived.Test.YtdpjdjkfedcojaaGreatBaseA
import Derived.Test.YtdpjdjkfedcojaaGreatBldA
import Derived.Test.YtdpjdjkfedcojaaGreatImplState
import Derived.Test.YtdpjdjkfedcojaaGreatImplSeal
namespace Go.Proofs.YtdpjdjkfedcojaaGreat
open Go.RowKit
set_option linter.unusedVariables false
set_option linter.unusedSimpArgs false

theorem impl_versionOk (n : Int) (w : World) : Calls Tryz.prog 60 #[.int .i64 n] w fun e w' => e = .returned (.bool (inB n 1 3)) ∧ w = w' := by
  rcases (show n < 1 ∨ 3 < n ∨ (1 ≤ n ∧ n ≤ 3) by omega) with h | h | ⟨h, h'⟩
  · have hb : Hid (inB n 1 3 = false) := Lib.hid (by unfold inB; simp; omega)
    go_enter Tryz.func60, Tryz.ntmps60
    go_wp2
    go_ret
    exact ⟨ret_bool (by rw [hb.out]), rfl⟩
  · have hb : Hid (inB n 1 3 = false) := Lib.hid (by unfold inB; simp; omega)
    have h1 : 1 ≤ n := by omega
    go_enter Tryz.func60, Tryz.ntmps60
    go_wp2
    go_ret
    exact ⟨ret_bool (by rw [hb.out]; try (simpa using h)), rfl⟩
  · have hb : Hid (inB n 1 3 = true) := Lib.hid (by unfold inB; simp; omega)
    go_enter Tryz.func60, Tryz.ntmps60
    go_wp2
    go_ret
    exact ⟨ret_bool (by rw [hb.out]; try (simpa using h')), rfl⟩
theorem ver_list {n : Nat} (h : n = 1 ∨ n = 2 ∨ n = 3) : (txt (putN (n : Int) 1)).data.toList = be8 n 1 := by rcases h with rfl | rfl | rfl <;> rfl
theorem ver_size {n : Nat} (h : n = 1 ∨ n = 2 ∨ n = 3) : (txt (putN (n : Int) 1)).size = 1 := by rcases h with rfl | rfl | rfl <;> rfl

set_option maxRecDepth 100000 in
set_option maxHeartbeats 4000000 in
theorem impl_encode_ok (s : St) (v : Value) (n B : Nat) (w : World) (hs : StV w B v s) (hB : B ≤ w.heap.size) (hfit : Fits s) (hok : stOk s = true) (hn : n = 1 ∨ n = 2 ∨ n = 3) :
    Calls Tryz.prog 28 #[v, .int .i64 n] w fun e w' => e = .returned (.string (fmtS s n)) ∧ Below w.heap.size w w' := by
  obtain ⟨i1, i2, i3, i4⟩ := ok_smI hok
  have HS := Lib.hid hs
  obtain ⟨vi, vt, rfl, hri, hrt⟩ := hs.rd
  obtain ⟨W, hW⟩ : ∃ W, W = w.alloc (.cells #[vi, vt] 27) := ⟨_, rfl⟩
  have bW : Below w.heap.size w W := by rw [hW]; exact (Below.refl _ _).alloc (Nat.le_refl _) _
  have KA : Hid (W.heap[w.heap.size]? = some (.cells #[vi, vt] 27 (0, 0))) := Lib.hid (by rw [hW]; exact heap_new _ _)
  have LA : Hid (w.heap.size < W.heap.size) := Lib.hid (by rw [hW]; simp)
  have hc := impl_stateOk s _ B W (hs.later (bW.mono hB) (Nat.le_refl _)) (Nat.le_trans hB bW.size) hfit
  rw [hok] at hc
  have HRI := Lib.hid (hri.later (bW.mono hB) (Nat.le_trans hB bW.size))
  have HRT := Lib.hid (hrt.later (bW.mono hB) (Nat.le_trans hB bW.size))
  have BB := Lib.hid bW
  have B1 : Hid (Below W.heap.size W W) := Lib.hid (Below.refl _ _)
  have I1 := Lib.hid i1
  have I2 := Lib.hid i2
  have I3 := Lib.hid i3
  have I4 := Lib.hid i4
  have Hn := Lib.hid hn
  have Hok := Lib.hid hok
  have hin : Hid (inB (n : Int) 1 3 = true) := Lib.hid (by rcases hn with rfl | rfl | rfl <;> rfl)
  obtain ⟨vb, hvb⟩ : ∃ p, p = txt (putN (n : Int) 1) := ⟨_, rfl⟩
  have hvz : vb.size = 1 := by rw [hvb]; exact ver_size hn
  have Hvb : Hid (vb.data.toList = be8 n 1) := Lib.hid (by rw [hvb]; exact ver_list hn)
  have HVB := Lib.hid hvb
  obtain ⟨r1, hr1⟩ : ∃ r : ByteArray, r = ⟨(be8 s.items.length 2 ++ s.items.flatMap encIt).toArray⟩ := ⟨_, rfl⟩
  obtain ⟨r2, hr2⟩ : ∃ r : ByteArray, r = ⟨(be8 s.talks.length 2 ++ s.talks.flatMap encTk).toArray⟩ := ⟨_, rfl⟩
  have hz1 : r1.size ≤ 5300 := by
    have h := encI_flat i1
    rw [hr1]; show (List.toArray _).size ≤ _
    rw [List.size_toArray, List.length_append, be8_len]; omega
  have hz2 : r2.size ≤ 2800 := by
    have h := encT_flat i2
    rw [hr2]; show (List.toArray _).size ≤ _
    rw [List.size_toArray, List.length_append, be8_len]; omega
  have HR1 := Lib.hid hr1
  have HR2 := Lib.hid hr2
  have ns1 : ¬ 9223372036854775807 < 1 + 1 + r1.size := by omega
  have ns1' : ¬ 9223372036854775807 < 2 + r1.size := by omega
  clear hs hri hrt hfit bW hok i1 i2 i3 i4 hn hvb hr1 hr2
  have f0 := tcr KA 0
  have f1 := tcr KA 1
  rw [hW] at hc f0 f1
  go_enter Tryz.func28, Tryz.ntmps28
  go_wp2_with (first | (go_at_call 23; refine hc.mono ?_; rintro e w1 ⟨rfl, hb⟩; refine Hid.out ?_))
  refine Lib.hid ?_
  rw [← hW] at hb
  replace KA := tkb hb LA KA
  replace LA := tlz LA hb.size
  replace BB := tbt BB hb
  replace B1 := tbt B1 hb
  clear hc hW hb f0 f1
  go_wp2_with (go_at_call 60; refine (impl_versionOk _ _).mono ?_; rintro e w' ⟨rfl, rfl⟩; rw [hin.out]; refine Hid.out ?_)
  refine Lib.hid ?_
  clear hin
  go_wp2_with fail
  have FA : Hid (∀ w', Below w1.heap.size w1 w' → w'.cell? ⟨w.heap.size, 0, none⟩ = some vi ∧ w'.cell? ⟨w.heap.size, 1, none⟩ = some vt) := Lib.hid (fun w' h => by have K := tkb h LA KA; exact ⟨tcr K 0, tcr K 1⟩)
  refine wp_region_held_drew (S := (fun w' => Below w1.heap.size w1 w')) (by kernel_rfl) (Below.refl _ _).drew (fun hHeld => ?_)
  obtain ⟨zD, hzD⟩ : ∃ zz, zz = w1.drew := ⟨_, rfl⟩
  rw [← hzD] at hHeld ⊢
  clear hzD
  have BD := Lib.hid hHeld
  refine tk0 0 ?_
  refine tk0 3 ?_
  refine tk 4 (v := ?_) ?_ ?_; rotate_left
  · refine Or.inl ⟨by rfl, ?_⟩; intro w hSw; obtain ⟨f0, f1⟩ := FA.out w hSw; go_simp; first | done | with_reducible rfl
  refine rd1 1 (fun K hK => ?_)
  go_simp
  have hc := impl_putNum (n : Int) 1 (by have := Hn.out; omega) (by omega) zD
  rw [← HVB.out] at hc
  go_at_call 61
  refine hc.mono ?_
  rintro e w2 ⟨rfl, hb⟩
  replace BD := tbt BD hb
  clear hb hc
  go_wp2_with fail
  refine hK.out _ _ BD.out (fun hHeld => ?_)
  clear hK K
  refine tk0 2 ?_
  refine rd1 5 (fun K hK => ?_)
  go_simp
  have hc := impl_putRowsI s.items vi W.heap.size w2 (HRI.out.later (B1.out.trans (BD.out.mono B1.out.size)) (Nat.le_refl _)) (Nat.le_trans B1.out.size BD.out.size) I3.out I1.out
  rw [← HR1.out] at hc
  go_at_call 62
  refine hc.mono ?_
  rintro e w3 ⟨rfl, hb⟩
  replace BD := tbt BD hb
  clear hb hc
  go_wp2_with fail
  refine hK.out _ _ BD.out (fun hHeld => ?_)
  clear hK K
  refine tk0 6 ?_
  refine tk0 7 ?_
  refine wpAnyH_done (by kernel_rfl) ?_ _
  clear hHeld FA
  have hb := BD.out
  replace KA := tkb hb LA KA
  replace LA := tlz LA hb.size
  replace BB := tbt BB hb
  replace B1 := tbt B1 hb
  clear hb BD ns1 ns1'
  obtain ⟨e0, he0⟩ : ∃ x : ByteArray, x = ⟨#[70]⟩ ++ vb ++ r1 := ⟨_, rfl⟩
  have E0 : Hid (e0.data.toList = [70] ++ (be8 n 1 ++ (be8 s.items.length 2 ++ s.items.flatMap encIt))) := Lib.hid (by
    rw [he0, ByteArray.data_append, Array.toList_append, ByteArray.data_append, Array.toList_append, Hvb.out, HR1.out, List.append_assoc])
  have e0z : e0.size ≤ 5302 := by rw [he0, ByteArray.size_append, ByteArray.size_append, hvz]; show 1 + 1 + r1.size ≤ _; omega
  rw [← he0]
  clear he0 Hvb HVB hvz hz1
  by_cases h2 : 2 ≤ n
  · have hq2 : decide (2 ≤ (n : Int)) = true := by simp; omega
    have hq2' : 2 ≤ (n : Int) := by omega
    have f0 := tcr KA 0
    have f1 := tcr KA 1
    have ns2 : ¬ 9223372036854775807 < e0.size + r2.size := by omega
    have hc := impl_putRowsT s.talks vt W.heap.size w3 (HRT.out.later B1.out (Nat.le_refl _)) B1.out.size (Nat.le_trans I4.out (by decide)) I2.out
    rw [← HR2.out] at hc
    go_wp2_with (go_at_call 63; refine hc.mono ?_; rintro e w4 ⟨rfl, hb⟩; refine Hid.out ?_)
    refine Lib.hid ?_
    replace BB := tbt BB hb
    clear hc hb f0 f1
    have E1 : Hid (e0 ++ r2 = bodyB n s) := Lib.hid (by
      apply ByteArray.ext
      apply Array.toList_inj.mp
      rw [ByteArray.data_append, Array.toList_append, E0.out, HR2.out]
      have hn1 : n ≠ 1 := by omega
      simp [bodyB, bodyL, hn1, List.append_assoc])
    have e1z : (e0 ++ r2).size ≤ 1099511627776 := by rw [ByteArray.size_append]; omega
    by_cases h3 : 3 ≤ n
    · have hq3 : decide (3 ≤ (n : Int)) = true := by simp; omega
      have hq3' : 3 ≤ (n : Int) := by omega
      have FX : Hid (sealB (e0 ++ r2) = fmtS s n) := Lib.hid (by
        have h3' : n = 3 := by have := Hn.out; omega
        rw [E1.out, h3']; exact (fmtS_seal Hok.out).symm)
      have hc := impl_sealed (e0 ++ r2) w4 e1z
      go_wp2_with (go_at_call 64; refine hc.mono ?_; rintro e w5 ⟨rfl, hb⟩)
      go_ret
      exact ⟨ret_txt FX.out, BB.out.trans (hb.mono BB.out.size)⟩
    · have hq3 : decide (3 ≤ (n : Int)) = false := by simp; omega
      have hq3' : ¬ 3 ≤ (n : Int) := by omega
      have FX : Hid (e0 ++ r2 = fmtS s n) := Lib.hid (by
        rw [E1.out, fmtS_low Hok.out (by have := Hn.out; rcases this with rfl | rfl | rfl <;> rfl) (by omega)]; rfl)
      go_wp2_with fail
      go_ret
      exact ⟨ret_txt FX.out, BB.out⟩
  · have hq2 : decide (2 ≤ (n : Int)) = false := by simp; omega
    have hq2' : ¬ 2 ≤ (n : Int) := by omega
    have hq3 : decide (3 ≤ (n : Int)) = false := by simp; omega
    have hq3' : ¬ 3 ≤ (n : Int) := by omega
    have FX : Hid (e0 = fmtS s n) := Lib.hid (by
      have h1 : n = 1 := by have := Hn.out; omega
      rw [h1, show ((1 : Nat) : Int) = 1 by rfl, fmtS_low Hok.out (by rfl) (by decide)]
      apply ByteArray.ext
      apply Array.toList_inj.mp
      rw [E0.out, h1]
      simp [bodyB, bodyL])
    go_wp2_with fail
    go_ret
    exact ⟨ret_txt FX.out, BB.out⟩
theorem impl_encode (s : St) (v : Value) (n : Int) (B : Nat) (w : World) (hs : StV w B v s) (hB : B ≤ w.heap.size) (hfit : Fits s) :
    Calls Tryz.prog 28 #[v, .int .i64 n] w fun e w' => e = .returned (.string (fmtS s n)) ∧ Below w.heap.size w w' := by
  by_cases hgood : stOk s = true ∧ inB n 1 3 = true
  · obtain ⟨h1, h2⟩ := hgood
    have hb := inB_true h2
    obtain ⟨m, rfl⟩ := Int.eq_ofNat_of_zero_le (show 0 ≤ n by omega)
    exact impl_encode_ok s v m B w hs hB hfit h1 (by omega)
  · have hv : Hid ((⟨#[]⟩ : ByteArray) = fmtS s n) := Lib.hid (by unfold fmtS; rw [if_neg hgood])
    obtain ⟨vi, vt, rfl, hri, hrt⟩ := hs.rd
    obtain ⟨W, hW⟩ : ∃ W, W = w.alloc (.cells #[vi, vt] 27) := ⟨_, rfl⟩
    have bW : Below w.heap.size w W := by rw [hW]; exact (Below.refl _ _).alloc (Nat.le_refl _) _
    have KS : Hid (W.heap[w.heap.size]? = some (.cells #[vi, vt] 27 (0, 0))) := Lib.hid (by rw [hW]; exact heap_new _ _)
    have hc0 := impl_stateOk s _ B W (hs.later (bW.mono hB) (Nat.le_refl _)) (Nat.le_trans hB bW.size) hfit
    have f0 := tcr KS 0
    have f1 := tcr KS 1
    rw [hW] at hc0 f0 f1
    have BB := Lib.hid bW
    clear hs hri hrt bW KS
    cases hok : stOk s
    · rw [hok] at hc0
      clear hok hgood
      go_enter Tryz.func28, Tryz.ntmps28
      go_wp2_with (go_at_call 23; refine hc0.mono ?_; rintro e w1 ⟨rfl, hb1⟩)
      rw [← hW] at hb1
      go_ret
      exact ⟨ret_txt hv.out, BB.out.trans (hb1.mono BB.out.size)⟩
    · rw [hok] at hc0
      have hin : inB n 1 3 = false := by cases h : inB n 1 3 with | false => rfl | true => exact absurd ⟨hok, h⟩ hgood
      have Hin := Lib.hid hin
      clear hok hgood hin
      go_enter Tryz.func28, Tryz.ntmps28
      go_wp2_with (first | (go_at_call 23; refine hc0.mono ?_; rintro e w1 ⟨rfl, hb1⟩; refine Hid.out ?_))
      refine Lib.hid ?_
      rw [← hW] at hb1
      clear hc0 hW f0 f1
      go_wp2_with (go_at_call 60; refine (impl_versionOk _ _).mono ?_; rintro e w' ⟨rfl, rfl⟩; rw [Hin.out])
      go_ret
      exact ⟨ret_txt hv.out, BB.out.trans (hb1.mono BB.out.size)⟩
end Go.Proofs.YtdpjdjkfedcojaaGreat
