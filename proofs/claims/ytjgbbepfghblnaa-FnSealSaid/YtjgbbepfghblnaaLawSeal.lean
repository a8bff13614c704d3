/- The law FnSeal: a text comes back from its seal; with some bits in a row of 32 turned there is none. Condition: none. -/
import Derived.Test.YtjgbbepfghblnaaBig
import Derived.Test.YtjgbbepfghblnaaDraw2b
import Derived.Test.YtjgbbepfghblnaaSealBack
import Derived.Test.YtjgbbepfghblnaaBits64
namespace Go.Proofs.Ytjgbbepfghblnaa
open Go.RowKit
set_option linter.unusedVariables false

/-- A byte of the code, or a number that stands for it. -/
theorem at_any (a : Option Addr) (len cap : Nat) (zs : List Int) (i : Nat) (hi : i ≤ 5) (w : World) (hr : Row8 w w.heap.size a len cap zs) (hl : len ≤ 1048576) :
    Calls Try.prog 34 #[.slice a len cap, .int .i64 i] w fun e w' => ∃ x : Nat, x < 256 ∧ e = .returned (.int .i64 x) ∧ w = w' := by
  by_cases h : i < len
  · obtain ⟨b, off, z, rfl, hb, hcell, hz0, hz1, hzz⟩ := hr.byte i h
    clear hzz
    obtain ⟨x, rfl⟩ := Int.eq_ofNat_of_zero_le hz0
    go_enter Try.func34, Try.ntmps34
    go_wp2_with fail
    go_ret
    exact ⟨x, by omega, rfl, rfl⟩
  · have hv : Hid (((i : Int) * 7 + (len : Int)).tmod 256 = (((i * 7 + len) % 256 : Nat) : Int)) := Lib.hid (by rw [Int.tmod_eq_emod_of_nonneg (by omega)]; omega)
    go_enter Try.func34, Try.ntmps34
    go_wp2_with fail
    go_ret
    exact ⟨(i * 7 + len) % 256, by omega, ret_int (by rw [← hv.out]; rfl), rfl⟩

/-- A text as a row of bytes that may be written. -/
theorem conv_bytes_free (s : ByteArray) (w : World) : ∃ cap w1, (convert 9 22 (.string s)).run Try.prog w = .ok (.slice (some ⟨w.heap.size, 0, none⟩) s.size cap) w1 ∧
    RowAt w1 w.heap.size s.data.toList ∧ Below w.heap.size w w1 ∧ w.heap.size < w1.heap.size ∧ s.size ≤ cap ∧ ∀ j, j < s.size → w1.frozen? ⟨w.heap.size, j, none⟩ = false := by
  have hge := grownCap_ge w s.size 0 5
  refine ⟨_, _, run_bytes_of_string w 9 22 5 s Try.underlying9 Try.underlying22 Try.underlying5, fun j h => ?_, ((Below.refl _ _).drew).alloc (Nat.le_refl _) _, by simp, hge, fun j h1 => ?_⟩
  · have hj : j < s.size := by simpa using h
    rw [World.cell?, heap_drew_alloc]
    simp [bytesRow, Array.getElem?_append, hj]
  · rw [World.frozen?, heap_drew_alloc]
    simp [bytesRow]
    omega

theorem test_nat (M k : Nat) (h : M < 4294967296) : bits .and .i64 ((M : Int) / 2 ^ k) 1 = ((M / 2 ^ k % 2 : Nat) : Int) := by
  have hle : M / 2 ^ k ≤ M := Nat.div_le_self _ _
  have h1 := i64_and_nat (M / 2 ^ k) 1 (by omega) (by decide)
  rw [nat_mask1] at h1
  rw [← h1]
  congr 1
theorem test_on (M k : Nat) (hb : M.testBit k = true) (h : M < 4294967296) : (bits .and .i64 ((M : Int) / 2 ^ k) 1 == 1) = true := by
  rw [test_nat M k h]
  rw [Nat.testBit_eq_decide_div_mod_eq] at hb
  have := of_decide_eq_true hb
  rw [this]; rfl
theorem test_off (M k : Nat) (hb : M.testBit k = false) (h : M < 4294967296) : (bits .and .i64 ((M : Int) / 2 ^ k) 1 == 1) = false := by
  rw [test_nat M k h]
  rw [Nat.testBit_eq_decide_div_mod_eq] at hb
  have := of_decide_eq_false hb
  rw [show M / 2 ^ k % 2 = 0 by omega]; rfl
theorem pow_small (r : Nat) (hr : r < 8) : ((2 : Int) ^ r % 256 = ((2 ^ r : Nat) : Int)) ∧ 2 ^ r < 256 := by
  rcases (show r = 0 ∨ r = 1 ∨ r = 2 ∨ r = 3 ∨ r = 4 ∨ r = 5 ∨ r = 6 ∨ r = 7 by omega) with rfl | rfl | rfl | rfl | rfl | rfl | rfl | rfl <;> decide
theorem turn_small (c r : Nat) (hc : c < 256) (hr : r < 8) : c ^^^ 2 ^ r < 256 := xor_lt8 hc (pow_small r hr).2
theorem turn_byte (c r : Nat) (hc : c < 256) (hr : r < 8) : bits .xor .u8 (c : Int) ((2 : Int) ^ r % 256) = ((c ^^^ 2 ^ r : Nat) : Int) := by
  rw [(pow_small r hr).1]
  exact u8_xor_nat c (2 ^ r) hc (pow_small r hr).2
theorem burst_odd (M k : Nat) (hk : 1 ≤ k) (h : M.testBit 0 = true) : M % 2 ^ k ≠ 0 := by
  intro hc
  have h1 : (M % 2 ^ k).testBit 0 = true := by rw [Nat.testBit_mod_two_pow]; simp [h]; omega
  rw [hc] at h1
  simp at h1
theorem toNat_small (n : Nat) (h : n < 256) : (UInt8.ofNat n).toNat = n := by simp; omega
theorem RowAt.set {w : World} {g : Nat} {l : List UInt8} (h : RowAt w g l) (j : Nat) (hj : j < l.length) (v : Value) (c : Nat) (hc : c < 256) (hv : v = .int .u8 (c : Int) := by rfl) : RowAt (w.setCell ⟨g, j, none⟩ v) g (l.set j (UInt8.ofNat c)) := fun i hi => by
  rw [List.length_set] at hi
  by_cases he : j = i
  · subst he
    rw [World.cell?_setCell_same _ _ _ (h j hj), hv]
    simp
    omega
  · rw [World.cell?_setCell_other _ _ _ _ (fun e => he (congrArg Addr.off e)), h i hi]
    simp [he]

set_option maxHeartbeats 4000000 in
theorem law_seal (a : Option Addr) (len cap : Nat) (zs : List Int) (w : World) (hr : IsRow .u8 w a len cap zs) :
    Calls Try.prog 5 #[.slice a len cap] w fun e w' => e = .returned (.bool true) ∧ Below w.heap.size w w' := by
  have hr := row8_of hr
  by_cases hbig : 1048576 < len
  · have hd : decide (1048576 < len) = true := by simpa using hbig
    go_enter Try.func5, Try.ntmps5
    go_wp2_with (go_at_call 15; refine (big_any _ _ _ _).mono ?_; rintro e w' ⟨rfl, rfl⟩)
    go_ret
    exact ⟨rfl, Below.refl _ _⟩
  · have hd : decide (1048576 < len) = false := by simpa using hbig
    have hlen : len ≤ 1048576 := by omega
    go_enter Try.func5, Try.ntmps5
    go_wp2_with (first | (go_at_call 15; refine (big_any _ _ _ _).mono ?_; rintro e w' ⟨rfl, rfl⟩) | (go_at_call 28; refine (drawSealed_any a len cap zs _ hr hlen).mono ?_; rintro e w1 ⟨s, rfl, hs, hb1⟩; refine Hid.out ?_))
    refine Lib.hid ?_
    have hr1 := hr.later hb1
    go_wp2_with (go_at_call 29; refine (impl_sealed _ _ (by omega)).mono ?_; rintro e w2 ⟨rfl, hb2⟩; refine Hid.out ?_)
    refine Lib.hid ?_
    have hr2 := hr1.later hb2
    have hb2 := hb1.trans (hb2.mono hb1.size)
    clear hr1
    have hz : (sealB s).size = s.size + 4 := by unfold sealB; rw [ByteArray.size_append, leB_size]
    have H1 := impl_opened (sealB s) w2 (by omega)
    rw [open_sealed] at H1
    go_wp2_with (go_at_call 30; refine H1.mono ?_; rintro e w3 ⟨rfl, hb3⟩; refine Hid.out ?_)
    refine Lib.hid ?_
    have hr3 := hr2.later hb3
    have hb3 := hb2.trans (hb3.mono hb2.size)
    clear hr2 H1
    go_wp2_with (go_at_call 31; refine (drawOpened_any a len cap zs _ hr3 hlen).mono ?_; rintro e w4 ⟨t, rfl, ht, hb4⟩; refine Hid.out ?_)
    refine Lib.hid ?_
    have hr4 := hr3.later hb4
    have hb4 := hb3.trans (hb4.mono hb3.size)
    clear hr3
    have H1 := fun w => impl_opened t w (by omega)
    have H2 := fun w => spec_opened t w (by omega)
    have hso := seal_opened t
    have hoz := open_size t
    generalize openB t = o at H1 H2 hso hoz
    obtain ⟨u, fine⟩ := o
    simp only at H1 H2 hso hoz
    go_wp2_with (go_at_call 30; refine (H1 _).mono ?_; rintro e w5 ⟨rfl, hb5⟩; refine Hid.out ?_)
    refine Lib.hid ?_
    have hr5 := hr4.later hb5
    have hb5 := hb4.trans (hb5.mono hb4.size)
    clear hr4 H1
    go_wp2_with (go_at_call 32; refine (H2 _).mono ?_; rintro e w6 ⟨rfl, hb6⟩; refine Hid.out ?_)
    refine Lib.hid ?_
    have hr6 := hr5.later hb6
    have hb6 := hb5.trans (hb6.mono hb5.size)
    clear hr5 H2
    go_wp2_with (go_at_call 33; refine (spec_sealed _ _ (by omega)).mono ?_; rintro e w7 ⟨rfl, hb7⟩; refine Hid.out ?_)
    refine Lib.hid ?_
    have hr7 := hr6.later hb7
    have hb7 := hb6.trans (hb7.mono hb6.size)
    clear hr6
    cases fine
    case' false =>
      obtain ⟨w8, rfl⟩ : ∃ x, x = w7 := ⟨_, rfl⟩
    case' true =>
      obtain rfl := hso rfl
      go_wp2_with (go_at_call 29; refine (impl_sealed _ _ (by omega)).mono ?_; rintro e w8 ⟨rfl, hb8⟩; refine Hid.out ?_)
      refine Lib.hid ?_
      have hr7 := hr7.later hb8
      have hb7 := hb7.trans (hb8.mono hb7.size)
    all_goals
      have Hr7 := Lib.hid hr7
      clear hr7
      go_wp2_with (go_at_call 34; refine (at_any a len cap zs 0 (by omega) _ Hr7.out hlen).mono ?_; rintro e w' ⟨x0, hx0, rfl, rfl⟩; refine Hid.out ?_)
      refine Lib.hid ?_
      go_wp2_with (go_at_call 34; refine (at_any a len cap zs 1 (by omega) _ Hr7.out hlen).mono ?_; rintro e w' ⟨x1, hx1, rfl, rfl⟩; refine Hid.out ?_)
      refine Lib.hid ?_
      obtain ⟨F, hFd⟩ : ∃ F, F = (x0 * 256 + x1) % (8 * (s.size + 4)) := ⟨_, rfl⟩
      have hF1 : F < 8 * (s.size + 4) := by rw [hFd]; exact Nat.mod_lt _ (by omega)
      have hF : ((x0 : Int) * 256 + (x1 : Int)) % (8 * ((s.size : Int) + 4)) = (F : Int) := by rw [hFd]; simp
      clear hFd
      go_wp2_with (go_at_call 34; refine (at_any a len cap zs 2 (by omega) _ Hr7.out hlen).mono ?_; rintro e w' ⟨x2, hx2, rfl, rfl⟩; refine Hid.out ?_)
      refine Lib.hid ?_
      go_wp2_with (go_at_call 34; refine (at_any a len cap zs 3 (by omega) _ Hr7.out hlen).mono ?_; rintro e w' ⟨x3, hx3, rfl, rfl⟩; refine Hid.out ?_)
      refine Lib.hid ?_
      go_wp2_with (go_at_call 34; refine (at_any a len cap zs 4 (by omega) _ Hr7.out hlen).mono ?_; rintro e w' ⟨x4, hx4, rfl, rfl⟩; refine Hid.out ?_)
      refine Lib.hid ?_
      go_wp2_with (go_at_call 34; refine (at_any a len cap zs 5 (by omega) _ Hr7.out hlen).mono ?_; rintro e w' ⟨x5, hx5, rfl, rfl⟩; refine Hid.out ?_)
      refine Lib.hid ?_
      obtain ⟨M, hMd⟩ : ∃ M, M = ((x2 * 256 + x3) * 65536 + x4 * 256 + x5) ||| 1 := ⟨_, rfl⟩
      have hM1 : M < 4294967296 := by rw [hMd]; exact Nat.or_lt_two_pow (n := 32) (by omega) (by decide)
      have hM0 : M.testBit 0 = true := by rw [hMd, Nat.testBit_or]; simp
      have hM : bits .or .i64 (((x2 : Int) * 256 + (x3 : Int)) * 65536 + (x4 : Int) * 256 + (x5 : Int)) 1 = (M : Int) := by
        have h := i64_or_nat ((x2 * 256 + x3) * 65536 + x4 * 256 + x5) 1 (by omega) (by decide)
        rw [hMd, ← h]; simp
      clear hMd
      obtain ⟨cap9, w9, hcv, hrow, hbel, hlt, hcap, hfz⟩ := conv_bytes_free (sealB s) w8
      rw [hz] at hcv
      have hb9 := hb7.trans (hbel.mono hb7.size)
      have hX : (sealB s).data.toList.length = s.size + 4 := by rw [← hz]; simp
      have Hrow := Lib.hid hrow
      have Hfz := Lib.hid hfz
      have Hb9 := Lib.hid hb9
      have Hlt := Lib.hid hlt
      have HG := Lib.hid hb7.size
      clear hrow hfz hb9 hlt hbel
      rw [hz] at hcap
      generalize hG : w8.heap.size = G at *
      go_wp2_with fail
      clear hM hF hcv hG
      go_loopw [15] (fun i wr => ∃ (k : Nat) (l : List UInt8), k ≤ 32 ∧ i = .int .i64 k ∧ l.length = s.size + 4 ∧ Hid (RowAt wr G l) ∧ Hid (leN l = leN (sealB s).data.toList ^^^ burst M F k) ∧ Hid (Below w.heap.size w wr) ∧ Hid (∀ j, j < s.size + 4 → wr.frozen? ⟨G, j, none⟩ = false) ∧ Hid (G < wr.heap.size)) (fun i _ => 32 - (intOf i).toNat)
      case atStart => exact ⟨0, (sealB s).data.toList, by omega, rfl, hX, Hrow, Lib.hid (by rw [burst_zero, Nat.xor_zero]), Hb9, Lib.hid (fun j h => Hfz.out j (by omega)), Hlt⟩
      case round =>
        obtain ⟨k, l, hk, rfl, hll, hrow, hle, hbw, hfz, hgw⟩ := hrel
        by_cases hgo : k < 32 ∧ (F + k) / 8 < s.size + 4
        · obtain ⟨hk32, hjn⟩ := hgo
          obtain ⟨j, hj⟩ : ∃ j, j = (F + k) / 8 := ⟨_, rfl⟩
          obtain ⟨r, hr⟩ : ∃ r, r = (F + k) % 8 := ⟨_, rfl⟩
          have hj' : ((F : Int) + (k : Int)) / 8 = (j : Int) := by omega
          have hr' : ((F : Int) + (k : Int)) % 8 = (r : Int) := by omega
          have hr8 : r < 8 := by omega
          have hjn' : j < s.size + 4 := by omega
          have hjl : j < l.length := by omega
          have hcell := hrow.out j hjl
          have hfr := hfz.out j (by omega)
          obtain ⟨c, hc⟩ : ∃ c, c = l[j].toNat := ⟨_, rfl⟩
          have hc8 : c < 256 := by rw [hc]; exact l[j].toNat_lt
          rw [← hc] at hcell
          have Hj := Lib.hid hj
          have Hr := Lib.hid hr
          have Hc := Lib.hid hc
          have Hll := Lib.hid hll
          clear hj hr hc hX hll hjn
          by_cases hbit : M.testBit k = true
          · have htb := test_on M k hbit hM1
            have hx8 := turn_byte c r hc8 hr8
            have hrel' : Hid (RowAt (wr.setCell ⟨G, j, none⟩ (.int .u8 ((c ^^^ 2 ^ r : Nat) : Int))) G (l.set j (UInt8.ofNat (c ^^^ 2 ^ r)))) := Lib.hid (hrow.out.set j hjl _ (c ^^^ 2 ^ r) (turn_small c r hc8 hr8))
            have hlen' : Hid ((l.set j (UInt8.ofNat (c ^^^ 2 ^ r))).length = s.size + 4) := Lib.hid (by rw [List.length_set]; exact Hll.out)
            have hle' : Hid (leN (l.set j (UInt8.ofNat (c ^^^ 2 ^ r))) = leN (sealB s).data.toList ^^^ burst M F (k + 1)) := Lib.hid (by
              have hs8 := turn_small c r hc8 hr8
              rw [leN_set l j r hjl hr8 _ (by rw [← Hc.out]; exact toNat_small _ hs8), hle.out, burst_on M F k hbit, Nat.xor_assoc]
              have h1 := Hj.out
              have h2 := Hr.out
              rw [show 8 * j + r = F + k by omega])
            have hbw' := Lib.hid (hbw.out.setCell (p := ⟨G, j, none⟩) (show w.heap.size ≤ G from HG.out) (.int .u8 ((c ^^^ 2 ^ r : Nat) : Int)))
            generalize c ^^^ 2 ^ r = c' at *
            generalize l.set j (UInt8.ofNat c') = l' at *
            clear hbit
            go_wp2
            go_roundw
            case rel => exact ⟨k + 1, l', by omega, by go_num, hlen'.out, hrel', hle', hbw', Lib.hid (fun i hi => by rw [World.frozen?_setCell]; exact hfz.out i hi), Lib.hid (by simpa using hgw.out)⟩
            case measure => simp [intOf]; omega
          · have hbit : M.testBit k = false := by simpa using hbit
            have htb := test_off M k hbit hM1
            have hle' : Hid (leN l = leN (sealB s).data.toList ^^^ burst M F (k + 1)) := Lib.hid (by rw [burst_off M F k hbit]; exact hle.out)
            clear hbit
            go_wp2
            go_roundw
            case rel => exact ⟨k + 1, l, by omega, by go_num, Hll.out, hrow, hle', hbw, hfz, hgw⟩
            case measure => simp [intOf]; omega
        · have hk1 : 1 ≤ k := by
            rcases Nat.eq_zero_or_pos k with h0 | h0
            · exact absurd ⟨by omega, by rw [h0]; omega⟩ hgo
            · exact h0
          have hno := not_open s l (M % 2 ^ k) F (by omega) hle.out (burst_odd M k hk1 hM0) (Nat.lt_of_le_of_lt (Nat.mod_le _ _) hM1) (by omega)
          have hlz : (⟨l.toArray⟩ : ByteArray).size = s.size + 4 := by show l.toArray.size = _; simp; exact hll
          have hcv := conv_row wr G l (s.size + 4) cap9 hll.symm hrow.out
          have hop := impl_opened ⟨l.toArray⟩ wr (by omega)
          rw [hno] at hop
          have hbw := hbw.out
          have hsz := hbw.size
          generalize (⟨l.toArray⟩ : ByteArray) = tb at *
          clear hno hle hrow hfz hgw hX hll hlz
          by_cases hk2 : k < 32
          · obtain ⟨j, hj⟩ : ∃ j, j = (F + k) / 8 := ⟨_, rfl⟩
            have hj' : ((F : Int) + (k : Int)) / 8 = (j : Int) := by omega
            have hjn : ¬ ((j : Int) < (s.size : Int) + 4) := by omega
            clear hgo hj
            go_wp2_with (first | (go_at_call 30; refine hop.mono ?_; rintro e w10 ⟨rfl, hb10⟩) | (go_at_call 35; refine (impl_crc _ _ (by omega)).mono ?_; rintro e w11 ⟨rfl, hb11⟩) | (go_at_call 36; refine (spec_crc _ _ (by unfold maxLen; omega)).mono ?_; rintro e w' ⟨rfl, rfl⟩))
            go_ret
            exact ⟨rfl, (hbw.trans (hb10.mono hsz)).trans (hb11.mono (hbw.trans (hb10.mono hsz)).size)⟩
          · clear hgo
            go_wp2_with (first | (go_at_call 30; refine hop.mono ?_; rintro e w10 ⟨rfl, hb10⟩) | (go_at_call 35; refine (impl_crc _ _ (by omega)).mono ?_; rintro e w11 ⟨rfl, hb11⟩) | (go_at_call 36; refine (spec_crc _ _ (by unfold maxLen; omega)).mono ?_; rintro e w' ⟨rfl, rfl⟩))
            go_ret
            exact ⟨rfl, (hbw.trans (hb10.mono hsz)).trans (hb11.mono (hbw.trans (hb10.mono hsz)).size)⟩
end Go.Proofs.Ytjgbbepfghblnaa
