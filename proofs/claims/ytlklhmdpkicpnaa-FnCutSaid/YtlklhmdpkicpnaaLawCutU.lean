/- The law FnCut: pieces have all bytes, one behind the other, each of its size. Condition: none. -/
import Derived.Test.YtlklhmdpkicpnaaCurA
import Derived.Test.YtlklhmdpkicpnaaDrawCut
import Derived.Test.YtlklhmdpkicpnaaImplCut
import Derived.Test.YtlklhmdpkicpnaaImplGet
import Derived.Test.YtlklhmdpkicpnaaSameRaw
import Derived.Test.YtlklhmdpkicpnaaExpBack
import Derived.Test.YtlklhmdpkicpnaaBaseA
import Derived.BigQuiet
import Derived.Deep.QuietTactic
namespace Go.Proofs.Ytlklhmdpkicpnaa
open Go.RowKit
set_option linter.unusedVariables false
set_option linter.unusedSimpArgs false

theorem str_some {s : ByteArray} (h : ¬ s = ⟨#[]⟩) : s.toList.isEmpty = false := by
  rw [ByteArray.toList_eq]
  cases hc : s.data.toList with
  | nil => exact absurd (ByteArray.ext (Array.toList_inj.mp (by rw [hc]))) h
  | cons a l => rfl
theorem cut_big {s : ByteArray} {m : Nat} (h : cutS s (m : Int) = []) (hs : ¬ s = ⟨#[]⟩) (h1 : 8 ≤ m) (h2 : m ≤ 200) : m * 600 < s.size := by
  by_cases hm : 600 < manyN s m
  · unfold manyN at hm
    have h3 : 601 * m ≤ s.size + m - 1 := Nat.le_trans (Nat.mul_le_mul_right _ (show 601 ≤ (s.size + m - 1) / m by omega)) (Nat.div_mul_le_self _ _)
    rw [Nat.add_mul 600 1 m, Nat.mul_comm 600 m] at h3
    omega
  · have hc := cut_ok hs (show inB (m : Int) 8 200 = true by unfold inB; simp; omega) hm
    rw [h] at hc
    have hl := cutUp_len s m (manyN s m)
    rw [← hc] at hl
    have hz : 0 < s.size := by
      rcases Nat.eq_zero_or_pos s.size with h0 | h0
      · exact absurd (ByteArray.ext (Array.eq_empty_of_size_eq_zero h0)) hs
      · exact h0
    have := many_pos hz (show 0 < m by omega)
    simp at hl
    omega
theorem cut_some {s : ByteArray} {m : Nat} (h : ¬ cutS s (m : Int) = []) : 8 ≤ m ∧ m ≤ 200 ∧ cutS s (m : Int) = cutUp s m (manyN s m) ∧ manyN s m ≤ 600 := by
  by_cases h0 : s = ⟨#[]⟩
  · rw [h0] at h; exact absurd (cut_none _) h
  · by_cases hz : inB (m : Int) 8 200 = true
    · have hb := inB_true hz
      by_cases hm : 600 < manyN s m
      · exact absurd (cut_many hm) h
      · exact ⟨by omega, by omega, cut_ok h0 hz hm, by omega⟩
    · exact absurd (cut_size (by simpa using hz)) h
theorem parts_le {s : ByteArray} {n k : Nat} (hn : 0 < n) (h : k ≤ manyN s n) : (partsTo s n k).size ≤ s.size := by
  rw [parts_are hn k h, ByteArray.size_extract]
  omega
theorem part_even {s : ByteArray} {n k : Nat} (hn : 0 < n) (h : k + 1 < manyN s n) : (partB s n k).size = n := by
  have h1 := many_in hn h
  unfold partB
  rw [ByteArray.size_extract]
  unfold endN
  rw [if_pos (by omega), Nat.min_eq_left (by omega), Nat.add_mul]
  omega
set_option maxRecDepth 100000 in
set_option maxHeartbeats 8000000 in
theorem law_cutU (a : Option Addr) (len cap : Nat) (zs : List Int) (w : World) (hr : IsRow .u8 w a len cap zs) :
    Calls Try.prog 4 #[.slice a len cap] w fun e w' => e = .returned (.bool true) ∧ Below w.heap.size w w' := by
  have hr := row8_of hr
  by_cases hbig : 1048576 < len
  · have hd : decide (1048576 < len) = true := by simpa using hbig
    go_enter Try.func4, Try.ntmps4
    go_wp2_with (go_at_call 17; refine (big_any _ _ _ _).mono ?_; rintro e w' ⟨rfl, rfl⟩)
    go_ret
    exact ⟨rfl, Below.refl _ _⟩
  have hd : decide (1048576 < len) = false := by simpa using hbig
  have hlen : len ≤ 1048576 := by omega
  have Hr8 := Lib.hid hr
  have BB : Hid (Below w.heap.size w w) := Lib.hid (Below.refl _ _)
  go_enter Try.func4, Try.ntmps4
  go_wp2_with (go_at_call 17; refine (big_any _ _ _ _).mono ?_; rintro e w' ⟨rfl, rfl⟩; refine Hid.out ?_)
  refine Lib.hid ?_
  clear hd hbig hr
  have hc := drawCut_any a len cap zs w Hr8.out hlen
  go_wp2_with (go_at_call 26; refine hc.mono ?_; rintro e w1 ⟨s, n, rfl, hs, hn, hb⟩; refine Hid.out ?_)
  refine Lib.hid ?_
  replace BB := Lib.hid hb
  clear hb hc
  obtain ⟨n0, n1⟩ := hn
  obtain ⟨m, rfl⟩ := Int.eq_ofNat_of_zero_le n0
  have hm201 : m ≤ 201 := by omega
  clear n0 n1
  obtain ⟨E, hE⟩ : ∃ E, E = cutS s (m : Int) := ⟨_, rfl⟩
  have HE := Lib.hid hE
  have hlnE := exp_len s (m : Int)
  rw [← hE] at hlnE
  clear hE
  have hc := impl_cut s (m : Int) w1 (by omega)
  rw [← HE.out] at hc
  go_wp2_with (go_at_call 27; refine hc.mono ?_; rintro e w2 ⟨vE, rfl, hE, hb⟩; refine Hid.out ?_)
  refine Lib.hid ?_
  replace BB := tbt BB hb
  clear hc hb 
  obtain ⟨ea, ec, rfl, hraw⟩ := texts_raw hE
  have RE := Lib.hid hraw
  clear hraw hE
  have hc := spec_cut s (m : Int) w2 (by omega)
  rw [← HE.out] at hc
  go_wp2_with (go_at_call 29; refine hc.mono ?_; rintro e w3 ⟨vW, rfl, hW, hb⟩; refine Hid.out ?_)
  refine Lib.hid ?_
  replace RE := Lib.hid (RE.out.later hb hb.size)
  replace BB := tbt BB hb
  clear hc hb 
  obtain ⟨wa, wc, rfl, hraw⟩ := texts_raw hW
  have RW := Lib.hid hraw
  clear hraw hW
  have hc := same_raw E _ _ w3.heap.size w3 RE.out RW.out (Nat.le_refl _)
  go_wp2_with (go_at_call 28; refine hc.mono ?_; rintro e w4 ⟨rfl, hb⟩; refine Hid.out ?_)
  refine Lib.hid ?_
  replace RE := Lib.hid (RE.out.later hb hb.size)
  replace RW := Lib.hid (RW.out.later hb hb.size)
  replace BB := tbt BB hb
  clear hc hb 
  clear RW
  by_cases hE0 : E = []
  · have hl0 : ((E.length : Int) == 0) = true := by rw [hE0]; rfl
    have HN : Hid (cutS s (m : Int) = []) := Lib.hid (by rw [← HE.out]; exact hE0)
    clear hE0 RE
    by_cases hse : s = ⟨#[]⟩
    · have hee : s.toList.isEmpty = true := by rw [hse]; simp
      clear hse
      go_wp2_with fail
      go_ret
      exact ⟨rfl, BB.out⟩
    have hee : s.toList.isEmpty = false := str_some hse
    by_cases h8 : m < 8
    · have h8' : (m : Int) < 8 := by omega
      go_wp2_with fail
      go_ret
      exact ⟨rfl, BB.out⟩
    have h8' : ¬ (m : Int) < 8 := by omega
    by_cases h200 : 200 < m
    · have h200' : (200 : Int) < (m : Int) := by omega
      go_wp2_with fail
      go_ret
      exact ⟨rfl, BB.out⟩
    have h200' : ¬ (200 : Int) < (m : Int) := by omega
    have hbig := cut_big HN.out hse (by omega) (by omega)
    have hgt : (m : Int) * 600 < (s.size : Int) := by omega
    clear hse HN
    go_wp2_with fail
    go_ret
    exact ⟨rfl, BB.out⟩
  · have hcut := cut_some (by rw [← HE.out]; exact hE0)
    obtain ⟨h8, h200, hcu⟩ := hcut
    rw [← HE.out] at hcu
    obtain ⟨hEc, hM6⟩ := hcu
    have hMl : manyN s m = E.length := by rw [hEc, cutUp_len]
    have hl0 : ((E.length : Int) == 0) = false := by rw [beq_eq_false_iff_ne]; intro h; exact hE0 (List.eq_nil_of_length_eq_zero (by omega))
    have HEC := Lib.hid hEc
    have HMl := Lib.hid hMl
    clear hE0 hEc hMl HE
    have B4 : Hid (Below w4.heap.size w4 w4) := Lib.hid (Below.refl _ _)
    have hc := impl_hash ⟨#[]⟩ w4 (by show 0 ≤ maxLen; omega)
    rw [show hashN (⟨#[]⟩ : ByteArray).data.toList = chainN s m 0 from rfl] at hc
    obtain ⟨c0, hc0⟩ : ∃ c, c = chainN s m 0 := ⟨_, rfl⟩
    rw [← hc0] at hc
    have HC0 := Lib.hid hc0
    clear hc0
    go_wp2_with (go_at_call 30; refine hc.mono ?_; rintro e v2 ⟨rfl, rfl⟩; refine Hid.out ?_)
    refine Lib.hid ?_
    clear hc
    go_wp2_with fail
    go_loopw [6, 7, 8] (fun al ch i wr => ∃ k : Nat, k ≤ E.length ∧ i = .int .i64 k ∧ (∃ c : Nat, ch = .int .i64 c ∧ Hid (c = chainN s m k)) ∧ (∃ b : ByteArray, al = .string b ∧ Hid (b = partsTo s m k)) ∧ Hid (Below w4.heap.size w4 wr)) (fun _ _ i _ => E.length - (intOf i).toNat)
    case atStart => exact ⟨0, Nat.zero_le _, rfl, ⟨c0, rfl, HC0⟩, ⟨⟨#[]⟩, rfl, Lib.hid rfl⟩, Lib.hid (Below.refl _ _)⟩
    case round =>
      obtain ⟨k, hk, rfl, ⟨c, rfl, HC⟩, ⟨b, rfl, HBp⟩, BW⟩ := hrel
      by_cases hlt : k < E.length
      · obtain ⟨_, _, e0, _, _, _, hA⟩ := RE.out
        obtain ⟨g, o, ha, hg, hAt⟩ := hA (by omega)
        have hea : ea = some ⟨g, o, none⟩ := by injection e0 with q1; rw [q1]; exact ha
        subst hea
        obtain ⟨x, hx⟩ : ∃ x, x = E[k] := ⟨_, rfl⟩
        have hcx : (E.map Value.string)[k]? = some (.string x) := by rw [List.getElem?_map, List.getElem?_eq_getElem hlt, ← hx]; rfl
        have f0 : wr.cell? ⟨g, o + k, none⟩ = some (.string x) := by rw [BW.out.cell (show g < w4.heap.size from hg)]; exact hAt k _ hcx
        have hxe : x = pcB (pieceN s m k) := by rw [hx]; simp only [HEC.out]; exact cut_at s m _ k (by rw [HMl.out]; exact hlt)
        have hxz := pc_le (pieceN s m k)
        rw [← hxe] at hxz
        have hgp : getP x = (pieceN s m k, true) := by rw [hxe]; exact piece_is (by omega) h200 hM6 (by rw [HMl.out]; exact hlt)
        have hps := part_size (s := s) (n := m) (k := k) (by omega) (by rw [HMl.out]; exact hlt)
        have hpe := part_even (s := s) (n := m) (k := k) (by omega)
        rw [HMl.out] at hpe
        obtain ⟨P, hP⟩ : ∃ P, P = partB s m k := ⟨_, rfl⟩
        rw [← hP] at hps hpe
        have HP := Lib.hid hP
        obtain ⟨c1, hc1⟩ : ∃ c, c = chainN s m (k + 1) := ⟨_, rfl⟩
        have hc1b : c1 < 4294967296 := by rw [hc1]; exact chain_lt _ _ _
        have hcb : c < 4294967296 := by rw [HC.out]; exact chain_lt _ _ _
        have HC1 := Lib.hid hc1
        have hc := impl_getPiece x wr (by omega)
        rw [hgp] at hc
        simp only [pcV, pieceN] at hc
        rw [← hP, ← hc1, HMl.out] at hc
        have HLK : Hid (linkN (c : Int) P = c1) := Lib.hid (by rw [HC.out, HP.out, HC1.out]; rfl)
        have BW2 := BW
        have hbz : b.size ≤ 8193 := by rw [HBp.out]; exact Nat.le_trans (parts_le (by omega) (by rw [HMl.out]; omega)) hs
        clear hgp hxe hx hcx hAt hA e0 hP hc1 ha
        go_wp2_with (go_at_call 21; refine hc.mono ?_; rintro e x1 ⟨rfl, hb⟩; refine Hid.out ?_)
        refine Lib.hid ?_
        replace BW := tbt BW hb
        clear hc hb f0 BW2
        obtain ⟨X, hX⟩ : ∃ z, z = x1.alloc (.cells #[.int .i64 ((k : Int) + 1), .int .i64 (E.length : Nat), .string P, .int .i64 (c1 : Nat)] 25) := ⟨_, rfl⟩
        have hb : Below x1.heap.size x1 X := by rw [hX]; exact (Below.refl _ _).alloc (Nat.le_refl _) _
        replace BW := tbt BW hb
        have KX : Hid (X.heap[x1.heap.size]? = some (.cells #[.int .i64 ((k : Int) + 1), .int .i64 (E.length : Nat), .string P, .int .i64 (c1 : Nat)] 25 (0, 0))) := Lib.hid (by rw [hX]; exact heap_new _ _)
        have LX : Hid (x1.heap.size < X.heap.size) := Lib.hid (by rw [hX]; simp)
        clear hb
        have fX0 := tcr KX 0
        have fX1 := tcr KX 1
        have fX2 := tcr KX 2
        have fX3 := tcr KX 3
        have hc := impl_link (c : Int) P X (by omega) (by omega)
        rw [HLK.out] at hc
        rw [hX] at fX0 fX1 fX2 fX3 hc
        go_wp2_with (go_at_call 31; refine hc.mono ?_; rintro e x2 ⟨rfl, hb⟩; refine Hid.out ?_)
        refine Lib.hid ?_
        rw [← hX] at hb
        replace BW := tbt BW hb
        replace KX := tkb hb LX KX
        replace LX := tlz LX hb.size
        clear hX hb hc fX0 fX1 fX2 fX3
        have fX0 := tcr KX 0
        have fX1 := tcr KX 1
        have fX2 := tcr KX 2
        have fX3 := tcr KX 3
        have hn1 : ((k : Int) + 1 != (k : Int) + 1) = false := by simp
        have hn2 : ((E.length : Int) != (E.length : Int)) = false := by simp
        have hn3 : ((c1 : Int) != (c1 : Int)) = false := by simp
        by_cases hl : k + 1 < E.length
        · have hPm : ((P.size : Int) != (m : Int)) = false := by rw [hpe hl]; simp
          go_wp2_with fail
          go_roundw
          case rel => exact ⟨k + 1, by omega, by go_num, ⟨c1, rfl, HC1⟩, ⟨b ++ P, rfl, Lib.hid (by rw [HBp.out, HP.out]; rfl)⟩, BW⟩
          case measure => simp [intOf]; omega
        by_cases hPm' : P.size = m
        · have hPm : ((P.size : Int) != (m : Int)) = false := by rw [hPm']; simp
          go_wp2_with fail
          go_roundw
          case rel => exact ⟨k + 1, by omega, by go_num, ⟨c1, rfl, HC1⟩, ⟨b ++ P, rfl, Lib.hid (by rw [HBp.out, HP.out]; rfl)⟩, BW⟩
          case measure => simp [intOf]; omega
        have hPm : ((P.size : Int) != (m : Int)) = true := by rw [bne_iff_ne]; intro h; exact hPm' (by omega)
        have hl' : ¬ ((k : Int) + 1 < (E.length : Int)) := by omega
        go_wp2_with fail
        go_roundw
        case rel => exact ⟨k + 1, by omega, by go_num, ⟨c1, rfl, HC1⟩, ⟨b ++ P, rfl, Lib.hid (by rw [HBp.out, HP.out]; rfl)⟩, BW⟩
        case measure => simp [intOf]; omega
      have hall : b = s := by rw [HBp.out, show k = manyN s m by rw [HMl.out]; omega]; exact parts_all (by omega)
      subst hall
      go_wp2
      go_ret
      exact ⟨rfl, BB.out.trans (BW.out.mono BB.out.size)⟩
end Go.Proofs.Ytlklhmdpkicpnaa
