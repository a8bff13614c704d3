/- The program's readRows: the rows that a reader has next. Condition: a text of at most 2^40 bytes. -/
import Derived.Test.YtlklhmdpkicpnaaReadRow
namespace Go.Proofs.Ytlklhmdpkicpnaa
open Go.RowKit
set_option linter.unusedVariables false
set_option linter.unusedSimpArgs false

/-- How many rows are read. -/
def cntR (t : ByteArray) (lim : Nat) : Nat := (min (getN t 0 2) lim).toNat
/-- A row of the call's own; nil without an element. -/
def RowN (w : World) (base e size : Nat) (v : Value) (n : Nat) (cs : List Value) : Prop := (n = 0 ∧ cs = [] ∧ v = .slice none 0 0) ∨ (0 < n ∧ ∃ g cap, v = .slice (some ⟨g, 0, none⟩) n cap ∧ Got w base e size g n cap cs)
theorem RowN.grown {w w' : World} {base e size b n : Nat} {v : Value} {cs : List Value} (h : RowN w base e size v n cs) (hg : w.grownBy w' (some b)) (hb : b < base) : RowN w' base e size v n cs := by
  rcases h with h | ⟨h0, g, cap, h1, h2⟩
  · exact .inl h
  · exact .inr ⟨h0, g, cap, h1, h2.grown hg (by have := h2.2.2.2.1; omega)⟩
theorem RowN.later {w w' : World} {base e size n : Nat} {v : Value} {cs : List Value} (h : RowN w base e size v n cs) (hb : Below w.heap.size w w') : RowN w' base e size v n cs := by
  rcases h with h | ⟨h0, g, cap, h1, h2⟩
  · exact .inl h
  · exact .inr ⟨h0, g, cap, h1, h2.later hb⟩
theorem RowN.base {w : World} {base base' e size n : Nat} {v : Value} {cs : List Value} (h : RowN w base e size v n cs) (hb : base' ≤ base) : RowN w base' e size v n cs := by
  rcases h with h | ⟨h0, g, cap, h1, h2⟩
  · exact .inl h
  · exact .inr ⟨h0, g, cap, h1, h2.base hb⟩
theorem grown_low {w w1 w2 : World} {b g : Nat} (h : w.grownBy w1 (some b)) (hg : w1.grownBy w2 (some g)) (hn : w.heap.size ≤ g) : w.grownBy w2 (some b) := grown_far h hg hn

set_option maxRecDepth 100000 in
set_option maxHeartbeats 8000000 in
theorem readRowsI (t : ByteArray) (lim b : Nat) (w : World) (h : At1 w b t) (ht : t.size ≤ 1099511627776) (hlim : lim ≤ 1000) :
    Calls Try.prog 124 #[.pointer (some ⟨b, 0, none⟩), .int .i64 lim, .func (.func 125) #[.pointer (some ⟨b, 0, none⟩)] #[]] w fun e w' => ∃ v, e = .returned v ∧ RowN w' w.heap.size 114 2 v (itemsR (cntR t lim) (restN t 2)).1.length ((itemsR (cntR t lim) (restN t 2)).1.flatMap itC) ∧ At1 w' b (itemsR (cntR t lim) (restN t 2)).2 ∧ w.grownBy w' (some b) := by
  have hbl := h.lt
  obtain ⟨x0, hx0⟩ : ∃ z, z = getN t 0 2 := ⟨_, rfl⟩
  obtain ⟨t1, ht1⟩ : ∃ z, z = restN t 2 := ⟨_, rfl⟩
  have s1 : t1.size ≤ t.size := by rw [ht1]; exact restN_size _ _
  have l0 := getN_lo t 0 2
  have l1 := getN_hi t 0 2
  obtain ⟨n, hn⟩ : ∃ n, n = cntR t lim := ⟨_, rfl⟩
  have hn1 : n = (min x0 (lim : Int)).toNat := by rw [hn, hx0]; rfl
  rw [← hx0] at l0 l1
  have hc := rd_num t 2 b w h (.inl rfl) ht
  rw [show ((2 : Nat) : Int) = 2 from rfl, ← hx0, ← ht1] at hc
  rw [← hn, ← ht1]
  have Hbl := Lib.hid hbl
  have Hn := Lib.hid hn1
  clear h hx0 ht1 hn hbl hn1
  go_enter Try.func124, Try.ntmps124
  go_wp2_with (go_at_call 68; refine hc.mono ?_; rintro e w1 ⟨rfl, a1, g1⟩; refine Hid.out ?_)
  refine Lib.hid ?_
  have A0 := Lib.hid a1
  have GG := Lib.hid g1
  clear hc a1 g1
  obtain ⟨m, hm⟩ : ∃ m : Int, m = min x0 (lim : Int) := ⟨_, rfl⟩
  have hif : (if (lim : Int) < x0 then (lim : Int) else x0) = m := by rw [hm]; split <;> omega
  have Hmn : Hid (n = m.toNat) := Lib.hid (by rw [Hn.out, hm])
  have hm2 : m ≤ (lim : Int) ∧ -1 ≤ m := by omega
  clear hm Hn
  go_wp2_with fail
  clear hif
  go_loopw [7, 12] (fun o i wr => ∃ (k : Nat) (oa : Option Addr) (oc : Nat), o = .slice oa k oc ∧ i = .int .i64 k ∧ k ≤ n ∧ Hid (RowN wr w.heap.size 114 2 (.slice oa k oc) k ((itemsR k t1).1.flatMap itC)) ∧ Hid (At1 wr b (itemsR k t1).2) ∧ Hid (w.grownBy wr (some b))) (fun _ i _ => n - (intOf i).toNat)
  case atStart => exact ⟨0, _, _, rfl, rfl, Nat.zero_le _, Lib.hid (.inl ⟨rfl, rfl, rfl⟩), A0, GG⟩
  case round =>
    clear A0 GG
    obtain ⟨k, oa, oc, rfl, rfl, hk, RR, A0, GG⟩ := hrel
    obtain ⟨xs, hxs⟩ : ∃ z, z = (itemsR k t1).1 := ⟨_, rfl⟩
    obtain ⟨t2, ht2⟩ : ∃ z, z = (itemsR k t1).2 := ⟨_, rfl⟩
    obtain ⟨h1, h2, _⟩ := itemsR_le k t1
    rw [← ht2] at A0 h2
    rw [← hxs] at RR h1
    have HXS := Lib.hid hxs
    have HT2 := Lib.hid ht2
    have Hlen := Lib.hid h1
    clear hxs ht2 h1
    by_cases hlt : k < n
    · have hlt' : (k : Int) < m := by have := Hmn.out; omega
      obtain ⟨y, hy⟩ : ∃ z, z = (itemR t2).1 := ⟨_, rfl⟩
      obtain ⟨t3, ht3⟩ : ∃ z, z = (itemR t2).2 := ⟨_, rfl⟩
      have HS : Hid (itemsR (k + 1) t1 = (xs ++ [y], t3)) := Lib.hid (by rw [itemsR_snoc, ← HXS.out, ← HT2.out, ← hy, ← ht3])
      have hc := rd_item t2 b wr A0.out (by omega)
      rw [← hy, ← ht3] at hc
      clear hy ht3 hlt
      unfold itA at hc
      go_wp2_with (go_at_call 125; refine hc.mono ?_; rintro e w3 ⟨rfl, a1, g1, z1⟩; refine Hid.out ?_)
      refine Lib.hid ?_
      clear hc
      have hwr := GG.out.size
      have hbl := Hbl.out
      replace RR := Lib.hid (RR.out.grown g1 hbl)
      replace A0 := Lib.hid a1
      replace GG := Lib.hid (GG.out.trans g1)
      obtain ⟨A, hA⟩ : ∃ A, A = w3.alloc (.cells #[.string y.k, .string y.v] 114) := ⟨_, rfl⟩
      have bA : Below w3.heap.size w3 A := by rw [hA]; exact (Below.refl _ _).alloc (Nat.le_refl _) _
      have sA : w3.heap.size < A.heap.size := by rw [hA]; simp
      have gA : w3.grownBy A (some b) := by rw [hA]; exact grown_alloc0 _ _ _
      have rX : Raw A A.heap.size (.slice (some ⟨w3.heap.size, 0, none⟩) 1 1) 1 [.string y.k, .string y.v] := ⟨_, 1, rfl, Nat.le_refl _, by decide, (fun h => by cases h), fun _ => ⟨w3.heap.size, 0, rfl, sA, fun j u hu => by
        rw [hA, World.cell?_alloc_new]
        simpa using hu⟩⟩
      obtain ⟨i0, p1, p2, p3, p4⟩ := info_parts infoIt
      obtain ⟨g, cap, hsl, hgot, hge⟩ : ∃ g cap, SlN (.slice oa k oc) g k cap ∧ Got A w.heap.size 114 2 g k cap (xs.flatMap itC) ∧ w.heap.size ≤ g := by
        rcases RR.out with ⟨h0, h1, h2⟩ | ⟨h0, g, cap, h1, h2⟩
        · obtain ⟨e1, e2, e3⟩ : oa = none ∧ k = 0 ∧ oc = 0 := by simpa using h2
          refine ⟨wr.heap.size, 0, ⟨none, by rw [e1, e3], .inr ⟨rfl, h0, rfl⟩⟩, ?_, hwr⟩
          rw [h1, h0]
          exact ⟨rfl, Nat.le_refl _, Nat.zero_le _, hwr, by omega, .inl ⟨rfl, rfl⟩⟩
        · exact ⟨g, cap, ⟨_, h1, .inl rfl⟩, h2.later bA, h2.2.2.2.1⟩
      obtain ⟨g', cap', w4, hrun, hg4, hloc, got4⟩ := run_appN (P := Try.prog) A 41 41 114 i0 _ 2 32 Try.underlying41 p1 p2 p3 p4 rfl (by decide) g k cap w.heap.size _ hgot (.slice oa k oc) hsl _ _ 1 _ rX (by decide) rfl (by intro u hu; simp at hu; rcases hu with rfl | rfl <;> rfl) (by unfold maxLen; omega) (by omega) (by omega)
      have R4 : Hid (RowN w4 w.heap.size 114 2 (.slice (some ⟨g', 0, none⟩) (k + 1) cap') (k + 1) ((itemsR (k + 1) t1).1.flatMap itC)) := Lib.hid (.inr ⟨by omega, g', cap', rfl, by rw [HS.out]; show Got w4 _ _ _ g' (k + 1) cap' ((xs ++ [y]).flatMap itC); rw [List.flatMap_append]; exact got4⟩)
      have A4 : Hid (At1 w4 b (itemsR (k + 1) t1).2) := Lib.hid (by rw [HS.out]; exact (A0.out.later bA).far hg4 (by omega))
      have G4 : Hid (w.grownBy w4 (some b)) := Lib.hid (grown_far (GG.out.trans gA) hg4 hge)
      rw [hA] at hrun
      clear hA bA sA gA rX p1 p2 p3 p4 hsl hgot hge hg4 hloc got4 RR A0 GG HS HXS HT2 a1 g1 z1 hwr hbl
      go_wp2_with (at_builtin; refine wpList_app rfl _ _ _ rfl _ _ _ rfl rfl hrun ?_)
      go_roundw
      case rel => exact ⟨k + 1, _, _, rfl, by go_num, by have := Hmn.out; omega, R4, A4, G4⟩
      case measure => have := Hmn.out; simp [intOf]; omega
    · have hlt' : ¬ (k : Int) < m := by have := Hmn.out; omega
      have hkn : n = k := by omega
      have HR : Hid (RowN wr w.heap.size 114 2 (.slice oa k oc) (itemsR n t1).1.length ((itemsR n t1).1.flatMap itC)) := Lib.hid (by rw [hkn, ← HXS.out, Hlen.out]; exact RR.out)
      have HA : Hid (At1 wr b (itemsR n t1).2) := Lib.hid (by rw [hkn, ← HT2.out]; exact A0.out)
      clear hkn RR A0 HXS HT2 Hlen
      go_wp2_with fail
      go_ret
      exact ⟨_, rfl, HR.out, HA.out, GG.out⟩

set_option maxRecDepth 100000 in
set_option maxHeartbeats 8000000 in
theorem readRowsT (t : ByteArray) (lim b : Nat) (w : World) (h : At1 w b t) (ht : t.size ≤ 1099511627776) (hlim : lim ≤ 1000) :
    Calls Try.prog 126 #[.pointer (some ⟨b, 0, none⟩), .int .i64 lim, .func (.func 127) #[.pointer (some ⟨b, 0, none⟩)] #[]] w fun e w' => ∃ v, e = .returned v ∧ RowN w' w.heap.size 116 3 v (talksR (cntR t lim) (restN t 2)).1.length ((talksR (cntR t lim) (restN t 2)).1.flatMap tkC) ∧ At1 w' b (talksR (cntR t lim) (restN t 2)).2 ∧ w.grownBy w' (some b) := by
  have hbl := h.lt
  obtain ⟨x0, hx0⟩ : ∃ z, z = getN t 0 2 := ⟨_, rfl⟩
  obtain ⟨t1, ht1⟩ : ∃ z, z = restN t 2 := ⟨_, rfl⟩
  have s1 : t1.size ≤ t.size := by rw [ht1]; exact restN_size _ _
  have l0 := getN_lo t 0 2
  have l1 := getN_hi t 0 2
  obtain ⟨n, hn⟩ : ∃ n, n = cntR t lim := ⟨_, rfl⟩
  have hn1 : n = (min x0 (lim : Int)).toNat := by rw [hn, hx0]; rfl
  rw [← hx0] at l0 l1
  have hc := rd_num t 2 b w h (.inl rfl) ht
  rw [show ((2 : Nat) : Int) = 2 from rfl, ← hx0, ← ht1] at hc
  rw [← hn, ← ht1]
  have Hbl := Lib.hid hbl
  have Hn := Lib.hid hn1
  clear h hx0 ht1 hn hbl hn1
  go_enter Try.func126, Try.ntmps126
  go_wp2_with (go_at_call 68; refine hc.mono ?_; rintro e w1 ⟨rfl, a1, g1⟩; refine Hid.out ?_)
  refine Lib.hid ?_
  have A0 := Lib.hid a1
  have GG := Lib.hid g1
  clear hc a1 g1
  obtain ⟨m, hm⟩ : ∃ m : Int, m = min x0 (lim : Int) := ⟨_, rfl⟩
  have hif : (if (lim : Int) < x0 then (lim : Int) else x0) = m := by rw [hm]; split <;> omega
  have Hmn : Hid (n = m.toNat) := Lib.hid (by rw [Hn.out, hm])
  have hm2 : m ≤ (lim : Int) ∧ -1 ≤ m := by omega
  clear hm Hn
  go_wp2_with fail
  clear hif
  go_loopw [7, 12] (fun o i wr => ∃ (k : Nat) (oa : Option Addr) (oc : Nat), o = .slice oa k oc ∧ i = .int .i64 k ∧ k ≤ n ∧ Hid (RowN wr w.heap.size 116 3 (.slice oa k oc) k ((talksR k t1).1.flatMap tkC)) ∧ Hid (At1 wr b (talksR k t1).2) ∧ Hid (w.grownBy wr (some b))) (fun _ i _ => n - (intOf i).toNat)
  case atStart => exact ⟨0, _, _, rfl, rfl, Nat.zero_le _, Lib.hid (.inl ⟨rfl, rfl, rfl⟩), A0, GG⟩
  case round =>
    clear A0 GG
    obtain ⟨k, oa, oc, rfl, rfl, hk, RR, A0, GG⟩ := hrel
    obtain ⟨xs, hxs⟩ : ∃ z, z = (talksR k t1).1 := ⟨_, rfl⟩
    obtain ⟨t2, ht2⟩ : ∃ z, z = (talksR k t1).2 := ⟨_, rfl⟩
    obtain ⟨h1, h2, _⟩ := talksR_le k t1
    rw [← ht2] at A0 h2
    rw [← hxs] at RR h1
    have HXS := Lib.hid hxs
    have HT2 := Lib.hid ht2
    have Hlen := Lib.hid h1
    clear hxs ht2 h1
    by_cases hlt : k < n
    · have hlt' : (k : Int) < m := by have := Hmn.out; omega
      obtain ⟨y, hy⟩ : ∃ z, z = (talkR t2).1 := ⟨_, rfl⟩
      obtain ⟨t3, ht3⟩ : ∃ z, z = (talkR t2).2 := ⟨_, rfl⟩
      have HS : Hid (talksR (k + 1) t1 = (xs ++ [y], t3)) := Lib.hid (by rw [talksR_snoc, ← HXS.out, ← HT2.out, ← hy, ← ht3])
      have hc := rd_talk t2 b wr A0.out (by omega)
      rw [← hy, ← ht3] at hc
      clear hy ht3 hlt
      unfold tkA at hc
      go_wp2_with (go_at_call 127; refine hc.mono ?_; rintro e w3 ⟨rfl, a1, g1, z1⟩; refine Hid.out ?_)
      refine Lib.hid ?_
      clear hc
      have hwr := GG.out.size
      have hbl := Hbl.out
      replace RR := Lib.hid (RR.out.grown g1 hbl)
      replace A0 := Lib.hid a1
      replace GG := Lib.hid (GG.out.trans g1)
      obtain ⟨A, hA⟩ : ∃ A, A = w3.alloc (.cells #[.string y.c, .int .i64 y.q, .string y.r] 116) := ⟨_, rfl⟩
      have bA : Below w3.heap.size w3 A := by rw [hA]; exact (Below.refl _ _).alloc (Nat.le_refl _) _
      have sA : w3.heap.size < A.heap.size := by rw [hA]; simp
      have gA : w3.grownBy A (some b) := by rw [hA]; exact grown_alloc0 _ _ _
      have rX : Raw A A.heap.size (.slice (some ⟨w3.heap.size, 0, none⟩) 1 1) 1 [.string y.c, .int .i64 y.q, .string y.r] := ⟨_, 1, rfl, Nat.le_refl _, by decide, (fun h => by cases h), fun _ => ⟨w3.heap.size, 0, rfl, sA, fun j u hu => by
        rw [hA, World.cell?_alloc_new]
        simpa using hu⟩⟩
      obtain ⟨i0, p1, p2, p3, p4⟩ := info_parts infoTk
      obtain ⟨g, cap, hsl, hgot, hge⟩ : ∃ g cap, SlN (.slice oa k oc) g k cap ∧ Got A w.heap.size 116 3 g k cap (xs.flatMap tkC) ∧ w.heap.size ≤ g := by
        rcases RR.out with ⟨h0, h1, h2⟩ | ⟨h0, g, cap, h1, h2⟩
        · obtain ⟨e1, e2, e3⟩ : oa = none ∧ k = 0 ∧ oc = 0 := by simpa using h2
          refine ⟨wr.heap.size, 0, ⟨none, by rw [e1, e3], .inr ⟨rfl, h0, rfl⟩⟩, ?_, hwr⟩
          rw [h1, h0]
          exact ⟨rfl, Nat.le_refl _, Nat.zero_le _, hwr, by omega, .inl ⟨rfl, rfl⟩⟩
        · exact ⟨g, cap, ⟨_, h1, .inl rfl⟩, h2.later bA, h2.2.2.2.1⟩
      obtain ⟨g', cap', w4, hrun, hg4, hloc, got4⟩ := run_appN (P := Try.prog) A 42 42 116 i0 _ 3 40 Try.underlying42 p1 p2 p3 p4 rfl (by decide) g k cap w.heap.size _ hgot (.slice oa k oc) hsl _ _ 1 _ rX (by decide) rfl (by intro u hu; simp at hu; rcases hu with rfl | rfl | rfl <;> rfl) (by unfold maxLen; omega) (by omega) (by omega)
      have R4 : Hid (RowN w4 w.heap.size 116 3 (.slice (some ⟨g', 0, none⟩) (k + 1) cap') (k + 1) ((talksR (k + 1) t1).1.flatMap tkC)) := Lib.hid (.inr ⟨by omega, g', cap', rfl, by rw [HS.out]; show Got w4 _ _ _ g' (k + 1) cap' ((xs ++ [y]).flatMap tkC); rw [List.flatMap_append]; exact got4⟩)
      have A4 : Hid (At1 w4 b (talksR (k + 1) t1).2) := Lib.hid (by rw [HS.out]; exact (A0.out.later bA).far hg4 (by omega))
      have G4 : Hid (w.grownBy w4 (some b)) := Lib.hid (grown_far (GG.out.trans gA) hg4 hge)
      rw [hA] at hrun
      clear hA bA sA gA rX p1 p2 p3 p4 hsl hgot hge hg4 hloc got4 RR A0 GG HS HXS HT2 a1 g1 z1 hwr hbl
      go_wp2_with (at_builtin; refine wpList_app rfl _ _ _ rfl _ _ _ rfl rfl hrun ?_)
      go_roundw
      case rel => exact ⟨k + 1, _, _, rfl, by go_num, by have := Hmn.out; omega, R4, A4, G4⟩
      case measure => have := Hmn.out; simp [intOf]; omega
    · have hlt' : ¬ (k : Int) < m := by have := Hmn.out; omega
      have hkn : n = k := by omega
      have HR : Hid (RowN wr w.heap.size 116 3 (.slice oa k oc) (talksR n t1).1.length ((talksR n t1).1.flatMap tkC)) := Lib.hid (by rw [hkn, ← HXS.out, Hlen.out]; exact RR.out)
      have HA : Hid (At1 wr b (talksR n t1).2) := Lib.hid (by rw [hkn, ← HT2.out]; exact A0.out)
      clear hkn RR A0 HXS HT2 Hlen
      go_wp2_with fail
      go_ret
      exact ⟨_, rfl, HR.out, HA.out, GG.out⟩
end Go.Proofs.Ytlklhmdpkicpnaa
