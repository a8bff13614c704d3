/- What the proofs of this seat have in common: plain facts, rows in memory, the laws' own helpers, the small functions' contracts. Condition: none. -/
import Derived.Test.YtdpjdjkfedcojaaGreatNumA
import Derived.Test.YtdpjdjkfedcojaaGreatBaseA
import Derived.Test.YtdpjdjkfedcojaaGreatFmtA
import Derived.RegionTactic
import Derived.ChangeAlike
import Derived.Test.YtdpjdjkfedcojaaGreatAppendNil
namespace Go.Proofs.YtdpjdjkfedcojaaGreat
open Go.RowKit
set_option linter.unusedVariables false
set_option linter.unusedSimpArgs false

/-- What is left behind a number, and behind a text. -/
def restN (t : ByteArray) (k : Nat) : ByteArray := t.extract (min k t.size) t.size
def restT (t : ByteArray) : ByteArray := t.extract (max (getTextB t 0).2 0).toNat t.size
theorem restN_size (t : ByteArray) (k : Nat) : (restN t k).size ≤ t.size := by unfold restN; rw [ByteArray.size_extract]; omega
theorem restT_size (t : ByteArray) : (restT t).size ≤ t.size := by unfold restT; rw [ByteArray.size_extract]; omega
/-- A reader that stands at a text. -/
def At1 (w : World) (b : Nat) (t : ByteArray) : Prop := w.heap[b]? = some (.cells #[.string t] 102 (0, 0))

set_option maxRecDepth 100000 in
set_option maxHeartbeats 4000000 in
theorem rd_text (t : ByteArray) (b : Nat) (w : World) (h : At1 w b t) (ht : t.size ≤ 1099511627776) :
    Calls Tryz.prog 74 #[.pointer (some ⟨b, 0, none⟩)] w fun e w' => e = .returned (.string (getTextB t 0).1) ∧ At1 w' b (restT t) ∧ w.grownBy w' (some b) := by
  have K := Lib.hid h
  have f0 := tcr K 0
  have z0 := tfr K 0
  have te := text_end t 0
  obtain ⟨x, hx⟩ : ∃ x, x = (getTextB t 0).1 := ⟨_, rfl⟩
  obtain ⟨q, hq⟩ : ∃ q, q = (getTextB t 0).2 := ⟨_, rfl⟩
  have hc := impl_getText t 0 (by omega) w ht
  rw [← hq] at te
  rw [← hx, ← hq] at hc
  have Hx := Lib.hid hx
  have Hq := Lib.hid hq
  clear hx hq h
  go_enter Tryz.func74, Tryz.ntmps74
  go_wp2_with (go_at_call 107; refine hc.mono ?_; rintro e w1 ⟨rfl, rfl⟩; refine Hid.out ?_)
  refine Lib.hid ?_
  clear hc
  have e1 : q < 0 → t = restT t := fun h => by unfold restT; rw [← Hq.out, show max q 0 = 0 by omega]; simp
  have e2 : 0 ≤ q → t.extract q.toNat t.size = restT t := fun h => by unfold restT; rw [← Hq.out, show max q 0 = q by omega]
  have E1 := Lib.hid e1
  have E2 := Lib.hid e2
  clear e1 e2
  go_wp2_with fail
  · go_ret
    refine ⟨congrArg (fun z => Ending.returned (.string z)) Hx.out, ?_, grown_set _ _ _⟩
    have r := heap_setCell_same w b 0 _ _ (.string t) K.out
    unfold At1
    rw [← E1.out ‹_›]
    exact r
  · go_ret
    refine ⟨congrArg (fun z => Ending.returned (.string z)) Hx.out, ?_, grown_set _ _ _⟩
    have r := heap_setCell_same w b 0 _ _ (.string (t.extract q.toNat t.size)) K.out
    unfold At1
    rw [← E2.out ‹_›]
    exact r
set_option maxRecDepth 100000 in
set_option maxHeartbeats 4000000 in
theorem rd_num (t : ByteArray) (k : Nat) (b : Nat) (w : World) (h : At1 w b t) (hk : k = 2 ∨ k = 4) (ht : t.size ≤ 1099511627776) :
    Calls Tryz.prog 73 #[.pointer (some ⟨b, 0, none⟩), .int .i64 k] w fun e w' => e = .returned (.int .i64 (getN t 0 k)) ∧ At1 w' b (restN t k) ∧ w.grownBy w' (some b) := by
  have K := Lib.hid h
  have f0 := tcr K 0
  obtain ⟨x, hx⟩ : ∃ x, x = getN t 0 k := ⟨_, rfl⟩
  have hc := impl_getNum t 0 k (by omega) (by omega) w (by unfold maxLen; omega)
  rw [← hx] at hc
  have Hx := Lib.hid hx
  clear hx h
  go_enter Tryz.func73, Tryz.ntmps73
  go_wp2_with (go_at_call 81; refine hc.mono ?_; rintro e w1 ⟨rfl, rfl⟩; refine Hid.out ?_)
  refine Lib.hid ?_
  clear hc
  go_wp2_with fail
  clear f0
  have f0 : w.drew.cell? ⟨b, 0, none⟩ = some (.string t) := tcr (w := w.drew) K 0
  have z0 : w.drew.frozen? ⟨b, 0, none⟩ = false := tfr (w := w.drew) K 0
  have e : t.extract (if t.size < k then (t.size : Int) else (k : Int)).toNat t.size = restN t k := by
    unfold restN
    by_cases hk' : t.size < k
    · rw [if_pos hk', Nat.min_eq_right (by omega)]; rfl
    · rw [if_neg hk', Nat.min_eq_left (by omega)]; rfl
  have E := Lib.hid e
  clear e
  go_region
  rw [E.out]
  have r : Hid (((w.setCell ⟨b, 0, none⟩ (.string (restN t k))).drew).heap[b]? = some (.cells #[.string (restN t k)] 102 (0, 0))) := Lib.hid (heap_setCell_same w b 0 _ _ (.string (restN t k)) K.out)
  have g : Hid (w.grownBy (w.setCell ⟨b, 0, none⟩ (.string (restN t k))).drew (some b)) := Lib.hid ((grown_set w ⟨b, 0, none⟩ _).trans ⟨rfl, rfl, rfl, Nat.le_refl _, fun _ _ _ => rfl⟩)
  go_wp2_with fail
  all_goals
    go_ret
    exact ⟨congrArg (fun z => Ending.returned (.int .i64 z)) Hx.out, r.out, g.out⟩
end Go.Proofs.YtdpjdjkfedcojaaGreat

namespace Go.Proofs.YtdpjdjkfedcojaaGreat
open Go.RowKit
set_option linter.unusedVariables false
set_option linter.unusedSimpArgs false

def itemR (t : ByteArray) : It × ByteArray := (⟨(getTextB t 0).1, (getTextB (restT t) 0).1⟩, restT (restT t))
def talkR (t : ByteArray) : Tk × ByteArray := (⟨(getTextB t 0).1, getN (restT t) 0 4, (getTextB (restN (restT t) 4) 0).1⟩, restT (restN (restT t) 4))
def itemsR : Nat → ByteArray → List It × ByteArray
  | 0, t => ([], t)
  | n + 1, t => ((itemR t).1 :: (itemsR n (itemR t).2).1, (itemsR n (itemR t).2).2)
def talksR : Nat → ByteArray → List Tk × ByteArray
  | 0, t => ([], t)
  | n + 1, t => ((talkR t).1 :: (talksR n (talkR t).2).1, (talksR n (talkR t).2).2)
theorem itemsR_snoc : ∀ (k : Nat) (t : ByteArray), itemsR (k + 1) t = ((itemsR k t).1 ++ [(itemR (itemsR k t).2).1], (itemR (itemsR k t).2).2)
  | 0, t => rfl
  | k + 1, t => by rw [itemsR, itemsR_snoc k]; rfl
theorem talksR_snoc : ∀ (k : Nat) (t : ByteArray), talksR (k + 1) t = ((talksR k t).1 ++ [(talkR (talksR k t).2).1], (talkR (talksR k t).2).2)
  | 0, t => rfl
  | k + 1, t => by rw [talksR, talksR_snoc k]; rfl
theorem itemR_le (t : ByteArray) : (itemR t).2.size ≤ t.size ∧ (itemR t).1.k.size ≤ t.size ∧ (itemR t).1.v.size ≤ t.size := by
  have h1 := restT_size t
  have h2 := restT_size (restT t)
  have h3 := text_small t 0
  have h4 := text_small (restT t) 0
  exact ⟨Nat.le_trans h2 h1, h3, Nat.le_trans h4 h1⟩
theorem talkR_le (t : ByteArray) : (talkR t).2.size ≤ t.size ∧ (talkR t).1.c.size ≤ t.size ∧ (talkR t).1.r.size ≤ t.size ∧ -1 ≤ (talkR t).1.q ∧ (talkR t).1.q ≤ 4294967295 := by
  have h1 := restT_size t
  have h2 := restN_size (restT t) 4
  have h3 := restT_size (restN (restT t) 4)
  have h4 := text_small t 0
  have h5 := text_small (restN (restT t) 4) 0
  have h6 := getN_lo (restT t) 0 4
  have h7 := getN_hi (restT t) 0 4
  simp only [talkR]
  exact ⟨Nat.le_trans h3 (Nat.le_trans h2 h1), h4, Nat.le_trans h5 (Nat.le_trans h2 h1), h6, h7⟩
theorem itemsR_le : ∀ (k : Nat) (t : ByteArray), (itemsR k t).1.length = k ∧ (itemsR k t).2.size ≤ t.size ∧ ∀ x ∈ (itemsR k t).1, x.k.size ≤ t.size ∧ x.v.size ≤ t.size
  | 0, t => ⟨rfl, Nat.le_refl _, fun x hx => by cases hx⟩
  | k + 1, t => by
    obtain ⟨h1, h2, h3⟩ := itemsR_le k (itemR t).2
    have h := itemR_le t
    refine ⟨by rw [itemsR]; simp [h1], by rw [itemsR]; exact Nat.le_trans h2 h.1, fun x hx => ?_⟩
    rw [itemsR] at hx
    rcases List.mem_cons.1 hx with rfl | hx
    · exact h.2
    · have := h3 x hx; omega
theorem talksR_le : ∀ (k : Nat) (t : ByteArray), (talksR k t).1.length = k ∧ (talksR k t).2.size ≤ t.size ∧ ∀ x ∈ (talksR k t).1, x.c.size ≤ t.size ∧ x.r.size ≤ t.size ∧ -1 ≤ x.q ∧ x.q ≤ 4294967295
  | 0, t => ⟨rfl, Nat.le_refl _, fun x hx => by cases hx⟩
  | k + 1, t => by
    obtain ⟨h1, h2, h3⟩ := talksR_le k (talkR t).2
    have h := talkR_le t
    refine ⟨by rw [talksR]; simp [h1], by rw [talksR]; exact Nat.le_trans h2 h.1, fun x hx => ?_⟩
    rw [talksR] at hx
    rcases List.mem_cons.1 hx with rfl | hx
    · exact h.2
    · have := h3 x hx; omega
theorem At1.far {w w' : World} {b g : Nat} {t : ByteArray} (h : At1 w b t) (hg : w.grownBy w' (some g)) (hn : b ≠ g) : At1 w' b t :=
  (hg.block b (Array.getElem?_eq_some_iff.1 h).1 (by simp; exact hn)).trans h
theorem At1.lt {w : World} {b : Nat} {t : ByteArray} (h : At1 w b t) : b < w.heap.size := (Array.getElem?_eq_some_iff.1 h).1
theorem At1.later {w w' : World} {b : Nat} {t : ByteArray} (h : At1 w b t) (hb : Below w.heap.size w w') : At1 w' b t := (hb.block b h.lt).trans h
theorem grown_alloc0 (w : World) (o : Obj) (r : Option Nat) : w.grownBy (w.alloc o) r := ⟨rfl, rfl, rfl, by simp, fun k hk _ => Below.heap_alloc _ _ _ (by omega)⟩

set_option maxRecDepth 100000 in
set_option maxHeartbeats 4000000 in
theorem rd_item (t : ByteArray) (b : Nat) (w : World) (h : At1 w b t) (ht : t.size ≤ 1099511627776) :
    Calls Tryz.prog 83 #[.pointer (some ⟨b, 0, none⟩)] w fun e w' => e = .returned (itA (itemR t).1) ∧ At1 w' b (itemR t).2 ∧ w.grownBy w' (some b) ∧ w.heap.size < w'.heap.size := by
  have hbl := h.lt
  obtain ⟨W, hW⟩ : ∃ W, W = w.alloc (.cells #[.string ⟨#[]⟩, .string ⟨#[]⟩] 45) := ⟨_, rfl⟩
  have g0 : w.grownBy W (some b) := by rw [hW]; exact grown_alloc0 _ _ _
  have sW : W.heap.size = w.heap.size + 1 := by rw [hW]; simp
  have KR : Hid (W.heap[w.heap.size]? = some (.cells #[.string ⟨#[]⟩, .string ⟨#[]⟩] 45 (0, 0))) := Lib.hid (by rw [hW]; exact heap_new _ _)
  have LR : Hid (w.heap.size < W.heap.size) := Lib.hid (by omega)
  have A0 := Lib.hid (h.later (by rw [hW]; exact (Below.refl _ _).alloc (Nat.le_refl _) _) : At1 W b t)
  have GG := Lib.hid g0
  have Hne : Hid (b < w.heap.size) := Lib.hid hbl
  obtain ⟨x1, hx1⟩ : ∃ z, z = (getTextB t 0).1 := ⟨_, rfl⟩
  obtain ⟨t1, ht1⟩ : ∃ z, z = restT t := ⟨_, rfl⟩
  have s1 : t1.size ≤ t.size := by rw [ht1]; exact restT_size _
  obtain ⟨x2, hx2⟩ : ∃ z, z = (getTextB t1 0).1 := ⟨_, rfl⟩
  obtain ⟨t2, ht2⟩ : ∃ z, z = restT t1 := ⟨_, rfl⟩
  have s2 : t2.size ≤ t1.size := by rw [ht2]; exact restT_size _
  have HI : Hid (itemR t = (⟨x1, x2⟩, t2)) := Lib.hid (by simp only [itemR, hx1, ht1, hx2, ht2])
  have HX1 := Lib.hid hx1
  have HT1 := Lib.hid ht1
  have HX2 := Lib.hid hx2
  have HT2 := Lib.hid ht2
  clear hx1 ht1 hx2 ht2
  rw [HI.out]
  have hc := rd_text t b W A0.out (by omega)
  rw [← HX1.out, ← HT1.out] at hc
  rw [hW] at hc
  clear h g0 sW hbl
  go_enter Tryz.func83, Tryz.ntmps83
  go_wp2_with (go_at_call 74; refine hc.mono ?_; rintro e w1 ⟨rfl, a1, g1⟩; refine Hid.out ?_)
  refine Lib.hid ?_
  rw [← hW] at g1
  replace A0 := Lib.hid a1
  replace KR := tkg g1 LR KR (by simp; have := Hne.out; omega)
  replace LR := tlz LR g1.size
  replace GG := Lib.hid (GG.out.trans g1)
  clear hc a1 g1 hW
  have hc := rd_text t1 b w1 A0.out (by omega)
  rw [← HX2.out, ← HT2.out] at hc
  go_wp2_with (go_at_call 74; refine hc.mono ?_; rintro e w2 ⟨rfl, a1, g1⟩; refine Hid.out ?_)
  refine Lib.hid ?_
  replace A0 := Lib.hid a1
  replace KR := tkg g1 LR KR (by simp; have := Hne.out; omega)
  replace LR := tlz LR g1.size
  replace GG := Lib.hid (GG.out.trans g1)
  clear hc a1 g1
  have zR0 := tfr KR 0
  have fR0 := tcr KR 0
  have zR1 := tfr KR 1
  have fR1 := tcr KR 1
  go_wp2_with fail
  have f0 := heap_setCell_same _ w.heap.size 0 _ _ (.string x1) KR.out
  have f1 := heap_setCell_same _ w.heap.size 1 _ _ (.string x2) f0
  have gS := ((grown_set w2 ⟨w.heap.size, 0, none⟩ (.string x1)).trans (grown_set _ ⟨w.heap.size, 1, none⟩ (.string x2)))
  obtain ⟨j0, q1, q2, q3, q4⟩ := info_parts infoIt
  have hne := Hne.out
  refine bodyPost_ret (results_cell_row (P := Tryz.prog) rfl _ _ w.heap.size _ _ (0, 0) _ rfl f1 Tryz.underlying45 rfl (by rw [q1]; simp [q3])) rfl ⟨rfl, A0.out.far gS (Nat.ne_of_lt hne), grown_far GG.out gS (Nat.le_refl _), Nat.lt_of_lt_of_le LR.out gS.size⟩

set_option maxRecDepth 100000 in
set_option maxHeartbeats 4000000 in
theorem rd_talk (t : ByteArray) (b : Nat) (w : World) (h : At1 w b t) (ht : t.size ≤ 1099511627776) :
    Calls Tryz.prog 85 #[.pointer (some ⟨b, 0, none⟩)] w fun e w' => e = .returned (tkA (talkR t).1) ∧ At1 w' b (talkR t).2 ∧ w.grownBy w' (some b) ∧ w.heap.size < w'.heap.size := by
  have hbl := h.lt
  obtain ⟨W, hW⟩ : ∃ W, W = w.alloc (.cells #[.string ⟨#[]⟩, .int .i64 0, .string ⟨#[]⟩] 65) := ⟨_, rfl⟩
  have g0 : w.grownBy W (some b) := by rw [hW]; exact grown_alloc0 _ _ _
  have sW : W.heap.size = w.heap.size + 1 := by rw [hW]; simp
  have KR : Hid (W.heap[w.heap.size]? = some (.cells #[.string ⟨#[]⟩, .int .i64 0, .string ⟨#[]⟩] 65 (0, 0))) := Lib.hid (by rw [hW]; exact heap_new _ _)
  have LR : Hid (w.heap.size < W.heap.size) := Lib.hid (by omega)
  have A0 := Lib.hid (h.later (by rw [hW]; exact (Below.refl _ _).alloc (Nat.le_refl _) _) : At1 W b t)
  have GG := Lib.hid g0
  have Hne : Hid (b < w.heap.size) := Lib.hid hbl
  obtain ⟨x1, hx1⟩ : ∃ z, z = (getTextB t 0).1 := ⟨_, rfl⟩
  obtain ⟨t1, ht1⟩ : ∃ z, z = restT t := ⟨_, rfl⟩
  have s1 : t1.size ≤ t.size := by rw [ht1]; exact restT_size _
  obtain ⟨x2, hx2⟩ : ∃ z, z = getN t1 0 4 := ⟨_, rfl⟩
  obtain ⟨t2, ht2⟩ : ∃ z, z = restN t1 4 := ⟨_, rfl⟩
  have s2 : t2.size ≤ t1.size := by rw [ht2]; exact restN_size _ _
  obtain ⟨x3, hx3⟩ : ∃ z, z = (getTextB t2 0).1 := ⟨_, rfl⟩
  obtain ⟨t3, ht3⟩ : ∃ z, z = restT t2 := ⟨_, rfl⟩
  have s3 : t3.size ≤ t2.size := by rw [ht3]; exact restT_size _
  have HI : Hid (talkR t = (⟨x1, x2, x3⟩, t3)) := Lib.hid (by simp only [talkR, hx1, ht1, hx2, ht2, hx3, ht3])
  have HX1 := Lib.hid hx1
  have HT1 := Lib.hid ht1
  have HX2 := Lib.hid hx2
  have HT2 := Lib.hid ht2
  have HX3 := Lib.hid hx3
  have HT3 := Lib.hid ht3
  clear hx1 ht1 hx2 ht2 hx3 ht3
  rw [HI.out]
  have hc := rd_text t b W A0.out (by omega)
  rw [← HX1.out, ← HT1.out] at hc
  rw [hW] at hc
  clear h g0 sW hbl
  go_enter Tryz.func85, Tryz.ntmps85
  go_wp2_with (go_at_call 74; refine hc.mono ?_; rintro e w1 ⟨rfl, a1, g1⟩; refine Hid.out ?_)
  refine Lib.hid ?_
  rw [← hW] at g1
  replace A0 := Lib.hid a1
  replace KR := tkg g1 LR KR (by simp; have := Hne.out; omega)
  replace LR := tlz LR g1.size
  replace GG := Lib.hid (GG.out.trans g1)
  clear hc a1 g1 hW
  have hc := rd_num t1 4 b w1 A0.out (.inr rfl) (by omega)
  rw [show ((4 : Nat) : Int) = 4 from rfl] at hc
  rw [← HX2.out, ← HT2.out] at hc
  go_wp2_with (go_at_call 73; refine hc.mono ?_; rintro e w2 ⟨rfl, a1, g1⟩; refine Hid.out ?_)
  refine Lib.hid ?_
  replace A0 := Lib.hid a1
  replace KR := tkg g1 LR KR (by simp; have := Hne.out; omega)
  replace LR := tlz LR g1.size
  replace GG := Lib.hid (GG.out.trans g1)
  clear hc a1 g1
  have hc := rd_text t2 b w2 A0.out (by omega)
  rw [← HX3.out, ← HT3.out] at hc
  go_wp2_with (go_at_call 74; refine hc.mono ?_; rintro e w3 ⟨rfl, a1, g1⟩; refine Hid.out ?_)
  refine Lib.hid ?_
  replace A0 := Lib.hid a1
  replace KR := tkg g1 LR KR (by simp; have := Hne.out; omega)
  replace LR := tlz LR g1.size
  replace GG := Lib.hid (GG.out.trans g1)
  clear hc a1 g1
  have zR0 := tfr KR 0
  have fR0 := tcr KR 0
  have zR1 := tfr KR 1
  have fR1 := tcr KR 1
  have zR2 := tfr KR 2
  have fR2 := tcr KR 2
  go_wp2_with fail
  have f0 := heap_setCell_same _ w.heap.size 0 _ _ (.string x1) KR.out
  have f1 := heap_setCell_same _ w.heap.size 1 _ _ (.int .i64 x2) f0
  have f2 := heap_setCell_same _ w.heap.size 2 _ _ (.string x3) f1
  have gS := (((grown_set w3 ⟨w.heap.size, 0, none⟩ (.string x1)).trans (grown_set _ ⟨w.heap.size, 1, none⟩ (.int .i64 x2))).trans (grown_set _ ⟨w.heap.size, 2, none⟩ (.string x3)))
  obtain ⟨j0, q1, q2, q3, q4⟩ := info_parts infoTk
  have hne := Hne.out
  refine bodyPost_ret (results_cell_row (P := Tryz.prog) rfl _ _ w.heap.size _ _ (0, 0) _ rfl f2 Tryz.underlying65 rfl (by rw [q1]; simp [q3])) rfl ⟨rfl, A0.out.far gS (Nat.ne_of_lt hne), grown_far GG.out gS (Nat.le_refl _), Nat.lt_of_lt_of_le LR.out gS.size⟩
end Go.Proofs.YtdpjdjkfedcojaaGreat

namespace Go.Proofs.YtdpjdjkfedcojaaGreat
open Go.RowKit
set_option linter.unusedVariables false
set_option linter.unusedSimpArgs false

/-- How many rows are read. -/
def cntR (t : ByteArray) (lim : Nat) : Nat := (min (getN t 0 2) lim).toNat
/-- A row of the call's own; nil without an element. -/
def RowN (w : World) (base e size : Nat) (v : Value) (n : Nat) (cs : List Value) : Prop := (n = 0 ∧ cs = [] ∧ v = .slice none 0 0) ∨ (0 < n ∧ ∃ g cap, v = .slice (some ⟨g, 0, none⟩) n cap ∧ Got w base e size g n cap cs)
theorem RowN.grown {w w' : World} {base e size b n : Nat} {v : Value} {cs : List Value} (h : RowN w base e size v n cs) (hg : w.grownBy w' (some b)) (hb : b < base) : RowN w' base e size v n cs := by
  rcases h with h | ⟨h0, g, cap, h1, h2⟩
  · exact .inl h
  · exact .inr ⟨h0, g, cap, h1, h2.grown hg (by have := h2.2.2.2.1; omega)⟩
theorem RowN.later {w w' : World} {base e size n : Nat} {v : Value} {cs : List Value} (h : RowN w base e size v n cs) (hb : Below w.heap.size w w') : RowN w' base e size v n cs := by
  rcases h with h | ⟨h0, g, cap, h1, h2⟩
  · exact .inl h
  · exact .inr ⟨h0, g, cap, h1, h2.later hb⟩
theorem RowN.base {w : World} {base base' e size n : Nat} {v : Value} {cs : List Value} (h : RowN w base e size v n cs) (hb : base' ≤ base) : RowN w base' e size v n cs := by
  rcases h with h | ⟨h0, g, cap, h1, h2⟩
  · exact .inl h
  · exact .inr ⟨h0, g, cap, h1, h2.base hb⟩
theorem grown_low {w w1 w2 : World} {b g : Nat} (h : w.grownBy w1 (some b)) (hg : w1.grownBy w2 (some g)) (hn : w.heap.size ≤ g) : w.grownBy w2 (some b) := grown_far h hg hn

set_option maxRecDepth 100000 in
set_option maxHeartbeats 8000000 in
theorem readRowsI (t : ByteArray) (lim b : Nat) (w : World) (h : At1 w b t) (ht : t.size ≤ 1099511627776) (hlim : lim ≤ 1000) :
    Calls Tryz.prog 82 #[.pointer (some ⟨b, 0, none⟩), .int .i64 lim, .func (.func 83) #[.pointer (some ⟨b, 0, none⟩)] #[]] w fun e w' => ∃ v, e = .returned v ∧ RowN w' w.heap.size 45 2 v (itemsR (cntR t lim) (restN t 2)).1.length ((itemsR (cntR t lim) (restN t 2)).1.flatMap itC) ∧ At1 w' b (itemsR (cntR t lim) (restN t 2)).2 ∧ w.grownBy w' (some b) := by
  have hbl := h.lt
  obtain ⟨x0, hx0⟩ : ∃ z, z = getN t 0 2 := ⟨_, rfl⟩
  obtain ⟨t1, ht1⟩ : ∃ z, z = restN t 2 := ⟨_, rfl⟩
  have s1 : t1.size ≤ t.size := by rw [ht1]; exact restN_size _ _
  have l0 := getN_lo t 0 2
  have l1 := getN_hi t 0 2
  obtain ⟨n, hn⟩ : ∃ n, n = cntR t lim := ⟨_, rfl⟩
  have hn1 : n = (min x0 (lim : Int)).toNat := by rw [hn, hx0]; rfl
  rw [← hx0] at l0 l1
  have hc := rd_num t 2 b w h (.inl rfl) ht
  rw [show ((2 : Nat) : Int) = 2 from rfl, ← hx0, ← ht1] at hc
  rw [← hn, ← ht1]
  have Hbl := Lib.hid hbl
  have Hn := Lib.hid hn1
  clear h hx0 ht1 hn hbl hn1
  go_enter Tryz.func82, Tryz.ntmps82
  go_wp2_with (go_at_call 73; refine hc.mono ?_; rintro e w1 ⟨rfl, a1, g1⟩; refine Hid.out ?_)
  refine Lib.hid ?_
  have A0 := Lib.hid a1
  have GG := Lib.hid g1
  clear hc a1 g1
  obtain ⟨m, hm⟩ : ∃ m : Int, m = min x0 (lim : Int) := ⟨_, rfl⟩
  have hif : (if (lim : Int) < x0 then (lim : Int) else x0) = m := by rw [hm]; split <;> omega
  have Hmn : Hid (n = m.toNat) := Lib.hid (by rw [Hn.out, hm])
  have hm2 : m ≤ (lim : Int) ∧ -1 ≤ m := by omega
  clear hm Hn
  go_wp2_with fail
  clear hif
  go_loopw [7, 12] (fun o i wr => ∃ (k : Nat) (oa : Option Addr) (oc : Nat), o = .slice oa k oc ∧ i = .int .i64 k ∧ k ≤ n ∧ Hid (RowN wr w.heap.size 45 2 (.slice oa k oc) k ((itemsR k t1).1.flatMap itC)) ∧ Hid (At1 wr b (itemsR k t1).2) ∧ Hid (w.grownBy wr (some b))) (fun _ i _ => n - (intOf i).toNat)
  case atStart => exact ⟨0, _, _, rfl, rfl, Nat.zero_le _, Lib.hid (.inl ⟨rfl, rfl, rfl⟩), A0, GG⟩
  case round =>
    clear A0 GG
    obtain ⟨k, oa, oc, rfl, rfl, hk, RR, A0, GG⟩ := hrel
    obtain ⟨xs, hxs⟩ : ∃ z, z = (itemsR k t1).1 := ⟨_, rfl⟩
    obtain ⟨t2, ht2⟩ : ∃ z, z = (itemsR k t1).2 := ⟨_, rfl⟩
    obtain ⟨h1, h2, _⟩ := itemsR_le k t1
    rw [← ht2] at A0 h2
    rw [← hxs] at RR h1
    have HXS := Lib.hid hxs
    have HT2 := Lib.hid ht2
    have Hlen := Lib.hid h1
    clear hxs ht2 h1
    by_cases hlt : k < n
    · have hlt' : (k : Int) < m := by have := Hmn.out; omega
      obtain ⟨y, hy⟩ : ∃ z, z = (itemR t2).1 := ⟨_, rfl⟩
      obtain ⟨t3, ht3⟩ : ∃ z, z = (itemR t2).2 := ⟨_, rfl⟩
      have HS : Hid (itemsR (k + 1) t1 = (xs ++ [y], t3)) := Lib.hid (by rw [itemsR_snoc, ← HXS.out, ← HT2.out, ← hy, ← ht3])
      have hc := rd_item t2 b wr A0.out (by omega)
      rw [← hy, ← ht3] at hc
      clear hy ht3 hlt
      unfold itA at hc
      go_wp2_with (go_at_call 83; refine hc.mono ?_; rintro e w3 ⟨rfl, a1, g1, z1⟩; refine Hid.out ?_)
      refine Lib.hid ?_
      clear hc
      have hwr := GG.out.size
      have hbl := Hbl.out
      replace RR := Lib.hid (RR.out.grown g1 hbl)
      replace A0 := Lib.hid a1
      replace GG := Lib.hid (GG.out.trans g1)
      obtain ⟨A, hA⟩ : ∃ A, A = w3.alloc (.cells #[.string y.k, .string y.v] 45) := ⟨_, rfl⟩
      have bA : Below w3.heap.size w3 A := by rw [hA]; exact (Below.refl _ _).alloc (Nat.le_refl _) _
      have sA : w3.heap.size < A.heap.size := by rw [hA]; simp
      have gA : w3.grownBy A (some b) := by rw [hA]; exact grown_alloc0 _ _ _
      have rX : Raw A A.heap.size (.slice (some ⟨w3.heap.size, 0, none⟩) 1 1) 1 [.string y.k, .string y.v] := ⟨_, 1, rfl, Nat.le_refl _, by decide, (fun h => by cases h), fun _ => ⟨w3.heap.size, 0, rfl, sA, fun j u hu => by
        rw [hA, World.cell?_alloc_new]
        simpa using hu⟩⟩
      obtain ⟨i0, p1, p2, p3, p4⟩ := info_parts infoIt
      obtain ⟨g, cap, hsl, hgot, hge⟩ : ∃ g cap, SlN (.slice oa k oc) g k cap ∧ Got A w.heap.size 45 2 g k cap (xs.flatMap itC) ∧ w.heap.size ≤ g := by
        rcases RR.out with ⟨h0, h1, h2⟩ | ⟨h0, g, cap, h1, h2⟩
        · obtain ⟨e1, e2, e3⟩ : oa = none ∧ k = 0 ∧ oc = 0 := by simpa using h2
          refine ⟨wr.heap.size, 0, ⟨none, by rw [e1, e3], .inr ⟨rfl, h0, rfl⟩⟩, ?_, hwr⟩
          rw [h1, h0]
          exact ⟨rfl, Nat.le_refl _, Nat.zero_le _, hwr, by omega, .inl ⟨rfl, rfl⟩⟩
        · exact ⟨g, cap, ⟨_, h1, .inl rfl⟩, h2.later bA, h2.2.2.2.1⟩
      obtain ⟨g', cap', w4, hrun, hg4, hloc, got4⟩ := run_appN (P := Tryz.prog) A 24 24 45 i0 _ 2 32 Tryz.underlying24 p1 p2 p3 p4 rfl (by decide) g k cap w.heap.size _ hgot (.slice oa k oc) hsl _ _ 1 _ rX (by decide) rfl (by intro u hu; simp at hu; rcases hu with rfl | rfl <;> rfl) (by unfold maxLen; omega) (by omega) (by omega)
      have R4 : Hid (RowN w4 w.heap.size 45 2 (.slice (some ⟨g', 0, none⟩) (k + 1) cap') (k + 1) ((itemsR (k + 1) t1).1.flatMap itC)) := Lib.hid (.inr ⟨by omega, g', cap', rfl, by rw [HS.out]; show Got w4 _ _ _ g' (k + 1) cap' ((xs ++ [y]).flatMap itC); rw [List.flatMap_append]; exact got4⟩)
      have A4 : Hid (At1 w4 b (itemsR (k + 1) t1).2) := Lib.hid (by rw [HS.out]; exact (A0.out.later bA).far hg4 (by omega))
      have G4 : Hid (w.grownBy w4 (some b)) := Lib.hid (grown_far (GG.out.trans gA) hg4 hge)
      rw [hA] at hrun
      clear hA bA sA gA rX p1 p2 p3 p4 hsl hgot hge hg4 hloc got4 RR A0 GG HS HXS HT2 a1 g1 z1 hwr hbl
      go_wp2_with (at_builtin; refine wpList_app rfl _ _ _ rfl _ _ _ rfl rfl hrun ?_)
      go_roundw
      case rel => exact ⟨k + 1, _, _, rfl, by go_num, by have := Hmn.out; omega, R4, A4, G4⟩
      case measure => have := Hmn.out; simp [intOf]; omega
    · have hlt' : ¬ (k : Int) < m := by have := Hmn.out; omega
      have hkn : n = k := by omega
      have HR : Hid (RowN wr w.heap.size 45 2 (.slice oa k oc) (itemsR n t1).1.length ((itemsR n t1).1.flatMap itC)) := Lib.hid (by rw [hkn, ← HXS.out, Hlen.out]; exact RR.out)
      have HA : Hid (At1 wr b (itemsR n t1).2) := Lib.hid (by rw [hkn, ← HT2.out]; exact A0.out)
      clear hkn RR A0 HXS HT2 Hlen
      go_wp2_with fail
      go_ret
      exact ⟨_, rfl, HR.out, HA.out, GG.out⟩

set_option maxRecDepth 100000 in
set_option maxHeartbeats 8000000 in
theorem readRowsT (t : ByteArray) (lim b : Nat) (w : World) (h : At1 w b t) (ht : t.size ≤ 1099511627776) (hlim : lim ≤ 1000) :
    Calls Tryz.prog 84 #[.pointer (some ⟨b, 0, none⟩), .int .i64 lim, .func (.func 85) #[.pointer (some ⟨b, 0, none⟩)] #[]] w fun e w' => ∃ v, e = .returned v ∧ RowN w' w.heap.size 65 3 v (talksR (cntR t lim) (restN t 2)).1.length ((talksR (cntR t lim) (restN t 2)).1.flatMap tkC) ∧ At1 w' b (talksR (cntR t lim) (restN t 2)).2 ∧ w.grownBy w' (some b) := by
  have hbl := h.lt
  obtain ⟨x0, hx0⟩ : ∃ z, z = getN t 0 2 := ⟨_, rfl⟩
  obtain ⟨t1, ht1⟩ : ∃ z, z = restN t 2 := ⟨_, rfl⟩
  have s1 : t1.size ≤ t.size := by rw [ht1]; exact restN_size _ _
  have l0 := getN_lo t 0 2
  have l1 := getN_hi t 0 2
  obtain ⟨n, hn⟩ : ∃ n, n = cntR t lim := ⟨_, rfl⟩
  have hn1 : n = (min x0 (lim : Int)).toNat := by rw [hn, hx0]; rfl
  rw [← hx0] at l0 l1
  have hc := rd_num t 2 b w h (.inl rfl) ht
  rw [show ((2 : Nat) : Int) = 2 from rfl, ← hx0, ← ht1] at hc
  rw [← hn, ← ht1]
  have Hbl := Lib.hid hbl
  have Hn := Lib.hid hn1
  clear h hx0 ht1 hn hbl hn1
  go_enter Tryz.func84, Tryz.ntmps84
  go_wp2_with (go_at_call 73; refine hc.mono ?_; rintro e w1 ⟨rfl, a1, g1⟩; refine Hid.out ?_)
  refine Lib.hid ?_
  have A0 := Lib.hid a1
  have GG := Lib.hid g1
  clear hc a1 g1
  obtain ⟨m, hm⟩ : ∃ m : Int, m = min x0 (lim : Int) := ⟨_, rfl⟩
  have hif : (if (lim : Int) < x0 then (lim : Int) else x0) = m := by rw [hm]; split <;> omega
  have Hmn : Hid (n = m.toNat) := Lib.hid (by rw [Hn.out, hm])
  have hm2 : m ≤ (lim : Int) ∧ -1 ≤ m := by omega
  clear hm Hn
  go_wp2_with fail
  clear hif
  go_loopw [7, 12] (fun o i wr => ∃ (k : Nat) (oa : Option Addr) (oc : Nat), o = .slice oa k oc ∧ i = .int .i64 k ∧ k ≤ n ∧ Hid (RowN wr w.heap.size 65 3 (.slice oa k oc) k ((talksR k t1).1.flatMap tkC)) ∧ Hid (At1 wr b (talksR k t1).2) ∧ Hid (w.grownBy wr (some b))) (fun _ i _ => n - (intOf i).toNat)
  case atStart => exact ⟨0, _, _, rfl, rfl, Nat.zero_le _, Lib.hid (.inl ⟨rfl, rfl, rfl⟩), A0, GG⟩
  case round =>
    clear A0 GG
    obtain ⟨k, oa, oc, rfl, rfl, hk, RR, A0, GG⟩ := hrel
    obtain ⟨xs, hxs⟩ : ∃ z, z = (talksR k t1).1 := ⟨_, rfl⟩
    obtain ⟨t2, ht2⟩ : ∃ z, z = (talksR k t1).2 := ⟨_, rfl⟩
    obtain ⟨h1, h2, _⟩ := talksR_le k t1
    rw [← ht2] at A0 h2
    rw [← hxs] at RR h1
    have HXS := Lib.hid hxs
    have HT2 := Lib.hid ht2
    have Hlen := Lib.hid h1
    clear hxs ht2 h1
    by_cases hlt : k < n
    · have hlt' : (k : Int) < m := by have := Hmn.out; omega
      obtain ⟨y, hy⟩ : ∃ z, z = (talkR t2).1 := ⟨_, rfl⟩
      obtain ⟨t3, ht3⟩ : ∃ z, z = (talkR t2).2 := ⟨_, rfl⟩
      have HS : Hid (talksR (k + 1) t1 = (xs ++ [y], t3)) := Lib.hid (by rw [talksR_snoc, ← HXS.out, ← HT2.out, ← hy, ← ht3])
      have hc := rd_talk t2 b wr A0.out (by omega)
      rw [← hy, ← ht3] at hc
      clear hy ht3 hlt
      unfold tkA at hc
      go_wp2_with (go_at_call 85; refine hc.mono ?_; rintro e w3 ⟨rfl, a1, g1, z1⟩; refine Hid.out ?_)
      refine Lib.hid ?_
      clear hc
      have hwr := GG.out.size
      have hbl := Hbl.out
      replace RR := Lib.hid (RR.out.grown g1 hbl)
      replace A0 := Lib.hid a1
      replace GG := Lib.hid (GG.out.trans g1)
      obtain ⟨A, hA⟩ : ∃ A, A = w3.alloc (.cells #[.string y.c, .int .i64 y.q, .string y.r] 65) := ⟨_, rfl⟩
      have bA : Below w3.heap.size w3 A := by rw [hA]; exact (Below.refl _ _).alloc (Nat.le_refl _) _
      have sA : w3.heap.size < A.heap.size := by rw [hA]; simp
      have gA : w3.grownBy A (some b) := by rw [hA]; exact grown_alloc0 _ _ _
      have rX : Raw A A.heap.size (.slice (some ⟨w3.heap.size, 0, none⟩) 1 1) 1 [.string y.c, .int .i64 y.q, .string y.r] := ⟨_, 1, rfl, Nat.le_refl _, by decide, (fun h => by cases h), fun _ => ⟨w3.heap.size, 0, rfl, sA, fun j u hu => by
        rw [hA, World.cell?_alloc_new]
        simpa using hu⟩⟩
      obtain ⟨i0, p1, p2, p3, p4⟩ := info_parts infoTk
      obtain ⟨g, cap, hsl, hgot, hge⟩ : ∃ g cap, SlN (.slice oa k oc) g k cap ∧ Got A w.heap.size 65 3 g k cap (xs.flatMap tkC) ∧ w.heap.size ≤ g := by
        rcases RR.out with ⟨h0, h1, h2⟩ | ⟨h0, g, cap, h1, h2⟩
        · obtain ⟨e1, e2, e3⟩ : oa = none ∧ k = 0 ∧ oc = 0 := by simpa using h2
          refine ⟨wr.heap.size, 0, ⟨none, by rw [e1, e3], .inr ⟨rfl, h0, rfl⟩⟩, ?_, hwr⟩
          rw [h1, h0]
          exact ⟨rfl, Nat.le_refl _, Nat.zero_le _, hwr, by omega, .inl ⟨rfl, rfl⟩⟩
        · exact ⟨g, cap, ⟨_, h1, .inl rfl⟩, h2.later bA, h2.2.2.2.1⟩
      obtain ⟨g', cap', w4, hrun, hg4, hloc, got4⟩ := run_appN (P := Tryz.prog) A 25 25 65 i0 _ 3 40 Tryz.underlying25 p1 p2 p3 p4 rfl (by decide) g k cap w.heap.size _ hgot (.slice oa k oc) hsl _ _ 1 _ rX (by decide) rfl (by intro u hu; simp at hu; rcases hu with rfl | rfl | rfl <;> rfl) (by unfold maxLen; omega) (by omega) (by omega)
      have R4 : Hid (RowN w4 w.heap.size 65 3 (.slice (some ⟨g', 0, none⟩) (k + 1) cap') (k + 1) ((talksR (k + 1) t1).1.flatMap tkC)) := Lib.hid (.inr ⟨by omega, g', cap', rfl, by rw [HS.out]; show Got w4 _ _ _ g' (k + 1) cap' ((xs ++ [y]).flatMap tkC); rw [List.flatMap_append]; exact got4⟩)
      have A4 : Hid (At1 w4 b (talksR (k + 1) t1).2) := Lib.hid (by rw [HS.out]; exact (A0.out.later bA).far hg4 (by omega))
      have G4 : Hid (w.grownBy w4 (some b)) := Lib.hid (grown_far (GG.out.trans gA) hg4 hge)
      rw [hA] at hrun
      clear hA bA sA gA rX p1 p2 p3 p4 hsl hgot hge hg4 hloc got4 RR A0 GG HS HXS HT2 a1 g1 z1 hwr hbl
      go_wp2_with (at_builtin; refine wpList_app rfl _ _ _ rfl _ _ _ rfl rfl hrun ?_)
      go_roundw
      case rel => exact ⟨k + 1, _, _, rfl, by go_num, by have := Hmn.out; omega, R4, A4, G4⟩
      case measure => have := Hmn.out; simp [intOf]; omega
    · have hlt' : ¬ (k : Int) < m := by have := Hmn.out; omega
      have hkn : n = k := by omega
      have HR : Hid (RowN wr w.heap.size 65 3 (.slice oa k oc) (talksR n t1).1.length ((talksR n t1).1.flatMap tkC)) := Lib.hid (by rw [hkn, ← HXS.out, Hlen.out]; exact RR.out)
      have HA : Hid (At1 wr b (talksR n t1).2) := Lib.hid (by rw [hkn, ← HT2.out]; exact A0.out)
      clear hkn RR A0 HXS HT2 Hlen
      go_wp2_with fail
      go_ret
      exact ⟨_, rfl, HR.out, HA.out, GG.out⟩
end Go.Proofs.YtdpjdjkfedcojaaGreat

namespace Go.Proofs.YtdpjdjkfedcojaaGreat
open Go.RowKit
set_option linter.unusedVariables false
set_option linter.unusedSimpArgs false

theorem drop_list (t : ByteArray) (n : Nat) : (t.extract n t.size).data.toList = t.data.toList.drop n := by
  rw [ByteArray.data_extract, Array.toList_extract, List.extract_eq_take_drop]
  exact List.take_of_length_le (by simp)
theorem text_lead {t s : ByteArray} {y : List UInt8} (h : t.data.toList = pt s ++ y) (hs : s.size ≤ 65535) : (getTextB t 0).1 = s ∧ (restT t).data.toList = y := by
  have hb := text_back (t := s) (s := t) (p := 0) ⟨[], y, by simpa using h, rfl⟩ hs
  rw [show ((0 : Nat) : Int) = 0 from rfl, Nat.zero_add] at hb
  refine ⟨by rw [hb], ?_⟩
  unfold restT
  rw [hb]
  show (t.extract (max ((pt s).length : Int) 0).toNat t.size).data.toList = y
  rw [show (max ((pt s).length : Int) 0).toNat = (pt s).length by omega, drop_list, h, List.drop_left]
theorem num_lead {t : ByteArray} {n k : Nat} {y : List UInt8} (h : t.data.toList = be8 n k ++ y) (hk : 1 ≤ k ∧ k ≤ 4) (hn : n < 256 ^ k) : getN t 0 k = n ∧ (restN t k).data.toList = y := by
  have hb := num_back (s := t) (p := 0) (n := n) (k := k) ⟨[], y, by simpa using h, rfl⟩ hk hn
  refine ⟨hb, ?_⟩
  have hl : t.size = k + y.length := by
    have := congrArg List.length h
    simpa [be8_len] using this
  unfold restN
  rw [show min k t.size = k by omega, drop_list, h, List.drop_left' (be8_len n k)]
theorem item_lead {t : ByteArray} {x : It} {y : List UInt8} (h : t.data.toList = encIt x ++ y) (hx : SmI x) : (itemR t).1 = x ∧ (itemR t).2.data.toList = y := by
  unfold SmI at hx
  unfold encIt at h
  rw [List.append_assoc] at h
  obtain ⟨a1, a2⟩ := text_lead h (by omega)
  obtain ⟨b1, b2⟩ := text_lead a2 (by omega)
  simp only [itemR]
  exact ⟨by rw [a1, b1], b2⟩
theorem talk_lead {t : ByteArray} {x : Tk} {y : List UInt8} (h : t.data.toList = encTk x ++ y) (hx : SmT x) : (talkR t).1 = x ∧ (talkR t).2.data.toList = y := by
  unfold SmT at hx
  unfold encTk at h
  rw [List.append_assoc, List.append_assoc] at h
  obtain ⟨a1, a2⟩ := text_lead h (by omega)
  obtain ⟨b1, b2⟩ := num_lead (k := 4) a2 (by omega) (by omega)
  obtain ⟨c1, c2⟩ := text_lead b2 (by omega)
  have hq : ((x.q.toNat : Nat) : Int) = x.q := by omega
  rw [hq, show ((4 : Nat) : Int) = 4 from rfl] at b1
  simp only [talkR]
  exact ⟨by rw [a1, b1, c1], c2⟩
theorem items_lead : ∀ {xs : List It} {t : ByteArray} {y : List UInt8}, t.data.toList = xs.flatMap encIt ++ y → (∀ x ∈ xs, SmI x) → (itemsR xs.length t).1 = xs ∧ (itemsR xs.length t).2.data.toList = y
  | [], t, y, h, _ => ⟨rfl, by simpa [itemsR] using h⟩
  | x :: xs, t, y, h, hx => by
    rw [List.flatMap_cons, List.append_assoc] at h
    obtain ⟨a1, a2⟩ := item_lead h (hx x (by simp))
    obtain ⟨b1, b2⟩ := items_lead a2 (fun z hz => hx z (by simp [hz]))
    simp only [List.length_cons, itemsR]
    exact ⟨by rw [a1, b1], b2⟩
theorem talks_lead : ∀ {xs : List Tk} {t : ByteArray} {y : List UInt8}, t.data.toList = xs.flatMap encTk ++ y → (∀ x ∈ xs, SmT x) → (talksR xs.length t).1 = xs ∧ (talksR xs.length t).2.data.toList = y
  | [], t, y, h, _ => ⟨rfl, by simpa [talksR] using h⟩
  | x :: xs, t, y, h, hx => by
    rw [List.flatMap_cons, List.append_assoc] at h
    obtain ⟨a1, a2⟩ := talk_lead h (hx x (by simp))
    obtain ⟨b1, b2⟩ := talks_lead a2 (fun z hz => hx z (by simp [hz]))
    simp only [List.length_cons, talksR]
    exact ⟨by rw [a1, b1], b2⟩
/-- What the program reads behind the first two bytes. -/
def itemsI (t : ByteArray) : List It × ByteArray := itemsR (cntR t 40) (restN t 2)
def talksI (t : ByteArray) : List Tk × ByteArray := talksR (cntR t 20) (restN t 2)
def rawR (t : ByteArray) (v : Int) : St := ⟨(itemsI (t.extract 2 t.size)).1, if 2 ≤ v then (talksI (itemsI (t.extract 2 t.size)).2).1 else []⟩
theorem raw_lead {t : ByteArray} {s : St} {v : Nat} {Z : List UInt8} (hv : v = 1 ∨ v = 2 ∨ v = 3) (hs : stOk s = true) (h : t.data.toList = bodyL v s ++ Z) : rawR t v = keptS s v := by
  obtain ⟨i1, i2, i3, i4⟩ := ok_smI hs
  obtain ⟨u, hu⟩ : ∃ u, u = t.extract 2 t.size := ⟨_, rfl⟩
  have h0 : u.data.toList = be8 s.items.length 2 ++ (s.items.flatMap encIt ++ ((if v = 1 then [] else be8 s.talks.length 2 ++ s.talks.flatMap encTk) ++ Z)) := by
    rw [hu, drop_list, h]
    unfold bodyL
    have hl : ([70] ++ be8 v 1 : List UInt8).length = 2 := by rw [List.length_append, be8_len]; rfl
    rw [← List.append_assoc [70], List.append_assoc, List.drop_left' hl]
    simp only [List.append_assoc]
  obtain ⟨a1, a2⟩ := num_lead (k := 2) h0 (by omega) (by omega)
  rw [show ((2 : Nat) : Int) = 2 from rfl] at a1
  obtain ⟨b1, b2⟩ := items_lead a2 i1
  have hc : cntR u 40 = s.items.length := by unfold cntR; rw [a1]; omega
  have e1 : (itemsI u).1 = s.items := by unfold itemsI; rw [hc, b1]
  unfold rawR
  rw [← hu, e1]
  unfold keptS
  by_cases hv1 : v = 1
  · subst hv1
    rw [if_neg (by decide)]; simp
  · rw [if_pos (by omega), if_neg (by omega)]
    rw [if_neg hv1, List.append_assoc] at b2
    have e2 : (itemsI u).2.data.toList = be8 s.talks.length 2 ++ (s.talks.flatMap encTk ++ Z) := by unfold itemsI; rw [hc, b2]
    obtain ⟨c1, c2⟩ := num_lead (k := 2) e2 (by omega) (by omega)
    rw [show ((2 : Nat) : Int) = 2 from rfl] at c1
    obtain ⟨d1, _⟩ := talks_lead c2 i2
    have hd : cntR (itemsI u).2 20 = s.talks.length := by unfold cntR; rw [c1]; omega
    have e3 : (talksI (itemsI u).2).1 = s.talks := by unfold talksI; rw [hd, d1]
    rw [e3]
theorem fmt_lead {s : St} {v : Nat} (hv : v = 1 ∨ v = 2 ∨ v = 3) (hs : stOk s = true) : ∃ Z, (fmtS s v).data.toList = bodyL v s ++ Z := by
  by_cases h3 : v = 3
  · subst h3
    rw [show ((3 : Nat) : Int) = 3 from rfl, fmtS_seal hs]
    unfold sealB
    exact ⟨(txt (leB (crcN (bodyB 3 s).data.toList))).data.toList, by simp [ByteArray.data_append, bodyB]⟩
  · rw [fmtS_low hs (by rcases hv with rfl | rfl | rfl <;> rfl) (by omega)]
    exact ⟨[], by simp [bodyB]⟩
theorem decR_yes {t : ByteArray} (hv : inB (getN t 1 1) 1 3 = true) (h : fmtS (rawR t (getN t 1 1)) (getN t 1 1) = t) : decS t = (rawR t (getN t 1 1), getN t 1 1) := by
  obtain ⟨v, hvv⟩ : ∃ v, v = getN t 1 1 := ⟨_, rfl⟩
  rw [← hvv] at h hv ⊢
  obtain ⟨X, hX⟩ : ∃ X, X = rawR t v := ⟨_, rfl⟩
  have hk : keptS X v = X := by
    unfold keptS
    split
    · rename_i h1
      rw [hX]; unfold rawR
      rw [if_neg (by omega)]
    · rfl
  rw [← hX] at h ⊢
  have hok : stOk X = true := by
    cases hr : stOk X with
    | true => rfl
    | false =>
      rw [fmtS_bad (.inl hr)] at h
      have h0 : v = -1 := by rw [hvv, ← h]; rfl
      rw [h0] at hv; cases hv
  have hd := dec_back hok hv
  rw [h, hk] at hd
  exact hd
theorem decR_no {t : ByteArray} (h : ¬ fmtS (rawR t (getN t 1 1)) (getN t 1 1) = t) : decS t = (⟨[], []⟩, 0) := by
  by_cases h0 : (decS t).2 ≠ 0
  · exfalso
    obtain ⟨hf, hok, hb⟩ := dec_fmt h0
    have hk := dec_kept t
    have hbb := inB_true hb
    obtain ⟨r, hr⟩ : ∃ r, r = (decS t).1 := ⟨_, rfl⟩
    obtain ⟨n, hn⟩ := Int.eq_ofNat_of_zero_le (show 0 ≤ (decS t).2 by omega)
    rw [← hr, hn] at hf hk
    rw [← hr] at hok
    have h123 : n = 1 ∨ n = 2 ∨ n = 3 := by omega
    obtain ⟨Z, hZ⟩ := fmt_lead h123 hok
    rw [hf] at hZ
    have hver := (raw_back (t := t) h123 hok ⟨[], Z, by simpa using hZ, rfl⟩).1
    have hraw := raw_lead h123 hok hZ
    rw [hk] at hraw
    rw [hver, hraw] at h
    exact h hf
  · have h1 := dec_zero h0
    have h2 : (decS t).2 = 0 := Decidable.not_not.1 h0
    exact Prod.ext h1 h2
theorem rawR_fits {t : ByteArray} (v : Int) (ht : t.size ≤ 1099511627776) : Fits (rawR t v) := by
  have hu : (t.extract 2 t.size).size ≤ t.size := by rw [ByteArray.size_extract]; omega
  obtain ⟨u, he⟩ : ∃ u, u = t.extract 2 t.size := ⟨_, rfl⟩
  rw [← he] at hu
  have h1 := itemsR_le (cntR u 40) (restN u 2)
  have h2 := restN_size u 2
  have h3 := talksR_le (cntR (itemsI u).2 20) (restN (itemsI u).2 2)
  have h4 := restN_size (itemsI u).2 2
  have h5 : (itemsI u).2.size ≤ (restN u 2).size := h1.2.1
  unfold rawR
  rw [← he]
  refine ⟨fun x hx => ?_, fun x hx => ?_⟩
  · have := h1.2.2 x hx
    unfold maxLen; omega
  · split at hx
    · have := h3.2.2 x hx
      unfold maxLen; omega
    · cases hx
end Go.Proofs.YtdpjdjkfedcojaaGreat

namespace Go.Proofs.YtdpjdjkfedcojaaGreat
open Go.RowKit
set_option linter.unusedVariables false
set_option linter.unusedSimpArgs false

/-- Without the mark ahead. -/
def cutP (t : ByteArray) : ByteArray := ⟨(Lib.trimPrefix t.data.toList [80]).toArray⟩
theorem cutP_size (t : ByteArray) : (cutP t).size ≤ t.size := by
  unfold cutP
  show (List.toArray _).size ≤ _
  rw [List.size_toArray]
  have h : (Lib.trimPrefix t.data.toList [80]).length ≤ t.data.toList.length := by
    unfold Lib.trimPrefix
    split
    · rw [List.length_drop]; omega
    · exact Nat.le_refl _
  exact h
/-- The fields as the reader finds them. -/
def rdP (u : ByteArray) : Pc := ⟨getN u 0 2, getN (restN u 2) 0 2, (getTextB (restN (restN u 2) 2) 0).1, getN (restT (restN (restN u 2) 2)) 0 4⟩
theorem rdP_fit (u : ByteArray) (hu : u.size ≤ 1099511627776) : (-1 ≤ (rdP u).no ∧ (rdP u).no ≤ 4294967295) ∧ (-1 ≤ (rdP u).of ∧ (rdP u).of ≤ 4294967295) ∧ (rdP u).b.size ≤ u.size ∧ (-1 ≤ (rdP u).ch ∧ (rdP u).ch ≤ 4294967295) := by
  have h1 := restN_size u 2
  have h2 := restN_size (restN u 2) 2
  have h3 := text_small (restN (restN u 2) 2) 0
  have a1 := getN_lo u 0 2
  have a2 := getN_hi u 0 2
  have b1 := getN_lo (restN u 2) 0 2
  have b2 := getN_hi (restN u 2) 0 2
  have c1 := getN_lo (restT (restN (restN u 2) 2)) 0 4
  have c2 := getN_hi (restT (restN (restN u 2) 2)) 0 4
  have e1 : (rdP u).no = getN u 0 2 := by simp only [rdP]
  have e2 : (rdP u).of = getN (restN u 2) 0 2 := by simp only [rdP]
  have e3 : (rdP u).b = (getTextB (restN (restN u 2) 2) 0).1 := by simp only [rdP]
  have e4 : (rdP u).ch = getN (restT (restN (restN u 2) 2)) 0 4 := by simp only [rdP]
  rw [e1, e2, e3, e4]
  refine ⟨⟨?_, ?_⟩, ⟨?_, ?_⟩, ?_, ?_, ?_⟩ <;> omega
theorem pc_lead {p : Pc} (h : pcOk p = true) : rdP (cutP (pcB p)) = p := by
  obtain ⟨h1, h2, h3, h4⟩ := pc_in h
  have hl : ∃ Z, (pcB p).data.toList = 80 :: (be8 p.no.toNat 2 ++ (be8 p.of.toNat 2 ++ (pt p.b ++ (be8 p.ch.toNat 4 ++ Z)))) := by
    unfold pcB
    rw [if_pos h]
    unfold sealB
    refine ⟨(txt (leB (crcN (ByteArray.mk (pcL p).toArray).data.toList))).data.toList, ?_⟩
    rw [ByteArray.data_append, Array.toList_append]
    unfold pcL
    simp [List.append_assoc]
  obtain ⟨Z, hZ⟩ := hl
  have h0 : (cutP (pcB p)).data.toList = be8 p.no.toNat 2 ++ (be8 p.of.toNat 2 ++ (pt p.b ++ (be8 p.ch.toNat 4 ++ Z))) := by
    unfold cutP
    rw [hZ]
    unfold Lib.trimPrefix
    have hp : Lib.hasPrefix (80 :: (be8 p.no.toNat 2 ++ (be8 p.of.toNat 2 ++ (pt p.b ++ (be8 p.ch.toNat 4 ++ Z))))) [80] = true := by simp [Lib.hasPrefix]
    rw [if_pos hp]
    rfl
  obtain ⟨n1, r1⟩ := num_lead h0 (by omega) (by omega)
  obtain ⟨n2, r2⟩ := num_lead r1 (by omega) (by omega)
  obtain ⟨n3, r3⟩ := text_lead r2 (by omega)
  obtain ⟨n4, -⟩ := num_lead r3 (by omega) (by omega)
  rw [show ((2 : Nat) : Int) = 2 from rfl] at n1 n2
  rw [show ((4 : Nat) : Int) = 4 from rfl] at n4
  unfold rdP
  rw [n1, n2, n3, n4]
  have e1 : ((p.no.toNat : Nat) : Int) = p.no := by omega
  have e2 : ((p.of.toNat : Nat) : Int) = p.of := by omega
  have e3 : ((p.ch.toNat : Nat) : Int) = p.ch := by omega
  rw [e1, e2, e3]
/-- What the program takes. -/
theorem pcR_yes {t : ByteArray} (h : pcOk (rdP (cutP t)) = true) (h2 : pcB (rdP (cutP t)) = t) : getP t = (rdP (cutP t), true) := by
  have hb := pc_back h
  rw [h2] at hb
  exact hb
/-- What the program refuses. -/
theorem pcR_no {t : ByteArray} (h : pcOk (rdP (cutP t)) = false ∨ ¬ pcB (rdP (cutP t)) = t) : getP t = (pc0, false) := by
  cases hg : (getP t).2 with
  | false =>
    have h1 := pc_no hg
    exact Prod.ext h1 hg
  | true =>
    exfalso
    obtain ⟨h1, h2⟩ := pc_put hg
    have h3 := pc_lead h2
    rw [h1] at h3
    rcases h with h | h
    · rw [h3, h2] at h; cases h
    · rw [h3] at h; exact h h1
end Go.Proofs.YtdpjdjkfedcojaaGreat
