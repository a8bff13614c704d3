/- The program's reader: an item, a talk. Condition: a text of at most 2^40 bytes. -/
import Derived.Test.YtlklhmdpkicpnaaReader
import Derived.Test.YtlklhmdpkicpnaaAppendNil
namespace Go.Proofs.Ytlklhmdpkicpnaa
open Go.RowKit
set_option linter.unusedVariables false
set_option linter.unusedSimpArgs false

def itemR (t : ByteArray) : It × ByteArray := (⟨(getTextB t 0).1, (getTextB (restT t) 0).1⟩, restT (restT t))
def talkR (t : ByteArray) : Tk × ByteArray := (⟨(getTextB t 0).1, getN (restT t) 0 4, (getTextB (restN (restT t) 4) 0).1⟩, restT (restN (restT t) 4))
def itemsR : Nat → ByteArray → List It × ByteArray
  | 0, t => ([], t)
  | n + 1, t => ((itemR t).1 :: (itemsR n (itemR t).2).1, (itemsR n (itemR t).2).2)
def talksR : Nat → ByteArray → List Tk × ByteArray
  | 0, t => ([], t)
  | n + 1, t => ((talkR t).1 :: (talksR n (talkR t).2).1, (talksR n (talkR t).2).2)
theorem itemsR_snoc : ∀ (k : Nat) (t : ByteArray), itemsR (k + 1) t = ((itemsR k t).1 ++ [(itemR (itemsR k t).2).1], (itemR (itemsR k t).2).2)
  | 0, t => rfl
  | k + 1, t => by rw [itemsR, itemsR_snoc k]; rfl
theorem talksR_snoc : ∀ (k : Nat) (t : ByteArray), talksR (k + 1) t = ((talksR k t).1 ++ [(talkR (talksR k t).2).1], (talkR (talksR k t).2).2)
  | 0, t => rfl
  | k + 1, t => by rw [talksR, talksR_snoc k]; rfl
theorem itemR_le (t : ByteArray) : (itemR t).2.size ≤ t.size ∧ (itemR t).1.k.size ≤ t.size ∧ (itemR t).1.v.size ≤ t.size := by
  have h1 := restT_size t
  have h2 := restT_size (restT t)
  have h3 := text_small t 0
  have h4 := text_small (restT t) 0
  exact ⟨Nat.le_trans h2 h1, h3, Nat.le_trans h4 h1⟩
theorem talkR_le (t : ByteArray) : (talkR t).2.size ≤ t.size ∧ (talkR t).1.c.size ≤ t.size ∧ (talkR t).1.r.size ≤ t.size ∧ -1 ≤ (talkR t).1.q ∧ (talkR t).1.q ≤ 4294967295 := by
  have h1 := restT_size t
  have h2 := restN_size (restT t) 4
  have h3 := restT_size (restN (restT t) 4)
  have h4 := text_small t 0
  have h5 := text_small (restN (restT t) 4) 0
  have h6 := getN_lo (restT t) 0 4
  have h7 := getN_hi (restT t) 0 4
  simp only [talkR]
  exact ⟨Nat.le_trans h3 (Nat.le_trans h2 h1), h4, Nat.le_trans h5 (Nat.le_trans h2 h1), h6, h7⟩
theorem itemsR_le : ∀ (k : Nat) (t : ByteArray), (itemsR k t).1.length = k ∧ (itemsR k t).2.size ≤ t.size ∧ ∀ x ∈ (itemsR k t).1, x.k.size ≤ t.size ∧ x.v.size ≤ t.size
  | 0, t => ⟨rfl, Nat.le_refl _, fun x hx => by cases hx⟩
  | k + 1, t => by
    obtain ⟨h1, h2, h3⟩ := itemsR_le k (itemR t).2
    have h := itemR_le t
    refine ⟨by rw [itemsR]; simp [h1], by rw [itemsR]; exact Nat.le_trans h2 h.1, fun x hx => ?_⟩
    rw [itemsR] at hx
    rcases List.mem_cons.1 hx with rfl | hx
    · exact h.2
    · have := h3 x hx; omega
theorem talksR_le : ∀ (k : Nat) (t : ByteArray), (talksR k t).1.length = k ∧ (talksR k t).2.size ≤ t.size ∧ ∀ x ∈ (talksR k t).1, x.c.size ≤ t.size ∧ x.r.size ≤ t.size ∧ -1 ≤ x.q ∧ x.q ≤ 4294967295
  | 0, t => ⟨rfl, Nat.le_refl _, fun x hx => by cases hx⟩
  | k + 1, t => by
    obtain ⟨h1, h2, h3⟩ := talksR_le k (talkR t).2
    have h := talkR_le t
    refine ⟨by rw [talksR]; simp [h1], by rw [talksR]; exact Nat.le_trans h2 h.1, fun x hx => ?_⟩
    rw [talksR] at hx
    rcases List.mem_cons.1 hx with rfl | hx
    · exact h.2
    · have := h3 x hx; omega
theorem At1.far {w w' : World} {b g : Nat} {t : ByteArray} (h : At1 w b t) (hg : w.grownBy w' (some g)) (hn : b ≠ g) : At1 w' b t :=
  (hg.block b (Array.getElem?_eq_some_iff.1 h).1 (by simp; exact hn)).trans h
theorem At1.lt {w : World} {b : Nat} {t : ByteArray} (h : At1 w b t) : b < w.heap.size := (Array.getElem?_eq_some_iff.1 h).1
theorem At1.later {w w' : World} {b : Nat} {t : ByteArray} (h : At1 w b t) (hb : Below w.heap.size w w') : At1 w' b t := (hb.block b h.lt).trans h
theorem grown_alloc0 (w : World) (o : Obj) (r : Option Nat) : w.grownBy (w.alloc o) r := ⟨rfl, rfl, rfl, by simp, fun k hk _ => Below.heap_alloc _ _ _ (by omega)⟩

set_option maxRecDepth 100000 in
set_option maxHeartbeats 4000000 in
theorem rd_item (t : ByteArray) (b : Nat) (w : World) (h : At1 w b t) (ht : t.size ≤ 1099511627776) :
    Calls Try.prog 125 #[.pointer (some ⟨b, 0, none⟩)] w fun e w' => e = .returned (itA (itemR t).1) ∧ At1 w' b (itemR t).2 ∧ w.grownBy w' (some b) ∧ w.heap.size < w'.heap.size := by
  have hbl := h.lt
  obtain ⟨W, hW⟩ : ∃ W, W = w.alloc (.cells #[.string ⟨#[]⟩, .string ⟨#[]⟩] 114) := ⟨_, rfl⟩
  have g0 : w.grownBy W (some b) := by rw [hW]; exact grown_alloc0 _ _ _
  have sW : W.heap.size = w.heap.size + 1 := by rw [hW]; simp
  have KR : Hid (W.heap[w.heap.size]? = some (.cells #[.string ⟨#[]⟩, .string ⟨#[]⟩] 114 (0, 0))) := Lib.hid (by rw [hW]; exact heap_new _ _)
  have LR : Hid (w.heap.size < W.heap.size) := Lib.hid (by omega)
  have A0 := Lib.hid (h.later (by rw [hW]; exact (Below.refl _ _).alloc (Nat.le_refl _) _) : At1 W b t)
  have GG := Lib.hid g0
  have Hne : Hid (b < w.heap.size) := Lib.hid hbl
  obtain ⟨x1, hx1⟩ : ∃ z, z = (getTextB t 0).1 := ⟨_, rfl⟩
  obtain ⟨t1, ht1⟩ : ∃ z, z = restT t := ⟨_, rfl⟩
  have s1 : t1.size ≤ t.size := by rw [ht1]; exact restT_size _
  obtain ⟨x2, hx2⟩ : ∃ z, z = (getTextB t1 0).1 := ⟨_, rfl⟩
  obtain ⟨t2, ht2⟩ : ∃ z, z = restT t1 := ⟨_, rfl⟩
  have s2 : t2.size ≤ t1.size := by rw [ht2]; exact restT_size _
  have HI : Hid (itemR t = (⟨x1, x2⟩, t2)) := Lib.hid (by simp only [itemR, hx1, ht1, hx2, ht2])
  have HX1 := Lib.hid hx1
  have HT1 := Lib.hid ht1
  have HX2 := Lib.hid hx2
  have HT2 := Lib.hid ht2
  clear hx1 ht1 hx2 ht2
  rw [HI.out]
  have hc := rd_text t b W A0.out (by omega)
  rw [← HX1.out, ← HT1.out] at hc
  rw [hW] at hc
  clear h g0 sW hbl
  go_enter Try.func125, Try.ntmps125
  go_wp2_with (go_at_call 69; refine hc.mono ?_; rintro e w1 ⟨rfl, a1, g1⟩; refine Hid.out ?_)
  refine Lib.hid ?_
  rw [← hW] at g1
  replace A0 := Lib.hid a1
  replace KR := tkg g1 LR KR (by simp; have := Hne.out; omega)
  replace LR := tlz LR g1.size
  replace GG := Lib.hid (GG.out.trans g1)
  clear hc a1 g1 hW
  have hc := rd_text t1 b w1 A0.out (by omega)
  rw [← HX2.out, ← HT2.out] at hc
  go_wp2_with (go_at_call 69; refine hc.mono ?_; rintro e w2 ⟨rfl, a1, g1⟩; refine Hid.out ?_)
  refine Lib.hid ?_
  replace A0 := Lib.hid a1
  replace KR := tkg g1 LR KR (by simp; have := Hne.out; omega)
  replace LR := tlz LR g1.size
  replace GG := Lib.hid (GG.out.trans g1)
  clear hc a1 g1
  have zR0 := tfr KR 0
  have fR0 := tcr KR 0
  have zR1 := tfr KR 1
  have fR1 := tcr KR 1
  go_wp2_with fail
  have f0 := heap_setCell_same _ w.heap.size 0 _ _ (.string x1) KR.out
  have f1 := heap_setCell_same _ w.heap.size 1 _ _ (.string x2) f0
  have gS := ((grown_set w2 ⟨w.heap.size, 0, none⟩ (.string x1)).trans (grown_set _ ⟨w.heap.size, 1, none⟩ (.string x2)))
  obtain ⟨j0, q1, q2, q3, q4⟩ := info_parts infoIt
  have hne := Hne.out
  refine bodyPost_ret (results_cell_row (P := Try.prog) rfl _ _ w.heap.size _ _ (0, 0) _ rfl f1 Try.underlying114 rfl (by rw [q1]; simp [q3])) rfl ⟨rfl, A0.out.far gS (Nat.ne_of_lt hne), grown_far GG.out gS (Nat.le_refl _), Nat.lt_of_lt_of_le LR.out gS.size⟩

set_option maxRecDepth 100000 in
set_option maxHeartbeats 4000000 in
theorem rd_talk (t : ByteArray) (b : Nat) (w : World) (h : At1 w b t) (ht : t.size ≤ 1099511627776) :
    Calls Try.prog 127 #[.pointer (some ⟨b, 0, none⟩)] w fun e w' => e = .returned (tkA (talkR t).1) ∧ At1 w' b (talkR t).2 ∧ w.grownBy w' (some b) ∧ w.heap.size < w'.heap.size := by
  have hbl := h.lt
  obtain ⟨W, hW⟩ : ∃ W, W = w.alloc (.cells #[.string ⟨#[]⟩, .int .i64 0, .string ⟨#[]⟩] 116) := ⟨_, rfl⟩
  have g0 : w.grownBy W (some b) := by rw [hW]; exact grown_alloc0 _ _ _
  have sW : W.heap.size = w.heap.size + 1 := by rw [hW]; simp
  have KR : Hid (W.heap[w.heap.size]? = some (.cells #[.string ⟨#[]⟩, .int .i64 0, .string ⟨#[]⟩] 116 (0, 0))) := Lib.hid (by rw [hW]; exact heap_new _ _)
  have LR : Hid (w.heap.size < W.heap.size) := Lib.hid (by omega)
  have A0 := Lib.hid (h.later (by rw [hW]; exact (Below.refl _ _).alloc (Nat.le_refl _) _) : At1 W b t)
  have GG := Lib.hid g0
  have Hne : Hid (b < w.heap.size) := Lib.hid hbl
  obtain ⟨x1, hx1⟩ : ∃ z, z = (getTextB t 0).1 := ⟨_, rfl⟩
  obtain ⟨t1, ht1⟩ : ∃ z, z = restT t := ⟨_, rfl⟩
  have s1 : t1.size ≤ t.size := by rw [ht1]; exact restT_size _
  obtain ⟨x2, hx2⟩ : ∃ z, z = getN t1 0 4 := ⟨_, rfl⟩
  obtain ⟨t2, ht2⟩ : ∃ z, z = restN t1 4 := ⟨_, rfl⟩
  have s2 : t2.size ≤ t1.size := by rw [ht2]; exact restN_size _ _
  obtain ⟨x3, hx3⟩ : ∃ z, z = (getTextB t2 0).1 := ⟨_, rfl⟩
  obtain ⟨t3, ht3⟩ : ∃ z, z = restT t2 := ⟨_, rfl⟩
  have s3 : t3.size ≤ t2.size := by rw [ht3]; exact restT_size _
  have HI : Hid (talkR t = (⟨x1, x2, x3⟩, t3)) := Lib.hid (by simp only [talkR, hx1, ht1, hx2, ht2, hx3, ht3])
  have HX1 := Lib.hid hx1
  have HT1 := Lib.hid ht1
  have HX2 := Lib.hid hx2
  have HT2 := Lib.hid ht2
  have HX3 := Lib.hid hx3
  have HT3 := Lib.hid ht3
  clear hx1 ht1 hx2 ht2 hx3 ht3
  rw [HI.out]
  have hc := rd_text t b W A0.out (by omega)
  rw [← HX1.out, ← HT1.out] at hc
  rw [hW] at hc
  clear h g0 sW hbl
  go_enter Try.func127, Try.ntmps127
  go_wp2_with (go_at_call 69; refine hc.mono ?_; rintro e w1 ⟨rfl, a1, g1⟩; refine Hid.out ?_)
  refine Lib.hid ?_
  rw [← hW] at g1
  replace A0 := Lib.hid a1
  replace KR := tkg g1 LR KR (by simp; have := Hne.out; omega)
  replace LR := tlz LR g1.size
  replace GG := Lib.hid (GG.out.trans g1)
  clear hc a1 g1 hW
  have hc := rd_num t1 4 b w1 A0.out (.inr rfl) (by omega)
  rw [show ((4 : Nat) : Int) = 4 from rfl] at hc
  rw [← HX2.out, ← HT2.out] at hc
  go_wp2_with (go_at_call 68; refine hc.mono ?_; rintro e w2 ⟨rfl, a1, g1⟩; refine Hid.out ?_)
  refine Lib.hid ?_
  replace A0 := Lib.hid a1
  replace KR := tkg g1 LR KR (by simp; have := Hne.out; omega)
  replace LR := tlz LR g1.size
  replace GG := Lib.hid (GG.out.trans g1)
  clear hc a1 g1
  have hc := rd_text t2 b w2 A0.out (by omega)
  rw [← HX3.out, ← HT3.out] at hc
  go_wp2_with (go_at_call 69; refine hc.mono ?_; rintro e w3 ⟨rfl, a1, g1⟩; refine Hid.out ?_)
  refine Lib.hid ?_
  replace A0 := Lib.hid a1
  replace KR := tkg g1 LR KR (by simp; have := Hne.out; omega)
  replace LR := tlz LR g1.size
  replace GG := Lib.hid (GG.out.trans g1)
  clear hc a1 g1
  have zR0 := tfr KR 0
  have fR0 := tcr KR 0
  have zR1 := tfr KR 1
  have fR1 := tcr KR 1
  have zR2 := tfr KR 2
  have fR2 := tcr KR 2
  go_wp2_with fail
  have f0 := heap_setCell_same _ w.heap.size 0 _ _ (.string x1) KR.out
  have f1 := heap_setCell_same _ w.heap.size 1 _ _ (.int .i64 x2) f0
  have f2 := heap_setCell_same _ w.heap.size 2 _ _ (.string x3) f1
  have gS := (((grown_set w3 ⟨w.heap.size, 0, none⟩ (.string x1)).trans (grown_set _ ⟨w.heap.size, 1, none⟩ (.int .i64 x2))).trans (grown_set _ ⟨w.heap.size, 2, none⟩ (.string x3)))
  obtain ⟨j0, q1, q2, q3, q4⟩ := info_parts infoTk
  have hne := Hne.out
  refine bodyPost_ret (results_cell_row (P := Try.prog) rfl _ _ w.heap.size _ _ (0, 0) _ rfl f2 Try.underlying116 rfl (by rw [q1]; simp [q3])) rfl ⟨rfl, A0.out.far gS (Nat.ne_of_lt hne), grown_far GG.out gS (Nat.le_refl _), Nat.lt_of_lt_of_le LR.out gS.size⟩
end Go.Proofs.Ytlklhmdpkicpnaa
