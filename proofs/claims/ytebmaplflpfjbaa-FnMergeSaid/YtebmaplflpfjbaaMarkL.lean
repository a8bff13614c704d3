/- The exact laws' marks on a row of states: written, and held. Condition: the row is the call's own. -/
import Derived.Test.YtebmaplflpfjbaaImplSplit
import Derived.Test.YtebmaplflpfjbaaBaseA
namespace Go.Proofs.Ytebmaplflpfjbaa
open Go.RowKit
set_option linter.unusedVariables false
set_option linter.unusedSimpArgs false

/-- How many numbers the marks of a row of states need. -/
def sumL : List Sq → Nat
  | [] => 0
  | q :: qs => 2 * q.s.items.length + 3 * q.s.talks.length + sumL qs
theorem sumL_append (a b : List Sq) : sumL (a ++ b) = sumL a + sumL b := by
  induction a with
  | nil => simp [sumL]
  | cons x xs ih => simp only [List.cons_append, sumL, ih]; omega
/-- One state's rows bear the marks from k on. -/
def MarkQ (w : World) (base k : Nat) (q : Sq) : Prop := SlN q.vi q.gi q.s.items.length q.ci ∧ SlN q.vt q.gt q.s.talks.length q.ct ∧
  Got w base 74 2 q.gi q.s.items.length q.ci (markI k q.s.items.length) ∧ Got w base 45 3 q.gt q.s.talks.length q.ct (markT (k + 2 * q.s.items.length) q.s.talks.length)
/-- So do all of a row. -/
def MarkL (w : World) (base : Nat) (k : Nat) (qs : List Sq) : Prop := ∀ i (h : i < qs.length), MarkQ w base (k + sumL (qs.take i)) qs[i]
theorem MarkQ.moved {w w' : World} {base k : Nat} {q : Sq} (h : MarkQ w base k q) (hs : w.heap.size ≤ w'.heap.size) (h1 : w'.heap[q.gi]? = w.heap[q.gi]?) (h2 : w'.heap[q.gt]? = w.heap[q.gt]?) : MarkQ w' base k q :=
  ⟨h.1, h.2.1, h.2.2.1.moved hs h1, h.2.2.2.moved hs h2⟩
theorem MarkQ.later {w w' : World} {base k : Nat} {q : Sq} (h : MarkQ w base k q) (hb : Below w.heap.size w w') : MarkQ w' base k q := ⟨h.1, h.2.1, h.2.2.1.later hb, h.2.2.2.later hb⟩
theorem MarkL.later {w w' : World} {base k : Nat} {qs : List Sq} (h : MarkL w base k qs) (hb : Below w.heap.size w w') : MarkL w' base k qs := fun i hi => (h i hi).later hb
theorem MarkL.push {w : World} {base k : Nat} {qs : List Sq} {q : Sq} (h : MarkL w base k qs) (hq : MarkQ w base (k + sumL qs) q) : MarkL w base k (qs ++ [q]) := by
  intro i hi
  rw [List.length_append] at hi
  by_cases he : i < qs.length
  · rw [List.getElem_append_left he, List.take_append_of_le_length (by omega)]
    exact h i he
  · obtain rfl : i = qs.length := by simp at hi; omega
    rw [List.getElem_append_right (by omega), List.take_left]
    simpa using hq
theorem apart_at {qs : List Sq} {i : Nat} (hi : i < qs.length) (h : (sqB qs).Nodup) : qs[i].gi ≠ qs[i].gt ∧ (∀ b ∈ sqB (qs.take i), b ≠ qs[i].gi ∧ b ≠ qs[i].gt) ∧ ∀ b ∈ sqB (qs.drop (i + 1)), b ≠ qs[i].gi ∧ b ≠ qs[i].gt := by
  have e : qs = qs.take i ++ ([qs[i]] ++ qs.drop (i + 1)) := by
    rw [List.singleton_append, List.getElem_cons_drop, List.take_append_drop]
  obtain ⟨x, hx⟩ : ∃ x, x = qs[i] := ⟨_, rfl⟩
  rw [← hx] at e ⊢
  rw [e, sqB_append, sqB_append, sqB_one, List.nodup_append, List.nodup_append] at h
  obtain ⟨_, ⟨h2, _, h3⟩, h4⟩ := h
  refine ⟨by simpa using h2, fun b hb => ⟨?_, ?_⟩, fun b hb => ⟨?_, ?_⟩⟩
  · exact h4 b hb _ (by simp)
  · exact h4 b hb _ (by simp)
  · exact (h3 _ (by simp) b hb).symm
  · exact (h3 _ (by simp) b hb).symm
set_option maxRecDepth 100000 in
set_option maxHeartbeats 4000000 in
theorem mark_states (n k g cap base : Nat) (qs : List Sq) (w : World) (hk : 0 < k) (hk' : k + sumL qs ≤ 9223372036854775807) (h : OwnL w base g n cap qs) (hB : base ≤ w.heap.size) :
    Calls Try.prog 36 #[.slice (some ⟨g, 0, none⟩) n cap, .int .i64 k] w fun e w' => e = .returned (.int .i64 ((k + sumL qs : Nat) : Int)) ∧ MarkL w' base k qs ∧ (∀ b, b < w.heap.size → b ∉ sqB qs → w'.heap[b]? = w.heap[b]?) ∧ Below base w w' := by
  have hn63 : n ≤ 9223372036854775807 := by have := h.capl; unfold maxLen at this; omega
  have hcl := h.capl.1
  have H := Lib.hid h
  have O0 : Hid (∀ q ∈ qs.drop 0, SqOwn w base q) := Lib.hid (by simpa using h.own)
  have Hlen := Lib.hid h.len
  clear h
  go_enter Try.func36, Try.ntmps36
  go_wp2
  go_loopw [1, 5] (fun lv i wr => ∃ j : Nat, j ≤ n ∧ i = .int .i64 j ∧ lv = .int .i64 ((k + sumL (qs.take j) : Nat) : Int) ∧ Hid (MarkL wr base k (qs.take j)) ∧ Hid (∀ q ∈ qs.drop j, SqOwn wr base q) ∧ Hid (∀ b, b < w.heap.size → b ∉ sqB qs → wr.heap[b]? = w.heap[b]?) ∧ Hid (Below base w wr)) (fun _ i _ => n - (intOf i).toNat)
  case atStart => exact ⟨0, Nat.zero_le _, rfl, by simp [sumL], Lib.hid (fun i hi => by simp at hi), O0, Lib.hid (fun b _ _ => rfl), Lib.hid (Below.refl _ _)⟩
  case round =>
    clear O0
    obtain ⟨j, hj, rfl, rfl, HM, HO, HG, BB⟩ := hrel
    by_cases hlt : j < n
    · have hjl : j < qs.length := by have := Hlen.out; omega
      obtain ⟨x, hx⟩ : ∃ x, x = qs[j] := ⟨_, rfl⟩
      have hat : At wr g 0 (qs.flatMap sqC) := fun i u hu => by
        have h1 := (row_move H.out.row (HG.out g H.out.glt.2 H.out.notg)).cells (g := g) rfl i u hu
        rwa [add_flat] at h1
      have hc := hat.sq j hjl
      rw [← hx, Nat.zero_add] at hc
      have hdrop : qs.drop j = x :: qs.drop (j + 1) := by rw [hx]; exact List.drop_eq_getElem_cons hjl
      have hown := HO.out x (by rw [hdrop]; simp)
      obtain ⟨⟨ai, hvi, hni⟩, ⟨at_, hvt, hnt⟩, gI, gT⟩ := hown
      obtain ⟨ni, hnI⟩ : ∃ ni, ni = x.s.items.length := ⟨_, rfl⟩
      obtain ⟨nt, hnT⟩ : ∃ nt, nt = x.s.talks.length := ⟨_, rfl⟩
      obtain ⟨p, hp⟩ : ∃ p, p = k + sumL (qs.take j) := ⟨_, rfl⟩
      have hsum : k + sumL (qs.take (j + 1)) = p + 2 * ni + 3 * nt := by
        rw [List.take_succ_eq_append_getElem hjl, sumL_append, ← hx, hp, hnI, hnT]; simp only [sumL]; omega
      have hle : sumL (qs.take (j + 1)) ≤ sumL qs := by
        have := sumL_append (qs.take (j + 1)) (qs.drop (j + 1))
        rw [List.take_append_drop] at this; omega
      rw [← hp]
      rw [← hnI] at hvi hni gI
      rw [← hnT] at hvt hnt gT
      obtain ⟨ap1, ap2, ap3⟩ := apart_at hjl H.out.apart
      rw [← hx] at ap1 ap2 ap3
      have hgn := H.out.notg
      have hxm : x ∈ qs := by rw [hx]; exact List.getElem_mem _
      have hgx : g ≠ x.gi ∧ g ≠ x.gt := ⟨fun e => hgn (by rw [e]; exact (sqB_mem hxm).1), fun e => hgn (by rw [e]; exact (sqB_mem hxm).2)⟩
      have hc0 := mark_itemsN ni p x.gi x.ci base ai _ wr (by omega) (by omega) hni gI
      obtain ⟨f0, f1⟩ := hc
      rw [hvi] at f0
      rw [hvt] at f1
      have hgl : g < wr.heap.size := Nat.lt_of_lt_of_le H.out.glt.2 BB.out.size
      have hf1 : Hid (∀ w', wr.grownBy w' (some x.gi) → w'.cell? ⟨g, j * 2 + 1, none⟩ = some (.slice at_ nt x.ct)) := Lib.hid (fun w' hw => (World.cell?_of_block (a := ⟨g, j * 2 + 1, none⟩) (hw.block _ hgl (by simp; exact hgx.1))).trans f1)
      have HX := Lib.hid (And.intro hx (And.intro hdrop (And.intro hnI hnT)))
      have HGI := Lib.hid gI
      have HGT := Lib.hid gT
      have HP := Lib.hid (And.intro hp (And.intro hsum hle))
      have HN := Lib.hid (And.intro hni hnt)
      have HAP := Lib.hid (And.intro ap1 (And.intro ap2 ap3))
      have HV := Lib.hid (And.intro hvi hvt)
      have hpl : 0 < p ∧ p + 2 * ni + 3 * nt ≤ 9223372036854775807 := by omega
      have Hgx := Lib.hid hgx
      have Hxb := Lib.hid (sqB_mem hxm)
      clear hx hdrop hnI hnT gI gT hp hsum hle hni hnt ap1 ap2 ap3 hvi hvt hat f1 hgn hxm hgx
      have hlt' : (j : Int) < (n : Int) := by omega
      go_wp2_with (go_at_call 67; refine hc0.mono ?_; rintro e w1 ⟨rfl, g1, b1⟩; refine Hid.out ?_)
      refine Lib.hid ?_
      have f1 := hf1.out w1 b1
      have hc1 := mark_talksN nt (p + 2 * ni) x.gt x.ct base at_ _ w1 (by omega) (by omega) HN.out.2 (HGT.out.grown b1 (fun e => HAP.out.1 e.symm))
      have G1 := Lib.hid g1
      have B1 := Lib.hid b1
      clear hc0 g1 b1 hf1
      go_wp2_with (go_at_call 68; refine hc1.mono ?_; rintro e w2 ⟨rfl, g2, b2⟩; refine Hid.out ?_)
      refine Lib.hid ?_
      have hsz1 := B1.out.size
      have hsz2 := b2.size
      have hq1 := HGI.out.2.2.2.1
      have hq2 := HGT.out.2.2.2.1
      have hb2 : Hid (Below base w w2) := Lib.hid ((BB.out.grown B1.out (Nat.le_trans hB BB.out.size) (fun j e => by cases e; exact hq1)).grown b2 (Nat.le_trans hB (Nat.le_trans BB.out.size hsz1)) (fun j e => by cases e; exact hq2))
      have hmv : ∀ b, b < wr.heap.size → b ≠ x.gi → b ≠ x.gt → w2.heap[b]? = wr.heap[b]? := fun b h1 h2 h3 =>
        (b2.block b (Nat.lt_of_lt_of_le h1 hsz1) (by simp; exact h3)).trans (B1.out.block b h1 (by simp; exact h2))
      have hMq : MarkQ w2 base (k + sumL (qs.take j)) x := by
        rw [← HP.out.1]
        refine ⟨⟨ai, by rw [← HX.out.2.2.1]; exact HV.out.1, by rw [← HX.out.2.2.1]; exact HN.out.1⟩, ⟨at_, by rw [← HX.out.2.2.2]; exact HV.out.2, by rw [← HX.out.2.2.2]; exact HN.out.2⟩, ?_, ?_⟩
        · rw [← HX.out.2.2.1]; exact G1.out.grown b2 HAP.out.1
        · rw [← HX.out.2.2.1, ← HX.out.2.2.2]; exact g2
      have hMq' : MarkQ w2 base (k + sumL (qs.take j)) qs[j] := by rw [← HX.out.1]; exact hMq
      have Hm2 : Hid (MarkL w2 base k (qs.take (j + 1))) := Lib.hid (by
        rw [List.take_succ_eq_append_getElem hjl]
        refine MarkL.push (fun i hi => ?_) hMq'
        have h1 := HM.out i hi
        have h2 := sqB_mem (List.getElem_mem hi)
        have h3 := HAP.out.2.1 _ h2.1
        have h4 := HAP.out.2.1 _ h2.2
        exact h1.moved (Nat.le_trans hsz1 hsz2) (hmv _ h1.2.2.1.2.2.2.2.1 h3.1 h3.2) (hmv _ h1.2.2.2.2.2.2.2.1 h4.1 h4.2))
      have Ho2 : Hid (∀ q ∈ qs.drop (j + 1), SqOwn w2 base q) := Lib.hid (fun q hq => by
        have h1 := HO.out q (by rw [HX.out.2.1]; simp [hq])
        have h2 := sqB_mem hq
        have h3 := HAP.out.2.2 _ h2.1
        have h4 := HAP.out.2.2 _ h2.2
        exact (h1.grown B1.out h3.1 h4.1).grown b2 h3.2 h4.2)
      have Hg2 : Hid (∀ b, b < w.heap.size → b ∉ sqB qs → w2.heap[b]? = w.heap[b]?) := Lib.hid (fun b h1 h2 => (hmv b (Nat.lt_of_lt_of_le h1 BB.out.size) (fun e => h2 (by rw [e]; exact Hxb.out.1)) (fun e => h2 (by rw [e]; exact Hxb.out.2))).trans (HG.out b h1 h2))
      have hfin : Hid (((p + 2 * ni + 3 * nt : Nat) : Int) = ((k + sumL (qs.take (j + 1)) : Nat) : Int)) := Lib.hid (by rw [HP.out.2.1])
      clear hmv hMq hMq' hsz1 hsz2 hq1 hq2 b2 g2 hc1 f0 f1
      go_wp2_with fail
      go_roundw
      case rel => exact ⟨j + 1, by omega, by go_num, hfin.out ▸ rfl, Hm2, Ho2, Hg2, hb2⟩
      case measure => simp [intOf]; omega
    · have hlt' : ¬ (j : Int) < (n : Int) := by omega
      have hall : qs.take j = qs := List.take_of_length_le (by have := Hlen.out; omega)
      rw [hall] at HM ⊢
      go_wp2
      go_ret
      exact ⟨rfl, HM.out, HG.out, BB.out⟩
set_option maxRecDepth 100000 in
set_option maxHeartbeats 4000000 in
theorem held_states (n k g cap base : Nat) (qs : List Sq) (w : World) (hk : 0 < k) (hk' : k + sumL qs ≤ 9223372036854775807) (hn : qs.length = n ∧ n ≤ 9223372036854775807 ∧ n ≤ cap) (hr : At w g 0 (qs.flatMap sqC)) (hg : g < w.heap.size) (hm : MarkL w base k qs) :
    Calls Try.prog 37 #[.slice (some ⟨g, 0, none⟩) n cap, .int .i64 k] w fun e w' => e = .returned (.int .i64 ((k + sumL qs : Nat) : Int)) ∧ Below w.heap.size w w' := by
  have HR := Lib.hid hr
  have HM := Lib.hid hm
  have Hg := Lib.hid hg
  have Hlen := Lib.hid hn.1
  obtain ⟨hn1, hn2, hn3⟩ := hn
  clear hr hm hg hn1
  go_enter Try.func37, Try.ntmps37
  go_wp2
  go_loopw [1, 5] (fun lv i wr => ∃ j : Nat, j ≤ n ∧ i = .int .i64 j ∧ lv = .int .i64 ((k + sumL (qs.take j) : Nat) : Int) ∧ Hid (Below w.heap.size w wr)) (fun _ i _ => n - (intOf i).toNat)
  case atStart => exact ⟨0, Nat.zero_le _, rfl, by simp [sumL], Lib.hid (Below.refl _ _)⟩
  case round =>
    obtain ⟨j, hj, rfl, rfl, BB⟩ := hrel
    by_cases hlt : j < n
    · have hjl : j < qs.length := by have := Hlen.out; omega
      obtain ⟨x, hx⟩ : ∃ x, x = qs[j] := ⟨_, rfl⟩
      have hc := HR.out.sq j hjl
      rw [← hx, Nat.zero_add] at hc
      have hmq := (HM.out j hjl).later BB.out
      rw [← hx] at hmq
      obtain ⟨⟨ai, hvi, hni⟩, ⟨at_, hvt, hnt⟩, gI, gT⟩ := hmq
      obtain ⟨ni, hnI⟩ : ∃ ni, ni = x.s.items.length := ⟨_, rfl⟩
      obtain ⟨nt, hnT⟩ : ∃ nt, nt = x.s.talks.length := ⟨_, rfl⟩
      obtain ⟨p, hp⟩ : ∃ p, p = k + sumL (qs.take j) := ⟨_, rfl⟩
      have hsum : k + sumL (qs.take (j + 1)) = p + 2 * ni + 3 * nt := by
        rw [List.take_succ_eq_append_getElem hjl, sumL_append, ← hx, hp, hnI, hnT]; simp only [sumL]; omega
      have hle : sumL (qs.take (j + 1)) ≤ sumL qs := by
        have := sumL_append (qs.take (j + 1)) (qs.drop (j + 1))
        rw [List.take_append_drop] at this; omega
      rw [← hp] at gI gT ⊢
      rw [← hnI] at hvi hni gI gT
      rw [← hnT] at hvt hnt gT
      obtain ⟨f0, f1⟩ := hc
      rw [hvi] at f0
      rw [hvt] at f1
      have hb := BB.out.block g Hg.out
      have f0 := (World.cell?_of_block (a := ⟨g, j * 2, none⟩) hb).trans f0
      have f1 := (World.cell?_of_block (a := ⟨g, j * 2 + 1, none⟩) hb).trans f1
      have hc0 := held_itemsN ni p x.gi x.ci base ai wr (by omega) (by omega) hni gI
      have HT := Lib.hid gT
      have HNt := Lib.hid hnt
      have hf1 : Hid (∀ w', Below wr.heap.size wr w' → w'.cell? ⟨g, j * 2 + 1, none⟩ = some (.slice at_ nt x.ct)) := Lib.hid (fun w' hw => (World.cell?_of_block (a := ⟨g, j * 2 + 1, none⟩) (hw.block _ (Nat.lt_of_lt_of_le Hg.out BB.out.size))).trans f1)
      have HP := Lib.hid hsum
      have hpl : 0 < p ∧ p + 2 * ni + 3 * nt ≤ 9223372036854775807 := by omega
      have hlt' : (j : Int) < (n : Int) := by omega
      have hneg : decide (((p + 2 * ni : Nat) : Int) < 0) = false := by simp; omega
      have hneg2 : decide (((p + 2 * ni + 3 * nt : Nat) : Int) < 0) = false := by simp; omega
      clear hx hnI hnT gI gT hp hsum hle hni hnt hvi hvt f1 hb
      go_wp2_with (go_at_call 69; refine hc0.mono ?_; rintro e w1 ⟨rfl, b1⟩; refine Hid.out ?_)
      refine Lib.hid ?_
      have f1 := hf1.out w1 b1
      have hc1 := held_talksN nt (p + 2 * ni) x.gt x.ct base at_ w1 (by omega) (by omega) HNt.out (HT.out.later b1)
      have B1 : Hid (Below w.heap.size w w1) := Lib.hid (BB.out.trans (b1.mono BB.out.size))
      clear hc0 b1 hf1
      go_wp2_with (go_at_call 70; refine hc1.mono ?_; rintro e w2 ⟨rfl, b2⟩; refine Hid.out ?_)
      refine Lib.hid ?_
      have B2 : Hid (Below w.heap.size w w2) := Lib.hid (B1.out.trans (b2.mono B1.out.size))
      have hfin : Hid (((p + 2 * ni + 3 * nt : Nat) : Int) = ((k + sumL (qs.take (j + 1)) : Nat) : Int)) := Lib.hid (by rw [HP.out])
      clear hc1 b2 f0 f1
      go_wp2_with fail
      go_roundw
      case rel => exact ⟨j + 1, by omega, by go_num, hfin.out ▸ rfl, B2⟩
      case measure => simp [intOf]; omega
    · have hlt' : ¬ (j : Int) < (n : Int) := by omega
      have hall : qs.take j = qs := List.take_of_length_le (by have := Hlen.out; omega)
      rw [hall]
      go_wp2
      go_ret
      exact ⟨rfl, BB.out⟩
end Go.Proofs.Ytebmaplflpfjbaa
