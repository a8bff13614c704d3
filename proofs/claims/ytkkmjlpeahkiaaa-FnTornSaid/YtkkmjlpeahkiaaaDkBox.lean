/- A drawn Disk in its box beside the cursor; the pure facts of a right Disk. Condition: none. -/
import Derived.Test.YtkkmjlpeahkiaaaSpecDsk
import Derived.Test.YtkkmjlpeahkiaaaCur
import Derived.Test.YtkkmjlpeahkiaaaPickInt
namespace Go.Proofs.Ytkkmjlpeahkiaaa
open Go.RowKit
set_option linter.unusedVariables false
set_option linter.unusedSimpArgs false

theorem dsk_in {d : Dsk} (h : dskOk d = true) : (0 ≤ d.rm ∧ d.rm ≤ 4000) ∧ d.sn.size ≤ 4000 ∧ d.kp.size ≤ 4000 ∧ d.ls.size ≤ 4000 ∧ (usedD d : Int) ≤ d.rm := by
  unfold dskOk at h
  simp only [Bool.and_eq_true, decide_eq_true_eq] at h
  have h1 := inB_true h.1
  have h2 := h.2
  unfold usedD at h2
  exact ⟨h1, by omega, by omega, by omega, h.2⟩
theorem dsk_mk {d : Dsk} (h0 : 0 ≤ d.rm ∧ d.rm ≤ 4000) (h : (usedD d : Int) ≤ d.rm) : dskOk d = true := by
  unfold dskOk inB
  simp only [Bool.and_eq_true, decide_eq_true_eq]
  exact ⟨h0, h⟩
theorem dsk_sm {d : Dsk} (h : dskOk d = true) : SmD d := by
  obtain ⟨h1, h2, h3, h4, _⟩ := dsk_in h
  exact ⟨⟨by omega, by omega⟩, by omega, by omega, by omega⟩
theorem app_ok {d : Dsk} (x : ByteArray) (h : dskOk d = true) : dskOk (appS d x).1 = true := by
  unfold appS
  split
  · rename_i hc
    obtain ⟨h1, _⟩ := dsk_in h
    refine dsk_mk h1 ?_
    have := hc.2.2
    unfold usedD at this ⊢
    dsimp only
    rw [ByteArray.size_append]
    omega
  · exact h
theorem ins_ok {d : Dsk} (x : ByteArray) (h : dskOk d = true) : dskOk (insS d x).1 = true := by
  unfold insS
  split
  · rename_i hc
    obtain ⟨h1, _⟩ := dsk_in h
    refine dsk_mk h1 ?_
    have := hc.2
    unfold usedD at this ⊢
    dsimp only
    show ((x.size + 0 + 0 : Nat) : Int) ≤ d.rm
    omega
  · exact h
theorem sync_ok {d : Dsk} (h : dskOk d = true) : dskOk (syncS d) = true := by
  unfold syncS
  rw [if_pos h]
  obtain ⟨h1, _, _, _, h5⟩ := dsk_in h
  refine dsk_mk h1 ?_
  unfold usedD at h5 ⊢
  dsimp only
  rw [ByteArray.size_append]
  show ((d.sn.size + (d.kp.size + d.ls.size) + 0 : Nat) : Int) ≤ d.rm
  omega
theorem crash_ok {d : Dsk} (k : Int) (h : dskOk d = true) : dskOk (crashS d k) = true := by
  unfold crashS
  rw [if_pos h]
  obtain ⟨h1, _, _, _, h5⟩ := dsk_in h
  refine dsk_mk h1 ?_
  unfold usedD at h5 ⊢
  dsimp only
  rw [ByteArray.size_append, ByteArray.size_extract]
  show ((d.sn.size + (d.kp.size + (min (keepN d.ls.size k) d.ls.size - 0)) + 0 : Nat) : Int) ≤ d.rm
  omega
/-- The cursor, the result's box and the Disk's box. -/
structure DK (w wr : World) (B blk g : Nat) (d : Dsk) : Prop where
  cu : Cu TC wr B blk
  gr : w.grownBy wr (some blk)
  kr : wr.heap[w.heap.size]? = some (.cells #[.int .i64 0, .string ⟨#[]⟩, .string ⟨#[]⟩, .string ⟨#[]⟩] 26 (0, 0))
  kd : wr.heap[g]? = some (.cells #[.int .i64 d.rm, .string d.sn, .string d.kp, .string d.ls] 26 (0, 0))
  hg : w.heap.size < g
  hb : blk < w.heap.size
theorem DK.lt {w wr : World} {B blk g : Nat} {d : Dsk} (h : DK w wr B blk g d) : g < wr.heap.size := lt_of_block h.kd
theorem DK.turn {w wr w2 : World} {B blk g : Nat} {d : Dsk} (h : DK w wr B blk g d) (hgr : wr.grownBy w2 (some blk)) (hcu : Cu TC w2 B blk) : DK w w2 B blk g d := by
  have h1 := h.hg
  have h2 := h.hb
  have h3 := h.lt
  exact ⟨hcu, h.gr.trans hgr, (hgr.block _ (by omega) (by simp; omega)).trans h.kr, (hgr.block _ h3 (by simp; omega)).trans h.kd, h1, h2⟩
theorem cu_below {w w2 : World} {B blk : Nat} (c : Cu TC w B blk) (hb : Below w.heap.size w w2) : Cu TC w2 B blk :=
  c.kept (hb.mono (by have := c.le; have := c.lt; omega)) (hb.block _ c.lt)
theorem grown_any {w w2 : World} (hb : Below w.heap.size w w2) (r : Option Nat) : w.grownBy w2 r := ⟨hb.os, hb.tape, hb.output, hb.size, fun k hk _ => hb.block k hk⟩
theorem DK.below {w wr w2 : World} {B blk g : Nat} {d : Dsk} (h : DK w wr B blk g d) (hb : Below wr.heap.size wr w2) : DK w w2 B blk g d :=
  h.turn (grown_any hb _) (cu_below h.cu hb)
theorem grown_other {w w1 w2 : World} {b g : Nat} (h : w.grownBy w1 (some b)) (hg : w1.grownBy w2 (some g)) (hn : w.heap.size ≤ g) : w.grownBy w2 (some b) :=
  ⟨hg.os.trans h.os, hg.tape.trans h.tape, hg.output.trans h.output, Nat.le_trans h.size hg.size, fun k hk hne => (hg.block k (Nat.lt_of_lt_of_le hk h.size) (by simp; omega)).trans (h.block k hk hne)⟩
theorem cu_set {w : World} {B blk g i : Nat} {v : Value} (c : Cu TC w B blk) (h : blk < g) : Cu TC (w.setCell ⟨g, i, none⟩ v) B blk :=
  c.kept ((Below.refl _ _).setCell (p := ⟨g, i, none⟩) (by have := c.le; show B ≤ g; omega) _) (heap_setCell_other _ ⟨g, i, none⟩ _ _ (by show blk ≠ g; omega))
theorem grown_set1 {w w1 : World} {b g i : Nat} {v : Value} (h : w.grownBy w1 (some b)) (hn : w.heap.size ≤ g) : w.grownBy (w1.setCell ⟨g, i, none⟩ v) (some b) :=
  grown_other h (grown_set w1 ⟨g, i, none⟩ v) hn
theorem DK.store {w wr : World} {B blk g : Nat} {d : Dsk} (h : DK w wr B blk g d) (e : Dsk) :
    DK w ((((wr.setCell ⟨g, 0, none⟩ (.int .i64 e.rm)).setCell ⟨g, 1, none⟩ (.string e.sn)).setCell ⟨g, 2, none⟩ (.string e.kp)).setCell ⟨g, 3, none⟩ (.string e.ls)) B blk g e := by
  have h1 := h.hg
  have h2 := h.hb
  have h3 : blk < g := Nat.lt_trans h2 h1
  have h4 : w.heap.size ≤ g := Nat.le_of_lt h1
  have h5 : w.heap.size ≠ g := Nat.ne_of_lt h1
  exact ⟨cu_set (cu_set (cu_set (cu_set h.cu h3) h3) h3) h3, grown_set1 (grown_set1 (grown_set1 (grown_set1 h.gr h4) h4) h4) h4, otherD (otherD (otherD (otherD h.kr h5) h5) h5) h5, storeD h.kd, h1, h2⟩
theorem DK.ft {w wr : World} {B blk g : Nat} {d : Dsk} (h : DK w wr B blk g d) : wr.cell? ⟨g, 0, none⟩ = some (.int .i64 d.rm) ∧ wr.cell? ⟨g, 1, none⟩ = some (.string d.sn) ∧ wr.cell? ⟨g, 2, none⟩ = some (.string d.kp) ∧ wr.cell? ⟨g, 3, none⟩ = some (.string d.ls) := by
  have K := Lib.hid h.kd
  exact ⟨tcr K 0, tcr K 1, tcr K 2, tcr K 3⟩
theorem DK.zt {w wr : World} {B blk g : Nat} {d : Dsk} (h : DK w wr B blk g d) (i : Nat) : wr.frozen? ⟨g, i, none⟩ = false := by
  have K := Lib.hid h.kd
  exact tfr K i
/-- A draw of a Disk. -/
def DrewDsk (w : World) (B blk : Nat) (Q : Dsk → Prop) (e : Ending) (w' : World) : Prop := ∃ d, e = .returned (dskV d) ∧ Q d ∧ Cu TC w' B blk ∧ w.grownBy w' (some blk)
/-- The result's box is laid, and handed back. -/
theorem DK.ret {w wr : World} {B blk g : Nat} {d : Dsk} (h : DK w wr B blk g d) :
    ((((wr.setCell ⟨w.heap.size, 0, none⟩ (.int .i64 d.rm)).setCell ⟨w.heap.size, 1, none⟩ (.string d.sn)).setCell ⟨w.heap.size, 2, none⟩ (.string d.kp)).setCell ⟨w.heap.size, 3, none⟩ (.string d.ls)).heap[w.heap.size]? = some (.cells #[.int .i64 d.rm, .string d.sn, .string d.kp, .string d.ls] 26 (0, 0)) ∧
    Cu TC ((((wr.setCell ⟨w.heap.size, 0, none⟩ (.int .i64 d.rm)).setCell ⟨w.heap.size, 1, none⟩ (.string d.sn)).setCell ⟨w.heap.size, 2, none⟩ (.string d.kp)).setCell ⟨w.heap.size, 3, none⟩ (.string d.ls)) B blk ∧
    w.grownBy ((((wr.setCell ⟨w.heap.size, 0, none⟩ (.int .i64 d.rm)).setCell ⟨w.heap.size, 1, none⟩ (.string d.sn)).setCell ⟨w.heap.size, 2, none⟩ (.string d.kp)).setCell ⟨w.heap.size, 3, none⟩ (.string d.ls)) (some blk) := by
  have h2 := h.hb
  have h4 : w.heap.size ≤ w.heap.size := Nat.le_refl _
  exact ⟨storeD h.kr, cu_set (cu_set (cu_set (cu_set h.cu h2) h2) h2) h2, grown_set1 (grown_set1 (grown_set1 (grown_set1 h.gr h4) h4) h4) h4⟩
/-- A pick out of a row of literal numbers. -/
def okI (lo hi : Int) : Value → Bool
  | .int .i64 n => decide (lo ≤ n ∧ n ≤ hi)
  | _ => false
theorem pickI (lo hi : Int) (B blk n cap : Nat) (w : World) (cs : Array Value) (t : TypeId) (c : Cu TC w B blk) (hn : n = cs.size) (h1 : 1 ≤ n) (h2 : n ≤ 1000000) (h : cs.toList.all (okI lo hi) = true) :
    Calls Try.prog 69 #[.pointer (some ⟨blk, 0, none⟩), .slice (some ⟨w.heap.size, 0, none⟩) n cap] (w.alloc (.cells cs t)) (DrewInt TC (w.alloc (.cells cs t)) B blk (fun x => lo ≤ x ∧ x ≤ hi)) := by
  have hl : ∀ j, j < n → ∃ s : Int, (w.alloc (.cells cs t)).cell? ⟨w.heap.size, j, none⟩ = some (.int .i64 s) ∧ (fun v : Value => ∃ m : Int, v = .int .i64 m ∧ lo ≤ m ∧ m ≤ hi) (.int .i64 s) := by
    intro j hj
    have hj2 : j < cs.toList.length := by simpa [← hn] using hj
    have hm := List.all_eq_true.1 h _ (List.getElem_mem hj2)
    have hc : (w.alloc (.cells cs t)).cell? ⟨w.heap.size, j, none⟩ = some (cs.toList[j]) := by
      rw [World.cell?_alloc_new]
      simp at hj2
      simp [hj2]
    rw [hc]
    generalize cs.toList[j] = v at hm
    cases v <;> simp [okI] at hm
    rename_i kk m
    cases kk <;> simp [okI] at hm
    exact ⟨m, rfl, m, rfl, hm⟩
  refine (pickInt_any (fun v : Value => ∃ m : Int, v = .int .i64 m ∧ lo ≤ m ∧ m ≤ hi) w.heap.size n cap h1 h2 B blk (w.alloc (.cells cs t)) (by have := c.lt; omega) hl (c.alloc _)).mono ?_
  rintro e w' ⟨x, ⟨m, hm, hq⟩, he, hc, hg⟩
  cases hm
  exact ⟨x, hq, he, hc, hg⟩
end Go.Proofs.Ytkkmjlpeahkiaaa
