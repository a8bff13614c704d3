/- A drawn row of pieces, with something done to it sometimes: l07List, DrawImport. Condition: a code of at most 2^20 bytes. -/
import Derived.Test.YtlklhmdpkicpnaaDrawGetPc
import Derived.Test.YtlklhmdpkicpnaaStrA
import Derived.Test.YtlklhmdpkicpnaaBaseA
import Derived.Test.YtlklhmdpkicpnaaImplCut
import Derived.Test.YtlklhmdpkicpnaaSameRaw
import Derived.Test.YtlklhmdpkicpnaaDrawFmt
namespace Go.Proofs.Ytlklhmdpkicpnaa
open Go.RowKit
set_option linter.unusedVariables false
set_option linter.unusedSimpArgs false

theorem got_keptT {w w' : World} {base e size g n cap k : Nat} {cs : List Value} (h : Got w base e size g n cap cs) (hg : w.grownBy w' (some k)) (hne : k < base) : Got w' base e size g n cap cs :=
  h.grown hg (by have h1 := h.2.2.2.1; omega)
theorem set_take (l : List Value) (k n : Nat) (hk : k < l.length) (v : Value) : (l.take k ++ [v] ++ l.drop (k + 1)).take n = (l.take n).set k v := by
  have h : l.take k ++ [v] ++ l.drop (k + 1) = l.set k v := by
    rw [List.set_eq_take_append_cons_drop, if_pos hk]; simp
  rw [h, List.take_set]
theorem got_setT {w : World} {base g cap : Nat} {e : TypeId} {xs : List ByteArray} (h : Got w base e 1 g xs.length cap (xs.map Value.string)) (k : Nat) (hk : k < xs.length) (u : ByteArray) :
    Got (w.setCell ⟨g, k, none⟩ (.string u)) base e 1 g (xs.set k u).length cap ((xs.set k u).map Value.string) := by
  have hc := h.2.1
  obtain ⟨cur, h1, h2, h3⟩ := got_put h (by omega) k [.string u] xs.length hc (by simp; omega)
  have h3 : Got (w.setCell ⟨g, k, none⟩ (.string u)) base e 1 g xs.length cap ((cur.take k ++ [Value.string u] ++ cur.drop (k + 1)).take (xs.length * 1)) := h3
  rw [set_take _ _ _ (by omega), h2, ← List.map_set] at h3
  rw [List.length_set]
  exact h3
theorem got_cellT {w : World} {base g cap : Nat} {e : TypeId} {xs : List ByteArray} (h : Got w base e 1 g xs.length cap (xs.map Value.string)) (k : Nat) (hk : k < xs.length) :
    w.cell? ⟨g, k, none⟩ = some (.string xs[k]) ∧ w.frozen? ⟨g, k, none⟩ = false := by
  obtain ⟨cur, h1, h2, h3⟩ := got_cells h (by omega)
  refine ⟨?_, frozen_of_row w g k cur e h1⟩
  rw [cell_of_row w g k cur e _ h1]
  have h4 : (xs.map Value.string)[k]? = some (.string xs[k]) := by rw [List.getElem?_map, List.getElem?_eq_getElem hk]; rfl
  rw [← h3, List.getElem?_take, if_pos (by omega), Array.getElem?_toList] at h4
  exact h4
theorem got_takeT {w : World} {base e g n cap : Nat} {cs : List Value} (h : Got w base e 1 g n cap cs) (hn : 0 < n) (i : Nat) (hi : i ≤ n) : Got w base e 1 g i cap (cs.take i) := by
  have hc := h.2.1
  obtain ⟨cur, h1, h2, h3⟩ := got_put h hn 0 [] i (by omega) (by simp)
  have h3 : Got w base e 1 g i cap ((cur.take 0 ++ [] ++ cur.drop (0 + 0)).take (i * 1)) := h3
  rw [← h2, List.take_take, Nat.mul_one, Nat.min_eq_left hi]
  simpa using h3
theorem raw_dropT {w : World} {base e g n cap : Nat} {cs : List Value} (h : Got w base e 1 g n cap cs) (hn : 0 < n) (o : Nat) (ho : o ≤ n) (a : Nat) (ha : o < n → a = o) : Raw w w.heap.size (.slice (some ⟨g, a, none⟩) (n - o) (cap - o)) (n - o) (cs.drop o) := by
  have hc := h.2.1
  have hm := h.2.2.1
  refine ⟨_, cap - o, rfl, by omega, by omega, (fun h => by cases h), fun hp => ⟨g, a, rfl, h.2.2.2.2.1, fun j u hu => ?_⟩⟩
  obtain rfl := ha (by omega)
  obtain ⟨cur, h1, h2, h3⟩ := got_cells h hn
  rw [cell_of_row w g (a + j) cur e _ h1]
  rw [← h3, List.getElem?_drop, List.getElem?_take] at hu
  split at hu
  · rw [Array.getElem?_toList] at hu; exact hu
  · cases hu
theorem cu_far {w w' : World} {T : TypeId} {B blk g : Nat} (c : Cu T w B blk) (hg : w.grownBy w' (some g)) (h : blk < g) : Cu T w' B blk := by
  have h1 := c.le
  have h2 := c.lt
  exact c.kept ⟨hg.os, hg.tape, hg.output, hg.size, fun k hk => hg.block k (by omega) (fun e => by cases e; omega)⟩ (hg.block blk c.lt (fun e => by cases e; omega))
theorem grown_farT {w w1 w2 : World} {r g : Nat} (h : w.grownBy w1 (some r)) (hg : w1.grownBy w2 (some g)) (h2 : w.heap.size ≤ g) : w.grownBy w2 (some r) :=
  h.andThen hg (fun j e => .inl (by cases e; exact h2))
theorem getP_small (t : ByteArray) : FitPc (getP t).1 ∧ (getP t).1.b.size ≤ 200 := by
  cases h : (getP t).2 with
  | true =>
    have hp := (pc_put h).2
    exact ⟨ok_fit' hp, (by have := pc_in hp; omega)⟩
  | false =>
    rw [pc_no h]
    exact ⟨⟨by decide, by decide, Nat.zero_le _, by decide⟩, Nat.zero_le _⟩
theorem one_str (l : List ByteArray) : ∀ u ∈ l.map Value.string, u.oneCell' = true := fun u hu => by obtain ⟨x, _, rfl⟩ := List.mem_map.1 hu; rfl
theorem raw_got {w : World} {base g cap n : Nat} {e : TypeId} {xs : List ByteArray} {cs : List Value} (h : Got w base e 1 g n cap cs) (hn : n = xs.length) (hc : cs = xs.map Value.string) : Raw w w.heap.size (.slice (some ⟨g, 0, none⟩) n cap) xs.length (xs.map Value.string) := by
  subst hn
  rw [← hc]
  exact raw_of_row (row_of_got h)
set_option maxRecDepth 100000 in
set_option maxHeartbeats 4000000 in
theorem list_any (B blk : Nat) (w : World) (c : Cu TC w B blk) :
    Calls Try.prog 91 #[.pointer (some ⟨blk, 0, none⟩)] w fun e w' => ∃ (v : Value) (xs : List ByteArray), e = .returned v ∧ Raw w' w'.heap.size v xs.length (xs.map Value.string) ∧ (∀ x ∈ xs, x.size ≤ 1099511627776) ∧ xs.length ≤ 1099511627776 ∧ Cu TC w' B blk ∧ w.grownBy w' (some blk) := by
  have HN := Lib.hid c.lt
  have HLE := Lib.hid c.le
  have CU := Lib.hid c
  have GR : Hid (w.grownBy w (some blk)) := Lib.hid (World.grownBy.refl _ _)
  have NW : Hid (w.heap.size ≤ w.heap.size) := Lib.hid (Nat.le_refl _)
  clear c
  go_enter Try.func91, Try.ntmps91
  have hc := make_any B blk w CU.out
  go_wp2_with (go_at_call 118; refine hc.mono ?_; rintro e w1 ⟨v, s, rfl, own, hsm, cu, gr⟩; refine Hid.out ?_)
  refine Lib.hid ?_
  obtain ⟨a0, k0, a1, k1, rfl⟩ := two_own own
  have OS := Lib.hid own
  have Hsm := Lib.hid (sm_fits hsm)
  clear own hsm
  replace NW := Lib.hid (Nat.le_trans NW.out gr.size)
  replace GR := Lib.hid (GR.out.trans gr)
  replace CU := Lib.hid cu
  clear gr cu hc  
  have hc := below_any 3 (by omega) _ _ _ CU.out
  go_wp2_with (go_at_call 63; refine hc.mono ?_; rintro e w2 ⟨x, ⟨hx0, hx1, _⟩, rfl, cu, gr⟩; refine Hid.out ?_)
  refine Lib.hid ?_
  have hx1 := hx1 (by omega)
  have Hx : Hid (0 ≤ x ∧ x < 3) := Lib.hid ⟨hx0, hx1⟩
  clear hx0 hx1
  replace NW := Lib.hid (Nat.le_trans NW.out gr.size)
  replace OS := Lib.hid (OS.out.kept gr HN.out)
  replace GR := Lib.hid (GR.out.trans gr)
  replace CU := Lib.hid cu
  clear gr cu hc  
  have hx := Hx.out
  have hbg := CU.out.lt
  obtain ⟨XIw3, hXIw3⟩ : ∃ z, z = w2.alloc (.cells #[.int .i64 8, .int .i64 12, .int .i64 30, .int .i64 200] 3) := ⟨_, rfl⟩
  have hb : Below w2.heap.size w2 XIw3 := by rw [hXIw3]; exact (Below.refl _ _).alloc (Nat.le_refl _) _
  replace NW := Lib.hid (Nat.le_trans NW.out hb.size)
  replace OS := Lib.hid (OS.out.later hb)
  replace GR := Lib.hid (GR.out.trans (grown_of_below hb _))
  replace CU := Lib.hid (CU.out.kept (hb.mono (by have := CU.out.le; have := CU.out.lt; omega)) (hb.block _ CU.out.lt))
  have KI : Hid (XIw3.heap[w2.heap.size]? = some (.cells #[.int .i64 8, .int .i64 12, .int .i64 30, .int .i64 200] 3 (0, 0))) := Lib.hid (by rw [hXIw3]; exact heap_new _ _)
  have LI : Hid (w2.heap.size < XIw3.heap.size) := Lib.hid (by rw [hXIw3]; simp)
  clear hb
  have hc := pickInt_any (QF (fun n => decide ((8) ≤ n ∧ n ≤ (200)))) (w2.heap.size) 4 4 (by omega) (by omega) _ _ _ (by omega) (ints_f _ KI.out (by decide) _ rfl) CU.out
  rw [hXIw3] at hc  
  go_wp2_with (go_at_call 65; refine hc.mono ?_; rintro e w3 ⟨y, hq, rfl, cu, gr⟩; refine Hid.out ?_)
  refine Lib.hid ?_
  rw [← hXIw3] at gr
  have Hy : Hid ((8) ≤ y ∧ y ≤ (200)) := Lib.hid (qf_of hq)
  clear hq
  replace KI := tkg gr LI KI (by have h1 := HN.out; simp; omega)
  replace LI := tlz LI gr.size
  replace NW := Lib.hid (Nat.le_trans NW.out gr.size)
  replace OS := Lib.hid (OS.out.kept gr HN.out)
  replace GR := Lib.hid (GR.out.trans gr)
  replace CU := Lib.hid cu
  clear gr cu hc  
  clear hXIw3
  clear KI LI
  clear hbg
  have NW3 := NW
  have Hlen := exp_len (fmtS s (1 + x)) y
  have Hmem := Lib.hid (exp_mem (s := fmtS s (1 + x)) (n := y))
  have hc := spec_export s _ (1 + x) y w3.heap.size w3 OS.out.st (Nat.le_refl _) Hsm.out
  go_wp2_with (go_at_call 36; refine hc.mono ?_; rintro e w4 ⟨vE, rfl, hE, hb⟩; refine Hid.out ?_)
  refine Lib.hid ?_
  obtain ⟨E, hEe⟩ : ∃ E, E = cutS (fmtS s (1 + x)) y := ⟨_, rfl⟩
  rw [← hEe] at hE Hlen Hmem
  have HT := Lib.hid hE
  clear hE hEe
  replace NW := Lib.hid (Nat.le_trans NW.out hb.size)
  replace GR := Lib.hid (GR.out.trans (grown_of_below hb _))
  replace CU := Lib.hid (CU.out.kept (hb.mono (by have := CU.out.le; have := CU.out.lt; omega)) (hb.block _ CU.out.lt))
  clear hb hc  
  obtain ⟨ea, ec, rfl, hraw⟩ := texts_raw HT.out
  by_cases h0 : E.length = 0
  · have hl0 : ((E.length : Int) == 0) = true := by rw [h0]; rfl
    go_wp2_with fail
    go_ret
    exact ⟨_, E, rfl, hraw, (fun x hx => by have := Hmem.out x hx; omega), by omega, CU.out, GR.out⟩
  have hl0 : ((E.length : Int) == 0) = false := by rw [beq_eq_false_iff_ne]; omega
  obtain ⟨g, cap, hv, hgot⟩ : ∃ g cap, Value.slice ea E.length ec = .slice (some ⟨g, 0, none⟩) E.length cap ∧ Got w4 w3.heap.size 9 1 g E.length cap (E.map Value.string) := by
    obtain ⟨hl, ⟨hv, h00⟩ | ⟨g, cap, cur, hv, hg, hh, hc, hm, hs, ht⟩⟩ := id HT.out
    · exact absurd h00 h0
    · exact ⟨g, cap, hv, by simp, hc, hm, hg, (Array.getElem?_eq_some_iff.1 hh).1, .inr (by rw [← hv]; exact HT.out)⟩
  obtain ⟨rfl, rfl⟩ : ea = some ⟨g, 0, none⟩ ∧ ec = cap := by injection hv with e1 _ e2; exact ⟨e1, e2⟩
  have GT := Lib.hid hgot
  have NB : Hid (blk < w3.heap.size) := Lib.hid (by have := HN.out; have := NW3.out; omega)
  have NG : Hid (w3.heap.size ≤ g ∧ g < w4.heap.size) := Lib.hid ⟨hgot.2.2.2.1, hgot.2.2.2.2.1⟩
  have hcap := hgot.2.1
  have hcm := hgot.2.2.1
  have N4 : Hid (w4.heap.size ≤ w4.heap.size) := Lib.hid (Nat.le_refl _)
  clear hv hgot hraw HT OS
  have hc := below_any (E.length : Int) (by omega) _ _ _ CU.out
  go_wp2_with (go_at_call 63; refine hc.mono ?_; rintro e w5 ⟨i, ⟨hx0, hx1, _⟩, rfl, cu, gr⟩; refine Hid.out ?_)
  refine Lib.hid ?_
  have hx1 := hx1 (by omega)
  have Hi : Hid (0 ≤ i ∧ i < (E.length : Int)) := Lib.hid ⟨hx0, hx1⟩
  clear hx0 hx1
  replace NW := Lib.hid (Nat.le_trans NW.out gr.size)
  replace N4 := Lib.hid (Nat.le_trans N4.out gr.size)
  replace GT := Lib.hid (got_keptT GT.out gr NB.out)
  replace GR := Lib.hid (GR.out.trans gr)
  replace CU := Lib.hid cu
  clear gr cu hc  
  have hi := Hi.out
  obtain ⟨k, rfl⟩ := Int.eq_ofNat_of_zero_le hi.1
  have hk : k < E.length := by omega
  clear Hi hi
  have hc := below_any 8 (by omega) _ _ _ CU.out
  go_wp2_with (go_at_call 63; refine hc.mono ?_; rintro e w6 ⟨z, ⟨hx0, hx1, _⟩, rfl, cu, gr⟩; refine Hid.out ?_)
  refine Lib.hid ?_
  have hx1 := hx1 (by omega)
  have Hz : Hid (0 ≤ z ∧ z < 8) := Lib.hid ⟨hx0, hx1⟩
  clear hx0 hx1
  replace NW := Lib.hid (Nat.le_trans NW.out gr.size)
  replace N4 := Lib.hid (Nat.le_trans N4.out gr.size)
  replace GT := Lib.hid (got_keptT GT.out gr NB.out)
  replace GR := Lib.hid (GR.out.trans gr)
  replace CU := Lib.hid cu
  clear gr cu hc  
  have hz := Hz.out
  clear Hz
  have hng := NG.out
  have hnb := NB.out
  have hnw := NW3.out
  obtain ⟨x0, hx0⟩ : ∃ t, t = E[k] := ⟨_, rfl⟩
  have hx0s : x0.size ≤ 215 := by rw [hx0]; exact Hmem.out _ (List.getElem_mem hk)
  obtain ⟨f0, fz0⟩ := got_cellT GT.out k hk
  rw [← hx0] at f0
  have HX0 := Lib.hid hx0
  clear hx0
  obtain ⟨i0, p1, p2, p3, p4⟩ := info_parts infoS7
  rcases (show z = 0 ∨ z = 1 ∨ z = 2 ∨ z = 3 ∨ z = 4 ∨ z = 5 ∨ 6 ≤ z by omega) with rfl | rfl | rfl | rfl | rfl | rfl | hz6
  · have i1 : (0 : Int) ≤ (k : Int) := by omega
    have i2 : (0 : Int) ≤ (k : Int) + 1 := by omega
    have i3 : (k : Int) ≤ (ec : Int) := by omega
    have i4 : (k : Int) + 1 ≤ (E.length : Int) := by omega
    have i5 : (E.length : Int) ≤ (ec : Int) := by omega
    have i6 : (k : Int) + 1 ≤ (ec : Int) := by omega
    have hwk : IntKind.i64.wrap ((k : Int) + 1) = (k : Int) + 1 := by rw [IntKind.wrap_i64] <;> omega
    have htn : ((k : Int) + 1).toNat = k + 1 := by omega
    by_cases hcc : ec = k + 1
    · subst hcc
      have hE1 : E.length = k + 1 := by omega
      have i9 : (k : Int) ≤ (k : Int) + 1 := by omega
      go_wp2_with fail
      refine wp_region_held_drew (S := (fun _ => True)) (by kernel_rfl) trivial (fun hHeld => ?_)
      obtain ⟨zD, hzD⟩ : ∃ z, z = w6.drew := ⟨_, rfl⟩
      rw [← hzD]
      have hb : Below w6.heap.size w6 zD := by rw [hzD]; exact (Below.refl _ _).drew
      replace NW := Lib.hid (Nat.le_trans NW.out hb.size)
      replace N4 := Lib.hid (Nat.le_trans N4.out hb.size)
      replace GT := Lib.hid (GT.out.later hb)
      replace GR := Lib.hid (GR.out.trans (grown_of_below hb _))
      replace CU := Lib.hid (CU.out.kept (hb.mono (by have := CU.out.le; have := CU.out.lt; omega)) (hb.block _ CU.out.lt))
      clear hb hzD f0 fz0
      obtain ⟨g1, c1, z1, run1, gr1, loc1, got1⟩ := run_app (P := Try.prog) zD 34 34 9 i0 _ 1 16 Try.underlying34 p1 p2 p3 p4 rfl (by decide) g k _ w3.heap.size _ (got_takeT GT.out (by omega) k (by omega)) _ _ (E.length - (k + 1)) _ (raw_dropT GT.out (by omega) (k + 1) (by omega) 0 (by omega)) (by simp) (by rw [← List.map_drop]; exact one_str _) (by omega) (by omega)
      refine tk0 0 ?_
      refine tk0 1 ?_
      refine tk0 2 ?_
      refine tk0 3 ?_
      refine tk0 4 ?_
      refine tk0 5 ?_
      refine tk0 6 ?_
      refine rd1 7 (fun K hK => ?_)
      refine step_run rfl _ _ _ rfl _ _ _ (by simp [Act.eval]) (by first | (simp [Act.eval]; done) | (simp [Act.eval, hcc]; done) | (simp [Act.eval]; omega)) run1 ?_
      refine hK.out _ _ trivial (fun hHeld => ?_)
      clear hK K
      refine tk0 8 ?_
      refine wpAnyH_done (by kernel_rfl) ?_ _
      clear hHeld
      rw [show k + (E.length - (k + 1)) = k by omega] at got1
      go_wp2_with fail
      go_ret
      exact ⟨_, E.take k ++ E.drop (k + 1), rfl, raw_got got1 (by simp; omega) (by simp [List.map_take, List.map_drop]), (fun x hx => by have := Hmem.out x (by rcases List.mem_append.1 hx with h | h; exact List.mem_of_mem_take h; exact List.mem_of_mem_drop h); omega), by simp; omega, cu_far CU.out gr1 (by omega), grown_farT GR.out gr1 (by omega)⟩
    go_wp2_with fail
    refine wp_region_held_drew (S := (fun _ => True)) (by kernel_rfl) trivial (fun hHeld => ?_)
    obtain ⟨zD, hzD⟩ : ∃ z, z = w6.drew := ⟨_, rfl⟩
    rw [← hzD]
    have hb : Below w6.heap.size w6 zD := by rw [hzD]; exact (Below.refl _ _).drew
    replace NW := Lib.hid (Nat.le_trans NW.out hb.size)
    replace N4 := Lib.hid (Nat.le_trans N4.out hb.size)
    replace GT := Lib.hid (GT.out.later hb)
    replace GR := Lib.hid (GR.out.trans (grown_of_below hb _))
    replace CU := Lib.hid (CU.out.kept (hb.mono (by have := CU.out.le; have := CU.out.lt; omega)) (hb.block _ CU.out.lt))
    clear hb hzD f0 fz0
    obtain ⟨g1, c1, z1, run1, gr1, loc1, got1⟩ := run_app (P := Try.prog) zD 34 34 9 i0 _ 1 16 Try.underlying34 p1 p2 p3 p4 rfl (by decide) g k _ w3.heap.size _ (got_takeT GT.out (by omega) k (by omega)) _ _ (E.length - (k + 1)) _ (raw_dropT GT.out (by omega) (k + 1) (by omega) (k + 1) (by omega)) (by simp) (by rw [← List.map_drop]; exact one_str _) (by omega) (by omega)
    refine tk0 0 ?_
    refine tk0 1 ?_
    refine tk0 2 ?_
    refine tk0 3 ?_
    refine tk0 4 ?_
    refine tk0 5 ?_
    refine tk0 6 ?_
    refine rd1 7 (fun K hK => ?_)
    refine step_run rfl _ _ _ rfl _ _ _ (by simp [Act.eval]) (by first | (simp [Act.eval]; done) | (simp [Act.eval, hcc]; done) | (simp [Act.eval]; omega)) run1 ?_
    refine hK.out _ _ trivial (fun hHeld => ?_)
    clear hK K
    refine tk0 8 ?_
    refine wpAnyH_done (by kernel_rfl) ?_ _
    clear hHeld
    go_wp2_with fail
    go_ret
    exact ⟨_, E.take k ++ E.drop (k + 1), rfl, raw_got got1 (by simp; omega) (by simp [List.map_take, List.map_drop]), (fun x hx => by have := Hmem.out x (by rcases List.mem_append.1 hx with h | h; exact List.mem_of_mem_take h; exact List.mem_of_mem_drop h); omega), by simp; omega, cu_far CU.out gr1 (by omega), grown_farT GR.out gr1 (by omega)⟩
  · obtain ⟨V, hV⟩ : ∃ z, z = w6.alloc (.cells #[.string x0] 9) := ⟨_, rfl⟩
    have hb : Below w6.heap.size w6 V := by rw [hV]; exact (Below.refl _ _).alloc (Nat.le_refl _) _
    replace NW := Lib.hid (Nat.le_trans NW.out hb.size)
    replace N4 := Lib.hid (Nat.le_trans N4.out hb.size)
    replace GT := Lib.hid (GT.out.later hb)
    replace GR := Lib.hid (GR.out.trans (grown_of_below hb _))
    replace CU := Lib.hid (CU.out.kept (hb.mono (by have := CU.out.le; have := CU.out.lt; omega)) (hb.block _ CU.out.lt))
    have KV : Hid (V.heap[w6.heap.size]? = some (.cells #[.string x0] 9 (0, 0))) := Lib.hid (by rw [hV]; exact heap_new _ _)
    have LV : Hid (w6.heap.size < V.heap.size) := Lib.hid (by rw [hV]; simp)
    clear hb
    obtain ⟨g1, c1, z1, run1, gr1, loc1, got1⟩ := run_app (P := Try.prog) V 34 34 9 i0 _ 1 16 Try.underlying34 p1 p2 p3 p4 rfl (by decide) g E.length ec w3.heap.size _ GT.out _ _ 1 [Value.string x0] (one_rawS (cs := [Value.string x0]) KV.out LV.out) (by simp) (by simp [Value.oneCell']) (by unfold maxLen; omega) (by omega)
    have HR := Lib.hid run1
    rw [hV] at HR
    go_wp2_with (at_builtin; refine wpList_app rfl _ _ _ rfl _ _ _ rfl rfl HR.out ?_)
    go_ret
    exact ⟨_, E ++ [x0], rfl, raw_got got1 (by simp) (by simp), (fun x hx => by rcases List.mem_append.1 hx with h | h; have := Hmem.out x h; omega; rw [List.mem_singleton.1 h]; omega), by simp; omega, cu_far CU.out gr1 (by omega), grown_farT GR.out gr1 (by omega)⟩
  · have hc := bent_any x0 215 (by omega) (by omega) _ _ _ CU.out
    go_wp2_with (go_at_call 64; refine hc.mono ?_; rintro e w7 ⟨u, hu, rfl, cu, gr⟩; refine Hid.out ?_)
    refine Lib.hid ?_
    replace NW := Lib.hid (Nat.le_trans NW.out gr.size)
    replace N4 := Lib.hid (Nat.le_trans N4.out gr.size)
    replace GT := Lib.hid (got_keptT GT.out gr NB.out)
    replace GR := Lib.hid (GR.out.trans gr)
    replace CU := Lib.hid cu
    clear gr cu hc  
    clear f0 fz0
    obtain ⟨f0, fz0⟩ := got_cellT GT.out k hk
    go_wp2_with fail
    go_ret
    exact ⟨_, E.set k u, by simp [List.length_set], raw_got (got_setT GT.out k hk u) (by simp) rfl, (fun x hx => by rcases List.mem_or_eq_of_mem_set hx with h | h; have := Hmem.out x h; omega; rw [h]; omega), by simp; omega, cu_far CU.out (grown_set _ _ _) (by show blk < g; omega), grown_farT GR.out (grown_set _ _ _) (by show w.heap.size ≤ g; omega)⟩
  · have hc := below_any (E.length : Int) (by omega) _ _ _ CU.out
    go_wp2_with (go_at_call 63; refine hc.mono ?_; rintro e w7 ⟨jj, ⟨hx0, hx1, _⟩, rfl, cu, gr⟩; refine Hid.out ?_)
    refine Lib.hid ?_
    have hx1 := hx1 (by omega)
    have Hjj : Hid (0 ≤ jj ∧ jj < (E.length : Int)) := Lib.hid ⟨hx0, hx1⟩
    clear hx0 hx1
    replace NW := Lib.hid (Nat.le_trans NW.out gr.size)
    replace N4 := Lib.hid (Nat.le_trans N4.out gr.size)
    replace GT := Lib.hid (got_keptT GT.out gr NB.out)
    replace GR := Lib.hid (GR.out.trans gr)
    replace CU := Lib.hid cu
    clear gr cu hc  
    have hj := Hjj.out
    obtain ⟨j, rfl⟩ := Int.eq_ofNat_of_zero_le hj.1
    have hjl : j < E.length := by omega
    clear Hjj hj f0 fz0
    obtain ⟨f0, fz0⟩ := got_cellT GT.out k hk
    rw [← HX0.out] at f0
    obtain ⟨u, hu⟩ : ∃ t, t = E[j] := ⟨_, rfl⟩
    have hus : u.size ≤ 215 := by rw [hu]; exact Hmem.out _ (List.getElem_mem hjl)
    have f1 := (got_cellT GT.out j hjl).1
    rw [← hu] at f1
    clear hu
    have GY := got_setT GT.out k hk u
    have hjl2 : j < (E.set k u).length := by simpa using hjl
    have fzj := (got_cellT GT.out j hjl).2
    by_cases hjk : j = k
    · subst hjk
      have hxu : x0 = u := by have := f0.symm.trans f1; simpa using this
      subst hxu
      clear f1 fzj
      go_wp2_with fail
      go_ret
      exact ⟨_, (E.set j x0).set j x0, by simp [List.length_set], raw_got (got_setT GY j hjl2 x0) (by simp) rfl, (fun x hx => by rcases List.mem_or_eq_of_mem_set hx with h | h; rcases List.mem_or_eq_of_mem_set h with h | h; have := Hmem.out x h; omega; rw [h]; omega; rw [h]; omega), by simp; omega, cu_far (cu_far CU.out (grown_set _ _ _) (by show blk < g; omega)) (grown_set _ _ _) (by show blk < g; omega), grown_farT (grown_farT GR.out (grown_set _ _ _) (by show w.heap.size ≤ g; omega)) (grown_set _ _ _) (by show w.heap.size ≤ g; omega)⟩
    have hkj : ¬ k = j := fun e => hjk e.symm
    go_wp2_with fail
    go_ret
    exact ⟨_, (E.set k u).set j x0, by simp [List.length_set], raw_got (got_setT GY j hjl2 x0) (by simp) rfl, (fun x hx => by rcases List.mem_or_eq_of_mem_set hx with h | h; rcases List.mem_or_eq_of_mem_set h with h | h; have := Hmem.out x h; omega; rw [h]; omega; rw [h]; omega), by simp; omega, cu_far (cu_far CU.out (grown_set _ _ _) (by show blk < g; omega)) (grown_set _ _ _) (by show blk < g; omega), grown_farT (grown_farT GR.out (grown_set _ _ _) (by show w.heap.size ≤ g; omega)) (grown_set _ _ _) (by show w.heap.size ≤ g; omega)⟩
  · obtain ⟨hfit, hpb⟩ := getP_small x0
    obtain ⟨⟨⟨pn, po, pb, pch⟩, pk⟩, hq⟩ : ∃ z, z = getP x0 := ⟨_, rfl⟩
    rw [← hq] at hfit hpb
    dsimp only at hpb
    obtain ⟨t1, t2, t3, t4⟩ := hfit
    have hc := spec_getPiece x0 w6 (by omega)
    rw [← hq] at hc
    simp only [pcV] at hc
    go_wp2_with (go_at_call 22; refine hc.mono ?_; rintro e w7 ⟨rfl, hb⟩; refine Hid.out ?_)
    refine Lib.hid ?_
    replace NW := Lib.hid (Nat.le_trans NW.out hb.size)
    replace N4 := Lib.hid (Nat.le_trans N4.out hb.size)
    replace GT := Lib.hid (GT.out.later hb)
    replace GR := Lib.hid (GR.out.trans (grown_of_below hb _))
    replace CU := Lib.hid (CU.out.kept (hb.mono (by have := CU.out.le; have := CU.out.lt; omega)) (hb.block _ CU.out.lt))
    clear hb hc  
    have N47 := N4
    have hn70 := NW.out
    obtain ⟨X, hX⟩ : ∃ z, z = w7.alloc (.cells #[.int .i64 pn, .int .i64 po, .string pb, .int .i64 pch] 25) := ⟨_, rfl⟩
    have hb : Below w7.heap.size w7 X := by rw [hX]; exact (Below.refl _ _).alloc (Nat.le_refl _) _
    replace NW := Lib.hid (Nat.le_trans NW.out hb.size)
    replace N4 := Lib.hid (Nat.le_trans N4.out hb.size)
    replace GT := Lib.hid (GT.out.later hb)
    replace GR := Lib.hid (GR.out.trans (grown_of_below hb _))
    replace CU := Lib.hid (CU.out.kept (hb.mono (by have := CU.out.le; have := CU.out.lt; omega)) (hb.block _ CU.out.lt))
    have KP : Hid (X.heap[w7.heap.size]? = some (.cells #[.int .i64 pn, .int .i64 po, .string pb, .int .i64 pch] 25 (0, 0))) := Lib.hid (by rw [hX]; exact heap_new _ _)
    have LP : Hid (w7.heap.size < X.heap.size) := Lib.hid (by rw [hX]; simp)
    clear hb
    have hc := bent_any pb 200 (by omega) (by omega) _ _ _ CU.out
    have fP0 := tcr KP 0
    have fP1 := tcr KP 1
    have fP2 := tcr KP 2
    have fP3 := tcr KP 3
    rw [hX] at hc fP0 fP1 fP2 fP3 
    go_wp2_with (go_at_call 64; refine hc.mono ?_; rintro e w8 ⟨u, hu, rfl, cu, gr⟩; refine Hid.out ?_)
    refine Lib.hid ?_
    rw [← hX] at gr
    replace KP := tkg gr LP KP (by have h1 := HN.out; have h9 := hn70; simp; omega)
    replace LP := tlz LP gr.size
    replace NW := Lib.hid (Nat.le_trans NW.out gr.size)
    replace N4 := Lib.hid (Nat.le_trans N4.out gr.size)
    replace GT := Lib.hid (got_keptT GT.out gr NB.out)
    replace GR := Lib.hid (GR.out.trans gr)
    replace CU := Lib.hid cu
    clear gr cu hc fP0 fP1 fP2 fP3 
    clear hX
    have fP0 := tcr KP 0
    have fP1 := tcr KP 1
    have fP2 := tcr KP 2
    have fP3 := tcr KP 3
    have zP0 := tfr KP 0
    have zP1 := tfr KP 1
    have zP2 := tfr KP 2
    have zP3 := tfr KP 3
    obtain ⟨Y, hY⟩ : ∃ z, z = w8.setCell ⟨w7.heap.size, 2, none⟩ (.string u) := ⟨_, rfl⟩
    have gY : w8.grownBy Y (some w7.heap.size) := by rw [hY]; exact grown_set _ _ _
    have KY : Hid (Y.heap[w7.heap.size]? = some (.cells #[.int .i64 pn, .int .i64 po, .string u, .int .i64 pch] 25 (0, 0))) := Lib.hid (by rw [hY]; exact heap_setCell_same _ _ 2 _ _ _ KP.out)
    have hg7 : w4.heap.size ≤ w7.heap.size := N47.out
    replace GT := Lib.hid (GT.out.grown gY (by omega))
    replace CU := Lib.hid (cu_far CU.out gY (by omega))
    replace GR := Lib.hid (grown_farT GR.out gY (by omega))
    have y0 := tcr KY 0
    have y1 := tcr KY 1
    have y2 := tcr KY 2
    have y3 := tcr KY 3
    have hz4 := pc_le ⟨pn, po, u, pch⟩
    have hc := spec_putPiece ⟨pn, po, u, pch⟩ Y ⟨t1, t2, (by unfold maxLen; show u.size ≤ _; omega), t4⟩
    obtain ⟨S, hS⟩ : ∃ S, S = pcB ⟨pn, po, u, pch⟩ := ⟨_, rfl⟩
    rw [← hS] at hc hz4
    clear hS
    simp only [pcV] at hc
    rw [hY] at hc y0 y1 y2 y3
    go_wp2_with (go_at_call 23; refine hc.mono ?_; rintro e w9 ⟨rfl, hb⟩; refine Hid.out ?_)
    refine Lib.hid ?_
    rw [← hY] at hb
    replace GT := Lib.hid (GT.out.later hb)
    replace CU := Lib.hid (CU.out.kept (hb.mono (by have := CU.out.le; have := CU.out.lt; omega)) (hb.block _ CU.out.lt))
    replace GR := Lib.hid (GR.out.trans (grown_of_below hb _))
    clear hc hb y0 y1 y2 y3 f0 fz0 hY gY KY fP0 fP1 fP2 fP3 zP0 zP1 zP2 zP3
    obtain ⟨f0, fz0⟩ := got_cellT GT.out k hk
    go_wp2_with fail
    go_ret
    exact ⟨_, E.set k S, by simp [List.length_set], raw_got (got_setT GT.out k hk S) (by simp) rfl, (fun x hx => by rcases List.mem_or_eq_of_mem_set hx with h | h; have := Hmem.out x h; omega; rw [h]; omega), by simp; omega, cu_far CU.out (grown_set _ _ _) (by show blk < g; omega), grown_farT GR.out (grown_set _ _ _) (by show w.heap.size ≤ g; omega)⟩
  · have hc := text6_any _ _ _ CU.out
    go_wp2_with (go_at_call 77; refine hc.mono ?_; rintro e w7 ⟨u, hu, rfl, cu, gr⟩; refine Hid.out ?_)
    refine Lib.hid ?_
    replace NW := Lib.hid (Nat.le_trans NW.out gr.size)
    replace N4 := Lib.hid (Nat.le_trans N4.out gr.size)
    replace GT := Lib.hid (got_keptT GT.out gr NB.out)
    replace GR := Lib.hid (GR.out.trans gr)
    replace CU := Lib.hid cu
    clear gr cu hc  
    have hc := spec_cut u 9 w7 (by omega)
    go_wp2_with (go_at_call 29; refine hc.mono ?_; rintro e w8 ⟨v, rfl, hT, hb⟩; refine Hid.out ?_)
    refine Lib.hid ?_
    have hF := exp_len u 9
    have hFm := exp_mem (s := u) (n := 9)
    obtain ⟨F, hFe⟩ : ∃ F, F = cutS u 9 := ⟨_, rfl⟩
    rw [← hFe] at hT hF hFm
    obtain ⟨fa, fc, rfl, hrw⟩ := texts_raw hT
    clear hT hFe
    replace NW := Lib.hid (Nat.le_trans NW.out hb.size)
    replace N4 := Lib.hid (Nat.le_trans N4.out hb.size)
    replace GT := Lib.hid (GT.out.later hb)
    replace GR := Lib.hid (GR.out.trans (grown_of_below hb _))
    replace CU := Lib.hid (CU.out.kept (hb.mono (by have := CU.out.le; have := CU.out.lt; omega)) (hb.block _ CU.out.lt))
    clear hb hc  
    go_wp2_with fail
    go_ret
    exact ⟨_, F, rfl, hrw, (fun x hx => by have := hFm x hx; omega), by omega, CU.out, GR.out⟩
  · have d0 : ¬ z = 0 := by omega
    have d1 : ¬ z = 1 := by omega
    have d2 : ¬ z = 2 := by omega
    have d3 : ¬ z = 3 := by omega
    have d4 : ¬ z = 4 := by omega
    have d5 : ¬ z = 5 := by omega
    go_wp2_with fail
    go_ret
    exact ⟨_, E, rfl, raw_got GT.out rfl rfl, (fun x hx => by have := Hmem.out x hx; omega), by omega, CU.out, GR.out⟩
set_option maxRecDepth 100000 in
set_option maxHeartbeats 4000000 in
theorem drawImport_any (a : Option Addr) (len cap : Nat) (zs : List Int) (w : World) (hr : Row8 w w.heap.size a len cap zs) (hl : len ≤ 1048576) :
    Calls Try.prog 39 #[.slice a len cap] w fun e w' => ∃ (v : Value) (xs : List ByteArray), e = .returned v ∧ Raw w' w'.heap.size v xs.length (xs.map Value.string) ∧ (∀ x ∈ xs, x.size ≤ 1099511627776) ∧ xs.length ≤ 1099511627776 ∧ Below w.heap.size w w' := by
  go_enter Try.func39, Try.ntmps39
  go_wp2_with (go_at_call 57; refine (new_any a len cap zs _ hr hl).mono ?_; rintro e w1 ⟨rfl, cu, hb⟩; refine Hid.out ?_)
  refine Lib.hid ?_
  have HN : Hid (w.heap.size < w1.heap.size) := Lib.hid cu.lt
  have BB := Lib.hid hb
  have CU := Lib.hid cu
  clear hb cu
  have hc := list_any _ _ _ CU.out
  go_wp2_with (go_at_call 91; refine hc.mono ?_; rintro e w2 ⟨v, xs, rfl, hr, hx, hl, cu, gr⟩; refine Hid.out ?_)
  refine Lib.hid ?_
  have HR := Lib.hid hr
  have HX := Lib.hid hx
  clear hr hx
  replace BB := Lib.hid (BB.out.grown gr BB.out.size (fun j e => by have := HN.out; cases e; omega))
  replace CU := Lib.hid cu
  clear gr cu hc  
  go_wp2_with fail
  go_ret
  exact ⟨v, xs, rfl, HR.out, HX.out, hl, BB.out⟩
end Go.Proofs.Ytlklhmdpkicpnaa
