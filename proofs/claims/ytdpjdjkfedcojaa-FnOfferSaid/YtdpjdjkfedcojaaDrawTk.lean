/- A drawn Taker on its way, with the stream: l08Make. Condition: none. -/
import Derived.Test.YtdpjdjkfedcojaaSpecTk
import Derived.Test.YtdpjdjkfedcojaaDrawPc
import Derived.Test.YtdpjdjkfedcojaaDrawFmt
import Derived.Test.YtdpjdjkfedcojaaDrawInt
import Derived.Test.YtdpjdjkfedcojaaStrA
import Derived.Test.YtdpjdjkfedcojaaRowT
import Derived.Test.YtdpjdjkfedcojaaTkStream
namespace Go.Proofs.Ytdpjdjkfedcojaa
open Go.RowKit
set_option linter.unusedVariables false
set_option linter.unusedSimpArgs false

theorem texts_kept {w w' : World} {base k : Nat} {v : Value} {E : List ByteArray} (h : Texts w base v E) (hg : w.grownBy w' (some k)) (hk : k < base) : Texts w' base v E := by
  obtain ⟨hl, ⟨hv, h0⟩ | ⟨g, cap, cur, hv, hgb, r⟩⟩ := id h
  · exact ⟨hl, .inl ⟨hv, h0⟩⟩
  · have h' : w.ownsRow base 9 1 v E.length (E.map Value.string) := h
    rw [hv] at h' ⊢
    exact h'.kept hg (Or.inr (by simp [Value.ownBlock]; omega))
theorem tk_far {w w' : World} {T : TypeId} {B blk g : Nat} (c : Cu T w B blk) (hg : w.grownBy w' (some g)) (h : blk < g) : Cu T w' B blk := by
  have h1 := c.le
  have h2 := c.lt
  exact c.kept ⟨hg.os, hg.tape, hg.output, hg.size, fun k hk => hg.block k (by omega) (fun e => by cases e; omega)⟩ (hg.block blk c.lt (fun e => by cases e; omega))
theorem grown_farK {w w1 w2 : World} {r g : Nat} (h : w.grownBy w1 (some r)) (hg : w1.grownBy w2 (some g)) (h2 : w.heap.size ≤ g) : w.grownBy w2 (some r) :=
  h.andThen hg (fun j e => .inl (by cases e; exact h2))
theorem texts_rawK {w : World} {B : Nat} {v : Value} {xs : List ByteArray} (h : Texts w B v xs) : ∃ a cap, v = .slice a xs.length cap ∧ Raw w w.heap.size v xs.length (xs.map Value.string) := by
  obtain ⟨hl, ⟨rfl, h0⟩ | ⟨g, cap, cur, rfl, hg, hh, hc, hm, hs, ht⟩⟩ := id h
  · obtain rfl : xs = [] := List.eq_nil_of_length_eq_zero h0
    exact ⟨none, 0, rfl, none, 0, rfl, Nat.le_refl _, Nat.zero_le _, fun _ => rfl, fun h => absurd h (Nat.lt_irrefl _)⟩
  · refine ⟨_, cap, rfl, _, cap, rfl, hc, hm, (fun h => by cases h), fun h0 => ⟨g, 0, rfl, (World.ownsRow.lt h g rfl).2, fun j u hu => ?_⟩⟩
    have := World.ownsRow.cells h (g := g) rfl j u hu
    rwa [add_flat] at this
theorem off_of {w w' : World} {base : Nat} {v : Value} {E : List ByteArray} (h : Texts w base v E) (hs : w.heap.size ≤ w'.heap.size) : ∀ g cap, v = .slice (some ⟨g, 0, none⟩) E.length cap → g ≠ w'.heap.size := by
  rintro g cap rfl e
  have := (World.ownsRow.lt h g rfl).2
  omega
theorem texts_off {w w' : World} {base k : Nat} {ea : Option Addr} {ec : Nat} {E : List ByteArray} (h : Texts w base (.slice ea E.length ec) E) (hg : w.grownBy w' (some k)) (hk : ∀ g cap, Value.slice ea E.length ec = .slice (some ⟨g, 0, none⟩) E.length cap → g ≠ k) : Texts w' base (.slice ea E.length ec) E := by
  obtain ⟨hl, ⟨hv, h0⟩ | ⟨g, cap, cur, hv, hgb, r⟩⟩ := id h
  · exact ⟨hl, .inl ⟨hv, h0⟩⟩
  · have h' : w.ownsRow base 9 1 (.slice ea E.length ec) E.length (E.map Value.string) := h
    have hne := hk g cap hv
    show w'.ownsRow base 9 1 (.slice ea E.length ec) E.length (E.map Value.string)
    rw [hv] at h' ⊢
    exact h'.kept hg (Or.inr (by simp [Value.ownBlock]; omega))
set_option maxRecDepth 100000 in
set_option maxHeartbeats 8000000 in
theorem make8_any (B blk : Nat) (w : World) (c : Cu TC w B blk) :
    Calls Try.prog 31 #[.pointer (some ⟨blk, 0, none⟩)] w fun e w' => ∃ (t : Tkr) (v : Value) (xs : List ByteArray), e = .returned (.tuple #[.agg #[.int .i64 t.of, .int .i64 t.nx, .int .i64 t.ch, .string t.b], v]) ∧ tkrOk t = true ∧ (∃ base, blk < base ∧ Texts w' base v xs) ∧ (∀ x ∈ xs, x.size ≤ 215) ∧ xs.length ≤ 600 ∧ Cu TC w' B blk ∧ w.grownBy w' (some blk) := by
  have HN := Lib.hid c.lt
  have HLE := Lib.hid c.le
  have CU := Lib.hid c
  have GR : Hid (w.grownBy w (some blk)) := Lib.hid (World.grownBy.refl _ _)
  have NW : Hid (w.heap.size ≤ w.heap.size) := Lib.hid (Nat.le_refl _)
  clear c
  obtain ⟨W0, hW0⟩ : ∃ z, z = w.alloc (.cells #[.int .i64 0, .int .i64 0, .int .i64 0, .string ⟨#[]⟩] 25) := ⟨_, rfl⟩
  have hb : Below w.heap.size w W0 := by rw [hW0]; exact (Below.refl _ _).alloc (Nat.le_refl _) _
  replace NW := Lib.hid (Nat.le_trans NW.out hb.size)
  replace GR := Lib.hid (GR.out.trans (grown_of_below hb _))
  replace CU := Lib.hid (CU.out.kept (hb.mono (by have := CU.out.le; have := CU.out.lt; omega)) (hb.block _ CU.out.lt))
  have KR : Hid (W0.heap[w.heap.size]? = some (.cells #[.int .i64 0, .int .i64 0, .int .i64 0, .string ⟨#[]⟩] 25 (0, 0))) := Lib.hid (by rw [hW0]; exact heap_new _ _)
  have LR : Hid (w.heap.size < W0.heap.size) := Lib.hid (by rw [hW0]; simp)
  clear hb
  have HW0 : Hid (w.heap.size ≤ W0.heap.size) := Lib.hid (by rw [hW0]; simp)
  go_enter Try.func31, Try.ntmps31
  have hc := make_any B blk W0 CU.out
  rw [hW0] at hc  
  go_wp2_with (go_at_call 61; refine hc.mono ?_; rintro e w1 ⟨v, s, rfl, own, hsm, cu, gr⟩; refine Hid.out ?_)
  refine Lib.hid ?_
  rw [← hW0] at gr
  rw [← hW0] at own
  obtain ⟨a0, k0, a1, k1, rfl⟩ := two_own own
  have OS := Lib.hid own
  have Hsm := Lib.hid (sm_fits hsm)
  clear own hsm
  replace KR := tkg gr LR KR (by have h1 := HN.out; simp; omega)
  replace LR := tlz LR gr.size
  replace NW := Lib.hid (Nat.le_trans NW.out gr.size)
  replace GR := Lib.hid (GR.out.trans gr)
  replace CU := Lib.hid cu
  clear gr cu hc  
  clear hW0
  have hc := below_any 3 (by omega) _ _ _ CU.out
  go_wp2_with (go_at_call 32; refine hc.mono ?_; rintro e w2 ⟨x, ⟨hx0, hx1, _⟩, rfl, cu, gr⟩; refine Hid.out ?_)
  refine Lib.hid ?_
  have hx1 := hx1 (by omega)
  have Hx : Hid (0 ≤ x ∧ x < 3) := Lib.hid ⟨hx0, hx1⟩
  clear hx0 hx1
  replace KR := tkg gr LR KR (by have h1 := HN.out; simp; omega)
  replace LR := tlz LR gr.size
  replace NW := Lib.hid (Nat.le_trans NW.out gr.size)
  replace OS := Lib.hid (OS.out.kept gr (by have := HN.out; have := HW0.out; omega))
  replace GR := Lib.hid (GR.out.trans gr)
  replace CU := Lib.hid cu
  clear gr cu hc  
  have hx := Hx.out
  have hbg := CU.out.lt
  obtain ⟨XIw3, hXIw3⟩ : ∃ z, z = w2.alloc (.cells #[.int .i64 8, .int .i64 12, .int .i64 30, .int .i64 200] 3) := ⟨_, rfl⟩
  have hb : Below w2.heap.size w2 XIw3 := by rw [hXIw3]; exact (Below.refl _ _).alloc (Nat.le_refl _) _
  replace KR := tkb hb LR KR
  replace LR := tlz LR hb.size
  replace NW := Lib.hid (Nat.le_trans NW.out hb.size)
  replace OS := Lib.hid (OS.out.later hb)
  replace GR := Lib.hid (GR.out.trans (grown_of_below hb _))
  replace CU := Lib.hid (CU.out.kept (hb.mono (by have := CU.out.le; have := CU.out.lt; omega)) (hb.block _ CU.out.lt))
  have KI : Hid (XIw3.heap[w2.heap.size]? = some (.cells #[.int .i64 8, .int .i64 12, .int .i64 30, .int .i64 200] 3 (0, 0))) := Lib.hid (by rw [hXIw3]; exact heap_new _ _)
  have LI : Hid (w2.heap.size < XIw3.heap.size) := Lib.hid (by rw [hXIw3]; simp)
  clear hb
  have hc := pickInt_any (QF (fun n => decide ((8) ≤ n ∧ n ≤ (200)))) (w2.heap.size) 4 4 (by omega) (by omega) _ _ _ (by omega) (ints_f _ KI.out (by decide) _ rfl) CU.out
  rw [hXIw3] at hc  
  go_wp2_with (go_at_call 62; refine hc.mono ?_; rintro e w3 ⟨y, hq, rfl, cu, gr⟩; refine Hid.out ?_)
  refine Lib.hid ?_
  rw [← hXIw3] at gr
  have Hy : Hid ((8) ≤ y ∧ y ≤ (200)) := Lib.hid (qf_of hq)
  clear hq
  replace KR := tkg gr LR KR (by have h1 := HN.out; simp; omega)
  replace LR := tlz LR gr.size
  replace KI := tkg gr LI KI (by have h1 := HN.out; simp; omega)
  replace LI := tlz LI gr.size
  replace NW := Lib.hid (Nat.le_trans NW.out gr.size)
  replace OS := Lib.hid (OS.out.kept gr (by have := HN.out; have := HW0.out; omega))
  replace GR := Lib.hid (GR.out.trans gr)
  replace CU := Lib.hid cu
  clear gr cu hc  
  clear hXIw3
  clear KI LI
  clear hbg
  have NW3 := NW
  have N33 : Hid (w.heap.size < w3.heap.size) := LR
  have Hlen := exp_len (fmtS s (1 + x)) y
  have Hmem := Lib.hid (exp_mem (s := fmtS s (1 + x)) (n := y))
  have hc := spec_export s _ (1 + x) y w3.heap.size w3 OS.out.st (Nat.le_refl _) Hsm.out
  go_wp2_with (go_at_call 60; refine hc.mono ?_; rintro e w4 ⟨vE, rfl, hE, hb⟩; refine Hid.out ?_)
  refine Lib.hid ?_
  have N34 : Hid (w3.heap.size ≤ w4.heap.size) := Lib.hid hb.size
  obtain ⟨E, hEe⟩ : ∃ E, E = cutS (fmtS s (1 + x)) y := ⟨_, rfl⟩
  rw [← hEe] at hE Hlen Hmem
  have HT := Lib.hid hE
  clear hE hEe OS
  replace KR := tkb hb LR KR
  replace LR := tlz LR hb.size
  replace NW := Lib.hid (Nat.le_trans NW.out hb.size)
  replace GR := Lib.hid (GR.out.trans (grown_of_below hb _))
  replace CU := Lib.hid (CU.out.kept (hb.mono (by have := CU.out.le; have := CU.out.lt; omega)) (hb.block _ CU.out.lt))
  clear hb hc  
  obtain ⟨ea, ec, rfl, hraw⟩ := texts_rawK HT.out
  clear hraw
  have NB : Hid (blk < w3.heap.size) := Lib.hid (by have := HN.out; have := NW3.out; omega)
  have hc := spec_begin 0 w4
  obtain ⟨⟨uo, un, uc, ub⟩, hu⟩ : ∃ u, u = tkN := ⟨_, rfl⟩
  rw [← hu] at hc
  have OKT : Hid (tkrOk ⟨uo, un, uc, ub⟩ = true) := Lib.hid (by rw [hu]; exact tkr_new_ok)
  clear hu
  unfold tkrV at hc
  dsimp only at hc
  go_wp2_with (go_at_call 22; refine hc.mono ?_; rintro e w5 ⟨rfl, hb⟩; refine Hid.out ?_)
  refine Lib.hid ?_
  have OFF : Hid (∀ g cap, Value.slice ea E.length ec = .slice (some ⟨g, 0, none⟩) E.length cap → g ≠ w5.heap.size) := Lib.hid (off_of HT.out hb.size)
  have N35 : Hid (w3.heap.size ≤ w5.heap.size) := Lib.hid (Nat.le_trans N34.out hb.size)
  replace KR := tkb hb LR KR
  replace LR := tlz LR hb.size
  replace NW := Lib.hid (Nat.le_trans NW.out hb.size)
  replace HT := Lib.hid (sp_later HT.out hb)
  replace GR := Lib.hid (GR.out.trans (grown_of_below hb _))
  replace CU := Lib.hid (CU.out.kept (hb.mono (by have := CU.out.le; have := CU.out.lt; omega)) (hb.block _ CU.out.lt))
  clear hb hc  
  obtain ⟨X5, hX5⟩ : ∃ z, z = w5.alloc (.cells #[.int .i64 uo, .int .i64 un, .int .i64 uc, .string ub] 25) := ⟨_, rfl⟩
  have hb : Below w5.heap.size w5 X5 := by rw [hX5]; exact (Below.refl _ _).alloc (Nat.le_refl _) _
  replace KR := tkb hb LR KR
  replace LR := tlz LR hb.size
  replace NW := Lib.hid (Nat.le_trans NW.out hb.size)
  replace HT := Lib.hid (sp_later HT.out hb)
  replace GR := Lib.hid (GR.out.trans (grown_of_below hb _))
  replace CU := Lib.hid (CU.out.kept (hb.mono (by have := CU.out.le; have := CU.out.lt; omega)) (hb.block _ CU.out.lt))
  have KT : Hid (X5.heap[w5.heap.size]? = some (.cells #[.int .i64 uo, .int .i64 un, .int .i64 uc, .string ub] 25 (0, 0))) := Lib.hid (by rw [hX5]; exact heap_new _ _)
  have LT : Hid (w5.heap.size < X5.heap.size) := Lib.hid (by rw [hX5]; simp)
  clear hb
  have NW33 : Hid (w.heap.size < w3.heap.size) := N33
  have LT5 : Hid (blk < w5.heap.size) := Lib.hid (by have := NB.out; have := N35.out; omega)
  have LR5 : Hid (w.heap.size < w5.heap.size) := Lib.hid (by have := N33.out; have := N35.out; omega)
  have hc := below_any ((E.length : Int) + 1) (by omega) _ _ _ CU.out
  rw [hX5] at hc  
  go_wp2_with (go_at_call 32; refine hc.mono ?_; rintro e w6 ⟨y6, ⟨hx0, hx1, _⟩, rfl, cu, gr⟩; refine Hid.out ?_)
  refine Lib.hid ?_
  rw [← hX5] at gr
  have hx1 := hx1 (by omega)
  have Hy6 : Hid (0 ≤ y6 ∧ y6 < ((E.length : Int) + 1)) := Lib.hid ⟨hx0, hx1⟩
  clear hx0 hx1
  replace KR := tkg gr LR KR (by have h1 := HN.out; have h9 := LT5.out; simp; omega)
  replace LR := tlz LR gr.size
  replace KT := tkg gr LT KT (by have h1 := HN.out; have h9 := LT5.out; simp; omega)
  replace LT := tlz LT gr.size
  replace NW := Lib.hid (Nat.le_trans NW.out gr.size)
  replace HT := Lib.hid (texts_kept HT.out gr NB.out)
  replace GR := Lib.hid (GR.out.trans gr)
  replace CU := Lib.hid cu
  clear gr cu hc  
  clear hX5
  have hy6 := Hy6.out
  obtain ⟨m6, rfl⟩ := Int.eq_ofNat_of_zero_le hy6.1
  have hm6 : m6 ≤ E.length := by omega
  clear Hy6 hy6
  have hc := once_any 3 (by omega) _ _ _ CU.out
  go_wp2_with (go_at_call 36; refine hc.mono ?_; rintro e w7 ⟨bo, rfl, cu, gr⟩; refine Hid.out ?_)
  refine Lib.hid ?_
  replace KR := tkg gr LR KR (by have h1 := HN.out; have h9 := LT5.out; simp; omega)
  replace LR := tlz LR gr.size
  replace KT := tkg gr LT KT (by have h1 := HN.out; have h9 := LT5.out; simp; omega)
  replace LT := tlz LT gr.size
  replace NW := Lib.hid (Nat.le_trans NW.out gr.size)
  replace HT := Lib.hid (texts_kept HT.out gr NB.out)
  replace GR := Lib.hid (GR.out.trans gr)
  replace CU := Lib.hid cu
  clear gr cu hc  
  cases bo
  · clear hx HLE NW3 Hsm
    go_wp2_with fail
    go_loopw [7] (fun i wr => ∃ (k : Nat) (t : Tkr), k ≤ m6 ∧ i = .int .i64 k ∧ Hid (tkrOk t = true) ∧ Hid (wr.heap[w5.heap.size]? = some (.cells #[.int .i64 t.of, .int .i64 t.nx, .int .i64 t.ch, .string t.b] 25 (0, 0))) ∧ Hid (w5.heap.size < wr.heap.size) ∧ Hid (wr.heap[w.heap.size]? = some (.cells #[.int .i64 0, .int .i64 0, .int .i64 0, .string ⟨#[]⟩] 25 (0, 0))) ∧ Hid (w.heap.size < wr.heap.size) ∧ Hid (Texts wr w3.heap.size (.slice ea E.length ec) E) ∧ Hid (Cu TC wr B blk) ∧ Hid (w.grownBy wr (some blk))) (fun i _ => m6 - (intOf i).toNat)
    case atStart => exact ⟨0, ⟨uo, un, uc, ub⟩, Nat.zero_le _, rfl, OKT, KT, LT, KR, LR, HT, CU, GR⟩
    case round =>
      clear OKT KT LT KR LR HT CU GR NW
      obtain ⟨k, t, hk, rfl, OKT, KT, LT, KR, LR, HT, CU, GR⟩ := hrel
      obtain ⟨hfit, hbz, hnx⟩ := tk_fit OKT.out
      have HF := Lib.hid hfit
      clear hfit hnx
      by_cases hlt : k < m6
      · have hlt' : (k : Int) < (m6 : Int) := by omega
        have hkE : k < E.length := by omega
        obtain ⟨g, cap, hv, hgot⟩ := sp_got HT.out (by omega)
        obtain ⟨rfl, rfl⟩ : ea = some ⟨g, 0, none⟩ ∧ ec = cap := by injection hv with e1 _ e2; exact ⟨e1, e2⟩
        have hgb := hgot.2.2.2.1
        clear hv
        obtain ⟨xk, hxk⟩ : ∃ x, x = E[k] := ⟨_, rfl⟩
        have zx : xk.size ≤ 215 := by rw [hxk]; exact Hmem.out _ (List.getElem_mem hkE)
        have hgn := OFF.out g ec rfl
        have FL : Hid (∀ w', wr.grownBy w' (some w5.heap.size) → w'.cell? ⟨g, k, none⟩ = some (.string xk)) := Lib.hid (fun w' h => by rw [hxk]; exact (sp_cell (hgot.grown h hgn) k hkE).1)
        clear hxk hgot hgb
        have FT : Hid (wr.drew.heap[w5.heap.size]? = some (.cells #[.int .i64 t.of, .int .i64 t.nx, .int .i64 t.ch, .string t.b] 25 (0, 0))) := KT
        have b0 : (0 : Int) ≤ (k : Int) := by omega
        have b1 : (k : Int) < (E.length : Int) := by omega
        go_wp2_with fail
        refine wp_region_held_drew (S := (fun w' => wr.grownBy w' (some w5.heap.size))) (by kernel_rfl) (grown_drew _ _) (fun hHeld => ?_)
        obtain ⟨zD, hzD⟩ : ∃ zz, zz = wr.drew := ⟨_, rfl⟩
        rw [← hzD] at hHeld FT ⊢
        clear hzD
        have BD := Lib.hid hHeld
        refine tk0 1 ?_
        refine tk0 2 ?_
        refine tk0 3 ?_
        refine tk 4 (v := ?_) ?_ ?_; rotate_left
        · refine Or.inl ⟨by rfl, ?_⟩; intro w hSw; have h0 := FL.out w hSw; go_simp; first | done | with_reducible rfl
        refine rd1 0 (fun K hK => ?_)
        have f0 := tcr FT 0
        have f1 := tcr FT 1
        have f2 := tcr FT 2
        have f3 := tcr FT 3
        go_simp
        refine hK.out _ _ BD.out (fun hHeld => ?_)
        clear hK K f0 f1 f2 f3
        refine rd1 5 (fun K hK => ?_)
        go_simp
        have hc := spec_offer t xk zD HF.out (by omega) (by omega)
        have hok2 := tk_step (s := xk) OKT.out
        obtain ⟨u, hu⟩ : ∃ u, u = (offerS t xk).1 := ⟨_, rfl⟩
        rw [← hu] at hc hok2
        have OK2 := Lib.hid hok2
        clear hu hok2
        obtain ⟨vo, vn, vc, vb⟩ := u
        unfold tkrV at hc
        dsimp only at hc
        go_at_call 12
        refine hc.mono ?_
        rintro e zE ⟨rfl, hb⟩
        have LTD : Hid (w5.heap.size < zD.heap.size) := Lib.hid (Nat.lt_of_lt_of_le LT.out BD.out.size)
        replace FT := tkb hb LTD FT
        replace LTD := tlz LTD hb.size
        replace BD := Lib.hid (BD.out.trans (grown_of_below hb _))
        clear hc hb
        go_wp2_with fail
        refine hK.out _ _ BD.out (fun hHeld => ?_)
        clear hK K
        refine tk0 6 ?_
        refine tk0 7 ?_
        refine tk0 8 ?_
        refine rd1 9 (fun K hK => ?_)
        have f0 := tcr FT 0
        have f1 := tcr FT 1
        have f2 := tcr FT 2
        have f3 := tcr FT 3
        have z0 := tfr FT 0
        have z1 := tfr FT 1
        have z2 := tfr FT 2
        have z3 := tfr FT 3
        go_simp
        obtain ⟨Y, hY⟩ : ∃ Y, Y = (((zE.setCell ⟨w5.heap.size, 0, none⟩ (.int .i64 vo)).setCell ⟨w5.heap.size, 1, none⟩ (.int .i64 vn)).setCell ⟨w5.heap.size, 2, none⟩ (.int .i64 vc)).setCell ⟨w5.heap.size, 3, none⟩ (.string vb) := ⟨_, rfl⟩
        rw [← hY]
        have KT2 : Hid (Y.heap[w5.heap.size]? = some (.cells #[.int .i64 vo, .int .i64 vn, .int .i64 vc, .string vb] 25 (0, 0))) := Lib.hid (by rw [hY]; exact storeT FT.out)
        have gY : zE.grownBy Y (some w5.heap.size) := by rw [hY]; exact (((grown_set _ ⟨w5.heap.size, 0, none⟩ _).trans (grown_set _ ⟨w5.heap.size, 1, none⟩ _)).trans (grown_set _ ⟨w5.heap.size, 2, none⟩ _)).trans (grown_set _ ⟨w5.heap.size, 3, none⟩ _)
        replace BD := Lib.hid (BD.out.trans gY)
        refine hK.out _ _ BD.out (fun hHeld => ?_)
        clear hK K f0 f1 f2 f3 z0 z1 z2 z3 hY gY FT LTD
        refine wpAnyH_done (by kernel_rfl) ?_ _
        clear hHeld
        have lt5 := LT5.out
        have lr5 := LR5.out
        have KR2 := tkg BD.out LR KR (by simp; omega)
        have LR2 := tlz LR BD.out.size
        have LT2 := tlz LT BD.out.size
        have HT2 := Lib.hid (texts_off HT.out BD.out OFF.out)
        have CU2 := Lib.hid (tk_far CU.out BD.out (by omega))
        have GR2 := Lib.hid (grown_farK GR.out BD.out (by omega))
        have hwk : IntKind.i64.wrap ((k : Int) + 1) = ((k + 1 : Nat) : Int) := by rw [IntKind.wrap_i64] <;> omega
        clear KT KR LR LT HT CU GR BD FL OKT HF
        go_wp2_with fail
        go_roundw
        case rel => exact ⟨k + 1, ⟨vo, vn, vc, vb⟩, by omega, by go_num, OK2, KT2, LT2, KR2, LR2, HT2, CU2, GR2⟩
        case measure => simp [intOf]; omega
      · have hlt' : ¬ (k : Int) < (m6 : Int) := by omega
        have f0 := tcr KT 0
        have f1 := tcr KT 1
        have f2 := tcr KT 2
        have f3 := tcr KT 3
        have g0 := tcr KR 0
        have g1 := tcr KR 1
        have g2 := tcr KR 2
        have g3 := tcr KR 3
        have z0 := tfr KR 0
        have z1 := tfr KR 1
        have z2 := tfr KR 2
        have z3 := tfr KR 3
        go_wp2_with fail
        obtain ⟨j0, q1, q2, q3, q4⟩ := info_parts infoTkr
        have gS : wr.grownBy ((((wr.setCell ⟨w.heap.size, 0, none⟩ (.int .i64 t.of)).setCell ⟨w.heap.size, 1, none⟩ (.int .i64 t.nx)).setCell ⟨w.heap.size, 2, none⟩ (.int .i64 t.ch)).setCell ⟨w.heap.size, 3, none⟩ (.string t.b)) (some w.heap.size) := (((grown_set _ ⟨w.heap.size, 0, none⟩ _).trans (grown_set _ ⟨w.heap.size, 1, none⟩ _)).trans (grown_set _ ⟨w.heap.size, 2, none⟩ _)).trans (grown_set _ ⟨w.heap.size, 3, none⟩ _)
        have hn3 := NW33.out
        have hn := HN.out
        have hT := texts_kept HT.out gS (by omega)
        refine bodyPost_ret (results_cell_row2 (P := Try.prog) rfl _ _ w.heap.size _ _ (0, 0) _ (.slice ea E.length ec) rfl rfl (storeT KR.out) Try.underlying25 rfl (by rw [q1]; simp [q3])) rfl ⟨t, _, rfl, OKT.out, E, ⟨w3.heap.size, NB.out, hT⟩, Hmem.out, Hlen, tk_far CU.out gS (by omega), grown_farK GR.out gS (Nat.le_refl _)⟩
  · clear hx HLE NW3 Hsm
    go_wp2_with fail
    go_loopw [7] (fun i wr => ∃ (k : Nat) (t : Tkr), k ≤ E.length ∧ i = .int .i64 k ∧ Hid (tkrOk t = true) ∧ Hid (wr.heap[w5.heap.size]? = some (.cells #[.int .i64 t.of, .int .i64 t.nx, .int .i64 t.ch, .string t.b] 25 (0, 0))) ∧ Hid (w5.heap.size < wr.heap.size) ∧ Hid (wr.heap[w.heap.size]? = some (.cells #[.int .i64 0, .int .i64 0, .int .i64 0, .string ⟨#[]⟩] 25 (0, 0))) ∧ Hid (w.heap.size < wr.heap.size) ∧ Hid (Texts wr w3.heap.size (.slice ea E.length ec) E) ∧ Hid (Cu TC wr B blk) ∧ Hid (w.grownBy wr (some blk))) (fun i _ => E.length - (intOf i).toNat)
    case atStart => exact ⟨0, ⟨uo, un, uc, ub⟩, Nat.zero_le _, rfl, OKT, KT, LT, KR, LR, HT, CU, GR⟩
    case round =>
      clear OKT KT LT KR LR HT CU GR NW
      obtain ⟨k, t, hk, rfl, OKT, KT, LT, KR, LR, HT, CU, GR⟩ := hrel
      obtain ⟨hfit, hbz, hnx⟩ := tk_fit OKT.out
      have HF := Lib.hid hfit
      clear hfit hnx
      by_cases hlt : k < E.length
      · have hlt' : (k : Int) < (E.length : Int) := by omega
        have hkE : k < E.length := by omega
        obtain ⟨g, cap, hv, hgot⟩ := sp_got HT.out (by omega)
        obtain ⟨rfl, rfl⟩ : ea = some ⟨g, 0, none⟩ ∧ ec = cap := by injection hv with e1 _ e2; exact ⟨e1, e2⟩
        have hgb := hgot.2.2.2.1
        clear hv
        obtain ⟨xk, hxk⟩ : ∃ x, x = E[k] := ⟨_, rfl⟩
        have zx : xk.size ≤ 215 := by rw [hxk]; exact Hmem.out _ (List.getElem_mem hkE)
        have hgn := OFF.out g ec rfl
        have FL : Hid (∀ w', wr.grownBy w' (some w5.heap.size) → w'.cell? ⟨g, k, none⟩ = some (.string xk)) := Lib.hid (fun w' h => by rw [hxk]; exact (sp_cell (hgot.grown h hgn) k hkE).1)
        clear hxk hgot hgb
        have FT : Hid (wr.drew.heap[w5.heap.size]? = some (.cells #[.int .i64 t.of, .int .i64 t.nx, .int .i64 t.ch, .string t.b] 25 (0, 0))) := KT
        have b0 : (0 : Int) ≤ (k : Int) := by omega
        have b1 : (k : Int) < (E.length : Int) := by omega
        go_wp2_with fail
        refine wp_region_held_drew (S := (fun w' => wr.grownBy w' (some w5.heap.size))) (by kernel_rfl) (grown_drew _ _) (fun hHeld => ?_)
        obtain ⟨zD, hzD⟩ : ∃ zz, zz = wr.drew := ⟨_, rfl⟩
        rw [← hzD] at hHeld FT ⊢
        clear hzD
        have BD := Lib.hid hHeld
        refine tk0 1 ?_
        refine tk0 2 ?_
        refine tk0 3 ?_
        refine tk 4 (v := ?_) ?_ ?_; rotate_left
        · refine Or.inl ⟨by rfl, ?_⟩; intro w hSw; have h0 := FL.out w hSw; go_simp; first | done | with_reducible rfl
        refine rd1 0 (fun K hK => ?_)
        have f0 := tcr FT 0
        have f1 := tcr FT 1
        have f2 := tcr FT 2
        have f3 := tcr FT 3
        go_simp
        refine hK.out _ _ BD.out (fun hHeld => ?_)
        clear hK K f0 f1 f2 f3
        refine rd1 5 (fun K hK => ?_)
        go_simp
        have hc := spec_offer t xk zD HF.out (by omega) (by omega)
        have hok2 := tk_step (s := xk) OKT.out
        obtain ⟨u, hu⟩ : ∃ u, u = (offerS t xk).1 := ⟨_, rfl⟩
        rw [← hu] at hc hok2
        have OK2 := Lib.hid hok2
        clear hu hok2
        obtain ⟨vo, vn, vc, vb⟩ := u
        unfold tkrV at hc
        dsimp only at hc
        go_at_call 12
        refine hc.mono ?_
        rintro e zE ⟨rfl, hb⟩
        have LTD : Hid (w5.heap.size < zD.heap.size) := Lib.hid (Nat.lt_of_lt_of_le LT.out BD.out.size)
        replace FT := tkb hb LTD FT
        replace LTD := tlz LTD hb.size
        replace BD := Lib.hid (BD.out.trans (grown_of_below hb _))
        clear hc hb
        go_wp2_with fail
        refine hK.out _ _ BD.out (fun hHeld => ?_)
        clear hK K
        refine tk0 6 ?_
        refine tk0 7 ?_
        refine tk0 8 ?_
        refine rd1 9 (fun K hK => ?_)
        have f0 := tcr FT 0
        have f1 := tcr FT 1
        have f2 := tcr FT 2
        have f3 := tcr FT 3
        have z0 := tfr FT 0
        have z1 := tfr FT 1
        have z2 := tfr FT 2
        have z3 := tfr FT 3
        go_simp
        obtain ⟨Y, hY⟩ : ∃ Y, Y = (((zE.setCell ⟨w5.heap.size, 0, none⟩ (.int .i64 vo)).setCell ⟨w5.heap.size, 1, none⟩ (.int .i64 vn)).setCell ⟨w5.heap.size, 2, none⟩ (.int .i64 vc)).setCell ⟨w5.heap.size, 3, none⟩ (.string vb) := ⟨_, rfl⟩
        rw [← hY]
        have KT2 : Hid (Y.heap[w5.heap.size]? = some (.cells #[.int .i64 vo, .int .i64 vn, .int .i64 vc, .string vb] 25 (0, 0))) := Lib.hid (by rw [hY]; exact storeT FT.out)
        have gY : zE.grownBy Y (some w5.heap.size) := by rw [hY]; exact (((grown_set _ ⟨w5.heap.size, 0, none⟩ _).trans (grown_set _ ⟨w5.heap.size, 1, none⟩ _)).trans (grown_set _ ⟨w5.heap.size, 2, none⟩ _)).trans (grown_set _ ⟨w5.heap.size, 3, none⟩ _)
        replace BD := Lib.hid (BD.out.trans gY)
        refine hK.out _ _ BD.out (fun hHeld => ?_)
        clear hK K f0 f1 f2 f3 z0 z1 z2 z3 hY gY FT LTD
        refine wpAnyH_done (by kernel_rfl) ?_ _
        clear hHeld
        have lt5 := LT5.out
        have lr5 := LR5.out
        have KR2 := tkg BD.out LR KR (by simp; omega)
        have LR2 := tlz LR BD.out.size
        have LT2 := tlz LT BD.out.size
        have HT2 := Lib.hid (texts_off HT.out BD.out OFF.out)
        have CU2 := Lib.hid (tk_far CU.out BD.out (by omega))
        have GR2 := Lib.hid (grown_farK GR.out BD.out (by omega))
        have hwk : IntKind.i64.wrap ((k : Int) + 1) = ((k + 1 : Nat) : Int) := by rw [IntKind.wrap_i64] <;> omega
        clear KT KR LR LT HT CU GR BD FL OKT HF
        go_wp2_with fail
        go_roundw
        case rel => exact ⟨k + 1, ⟨vo, vn, vc, vb⟩, by omega, by go_num, OK2, KT2, LT2, KR2, LR2, HT2, CU2, GR2⟩
        case measure => simp [intOf]; omega
      · have hlt' : ¬ (k : Int) < (E.length : Int) := by omega
        have f0 := tcr KT 0
        have f1 := tcr KT 1
        have f2 := tcr KT 2
        have f3 := tcr KT 3
        have g0 := tcr KR 0
        have g1 := tcr KR 1
        have g2 := tcr KR 2
        have g3 := tcr KR 3
        have z0 := tfr KR 0
        have z1 := tfr KR 1
        have z2 := tfr KR 2
        have z3 := tfr KR 3
        go_wp2_with fail
        obtain ⟨j0, q1, q2, q3, q4⟩ := info_parts infoTkr
        have gS : wr.grownBy ((((wr.setCell ⟨w.heap.size, 0, none⟩ (.int .i64 t.of)).setCell ⟨w.heap.size, 1, none⟩ (.int .i64 t.nx)).setCell ⟨w.heap.size, 2, none⟩ (.int .i64 t.ch)).setCell ⟨w.heap.size, 3, none⟩ (.string t.b)) (some w.heap.size) := (((grown_set _ ⟨w.heap.size, 0, none⟩ _).trans (grown_set _ ⟨w.heap.size, 1, none⟩ _)).trans (grown_set _ ⟨w.heap.size, 2, none⟩ _)).trans (grown_set _ ⟨w.heap.size, 3, none⟩ _)
        have hn3 := NW33.out
        have hn := HN.out
        have hT := texts_kept HT.out gS (by omega)
        refine bodyPost_ret (results_cell_row2 (P := Try.prog) rfl _ _ w.heap.size _ _ (0, 0) _ (.slice ea E.length ec) rfl rfl (storeT KR.out) Try.underlying25 rfl (by rw [q1]; simp [q3])) rfl ⟨t, _, rfl, OKT.out, E, ⟨w3.heap.size, NB.out, hT⟩, Hmem.out, Hlen, tk_far CU.out gS (by omega), grown_farK GR.out gS (Nat.le_refl _)⟩
end Go.Proofs.Ytdpjdjkfedcojaa
