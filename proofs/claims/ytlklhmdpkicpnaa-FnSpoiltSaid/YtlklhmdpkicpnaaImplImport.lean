/- What the program's Import answers: a goto to one label ahead. Condition: texts of at most 2^40 bytes. -/
import Derived.Test.YtlklhmdpkicpnaaBaseA
import Derived.Test.YtlklhmdpkicpnaaPieceAt
import Derived.Test.YtlklhmdpkicpnaaImplDecode
import Derived.Test.YtlklhmdpkicpnaaStrA
import Derived.Test.YtlklhmdpkicpnaaImplCut
import Derived.Test.YtlklhmdpkicpnaaBldA
import Derived.WalkMore
import Derived.ScopeJumps
namespace Go.Proofs.Ytlklhmdpkicpnaa
open Go.RowKit
set_option linter.unusedVariables false
set_option linter.unusedSimpArgs false

/-- A scope in which the run jumps ahead to one label: what stands behind it is walked where the jump is. -/
theorem wp_scope_fwd {P : Program} {Q : Exit → Act → World → Prop} {a : Act} {w : World} {c rest : Code} (l : Nat) (hf : findLabel c l = some rest)
    (first : c.wp P (Exit.jump l (fun a w => rest.wp P (Exit.noGoto Q) a w) Q) a w) : (Code.scope c).wp P Q a w :=
  wp_scope_jumps l _ (fun _ _ => 0) hf first (fun a w h => wp_mono h (fun e a w he => by cases e <;> first | exact he | exact he.elim))
theorem jump_ret {l : Nat} {J : Act → World → Prop} {Q : Exit → Act → World → Prop} {a : Act} {w : World} (h : Q .ret a w) : Exit.jump l J Q .ret a w := h
theorem at_go (t : ByteArray) (r : List ByteArray) (m i c : Nat) (B : ByteArray) :
    (∃ (p : Pc) (lk : Nat), atP t ((i : Int) + 1) (m : Int) c = (p, 0) ∧ p.ch = (lk : Nat) ∧ lk < 4294967296 ∧ p.b.size ≤ 200 ∧ m ≤ 600 ∧ impGo m (t :: r) i c B = impGo m r (i + 1) lk (B ++ p.b)) ∨
    (∃ cd : Int, ¬ cd = 0 ∧ atP t ((i : Int) + 1) (m : Int) c = (pc0, cd) ∧ impGo m (t :: r) i c B = (cd, ⟨#[]⟩)) := by
  cases h : (getP t).2 with
  | false => exact .inr ⟨2, by decide, at_2 h, imp_piece h⟩
  | true =>
    by_cases h2 : (getP t).1.no = (i : Int) + 1 ∧ (getP t).1.of = (m : Int)
    · by_cases h3 : (getP t).1.ch = (linkN (c : Int) (getP t).1.b : Nat)
      · obtain ⟨⟨o1, o2⟩, _, ⟨b1, b2⟩, _⟩ := pc_in (pc_put h).2
        exact .inl ⟨_, _, at_0 h h2 h3, h3, link_lt _ _, b2, by rw [h2.2] at o2; omega, imp_next h h2 h3⟩
      · exact .inr ⟨4, by decide, at_4 h h2 h3, imp_chain h h2 h3⟩
    · exact .inr ⟨3, by decide, at_3 h h2, imp_order h h2⟩
def impT (xs : List ByteArray) (k c : Nat) (B : ByteArray) : Prop := impGo xs.length xs 0 (hashN []) ⟨#[]⟩ = impGo xs.length (xs.drop k) k c B
set_option maxRecDepth 100000 in
set_option maxHeartbeats 8000000 in
theorem impl_import (xs : List ByteArray) (v : Value) (w : World) (hl : xs.length ≤ 1099511627776) (hx : ∀ x ∈ xs, x.size ≤ 1099511627776) (hr : Raw w w.heap.size v xs.length (xs.map Value.string)) :
    Calls Try.prog 37 #[v] w fun e w' => ∃ v, e = .returned (.tuple #[v, .int .i64 (importS xs).2]) ∧ DecV w' w.heap.size v (importS xs).1 ∧ Below w.heap.size w w' := by
  obtain ⟨W, hW⟩ : ∃ W, W = ((w.alloc (.cells #[.slice none 0 0, .slice none 0 0] 44)).alloc (.cells #[.pointer none, .slice none 0 0] 105)).alloc (.cells #[.slice none 0 0, .slice none 0 0] 44) := ⟨_, rfl⟩
  have hWs : W.heap.size = w.heap.size + 3 := by rw [hW]; simp
  have bW : Below w.heap.size w W := by rw [hW]; exact (((Below.refl _ _).alloc (Nat.le_refl _) _).alloc (by simp) _).alloc (by simp; try omega) _
  have KR : Hid (W.heap[w.heap.size]? = some (.cells #[.slice none 0 0, .slice none 0 0] 44 (0, 0))) := Lib.hid (by rw [hW, Below.heap_alloc _ _ _ (by simp; omega), Below.heap_alloc _ _ _ (by simp)]; exact heap_new _ _)
  have KS : Hid (W.heap[w.heap.size + 1 + 1]? = some (.cells #[.slice none 0 0, .slice none 0 0] 44 (0, 0))) := Lib.hid (by rw [hW]; simpa using heap_new ((w.alloc (.cells #[.slice none 0 0, .slice none 0 0] 44)).alloc (.cells #[.pointer none, .slice none 0 0] 105)) (.cells #[.slice none 0 0, .slice none 0 0] 44))
  have BL0 : Bld W (w.heap.size + 1) (w.heap.size + 1) [] := by
    have h := Bld.fresh (w.alloc (.cells #[.slice none 0 0, .slice none 0 0] 44))
    rw [World.size_alloc] at h
    rw [hW]
    exact h.later ((Below.refl _ _).alloc (Nat.le_refl _) _)
  have BB := Lib.hid bW
  have HWs := Lib.hid hWs
  clear bW hWs
  have kf := fun w => impl_first w
  obtain ⟨h00, hh00⟩ : ∃ z, z = hashN [] := ⟨_, rfl⟩
  rw [← hh00] at kf
  have HH := Lib.hid hh00
  clear hh00
  have BL := Lib.hid BL0
  clear BL0
  by_cases h0 : xs = []
  · subst h0
    obtain ⟨a, cap, rfl, -⟩ := hr
    have HRES := Lib.hid imp_none
    clear BL KS
    go_enter Try.func37, Try.ntmps37
    go_wp2_with fail
    refine wp_scope_fwd (rest := ?rest) 0 ?hf ?first
    case hf => exact rfl
    go_wp2_with (go_at_call 79; refine (kf _).mono ?_; rintro e w' ⟨rfl, rfl⟩)
    rw [← hW]
    clear hW
    go_step3
    refine ⟨rfl, ?_⟩
    show Code.wp Try.prog _ _ _ _
    have fR0 := tcr KR 0
    have fR1 := tcr KR 1
    have zR0 := tfr KR 0
    have zR1 := tfr KR 1
    go_wp2_with fail
    rw [Exit.noGoto_ret]
    have f1 := heap_setCell_same _ w.heap.size 0 _ _ (.slice none 0 0) KR.out
    have f2 := heap_setCell_same _ w.heap.size 1 _ _ (.slice none 0 0) f1
    obtain ⟨j0, q1, q2, q3, q4⟩ := info_parts infoSt
    refine bodyPost_ret (results_cell_row2 (P := Try.prog) rfl _ _ w.heap.size _ _ (0, 0) _ _ rfl rfl f2 Try.underlying44 rfl (by rw [q1]; simp [q3])) rfl ⟨.agg #[.slice none 0 0, .slice none 0 0], by rw [HRES.out]; rfl, ?_, ?_⟩
    · rw [HRES.out]
      exact .inl ⟨rfl, rfl⟩
    · exact (BB.out.setCell (p := ⟨w.heap.size, 0, none⟩) (Nat.le_refl _) _).setCell (p := ⟨w.heap.size, 1, none⟩) (Nat.le_refl _) _
  · have hpos : 0 < xs.length := List.length_pos_iff.2 h0
    obtain ⟨a, cap, rfl, -, -, -, hA⟩ := hr
    obtain ⟨g, o, rfl, hg, hAt⟩ := hA hpos
    have HC : Hid (∀ w', Below w.heap.size w w' → ∀ k (hk : k < xs.length), w'.cell? ⟨g, o + k, none⟩ = some (.string xs[k])) := Lib.hid (fun w' hb k hk => (hAt.below hb hg) k _ (by simp [hk]))
    have Hx := Lib.hid hx
    clear hA hAt hg hx
    have hl0 : ¬ (xs.length : Int) = 0 := by omega
    have hl1 : ((xs.length : Int) == 0) = false := by simp; omega
    go_enter Try.func37, Try.ntmps37
    go_wp2_with fail
    refine wp_scope_fwd (rest := ?rest2) 0 ?hf2 ?first2
    case hf2 => exact rfl
    go_wp2_with (go_at_call 79; refine (kf _).mono ?_; rintro e w' ⟨rfl, rfl⟩; refine Hid.out ?_)
    refine Lib.hid ?_
    rw [← hW]
    clear kf hW
    go_wp2_with fail
    go_loopw [7, 18] (fun ch i wr => ∃ k : Nat, k ≤ xs.length ∧ i = .int .i64 k ∧ (∃ c : Nat, ch = .int .i64 c ∧ c < 4294967296 ∧ ∃ B : ByteArray, Hid (Bld wr (w.heap.size + 1) (w.heap.size + 1) B.data.toList) ∧ B.size ≤ 200 * k ∧ (k = 0 ∨ xs.length ≤ 600) ∧ Hid (impT xs k c B)) ∧ Hid (Below w.heap.size w wr) ∧ Hid (wr.heap[w.heap.size]? = some (.cells #[.slice none 0 0, .slice none 0 0] 44 (0, 0))) ∧ Hid (wr.heap[w.heap.size + 1 + 1]? = some (.cells #[.slice none 0 0, .slice none 0 0] 44 (0, 0))) ∧ Hid (w.heap.size + 3 ≤ wr.heap.size)) (fun _ i _ => xs.length - (intOf i).toNat)
    case atStart => exact ⟨0, Nat.zero_le _, rfl, ⟨h00, rfl, by rw [HH.out]; exact hashN_lt _, ⟨#[]⟩, BL, Nat.zero_le _, .inl rfl, Lib.hid (by unfold impT; rw [HH.out]; rfl)⟩, BB, KR, KS, Lib.hid (Nat.le_of_eq HWs.out.symm)⟩
    case round =>
      clear BB KR KS BL HWs
      obtain ⟨k, hk, rfl, ⟨c, rfl, hcl, B, BL, hB, h6, HI⟩, BB, KR, KS, HS⟩ := hrel
      have LR : Hid (w.heap.size < wr.heap.size) := Lib.hid (by have := HS.out; omega)
      have LS : Hid (w.heap.size + 1 + 1 < wr.heap.size) := Lib.hid (by have := HS.out; omega)
      by_cases hlt : k < xs.length
      · have hcell := HC.out wr BB.out k hlt
        have hdrop : xs.drop k = xs[k] :: xs.drop (k + 1) := List.drop_eq_getElem_cons hlt
        have kg := impl_pieceAt xs[k] ((k : Int) + 1) (xs.length : Int) c (wr.alloc (.cells #[.int .i64 0, .int .i64 0, .string ⟨#[]⟩, .int .i64 0] 25)) (Hx.out _ (List.getElem_mem hlt)) hcl
        have HI' := HI.out
        unfold impT at HI'
        rw [hdrop] at HI'
        have hat := at_go xs[k] (xs.drop (k + 1)) xs.length k c B
        obtain ⟨t, ht⟩ : ∃ t, t = xs[k] := ⟨_, rfl⟩
        rw [← ht] at kg HI' hat hcell
        clear ht hdrop
        obtain ⟨X, hX⟩ : ∃ X, X = wr.alloc (.cells #[.int .i64 0, .int .i64 0, .string ⟨#[]⟩, .int .i64 0] 25) := ⟨_, rfl⟩
        have bX : Below wr.heap.size wr X := by rw [hX]; exact (Below.refl _ _).alloc (Nat.le_refl _) _
        have KX : Hid (X.heap[wr.heap.size]? = some (.cells #[.int .i64 0, .int .i64 0, .string ⟨#[]⟩, .int .i64 0] 25 (0, 0))) := Lib.hid (by rw [hX]; exact heap_new _ _)
        have LX : Hid (wr.heap.size < X.heap.size) := Lib.hid (by rw [hX]; simp)
        have BX := Lib.hid bX
        clear bX
        rcases hat with ⟨p, lk, hap, hpc, hlk, hpb, hm6, hgo⟩ | ⟨cd, hcd, hap, hgo⟩
        · have HI2 : Hid (impT xs (k + 1) lk (B ++ p.b)) := Lib.hid (by unfold impT; rw [HI', hgo])
          rw [hap] at kg
          clear hap hgo HI' HI
          obtain ⟨no, of, pb, pch⟩ := p
          dsimp only at hpc hpb HI2
          subst hpc
          unfold pcV at kg
          dsimp only at kg
          go_wp2_with (go_at_call 87; refine kg.mono ?_; rintro e w1 ⟨rfl, hb⟩; refine Hid.out ?_)
          refine Lib.hid ?_
          rw [← hX] at hb
          replace KX := tkb hb LX KX
          replace LX := tlz LX hb.size
          replace BX := tbt BX hb
          clear hb kg hcell hX
          have fX0 := tcr KX 0
          have fX1 := tcr KX 1
          have fX2 := tcr KX 2
          have fX3 := tcr KX 3
          have zX0 := tfr KX 0
          have zX1 := tfr KX 1
          have zX2 := tfr KX 2
          have zX3 := tfr KX 3
          go_wp2_with (go_at_call 88; refine Hid.out ?_)
          refine Lib.hid ?_
          clear fX0 fX1 fX2 fX3 zX0 zX1 zX2 zX3
          obtain ⟨Y, hY⟩ : ∃ Y, Y = (((w1.setCell ⟨wr.heap.size, 0, none⟩ (.int .i64 no)).setCell ⟨wr.heap.size, 1, none⟩ (.int .i64 of)).setCell ⟨wr.heap.size, 2, none⟩ (.string pb)).setCell ⟨wr.heap.size, 3, none⟩ (.int .i64 (lk : Nat)) := ⟨_, rfl⟩
          rw [← hY]
          have KY : Hid (Y.heap[wr.heap.size]? = some (.cells #[.int .i64 no, .int .i64 of, .string pb, .int .i64 (lk : Nat)] 25 (0, 0))) := Lib.hid (by rw [hY]; exact store4 KX.out)
          have bY : Below wr.heap.size wr Y := by rw [hY]; exact below4 BX.out (Nat.le_refl _)
          clear hY KX BX LX
          have hs := HS.out
          have hc := bld_write_k (w.heap.size + 1) (w.heap.size + 1) B.data.toList pb Y (BL.out.later bY) (by have h1 : B.data.toList.length = B.size := by simp
                                                                                                              rw [h1]; omega) (by have := bY.size; omega)
          refine hc.mono ?_
          rintro e w5 ⟨rfl, bl5, hb5, bs5⟩
          replace KR := beside_cell bs5 (tkb bY LR KR) (by omega) (by decide)
          replace KS := beside_cell bs5 (tkb bY LS KS) (by omega) (by decide)
          replace KY := beside_cell bs5 KY (by omega) (by decide)
          replace BB := Lib.hid ((BB.out.trans (bY.mono BB.out.size)).trans (hb5.mono (by omega)))
          replace BL : Hid (Bld w5 (w.heap.size + 1) (w.heap.size + 1) (B ++ pb).data.toList) := Lib.hid (by rw [ByteArray.data_append, Array.toList_append]; exact bl5)
          replace HS : Hid (w.heap.size + 3 ≤ w5.heap.size) := Lib.hid (by have h1 := bY.size; have h2 := hb5.size; omega)
          clear hc bl5 hb5 bs5 bY hs LR LS
          have fY3 := tcr KY 3
          go_wp2_with fail
          go_roundw
          case rel => exact ⟨k + 1, by omega, by go_num, ⟨lk, rfl, hlk, B ++ pb, BL, by rw [ByteArray.size_append]; omega, .inr hm6, HI2⟩, BB, KR, KS, HS⟩
          case measure => simp [intOf]; omega
        · have HRES : Hid (importS xs = (⟨[], []⟩, cd)) := Lib.hid (imp_bad h0 (HI'.trans hgo) hcd)
          rw [hap] at kg
          clear hap hgo HI' HI
          unfold pcV pc0 at kg
          dsimp only at kg
          go_wp2_with (go_at_call 87; refine kg.mono ?_; rintro e w1 ⟨rfl, hb⟩; refine Hid.out ?_)
          refine Lib.hid ?_
          rw [← hX] at hb
          replace KX := tkb hb LX KX
          replace BX := tbt BX hb
          clear hb kg hcell hX LX
          have fX0 := tcr KX 0
          have fX1 := tcr KX 1
          have fX2 := tcr KX 2
          have fX3 := tcr KX 3
          have zX0 := tfr KX 0
          have zX1 := tfr KX 1
          have zX2 := tfr KX 2
          have zX3 := tfr KX 3
          go_wp2_with fail
          clear fX0 fX1 fX2 fX3 zX0 zX1 zX2 zX3
          go_step3
          refine ⟨rfl, ?_⟩
          show Code.wp Try.prog _ _ _ _
          obtain ⟨Y, hY⟩ : ∃ Y, Y = (((w1.setCell ⟨wr.heap.size, 0, none⟩ (.int .i64 0)).setCell ⟨wr.heap.size, 1, none⟩ (.int .i64 0)).setCell ⟨wr.heap.size, 2, none⟩ (.string ⟨#[]⟩)).setCell ⟨wr.heap.size, 3, none⟩ (.int .i64 0) := ⟨_, rfl⟩
          have bY : Below wr.heap.size wr Y := by rw [hY]; exact below4 BX.out (Nat.le_refl _)
          rw [← hY]
          clear hY KX BX
          replace KR := tkb bY LR KR
          replace BB := tbt BB bY
          clear bY LR
          have fR0 := tcr KR 0
          have fR1 := tcr KR 1
          have zR0 := tfr KR 0
          have zR1 := tfr KR 1
          go_wp2_with fail
          rw [Exit.noGoto_ret]
          have f1 := heap_setCell_same _ w.heap.size 0 _ _ (.slice none 0 0) KR.out
          have f2 := heap_setCell_same _ w.heap.size 1 _ _ (.slice none 0 0) f1
          obtain ⟨j0, q1, q2, q3, q4⟩ := info_parts infoSt
          refine bodyPost_ret (results_cell_row2 (P := Try.prog) rfl _ _ w.heap.size _ _ (0, 0) _ _ rfl rfl f2 Try.underlying44 rfl (by rw [q1]; simp [q3])) rfl ⟨.agg #[.slice none 0 0, .slice none 0 0], by rw [HRES.out]; rfl, ?_, ?_⟩
          · rw [HRES.out]
            exact .inl ⟨rfl, rfl⟩
          · exact (BB.out.setCell (p := ⟨w.heap.size, 0, none⟩) (Nat.le_refl _) _).setCell (p := ⟨w.heap.size, 1, none⟩) (Nat.le_refl _) _
      · obtain rfl : k = xs.length := by omega
        have hB2 : B.size ≤ 120000 := by omega
        have HG : Hid (importS xs = if (decS B).2 = 0 then (⟨[], []⟩, 5) else ((decS B).1, 0)) := Lib.hid (imp_good h0 (by have h := HI.out; unfold impT at h; rw [h, List.drop_length]; rfl))
        clear HI
        have hs := HS.out
        have hc1 := bld_string_k (w.heap.size + 1) (w.heap.size + 1) B.data.toList wr BL.out (by omega)
        have hBB : (⟨B.data.toList.toArray⟩ : ByteArray) = B := by cases B; simp
        rw [hBB] at hc1
        have kd := fun w => impl_decode B w (by omega)
        obtain ⟨ds, hds⟩ : ∃ z, z = (decS B).1 := ⟨_, rfl⟩
        obtain ⟨dv, hdv⟩ : ∃ z, z = (decS B).2 := ⟨_, rfl⟩
        rw [← hds, ← hdv] at HG kd
        clear hds hdv hBB BL
        go_wp2_with (first | (go_at_call 90; refine hc1.mono ?_; rintro e w6 ⟨rfl, hb6, bs6⟩; refine Hid.out ?_))
        refine Lib.hid ?_
        replace KR := beside_cell bs6 KR (by omega) (by decide)
        replace KS := beside_cell bs6 KS (by omega) (by decide)
        replace LR := tlz LR hb6.size
        replace LS := tlz LS hb6.size
        replace BB := Lib.hid (BB.out.trans (hb6.mono (by omega)))
        have H6 : Hid (w.heap.size + 3 ≤ w6.heap.size) := Lib.hid (by have := hb6.size; omega)
        clear hc1 hb6 bs6 hs HS
        have hc := kd w6
        clear kd
        go_wp2_with (go_at_call 89; refine hc.mono ?_; rintro e w7 ⟨dvv, rfl, hdec, hb, hlt7⟩; refine Hid.out ?_)
        refine Lib.hid ?_
        obtain ⟨vi, vt, rfl, r1, r2⟩ := hdec.st
        obtain ⟨sa, sc, rfl⟩ := slice_rowE r1
        obtain ⟨ta, tc, rfl⟩ := slice_rowE r2
        clear r1 r2 hc hlt7
        replace KR := tkb hb LR KR
        replace KS := tkb hb LS KS
        replace LR := tlz LR hb.size
        replace LS := tlz LS hb.size
        replace BB := tbt BB hb
        have HD := Lib.hid hdec
        clear hb hdec
        obtain ⟨Y, hY⟩ : ∃ Y, Y = (w7.setCell ⟨w.heap.size + 1 + 1, 0, none⟩ (.slice sa ds.items.length sc)).setCell ⟨w.heap.size + 1 + 1, 1, none⟩ (.slice ta ds.talks.length tc) := ⟨_, rfl⟩
        have KRY : Hid (Y.heap[w.heap.size]? = some (.cells #[.slice none 0 0, .slice none 0 0] 44 (0, 0))) := Lib.hid (by rw [hY]; exact ((Below.heap_setCell _ _ _ _ (by simp; omega)).trans (Below.heap_setCell _ _ _ _ (by simp; omega))).trans KR.out)
        have KSY : Hid (Y.heap[w.heap.size + 1 + 1]? = some (.cells #[.slice sa ds.items.length sc, .slice ta ds.talks.length tc] 44 (0, 0))) := Lib.hid (by rw [hY]; exact heap_setCell_same _ _ 1 _ _ _ (heap_setCell_same _ _ 0 _ _ _ KS.out))
        have BBY : Hid (Below w.heap.size w Y) := Lib.hid (by rw [hY]; exact (BB.out.setCell (p := ⟨w.heap.size + 1 + 1, 0, none⟩) (Nat.le_add_right _ 2) _).setCell (p := ⟨w.heap.size + 1 + 1, 1, none⟩) (Nat.le_add_right _ 2) _)
        have HDY : Hid (DecV Y w6.heap.size (.agg #[.slice sa ds.items.length sc, .slice ta ds.talks.length tc]) ds) := Lib.hid (by
          rcases HD.out with h | h
          · exact .inl h
          · have h6 := H6.out
            rw [hY]
            exact .inr ((h.kept (grown_set _ ⟨w.heap.size + 1 + 1, 0, none⟩ _) (by show w.heap.size + 1 + 1 < _; omega)).kept (grown_set _ ⟨w.heap.size + 1 + 1, 1, none⟩ _) (by show w.heap.size + 1 + 1 < _; omega)))
        have fS0 := tcr KS 0
        have fS1 := tcr KS 1
        have zS0 := tfr KS 0
        have zS1 := tfr KS 1
        by_cases hz : dv = 0
        · have HRES : Hid (importS xs = (⟨[], []⟩, 5)) := Lib.hid (by rw [HG.out, if_pos hz])
          subst hz
          go_wp2_with fail
          clear fS0 fS1 zS0 zS1
          go_step3
          refine ⟨rfl, ?_⟩
          show Code.wp Try.prog _ _ _ _
          rw [← hY]
          clear hY KR KS BB HD
          have KR := KRY
          have BB := BBY
          clear KRY BBY
          have fR0 := tcr KR 0
          have fR1 := tcr KR 1
          have zR0 := tfr KR 0
          have zR1 := tfr KR 1
          go_wp2_with fail
          rw [Exit.noGoto_ret]
          have f1 := heap_setCell_same _ w.heap.size 0 _ _ (.slice none 0 0) KR.out
          have f2 := heap_setCell_same _ w.heap.size 1 _ _ (.slice none 0 0) f1
          obtain ⟨j0, q1, q2, q3, q4⟩ := info_parts infoSt
          refine bodyPost_ret (results_cell_row2 (P := Try.prog) rfl _ _ w.heap.size _ _ (0, 0) _ _ rfl rfl f2 Try.underlying44 rfl (by rw [q1]; simp [q3])) rfl ⟨.agg #[.slice none 0 0, .slice none 0 0], by rw [HRES.out]; rfl, ?_, ?_⟩
          · rw [HRES.out]
            exact .inl ⟨rfl, rfl⟩
          · exact (BB.out.setCell (p := ⟨w.heap.size, 0, none⟩) (Nat.le_refl _) _).setCell (p := ⟨w.heap.size, 1, none⟩) (Nat.le_refl _) _
        · have HRES : Hid (importS xs = (ds, 0)) := Lib.hid (by rw [HG.out, if_neg hz])
          have fR0 := tcr KR 0
          have fR1 := tcr KR 1
          have zR0 := tfr KR 0
          have zR1 := tfr KR 1
          go_wp2_with fail
          clear fS0 fS1 zS0 zS1 fR0 fR1 zR0 zR1
          refine jump_ret ?_
          rw [← hY]
          clear hY KR KS BB HD
          have KR := KRY
          have BB := BBY
          clear KRY BBY
          have f1 := heap_setCell_same _ w.heap.size 0 _ _ (.slice sa ds.items.length sc) KR.out
          have f2 := heap_setCell_same _ w.heap.size 1 _ _ (.slice ta ds.talks.length tc) f1
          obtain ⟨j0, q1, q2, q3, q4⟩ := info_parts infoSt
          refine bodyPost_ret (results_cell_row2 (P := Try.prog) rfl _ _ w.heap.size _ _ (0, 0) _ _ rfl rfl f2 Try.underlying44 rfl (by rw [q1]; simp [q3])) rfl ⟨.agg #[.slice sa ds.items.length sc, .slice ta ds.talks.length tc], by rw [HRES.out]; rfl, ?_, ?_⟩
          · rw [HRES.out]
            exact HDY.out.imp id (fun h => own_set (h.base (show w.heap.size + 1 ≤ w6.heap.size by have := H6.out; omega)) (Nat.le_refl _) _ _)
          · exact (BB.out.setCell (p := ⟨w.heap.size, 0, none⟩) (Nat.le_refl _) _).setCell (p := ⟨w.heap.size, 1, none⟩) (Nat.le_refl _) _
end Go.Proofs.Ytlklhmdpkicpnaa
