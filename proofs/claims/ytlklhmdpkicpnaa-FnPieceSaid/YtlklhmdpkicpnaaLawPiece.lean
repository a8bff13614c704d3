/- The laws FnPiece and FnLink: a piece comes back from its bytes; what a chain becomes hangs on what it was, and on the bytes. Condition: none. -/
import Derived.Test.YtlklhmdpkicpnaaCurA
import Derived.Test.YtlklhmdpkicpnaaDrawGetPc
import Derived.Test.YtlklhmdpkicpnaaDrawCut
import Derived.Test.YtlklhmdpkicpnaaImplGet
import Derived.Test.YtlklhmdpkicpnaaPcEq
import Derived.Test.YtlklhmdpkicpnaaBaseA
import Derived.BigQuiet
import Derived.Deep.QuietTactic
namespace Go.Proofs.Ytlklhmdpkicpnaa
open Go.RowKit
set_option linter.unusedVariables false
set_option linter.unusedSimpArgs false

set_option maxRecDepth 100000 in
set_option maxHeartbeats 8000000 in
theorem law_piece (a : Option Addr) (len cap : Nat) (zs : List Int) (w : World) (hr : IsRow .u8 w a len cap zs) :
    Calls Try.prog 3 #[.slice a len cap] w fun e w' => e = .returned (.bool true) ∧ Below w.heap.size w w' := by
  have hr := row8_of hr
  by_cases hbig : 1048576 < len
  · have hd : decide (1048576 < len) = true := by simpa using hbig
    go_enter Try.func3, Try.ntmps3
    go_wp2_with (go_at_call 17; refine (big_any _ _ _ _).mono ?_; rintro e w' ⟨rfl, rfl⟩)
    go_ret
    exact ⟨rfl, Below.refl _ _⟩
  have hd : decide (1048576 < len) = false := by simpa using hbig
  have hlen : len ≤ 1048576 := by omega
  have Hr8 := Lib.hid hr
  have BB : Hid (Below w.heap.size w w) := Lib.hid (Below.refl _ _)
  go_enter Try.func3, Try.ntmps3
  go_wp2_with (go_at_call 17; refine (big_any _ _ _ _).mono ?_; rintro e w' ⟨rfl, rfl⟩; refine Hid.out ?_)
  refine Lib.hid ?_
  clear hd hbig hr
  have hc := drawPutPiece_any a len cap zs w Hr8.out hlen
  go_wp2_with (go_at_call 18; refine hc.mono ?_; rintro e w1 ⟨pn, po, pb, pc, hfit, rfl, hb⟩; refine Hid.out ?_)
  refine Lib.hid ?_
  replace BB := Lib.hid hb
  have HF := Lib.hid hfit
  clear hb hc hfit
  obtain ⟨X1, hX1⟩ : ∃ z, z = w1.alloc (.cells #[.int .i64 pn, .int .i64 po, .string pb, .int .i64 pc] 25) := ⟨_, rfl⟩
  have hb : Below w1.heap.size w1 X1 := by rw [hX1]; exact (Below.refl _ _).alloc (Nat.le_refl _) _
  replace BB := tbt BB hb
  have KP : Hid (X1.heap[w1.heap.size]? = some (.cells #[.int .i64 pn, .int .i64 po, .string pb, .int .i64 pc] 25 (0, 0))) := Lib.hid (by rw [hX1]; exact heap_new _ _)
  have LP : Hid (w1.heap.size < X1.heap.size) := Lib.hid (by rw [hX1]; simp)
  clear hb
  obtain ⟨S, hS⟩ : ∃ S, S = pcB ⟨pn, po, pb, pc⟩ := ⟨_, rfl⟩
  have HS := Lib.hid hS
  have hSz := pc_le ⟨pn, po, pb, pc⟩
  rw [← hS] at hSz
  clear hS
  obtain ⟨K, hK⟩ : ∃ K, K = pcOk ⟨pn, po, pb, pc⟩ := ⟨_, rfl⟩
  have HK := Lib.hid hK
  clear hK
  have hc := impl_putPiece ⟨pn, po, pb, pc⟩ X1 HF.out
  simp only [pcV] at hc
  rw [← HS.out] at hc
  have fP0 := tcr KP 0
  have fP1 := tcr KP 1
  have fP2 := tcr KP 2
  have fP3 := tcr KP 3
  rw [hX1] at hc fP0 fP1 fP2 fP3
  go_wp2_with (go_at_call 19; refine hc.mono ?_; rintro e w2 ⟨rfl, hb⟩; refine Hid.out ?_)
  refine Lib.hid ?_
  rw [← hX1] at hb 
  clear hX1
  replace KP := tkb hb LP KP
  replace LP := tlz LP hb.size
  replace BB := tbt BB hb
  clear hc hb fP0 fP1 fP2 fP3
  have hc := drawGetPiece_any a len cap zs w2 (Hr8.out.later BB.out) hlen
  go_wp2_with (go_at_call 20; refine hc.mono ?_; rintro e w3 ⟨u, rfl, hu, hb⟩; refine Hid.out ?_)
  refine Lib.hid ?_
  replace KP := tkb hb LP KP
  replace LP := tlz LP hb.size
  replace BB := tbt BB hb
  clear hc hb 
  obtain ⟨⟨⟨qn, qo, qb, qc⟩, qk⟩, hq⟩ : ∃ z, z = getP u := ⟨_, rfl⟩
  have HQ := Lib.hid hq
  clear hq
  have hc := impl_getPiece u w3 (by omega)
  rw [← HQ.out] at hc
  simp only [pcV] at hc
  go_wp2_with (go_at_call 21; refine hc.mono ?_; rintro e w4 ⟨rfl, hb⟩; refine Hid.out ?_)
  refine Lib.hid ?_
  replace KP := tkb hb LP KP
  replace LP := tlz LP hb.size
  replace BB := tbt BB hb
  clear hc hb 
  obtain ⟨X2, hX2⟩ : ∃ z, z = w4.alloc (.cells #[.int .i64 qn, .int .i64 qo, .string qb, .int .i64 qc] 25) := ⟨_, rfl⟩
  have hb : Below w4.heap.size w4 X2 := by rw [hX2]; exact (Below.refl _ _).alloc (Nat.le_refl _) _
  replace KP := tkb hb LP KP
  replace LP := tlz LP hb.size
  replace BB := tbt BB hb
  have KQ : Hid (X2.heap[w4.heap.size]? = some (.cells #[.int .i64 qn, .int .i64 qo, .string qb, .int .i64 qc] 25 (0, 0))) := Lib.hid (by rw [hX2]; exact heap_new _ _)
  have LQ : Hid (w4.heap.size < X2.heap.size) := Lib.hid (by rw [hX2]; simp)
  clear hb
  have hc := spec_getPiece u X2 (by omega)
  rw [← HQ.out] at hc
  simp only [pcV] at hc
  rw [hX2] at hc 
  go_wp2_with (go_at_call 22; refine hc.mono ?_; rintro e w5 ⟨rfl, hb⟩; refine Hid.out ?_)
  refine Lib.hid ?_
  rw [← hX2] at hb 
  clear hX2
  replace KP := tkb hb LP KP
  replace LP := tlz LP hb.size
  replace KQ := tkb hb LQ KQ
  replace LQ := tlz LQ hb.size
  replace BB := tbt BB hb
  clear hc hb 
  obtain ⟨X3, hX3⟩ : ∃ z, z = w5.alloc (.cells #[.int .i64 qn, .int .i64 qo, .string qb, .int .i64 qc] 25) := ⟨_, rfl⟩
  have hb : Below w5.heap.size w5 X3 := by rw [hX3]; exact (Below.refl _ _).alloc (Nat.le_refl _) _
  replace KP := tkb hb LP KP
  replace LP := tlz LP hb.size
  replace KQ := tkb hb LQ KQ
  replace LQ := tlz LQ hb.size
  replace BB := tbt BB hb
  have KW : Hid (X3.heap[w5.heap.size]? = some (.cells #[.int .i64 qn, .int .i64 qo, .string qb, .int .i64 qc] 25 (0, 0))) := Lib.hid (by rw [hX3]; exact heap_new _ _)
  have LW : Hid (w5.heap.size < X3.heap.size) := Lib.hid (by rw [hX3]; simp)
  clear hb
  go_wp2_with fail
  rw [← hX3]
  clear hX3
  have FP : Hid (∀ w', Below X3.heap.size X3 w' → w'.cell? ⟨w1.heap.size, 0, none⟩ = some (.int .i64 pn) ∧ w'.cell? ⟨w1.heap.size, 1, none⟩ = some (.int .i64 po) ∧ w'.cell? ⟨w1.heap.size, 2, none⟩ = some (.string pb) ∧ w'.cell? ⟨w1.heap.size, 3, none⟩ = some (.int .i64 pc)) := Lib.hid (fun w' h => by have K := tkb h LP KP; exact ⟨tcr K 0, tcr K 1, tcr K 2, tcr K 3⟩)
  have FQ : Hid (∀ w', Below X3.heap.size X3 w' → w'.cell? ⟨w4.heap.size, 0, none⟩ = some (.int .i64 qn) ∧ w'.cell? ⟨w4.heap.size, 1, none⟩ = some (.int .i64 qo) ∧ w'.cell? ⟨w4.heap.size, 2, none⟩ = some (.string qb) ∧ w'.cell? ⟨w4.heap.size, 3, none⟩ = some (.int .i64 qc)) := Lib.hid (fun w' h => by have K := tkb h LQ KQ; exact ⟨tcr K 0, tcr K 1, tcr K 2, tcr K 3⟩)
  have FW : Hid (∀ w', Below X3.heap.size X3 w' → w'.cell? ⟨w5.heap.size, 0, none⟩ = some (.int .i64 qn) ∧ w'.cell? ⟨w5.heap.size, 1, none⟩ = some (.int .i64 qo) ∧ w'.cell? ⟨w5.heap.size, 2, none⟩ = some (.string qb) ∧ w'.cell? ⟨w5.heap.size, 3, none⟩ = some (.int .i64 qc)) := Lib.hid (fun w' h => by have K := tkb h LW KW; exact ⟨tcr K 0, tcr K 1, tcr K 2, tcr K 3⟩)
  refine wp_region_held_drew (S := (fun w' => Below X3.heap.size X3 w')) (by kernel_rfl) (Below.refl _ _).drew (fun hHeld => ?_)
  obtain ⟨zD, hzD⟩ : ∃ zz, zz = X3.drew := ⟨_, rfl⟩
  rw [← hzD] at hHeld ⊢
  clear hzD
  have BD := Lib.hid hHeld
  have hneq : ∀ w, (binOp .neq 25 (.agg #[.int .i64 qn, .int .i64 qo, .string qb, .int .i64 qc]) (.agg #[.int .i64 qn, .int .i64 qo, .string qb, .int .i64 qc])).run Try.prog w = .ok (.bool false) w := fun w => neq_pc _ _ _ _ w
  have hKK : (K != K) = false := by simp
  refine tk0 0 ?_
  refine tk 1 (v := ?_) ?_ ?_; rotate_left
  · refine Or.inl ⟨by rfl, ?_⟩; intro w hSw; obtain ⟨hP0, hP1, hP2, hP3⟩ := FP.out w hSw; go_simp; first | done | with_reducible rfl
  refine rd1 2 (fun K hK => ?_)
  go_simp
  have hc := spec_putPiece ⟨pn, po, pb, pc⟩ zD HF.out
  simp only [pcV] at hc
  rw [← HS.out] at hc
  go_at_call 23
  refine hc.mono ?_
  rintro e w6 ⟨rfl, hb⟩
  replace BD := tbt BD hb
  clear hc hb
  go_wp2_with fail
  refine hK.out _ _ BD.out (fun hHeld => ?_)
  clear hK K
  refine tk0 3 ?_
  refine tk0 4 ?_
  refine tk 5 (v := ?_) ?_ ?_; rotate_left
  · refine Or.inl ⟨by rfl, ?_⟩; intro w hSw; obtain ⟨hP0, hP1, hP2, hP3⟩ := FP.out w hSw; go_simp; first | done | with_reducible rfl
  refine tk 7 (v := ?_) ?_ ?_; rotate_left
  · refine Or.inl ⟨by rfl, ?_⟩; intro w hSw; obtain ⟨hP0, hP1, hP2, hP3⟩ := FP.out w hSw; go_simp; first | done | with_reducible rfl
  refine rd1 6 (fun K hK => ?_)
  go_simp
  have hc := impl_pieceOk ⟨pn, po, pb, pc⟩ w6 HF.out.2.2.1
  simp only [pcV] at hc
  rw [← HK.out] at hc
  go_at_call 24
  refine hc.mono ?_
  rintro e w7 ⟨rfl, hb⟩
  replace BD := tbt BD hb
  clear hc hb
  go_wp2_with fail
  refine hK.out _ _ BD.out (fun hHeld => ?_)
  clear hK K
  refine rd1 8 (fun K hK => ?_)
  go_simp
  have hc := spec_pieceOk ⟨pn, po, pb, pc⟩ w7 HF.out.2.2.1
  simp only [pcV] at hc
  rw [← HK.out] at hc
  go_at_call 25
  refine hc.mono ?_
  rintro e w8 ⟨rfl, hb⟩
  replace BD := tbt BD hb
  clear hc hb
  go_wp2_with fail
  refine hK.out _ _ BD.out (fun hHeld => ?_)
  clear hK K
  refine tk0 9 ?_
  refine tk0 10 ?_
  refine tk0 11 ?_
  refine tk 12 (v := ?_) ?_ ?_; rotate_left
  · refine Or.inl ⟨by rfl, ?_⟩; intro w hSw; obtain ⟨hQ0, hQ1, hQ2, hQ3⟩ := FQ.out w hSw; go_simp; first | done | with_reducible rfl
  refine tk 13 (v := ?_) ?_ ?_; rotate_left
  · refine Or.inl ⟨by rfl, ?_⟩; intro w hSw; obtain ⟨hW0, hW1, hW2, hW3⟩ := FW.out w hSw; go_simp; first | done | with_reducible rfl
  refine tk0 14 ?_
  refine tk0 15 ?_
  refine tk0 16 ?_
  refine tk0 17 ?_
  refine tk0 18 ?_
  refine tk0 19 ?_
  refine tk0 20 ?_
  refine tk0 21 ?_
  refine tk0 22 ?_
  refine tk0 23 ?_
  cases qk
  · refine tku 24 ?_
    refine tku 25 ?_
    refine tku 26 ?_
    refine tku 27 ?_
    refine tk0 28 ?_
    refine tk0 29 ?_
    refine wpAnyH_done (by kernel_rfl) ?_ _
    clear hHeld
    have hb := BD.out
    replace KP := tkb hb LP KP
    replace LP := tlz LP hb.size
    replace KQ := tkb hb LQ KQ
    replace LQ := tlz LQ hb.size
    replace KW := tkb hb LW KW
    replace LW := tlz LW hb.size
    replace BB := tbt BB hb
    clear hb BD
    clear FP FQ FW
    cases K
    · have hSe : S = ⟨#[]⟩ := by rw [HS.out]; unfold pcB; rw [if_neg (by rw [← HK.out]; decide)]
      have hg : getP S = (⟨0, 0, ⟨#[]⟩, 0⟩, false) := by rw [hSe]; exact pc_none
      have hee : S.toList.isEmpty = true := by rw [hSe]; simp
      clear hSe
      have hc := impl_getPiece S w8 (by omega)
      rw [hg] at hc
      simp only [pcV] at hc
      go_wp2_with (go_at_call 21; refine hc.mono ?_; rintro e v1 ⟨rfl, hb⟩; refine Hid.out ?_)
      refine Lib.hid ?_
      replace KP := tkb hb LP KP
      replace LP := tlz LP hb.size
      replace KQ := tkb hb LQ KQ
      replace LQ := tlz LQ hb.size
      replace KW := tkb hb LW KW
      replace LW := tlz LW hb.size
      replace BB := tbt BB hb
      clear hc hb 
      obtain ⟨X4, hX4⟩ : ∃ z, z = v1.alloc (.cells #[.int .i64 0, .int .i64 0, .string ⟨#[]⟩, .int .i64 0] 25) := ⟨_, rfl⟩
      have hb : Below v1.heap.size v1 X4 := by rw [hX4]; exact (Below.refl _ _).alloc (Nat.le_refl _) _
      replace KP := tkb hb LP KP
      replace LP := tlz LP hb.size
      replace KQ := tkb hb LQ KQ
      replace LQ := tlz LQ hb.size
      replace KW := tkb hb LW KW
      replace LW := tlz LW hb.size
      replace BB := tbt BB hb
      have KB : Hid (X4.heap[v1.heap.size]? = some (.cells #[.int .i64 0, .int .i64 0, .string ⟨#[]⟩, .int .i64 0] 25 (0, 0))) := Lib.hid (by rw [hX4]; exact heap_new _ _)
      have LB : Hid (v1.heap.size < X4.heap.size) := Lib.hid (by rw [hX4]; simp)
      clear hb
      have hc := spec_pieceOk ⟨pn, po, pb, pc⟩ X4 HF.out.2.2.1
      simp only [pcV] at hc
      rw [← HK.out] at hc
      have fP0 := tcr KP 0
      have fP1 := tcr KP 1
      have fP2 := tcr KP 2
      have fP3 := tcr KP 3
      rw [hX4] at hc fP0 fP1 fP2 fP3
      go_wp2_with (go_at_call 25; refine hc.mono ?_; rintro e v2 ⟨rfl, hb⟩; refine Hid.out ?_)
      refine Lib.hid ?_
      rw [← hX4] at hb 
      clear hX4
      replace KP := tkb hb LP KP
      replace LP := tlz LP hb.size
      replace KQ := tkb hb LQ KQ
      replace LQ := tlz LQ hb.size
      replace KW := tkb hb LW KW
      replace LW := tlz LW hb.size
      replace KB := tkb hb LB KB
      replace LB := tlz LB hb.size
      replace BB := tbt BB hb
      clear hc hb fP0 fP1 fP2 fP3
      have fP0 := tcr KP 0
      have fP1 := tcr KP 1
      have fP2 := tcr KP 2
      have fP3 := tcr KP 3
      have fB0 := tcr KB 0
      have fB1 := tcr KB 1
      have fB2 := tcr KB 2
      have fB3 := tcr KB 3
      go_wp2_with fail
      go_ret
      exact ⟨rfl, BB.out⟩
    · have hg : getP S = (⟨pn, po, pb, pc⟩, true) := by rw [HS.out]; exact pc_back HK.out.symm
      have hSz2 : S.size = 15 + pb.size := by rw [HS.out]; exact pc_size HK.out.symm
      have hee : S.toList.isEmpty = false := by rw [ByteArray.toList_eq, List.isEmpty_eq_false_iff_exists_mem]; exact ⟨_, List.getElem_mem (n := 0) (by rw [Array.length_toList]; show 0 < S.size; omega)⟩
      clear hSz2
      have heql : ∀ w, (binOp .eql 25 (.agg #[.int .i64 pn, .int .i64 po, .string pb, .int .i64 pc]) (.agg #[.int .i64 pn, .int .i64 po, .string pb, .int .i64 pc])).run Try.prog w = .ok (.bool true) w := fun w => eql_pc _ _ _ _ w
      have hc := impl_getPiece S w8 (by omega)
      rw [hg] at hc
      simp only [pcV] at hc
      go_wp2_with (go_at_call 21; refine hc.mono ?_; rintro e v1 ⟨rfl, hb⟩; refine Hid.out ?_)
      refine Lib.hid ?_
      replace KP := tkb hb LP KP
      replace LP := tlz LP hb.size
      replace KQ := tkb hb LQ KQ
      replace LQ := tlz LQ hb.size
      replace KW := tkb hb LW KW
      replace LW := tlz LW hb.size
      replace BB := tbt BB hb
      clear hc hb 
      obtain ⟨X4, hX4⟩ : ∃ z, z = v1.alloc (.cells #[.int .i64 pn, .int .i64 po, .string pb, .int .i64 pc] 25) := ⟨_, rfl⟩
      have hb : Below v1.heap.size v1 X4 := by rw [hX4]; exact (Below.refl _ _).alloc (Nat.le_refl _) _
      replace KP := tkb hb LP KP
      replace LP := tlz LP hb.size
      replace KQ := tkb hb LQ KQ
      replace LQ := tlz LQ hb.size
      replace KW := tkb hb LW KW
      replace LW := tlz LW hb.size
      replace BB := tbt BB hb
      have KB : Hid (X4.heap[v1.heap.size]? = some (.cells #[.int .i64 pn, .int .i64 po, .string pb, .int .i64 pc] 25 (0, 0))) := Lib.hid (by rw [hX4]; exact heap_new _ _)
      have LB : Hid (v1.heap.size < X4.heap.size) := Lib.hid (by rw [hX4]; simp)
      clear hb
      have hc := spec_pieceOk ⟨pn, po, pb, pc⟩ X4 HF.out.2.2.1
      simp only [pcV] at hc
      rw [← HK.out] at hc
      have fP0 := tcr KP 0
      have fP1 := tcr KP 1
      have fP2 := tcr KP 2
      have fP3 := tcr KP 3
      rw [hX4] at hc fP0 fP1 fP2 fP3
      go_wp2_with (go_at_call 25; refine hc.mono ?_; rintro e v2 ⟨rfl, hb⟩; refine Hid.out ?_)
      refine Lib.hid ?_
      rw [← hX4] at hb 
      clear hX4
      replace KP := tkb hb LP KP
      replace LP := tlz LP hb.size
      replace KQ := tkb hb LQ KQ
      replace LQ := tlz LQ hb.size
      replace KW := tkb hb LW KW
      replace LW := tlz LW hb.size
      replace KB := tkb hb LB KB
      replace LB := tlz LB hb.size
      replace BB := tbt BB hb
      clear hc hb fP0 fP1 fP2 fP3
      have fP0 := tcr KP 0
      have fP1 := tcr KP 1
      have fP2 := tcr KP 2
      have fP3 := tcr KP 3
      have fB0 := tcr KB 0
      have fB1 := tcr KB 1
      have fB2 := tcr KB 2
      have fB3 := tcr KB 3
      go_wp2_with fail
      go_ret
      exact ⟨rfl, BB.out⟩
  · have hput := pc_put (t := u) (by rw [← HQ.out])
    rw [← HQ.out] at hput
    obtain ⟨hpu, hpo⟩ := hput
    have hqf := ok_fit' hpo
    have HP := Lib.hid hpu
    clear hpu hpo
    refine tk 24 (v := ?_) ?_ ?_; rotate_left
    · refine Or.inl ⟨by rfl, ?_⟩; intro w hSw; obtain ⟨hQ0, hQ1, hQ2, hQ3⟩ := FQ.out w hSw; go_simp; first | done | with_reducible rfl
    refine tk0 26 ?_
    refine rd1 25 (fun K hK => ?_)
    go_simp
    have hc := impl_putPiece ⟨qn, qo, qb, qc⟩ w8 hqf
    rw [HP.out] at hc
    simp only [pcV] at hc
    go_at_call 19
    refine hc.mono ?_
    rintro e w9 ⟨rfl, hb⟩
    replace BD := tbt BD hb
    clear hc hb
    go_wp2_with fail
    refine hK.out _ _ BD.out (fun hHeld => ?_)
    clear hK K
    refine tk0 27 ?_
    refine tk0 28 ?_
    refine tk0 29 ?_
    refine wpAnyH_done (by kernel_rfl) ?_ _
    clear hHeld
    have hb := BD.out
    replace KP := tkb hb LP KP
    replace LP := tlz LP hb.size
    replace KQ := tkb hb LQ KQ
    replace LQ := tlz LQ hb.size
    replace KW := tkb hb LW KW
    replace LW := tlz LW hb.size
    replace BB := tbt BB hb
    clear hb BD
    clear FP FQ FW
    cases K
    · have hSe : S = ⟨#[]⟩ := by rw [HS.out]; unfold pcB; rw [if_neg (by rw [← HK.out]; decide)]
      have hg : getP S = (⟨0, 0, ⟨#[]⟩, 0⟩, false) := by rw [hSe]; exact pc_none
      have hee : S.toList.isEmpty = true := by rw [hSe]; simp
      clear hSe
      have hc := impl_getPiece S w9 (by omega)
      rw [hg] at hc
      simp only [pcV] at hc
      go_wp2_with (go_at_call 21; refine hc.mono ?_; rintro e v1 ⟨rfl, hb⟩; refine Hid.out ?_)
      refine Lib.hid ?_
      replace KP := tkb hb LP KP
      replace LP := tlz LP hb.size
      replace KQ := tkb hb LQ KQ
      replace LQ := tlz LQ hb.size
      replace KW := tkb hb LW KW
      replace LW := tlz LW hb.size
      replace BB := tbt BB hb
      clear hc hb 
      obtain ⟨X4, hX4⟩ : ∃ z, z = v1.alloc (.cells #[.int .i64 0, .int .i64 0, .string ⟨#[]⟩, .int .i64 0] 25) := ⟨_, rfl⟩
      have hb : Below v1.heap.size v1 X4 := by rw [hX4]; exact (Below.refl _ _).alloc (Nat.le_refl _) _
      replace KP := tkb hb LP KP
      replace LP := tlz LP hb.size
      replace KQ := tkb hb LQ KQ
      replace LQ := tlz LQ hb.size
      replace KW := tkb hb LW KW
      replace LW := tlz LW hb.size
      replace BB := tbt BB hb
      have KB : Hid (X4.heap[v1.heap.size]? = some (.cells #[.int .i64 0, .int .i64 0, .string ⟨#[]⟩, .int .i64 0] 25 (0, 0))) := Lib.hid (by rw [hX4]; exact heap_new _ _)
      have LB : Hid (v1.heap.size < X4.heap.size) := Lib.hid (by rw [hX4]; simp)
      clear hb
      have hc := spec_pieceOk ⟨pn, po, pb, pc⟩ X4 HF.out.2.2.1
      simp only [pcV] at hc
      rw [← HK.out] at hc
      have fP0 := tcr KP 0
      have fP1 := tcr KP 1
      have fP2 := tcr KP 2
      have fP3 := tcr KP 3
      rw [hX4] at hc fP0 fP1 fP2 fP3
      go_wp2_with (go_at_call 25; refine hc.mono ?_; rintro e v2 ⟨rfl, hb⟩; refine Hid.out ?_)
      refine Lib.hid ?_
      rw [← hX4] at hb 
      clear hX4
      replace KP := tkb hb LP KP
      replace LP := tlz LP hb.size
      replace KQ := tkb hb LQ KQ
      replace LQ := tlz LQ hb.size
      replace KW := tkb hb LW KW
      replace LW := tlz LW hb.size
      replace KB := tkb hb LB KB
      replace LB := tlz LB hb.size
      replace BB := tbt BB hb
      clear hc hb fP0 fP1 fP2 fP3
      have fP0 := tcr KP 0
      have fP1 := tcr KP 1
      have fP2 := tcr KP 2
      have fP3 := tcr KP 3
      have fB0 := tcr KB 0
      have fB1 := tcr KB 1
      have fB2 := tcr KB 2
      have fB3 := tcr KB 3
      go_wp2_with fail
      go_ret
      exact ⟨rfl, BB.out⟩
    · have hg : getP S = (⟨pn, po, pb, pc⟩, true) := by rw [HS.out]; exact pc_back HK.out.symm
      have hSz2 : S.size = 15 + pb.size := by rw [HS.out]; exact pc_size HK.out.symm
      have hee : S.toList.isEmpty = false := by rw [ByteArray.toList_eq, List.isEmpty_eq_false_iff_exists_mem]; exact ⟨_, List.getElem_mem (n := 0) (by rw [Array.length_toList]; show 0 < S.size; omega)⟩
      clear hSz2
      have heql : ∀ w, (binOp .eql 25 (.agg #[.int .i64 pn, .int .i64 po, .string pb, .int .i64 pc]) (.agg #[.int .i64 pn, .int .i64 po, .string pb, .int .i64 pc])).run Try.prog w = .ok (.bool true) w := fun w => eql_pc _ _ _ _ w
      have hc := impl_getPiece S w9 (by omega)
      rw [hg] at hc
      simp only [pcV] at hc
      go_wp2_with (go_at_call 21; refine hc.mono ?_; rintro e v1 ⟨rfl, hb⟩; refine Hid.out ?_)
      refine Lib.hid ?_
      replace KP := tkb hb LP KP
      replace LP := tlz LP hb.size
      replace KQ := tkb hb LQ KQ
      replace LQ := tlz LQ hb.size
      replace KW := tkb hb LW KW
      replace LW := tlz LW hb.size
      replace BB := tbt BB hb
      clear hc hb 
      obtain ⟨X4, hX4⟩ : ∃ z, z = v1.alloc (.cells #[.int .i64 pn, .int .i64 po, .string pb, .int .i64 pc] 25) := ⟨_, rfl⟩
      have hb : Below v1.heap.size v1 X4 := by rw [hX4]; exact (Below.refl _ _).alloc (Nat.le_refl _) _
      replace KP := tkb hb LP KP
      replace LP := tlz LP hb.size
      replace KQ := tkb hb LQ KQ
      replace LQ := tlz LQ hb.size
      replace KW := tkb hb LW KW
      replace LW := tlz LW hb.size
      replace BB := tbt BB hb
      have KB : Hid (X4.heap[v1.heap.size]? = some (.cells #[.int .i64 pn, .int .i64 po, .string pb, .int .i64 pc] 25 (0, 0))) := Lib.hid (by rw [hX4]; exact heap_new _ _)
      have LB : Hid (v1.heap.size < X4.heap.size) := Lib.hid (by rw [hX4]; simp)
      clear hb
      have hc := spec_pieceOk ⟨pn, po, pb, pc⟩ X4 HF.out.2.2.1
      simp only [pcV] at hc
      rw [← HK.out] at hc
      have fP0 := tcr KP 0
      have fP1 := tcr KP 1
      have fP2 := tcr KP 2
      have fP3 := tcr KP 3
      rw [hX4] at hc fP0 fP1 fP2 fP3
      go_wp2_with (go_at_call 25; refine hc.mono ?_; rintro e v2 ⟨rfl, hb⟩; refine Hid.out ?_)
      refine Lib.hid ?_
      rw [← hX4] at hb 
      clear hX4
      replace KP := tkb hb LP KP
      replace LP := tlz LP hb.size
      replace KQ := tkb hb LQ KQ
      replace LQ := tlz LQ hb.size
      replace KW := tkb hb LW KW
      replace LW := tlz LW hb.size
      replace KB := tkb hb LB KB
      replace LB := tlz LB hb.size
      replace BB := tbt BB hb
      clear hc hb fP0 fP1 fP2 fP3
      have fP0 := tcr KP 0
      have fP1 := tcr KP 1
      have fP2 := tcr KP 2
      have fP3 := tcr KP 3
      have fB0 := tcr KB 0
      have fB1 := tcr KB 1
      have fB2 := tcr KB 2
      have fB3 := tcr KB 3
      go_wp2_with fail
      go_ret
      exact ⟨rfl, BB.out⟩
end Go.Proofs.Ytlklhmdpkicpnaa
