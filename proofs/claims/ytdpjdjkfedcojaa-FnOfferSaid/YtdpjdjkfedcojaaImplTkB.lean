/- What a Taker makes of a piece; the heap of codes. Condition: texts of a size that a text may have. -/
import Derived.Test.YtdpjdjkfedcojaaTkForms
import Derived.Test.YtdpjdjkfedcojaaSpecTkA
import Derived.Test.YtdpjdjkfedcojaaImplPc
import Derived.Test.YtdpjdjkfedcojaaImplHash
import Derived.Test.YtdpjdjkfedcojaaBaseA
import Derived.Test.YtdpjdjkfedcojaaHeapDown
namespace Go.Proofs.Ytdpjdjkfedcojaa
open Go.RowKit
set_option linter.unusedVariables false
set_option linter.unusedSimpArgs false

/-- Of another stream, or out of its chain. -/
def rejS (t : Tkr) (p : Pc) : Bool := (decide (0 < t.of) && !decide (t.of = p.of)) || (decide (p.no = t.nx) && !decide (p.ch = (linkN t.ch p.b : Nat)))
set_option maxRecDepth 100000 in
set_option maxHeartbeats 8000000 in
theorem impl_rejects (t : Tkr) (p : Pc) (w : World) (hf : FitTkr t) (hpb : p.b.size ≤ 1099511627776) :
    Calls Try.prog 40 #[tkrV t, pcV p] w fun e w' => e = .returned (.bool (rejS t p)) ∧ Below w.heap.size w w' := by
  obtain ⟨⟨o1, o2⟩, ⟨n1, n2⟩, ⟨c1, c2⟩, hb⟩ := hf
  have HR0 : Hid (rejS t p = ((decide (0 < t.of) && !decide (t.of = p.of)) || (decide (p.no = t.nx) && !decide (p.ch = (linkN t.ch p.b : Nat))))) := Lib.hid rfl
  obtain ⟨res, hres⟩ : ∃ r, r = rejS t p := ⟨_, rfl⟩
  rw [← hres] at HR0 ⊢
  clear hres
  obtain ⟨o, n, c, b⟩ := t
  obtain ⟨pn, po, pb, pch⟩ := p
  dsimp only at o1 o2 n1 n2 c1 c2 hb HR0 hpb
  have kl := fun w => impl_link c pb w ⟨c1, c2⟩ hpb
  obtain ⟨lk, hlk⟩ : ∃ z : Nat, z = linkN c pb := ⟨_, rfl⟩
  rw [← hlk] at kl HR0
  clear hlk
  unfold tkrV pcV
  dsimp only
  obtain ⟨X, hX⟩ : ∃ X, X = (w.alloc (.cells #[.int .i64 o, .int .i64 n, .int .i64 c, .string b] 25)).alloc (.cells #[.int .i64 pn, .int .i64 po, .string pb, .int .i64 pch] 58) := ⟨_, rfl⟩
  have BB : Hid (Below w.heap.size w X) := Lib.hid (by rw [hX]; exact ((Below.refl _ _).alloc (Nat.le_refl _) _).alloc (by simp) _)
  have hXs : X.heap.size = w.heap.size + 2 := by rw [hX]; simp
  have KT : Hid (X.heap[w.heap.size]? = some (.cells #[.int .i64 o, .int .i64 n, .int .i64 c, .string b] 25 (0, 0))) := Lib.hid (by rw [hX, Below.heap_alloc _ _ _ (by simp)]; exact heap_new _ _)
  have KP : Hid (X.heap[w.heap.size + 1]? = some (.cells #[.int .i64 pn, .int .i64 po, .string pb, .int .i64 pch] 58 (0, 0))) := Lib.hid (by rw [hX]; simpa using heap_new (w.alloc (.cells #[.int .i64 o, .int .i64 n, .int .i64 c, .string b] 25)) (.cells #[.int .i64 pn, .int .i64 po, .string pb, .int .i64 pch] 58))
  have LT : Hid (w.heap.size < X.heap.size) := Lib.hid (by omega)
  have LP : Hid (w.heap.size + 1 < X.heap.size) := Lib.hid (by omega)
  clear hXs
  by_cases h1 : 0 < o ∧ ¬ o = po
  · obtain ⟨h1, h2⟩ := h1
    have d1 : decide (0 < o) = true := decide_eq_true h1
    have d2 : (o != po) = true := by rw [bne_iff_ne]; exact h2
    have HR : Hid (true = res) := Lib.hid (by rw [HR0.out, decide_eq_true h1, decide_eq_false h2]; rfl)
    clear HR0 kl
    have f0 := tcr KT 0
    have f1 := tcr KT 1
    have f2 := tcr KT 2
    have f3 := tcr KT 3
    have p0 := tcr KP 0
    have p1 := tcr KP 1
    have p2 := tcr KP 2
    have p3 := tcr KP 3
    rw [hX] at f0 p0 f1 p1 f2 p2 f3 p3
    go_enter Try.func40, Try.ntmps40
    go_wp2_with fail
    rw [← hX]
    go_ret
    exact ⟨ret_bool HR.out, BB.out⟩
  by_cases h0 : 0 < o
  · have d1 : decide (0 < o) = true := decide_eq_true h0
    have h2 : o = po := Classical.byContradiction fun q => h1 ⟨h0, q⟩
    have d2 : (o != po) = false := by rw [h2]; simp
    have H1 : Hid ((decide (0 < o) && !decide (o = po)) = false) := Lib.hid (by rw [decide_eq_true h2]; simp)
    clear h1 h2
    by_cases h3 : pn = n
    · have e3 : (pn == n) = true := by rw [h3]; simp
      have HR : Hid ((pch != (lk : Int)) = res) := Lib.hid (by rw [HR0.out, H1.out, decide_eq_true h3]; simp only [Bool.false_or, Bool.true_and]; rw [Bool.eq_iff_iff]; simp)
      clear HR0 H1 h3
      have f0 := tcr KT 0
      have f1 := tcr KT 1
      have f2 := tcr KT 2
      have f3 := tcr KT 3
      have p0 := tcr KP 0
      have p1 := tcr KP 1
      have p2 := tcr KP 2
      have p3 := tcr KP 3
      rw [hX] at f0 p0 f1 p1 f2 p2 f3 p3
      go_enter Try.func40, Try.ntmps40
      go_wp2_with fail
      rw [← hX]
      clear hX f0 p0 f1 p1 f2 p2 f3 p3
      have FT : Hid (∀ w', Below X.heap.size X w' → w'.cell? ⟨w.heap.size, 0, none⟩ = some (.int .i64 o) ∧ w'.cell? ⟨w.heap.size, 1, none⟩ = some (.int .i64 n) ∧ w'.cell? ⟨w.heap.size, 2, none⟩ = some (.int .i64 c) ∧ w'.cell? ⟨w.heap.size, 3, none⟩ = some (.string b)) := Lib.hid (fun w' h => by have K := tkb h LT KT; exact ⟨tcr K 0, tcr K 1, tcr K 2, tcr K 3⟩)
      have FP : Hid (∀ w', Below X.heap.size X w' → w'.cell? ⟨w.heap.size + 1, 0, none⟩ = some (.int .i64 pn) ∧ w'.cell? ⟨w.heap.size + 1, 1, none⟩ = some (.int .i64 po) ∧ w'.cell? ⟨w.heap.size + 1, 2, none⟩ = some (.string pb) ∧ w'.cell? ⟨w.heap.size + 1, 3, none⟩ = some (.int .i64 pch)) := Lib.hid (fun w' h => by have K := tkb h LP KP; exact ⟨tcr K 0, tcr K 1, tcr K 2, tcr K 3⟩)
      refine wp_region_held_drew (S := (fun w' => Below X.heap.size X w')) (by kernel_rfl) (Below.refl _ _).drew (fun hHeld => ?_)
      obtain ⟨zD, hzD⟩ : ∃ zz, zz = X.drew := ⟨_, rfl⟩
      rw [← hzD] at hHeld ⊢
      clear hzD
      have BD := Lib.hid hHeld
      refine tk0 0 ?_
      refine tk 1 (v := ?_) ?_ ?_; rotate_left
      · refine Or.inl ⟨by rfl, ?_⟩; intro w hSw; obtain ⟨f0, f1, f2, f3⟩ := FP.out w hSw; go_simp; first | done | with_reducible rfl
      refine tk0 2 ?_
      refine tk 3 (v := ?_) ?_ ?_; rotate_left
      · refine Or.inl ⟨by rfl, ?_⟩; intro w hSw; obtain ⟨f0, f1, f2, f3⟩ := FT.out w hSw; go_simp; first | done | with_reducible rfl
      refine tk0 4 ?_
      refine tk0 5 ?_
      refine tk0 6 ?_
      refine tk 7 (v := ?_) ?_ ?_; rotate_left
      · refine Or.inl ⟨by rfl, ?_⟩; intro w hSw; obtain ⟨f0, f1, f2, f3⟩ := FP.out w hSw; go_simp; first | done | with_reducible rfl
      refine tk0 8 ?_
      refine tk 9 (v := ?_) ?_ ?_; rotate_left
      · refine Or.inl ⟨by rfl, ?_⟩; intro w hSw; obtain ⟨f0, f1, f2, f3⟩ := FT.out w hSw; go_simp; first | done | with_reducible rfl
      refine tk0 10 ?_
      refine tk 11 (v := ?_) ?_ ?_; rotate_left
      · refine Or.inl ⟨by rfl, ?_⟩; intro w hSw; obtain ⟨f0, f1, f2, f3⟩ := FP.out w hSw; go_simp; first | done | with_reducible rfl
      refine rd1 12 (fun K hK => ?_)
      go_simp
      have hc := kl zD
      go_at_call 76
      refine hc.mono ?_
      rintro e w2 ⟨rfl, hb2⟩
      replace BD := tbt BD hb2
      clear hc hb2 kl
      go_wp2_with fail
      refine hK.out _ _ BD.out (fun hHeld => ?_)
      clear hK K
      refine tk0 13 ?_
      refine tk0 14 ?_
      refine tk0 15 ?_
      refine wpAnyH_done (by kernel_rfl) ?_ _
      clear hHeld FT FP KT KP
      have BW := Lib.hid (BB.out.trans (BD.out.mono BB.out.size))
      go_wp2_with fail
      go_ret
      exact ⟨ret_bool HR.out, BW.out⟩
    · have e3 : (pn == n) = false := by rw [beq_eq_false_iff_ne]; exact h3
      have HR : Hid (false = res) := Lib.hid (by rw [HR0.out, H1.out, decide_eq_false h3]; rfl)
      clear HR0 H1 h3
      have f0 := tcr KT 0
      have f1 := tcr KT 1
      have f2 := tcr KT 2
      have f3 := tcr KT 3
      have p0 := tcr KP 0
      have p1 := tcr KP 1
      have p2 := tcr KP 2
      have p3 := tcr KP 3
      rw [hX] at f0 p0 f1 p1 f2 p2 f3 p3
      go_enter Try.func40, Try.ntmps40
      go_wp2_with fail
      rw [← hX]
      clear hX f0 p0 f1 p1 f2 p2 f3 p3
      have FT : Hid (∀ w', Below X.heap.size X w' → w'.cell? ⟨w.heap.size, 0, none⟩ = some (.int .i64 o) ∧ w'.cell? ⟨w.heap.size, 1, none⟩ = some (.int .i64 n) ∧ w'.cell? ⟨w.heap.size, 2, none⟩ = some (.int .i64 c) ∧ w'.cell? ⟨w.heap.size, 3, none⟩ = some (.string b)) := Lib.hid (fun w' h => by have K := tkb h LT KT; exact ⟨tcr K 0, tcr K 1, tcr K 2, tcr K 3⟩)
      have FP : Hid (∀ w', Below X.heap.size X w' → w'.cell? ⟨w.heap.size + 1, 0, none⟩ = some (.int .i64 pn) ∧ w'.cell? ⟨w.heap.size + 1, 1, none⟩ = some (.int .i64 po) ∧ w'.cell? ⟨w.heap.size + 1, 2, none⟩ = some (.string pb) ∧ w'.cell? ⟨w.heap.size + 1, 3, none⟩ = some (.int .i64 pch)) := Lib.hid (fun w' h => by have K := tkb h LP KP; exact ⟨tcr K 0, tcr K 1, tcr K 2, tcr K 3⟩)
      refine wp_region_held_drew (S := (fun w' => Below X.heap.size X w')) (by kernel_rfl) (Below.refl _ _).drew (fun hHeld => ?_)
      obtain ⟨zD, hzD⟩ : ∃ zz, zz = X.drew := ⟨_, rfl⟩
      rw [← hzD] at hHeld ⊢
      clear hzD
      have BD := Lib.hid hHeld
      refine tk0 0 ?_
      refine tk 1 (v := ?_) ?_ ?_; rotate_left
      · refine Or.inl ⟨by rfl, ?_⟩; intro w hSw; obtain ⟨f0, f1, f2, f3⟩ := FP.out w hSw; go_simp; first | done | with_reducible rfl
      refine tk0 2 ?_
      refine tk 3 (v := ?_) ?_ ?_; rotate_left
      · refine Or.inl ⟨by rfl, ?_⟩; intro w hSw; obtain ⟨f0, f1, f2, f3⟩ := FT.out w hSw; go_simp; first | done | with_reducible rfl
      refine tk0 4 ?_
      refine tk0 5 ?_
      refine tku 6 ?_
      refine tku 7 ?_
      refine tku 8 ?_
      refine tku 9 ?_
      refine tku 10 ?_
      refine tku 11 ?_
      refine tku 12 ?_
      refine tku 13 ?_
      refine tk0 14 ?_
      refine tk0 15 ?_
      refine wpAnyH_done (by kernel_rfl) ?_ _
      clear hHeld FT FP KT KP
      have BW := Lib.hid (BB.out.trans (BD.out.mono BB.out.size))
      go_wp2_with fail
      go_ret
      exact ⟨ret_bool HR.out, BW.out⟩
  · have d1 : decide (0 < o) = false := decide_eq_false h0
    have H1 : Hid ((decide (0 < o) && !decide (o = po)) = false) := Lib.hid (by rw [d1]; rfl)
    clear h1
    by_cases h3 : pn = n
    · have e3 : (pn == n) = true := by rw [h3]; simp
      have HR : Hid ((pch != (lk : Int)) = res) := Lib.hid (by rw [HR0.out, H1.out, decide_eq_true h3]; simp only [Bool.false_or, Bool.true_and]; rw [Bool.eq_iff_iff]; simp)
      clear HR0 H1 h3
      have f0 := tcr KT 0
      have f1 := tcr KT 1
      have f2 := tcr KT 2
      have f3 := tcr KT 3
      have p0 := tcr KP 0
      have p1 := tcr KP 1
      have p2 := tcr KP 2
      have p3 := tcr KP 3
      rw [hX] at f0 p0 f1 p1 f2 p2 f3 p3
      go_enter Try.func40, Try.ntmps40
      go_wp2_with fail
      rw [← hX]
      clear hX f0 p0 f1 p1 f2 p2 f3 p3
      have FT : Hid (∀ w', Below X.heap.size X w' → w'.cell? ⟨w.heap.size, 0, none⟩ = some (.int .i64 o) ∧ w'.cell? ⟨w.heap.size, 1, none⟩ = some (.int .i64 n) ∧ w'.cell? ⟨w.heap.size, 2, none⟩ = some (.int .i64 c) ∧ w'.cell? ⟨w.heap.size, 3, none⟩ = some (.string b)) := Lib.hid (fun w' h => by have K := tkb h LT KT; exact ⟨tcr K 0, tcr K 1, tcr K 2, tcr K 3⟩)
      have FP : Hid (∀ w', Below X.heap.size X w' → w'.cell? ⟨w.heap.size + 1, 0, none⟩ = some (.int .i64 pn) ∧ w'.cell? ⟨w.heap.size + 1, 1, none⟩ = some (.int .i64 po) ∧ w'.cell? ⟨w.heap.size + 1, 2, none⟩ = some (.string pb) ∧ w'.cell? ⟨w.heap.size + 1, 3, none⟩ = some (.int .i64 pch)) := Lib.hid (fun w' h => by have K := tkb h LP KP; exact ⟨tcr K 0, tcr K 1, tcr K 2, tcr K 3⟩)
      refine wp_region_held_drew (S := (fun w' => Below X.heap.size X w')) (by kernel_rfl) (Below.refl _ _).drew (fun hHeld => ?_)
      obtain ⟨zD, hzD⟩ : ∃ zz, zz = X.drew := ⟨_, rfl⟩
      rw [← hzD] at hHeld ⊢
      clear hzD
      have BD := Lib.hid hHeld
      refine tk0 0 ?_
      refine tk 1 (v := ?_) ?_ ?_; rotate_left
      · refine Or.inl ⟨by rfl, ?_⟩; intro w hSw; obtain ⟨f0, f1, f2, f3⟩ := FP.out w hSw; go_simp; first | done | with_reducible rfl
      refine tk0 2 ?_
      refine tk 3 (v := ?_) ?_ ?_; rotate_left
      · refine Or.inl ⟨by rfl, ?_⟩; intro w hSw; obtain ⟨f0, f1, f2, f3⟩ := FT.out w hSw; go_simp; first | done | with_reducible rfl
      refine tk0 4 ?_
      refine tk0 5 ?_
      refine tk0 6 ?_
      refine tk 7 (v := ?_) ?_ ?_; rotate_left
      · refine Or.inl ⟨by rfl, ?_⟩; intro w hSw; obtain ⟨f0, f1, f2, f3⟩ := FP.out w hSw; go_simp; first | done | with_reducible rfl
      refine tk0 8 ?_
      refine tk 9 (v := ?_) ?_ ?_; rotate_left
      · refine Or.inl ⟨by rfl, ?_⟩; intro w hSw; obtain ⟨f0, f1, f2, f3⟩ := FT.out w hSw; go_simp; first | done | with_reducible rfl
      refine tk0 10 ?_
      refine tk 11 (v := ?_) ?_ ?_; rotate_left
      · refine Or.inl ⟨by rfl, ?_⟩; intro w hSw; obtain ⟨f0, f1, f2, f3⟩ := FP.out w hSw; go_simp; first | done | with_reducible rfl
      refine rd1 12 (fun K hK => ?_)
      go_simp
      have hc := kl zD
      go_at_call 76
      refine hc.mono ?_
      rintro e w2 ⟨rfl, hb2⟩
      replace BD := tbt BD hb2
      clear hc hb2 kl
      go_wp2_with fail
      refine hK.out _ _ BD.out (fun hHeld => ?_)
      clear hK K
      refine tk0 13 ?_
      refine tk0 14 ?_
      refine tk0 15 ?_
      refine wpAnyH_done (by kernel_rfl) ?_ _
      clear hHeld FT FP KT KP
      have BW := Lib.hid (BB.out.trans (BD.out.mono BB.out.size))
      go_wp2_with fail
      go_ret
      exact ⟨ret_bool HR.out, BW.out⟩
    · have e3 : (pn == n) = false := by rw [beq_eq_false_iff_ne]; exact h3
      have HR : Hid (false = res) := Lib.hid (by rw [HR0.out, H1.out, decide_eq_false h3]; rfl)
      clear HR0 H1 h3
      have f0 := tcr KT 0
      have f1 := tcr KT 1
      have f2 := tcr KT 2
      have f3 := tcr KT 3
      have p0 := tcr KP 0
      have p1 := tcr KP 1
      have p2 := tcr KP 2
      have p3 := tcr KP 3
      rw [hX] at f0 p0 f1 p1 f2 p2 f3 p3
      go_enter Try.func40, Try.ntmps40
      go_wp2_with fail
      rw [← hX]
      clear hX f0 p0 f1 p1 f2 p2 f3 p3
      have FT : Hid (∀ w', Below X.heap.size X w' → w'.cell? ⟨w.heap.size, 0, none⟩ = some (.int .i64 o) ∧ w'.cell? ⟨w.heap.size, 1, none⟩ = some (.int .i64 n) ∧ w'.cell? ⟨w.heap.size, 2, none⟩ = some (.int .i64 c) ∧ w'.cell? ⟨w.heap.size, 3, none⟩ = some (.string b)) := Lib.hid (fun w' h => by have K := tkb h LT KT; exact ⟨tcr K 0, tcr K 1, tcr K 2, tcr K 3⟩)
      have FP : Hid (∀ w', Below X.heap.size X w' → w'.cell? ⟨w.heap.size + 1, 0, none⟩ = some (.int .i64 pn) ∧ w'.cell? ⟨w.heap.size + 1, 1, none⟩ = some (.int .i64 po) ∧ w'.cell? ⟨w.heap.size + 1, 2, none⟩ = some (.string pb) ∧ w'.cell? ⟨w.heap.size + 1, 3, none⟩ = some (.int .i64 pch)) := Lib.hid (fun w' h => by have K := tkb h LP KP; exact ⟨tcr K 0, tcr K 1, tcr K 2, tcr K 3⟩)
      refine wp_region_held_drew (S := (fun w' => Below X.heap.size X w')) (by kernel_rfl) (Below.refl _ _).drew (fun hHeld => ?_)
      obtain ⟨zD, hzD⟩ : ∃ zz, zz = X.drew := ⟨_, rfl⟩
      rw [← hzD] at hHeld ⊢
      clear hzD
      have BD := Lib.hid hHeld
      refine tk0 0 ?_
      refine tk 1 (v := ?_) ?_ ?_; rotate_left
      · refine Or.inl ⟨by rfl, ?_⟩; intro w hSw; obtain ⟨f0, f1, f2, f3⟩ := FP.out w hSw; go_simp; first | done | with_reducible rfl
      refine tk0 2 ?_
      refine tk 3 (v := ?_) ?_ ?_; rotate_left
      · refine Or.inl ⟨by rfl, ?_⟩; intro w hSw; obtain ⟨f0, f1, f2, f3⟩ := FT.out w hSw; go_simp; first | done | with_reducible rfl
      refine tk0 4 ?_
      refine tk0 5 ?_
      refine tku 6 ?_
      refine tku 7 ?_
      refine tku 8 ?_
      refine tku 9 ?_
      refine tku 10 ?_
      refine tku 11 ?_
      refine tku 12 ?_
      refine tku 13 ?_
      refine tk0 14 ?_
      refine tk0 15 ?_
      refine wpAnyH_done (by kernel_rfl) ?_ _
      clear hHeld FT FP KT KP
      have BW := Lib.hid (BB.out.trans (BD.out.mono BB.out.size))
      go_wp2_with fail
      go_ret
      exact ⟨ret_bool HR.out, BW.out⟩
set_option maxRecDepth 100000 in
set_option maxHeartbeats 4000000 in
theorem impl_with (t : Tkr) (p : Pc) (w : World) (hf : FitTkr t) (hn : t.nx ≤ 601) (hb8 : t.b.size ≤ 1099511627776) (hpb : p.b.size ≤ 1099511627776) :
    Calls Try.prog 42 #[tkrV t, pcV p] w fun e w' => e = .returned (tkrV ⟨p.of, t.nx + 1, p.ch, t.b ++ p.b⟩) ∧ Below w.heap.size w w' := by
  obtain ⟨⟨o1, o2⟩, ⟨n1, n2⟩, ⟨c1, c2⟩, hb⟩ := hf
  obtain ⟨o, n, c, b⟩ := t
  obtain ⟨pn, po, pb, pch⟩ := p
  dsimp only at o1 o2 n1 n2 c1 c2 hb hpb hn hb8 ⊢
  have hw : IntKind.i64.wrap (n + 1) = n + 1 := by rw [IntKind.wrap_i64]; omega
  have ns : ¬ 9223372036854775807 < b.size + pb.size := by omega
  unfold tkrV pcV
  dsimp only
  go_enter Try.func42, Try.ntmps42
  go_wp2_with fail
  have bb : Below w.heap.size w (((w.alloc (.cells #[.int .i64 o, .int .i64 n, .int .i64 c, .string b] 25)).alloc (.cells #[.int .i64 pn, .int .i64 po, .string pb, .int .i64 pch] 58)).alloc (.cells #[.int .i64 po, .int .i64 (n + 1), .int .i64 pch, .string (b ++ pb)] 25)) := (((Below.refl _ _).alloc (Nat.le_refl _) _).alloc (by simp) _).alloc (by simp; omega) _
  have hk : ((((w.alloc (.cells #[.int .i64 o, .int .i64 n, .int .i64 c, .string b] 25)).alloc (.cells #[.int .i64 pn, .int .i64 po, .string pb, .int .i64 pch] 58)).alloc (.cells #[.int .i64 po, .int .i64 (n + 1), .int .i64 pch, .string (b ++ pb)] 25)).heap[w.heap.size + 1 + 1]? = some (.cells #[.int .i64 po, .int .i64 (n + 1), .int .i64 pch, .string (b ++ pb)] 25 (0, 0))) := by simpa using heap_new ((w.alloc (.cells #[.int .i64 o, .int .i64 n, .int .i64 c, .string b] 25)).alloc (.cells #[.int .i64 pn, .int .i64 po, .string pb, .int .i64 pch] 58)) (.cells #[.int .i64 po, .int .i64 (n + 1), .int .i64 pch, .string (b ++ pb)] 25)
  obtain ⟨j0, q1, q2, q3, q4⟩ := info_parts infoTkr
  refine bodyPost_ret (results_cell_row (P := Try.prog) rfl _ _ (w.heap.size + 1 + 1) _ _ (0, 0) _ rfl hk Try.underlying25 rfl (by rw [q1]; simp [q3])) rfl ⟨rfl, bb⟩
/-- A heap of codes with at most n codes, the greatest of which is T. -/
def HpT (w : World) (B h n : Nat) (T : Int) : Prop := ∃ g cap zs, Hp w B h g cap zs ∧ zs.length ≤ n ∧ 0 < zs.length ∧ Top zs T
def Hp0 (w : World) (B h : Nat) : Prop := ∃ g cap, Hp w B h g cap []
theorem HpT.later {w w' : World} {B h n : Nat} {T : Int} (hp : HpT w B h n T) (hb : Below w.heap.size w w') : HpT w' B h n T := by
  obtain ⟨g, cap, zs, h1, h2⟩ := hp
  exact ⟨g, cap, zs, h1.later hb, h2⟩
/-- What the greatest code becomes. -/
def mxN (a : Bool) (x T : Int) : Int := if a = true ∧ T < x then x else T
set_option maxRecDepth 100000 in
set_option maxHeartbeats 4000000 in
theorem impl_note0 (x : Int) (B h : Nat) (w : World) (hp : Hp0 w B h) (hB : B ≤ w.heap.size) :
    Calls Try.prog 39 #[.pointer (some ⟨h, 0, none⟩), .int .i64 x, .bool true] w fun e w' => e = .returned (.tuple #[]) ∧ HpT w' B h 1 x ∧ Below B w w' := by
  obtain ⟨g, cap, hp⟩ := hp
  have hc := heap_push [] x 0 B h g cap w hp (by simp) hB (.inl rfl)
  clear hp
  go_enter Try.func39, Try.ntmps39
  go_wp2_with (go_at_call 75; refine hc.mono ?_; rintro e w1 ⟨rfl, ⟨g1, c1, zs1, q1, q2, q3⟩, hb1⟩; refine Hid.out ?_)
  refine Lib.hid ?_
  clear hc
  have Q : HpT w1 B h 1 x := ⟨g1, c1, zs1, q1, by simp at q2; omega, by simp at q2; omega, by simpa using q3⟩
  clear q1 q2 q3
  go_wp2_with fail
  go_end0
  exact ⟨rfl, Q, hb1⟩
set_option maxRecDepth 100000 in
set_option maxHeartbeats 4000000 in
theorem impl_note (x T : Int) (a : Bool) (B h n : Nat) (w : World) (hp : HpT w B h n T) (hn : n ≤ 39) (hB : B ≤ w.heap.size) :
    Calls Try.prog 39 #[.pointer (some ⟨h, 0, none⟩), .int .i64 x, .bool a] w fun e w' => e = .returned (.tuple #[]) ∧ HpT w' B h (n + 1) (mxN a x T) ∧ Below B w w' := by
  obtain ⟨g, cap, zs, hp, hl, h0, ht⟩ := hp
  cases a
  · have Q : HpT w B h (n + 1) (mxN false x T) := ⟨g, cap, zs, hp, by omega, h0, by unfold mxN; rw [if_neg (fun h => by cases h.1)]; exact ht⟩
    clear hp hl h0 ht
    go_enter Try.func39, Try.ntmps39
    go_wp2_with fail
    go_end0
    exact ⟨rfl, Q, Below.refl _ _⟩
  · have hc := heap_push zs x T B h g cap w hp (by omega) hB (.inr ht)
    have HZ : zs ≠ [] := List.length_pos_iff.1 h0
    have HM : Hid ((if zs = [] then x else if T < x then x else T) = mxN true x T) := Lib.hid (by unfold mxN; rw [if_neg HZ]; simp)
    rw [HM.out] at hc
    have HL := Lib.hid hl
    clear hp hl h0 ht HZ HM
    go_enter Try.func39, Try.ntmps39
    go_wp2_with (go_at_call 75; refine hc.mono ?_; rintro e w1 ⟨rfl, ⟨g1, c1, zs1, q1, q2, q3⟩, hb1⟩; refine Hid.out ?_)
    refine Lib.hid ?_
    clear hc
    have Q : HpT w1 B h (n + 1) (mxN true x T) := ⟨g1, c1, zs1, q1, by have := HL.out; omega, by omega, q3⟩
    clear q1 q2 q3
    go_wp2_with fail
    go_end0
    exact ⟨rfl, Q, hb1⟩
set_option maxRecDepth 100000 in
set_option maxHeartbeats 4000000 in
theorem impl_take (T : Int) (B h n : Nat) (w : World) (hp : HpT w B h n T) (hn : n ≤ 39) (hB : B ≤ w.heap.size) :
    Calls Try.prog 41 #[.pointer (some ⟨h, 0, none⟩)] w fun e w' => e = .returned (.int .i64 T) ∧ Below B w w' := by
  obtain ⟨g, cap, zs, hp, hl, h0, ht⟩ := hp
  have hc := heap_pop zs T B h g cap w hp (by omega) hB h0 ht.1
  have hta := fun w => ta_cd (.int .i64 T) w
  clear hp ht h0 hl
  go_enter Try.func41, Try.ntmps41
  go_wp2_with (go_at_call 77; refine hc.mono ?_; rintro e w1 ⟨rfl, hb1⟩; refine Hid.out ?_)
  refine Lib.hid ?_
  clear hc
  go_wp2_with fail
  go_ret
  exact ⟨rfl, hb1⟩
end Go.Proofs.Ytdpjdjkfedcojaa
