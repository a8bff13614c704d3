/- What the proofs of this seat have in common: plain facts, rows in memory, the laws' own helpers, the small functions' contracts. Condition: none. -/
import Derived.Test.YtdpjdjkfedcojaaGreatTkForms
import Derived.Test.YtdpjdjkfedcojaaGreatSpecTkA
import Derived.Test.YtdpjdjkfedcojaaGreatImplPc
import Derived.Test.YtdpjdjkfedcojaaGreatImplHash
import Derived.Test.YtdpjdjkfedcojaaGreatBaseA
import Derived.Test.YtdpjdjkfedcojaaGreatHpA
import Derived.Test.YtdpjdjkfedcojaaGreatSpecTk
import Derived.Test.YtdpjdjkfedcojaaGreatImplGet
namespace Go.Proofs.YtdpjdjkfedcojaaGreat
open Go.RowKit
set_option linter.unusedVariables false
set_option linter.unusedSimpArgs false

theorem impl_first8 (w : World) : Calls Tryz.prog 29 #[] w fun e w' => e = .returned (.int .i64 (hashN [] : Nat)) ∧ w = w' := by
  have hc := fun w => impl_hash ⟨#[]⟩ w (by unfold maxLen; exact Nat.zero_le _)
  obtain ⟨h0, hh⟩ : ∃ z, z = hashN [] := ⟨_, rfl⟩
  change ∀ w, Calls Tryz.prog 65 #[.string ⟨#[]⟩] w fun e w' => e = .returned (.int .i64 ((hashN [] : Nat) : Int)) ∧ w = w' at hc
  rw [← hh] at hc ⊢
  clear hh
  go_enter Tryz.func29, Tryz.ntmps29
  go_wp2_with (go_at_call 65; refine (hc _).mono ?_; rintro e w1 ⟨rfl, rfl⟩)
  go_ret
  exact ⟨rfl, rfl⟩
set_option maxRecDepth 100000 in
set_option maxHeartbeats 4000000 in
theorem impl_begin (c : Int) (w : World) : Calls Tryz.prog 9 #[.int .i64 c] w fun e w' => e = .returned (tkrV tkN) ∧ Below w.heap.size w w' := by
  have kh := fun w => impl_first8 w
  have HRES : Hid (tkrV tkN = .agg #[.int .i64 0, .int .i64 1, .int .i64 (hashN [] : Nat), .string ⟨#[]⟩]) := Lib.hid rfl
  obtain ⟨H, hH⟩ : ∃ z : Nat, z = hashN [] := ⟨_, rfl⟩
  rw [← hH] at kh HRES
  clear hH
  go_enter Tryz.func9, Tryz.ntmps9
  go_wp2_with (go_at_call 29; refine (kh _).mono ?_; rintro e w1 ⟨rfl, rfl⟩)
  obtain ⟨j0, q1, q2, q3, q4⟩ := info_parts infoTkr
  refine bodyPost_ret (results_cell_row (P := Tryz.prog) rfl _ _ w.heap.size _ _ (0, 0) _ rfl (heap_new _ _) Tryz.underlying34 rfl (by rw [q1]; simp [q3])) rfl ⟨by rw [HRES.out], (Below.refl _ _).alloc (Nat.le_refl _) _⟩
/-- A Taker that isn't the new one: what the program asks of it. -/
theorem tkr_bad {t : Tkr} (hne : tkrEq t tkN = false) (h : t.nx < 2 ∨ t.of + 1 < t.nx ∨ 600 < t.of ∨ inB t.ch 0 4294967295 = false ∨ (t.b.size : Int) < t.nx - 1 ∨ (t.nx - 1) * 200 < t.b.size) : tkrOk t = false := by
  rw [Bool.eq_false_iff]
  intro hq
  by_cases h0 : t.of = 0
  · have := tkr_new hq h0
    rw [this, tkrEq_refl] at hne
    cases hne
  · obtain ⟨⟨a1, a2⟩, ⟨b1, b2⟩, ⟨c1, c2⟩, d1, d2⟩ := tkr_in hq h0
    rcases h with h | h | h | h | h | h
    · omega
    · omega
    · omega
    · unfold inB at h; simp at h; omega
    · omega
    · omega
theorem tkr_right {t : Tkr} (h1 : ¬ t.nx < 2) (h2 : ¬ t.of + 1 < t.nx) (h3 : ¬ 600 < t.of) (h4 : inB t.ch 0 4294967295 = true) (h5 : ¬ (t.b.size : Int) < t.nx - 1) (h6 : ¬ (t.nx - 1) * 200 < t.b.size) : tkrOk t = true := by
  obtain ⟨o, n, c, b⟩ := t
  exact tkr_mk (by dsimp only at *; omega) (by dsimp only at *; omega) (inB_true h4) (by dsimp only at *; omega)
set_option maxRecDepth 100000 in
set_option maxHeartbeats 8000000 in
theorem impl_takerOk (t : Tkr) (w : World) (hf : FitTkr t) :
    Calls Tryz.prog 11 #[tkrV t] w fun e w' => e = .returned (.bool (tkrOk t)) ∧ Below w.heap.size w w' := by
  obtain ⟨⟨o1, o2⟩, ⟨n1, n2⟩, ⟨c1, c2⟩, hb⟩ := hf
  have HBD := Lib.hid (@tkr_bad t)
  have HRT := Lib.hid (@tkr_right t)
  have HEQ : Hid (tkrEq t tkN = true → tkrOk t = true) := Lib.hid (fun h => by rw [tkrEq_iff.1 h]; exact tkr_new_ok)
  obtain ⟨o, n, c, b⟩ := t
  dsimp only at o1 o2 n1 n2 c1 c2 hb HBD HRT
  unfold maxLen at hb
  have he := fun w => eql_tk ⟨o, n, c, b⟩ tkN w
  have kb := fun w => impl_begin 0 w
  have hch := fun w => impl_chainOk c w
  obtain ⟨r, hr⟩ : ∃ r, r = tkrEq ⟨o, n, c, b⟩ tkN := ⟨_, rfl⟩
  rw [← hr] at he HEQ HBD
  clear hr
  obtain ⟨res, hres⟩ : ∃ r, r = tkrOk ⟨o, n, c, b⟩ := ⟨_, rfl⟩
  rw [← hres] at HEQ HBD HRT ⊢
  clear hres
  unfold tkrV at he kb ⊢
  unfold tkN at he kb
  dsimp only at he kb ⊢
  obtain ⟨H, hH⟩ : ∃ z : Int, z = (hashN [] : Nat) := ⟨_, rfl⟩
  rw [← hH] at he kb
  clear hH
  obtain ⟨X, hX⟩ : ∃ X, X = w.alloc (.cells #[.int .i64 o, .int .i64 n, .int .i64 c, .string b] 34) := ⟨_, rfl⟩
  have KX : Hid (X.heap[w.heap.size]? = some (.cells #[.int .i64 o, .int .i64 n, .int .i64 c, .string b] 34 (0, 0))) := Lib.hid (by rw [hX]; exact heap_new _ _)
  have LX : Hid (w.heap.size < X.heap.size) := Lib.hid (by rw [hX]; simp)
  have BB : Hid (Below w.heap.size w X) := Lib.hid (by rw [hX]; exact (Below.refl _ _).alloc (Nat.le_refl _) _)
  go_enter Tryz.func11, Tryz.ntmps11
  go_wp2_with fail
  rw [← hX]
  clear hX
  have FX : Hid (∀ w', Below X.heap.size X w' → w'.cell? ⟨w.heap.size, 0, none⟩ = some (.int .i64 o) ∧ w'.cell? ⟨w.heap.size, 1, none⟩ = some (.int .i64 n) ∧ w'.cell? ⟨w.heap.size, 2, none⟩ = some (.int .i64 c) ∧ w'.cell? ⟨w.heap.size, 3, none⟩ = some (.string b)) := Lib.hid (fun w' h => by have K := tkb h LX KX; exact ⟨tcr K 0, tcr K 1, tcr K 2, tcr K 3⟩)
  refine wp_region_held_drew (S := (fun w' => Below X.heap.size X w')) (by kernel_rfl) (Below.refl _ _).drew (fun hHeld => ?_)
  obtain ⟨zD, hzD⟩ : ∃ zz, zz = X.drew := ⟨_, rfl⟩
  rw [← hzD] at hHeld ⊢
  clear hzD
  have BD := Lib.hid hHeld
  refine tk 0 (v := ?_) ?_ ?_; rotate_left
  · refine Or.inl ⟨by rfl, ?_⟩; intro w hSw; obtain ⟨f0, f1, f2, f3⟩ := FX.out w hSw; go_simp; first | done | with_reducible rfl
  refine rd1 1 (fun K hK => ?_)
  go_simp
  have hc := kb zD
  go_at_call 9
  refine hc.mono ?_
  rintro e w2 ⟨rfl, hb2⟩
  replace BD := tbt BD hb2
  clear hc hb2 kb
  go_wp2_with fail
  refine hK.out _ _ BD.out (fun hHeld => ?_)
  clear hK K
  refine tk0 2 ?_
  refine wpAnyH_done (by kernel_rfl) ?_ _
  clear hHeld he
  have BW := Lib.hid (BB.out.trans (BD.out.mono BB.out.size))
  obtain ⟨f0, f1, f2, f3⟩ := FX.out _ BD.out
  clear FX BD BB KX LX
  cases r
  · skip
    by_cases h1 : n < 2
    · skip
      have HR := Lib.hid (HBD.out rfl (Or.inl h1))
      clear HBD HRT HEQ
      go_wp2_with fail
      go_ret
      exact ⟨ret_bool HR.out.symm, BW.out⟩
    have d1 : decide (n < 2) = false := decide_eq_false h1
    have hov : o = 9223372036854775807 ∨ IntKind.i64.wrap (o + 1) = o + 1 := by rw [IntKind.wrap_i64]; omega
    by_cases h3 : 600 < o
    · have d3 : decide (600 < o) = true := decide_eq_true h3
      have HR := Lib.hid (HBD.out rfl (Or.inr (Or.inr (Or.inl h3))))
      clear HBD HRT HEQ hov
      obtain ⟨ov, hwo⟩ : ∃ ov, IntKind.i64.wrap (o + 1) = ov := ⟨_, rfl⟩
      by_cases h2 : ov < n
      · have d2 := decide_eq_true h2
        go_wp2_with fail
        go_ret
        exact ⟨ret_bool HR.out.symm, BW.out⟩
      · have d2 := decide_eq_false h2
        go_wp2_with fail
        go_ret
        exact ⟨ret_bool HR.out.symm, BW.out⟩
    have d3 : decide (600 < o) = false := decide_eq_false h3
    have hwo : IntKind.i64.wrap (o + 1) = o + 1 := by rcases hov with h | h; omega; exact h
    clear hov
    by_cases h2 : o + 1 < n
    · have d2 : decide (o + 1 < n) = true := decide_eq_true h2
      have HR := Lib.hid (HBD.out rfl (Or.inr (Or.inl h2)))
      clear HBD HRT HEQ
      go_wp2_with fail
      go_ret
      exact ⟨ret_bool HR.out.symm, BW.out⟩
    have d2 : decide (o + 1 < n) = false := decide_eq_false h2
    cases h4 : inB c 0 4294967295
    · rw [h4] at hch
      have HR := Lib.hid (HBD.out rfl (Or.inr (Or.inr (Or.inr (Or.inl h4)))))
      clear HBD HRT HEQ
      go_wp2_with (go_at_call 31; refine (hch _).mono ?_; rintro e w' ⟨rfl, rfl⟩)
      go_ret
      exact ⟨ret_bool HR.out.symm, BW.out⟩
    rw [h4] at hch
    have hw1 : IntKind.i64.wrap (n - 1) = n - 1 := by rw [IntKind.wrap_i64]; omega
    have hw2 : IntKind.i64.wrap ((n - 1) * 200) = (n - 1) * 200 := by rw [IntKind.wrap_i64]; omega
    by_cases h5 : (b.size : Int) < n - 1
    · have d5 : ¬ n - 1 ≤ (b.size : Int) := by omega
      have HR := Lib.hid (HBD.out rfl (Or.inr (Or.inr (Or.inr (Or.inr (Or.inl h5))))))
      clear HBD HRT HEQ
      go_wp2_with (go_at_call 31; refine (hch _).mono ?_; rintro e w' ⟨rfl, rfl⟩)
      go_ret
      exact ⟨ret_bool HR.out.symm, BW.out⟩
    have d5 : n - 1 ≤ (b.size : Int) := by omega
    by_cases h6 : (n - 1) * 200 < (b.size : Int)
    · have d6 : ¬ (b.size : Int) ≤ (n - 1) * 200 := by omega
      have HR := Lib.hid (HBD.out rfl (Or.inr (Or.inr (Or.inr (Or.inr (Or.inr h6))))))
      clear HBD HRT HEQ
      go_wp2_with (go_at_call 31; refine (hch _).mono ?_; rintro e w' ⟨rfl, rfl⟩)
      go_ret
      exact ⟨ret_bool ((decide_eq_false (by omega)).trans HR.out.symm), BW.out⟩
    have d6 : (b.size : Int) ≤ (n - 1) * 200 := by omega
    have HR := Lib.hid (HRT.out (by omega) (by omega) (by omega) h4 (by omega) (by omega))
    clear HBD HRT HEQ
    go_wp2_with (go_at_call 31; refine (hch _).mono ?_; rintro e w' ⟨rfl, rfl⟩)
    go_ret
    exact ⟨ret_bool HR.out.symm, BW.out⟩
  · have HR := Lib.hid (HEQ.out rfl)
    clear HBD HRT HEQ
    go_wp2_with fail
    go_ret
    exact ⟨ret_bool HR.out.symm, BW.out⟩
end Go.Proofs.YtdpjdjkfedcojaaGreat

namespace Go.Proofs.YtdpjdjkfedcojaaGreat
open Go.RowKit
set_option linter.unusedVariables false
set_option linter.unusedSimpArgs false

/-- Of another stream, or out of its chain. -/
def rejS (t : Tkr) (p : Pc) : Bool := (decide (0 < t.of) && !decide (t.of = p.of)) || (decide (p.no = t.nx) && !decide (p.ch = (linkN t.ch p.b : Nat)))
set_option maxRecDepth 100000 in
set_option maxHeartbeats 8000000 in
theorem impl_rejects (t : Tkr) (p : Pc) (w : World) (hf : FitTkr t) (hpb : p.b.size ≤ 1099511627776) :
    Calls Tryz.prog 39 #[tkrV t, pcV p] w fun e w' => e = .returned (.bool (rejS t p)) ∧ Below w.heap.size w w' := by
  obtain ⟨⟨o1, o2⟩, ⟨n1, n2⟩, ⟨c1, c2⟩, hb⟩ := hf
  have HR0 : Hid (rejS t p = ((decide (0 < t.of) && !decide (t.of = p.of)) || (decide (p.no = t.nx) && !decide (p.ch = (linkN t.ch p.b : Nat))))) := Lib.hid rfl
  obtain ⟨res, hres⟩ : ∃ r, r = rejS t p := ⟨_, rfl⟩
  rw [← hres] at HR0 ⊢
  clear hres
  obtain ⟨o, n, c, b⟩ := t
  obtain ⟨pn, po, pb, pch⟩ := p
  dsimp only at o1 o2 n1 n2 c1 c2 hb HR0 hpb
  have kl := fun w => impl_link c pb w ⟨c1, c2⟩ hpb
  obtain ⟨lk, hlk⟩ : ∃ z : Nat, z = linkN c pb := ⟨_, rfl⟩
  rw [← hlk] at kl HR0
  clear hlk
  unfold tkrV pcV
  dsimp only
  obtain ⟨X, hX⟩ : ∃ X, X = (w.alloc (.cells #[.int .i64 o, .int .i64 n, .int .i64 c, .string b] 34)).alloc (.cells #[.int .i64 pn, .int .i64 po, .string pb, .int .i64 pch] 67) := ⟨_, rfl⟩
  have BB : Hid (Below w.heap.size w X) := Lib.hid (by rw [hX]; exact ((Below.refl _ _).alloc (Nat.le_refl _) _).alloc (by simp) _)
  have hXs : X.heap.size = w.heap.size + 2 := by rw [hX]; simp
  have KT : Hid (X.heap[w.heap.size]? = some (.cells #[.int .i64 o, .int .i64 n, .int .i64 c, .string b] 34 (0, 0))) := Lib.hid (by rw [hX, Below.heap_alloc _ _ _ (by simp)]; exact heap_new _ _)
  have KP : Hid (X.heap[w.heap.size + 1]? = some (.cells #[.int .i64 pn, .int .i64 po, .string pb, .int .i64 pch] 67 (0, 0))) := Lib.hid (by rw [hX]; simpa using heap_new (w.alloc (.cells #[.int .i64 o, .int .i64 n, .int .i64 c, .string b] 34)) (.cells #[.int .i64 pn, .int .i64 po, .string pb, .int .i64 pch] 67))
  have LT : Hid (w.heap.size < X.heap.size) := Lib.hid (by omega)
  have LP : Hid (w.heap.size + 1 < X.heap.size) := Lib.hid (by omega)
  clear hXs
  by_cases h1 : 0 < o ∧ ¬ o = po
  · obtain ⟨h1, h2⟩ := h1
    have d1 : decide (0 < o) = true := decide_eq_true h1
    have d2 : (o != po) = true := by rw [bne_iff_ne]; exact h2
    have HR : Hid (true = res) := Lib.hid (by rw [HR0.out, decide_eq_true h1, decide_eq_false h2]; rfl)
    clear HR0 kl
    have f0 := tcr KT 0
    have f1 := tcr KT 1
    have f2 := tcr KT 2
    have f3 := tcr KT 3
    have p0 := tcr KP 0
    have p1 := tcr KP 1
    have p2 := tcr KP 2
    have p3 := tcr KP 3
    rw [hX] at f0 p0 f1 p1 f2 p2 f3 p3
    go_enter Tryz.func39, Tryz.ntmps39
    go_wp2_with fail
    rw [← hX]
    go_ret
    exact ⟨ret_bool HR.out, BB.out⟩
  by_cases h0 : 0 < o
  · have d1 : decide (0 < o) = true := decide_eq_true h0
    have h2 : o = po := Classical.byContradiction fun q => h1 ⟨h0, q⟩
    have d2 : (o != po) = false := by rw [h2]; simp
    have H1 : Hid ((decide (0 < o) && !decide (o = po)) = false) := Lib.hid (by rw [decide_eq_true h2]; simp)
    clear h1 h2
    by_cases h3 : pn = n
    · have e3 : (pn == n) = true := by rw [h3]; simp
      have HR : Hid ((pch != (lk : Int)) = res) := Lib.hid (by rw [HR0.out, H1.out, decide_eq_true h3]; simp only [Bool.false_or, Bool.true_and]; rw [Bool.eq_iff_iff]; simp)
      clear HR0 H1 h3
      have f0 := tcr KT 0
      have f1 := tcr KT 1
      have f2 := tcr KT 2
      have f3 := tcr KT 3
      have p0 := tcr KP 0
      have p1 := tcr KP 1
      have p2 := tcr KP 2
      have p3 := tcr KP 3
      rw [hX] at f0 p0 f1 p1 f2 p2 f3 p3
      go_enter Tryz.func39, Tryz.ntmps39
      go_wp2_with fail
      rw [← hX]
      clear hX f0 p0 f1 p1 f2 p2 f3 p3
      have FT : Hid (∀ w', Below X.heap.size X w' → w'.cell? ⟨w.heap.size, 0, none⟩ = some (.int .i64 o) ∧ w'.cell? ⟨w.heap.size, 1, none⟩ = some (.int .i64 n) ∧ w'.cell? ⟨w.heap.size, 2, none⟩ = some (.int .i64 c) ∧ w'.cell? ⟨w.heap.size, 3, none⟩ = some (.string b)) := Lib.hid (fun w' h => by have K := tkb h LT KT; exact ⟨tcr K 0, tcr K 1, tcr K 2, tcr K 3⟩)
      have FP : Hid (∀ w', Below X.heap.size X w' → w'.cell? ⟨w.heap.size + 1, 0, none⟩ = some (.int .i64 pn) ∧ w'.cell? ⟨w.heap.size + 1, 1, none⟩ = some (.int .i64 po) ∧ w'.cell? ⟨w.heap.size + 1, 2, none⟩ = some (.string pb) ∧ w'.cell? ⟨w.heap.size + 1, 3, none⟩ = some (.int .i64 pch)) := Lib.hid (fun w' h => by have K := tkb h LP KP; exact ⟨tcr K 0, tcr K 1, tcr K 2, tcr K 3⟩)
      refine wp_region_held_drew (S := (fun w' => Below X.heap.size X w')) (by kernel_rfl) (Below.refl _ _).drew (fun hHeld => ?_)
      obtain ⟨zD, hzD⟩ : ∃ zz, zz = X.drew := ⟨_, rfl⟩
      rw [← hzD] at hHeld ⊢
      clear hzD
      have BD := Lib.hid hHeld
      refine tk0 0 ?_
      refine tk 1 (v := ?_) ?_ ?_; rotate_left
      · refine Or.inl ⟨by rfl, ?_⟩; intro w hSw; obtain ⟨f0, f1, f2, f3⟩ := FP.out w hSw; go_simp; first | done | with_reducible rfl
      refine tk0 2 ?_
      refine tk 3 (v := ?_) ?_ ?_; rotate_left
      · refine Or.inl ⟨by rfl, ?_⟩; intro w hSw; obtain ⟨f0, f1, f2, f3⟩ := FT.out w hSw; go_simp; first | done | with_reducible rfl
      refine tk0 4 ?_
      refine tk0 5 ?_
      refine tk0 6 ?_
      refine tk 7 (v := ?_) ?_ ?_; rotate_left
      · refine Or.inl ⟨by rfl, ?_⟩; intro w hSw; obtain ⟨f0, f1, f2, f3⟩ := FP.out w hSw; go_simp; first | done | with_reducible rfl
      refine tk0 8 ?_
      refine tk 9 (v := ?_) ?_ ?_; rotate_left
      · refine Or.inl ⟨by rfl, ?_⟩; intro w hSw; obtain ⟨f0, f1, f2, f3⟩ := FT.out w hSw; go_simp; first | done | with_reducible rfl
      refine tk0 10 ?_
      refine tk 11 (v := ?_) ?_ ?_; rotate_left
      · refine Or.inl ⟨by rfl, ?_⟩; intro w hSw; obtain ⟨f0, f1, f2, f3⟩ := FP.out w hSw; go_simp; first | done | with_reducible rfl
      refine rd1 12 (fun K hK => ?_)
      go_simp
      have hc := kl zD
      go_at_call 58
      refine hc.mono ?_
      rintro e w2 ⟨rfl, hb2⟩
      replace BD := tbt BD hb2
      clear hc hb2 kl
      go_wp2_with fail
      refine hK.out _ _ BD.out (fun hHeld => ?_)
      clear hK K
      refine tk0 13 ?_
      refine tk0 14 ?_
      refine tk0 15 ?_
      refine wpAnyH_done (by kernel_rfl) ?_ _
      clear hHeld FT FP KT KP
      have BW := Lib.hid (BB.out.trans (BD.out.mono BB.out.size))
      go_wp2_with fail
      go_ret
      exact ⟨ret_bool HR.out, BW.out⟩
    · have e3 : (pn == n) = false := by rw [beq_eq_false_iff_ne]; exact h3
      have HR : Hid (false = res) := Lib.hid (by rw [HR0.out, H1.out, decide_eq_false h3]; rfl)
      clear HR0 H1 h3
      have f0 := tcr KT 0
      have f1 := tcr KT 1
      have f2 := tcr KT 2
      have f3 := tcr KT 3
      have p0 := tcr KP 0
      have p1 := tcr KP 1
      have p2 := tcr KP 2
      have p3 := tcr KP 3
      rw [hX] at f0 p0 f1 p1 f2 p2 f3 p3
      go_enter Tryz.func39, Tryz.ntmps39
      go_wp2_with fail
      rw [← hX]
      clear hX f0 p0 f1 p1 f2 p2 f3 p3
      have FT : Hid (∀ w', Below X.heap.size X w' → w'.cell? ⟨w.heap.size, 0, none⟩ = some (.int .i64 o) ∧ w'.cell? ⟨w.heap.size, 1, none⟩ = some (.int .i64 n) ∧ w'.cell? ⟨w.heap.size, 2, none⟩ = some (.int .i64 c) ∧ w'.cell? ⟨w.heap.size, 3, none⟩ = some (.string b)) := Lib.hid (fun w' h => by have K := tkb h LT KT; exact ⟨tcr K 0, tcr K 1, tcr K 2, tcr K 3⟩)
      have FP : Hid (∀ w', Below X.heap.size X w' → w'.cell? ⟨w.heap.size + 1, 0, none⟩ = some (.int .i64 pn) ∧ w'.cell? ⟨w.heap.size + 1, 1, none⟩ = some (.int .i64 po) ∧ w'.cell? ⟨w.heap.size + 1, 2, none⟩ = some (.string pb) ∧ w'.cell? ⟨w.heap.size + 1, 3, none⟩ = some (.int .i64 pch)) := Lib.hid (fun w' h => by have K := tkb h LP KP; exact ⟨tcr K 0, tcr K 1, tcr K 2, tcr K 3⟩)
      refine wp_region_held_drew (S := (fun w' => Below X.heap.size X w')) (by kernel_rfl) (Below.refl _ _).drew (fun hHeld => ?_)
      obtain ⟨zD, hzD⟩ : ∃ zz, zz = X.drew := ⟨_, rfl⟩
      rw [← hzD] at hHeld ⊢
      clear hzD
      have BD := Lib.hid hHeld
      refine tk0 0 ?_
      refine tk 1 (v := ?_) ?_ ?_; rotate_left
      · refine Or.inl ⟨by rfl, ?_⟩; intro w hSw; obtain ⟨f0, f1, f2, f3⟩ := FP.out w hSw; go_simp; first | done | with_reducible rfl
      refine tk0 2 ?_
      refine tk 3 (v := ?_) ?_ ?_; rotate_left
      · refine Or.inl ⟨by rfl, ?_⟩; intro w hSw; obtain ⟨f0, f1, f2, f3⟩ := FT.out w hSw; go_simp; first | done | with_reducible rfl
      refine tk0 4 ?_
      refine tk0 5 ?_
      refine tku 6 ?_
      refine tku 7 ?_
      refine tku 8 ?_
      refine tku 9 ?_
      refine tku 10 ?_
      refine tku 11 ?_
      refine tku 12 ?_
      refine tku 13 ?_
      refine tk0 14 ?_
      refine tk0 15 ?_
      refine wpAnyH_done (by kernel_rfl) ?_ _
      clear hHeld FT FP KT KP
      have BW := Lib.hid (BB.out.trans (BD.out.mono BB.out.size))
      go_wp2_with fail
      go_ret
      exact ⟨ret_bool HR.out, BW.out⟩
  · have d1 : decide (0 < o) = false := decide_eq_false h0
    have H1 : Hid ((decide (0 < o) && !decide (o = po)) = false) := Lib.hid (by rw [d1]; rfl)
    clear h1
    by_cases h3 : pn = n
    · have e3 : (pn == n) = true := by rw [h3]; simp
      have HR : Hid ((pch != (lk : Int)) = res) := Lib.hid (by rw [HR0.out, H1.out, decide_eq_true h3]; simp only [Bool.false_or, Bool.true_and]; rw [Bool.eq_iff_iff]; simp)
      clear HR0 H1 h3
      have f0 := tcr KT 0
      have f1 := tcr KT 1
      have f2 := tcr KT 2
      have f3 := tcr KT 3
      have p0 := tcr KP 0
      have p1 := tcr KP 1
      have p2 := tcr KP 2
      have p3 := tcr KP 3
      rw [hX] at f0 p0 f1 p1 f2 p2 f3 p3
      go_enter Tryz.func39, Tryz.ntmps39
      go_wp2_with fail
      rw [← hX]
      clear hX f0 p0 f1 p1 f2 p2 f3 p3
      have FT : Hid (∀ w', Below X.heap.size X w' → w'.cell? ⟨w.heap.size, 0, none⟩ = some (.int .i64 o) ∧ w'.cell? ⟨w.heap.size, 1, none⟩ = some (.int .i64 n) ∧ w'.cell? ⟨w.heap.size, 2, none⟩ = some (.int .i64 c) ∧ w'.cell? ⟨w.heap.size, 3, none⟩ = some (.string b)) := Lib.hid (fun w' h => by have K := tkb h LT KT; exact ⟨tcr K 0, tcr K 1, tcr K 2, tcr K 3⟩)
      have FP : Hid (∀ w', Below X.heap.size X w' → w'.cell? ⟨w.heap.size + 1, 0, none⟩ = some (.int .i64 pn) ∧ w'.cell? ⟨w.heap.size + 1, 1, none⟩ = some (.int .i64 po) ∧ w'.cell? ⟨w.heap.size + 1, 2, none⟩ = some (.string pb) ∧ w'.cell? ⟨w.heap.size + 1, 3, none⟩ = some (.int .i64 pch)) := Lib.hid (fun w' h => by have K := tkb h LP KP; exact ⟨tcr K 0, tcr K 1, tcr K 2, tcr K 3⟩)
      refine wp_region_held_drew (S := (fun w' => Below X.heap.size X w')) (by kernel_rfl) (Below.refl _ _).drew (fun hHeld => ?_)
      obtain ⟨zD, hzD⟩ : ∃ zz, zz = X.drew := ⟨_, rfl⟩
      rw [← hzD] at hHeld ⊢
      clear hzD
      have BD := Lib.hid hHeld
      refine tk0 0 ?_
      refine tk 1 (v := ?_) ?_ ?_; rotate_left
      · refine Or.inl ⟨by rfl, ?_⟩; intro w hSw; obtain ⟨f0, f1, f2, f3⟩ := FP.out w hSw; go_simp; first | done | with_reducible rfl
      refine tk0 2 ?_
      refine tk 3 (v := ?_) ?_ ?_; rotate_left
      · refine Or.inl ⟨by rfl, ?_⟩; intro w hSw; obtain ⟨f0, f1, f2, f3⟩ := FT.out w hSw; go_simp; first | done | with_reducible rfl
      refine tk0 4 ?_
      refine tk0 5 ?_
      refine tk0 6 ?_
      refine tk 7 (v := ?_) ?_ ?_; rotate_left
      · refine Or.inl ⟨by rfl, ?_⟩; intro w hSw; obtain ⟨f0, f1, f2, f3⟩ := FP.out w hSw; go_simp; first | done | with_reducible rfl
      refine tk0 8 ?_
      refine tk 9 (v := ?_) ?_ ?_; rotate_left
      · refine Or.inl ⟨by rfl, ?_⟩; intro w hSw; obtain ⟨f0, f1, f2, f3⟩ := FT.out w hSw; go_simp; first | done | with_reducible rfl
      refine tk0 10 ?_
      refine tk 11 (v := ?_) ?_ ?_; rotate_left
      · refine Or.inl ⟨by rfl, ?_⟩; intro w hSw; obtain ⟨f0, f1, f2, f3⟩ := FP.out w hSw; go_simp; first | done | with_reducible rfl
      refine rd1 12 (fun K hK => ?_)
      go_simp
      have hc := kl zD
      go_at_call 58
      refine hc.mono ?_
      rintro e w2 ⟨rfl, hb2⟩
      replace BD := tbt BD hb2
      clear hc hb2 kl
      go_wp2_with fail
      refine hK.out _ _ BD.out (fun hHeld => ?_)
      clear hK K
      refine tk0 13 ?_
      refine tk0 14 ?_
      refine tk0 15 ?_
      refine wpAnyH_done (by kernel_rfl) ?_ _
      clear hHeld FT FP KT KP
      have BW := Lib.hid (BB.out.trans (BD.out.mono BB.out.size))
      go_wp2_with fail
      go_ret
      exact ⟨ret_bool HR.out, BW.out⟩
    · have e3 : (pn == n) = false := by rw [beq_eq_false_iff_ne]; exact h3
      have HR : Hid (false = res) := Lib.hid (by rw [HR0.out, H1.out, decide_eq_false h3]; rfl)
      clear HR0 H1 h3
      have f0 := tcr KT 0
      have f1 := tcr KT 1
      have f2 := tcr KT 2
      have f3 := tcr KT 3
      have p0 := tcr KP 0
      have p1 := tcr KP 1
      have p2 := tcr KP 2
      have p3 := tcr KP 3
      rw [hX] at f0 p0 f1 p1 f2 p2 f3 p3
      go_enter Tryz.func39, Tryz.ntmps39
      go_wp2_with fail
      rw [← hX]
      clear hX f0 p0 f1 p1 f2 p2 f3 p3
      have FT : Hid (∀ w', Below X.heap.size X w' → w'.cell? ⟨w.heap.size, 0, none⟩ = some (.int .i64 o) ∧ w'.cell? ⟨w.heap.size, 1, none⟩ = some (.int .i64 n) ∧ w'.cell? ⟨w.heap.size, 2, none⟩ = some (.int .i64 c) ∧ w'.cell? ⟨w.heap.size, 3, none⟩ = some (.string b)) := Lib.hid (fun w' h => by have K := tkb h LT KT; exact ⟨tcr K 0, tcr K 1, tcr K 2, tcr K 3⟩)
      have FP : Hid (∀ w', Below X.heap.size X w' → w'.cell? ⟨w.heap.size + 1, 0, none⟩ = some (.int .i64 pn) ∧ w'.cell? ⟨w.heap.size + 1, 1, none⟩ = some (.int .i64 po) ∧ w'.cell? ⟨w.heap.size + 1, 2, none⟩ = some (.string pb) ∧ w'.cell? ⟨w.heap.size + 1, 3, none⟩ = some (.int .i64 pch)) := Lib.hid (fun w' h => by have K := tkb h LP KP; exact ⟨tcr K 0, tcr K 1, tcr K 2, tcr K 3⟩)
      refine wp_region_held_drew (S := (fun w' => Below X.heap.size X w')) (by kernel_rfl) (Below.refl _ _).drew (fun hHeld => ?_)
      obtain ⟨zD, hzD⟩ : ∃ zz, zz = X.drew := ⟨_, rfl⟩
      rw [← hzD] at hHeld ⊢
      clear hzD
      have BD := Lib.hid hHeld
      refine tk0 0 ?_
      refine tk 1 (v := ?_) ?_ ?_; rotate_left
      · refine Or.inl ⟨by rfl, ?_⟩; intro w hSw; obtain ⟨f0, f1, f2, f3⟩ := FP.out w hSw; go_simp; first | done | with_reducible rfl
      refine tk0 2 ?_
      refine tk 3 (v := ?_) ?_ ?_; rotate_left
      · refine Or.inl ⟨by rfl, ?_⟩; intro w hSw; obtain ⟨f0, f1, f2, f3⟩ := FT.out w hSw; go_simp; first | done | with_reducible rfl
      refine tk0 4 ?_
      refine tk0 5 ?_
      refine tku 6 ?_
      refine tku 7 ?_
      refine tku 8 ?_
      refine tku 9 ?_
      refine tku 10 ?_
      refine tku 11 ?_
      refine tku 12 ?_
      refine tku 13 ?_
      refine tk0 14 ?_
      refine tk0 15 ?_
      refine wpAnyH_done (by kernel_rfl) ?_ _
      clear hHeld FT FP KT KP
      have BW := Lib.hid (BB.out.trans (BD.out.mono BB.out.size))
      go_wp2_with fail
      go_ret
      exact ⟨ret_bool HR.out, BW.out⟩
set_option maxRecDepth 100000 in
set_option maxHeartbeats 4000000 in
theorem impl_with (t : Tkr) (p : Pc) (w : World) (hf : FitTkr t) (hn : t.nx ≤ 601) (hb8 : t.b.size ≤ 1099511627776) (hpb : p.b.size ≤ 1099511627776) :
    Calls Tryz.prog 41 #[tkrV t, pcV p] w fun e w' => e = .returned (tkrV ⟨p.of, t.nx + 1, p.ch, t.b ++ p.b⟩) ∧ Below w.heap.size w w' := by
  obtain ⟨⟨o1, o2⟩, ⟨n1, n2⟩, ⟨c1, c2⟩, hb⟩ := hf
  obtain ⟨o, n, c, b⟩ := t
  obtain ⟨pn, po, pb, pch⟩ := p
  dsimp only at o1 o2 n1 n2 c1 c2 hb hpb hn hb8 ⊢
  have hw : IntKind.i64.wrap (n + 1) = n + 1 := by rw [IntKind.wrap_i64]; omega
  have ns : ¬ 9223372036854775807 < b.size + pb.size := by omega
  unfold tkrV pcV
  dsimp only
  go_enter Tryz.func41, Tryz.ntmps41
  go_wp2_with fail
  have bb : Below w.heap.size w (((w.alloc (.cells #[.int .i64 o, .int .i64 n, .int .i64 c, .string b] 34)).alloc (.cells #[.int .i64 pn, .int .i64 po, .string pb, .int .i64 pch] 67)).alloc (.cells #[.int .i64 po, .int .i64 (n + 1), .int .i64 pch, .string (b ++ pb)] 34)) := (((Below.refl _ _).alloc (Nat.le_refl _) _).alloc (by simp) _).alloc (by simp; omega) _
  have hk : ((((w.alloc (.cells #[.int .i64 o, .int .i64 n, .int .i64 c, .string b] 34)).alloc (.cells #[.int .i64 pn, .int .i64 po, .string pb, .int .i64 pch] 67)).alloc (.cells #[.int .i64 po, .int .i64 (n + 1), .int .i64 pch, .string (b ++ pb)] 34)).heap[w.heap.size + 1 + 1]? = some (.cells #[.int .i64 po, .int .i64 (n + 1), .int .i64 pch, .string (b ++ pb)] 34 (0, 0))) := by simpa using heap_new ((w.alloc (.cells #[.int .i64 o, .int .i64 n, .int .i64 c, .string b] 34)).alloc (.cells #[.int .i64 pn, .int .i64 po, .string pb, .int .i64 pch] 67)) (.cells #[.int .i64 po, .int .i64 (n + 1), .int .i64 pch, .string (b ++ pb)] 34)
  obtain ⟨j0, q1, q2, q3, q4⟩ := info_parts infoTkr
  refine bodyPost_ret (results_cell_row (P := Tryz.prog) rfl _ _ (w.heap.size + 1 + 1) _ _ (0, 0) _ rfl hk Tryz.underlying34 rfl (by rw [q1]; simp [q3])) rfl ⟨rfl, bb⟩
/-- A heap of codes with at most n codes, the greatest of which is T. -/
def HpT (w : World) (B h n : Nat) (T : Int) : Prop := ∃ g cap zs, Hp w B h g cap zs ∧ zs.length ≤ n ∧ 0 < zs.length ∧ Top zs T
def Hp0 (w : World) (B h : Nat) : Prop := ∃ g cap, Hp w B h g cap []
theorem HpT.later {w w' : World} {B h n : Nat} {T : Int} (hp : HpT w B h n T) (hb : Below w.heap.size w w') : HpT w' B h n T := by
  obtain ⟨g, cap, zs, h1, h2⟩ := hp
  exact ⟨g, cap, zs, h1.later hb, h2⟩
/-- What the greatest code becomes. -/
def mxN (a : Bool) (x T : Int) : Int := if a = true ∧ T < x then x else T
set_option maxRecDepth 100000 in
set_option maxHeartbeats 4000000 in
theorem impl_note0 (x : Int) (B h : Nat) (w : World) (hp : Hp0 w B h) (hB : B ≤ w.heap.size) :
    Calls Tryz.prog 38 #[.pointer (some ⟨h, 0, none⟩), .int .i64 x, .bool true] w fun e w' => e = .returned (.tuple #[]) ∧ HpT w' B h 1 x ∧ Below B w w' := by
  obtain ⟨g, cap, hp⟩ := hp
  have hc := heap_push [] x 0 B h g cap w hp (by simp) hB (.inl rfl)
  clear hp
  go_enter Tryz.func38, Tryz.ntmps38
  go_wp2_with (go_at_call 76; refine hc.mono ?_; rintro e w1 ⟨rfl, ⟨g1, c1, zs1, q1, q2, q3⟩, hb1⟩; refine Hid.out ?_)
  refine Lib.hid ?_
  clear hc
  have Q : HpT w1 B h 1 x := ⟨g1, c1, zs1, q1, by simp at q2; omega, by simp at q2; omega, by simpa using q3⟩
  clear q1 q2 q3
  go_wp2_with fail
  go_end0
  exact ⟨rfl, Q, hb1⟩
set_option maxRecDepth 100000 in
set_option maxHeartbeats 4000000 in
theorem impl_note (x T : Int) (a : Bool) (B h n : Nat) (w : World) (hp : HpT w B h n T) (hn : n ≤ 39) (hB : B ≤ w.heap.size) :
    Calls Tryz.prog 38 #[.pointer (some ⟨h, 0, none⟩), .int .i64 x, .bool a] w fun e w' => e = .returned (.tuple #[]) ∧ HpT w' B h (n + 1) (mxN a x T) ∧ Below B w w' := by
  obtain ⟨g, cap, zs, hp, hl, h0, ht⟩ := hp
  cases a
  · have Q : HpT w B h (n + 1) (mxN false x T) := ⟨g, cap, zs, hp, by omega, h0, by unfold mxN; rw [if_neg (fun h => by cases h.1)]; exact ht⟩
    clear hp hl h0 ht
    go_enter Tryz.func38, Tryz.ntmps38
    go_wp2_with fail
    go_end0
    exact ⟨rfl, Q, Below.refl _ _⟩
  · have hc := heap_push zs x T B h g cap w hp (by omega) hB (.inr ht)
    have HZ : zs ≠ [] := List.length_pos_iff.1 h0
    have HM : Hid ((if zs = [] then x else if T < x then x else T) = mxN true x T) := Lib.hid (by unfold mxN; rw [if_neg HZ]; simp)
    rw [HM.out] at hc
    have HL := Lib.hid hl
    clear hp hl h0 ht HZ HM
    go_enter Tryz.func38, Tryz.ntmps38
    go_wp2_with (go_at_call 76; refine hc.mono ?_; rintro e w1 ⟨rfl, ⟨g1, c1, zs1, q1, q2, q3⟩, hb1⟩; refine Hid.out ?_)
    refine Lib.hid ?_
    clear hc
    have Q : HpT w1 B h (n + 1) (mxN true x T) := ⟨g1, c1, zs1, q1, by have := HL.out; omega, by omega, q3⟩
    clear q1 q2 q3
    go_wp2_with fail
    go_end0
    exact ⟨rfl, Q, hb1⟩
set_option maxRecDepth 100000 in
set_option maxHeartbeats 4000000 in
theorem impl_take (T : Int) (B h n : Nat) (w : World) (hp : HpT w B h n T) (hn : n ≤ 39) (hB : B ≤ w.heap.size) :
    Calls Tryz.prog 40 #[.pointer (some ⟨h, 0, none⟩)] w fun e w' => e = .returned (.int .i64 T) ∧ Below B w w' := by
  obtain ⟨g, cap, zs, hp, hl, h0, ht⟩ := hp
  have hc := heap_pop zs T B h g cap w hp (by omega) hB h0 ht.1
  have hta := fun w => ta_cd (.int .i64 T) w
  clear hp ht h0 hl
  go_enter Tryz.func40, Tryz.ntmps40
  go_wp2_with (go_at_call 77; refine hc.mono ?_; rintro e w1 ⟨rfl, hb1⟩; refine Hid.out ?_)
  refine Lib.hid ?_
  clear hc
  go_wp2_with fail
  go_ret
  exact ⟨rfl, hb1⟩
end Go.Proofs.YtdpjdjkfedcojaaGreat

namespace Go.Proofs.YtdpjdjkfedcojaaGreat
open Go.RowKit
set_option linter.unusedVariables false
set_option linter.unusedSimpArgs false

theorem offer_codeI (t : Tkr) (s : ByteArray) : offerS t s = if (!tkrOk t || (!(getP s).2 || rejS t (getP s).1)) = true then (t, 4) else if (getP s).1.no < t.nx then (t, 2) else if t.nx < (getP s).1.no then (t, 3) else (⟨(getP s).1.of, t.nx + 1, (getP s).1.ch, t.b ++ (getP s).1.b⟩, if (getP s).1.no = (getP s).1.of then 1 else 0) := by
  obtain ⟨p, hp⟩ : ∃ p, p = (getP s).1 := ⟨_, rfl⟩
  unfold offerS
  rw [← hp]
  cases h1 : tkrOk t
  · simp
  cases h2 : (getP s).2
  · simp
  simp only [Bool.not_true, Bool.false_or]
  rw [if_neg (by decide), if_neg (by decide)]
  unfold rejS
  by_cases ha : 0 < t.of ∧ ¬ t.of = p.of
  · rw [if_pos ha, if_pos (by simp [ha.1, ha.2])]
  · rw [if_neg ha]
    by_cases hb : p.no = t.nx ∧ ¬ p.ch = (linkN t.ch p.b : Nat)
    · rw [if_pos hb, if_pos (by simp [hb.1, hb.2])]
    · rw [if_neg hb]
      have e : (decide (0 < t.of) && !decide (t.of = p.of) || decide (p.no = t.nx) && !decide (p.ch = (linkN t.ch p.b : Nat))) = false := by
        rw [Bool.eq_false_iff]
        intro h
        simp only [Bool.or_eq_true, Bool.and_eq_true, decide_eq_true_eq, Bool.not_eq_true', decide_eq_false_iff_not] at h
        exact h.elim ha hb
      rw [e, if_neg (show ¬ (false = true) by decide)]
theorem hp0_new {X : World} : Hp0 ((X.alloc (.cells #[] 3)).alloc (.cells #[.slice (some ⟨X.heap.size, 0, none⟩) 0 0] 71)) X.heap.size (X.heap.size + 1) := by
  refine ⟨X.heap.size, 0, ?_, by omega, by omega, rfl, Nat.le_refl _, Nat.zero_le _, Nat.le_refl _, by simp; omega, .inl ⟨rfl, rfl⟩⟩
  simpa using heap_new (X.alloc (.cells #[] 3)) (.cells #[.slice (some ⟨X.heap.size, 0, none⟩) 0 0] 71)
set_option maxRecDepth 100000 in
set_option maxHeartbeats 8000000 in
theorem impl_offer (t : Tkr) (s : ByteArray) (w : World) (hf : FitTkr t) (hb8 : t.b.size ≤ 1099511627776) (hs : s.size ≤ 1099511627776) :
    Calls Tryz.prog 15 #[tkrV t, .string s] w fun e w' => e = .returned (.tuple #[tkrV (offerS t s).1, .int .i64 (offerS t s).2]) ∧ Below w.heap.size w w' := by
  have kt := fun w => impl_takerOk t w hf
  have kg := fun w => impl_getPiece s w hs
  have hgp := getP_fit s
  have HO := Lib.hid (offer_codeI t s)
  have krj := fun w => impl_rejects t (getP s).1 w hf (by omega)
  have kw := fun w (h : t.nx ≤ 601) => impl_with t (getP s).1 w hf h hb8 (by omega)
  obtain ⟨⟨o1, o2⟩, ⟨n1, n2⟩, ⟨c1, c2⟩, hb⟩ := hf
  obtain ⟨p, hp⟩ : ∃ p, p = (getP s).1 := ⟨_, rfl⟩
  obtain ⟨q, hq⟩ : ∃ q, q = (getP s).2 := ⟨_, rfl⟩
  rw [← hp] at kg hgp HO krj kw
  rw [← hq] at kg HO
  clear hp hq
  have HT := fun (h : tkrOk t = true) (h0 : ¬ t.of = 0) => tkr_in h h0
  have HN : tkrOk t = true → t.of = 0 → t.nx = 1 := fun h h0 => by rw [tkr_new h h0]; rfl
  obtain ⟨r, hr⟩ : ∃ r, r = tkrOk t := ⟨_, rfl⟩
  rw [← hr] at kt HO HT HN
  clear hr
  obtain ⟨rj, hrj⟩ : ∃ r, r = rejS t p := ⟨_, rfl⟩
  rw [← hrj] at krj HO
  clear hrj
  obtain ⟨pn, po, pb, pch⟩ := p
  dsimp only at hgp
  obtain ⟨g1, g2, g3, g4, g5⟩ := hgp
  obtain ⟨o, n, c, b⟩ := t
  dsimp only at o1 o2 n1 n2 c1 c2 hb hb8 HO HT HN kw
  unfold tkrV pcV at *
  try dsimp only at *
  obtain ⟨W, hW⟩ : ∃ W, W = (w.alloc (.cells #[.int .i64 o, .int .i64 n, .int .i64 c, .string b] 34)).alloc (.cells #[.int .i64 0, .int .i64 0, .int .i64 0, .string ⟨#[]⟩] 34) := ⟨_, rfl⟩
  have BB : Hid (Below w.heap.size w W) := Lib.hid (by rw [hW]; exact ((Below.refl _ _).alloc (Nat.le_refl _) _).alloc (by simp) _)
  have hWs : W.heap.size = w.heap.size + 2 := by rw [hW]; simp
  have KT : Hid (W.heap[w.heap.size]? = some (.cells #[.int .i64 o, .int .i64 n, .int .i64 c, .string b] 34 (0, 0))) := Lib.hid (by rw [hW, Below.heap_alloc _ _ _ (by simp)]; exact heap_new _ _)
  have KR : Hid (W.heap[w.heap.size + 1]? = some (.cells #[.int .i64 0, .int .i64 0, .int .i64 0, .string ⟨#[]⟩] 34 (0, 0))) := Lib.hid (by rw [hW]; simpa using heap_new (w.alloc (.cells #[.int .i64 o, .int .i64 n, .int .i64 c, .string b] 34)) (.cells #[.int .i64 0, .int .i64 0, .int .i64 0, .string ⟨#[]⟩] 34))
  have LT : Hid (w.heap.size < W.heap.size) := Lib.hid (by omega)
  have LR : Hid (w.heap.size + 1 < W.heap.size) := Lib.hid (by omega)
  clear hWs
  go_enter Tryz.func15, Tryz.ntmps15
  have hc := kg W
  rw [hW] at hc
  go_wp2_with (go_at_call 37; refine hc.mono ?_; rintro e w1 ⟨rfl, hb1⟩; refine Hid.out ?_)
  refine Lib.hid ?_
  rw [← hW] at hb1
  clear hc hW kg
  replace KT := tkb hb1 LT KT
  replace KR := tkb hb1 LR KR
  replace LT := tlz LT hb1.size
  replace LR := tlz LR hb1.size
  replace BB := tbt BB hb1
  clear hb1
  obtain ⟨X, hX⟩ : ∃ X, X = w1.alloc (.cells #[.int .i64 pn, .int .i64 po, .string pb, .int .i64 pch] 67) := ⟨_, rfl⟩
  have bX : Below w1.heap.size w1 X := by rw [hX]; exact (Below.refl _ _).alloc (Nat.le_refl _) _
  have hXs : X.heap.size = w1.heap.size + 1 := by rw [hX]; simp
  have KP : Hid (X.heap[w1.heap.size]? = some (.cells #[.int .i64 pn, .int .i64 po, .string pb, .int .i64 pch] 67 (0, 0))) := Lib.hid (by rw [hX]; exact heap_new _ _)
  have LP : Hid (w1.heap.size < X.heap.size) := Lib.hid (by omega)
  replace KT := tkb bX LT KT
  replace KR := tkb bX LR KR
  replace LT := tlz LT bX.size
  replace LR := tlz LR bX.size
  replace BB := tbt BB bX
  clear bX
  obtain ⟨Y, hY⟩ : ∃ Y, Y = (X.alloc (.cells #[] 3)).alloc (.cells #[.slice (some ⟨X.heap.size, 0, none⟩) 0 0] 71) := ⟨_, rfl⟩
  have bY : Below X.heap.size X Y := by rw [hY]; exact ((Below.refl _ _).alloc (Nat.le_refl _) _).alloc (by simp) _
  have h0 : Hp0 Y X.heap.size (X.heap.size + 1) := by rw [hY]; exact hp0_new
  have FT : Hid (∀ w', Below X.heap.size X w' → w'.cell? ⟨w.heap.size, 0, none⟩ = some (.int .i64 o) ∧ w'.cell? ⟨w.heap.size, 1, none⟩ = some (.int .i64 n) ∧ w'.cell? ⟨w.heap.size, 2, none⟩ = some (.int .i64 c) ∧ w'.cell? ⟨w.heap.size, 3, none⟩ = some (.string b)) := Lib.hid (fun w' h => by have K := tkb h LT KT; exact ⟨tcr K 0, tcr K 1, tcr K 2, tcr K 3⟩)
  have FP : Hid (∀ w', Below X.heap.size X w' → w'.cell? ⟨w1.heap.size, 0, none⟩ = some (.int .i64 pn) ∧ w'.cell? ⟨w1.heap.size, 1, none⟩ = some (.int .i64 po) ∧ w'.cell? ⟨w1.heap.size, 2, none⟩ = some (.string pb) ∧ w'.cell? ⟨w1.heap.size, 3, none⟩ = some (.int .i64 pch)) := Lib.hid (fun w' h => by have K := tkb h LP KP; exact ⟨tcr K 0, tcr K 1, tcr K 2, tcr K 3⟩)
  have FR : Hid (∀ w', Below X.heap.size X w' → w'.heap[w.heap.size + 1]? = some (.cells #[.int .i64 0, .int .i64 0, .int .i64 0, .string ⟨#[]⟩] 34 (0, 0))) := Lib.hid (fun w' h => (tkb h LR KR).out)
  clear KT KR KP LT LR LP
  obtain ⟨hh, hhh⟩ : ∃ hh, hh = X.heap.size + 1 := ⟨_, rfl⟩
  obtain ⟨BX, hBX⟩ : ∃ k, k = X.heap.size := ⟨_, rfl⟩
  have HHX : Hid (hh = X.heap.size + 1) := Lib.hid hhh
  have HYX : Hid (w1.heap.size + 1 = X.heap.size) := Lib.hid (by omega)
  have kn0 := fun hB => impl_note0 0 BX hh Y (by rw [hBX, hhh]; exact h0) hB
  have hB0 : BX ≤ Y.heap.size := by rw [hBX]; exact bY.size
  rw [← hBX] at FT FP FR
  have BY : Hid (Below BX X Y) := Lib.hid (by rw [hBX]; exact bY)
  have HBX := Lib.hid hBX
  clear bY h0 hhh hBX hXs
  go_wp2_with fail
  rw [← hX, HYX.out, ← HHX.out, ← hY]
  clear hX hY HYX HHX
  refine (kn0 hB0).mono ?_
  rintro e y1 ⟨rfl, hp1, b1⟩
  refine Hid.out ?_
  refine Lib.hid ?_
  have B1 := Lib.hid (BY.out.trans b1)
  have L1 : Hid (BX ≤ y1.heap.size) := Lib.hid (Nat.le_trans hB0 b1.size)
  clear kn0 hB0 BY b1
  obtain ⟨a1, ha1⟩ : ∃ a, (pn == po) = a := ⟨_, rfl⟩
  obtain ⟨p0, p1, p2, p3⟩ := FP.out _ B1.out
  have hc := impl_note 1 (0) a1 BX hh 1 y1 hp1 (by omega) L1.out
  go_wp2_with (go_at_call 38; refine hc.mono ?_; rintro e y2 ⟨rfl, hp2, b2⟩; refine Hid.out ?_)
  refine Lib.hid ?_
  have B2 := Lib.hid (B1.out.trans b2)
  have L2 : Hid (BX ≤ y2.heap.size) := Lib.hid (Nat.le_trans L1.out b2.size)
  clear hc b2 hp1 p0 p1 p2 p3
  cases r
  · skip
    obtain ⟨p0, p1, p2, p3⟩ := FP.out _ B2.out
    obtain ⟨t0, t1, t2, t3⟩ := FT.out _ B2.out
    have hk := kt y2
    go_wp2_with (go_at_call 11; refine hk.mono ?_; rintro e z1 ⟨rfl, c1⟩; refine Hid.out ?_)
    refine Lib.hid ?_
    have BZ := Lib.hid (B2.out.trans (c1.mono L2.out))
    have hpz := hp2.later c1
    have LZ : Hid (BX ≤ z1.heap.size) := Lib.hid (Nat.le_trans L2.out c1.size)
    clear hk c1 hp2 p0 p1 p2 p3 t0 t1 t2 t3
    have hc := impl_note 4 (mxN a1 1 0) true BX hh 2 z1 hpz (by omega) LZ.out
    go_wp2_with (go_at_call 38; refine hc.mono ?_; rintro e y3 ⟨rfl, hp3, b3⟩; refine Hid.out ?_)
    refine Lib.hid ?_
    have B3 := Lib.hid (BZ.out.trans b3)
    have L3 : Hid (BX ≤ y3.heap.size) := Lib.hid (Nat.le_trans LZ.out b3.size)
    clear hc b3 hpz BZ LZ
    obtain ⟨a2, ha2⟩ : ∃ a, decide (pn < n) = a := ⟨_, rfl⟩
    obtain ⟨a3, ha3⟩ : ∃ a, decide (n < pn) = a := ⟨_, rfl⟩
    have hmx : ∀ u v w : Bool, mxN w 3 (mxN v 2 (mxN true 4 (mxN u 1 0))) = 4 := by decide
    have HRES : Hid (offerS ⟨o, n, c, b⟩ s = (⟨o, n, c, b⟩, 4)) := Lib.hid (by rw [HO.out]; rfl)
    obtain ⟨p0, p1, p2, p3⟩ := FP.out _ B3.out
    obtain ⟨t0, t1, t2, t3⟩ := FT.out _ B3.out
    have hc := impl_note 2 (mxN true 4 (mxN a1 1 0)) a2 BX hh 3 y3 hp3 (by omega) L3.out
    go_wp2_with (go_at_call 38; refine hc.mono ?_; rintro e y4 ⟨rfl, hp4, b4⟩; refine Hid.out ?_)
    refine Lib.hid ?_
    have B4 := Lib.hid (B3.out.trans b4)
    have L4 : Hid (BX ≤ y4.heap.size) := Lib.hid (Nat.le_trans L3.out b4.size)
    clear hc b4 hp3 p0 p1 p2 p3 t0 t1 t2 t3
    obtain ⟨p0, p1, p2, p3⟩ := FP.out _ B4.out
    obtain ⟨t0, t1, t2, t3⟩ := FT.out _ B4.out
    have hc := impl_note 3 (mxN a2 2 (mxN true 4 (mxN a1 1 0))) a3 BX hh 4 y4 hp4 (by omega) L4.out
    go_wp2_with (go_at_call 38; refine hc.mono ?_; rintro e y5 ⟨rfl, hp5, b5⟩; refine Hid.out ?_)
    refine Lib.hid ?_
    have B5 := Lib.hid (B4.out.trans b5)
    have L5 : Hid (BX ≤ y5.heap.size) := Lib.hid (Nat.le_trans L4.out b5.size)
    clear hc b5 hp4 p0 p1 p2 p3 t0 t1 t2 t3
    have hcode : mxN a3 3 (mxN a2 2 (mxN true 4 (mxN a1 1 0))) = 4 := by first | exact hmx a1 a2 a3 | (cases a1 <;> decide)
    rw [hcode] at hp5
    have hc := impl_take 4 BX hh 5 y5 hp5 (by omega) L5.out
    clear hcode
    go_wp2_with (go_at_call 40; refine hc.mono ?_; rintro e y6 ⟨rfl, b6⟩; refine Hid.out ?_)
    refine Lib.hid ?_
    have B6 := Lib.hid (B5.out.trans b6)
    clear hc b6 hp5
    have LXY : Hid (w.heap.size ≤ X.heap.size) := Lib.hid BB.out.size
    have BF : Hid (Below w.heap.size w y6) := Lib.hid (BB.out.trans (B6.out.mono (by rw [HBX.out]; exact LXY.out)))
    have KR : Hid (y6.heap[w.heap.size + 1]? = some (.cells #[.int .i64 0, .int .i64 0, .int .i64 0, .string ⟨#[]⟩] 34 (0, 0))) := Lib.hid (FR.out _ B6.out)
    obtain ⟨t0, t1, t2, t3⟩ := FT.out _ B6.out
    have f0 := tcr KR 0
    have f1 := tcr KR 1
    have f2 := tcr KR 2
    have f3 := tcr KR 3
    have z0 := tfr KR 0
    have z1 := tfr KR 1
    have z2 := tfr KR 2
    have z3 := tfr KR 3
    clear HO FT FR FP kt krj kw HT HN
    go_wp2_with fail
    obtain ⟨j0, q1, q2, q3, q4⟩ := info_parts infoTkr
    refine bodyPost_ret (results_cell_row2 (P := Tryz.prog) rfl _ _ (w.heap.size + 1) _ _ (0, 0) _ _ rfl rfl (storeT KR.out) Tryz.underlying34 rfl (by rw [q1]; simp [q3])) rfl ⟨by rw [HRES.out]; rfl, below4 BF.out (by omega)⟩
  cases q
  · skip
    obtain ⟨p0, p1, p2, p3⟩ := FP.out _ B2.out
    obtain ⟨t0, t1, t2, t3⟩ := FT.out _ B2.out
    have hk := kt y2
    go_wp2_with (go_at_call 11; refine hk.mono ?_; rintro e z1 ⟨rfl, c1⟩; refine Hid.out ?_)
    refine Lib.hid ?_
    have BZ := Lib.hid (B2.out.trans (c1.mono L2.out))
    have hpz := hp2.later c1
    have LZ : Hid (BX ≤ z1.heap.size) := Lib.hid (Nat.le_trans L2.out c1.size)
    clear hk c1 hp2 p0 p1 p2 p3 t0 t1 t2 t3
    have hc := impl_note 4 (mxN a1 1 0) true BX hh 2 z1 hpz (by omega) LZ.out
    go_wp2_with (go_at_call 38; refine hc.mono ?_; rintro e y3 ⟨rfl, hp3, b3⟩; refine Hid.out ?_)
    refine Lib.hid ?_
    have B3 := Lib.hid (BZ.out.trans b3)
    have L3 : Hid (BX ≤ y3.heap.size) := Lib.hid (Nat.le_trans LZ.out b3.size)
    clear hc b3 hpz BZ LZ
    obtain ⟨a2, ha2⟩ : ∃ a, decide (pn < n) = a := ⟨_, rfl⟩
    obtain ⟨a3, ha3⟩ : ∃ a, decide (n < pn) = a := ⟨_, rfl⟩
    have hmx : ∀ u v w : Bool, mxN w 3 (mxN v 2 (mxN true 4 (mxN u 1 0))) = 4 := by decide
    have HRES : Hid (offerS ⟨o, n, c, b⟩ s = (⟨o, n, c, b⟩, 4)) := Lib.hid (by rw [HO.out]; rfl)
    obtain ⟨p0, p1, p2, p3⟩ := FP.out _ B3.out
    obtain ⟨t0, t1, t2, t3⟩ := FT.out _ B3.out
    have hc := impl_note 2 (mxN true 4 (mxN a1 1 0)) a2 BX hh 3 y3 hp3 (by omega) L3.out
    go_wp2_with (go_at_call 38; refine hc.mono ?_; rintro e y4 ⟨rfl, hp4, b4⟩; refine Hid.out ?_)
    refine Lib.hid ?_
    have B4 := Lib.hid (B3.out.trans b4)
    have L4 : Hid (BX ≤ y4.heap.size) := Lib.hid (Nat.le_trans L3.out b4.size)
    clear hc b4 hp3 p0 p1 p2 p3 t0 t1 t2 t3
    obtain ⟨p0, p1, p2, p3⟩ := FP.out _ B4.out
    obtain ⟨t0, t1, t2, t3⟩ := FT.out _ B4.out
    have hc := impl_note 3 (mxN a2 2 (mxN true 4 (mxN a1 1 0))) a3 BX hh 4 y4 hp4 (by omega) L4.out
    go_wp2_with (go_at_call 38; refine hc.mono ?_; rintro e y5 ⟨rfl, hp5, b5⟩; refine Hid.out ?_)
    refine Lib.hid ?_
    have B5 := Lib.hid (B4.out.trans b5)
    have L5 : Hid (BX ≤ y5.heap.size) := Lib.hid (Nat.le_trans L4.out b5.size)
    clear hc b5 hp4 p0 p1 p2 p3 t0 t1 t2 t3
    have hcode : mxN a3 3 (mxN a2 2 (mxN true 4 (mxN a1 1 0))) = 4 := by first | exact hmx a1 a2 a3 | (cases a1 <;> decide)
    rw [hcode] at hp5
    have hc := impl_take 4 BX hh 5 y5 hp5 (by omega) L5.out
    clear hcode
    go_wp2_with (go_at_call 40; refine hc.mono ?_; rintro e y6 ⟨rfl, b6⟩; refine Hid.out ?_)
    refine Lib.hid ?_
    have B6 := Lib.hid (B5.out.trans b6)
    clear hc b6 hp5
    have LXY : Hid (w.heap.size ≤ X.heap.size) := Lib.hid BB.out.size
    have BF : Hid (Below w.heap.size w y6) := Lib.hid (BB.out.trans (B6.out.mono (by rw [HBX.out]; exact LXY.out)))
    have KR : Hid (y6.heap[w.heap.size + 1]? = some (.cells #[.int .i64 0, .int .i64 0, .int .i64 0, .string ⟨#[]⟩] 34 (0, 0))) := Lib.hid (FR.out _ B6.out)
    obtain ⟨t0, t1, t2, t3⟩ := FT.out _ B6.out
    have f0 := tcr KR 0
    have f1 := tcr KR 1
    have f2 := tcr KR 2
    have f3 := tcr KR 3
    have z0 := tfr KR 0
    have z1 := tfr KR 1
    have z2 := tfr KR 2
    have z3 := tfr KR 3
    clear HO FT FR FP kt krj kw HT HN
    go_wp2_with fail
    obtain ⟨j0, q1, q2, q3, q4⟩ := info_parts infoTkr
    refine bodyPost_ret (results_cell_row2 (P := Tryz.prog) rfl _ _ (w.heap.size + 1) _ _ (0, 0) _ _ rfl rfl (storeT KR.out) Tryz.underlying34 rfl (by rw [q1]; simp [q3])) rfl ⟨by rw [HRES.out]; rfl, below4 BF.out (by omega)⟩
  cases rj
  · skip
    replace HO := Lib.hid (HO.out.trans (if_neg (show ¬ ((!true || (!true || false)) = true) by decide)))
    have hn600 : n ≤ 601 := by rcases Classical.em (o = 0) with h | h; have := HN rfl h; omega; have := HT rfl h; omega
    have HN6 := Lib.hid hn600
    clear hn600
    obtain ⟨p0, p1, p2, p3⟩ := FP.out _ B2.out
    obtain ⟨t0, t1, t2, t3⟩ := FT.out _ B2.out
    have hk := kt y2
    go_wp2_with (go_at_call 11; refine hk.mono ?_; rintro e z1 ⟨rfl, c1⟩; refine Hid.out ?_)
    refine Lib.hid ?_
    have BZ := Lib.hid (B2.out.trans (c1.mono L2.out))
    have hpz := hp2.later c1
    have LZ : Hid (BX ≤ z1.heap.size) := Lib.hid (Nat.le_trans L2.out c1.size)
    clear hk c1 hp2 p0 p1 p2 p3 t0 t1 t2 t3
    obtain ⟨p0, p1, p2, p3⟩ := FP.out _ BZ.out
    obtain ⟨t0, t1, t2, t3⟩ := FT.out _ BZ.out
    have hk := krj z1
    go_wp2_with (go_at_call 39; refine hk.mono ?_; rintro e z2 ⟨rfl, c1⟩; refine Hid.out ?_)
    refine Lib.hid ?_
    have BZ2 := Lib.hid (BZ.out.trans (c1.mono LZ.out))
    have hpz2 := hpz.later c1
    have LZ2 : Hid (BX ≤ z2.heap.size) := Lib.hid (Nat.le_trans LZ.out c1.size)
    clear hk c1 hpz BZ LZ p0 p1 p2 p3 t0 t1 t2 t3
    have BZ := BZ2
    have hpz := hpz2
    have LZ := LZ2
    clear BZ2 hpz2 LZ2
    have hc := impl_note 4 (mxN a1 1 0) false BX hh 2 z2 hpz (by omega) LZ.out
    go_wp2_with (go_at_call 38; refine hc.mono ?_; rintro e y3 ⟨rfl, hp3, b3⟩; refine Hid.out ?_)
    refine Lib.hid ?_
    have B3 := Lib.hid (BZ.out.trans b3)
    have L3 : Hid (BX ≤ y3.heap.size) := Lib.hid (Nat.le_trans LZ.out b3.size)
    clear hc b3 hpz BZ LZ
    by_cases hl : pn < n
    · have ha2 : decide (pn < n) = true := decide_eq_true hl
      have ha3 : decide (n < pn) = false := by rw [decide_eq_false_iff_not]; omega
      have HRES : Hid (offerS ⟨o, n, c, b⟩ s = (⟨o, n, c, b⟩, 2)) := Lib.hid (by rw [HO.out]; rw [if_pos hl])
      obtain ⟨p0, p1, p2, p3⟩ := FP.out _ B3.out
      obtain ⟨t0, t1, t2, t3⟩ := FT.out _ B3.out
      have hc := impl_note 2 (mxN false 4 (mxN a1 1 0)) true BX hh 3 y3 hp3 (by omega) L3.out
      go_wp2_with (go_at_call 38; refine hc.mono ?_; rintro e y4 ⟨rfl, hp4, b4⟩; refine Hid.out ?_)
      refine Lib.hid ?_
      have B4 := Lib.hid (B3.out.trans b4)
      have L4 : Hid (BX ≤ y4.heap.size) := Lib.hid (Nat.le_trans L3.out b4.size)
      clear hc b4 hp3 p0 p1 p2 p3 t0 t1 t2 t3
      obtain ⟨p0, p1, p2, p3⟩ := FP.out _ B4.out
      obtain ⟨t0, t1, t2, t3⟩ := FT.out _ B4.out
      have hc := impl_note 3 (mxN true 2 (mxN false 4 (mxN a1 1 0))) false BX hh 4 y4 hp4 (by omega) L4.out
      go_wp2_with (go_at_call 38; refine hc.mono ?_; rintro e y5 ⟨rfl, hp5, b5⟩; refine Hid.out ?_)
      refine Lib.hid ?_
      have B5 := Lib.hid (B4.out.trans b5)
      have L5 : Hid (BX ≤ y5.heap.size) := Lib.hid (Nat.le_trans L4.out b5.size)
      clear hc b5 hp4 p0 p1 p2 p3 t0 t1 t2 t3
      have hcode : mxN false 3 (mxN true 2 (mxN false 4 (mxN a1 1 0))) = 2 := by first | exact hmx a1 a2 a3 | (cases a1 <;> decide)
      rw [hcode] at hp5
      have hc := impl_take 2 BX hh 5 y5 hp5 (by omega) L5.out
      clear hcode
      go_wp2_with (go_at_call 40; refine hc.mono ?_; rintro e y6 ⟨rfl, b6⟩; refine Hid.out ?_)
      refine Lib.hid ?_
      have B6 := Lib.hid (B5.out.trans b6)
      clear hc b6 hp5
      have LXY : Hid (w.heap.size ≤ X.heap.size) := Lib.hid BB.out.size
      have BF : Hid (Below w.heap.size w y6) := Lib.hid (BB.out.trans (B6.out.mono (by rw [HBX.out]; exact LXY.out)))
      have KR : Hid (y6.heap[w.heap.size + 1]? = some (.cells #[.int .i64 0, .int .i64 0, .int .i64 0, .string ⟨#[]⟩] 34 (0, 0))) := Lib.hid (FR.out _ B6.out)
      obtain ⟨t0, t1, t2, t3⟩ := FT.out _ B6.out
      have f0 := tcr KR 0
      have f1 := tcr KR 1
      have f2 := tcr KR 2
      have f3 := tcr KR 3
      have z0 := tfr KR 0
      have z1 := tfr KR 1
      have z2 := tfr KR 2
      have z3 := tfr KR 3
      clear HO FT FR FP kt krj kw HT HN
      go_wp2_with fail
      obtain ⟨j0, q1, q2, q3, q4⟩ := info_parts infoTkr
      refine bodyPost_ret (results_cell_row2 (P := Tryz.prog) rfl _ _ (w.heap.size + 1) _ _ (0, 0) _ _ rfl rfl (storeT KR.out) Tryz.underlying34 rfl (by rw [q1]; simp [q3])) rfl ⟨by rw [HRES.out]; rfl, below4 BF.out (by omega)⟩
    have ha2 : decide (pn < n) = false := decide_eq_false hl
    by_cases hg : n < pn
    · have ha3 : decide (n < pn) = true := decide_eq_true hg
      have HRES : Hid (offerS ⟨o, n, c, b⟩ s = (⟨o, n, c, b⟩, 3)) := Lib.hid (by rw [HO.out]; rw [if_neg hl, if_pos hg])
      obtain ⟨p0, p1, p2, p3⟩ := FP.out _ B3.out
      obtain ⟨t0, t1, t2, t3⟩ := FT.out _ B3.out
      have hc := impl_note 2 (mxN false 4 (mxN a1 1 0)) false BX hh 3 y3 hp3 (by omega) L3.out
      go_wp2_with (go_at_call 38; refine hc.mono ?_; rintro e y4 ⟨rfl, hp4, b4⟩; refine Hid.out ?_)
      refine Lib.hid ?_
      have B4 := Lib.hid (B3.out.trans b4)
      have L4 : Hid (BX ≤ y4.heap.size) := Lib.hid (Nat.le_trans L3.out b4.size)
      clear hc b4 hp3 p0 p1 p2 p3 t0 t1 t2 t3
      obtain ⟨p0, p1, p2, p3⟩ := FP.out _ B4.out
      obtain ⟨t0, t1, t2, t3⟩ := FT.out _ B4.out
      have hc := impl_note 3 (mxN false 2 (mxN false 4 (mxN a1 1 0))) true BX hh 4 y4 hp4 (by omega) L4.out
      go_wp2_with (go_at_call 38; refine hc.mono ?_; rintro e y5 ⟨rfl, hp5, b5⟩; refine Hid.out ?_)
      refine Lib.hid ?_
      have B5 := Lib.hid (B4.out.trans b5)
      have L5 : Hid (BX ≤ y5.heap.size) := Lib.hid (Nat.le_trans L4.out b5.size)
      clear hc b5 hp4 p0 p1 p2 p3 t0 t1 t2 t3
      have hcode : mxN true 3 (mxN false 2 (mxN false 4 (mxN a1 1 0))) = 3 := by first | exact hmx a1 a2 a3 | (cases a1 <;> decide)
      rw [hcode] at hp5
      have hc := impl_take 3 BX hh 5 y5 hp5 (by omega) L5.out
      clear hcode
      go_wp2_with (go_at_call 40; refine hc.mono ?_; rintro e y6 ⟨rfl, b6⟩; refine Hid.out ?_)
      refine Lib.hid ?_
      have B6 := Lib.hid (B5.out.trans b6)
      clear hc b6 hp5
      have LXY : Hid (w.heap.size ≤ X.heap.size) := Lib.hid BB.out.size
      have BF : Hid (Below w.heap.size w y6) := Lib.hid (BB.out.trans (B6.out.mono (by rw [HBX.out]; exact LXY.out)))
      have KR : Hid (y6.heap[w.heap.size + 1]? = some (.cells #[.int .i64 0, .int .i64 0, .int .i64 0, .string ⟨#[]⟩] 34 (0, 0))) := Lib.hid (FR.out _ B6.out)
      obtain ⟨t0, t1, t2, t3⟩ := FT.out _ B6.out
      have f0 := tcr KR 0
      have f1 := tcr KR 1
      have f2 := tcr KR 2
      have f3 := tcr KR 3
      have z0 := tfr KR 0
      have z1 := tfr KR 1
      have z2 := tfr KR 2
      have z3 := tfr KR 3
      clear HO FT FR FP kt krj kw HT HN
      go_wp2_with fail
      obtain ⟨j0, q1, q2, q3, q4⟩ := info_parts infoTkr
      refine bodyPost_ret (results_cell_row2 (P := Tryz.prog) rfl _ _ (w.heap.size + 1) _ _ (0, 0) _ _ rfl rfl (storeT KR.out) Tryz.underlying34 rfl (by rw [q1]; simp [q3])) rfl ⟨by rw [HRES.out]; rfl, below4 BF.out (by omega)⟩
    have ha3 : decide (n < pn) = false := decide_eq_false hg
    cases a1
    · have HA1 : Hid (True) := Lib.hid trivial
      have hlast : ¬ pn = po := by simpa using ha1
      have HLA := Lib.hid hlast
      clear hlast ha1
      have HRES : Hid (offerS ⟨o, n, c, b⟩ s = (⟨po, n + 1, pch, b ++ pb⟩, 0)) := Lib.hid (by rw [HO.out]; rw [if_neg hl, if_neg hg, if_neg HLA.out])
      obtain ⟨p0, p1, p2, p3⟩ := FP.out _ B3.out
      obtain ⟨t0, t1, t2, t3⟩ := FT.out _ B3.out
      have hc := impl_note 2 (mxN false 4 (mxN false 1 0)) false BX hh 3 y3 hp3 (by omega) L3.out
      go_wp2_with (go_at_call 38; refine hc.mono ?_; rintro e y4 ⟨rfl, hp4, b4⟩; refine Hid.out ?_)
      refine Lib.hid ?_
      have B4 := Lib.hid (B3.out.trans b4)
      have L4 : Hid (BX ≤ y4.heap.size) := Lib.hid (Nat.le_trans L3.out b4.size)
      clear hc b4 hp3 p0 p1 p2 p3 t0 t1 t2 t3
      obtain ⟨p0, p1, p2, p3⟩ := FP.out _ B4.out
      obtain ⟨t0, t1, t2, t3⟩ := FT.out _ B4.out
      have hc := impl_note 3 (mxN false 2 (mxN false 4 (mxN false 1 0))) false BX hh 4 y4 hp4 (by omega) L4.out
      go_wp2_with (go_at_call 38; refine hc.mono ?_; rintro e y5 ⟨rfl, hp5, b5⟩; refine Hid.out ?_)
      refine Lib.hid ?_
      have B5 := Lib.hid (B4.out.trans b5)
      have L5 : Hid (BX ≤ y5.heap.size) := Lib.hid (Nat.le_trans L4.out b5.size)
      clear hc b5 hp4 p0 p1 p2 p3 t0 t1 t2 t3
      have hcode : mxN false 3 (mxN false 2 (mxN false 4 (mxN false 1 0))) = 0 := by decide
      rw [hcode] at hp5
      have hc := impl_take 0 BX hh 5 y5 hp5 (by omega) L5.out
      clear hcode
      go_wp2_with (go_at_call 40; refine hc.mono ?_; rintro e y6 ⟨rfl, b6⟩; refine Hid.out ?_)
      refine Lib.hid ?_
      have B6 := Lib.hid (B5.out.trans b6)
      clear hc b6 hp5
      have LXY : Hid (w.heap.size ≤ X.heap.size) := Lib.hid BB.out.size
      have BF : Hid (Below w.heap.size w y6) := Lib.hid (BB.out.trans (B6.out.mono (by rw [HBX.out]; exact LXY.out)))
      have LBX : Hid (BX ≤ y6.heap.size) := Lib.hid (by have h := B6.out.size; have h2 := HBX.out; omega)
      obtain ⟨t0, t1, t2, t3⟩ := FT.out _ B6.out
      obtain ⟨p0, p1, p2, p3⟩ := FP.out _ B6.out
      have hk := kw y6 HN6.out
      go_wp2_with (go_at_call 41; refine hk.mono ?_; rintro e y7 ⟨rfl, b7⟩; refine Hid.out ?_)
      refine Lib.hid ?_
      have B7 := Lib.hid (B6.out.trans (b7.mono LBX.out))
      have BF7 : Hid (Below w.heap.size w y7) := Lib.hid (BF.out.trans (b7.mono BF.out.size))
      clear hk b7 t0 t1 t2 t3 p0 p1 p2 p3
      have KR : Hid (y7.heap[w.heap.size + 1]? = some (.cells #[.int .i64 0, .int .i64 0, .int .i64 0, .string ⟨#[]⟩] 34 (0, 0))) := Lib.hid (FR.out _ B7.out)
      have f0 := tcr KR 0
      have f1 := tcr KR 1
      have f2 := tcr KR 2
      have f3 := tcr KR 3
      have z0 := tfr KR 0
      have z1 := tfr KR 1
      have z2 := tfr KR 2
      have z3 := tfr KR 3
      clear HO FT FR FP kt krj kw HT HN
      go_wp2_with fail
      obtain ⟨j0, q1, q2, q3, q4⟩ := info_parts infoTkr
      refine bodyPost_ret (results_cell_row2 (P := Tryz.prog) rfl _ _ (w.heap.size + 1) _ _ (0, 0) _ _ rfl rfl (storeT KR.out) Tryz.underlying34 rfl (by rw [q1]; simp [q3])) rfl ⟨by rw [HRES.out]; rfl, below4 BF7.out (by omega)⟩
    · have HA1 : Hid (True) := Lib.hid trivial
      have hlast : pn = po := by simpa using ha1
      have HLA := Lib.hid hlast
      clear hlast ha1
      have HRES : Hid (offerS ⟨o, n, c, b⟩ s = (⟨po, n + 1, pch, b ++ pb⟩, 1)) := Lib.hid (by rw [HO.out]; rw [if_neg hl, if_neg hg, if_pos HLA.out])
      obtain ⟨p0, p1, p2, p3⟩ := FP.out _ B3.out
      obtain ⟨t0, t1, t2, t3⟩ := FT.out _ B3.out
      have hc := impl_note 2 (mxN false 4 (mxN true 1 0)) false BX hh 3 y3 hp3 (by omega) L3.out
      go_wp2_with (go_at_call 38; refine hc.mono ?_; rintro e y4 ⟨rfl, hp4, b4⟩; refine Hid.out ?_)
      refine Lib.hid ?_
      have B4 := Lib.hid (B3.out.trans b4)
      have L4 : Hid (BX ≤ y4.heap.size) := Lib.hid (Nat.le_trans L3.out b4.size)
      clear hc b4 hp3 p0 p1 p2 p3 t0 t1 t2 t3
      obtain ⟨p0, p1, p2, p3⟩ := FP.out _ B4.out
      obtain ⟨t0, t1, t2, t3⟩ := FT.out _ B4.out
      have hc := impl_note 3 (mxN false 2 (mxN false 4 (mxN true 1 0))) false BX hh 4 y4 hp4 (by omega) L4.out
      go_wp2_with (go_at_call 38; refine hc.mono ?_; rintro e y5 ⟨rfl, hp5, b5⟩; refine Hid.out ?_)
      refine Lib.hid ?_
      have B5 := Lib.hid (B4.out.trans b5)
      have L5 : Hid (BX ≤ y5.heap.size) := Lib.hid (Nat.le_trans L4.out b5.size)
      clear hc b5 hp4 p0 p1 p2 p3 t0 t1 t2 t3
      have hcode : mxN false 3 (mxN false 2 (mxN false 4 (mxN true 1 0))) = 1 := by decide
      rw [hcode] at hp5
      have hc := impl_take 1 BX hh 5 y5 hp5 (by omega) L5.out
      clear hcode
      go_wp2_with (go_at_call 40; refine hc.mono ?_; rintro e y6 ⟨rfl, b6⟩; refine Hid.out ?_)
      refine Lib.hid ?_
      have B6 := Lib.hid (B5.out.trans b6)
      clear hc b6 hp5
      have LXY : Hid (w.heap.size ≤ X.heap.size) := Lib.hid BB.out.size
      have BF : Hid (Below w.heap.size w y6) := Lib.hid (BB.out.trans (B6.out.mono (by rw [HBX.out]; exact LXY.out)))
      have LBX : Hid (BX ≤ y6.heap.size) := Lib.hid (by have h := B6.out.size; have h2 := HBX.out; omega)
      obtain ⟨t0, t1, t2, t3⟩ := FT.out _ B6.out
      obtain ⟨p0, p1, p2, p3⟩ := FP.out _ B6.out
      have hk := kw y6 HN6.out
      go_wp2_with (go_at_call 41; refine hk.mono ?_; rintro e y7 ⟨rfl, b7⟩; refine Hid.out ?_)
      refine Lib.hid ?_
      have B7 := Lib.hid (B6.out.trans (b7.mono LBX.out))
      have BF7 : Hid (Below w.heap.size w y7) := Lib.hid (BF.out.trans (b7.mono BF.out.size))
      clear hk b7 t0 t1 t2 t3 p0 p1 p2 p3
      have KR : Hid (y7.heap[w.heap.size + 1]? = some (.cells #[.int .i64 0, .int .i64 0, .int .i64 0, .string ⟨#[]⟩] 34 (0, 0))) := Lib.hid (FR.out _ B7.out)
      have f0 := tcr KR 0
      have f1 := tcr KR 1
      have f2 := tcr KR 2
      have f3 := tcr KR 3
      have z0 := tfr KR 0
      have z1 := tfr KR 1
      have z2 := tfr KR 2
      have z3 := tfr KR 3
      clear HO FT FR FP kt krj kw HT HN
      go_wp2_with fail
      obtain ⟨j0, q1, q2, q3, q4⟩ := info_parts infoTkr
      refine bodyPost_ret (results_cell_row2 (P := Tryz.prog) rfl _ _ (w.heap.size + 1) _ _ (0, 0) _ _ rfl rfl (storeT KR.out) Tryz.underlying34 rfl (by rw [q1]; simp [q3])) rfl ⟨by rw [HRES.out]; rfl, below4 BF7.out (by omega)⟩
  · skip
    obtain ⟨p0, p1, p2, p3⟩ := FP.out _ B2.out
    obtain ⟨t0, t1, t2, t3⟩ := FT.out _ B2.out
    have hk := kt y2
    go_wp2_with (go_at_call 11; refine hk.mono ?_; rintro e z1 ⟨rfl, c1⟩; refine Hid.out ?_)
    refine Lib.hid ?_
    have BZ := Lib.hid (B2.out.trans (c1.mono L2.out))
    have hpz := hp2.later c1
    have LZ : Hid (BX ≤ z1.heap.size) := Lib.hid (Nat.le_trans L2.out c1.size)
    clear hk c1 hp2 p0 p1 p2 p3 t0 t1 t2 t3
    obtain ⟨p0, p1, p2, p3⟩ := FP.out _ BZ.out
    obtain ⟨t0, t1, t2, t3⟩ := FT.out _ BZ.out
    have hk := krj z1
    go_wp2_with (go_at_call 39; refine hk.mono ?_; rintro e z2 ⟨rfl, c1⟩; refine Hid.out ?_)
    refine Lib.hid ?_
    have BZ2 := Lib.hid (BZ.out.trans (c1.mono LZ.out))
    have hpz2 := hpz.later c1
    have LZ2 : Hid (BX ≤ z2.heap.size) := Lib.hid (Nat.le_trans LZ.out c1.size)
    clear hk c1 hpz BZ LZ p0 p1 p2 p3 t0 t1 t2 t3
    have BZ := BZ2
    have hpz := hpz2
    have LZ := LZ2
    clear BZ2 hpz2 LZ2
    have hc := impl_note 4 (mxN a1 1 0) true BX hh 2 z2 hpz (by omega) LZ.out
    go_wp2_with (go_at_call 38; refine hc.mono ?_; rintro e y3 ⟨rfl, hp3, b3⟩; refine Hid.out ?_)
    refine Lib.hid ?_
    have B3 := Lib.hid (BZ.out.trans b3)
    have L3 : Hid (BX ≤ y3.heap.size) := Lib.hid (Nat.le_trans LZ.out b3.size)
    clear hc b3 hpz BZ LZ
    obtain ⟨a2, ha2⟩ : ∃ a, decide (pn < n) = a := ⟨_, rfl⟩
    obtain ⟨a3, ha3⟩ : ∃ a, decide (n < pn) = a := ⟨_, rfl⟩
    have hmx : ∀ u v w : Bool, mxN w 3 (mxN v 2 (mxN true 4 (mxN u 1 0))) = 4 := by decide
    have HRES : Hid (offerS ⟨o, n, c, b⟩ s = (⟨o, n, c, b⟩, 4)) := Lib.hid (by rw [HO.out]; rfl)
    obtain ⟨p0, p1, p2, p3⟩ := FP.out _ B3.out
    obtain ⟨t0, t1, t2, t3⟩ := FT.out _ B3.out
    have hc := impl_note 2 (mxN true 4 (mxN a1 1 0)) a2 BX hh 3 y3 hp3 (by omega) L3.out
    go_wp2_with (go_at_call 38; refine hc.mono ?_; rintro e y4 ⟨rfl, hp4, b4⟩; refine Hid.out ?_)
    refine Lib.hid ?_
    have B4 := Lib.hid (B3.out.trans b4)
    have L4 : Hid (BX ≤ y4.heap.size) := Lib.hid (Nat.le_trans L3.out b4.size)
    clear hc b4 hp3 p0 p1 p2 p3 t0 t1 t2 t3
    obtain ⟨p0, p1, p2, p3⟩ := FP.out _ B4.out
    obtain ⟨t0, t1, t2, t3⟩ := FT.out _ B4.out
    have hc := impl_note 3 (mxN a2 2 (mxN true 4 (mxN a1 1 0))) a3 BX hh 4 y4 hp4 (by omega) L4.out
    go_wp2_with (go_at_call 38; refine hc.mono ?_; rintro e y5 ⟨rfl, hp5, b5⟩; refine Hid.out ?_)
    refine Lib.hid ?_
    have B5 := Lib.hid (B4.out.trans b5)
    have L5 : Hid (BX ≤ y5.heap.size) := Lib.hid (Nat.le_trans L4.out b5.size)
    clear hc b5 hp4 p0 p1 p2 p3 t0 t1 t2 t3
    have hcode : mxN a3 3 (mxN a2 2 (mxN true 4 (mxN a1 1 0))) = 4 := by first | exact hmx a1 a2 a3 | (cases a1 <;> decide)
    rw [hcode] at hp5
    have hc := impl_take 4 BX hh 5 y5 hp5 (by omega) L5.out
    clear hcode
    go_wp2_with (go_at_call 40; refine hc.mono ?_; rintro e y6 ⟨rfl, b6⟩; refine Hid.out ?_)
    refine Lib.hid ?_
    have B6 := Lib.hid (B5.out.trans b6)
    clear hc b6 hp5
    have LXY : Hid (w.heap.size ≤ X.heap.size) := Lib.hid BB.out.size
    have BF : Hid (Below w.heap.size w y6) := Lib.hid (BB.out.trans (B6.out.mono (by rw [HBX.out]; exact LXY.out)))
    have KR : Hid (y6.heap[w.heap.size + 1]? = some (.cells #[.int .i64 0, .int .i64 0, .int .i64 0, .string ⟨#[]⟩] 34 (0, 0))) := Lib.hid (FR.out _ B6.out)
    obtain ⟨t0, t1, t2, t3⟩ := FT.out _ B6.out
    have f0 := tcr KR 0
    have f1 := tcr KR 1
    have f2 := tcr KR 2
    have f3 := tcr KR 3
    have z0 := tfr KR 0
    have z1 := tfr KR 1
    have z2 := tfr KR 2
    have z3 := tfr KR 3
    clear HO FT FR FP kt krj kw HT HN
    go_wp2_with fail
    obtain ⟨j0, q1, q2, q3, q4⟩ := info_parts infoTkr
    refine bodyPost_ret (results_cell_row2 (P := Tryz.prog) rfl _ _ (w.heap.size + 1) _ _ (0, 0) _ _ rfl rfl (storeT KR.out) Tryz.underlying34 rfl (by rw [q1]; simp [q3])) rfl ⟨by rw [HRES.out]; rfl, below4 BF.out (by omega)⟩
end Go.Proofs.YtdpjdjkfedcojaaGreat
