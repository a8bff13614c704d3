/- What the program's Begin and TakerOk answer, and what a Taker makes of a piece. Condition: texts of a size that a text may have. -/
import Derived.Test.YtdpjdjkfedcojaaTkForms
import Derived.Test.YtdpjdjkfedcojaaSpecTkA
import Derived.Test.YtdpjdjkfedcojaaImplPc
import Derived.Test.YtdpjdjkfedcojaaImplHash
import Derived.Test.YtdpjdjkfedcojaaBaseA
namespace Go.Proofs.Ytdpjdjkfedcojaa
open Go.RowKit
set_option linter.unusedVariables false
set_option linter.unusedSimpArgs false

theorem impl_first8 (w : World) : Calls Try.prog 53 #[] w fun e w' => e = .returned (.int .i64 (hashN [] : Nat)) ∧ w = w' := by
  have hc := fun w => impl_hash ⟨#[]⟩ w (by unfold maxLen; exact Nat.zero_le _)
  obtain ⟨h0, hh⟩ : ∃ z, z = hashN [] := ⟨_, rfl⟩
  change ∀ w, Calls Try.prog 91 #[.string ⟨#[]⟩] w fun e w' => e = .returned (.int .i64 ((hashN [] : Nat) : Int)) ∧ w = w' at hc
  rw [← hh] at hc ⊢
  clear hh
  go_enter Try.func53, Try.ntmps53
  go_wp2_with (go_at_call 91; refine (hc _).mono ?_; rintro e w1 ⟨rfl, rfl⟩)
  go_ret
  exact ⟨rfl, rfl⟩
set_option maxRecDepth 100000 in
set_option maxHeartbeats 4000000 in
theorem impl_begin (c : Int) (w : World) : Calls Try.prog 23 #[.int .i64 c] w fun e w' => e = .returned (tkrV tkN) ∧ Below w.heap.size w w' := by
  have kh := fun w => impl_first8 w
  have HRES : Hid (tkrV tkN = .agg #[.int .i64 0, .int .i64 1, .int .i64 (hashN [] : Nat), .string ⟨#[]⟩]) := Lib.hid rfl
  obtain ⟨H, hH⟩ : ∃ z : Nat, z = hashN [] := ⟨_, rfl⟩
  rw [← hH] at kh HRES
  clear hH
  go_enter Try.func23, Try.ntmps23
  go_wp2_with (go_at_call 53; refine (kh _).mono ?_; rintro e w1 ⟨rfl, rfl⟩)
  obtain ⟨j0, q1, q2, q3, q4⟩ := info_parts infoTkr
  refine bodyPost_ret (results_cell_row (P := Try.prog) rfl _ _ w.heap.size _ _ (0, 0) _ rfl (heap_new _ _) Try.underlying25 rfl (by rw [q1]; simp [q3])) rfl ⟨by rw [HRES.out], (Below.refl _ _).alloc (Nat.le_refl _) _⟩
/-- A Taker that isn't the new one: what the program asks of it. -/
theorem tkr_bad {t : Tkr} (hne : tkrEq t tkN = false) (h : t.nx < 2 ∨ t.of + 1 < t.nx ∨ 600 < t.of ∨ inB t.ch 0 4294967295 = false ∨ (t.b.size : Int) < t.nx - 1 ∨ (t.nx - 1) * 200 < t.b.size) : tkrOk t = false := by
  rw [Bool.eq_false_iff]
  intro hq
  by_cases h0 : t.of = 0
  · have := tkr_new hq h0
    rw [this, tkrEq_refl] at hne
    cases hne
  · obtain ⟨⟨a1, a2⟩, ⟨b1, b2⟩, ⟨c1, c2⟩, d1, d2⟩ := tkr_in hq h0
    rcases h with h | h | h | h | h | h
    · omega
    · omega
    · omega
    · unfold inB at h; simp at h; omega
    · omega
    · omega
theorem tkr_right {t : Tkr} (h1 : ¬ t.nx < 2) (h2 : ¬ t.of + 1 < t.nx) (h3 : ¬ 600 < t.of) (h4 : inB t.ch 0 4294967295 = true) (h5 : ¬ (t.b.size : Int) < t.nx - 1) (h6 : ¬ (t.nx - 1) * 200 < t.b.size) : tkrOk t = true := by
  obtain ⟨o, n, c, b⟩ := t
  exact tkr_mk (by dsimp only at *; omega) (by dsimp only at *; omega) (inB_true h4) (by dsimp only at *; omega)
set_option maxRecDepth 100000 in
set_option maxHeartbeats 8000000 in
theorem impl_takerOk (t : Tkr) (w : World) (hf : FitTkr t) :
    Calls Try.prog 14 #[tkrV t] w fun e w' => e = .returned (.bool (tkrOk t)) ∧ Below w.heap.size w w' := by
  obtain ⟨⟨o1, o2⟩, ⟨n1, n2⟩, ⟨c1, c2⟩, hb⟩ := hf
  have HBD := Lib.hid (@tkr_bad t)
  have HRT := Lib.hid (@tkr_right t)
  have HEQ : Hid (tkrEq t tkN = true → tkrOk t = true) := Lib.hid (fun h => by rw [tkrEq_iff.1 h]; exact tkr_new_ok)
  obtain ⟨o, n, c, b⟩ := t
  dsimp only at o1 o2 n1 n2 c1 c2 hb HBD HRT
  unfold maxLen at hb
  have he := fun w => eql_tk ⟨o, n, c, b⟩ tkN w
  have kb := fun w => impl_begin 0 w
  have hch := fun w => impl_chainOk c w
  obtain ⟨r, hr⟩ : ∃ r, r = tkrEq ⟨o, n, c, b⟩ tkN := ⟨_, rfl⟩
  rw [← hr] at he HEQ HBD
  clear hr
  obtain ⟨res, hres⟩ : ∃ r, r = tkrOk ⟨o, n, c, b⟩ := ⟨_, rfl⟩
  rw [← hres] at HEQ HBD HRT ⊢
  clear hres
  unfold tkrV at he kb ⊢
  unfold tkN at he kb
  dsimp only at he kb ⊢
  obtain ⟨H, hH⟩ : ∃ z : Int, z = (hashN [] : Nat) := ⟨_, rfl⟩
  rw [← hH] at he kb
  clear hH
  obtain ⟨X, hX⟩ : ∃ X, X = w.alloc (.cells #[.int .i64 o, .int .i64 n, .int .i64 c, .string b] 25) := ⟨_, rfl⟩
  have KX : Hid (X.heap[w.heap.size]? = some (.cells #[.int .i64 o, .int .i64 n, .int .i64 c, .string b] 25 (0, 0))) := Lib.hid (by rw [hX]; exact heap_new _ _)
  have LX : Hid (w.heap.size < X.heap.size) := Lib.hid (by rw [hX]; simp)
  have BB : Hid (Below w.heap.size w X) := Lib.hid (by rw [hX]; exact (Below.refl _ _).alloc (Nat.le_refl _) _)
  go_enter Try.func14, Try.ntmps14
  go_wp2_with fail
  rw [← hX]
  clear hX
  have FX : Hid (∀ w', Below X.heap.size X w' → w'.cell? ⟨w.heap.size, 0, none⟩ = some (.int .i64 o) ∧ w'.cell? ⟨w.heap.size, 1, none⟩ = some (.int .i64 n) ∧ w'.cell? ⟨w.heap.size, 2, none⟩ = some (.int .i64 c) ∧ w'.cell? ⟨w.heap.size, 3, none⟩ = some (.string b)) := Lib.hid (fun w' h => by have K := tkb h LX KX; exact ⟨tcr K 0, tcr K 1, tcr K 2, tcr K 3⟩)
  refine wp_region_held_drew (S := (fun w' => Below X.heap.size X w')) (by kernel_rfl) (Below.refl _ _).drew (fun hHeld => ?_)
  obtain ⟨zD, hzD⟩ : ∃ zz, zz = X.drew := ⟨_, rfl⟩
  rw [← hzD] at hHeld ⊢
  clear hzD
  have BD := Lib.hid hHeld
  refine tk 0 (v := ?_) ?_ ?_; rotate_left
  · refine Or.inl ⟨by rfl, ?_⟩; intro w hSw; obtain ⟨f0, f1, f2, f3⟩ := FX.out w hSw; go_simp; first | done | with_reducible rfl
  refine rd1 1 (fun K hK => ?_)
  go_simp
  have hc := kb zD
  go_at_call 23
  refine hc.mono ?_
  rintro e w2 ⟨rfl, hb2⟩
  replace BD := tbt BD hb2
  clear hc hb2 kb
  go_wp2_with fail
  refine hK.out _ _ BD.out (fun hHeld => ?_)
  clear hK K
  refine tk0 2 ?_
  refine wpAnyH_done (by kernel_rfl) ?_ _
  clear hHeld he
  have BW := Lib.hid (BB.out.trans (BD.out.mono BB.out.size))
  obtain ⟨f0, f1, f2, f3⟩ := FX.out _ BD.out
  clear FX BD BB KX LX
  cases r
  · skip
    by_cases h1 : n < 2
    · skip
      have HR := Lib.hid (HBD.out rfl (Or.inl h1))
      clear HBD HRT HEQ
      go_wp2_with fail
      go_ret
      exact ⟨ret_bool HR.out.symm, BW.out⟩
    have d1 : decide (n < 2) = false := decide_eq_false h1
    have hov : o = 9223372036854775807 ∨ IntKind.i64.wrap (o + 1) = o + 1 := by rw [IntKind.wrap_i64]; omega
    by_cases h3 : 600 < o
    · have d3 : decide (600 < o) = true := decide_eq_true h3
      have HR := Lib.hid (HBD.out rfl (Or.inr (Or.inr (Or.inl h3))))
      clear HBD HRT HEQ hov
      obtain ⟨ov, hwo⟩ : ∃ ov, IntKind.i64.wrap (o + 1) = ov := ⟨_, rfl⟩
      by_cases h2 : ov < n
      · have d2 := decide_eq_true h2
        go_wp2_with fail
        go_ret
        exact ⟨ret_bool HR.out.symm, BW.out⟩
      · have d2 := decide_eq_false h2
        go_wp2_with fail
        go_ret
        exact ⟨ret_bool HR.out.symm, BW.out⟩
    have d3 : decide (600 < o) = false := decide_eq_false h3
    have hwo : IntKind.i64.wrap (o + 1) = o + 1 := by rcases hov with h | h; omega; exact h
    clear hov
    by_cases h2 : o + 1 < n
    · have d2 : decide (o + 1 < n) = true := decide_eq_true h2
      have HR := Lib.hid (HBD.out rfl (Or.inr (Or.inl h2)))
      clear HBD HRT HEQ
      go_wp2_with fail
      go_ret
      exact ⟨ret_bool HR.out.symm, BW.out⟩
    have d2 : decide (o + 1 < n) = false := decide_eq_false h2
    cases h4 : inB c 0 4294967295
    · rw [h4] at hch
      have HR := Lib.hid (HBD.out rfl (Or.inr (Or.inr (Or.inr (Or.inl h4)))))
      clear HBD HRT HEQ
      go_wp2_with (go_at_call 45; refine (hch _).mono ?_; rintro e w' ⟨rfl, rfl⟩)
      go_ret
      exact ⟨ret_bool HR.out.symm, BW.out⟩
    rw [h4] at hch
    have hw1 : IntKind.i64.wrap (n - 1) = n - 1 := by rw [IntKind.wrap_i64]; omega
    have hw2 : IntKind.i64.wrap ((n - 1) * 200) = (n - 1) * 200 := by rw [IntKind.wrap_i64]; omega
    by_cases h5 : (b.size : Int) < n - 1
    · have d5 : ¬ n - 1 ≤ (b.size : Int) := by omega
      have HR := Lib.hid (HBD.out rfl (Or.inr (Or.inr (Or.inr (Or.inr (Or.inl h5))))))
      clear HBD HRT HEQ
      go_wp2_with (go_at_call 45; refine (hch _).mono ?_; rintro e w' ⟨rfl, rfl⟩)
      go_ret
      exact ⟨ret_bool HR.out.symm, BW.out⟩
    have d5 : n - 1 ≤ (b.size : Int) := by omega
    by_cases h6 : (n - 1) * 200 < (b.size : Int)
    · have d6 : ¬ (b.size : Int) ≤ (n - 1) * 200 := by omega
      have HR := Lib.hid (HBD.out rfl (Or.inr (Or.inr (Or.inr (Or.inr (Or.inr h6))))))
      clear HBD HRT HEQ
      go_wp2_with (go_at_call 45; refine (hch _).mono ?_; rintro e w' ⟨rfl, rfl⟩)
      go_ret
      exact ⟨ret_bool ((decide_eq_false (by omega)).trans HR.out.symm), BW.out⟩
    have d6 : (b.size : Int) ≤ (n - 1) * 200 := by omega
    have HR := Lib.hid (HRT.out (by omega) (by omega) (by omega) h4 (by omega) (by omega))
    clear HBD HRT HEQ
    go_wp2_with (go_at_call 45; refine (hch _).mono ?_; rintro e w' ⟨rfl, rfl⟩)
    go_ret
    exact ⟨ret_bool HR.out.symm, BW.out⟩
  · have HR := Lib.hid (HEQ.out rfl)
    clear HBD HRT HEQ
    go_wp2_with fail
    go_ret
    exact ⟨ret_bool HR.out.symm, BW.out⟩
end Go.Proofs.Ytdpjdjkfedcojaa
