/- What spec.Begin and TakerOk answer. Condition: texts of a size that a text may have. -/
import Derived.Test.YtdpjdjkfedcojaaGreatTkForms
import Derived.Test.YtdpjdjkfedcojaaGreatSpecGet
import Derived.Test.YtdpjdjkfedcojaaGreatSpecDec
import Derived.Test.YtdpjdjkfedcojaaGreatBaseA
namespace Go.Proofs.YtdpjdjkfedcojaaGreat
open Go.RowKit
set_option linter.unusedVariables false
set_option linter.unusedSimpArgs false

theorem infoTkr : (Tryz.prog.info? 34).map (fun i => (i.zero, i.size, i.bytes)) = some (some (.agg #[.int .i64 0, .int .i64 0, .int .i64 0, .string ⟨#[]⟩]), 4, 40) := by kernel_rfl
theorem storeT {w : World} {g : Nat} {a b c d x y z u : Value} (h : w.heap[g]? = some (.cells #[a, b, c, d] 34 (0, 0))) :
    ((((w.setCell ⟨g, 0, none⟩ x).setCell ⟨g, 1, none⟩ y).setCell ⟨g, 2, none⟩ z).setCell ⟨g, 3, none⟩ u).heap[g]? = some (.cells #[x, y, z, u] 34 (0, 0)) :=
  heap_setCell_same _ g 3 _ _ u (heap_setCell_same _ g 2 _ _ z (heap_setCell_same _ g 1 _ _ y (heap_setCell_same _ g 0 _ _ x h)))
set_option maxRecDepth 100000 in
set_option maxHeartbeats 4000000 in
theorem spec_begin (c : Int) (w : World) : Calls Tryz.prog 10 #[.int .i64 c] w fun e w' => e = .returned (tkrV tkN) ∧ Below w.heap.size w w' := by
  have kh := fun w => spec_hash ⟨#[]⟩ w (by decide)
  have HRES : Hid (tkrV tkN = .agg #[.int .i64 0, .int .i64 1, .int .i64 (hashN (⟨#[]⟩ : ByteArray).data.toList : Nat), .string ⟨#[]⟩]) := Lib.hid rfl
  obtain ⟨H, hH⟩ : ∃ z : Nat, z = hashN (⟨#[]⟩ : ByteArray).data.toList := ⟨_, rfl⟩
  rw [← hH] at kh HRES
  clear hH
  go_enter Tryz.func10, Tryz.ntmps10
  go_wp2_with (go_at_call 30; refine (kh _).mono ?_; rintro e w1 ⟨rfl, rfl⟩)
  obtain ⟨j0, q1, q2, q3, q4⟩ := info_parts infoTkr
  refine bodyPost_ret (results_cell_row (P := Tryz.prog) rfl _ _ w.heap.size _ _ (0, 0) _ rfl (heap_new _ _) Tryz.underlying34 rfl (by rw [q1]; simp [q3])) rfl ⟨by rw [HRES.out], (Below.refl _ _).alloc (Nat.le_refl _) _⟩
set_option maxRecDepth 100000 in
set_option maxHeartbeats 4000000 in
theorem spec_takerOk (t : Tkr) (w : World) (hf : FitTkr t) :
    Calls Tryz.prog 43 #[tkrV t] w fun e w' => e = .returned (.bool (tkrOk t)) ∧ Below w.heap.size w w' := by
  obtain ⟨⟨o1, o2⟩, ⟨n1, n2⟩, ⟨c1, c2⟩, hb⟩ := hf
  obtain ⟨o, n, c, b⟩ := t
  dsimp only at o1 o2 n1 n2 c1 c2 hb
  by_cases h0 : o = 0
  · have HRES : Hid (tkrOk ⟨o, n, c, b⟩ = tkrEq ⟨o, n, c, b⟩ tkN) := Lib.hid (by
      rw [Bool.eq_iff_iff]
      exact ⟨fun h => tkrEq_iff.2 (tkr_new h h0), fun h => by rw [tkrEq_iff.1 h]; exact tkr_new_ok⟩)
    have he := fun w => eql_tk ⟨o, n, c, b⟩ tkN w
    have kb := fun w => spec_begin 0 w
    obtain ⟨r, hr⟩ : ∃ r, r = tkrEq ⟨o, n, c, b⟩ tkN := ⟨_, rfl⟩
    rw [← hr] at he HRES
    clear hr
    have hob : (o == 0) = true := by rw [h0]; rfl
    rw [HRES.out]
    unfold tkrV at he kb ⊢
    unfold tkN at he kb
    dsimp only at he kb ⊢
    obtain ⟨H, hH⟩ : ∃ z : Int, z = (hashN [] : Nat) := ⟨_, rfl⟩
    rw [← hH] at he kb
    clear hH h0
    obtain ⟨X, hX⟩ : ∃ X, X = w.alloc (.cells #[.int .i64 o, .int .i64 n, .int .i64 c, .string b] 34) := ⟨_, rfl⟩
    have KX : Hid (X.heap[w.heap.size]? = some (.cells #[.int .i64 o, .int .i64 n, .int .i64 c, .string b] 34 (0, 0))) := Lib.hid (by rw [hX]; exact heap_new _ _)
    have LX : Hid (w.heap.size < X.heap.size) := Lib.hid (by rw [hX]; simp)
    have BB : Hid (Below w.heap.size w X) := Lib.hid (by rw [hX]; exact (Below.refl _ _).alloc (Nat.le_refl _) _)
    go_enter Tryz.func43, Tryz.ntmps43
    go_wp2_with fail
    rw [← hX]
    clear hX
    have FX : Hid (∀ w', Below X.heap.size X w' → w'.cell? ⟨w.heap.size, 0, none⟩ = some (.int .i64 o) ∧ w'.cell? ⟨w.heap.size, 1, none⟩ = some (.int .i64 n) ∧ w'.cell? ⟨w.heap.size, 2, none⟩ = some (.int .i64 c) ∧ w'.cell? ⟨w.heap.size, 3, none⟩ = some (.string b)) := Lib.hid (fun w' h => by have K := tkb h LX KX; exact ⟨tcr K 0, tcr K 1, tcr K 2, tcr K 3⟩)
    refine wp_region_held_drew (S := (fun w' => Below X.heap.size X w')) (by kernel_rfl) (Below.refl _ _).drew (fun hHeld => ?_)
    obtain ⟨zD, hzD⟩ : ∃ zz, zz = X.drew := ⟨_, rfl⟩
    rw [← hzD] at hHeld ⊢
    clear hzD
    have BD := Lib.hid hHeld
    refine tk 0 (v := ?_) ?_ ?_; rotate_left
    · refine Or.inl ⟨by rfl, ?_⟩; intro w hSw; obtain ⟨f0, f1, f2, f3⟩ := FX.out w hSw; go_simp; first | done | with_reducible rfl
    refine rd1 1 (fun K hK => ?_)
    go_simp
    have hc := kb zD
    go_at_call 10
    refine hc.mono ?_
    rintro e w2 ⟨rfl, hb2⟩
    replace BD := tbt BD hb2
    clear hc hb2 kb
    go_wp2_with fail
    refine hK.out _ _ BD.out (fun hHeld => ?_)
    clear hK K
    refine tk0 2 ?_
    refine tk0 3 ?_
    refine wpAnyH_done (by kernel_rfl) ?_ _
    clear hHeld
    go_wp2_with fail
    go_ret
    exact ⟨rfl, BB.out.trans (BD.out.mono BB.out.size)⟩
  · have HRES : Hid (tkrOk ⟨o, n, c, b⟩ = (inB o 1 600 && (inB n 2 (o + 1) && (inB c 0 4294967295 && inB b.size (n - 1) (200 * (n - 1)))))) := Lib.hid (by unfold tkrOk; rw [if_neg h0])
    have hob : (o == 0) = false := by rw [beq_eq_false_iff_ne]; exact h0
    rw [HRES.out]
    unfold tkrV
    dsimp only
    have hc : ∀ (x a b : Int) (c : Bool) (w : World), inB x a b = c → Calls Tryz.prog 66 #[.int .i64 x, .int .i64 a, .int .i64 b] w fun e w' => e = .returned (.bool c) ∧ w = w' := fun x a b c w h => by rw [← h]; exact in_any x a b w
    have hc4 : ∀ (x : Int) (c : Bool) (w : World), inB x 0 4294967295 = c → Calls Tryz.prog 80 #[.int .i64 x] w fun e w' => e = .returned (.bool c) ∧ w = w' := fun x c w h => by rw [← h]; exact spec_word x w
    have HB : Hid (Below w.heap.size w (w.alloc (.cells #[.int .i64 o, .int .i64 n, .int .i64 c, .string b] 34))) := Lib.hid ((Below.refl _ _).alloc (Nat.le_refl _) _)
    clear HRES h0
    cases h1 : inB o 1 600
    · go_enter Tryz.func43, Tryz.ntmps43
      go_wp2_with (go_at_call 66; refine (hc _ _ _ _ _ (by assumption)).mono ?_; rintro e w' ⟨rfl, rfl⟩)
      go_ret
      exact ⟨rfl, HB.out⟩
    have ho := inB_true h1
    have hwo : IntKind.i64.wrap (o + 1) = o + 1 := by rw [IntKind.wrap_i64]; omega
    cases h2 : inB n 2 (o + 1)
    · go_enter Tryz.func43, Tryz.ntmps43
      go_wp2_with (go_at_call 66; refine (hc _ _ _ _ _ (by assumption)).mono ?_; rintro e w' ⟨rfl, rfl⟩)
      go_ret
      exact ⟨rfl, HB.out⟩
    have hn := inB_true h2
    have hwn : IntKind.i64.wrap (n - 1) = n - 1 := by rw [IntKind.wrap_i64]; omega
    have hw2 : IntKind.i64.wrap (200 * (n - 1)) = 200 * (n - 1) := by rw [IntKind.wrap_i64]; omega
    cases h3 : inB c 0 4294967295
    · go_enter Tryz.func43, Tryz.ntmps43
      go_wp2_with (first | (go_at_call 80; refine (hc4 _ _ _ (by assumption)).mono ?_; rintro e w' ⟨rfl, rfl⟩) | (go_at_call 66; refine (hc _ _ _ _ _ (by assumption)).mono ?_; rintro e w' ⟨rfl, rfl⟩))
      go_ret
      exact ⟨rfl, HB.out⟩
    cases h4 : inB b.size (n - 1) (200 * (n - 1))
    all_goals
      go_enter Tryz.func43, Tryz.ntmps43
      go_wp2_with (first | (go_at_call 80; refine (hc4 _ _ _ (by assumption)).mono ?_; rintro e w' ⟨rfl, rfl⟩) | (go_at_call 66; refine (hc _ _ _ _ _ (by assumption)).mono ?_; rintro e w' ⟨rfl, rfl⟩))
      go_ret
      exact ⟨rfl, HB.out⟩
end Go.Proofs.YtdpjdjkfedcojaaGreat
