/- The law FnOrder: in whatever order different names are put, the state is the same. Condition: none. -/
import Derived.Test.YtkoohmibdaomkaaBig
import Derived.Test.YtkoohmibdaomkaaOrderFacts
import Derived.Test.YtkoohmibdaomkaaAppendNil
import Derived.Test.YtkoohmibdaomkaaDec
import Derived.Test.YtkoohmibdaomkaaImplPutState
import Derived.Test.YtkoohmibdaomkaaImplSame
import Derived.Test.YtkoohmibdaomkaaImplState
namespace Go.Proofs.Ytkoohmibdaomkaa
open Go.RowKit
set_option linter.unusedVariables false
set_option linter.unusedSimpArgs false

/-- A byte of the code, or a number that stands for it. -/
def atN (zs : List Int) (len i : Nat) : Nat := if i < len then (zs.getD i 0).toNat % 256 else (i * 7 + len) % 256
theorem atN_lt (zs : List Int) (len i : Nat) : atN zs len i < 256 := by unfold atN; split <;> omega
theorem at_at (a : Option Addr) (len cap : Nat) (zs : List Int) (i : Nat) (hi : i ≤ 20) (w : World) (hr : Row8 w w.heap.size a len cap zs) (hl : len ≤ 1048576) :
    Calls Try.prog 37 #[.slice a len cap, .int .i64 i] w fun e w' => e = .returned (.int .i64 (atN zs len i)) ∧ w = w' := by
  by_cases h : i < len
  · obtain ⟨b, off, z, rfl, hb, hcell, hz0, hz1, hzz⟩ := hr.byte i h
    have hv : Hid (z = (atN zs len i : Int)) := Lib.hid (by unfold atN; rw [if_pos h, ← hzz]; omega)
    clear hzz
    go_enter Try.func37, Try.ntmps37
    go_wp2_with fail
    go_ret
    exact ⟨ret_int hv.out, rfl⟩
  · have hv : Hid (((i : Int) * 7 + (len : Int)).tmod 256 = (atN zs len i : Int)) := Lib.hid (by unfold atN; rw [if_neg h, Int.tmod_eq_emod_of_nonneg (by omega)]; omega)
    go_enter Try.func37, Try.ntmps37
    go_wp2_with fail
    go_ret
    exact ⟨ret_int (by rw [← hv.out]; rfl), rfl⟩
/-- As OwnN, or the zero state. -/
def OwnO (w : World) (base : Nat) (v : Value) (s : St) : Prop := (v = .agg #[.slice none 0 0, .slice none 0 0] ∧ s = ⟨[], []⟩) ∨ OwnN w base v s
theorem OwnO.kept {w w' : World} {base b : Nat} {v : Value} {s : St} (h : OwnO w base v s) (hg : w.grownBy w' (some b)) (hb : b < base) : OwnO w' base v s := h.imp id (fun h => h.kept hg hb)
theorem OwnO.later {w w' : World} {base : Nat} {v : Value} {s : St} (h : OwnO w base v s) (hb : Below w.heap.size w w') : OwnO w' base v s := h.imp id (fun h => h.later hb)
theorem OwnO.st {w : World} {base : Nat} {v : Value} {s : St} (h : OwnO w base v s) : StV w w.heap.size v s := by
  rcases h with ⟨rfl, rfl⟩ | h
  · exact ⟨_, _, rfl, ⟨rfl, .inl ⟨rfl, rfl⟩⟩, ⟨rfl, .inl ⟨rfl, rfl⟩⟩⟩
  · exact h.st
theorem both_boxes (z : World) (R X : Nat) (t1 t2 : TypeId) (a b c d : Value) (hR : z.heap[R]? = some (.cells #[a, b] t1 (0, 0))) (hX : z.heap[X]? = some (.cells #[c, d] t2 (0, 0))) (hne : R ≠ X) (v0 v1 x0 x1 : Value) :
    ∃ Y, Y = (((z.setCell ⟨R, 0, none⟩ v0).setCell ⟨R, 1, none⟩ v1).setCell ⟨X, 0, none⟩ x0).setCell ⟨X, 1, none⟩ x1 ∧ Y.heap[R]? = some (.cells #[v0, v1] t1 (0, 0)) ∧ Y.heap[X]? = some (.cells #[x0, x1] t2 (0, 0)) ∧
      (∀ base, R < base ∧ X < base → ∀ {v : Value} {s : St}, OwnN z base v s → OwnN Y base v s) ∧ Y.heap.size = z.heap.size := by
  refine ⟨_, rfl, ?_, ?_, fun base hb v s h => ?_, by simp⟩
  · have k1 := heap_setCell_same z R 0 _ _ v0 hR
    have k2 := heap_setCell_same _ R 1 _ _ v1 k1
    rw [Below.heap_setCell _ _ _ _ (by simpa using hne), Below.heap_setCell _ _ _ _ (by simpa using hne)]
    simpa using k2
  · have k0 : ((z.setCell ⟨R, 0, none⟩ v0).setCell ⟨R, 1, none⟩ v1).heap[X]? = some (.cells #[c, d] t2 (0, 0)) := by
      rw [Below.heap_setCell _ _ _ _ (by simpa using hne.symm), Below.heap_setCell _ _ _ _ (by simpa using hne.symm)]; exact hX
    have k1 := heap_setCell_same _ X 0 _ _ x0 k0
    have k2 := heap_setCell_same _ X 1 _ _ x1 k1
    simpa using k2
  · exact (((h.kept (grown_set _ ⟨R, 0, none⟩ _) hb.1).kept (grown_set _ ⟨R, 1, none⟩ _) hb.1).kept (grown_set _ ⟨X, 0, none⟩ _) hb.2).kept (grown_set _ ⟨X, 1, none⟩ _) hb.2
set_option maxRecDepth 100000 in
set_option maxHeartbeats 16000000 in
theorem law_order (a : Option Addr) (len cap : Nat) (zs : List Int) (w : World) (hr : IsRow .u8 w a len cap zs) :
    Calls Try.prog 7 #[.slice a len cap] w fun e w' => e = .returned (.bool true) ∧ Below w.heap.size w w' := by
  have hr := row8_of hr
  by_cases hbig : 1048576 < len
  · have hd : decide (1048576 < len) = true := by simpa using hbig
    go_enter Try.func7, Try.ntmps7
    go_wp2_with (go_at_call 15; refine (big_any _ _ _ _).mono ?_; rintro e w' ⟨rfl, rfl⟩)
    go_ret
    exact ⟨rfl, Below.refl _ _⟩
  · have hd : decide (1048576 < len) = false := by simpa using hbig
    have hlen : len ≤ 1048576 := by omega
    obtain ⟨f, hfd⟩ : ∃ f, f = atN zs len := ⟨_, rfl⟩
    have hf : ∀ i, f i < 256 := by rw [hfd]; exact atN_lt zs len
    have hat : ∀ (i : Nat), i ≤ 20 → ∀ wx, Below w.heap.size w wx → Calls Try.prog 37 #[.slice a len cap, .int .i64 i] wx fun e w' => e = .returned (.int .i64 (f i)) ∧ wx = w' := fun i hi wx hb => by rw [hfd]; exact at_at a len cap zs i hi wx (hr.later hb) hlen
    have Hat := Lib.hid hat
    have Hf := Lib.hid hf
    clear hat hf hfd
    obtain ⟨W, hW⟩ : ∃ W, W = (w.alloc (.cells #[.slice none 0 0, .slice none 0 0] 27)).alloc (.cells #[.slice none 0 0, .slice none 0 0] 27) := ⟨_, rfl⟩
    have hbW : Below w.heap.size w W := by rw [hW]; exact ((Below.refl _ _).alloc (Nat.le_refl _) _).alloc (by simp) _
    have hWs : W.heap.size = w.heap.size + 2 := by rw [hW]; simp
    have KA : Hid (W.heap[w.heap.size]? = some (.cells #[.slice none 0 0, .slice none 0 0] 27 (0, 0))) := Lib.hid (by rw [hW, Below.heap_alloc _ _ _ (by simp)]; exact heap_new _ _)
    have KB : Hid (W.heap[w.heap.size + 1]? = some (.cells #[.slice none 0 0, .slice none 0 0] 27 (0, 0))) := Lib.hid (by rw [hW]; simpa using heap_new (w.alloc (.cells #[.slice none 0 0, .slice none 0 0] 27)) (.cells #[.slice none 0 0, .slice none 0 0] 27))
    have HWs := Lib.hid hWs
    have HbW := Lib.hid hbW
    have hc := Hat.out 0 (by omega) W hbW
    rw [hW] at hc
    clear hr hWs hbW
    go_enter Try.func7, Try.ntmps7
    go_wp2_with (first | (go_at_call 15; refine (big_any _ _ _ _).mono ?_; rintro e w' ⟨rfl, rfl⟩) | (go_at_call 37; refine hc.mono ?_; rintro e w1 ⟨rfl, hw1⟩; refine Hid.out ?_))
    refine Lib.hid ?_
    rw [← hW] at hw1
    obtain rfl : W = w1 := hw1
    obtain ⟨n, hn⟩ : ∃ n, n = f 0 % 12 := ⟨_, rfl⟩
    have hn12 : n < 12 := by omega
    have hnt : ((f 0 : Nat) : Int).tmod 12 = (n : Int) := by rw [hn, Int.tmod_eq_emod_of_nonneg (by omega)]; simp
    have hnt2 : ((f 0 : Nat) : Int) % 12 = (n : Int) := by omega
    clear hc hn hW
    go_wp2_with fail
    go_loopw [6] (fun i wr => ∃ (k : Nat) (sA sB : St) (pa pb : Option Addr) (pc pd : Nat) (qa qb : Option Addr) (qc qd : Nat), k ≤ n ∧ i = .int .i64 k ∧ Hid (PutA f k sA) ∧ Hid (PutZ f n k sB) ∧ Hid (wr.heap[w.heap.size]? = some (.cells #[.slice pa sA.items.length pc, .slice pb sA.talks.length pd] 27 (0, 0))) ∧ Hid (wr.heap[w.heap.size + 1]? = some (.cells #[.slice qa sB.items.length qc, .slice qb sB.talks.length qd] 27 (0, 0))) ∧ Hid (w.heap.size + 1 < wr.heap.size) ∧ Hid (OwnO wr W.heap.size (.agg #[.slice pa sA.items.length pc, .slice pb sA.talks.length pd]) sA) ∧ Hid (OwnO wr W.heap.size (.agg #[.slice qa sB.items.length qc, .slice qb sB.talks.length qd]) sB) ∧ Hid (Below w.heap.size w wr) ∧ Hid (W.heap.size ≤ wr.heap.size)) (fun i _ => n - (intOf i).toNat)
    case atStart => exact ⟨0, ⟨[], []⟩, ⟨[], []⟩, none, none, 0, 0, none, none, 0, 0, by omega, rfl, Lib.hid (PutA.nil f), Lib.hid (PutZ.nil f n), KA, KB, Lib.hid (by have := HWs.out; omega), Lib.hid (.inl ⟨rfl, rfl⟩), Lib.hid (.inl ⟨rfl, rfl⟩), HbW, Lib.hid (Nat.le_refl _)⟩
    case round =>
      clear KA KB HbW hnt hnt2
      obtain ⟨k, sA, sB, pa, pb, pc, pd, qa, qb, qc, qd, hk, rfl, PA, PZ, KA, KB, LB, OA, OB, BB, LW⟩ := hrel
      have LA : Hid (w.heap.size < wr.heap.size) := Lib.hid (by have := LB.out; omega)
      by_cases hlt : k < n
      · have hlt' : (k : Int) < (n : Int) := by omega
        obtain ⟨c1, e1⟩ := PA.out.step Hf.out (by omega)
        obtain ⟨c2, e2⟩ := PZ.out.step Hf.out hlt hn12
        have C1 := Lib.hid c1
        have E1 := Lib.hid e1
        have C2 := Lib.hid c2
        have E2 := Lib.hid e2
        clear c1 e1 c2 e2
        obtain ⟨j, hj⟩ : ∃ j, j = n - 1 - k := ⟨_, rfl⟩
        rw [← hj] at C2 E2
        obtain ⟨ma, hma⟩ : ∃ m, m = k * 7 % 13 := ⟨_, rfl⟩
        obtain ⟨mb, hmb⟩ : ∃ m, m = j * 7 % 13 := ⟨_, rfl⟩
        have m1 : ((k : Int) * 7).tmod 13 = (ma : Int) := by rw [hma, Int.tmod_eq_emod_of_nonneg (by omega)]; simp
        have m2 : ((j : Int) * 7).tmod 13 = (mb : Int) := by rw [hmb, Int.tmod_eq_emod_of_nonneg (by omega)]; simp
        have m1' : ((k : Int) * 7) % 13 = (ma : Int) := by rw [hma]; simp
        have m2' : ((j : Int) * 7) % 13 = (mb : Int) := by rw [hmb]; simp
        have hma13 : ma < 13 := by omega
        have hmb13 : mb < 13 := by omega
        have Hj := Lib.hid hj
        have Hma := Lib.hid hma
        have Hmb := Lib.hid hmb
        obtain ⟨k1, hk1⟩ : ∃ m, m = k + 1 := ⟨_, rfl⟩
        obtain ⟨j1, hj1⟩ : ∃ m, m = j + 1 := ⟨_, rfl⟩
        have Hk1 := Lib.hid hk1
        have Hj1 := Lib.hid hj1
        have w1 : IntKind.i64.wrap ((k : Int) * 7) = (k : Int) * 7 := by rw [IntKind.wrap_i64]; omega
        have w2 : IntKind.i64.wrap ((k : Int) + 1) = (k1 : Int) := by rw [IntKind.wrap_i64]; omega
        have w3 : IntKind.i64.wrap ((n : Int) - 1) = (n : Int) - 1 := by rw [IntKind.wrap_i64]; omega
        have w4 : IntKind.i64.wrap ((n : Int) - 1 - (k : Int)) = (j : Int) := by rw [IntKind.wrap_i64]; omega
        have w5 : IntKind.i64.wrap ((j : Int) * 7) = (j : Int) * 7 := by rw [IntKind.wrap_i64]; omega
        have w6 : IntKind.i64.wrap ((j : Int) + 1) = (j1 : Int) := by rw [IntKind.wrap_i64]; omega
        have q1 := (kk_ok ⟨ma, hma13⟩).2
        have q2 := (kk_ok ⟨mb, hmb13⟩).2
        simp only at q1 q2
        have hk20 : k1 ≤ 20 := by omega
        have hj20 : j1 ≤ 20 := by omega
        clear hma hmb hk1 hj1 hj
        obtain ⟨ta, hta⟩ : ∃ t : ByteArray, t = ⟨(Lib.itoa (ma : Int)).toArray⟩ := ⟨_, rfl⟩
        obtain ⟨tb, htb⟩ : ∃ t : ByteArray, t = ⟨(Lib.itoa (mb : Int)).toArray⟩ := ⟨_, rfl⟩
        obtain ⟨va, hva⟩ : ∃ t : ByteArray, t = ⟨(Lib.itoa (f k1 : Int)).toArray⟩ := ⟨_, rfl⟩
        obtain ⟨vb, hvb⟩ : ∃ t : ByteArray, t = ⟨(Lib.itoa (f j1 : Int)).toArray⟩ := ⟨_, rfl⟩
        have s1 : ta.size ≤ 3 := by
          have h := q1
          unfold kk at h
          rw [ByteArray.size_append, ← hta] at h
          omega
        have s2 : tb.size ≤ 3 := by
          have h := q2
          unfold kk at h
          rw [ByteArray.size_append, ← htb] at h
          omega
        have ns1 : ¬ 9223372036854775807 < 1 + ta.size := by omega
        have ns2 : ¬ 9223372036854775807 < 1 + tb.size := by omega
        have X1 : Hid (xi f k = ⟨⟨#[107]⟩ ++ ta, va⟩) := Lib.hid (by unfold xi kk; rw [← Hma.out, ← Hk1.out, hta, hva])
        have X2 : Hid (xi f j = ⟨⟨#[107]⟩ ++ tb, vb⟩) := Lib.hid (by unfold xi kk; rw [← Hmb.out, ← Hj1.out, htb, hvb])
        rw [X1.out] at C1 E1
        rw [X2.out] at C2 E2
        have hf1 := Hf.out k1
        have hf2 := Hf.out j1
        have Hta := Lib.hid hta
        have Htb := Lib.hid htb
        have Hva := Lib.hid hva
        have Hvb := Lib.hid hvb
        clear hta htb hva hvb
        have hc := spec_decText (ma : Int) (by omega) (by omega) wr
        rw [← Hta.out] at hc
        go_wp2_with (go_at_call 38; refine hc.mono ?_; rintro e wx1 ⟨rfl, hww⟩; refine Hid.out ?_)
        refine Lib.hid ?_
        obtain rfl : wr = wx1 := hww
        clear hc
        have hc := Hat.out k1 (by omega) wr BB.out
        go_wp2_with (go_at_call 37; refine hc.mono ?_; rintro e wx2 ⟨rfl, hww⟩; refine Hid.out ?_)
        refine Lib.hid ?_
        obtain rfl : wr = wx2 := hww
        clear hc
        have hc := spec_decText (f k1 : Int) (by omega) (by omega) wr
        rw [← Hva.out] at hc
        go_wp2_with (go_at_call 38; refine hc.mono ?_; rintro e wx3 ⟨rfl, hww⟩; refine Hid.out ?_)
        refine Lib.hid ?_
        obtain rfl : wr = wx3 := hww
        clear hc
        obtain ⟨Y1, hY1⟩ : ∃ zz, zz = wr.alloc (.cells #[.string (⟨#[107]⟩ ++ ta), .string va] 29) := ⟨_, rfl⟩
        have bY1 : Below wr.heap.size wr Y1 := by rw [hY1]; exact (Below.refl _ _).alloc (Nat.le_refl _) _
        have sY1 : Y1.heap.size = wr.heap.size + 1 := by rw [hY1]; simp
        replace KA := Lib.hid ((bY1.block _ LA.out).trans KA.out)
        replace LA := Lib.hid (Nat.lt_of_lt_of_le LA.out bY1.size)
        replace KB := Lib.hid ((bY1.block _ LB.out).trans KB.out)
        replace LB := Lib.hid (Nat.lt_of_lt_of_le LB.out bY1.size)
        replace BB := Lib.hid (BB.out.trans (bY1.mono BB.out.size))
        replace OA := Lib.hid (OA.out.later bY1)
        replace OB := Lib.hid (OB.out.later bY1)
        replace LW := Lib.hid (Nat.le_trans LW.out bY1.size)
        have KX : Hid (Y1.heap[wr.heap.size]? = some (.cells #[.string (⟨#[107]⟩ ++ ta), .string va] 29 (0, 0))) := Lib.hid (by rw [hY1]; exact heap_new _ _)
        have LX : Hid (wr.heap.size < Y1.heap.size) := Lib.hid (by omega)
        have eY1 : Hid (Y1.heap.size = wr.heap.size + 1) := Lib.hid (by omega)
        clear bY1 sY1
        have hc := spec_decText (mb : Int) (by omega) (by omega) Y1
        rw [← Htb.out] at hc
        rw [hY1] at hc
        go_wp2_with (go_at_call 38; refine hc.mono ?_; rintro e wy1 ⟨rfl, hww⟩; refine Hid.out ?_)
        refine Lib.hid ?_
        rw [← hY1] at hww
        obtain rfl : Y1 = wy1 := hww
        clear hc
        clear hY1
        have hc := Hat.out j1 (by omega) Y1 BB.out
        go_wp2_with (go_at_call 37; refine hc.mono ?_; rintro e wy2 ⟨rfl, hww⟩; refine Hid.out ?_)
        refine Lib.hid ?_
        obtain rfl : Y1 = wy2 := hww
        clear hc
        have hc := spec_decText (f j1 : Int) (by omega) (by omega) Y1
        rw [← Hvb.out] at hc
        go_wp2_with (go_at_call 38; refine hc.mono ?_; rintro e wy3 ⟨rfl, hww⟩; refine Hid.out ?_)
        refine Lib.hid ?_
        obtain rfl : Y1 = wy3 := hww
        clear hc
        obtain ⟨Y2, hY2⟩ : ∃ zz, zz = Y1.alloc (.cells #[.string (⟨#[107]⟩ ++ tb), .string vb] 29) := ⟨_, rfl⟩
        have bY2 : Below Y1.heap.size Y1 Y2 := by rw [hY2]; exact (Below.refl _ _).alloc (Nat.le_refl _) _
        have sY2 : Y2.heap.size = Y1.heap.size + 1 := by rw [hY2]; simp
        replace KA := Lib.hid ((bY2.block _ LA.out).trans KA.out)
        replace LA := Lib.hid (Nat.lt_of_lt_of_le LA.out bY2.size)
        replace KB := Lib.hid ((bY2.block _ LB.out).trans KB.out)
        replace LB := Lib.hid (Nat.lt_of_lt_of_le LB.out bY2.size)
        replace KX := Lib.hid ((bY2.block _ LX.out).trans KX.out)
        replace LX := Lib.hid (Nat.lt_of_lt_of_le LX.out bY2.size)
        replace BB := Lib.hid (BB.out.trans (bY2.mono BB.out.size))
        replace OA := Lib.hid (OA.out.later bY2)
        replace OB := Lib.hid (OB.out.later bY2)
        replace LW := Lib.hid (Nat.le_trans LW.out bY2.size)
        have KY : Hid (Y2.heap[Y1.heap.size]? = some (.cells #[.string (⟨#[107]⟩ ++ tb), .string vb] 29 (0, 0))) := Lib.hid (by rw [hY2]; exact heap_new _ _)
        have LY : Hid (Y1.heap.size < Y2.heap.size) := Lib.hid (by omega)
        have eY2 : Hid (Y2.heap.size = Y1.heap.size + 1) := Lib.hid (by omega)
        clear bY2 sY2
        have SM1 := PA.out.sm Hf.out
        have SM2 := PZ.out.sm Hf.out
        have T1 := PA.out.2.1
        have T2 := PZ.out.2.1
        have N1 := PA.out.2.2.1
        have N2 := PZ.out.2.2.1
        have sm1 : Sm sA 40 0 := ⟨by omega, by rw [T1]; exact Nat.le_refl _, SM1, fun x hx => by rw [T1] at hx; simp at hx⟩
        have sm2 : Sm sB 40 0 := ⟨by omega, by rw [T2]; exact Nat.le_refl _, SM2, fun x hx => by rw [T2] at hx; simp at hx⟩
        have Sm1 := Lib.hid sm1
        have Sm2 := Lib.hid sm2
        have F1 : Hid (FitIt ⟨⟨#[107]⟩ ++ ta, va⟩) := Lib.hid (by have h := xi_size Hf.out k; rw [X1.out] at h; exact ⟨by unfold maxLen; omega, by unfold maxLen; omega⟩)
        have F2 : Hid (FitIt ⟨⟨#[107]⟩ ++ tb, vb⟩) := Lib.hid (by have h := xi_size Hf.out j; rw [X2.out] at h; exact ⟨by unfold maxLen; omega, by unfold maxLen; omega⟩)
        clear SM1 SM2 T1 T2 N1 N2 sm1 sm2
        have LW0 := LW
        have hc := impl_putItem sA _ ⟨⟨#[107]⟩ ++ ta, va⟩ Y2.heap.size Y2 OA.out.st (Nat.le_refl _) (Sm1.out.small (by omega) (by omega)) Sm1.out.fits F1.out
        rw [C1.out, chg_of C1.out] at hc
        unfold itA at hc
        have fA0 := cell_of_row Y2 _ 0 _ _ _ KA.out
        have fA1 := cell_of_row Y2 _ 1 _ _ _ KA.out
        simp only [List.getElem?_toArray, List.getElem?_cons_zero, List.getElem?_cons_succ] at fA0 fA1
        have fX0 := cell_of_row Y2 _ 0 _ _ _ KX.out
        have fX1 := cell_of_row Y2 _ 1 _ _ _ KX.out
        simp only [List.getElem?_toArray, List.getElem?_cons_zero, List.getElem?_cons_succ] at fX0 fX1
        rw [hY2] at hc fA0 fA1 fX0 fX1
        go_wp2_with (go_at_call 17; refine hc.mono ?_; rintro e wu1 ⟨_, rfl, ho, hb⟩; refine Hid.out ?_)
        refine Lib.hid ?_
        rw [← hY2] at ho hb
        clear fA0 fA1 fX0 fX1
        replace KA := Lib.hid ((hb.block _ LA.out).trans KA.out)
        replace LA := Lib.hid (Nat.lt_of_lt_of_le LA.out hb.size)
        replace KB := Lib.hid ((hb.block _ LB.out).trans KB.out)
        replace LB := Lib.hid (Nat.lt_of_lt_of_le LB.out hb.size)
        replace KX := Lib.hid ((hb.block _ LX.out).trans KX.out)
        replace LX := Lib.hid (Nat.lt_of_lt_of_le LX.out hb.size)
        replace KY := Lib.hid ((hb.block _ LY.out).trans KY.out)
        replace LY := Lib.hid (Nat.lt_of_lt_of_le LY.out hb.size)
        replace BB := Lib.hid (BB.out.trans (hb.mono BB.out.size))
        replace OA := Lib.hid (OA.out.later hb)
        replace OB := Lib.hid (OB.out.later hb)
        replace LW := Lib.hid (Nat.le_trans LW.out hb.size)
        clear hc hY2
        have OrA : Hid (OwnN wu1 W.heap.size _ (putSI sA ⟨⟨#[107]⟩ ++ ta, va⟩)) := Lib.hid (ho.base LW0.out)
        obtain ⟨rA, hrA⟩ : ∃ r, r = putSI sA ⟨⟨#[107]⟩ ++ ta, va⟩ := ⟨_, rfl⟩
        rw [← hrA] at E1 OrA ho
        obtain ⟨_, _, _, cc, _, cd, rfl, _, ⟨ca, rfl, _⟩, ⟨cb, rfl, _⟩, _, _⟩ := ho
        clear hb LW0 hrA
        obtain ⟨Y3, hY3⟩ : ∃ zz, zz = wu1.alloc (.cells #[.slice ca rA.items.length cc, .slice cb rA.talks.length cd] 27) := ⟨_, rfl⟩
        have bY3 : Below wu1.heap.size wu1 Y3 := by rw [hY3]; exact (Below.refl _ _).alloc (Nat.le_refl _) _
        have sY3 : Y3.heap.size = wu1.heap.size + 1 := by rw [hY3]; simp
        replace KA := Lib.hid ((bY3.block _ LA.out).trans KA.out)
        replace LA := Lib.hid (Nat.lt_of_lt_of_le LA.out bY3.size)
        replace KB := Lib.hid ((bY3.block _ LB.out).trans KB.out)
        replace LB := Lib.hid (Nat.lt_of_lt_of_le LB.out bY3.size)
        replace KX := Lib.hid ((bY3.block _ LX.out).trans KX.out)
        replace LX := Lib.hid (Nat.lt_of_lt_of_le LX.out bY3.size)
        replace KY := Lib.hid ((bY3.block _ LY.out).trans KY.out)
        replace LY := Lib.hid (Nat.lt_of_lt_of_le LY.out bY3.size)
        replace BB := Lib.hid (BB.out.trans (bY3.mono BB.out.size))
        replace OA := Lib.hid (OA.out.later bY3)
        replace OB := Lib.hid (OB.out.later bY3)
        replace OrA := Lib.hid (OrA.out.later bY3)
        replace LW := Lib.hid (Nat.le_trans LW.out bY3.size)
        have KC : Hid (Y3.heap[wu1.heap.size]? = some (.cells #[.slice ca rA.items.length cc, .slice cb rA.talks.length cd] 27 (0, 0))) := Lib.hid (by rw [hY3]; exact heap_new _ _)
        have LC : Hid (wu1.heap.size < Y3.heap.size) := Lib.hid (by omega)
        have eY3 : Hid (Y3.heap.size = wu1.heap.size + 1) := Lib.hid (by omega)
        clear bY3 sY3
        have LW0 := LW
        have hc := impl_putItem sB _ ⟨⟨#[107]⟩ ++ tb, vb⟩ Y3.heap.size Y3 OB.out.st (Nat.le_refl _) (Sm2.out.small (by omega) (by omega)) Sm2.out.fits F2.out
        rw [C2.out, chg_of C2.out] at hc
        unfold itA at hc
        have fB0 := cell_of_row Y3 _ 0 _ _ _ KB.out
        have fB1 := cell_of_row Y3 _ 1 _ _ _ KB.out
        simp only [List.getElem?_toArray, List.getElem?_cons_zero, List.getElem?_cons_succ] at fB0 fB1
        have fY0 := cell_of_row Y3 _ 0 _ _ _ KY.out
        have fY1 := cell_of_row Y3 _ 1 _ _ _ KY.out
        simp only [List.getElem?_toArray, List.getElem?_cons_zero, List.getElem?_cons_succ] at fY0 fY1
        rw [hY3] at hc fB0 fB1 fY0 fY1
        go_wp2_with (go_at_call 17; refine hc.mono ?_; rintro e wu2 ⟨_, rfl, ho, hb⟩; refine Hid.out ?_)
        refine Lib.hid ?_
        rw [← hY3] at ho hb
        clear fB0 fB1 fY0 fY1
        replace KA := Lib.hid ((hb.block _ LA.out).trans KA.out)
        replace LA := Lib.hid (Nat.lt_of_lt_of_le LA.out hb.size)
        replace KB := Lib.hid ((hb.block _ LB.out).trans KB.out)
        replace LB := Lib.hid (Nat.lt_of_lt_of_le LB.out hb.size)
        replace KX := Lib.hid ((hb.block _ LX.out).trans KX.out)
        replace LX := Lib.hid (Nat.lt_of_lt_of_le LX.out hb.size)
        replace KY := Lib.hid ((hb.block _ LY.out).trans KY.out)
        replace LY := Lib.hid (Nat.lt_of_lt_of_le LY.out hb.size)
        replace KC := Lib.hid ((hb.block _ LC.out).trans KC.out)
        replace LC := Lib.hid (Nat.lt_of_lt_of_le LC.out hb.size)
        replace BB := Lib.hid (BB.out.trans (hb.mono BB.out.size))
        replace OA := Lib.hid (OA.out.later hb)
        replace OB := Lib.hid (OB.out.later hb)
        replace OrA := Lib.hid (OrA.out.later hb)
        replace LW := Lib.hid (Nat.le_trans LW.out hb.size)
        clear hc hY3
        have OrB : Hid (OwnN wu2 W.heap.size _ (putSI sB ⟨⟨#[107]⟩ ++ tb, vb⟩)) := Lib.hid (ho.base LW0.out)
        obtain ⟨rB, hrB⟩ : ∃ r, r = putSI sB ⟨⟨#[107]⟩ ++ tb, vb⟩ := ⟨_, rfl⟩
        rw [← hrB] at E2 OrB ho
        obtain ⟨_, _, _, dc, _, dd, rfl, _, ⟨da, rfl, _⟩, ⟨db, rfl, _⟩, _, _⟩ := ho
        clear hb LW0 hrB
        have sN2 : Hid (w.heap.size + 1 < wu2.heap.size) := LB
        obtain ⟨Y4, hY4⟩ : ∃ zz, zz = wu2.alloc (.cells #[.slice da rB.items.length dc, .slice db rB.talks.length dd] 27) := ⟨_, rfl⟩
        have bY4 : Below wu2.heap.size wu2 Y4 := by rw [hY4]; exact (Below.refl _ _).alloc (Nat.le_refl _) _
        have sY4 : Y4.heap.size = wu2.heap.size + 1 := by rw [hY4]; simp
        replace KA := Lib.hid ((bY4.block _ LA.out).trans KA.out)
        replace LA := Lib.hid (Nat.lt_of_lt_of_le LA.out bY4.size)
        replace KB := Lib.hid ((bY4.block _ LB.out).trans KB.out)
        replace LB := Lib.hid (Nat.lt_of_lt_of_le LB.out bY4.size)
        replace KX := Lib.hid ((bY4.block _ LX.out).trans KX.out)
        replace LX := Lib.hid (Nat.lt_of_lt_of_le LX.out bY4.size)
        replace KY := Lib.hid ((bY4.block _ LY.out).trans KY.out)
        replace LY := Lib.hid (Nat.lt_of_lt_of_le LY.out bY4.size)
        replace KC := Lib.hid ((bY4.block _ LC.out).trans KC.out)
        replace LC := Lib.hid (Nat.lt_of_lt_of_le LC.out bY4.size)
        replace BB := Lib.hid (BB.out.trans (bY4.mono BB.out.size))
        replace OA := Lib.hid (OA.out.later bY4)
        replace OB := Lib.hid (OB.out.later bY4)
        replace OrA := Lib.hid (OrA.out.later bY4)
        replace OrB := Lib.hid (OrB.out.later bY4)
        replace LW := Lib.hid (Nat.le_trans LW.out bY4.size)
        have KD : Hid (Y4.heap[wu2.heap.size]? = some (.cells #[.slice da rB.items.length dc, .slice db rB.talks.length dd] 27 (0, 0))) := Lib.hid (by rw [hY4]; exact heap_new _ _)
        have LD : Hid (wu2.heap.size < Y4.heap.size) := Lib.hid (by omega)
        have eY4 : Hid (Y4.heap.size = wu2.heap.size + 1) := Lib.hid (by omega)
        clear bY4 sY4
        have fA0 := cell_of_row Y4 _ 0 _ _ _ KA.out
        have fA1 := cell_of_row Y4 _ 1 _ _ _ KA.out
        simp only [List.getElem?_toArray, List.getElem?_cons_zero, List.getElem?_cons_succ] at fA0 fA1
        have fB0 := cell_of_row Y4 _ 0 _ _ _ KB.out
        have fB1 := cell_of_row Y4 _ 1 _ _ _ KB.out
        simp only [List.getElem?_toArray, List.getElem?_cons_zero, List.getElem?_cons_succ] at fB0 fB1
        have fC0 := cell_of_row Y4 _ 0 _ _ _ KC.out
        have fC1 := cell_of_row Y4 _ 1 _ _ _ KC.out
        simp only [List.getElem?_toArray, List.getElem?_cons_zero, List.getElem?_cons_succ] at fC0 fC1
        have fD0 := cell_of_row Y4 _ 0 _ _ _ KD.out
        have fD1 := cell_of_row Y4 _ 1 _ _ _ KD.out
        simp only [List.getElem?_toArray, List.getElem?_cons_zero, List.getElem?_cons_succ] at fD0 fD1
        have gA0 := frozen_of_row Y4 _ 0 _ _ KA.out
        have gA1 := frozen_of_row Y4 _ 1 _ _ KA.out
        have gB0 := frozen_of_row Y4 _ 0 _ _ KB.out
        have gB1 := frozen_of_row Y4 _ 1 _ _ KB.out
        rw [hY4] at fA0 fA1 fB0 fB1 fC0 fC1 fD0 fD1 gA0 gA1 gB0 gB1
        have n1 : ¬ w.heap.size = wu2.heap.size := by have := LB.out; have := sN2.out; omega
        have n2 : ¬ wu2.heap.size = w.heap.size := by omega
        have n3 : ¬ w.heap.size + 1 = wu2.heap.size := by have := LB.out; have := sN2.out; omega
        have n4 : ¬ wu2.heap.size = w.heap.size + 1 := by omega
        go_wp2_with fail
        go_roundw
        case rel =>
          have hk1 := Hk1.out
          subst hk1
          rw [← hY4]
          obtain ⟨Y, hY, y1, y2, y3, y4⟩ := both_boxes Y4 w.heap.size (w.heap.size + 1) _ _ _ _ _ _ KA.out KB.out (by omega) (.slice ca rA.items.length cc) (.slice cb rA.talks.length cd) (.slice da rB.items.length dc) (.slice db rB.talks.length dd)
          rw [← hY]
          have hWs := HWs.out
          exact ⟨k + 1, rA, rB, ca, cb, cc, cd, da, db, dc, dd, by omega, by go_num, E1, E2, Lib.hid y1, Lib.hid y2, Lib.hid (by have := LB.out; omega), Lib.hid (.inr (y3 _ (by omega) OrA.out)), Lib.hid (.inr (y3 _ (by omega) OrB.out)), Lib.hid (by
            rw [hY]
            exact (((BB.out.setCell (p := ⟨w.heap.size, 0, none⟩) (Nat.le_refl _) _).setCell (p := ⟨w.heap.size, 1, none⟩) (Nat.le_refl _) _).setCell (p := ⟨w.heap.size + 1, 0, none⟩) (Nat.le_succ _) _).setCell (p := ⟨w.heap.size + 1, 1, none⟩) (Nat.le_succ _) _), Lib.hid (by have := LW.out; omega)⟩
        case measure => have hk1 := Hk1.out; simp [intOf]; omega
      · have hge : ¬ (k : Int) < (n : Int) := by omega
        obtain rfl : k = n := by omega
        have heq := put_both PA.out PZ.out
        have Heq := Lib.hid heq
        have hl2 : sA.items.length = k := PA.out.2.2.1
        have Hl2 := Lib.hid hl2
        clear hl2 heq
        have hfA : Hid (Fits sA) := Lib.hid ⟨fun x hx => by have := PA.out.sm Hf.out x hx; exact ⟨by unfold maxLen; omega, by unfold maxLen; omega⟩, fun x hx => by rw [PA.out.2.1] at hx; simp at hx⟩
        have hfB : Hid (Fits sB) := Lib.hid (by rw [Heq.out]; exact hfA.out)
        have hc := impl_sameState sA sB _ _ wr.heap.size wr OA.out.st OB.out.st (Nat.le_refl _) hfA.out hfB.out
        have fA0 := cell_of_row wr _ 0 _ _ _ KA.out
        have fA1 := cell_of_row wr _ 1 _ _ _ KA.out
        simp only [List.getElem?_toArray, List.getElem?_cons_zero, List.getElem?_cons_succ] at fA0 fA1
        have fB0 := cell_of_row wr _ 0 _ _ _ KB.out
        have fB1 := cell_of_row wr _ 1 _ _ _ KB.out
        simp only [List.getElem?_toArray, List.getElem?_cons_zero, List.getElem?_cons_succ] at fB0 fB1
        go_wp2_with (go_at_call 35; refine hc.mono ?_; rintro e wv1 ⟨bb, rfl, hbe, hb⟩; refine Hid.out ?_)
        refine Lib.hid ?_
        obtain rfl : bb = true := hbe.2 Heq.out.symm
        clear fA0 fA1 fB0 fB1
        replace KA := Lib.hid ((hb.block _ LA.out).trans KA.out)
        replace LA := Lib.hid (Nat.lt_of_lt_of_le LA.out hb.size)
        replace KB := Lib.hid ((hb.block _ LB.out).trans KB.out)
        replace LB := Lib.hid (Nat.lt_of_lt_of_le LB.out hb.size)
        replace BB := Lib.hid (BB.out.trans (hb.mono BB.out.size))
        replace OA := Lib.hid (OA.out.later hb)
        replace OB := Lib.hid (OB.out.later hb)
        replace LW := Lib.hid (Nat.le_trans LW.out hb.size)
        clear hc hb hbe
        have hc := impl_stateOk sA _ wv1.heap.size wv1 OA.out.st (Nat.le_refl _) hfA.out
        rw [PA.out.1] at hc
        have hl2 := Hl2.out
        rw [hl2] at hc
        have fA0 := cell_of_row wv1 _ 0 _ _ _ KA.out
        have fA1 := cell_of_row wv1 _ 1 _ _ _ KA.out
        simp only [List.getElem?_toArray, List.getElem?_cons_zero, List.getElem?_cons_succ] at fA0 fA1
        rw [hl2] at fA0
        go_wp2_with (go_at_call 20; refine hc.mono ?_; rintro e wv2 ⟨rfl, hb⟩; refine Hid.out ?_)
        refine Lib.hid ?_
        go_wp2
        go_ret
        exact ⟨rfl, BB.out.trans (hb.mono BB.out.size)⟩
end Go.Proofs.Ytkoohmibdaomkaa
