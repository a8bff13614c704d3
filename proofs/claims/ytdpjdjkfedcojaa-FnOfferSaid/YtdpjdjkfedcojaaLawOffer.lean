/- The law FnOffer: what doesn't belong is refused, and changes nothing. Condition: none. -/
import Derived.Test.YtdpjdjkfedcojaaCurA
import Derived.Test.YtdpjdjkfedcojaaDrawTk3
import Derived.Test.YtdpjdjkfedcojaaImplTk
import Derived.Test.YtdpjdjkfedcojaaBaseA
namespace Go.Proofs.Ytdpjdjkfedcojaa
open Go.RowKit
set_option linter.unusedVariables false
set_option linter.unusedSimpArgs false

theorem offer_code (t : Tkr) (s : ByteArray) : (offerS t s).2 = 0 ∨ (offerS t s).2 = 1 ∨ ((offerS t s).2 = 4 ∨ (offerS t s).2 = 2 ∨ (offerS t s).2 = 3) := by
  unfold offerS
  split
  · exact .inr (.inr (.inl rfl))
  · split
    · exact .inr (.inr (.inl rfl))
    · split
      · exact .inr (.inr (.inl rfl))
      · split
        · exact .inr (.inr (.inl rfl))
        · split
          · exact .inr (.inr (.inr (.inl rfl)))
          · split
            · exact .inr (.inr (.inr (.inr rfl)))
            · dsimp only
              split
              · exact .inr (.inl rfl)
              · exact .inl rfl
theorem tkr_of {t : Tkr} (h : tkrOk t = true) : 0 ≤ t.of ∧ t.of ≤ 600 := by
  by_cases h0 : t.of = 0
  · omega
  · have := tkr_in h h0; omega
set_option maxRecDepth 100000 in
set_option maxHeartbeats 8000000 in
theorem law_offer (a : Option Addr) (len cap : Nat) (zs : List Int) (w : World) (hr : IsRow .u8 w a len cap zs) :
    Calls Try.prog 3 #[.slice a len cap] w fun e w' => e = .returned (.bool true) ∧ Below w.heap.size w w' := by
  have hr := row8_of hr
  by_cases hbig : 1048576 < len
  · have hd : decide (1048576 < len) = true := by simpa using hbig
    go_enter Try.func3, Try.ntmps3
    go_wp2_with (go_at_call 9; refine (big_any _ _ _ _).mono ?_; rintro e w' ⟨rfl, rfl⟩)
    go_ret
    exact ⟨rfl, Below.refl _ _⟩
  have hd : decide (1048576 < len) = false := by simpa using hbig
  have hlen : len ≤ 1048576 := by omega
  have Hr8 := Lib.hid hr
  have BB : Hid (Below w.heap.size w w) := Lib.hid (Below.refl _ _)
  go_enter Try.func3, Try.ntmps3
  go_wp2_with (go_at_call 9; refine (big_any _ _ _ _).mono ?_; rintro e w' ⟨rfl, rfl⟩; refine Hid.out ?_)
  refine Lib.hid ?_
  clear hd hbig hr
  have hd0 := fun w h => drawDrawTakerOk_any a len cap zs w h hlen
  have hc := drawOffer_any a len cap zs w Hr8.out hlen
  go_wp2_with (go_at_call 10; refine hc.mono ?_; rintro e w1 ⟨t, s, rfl, hf, hbz, hsz, hb⟩; refine Hid.out ?_)
  refine Lib.hid ?_
  have hcode := offer_code t s
  have hbad := fun h => offer_bad (t := t) (s := s) h
  have htak := fun h => offer_taken (t := t) (s := s) h
  have hfu : (offerS t s).2 = 0 ∨ (offerS t s).2 = 1 → FitTkr (offerS t s).1 ∧ (offerS t s).1.b.size ≤ 120000 := fun h => by have h1 := tk_fit (offer_taken h).1; exact ⟨h1.1, h1.2.1⟩
  have hft : tkrOk t = true → (1 ≤ t.nx ∧ t.nx ≤ 601) := fun h => (tk_fit h).2.2
  have hin : (offerS t s).2 = 0 ∨ (offerS t s).2 = 1 → tkrOk t = true := fun h => (offer_in h).1
  have ki := fun w => impl_offer t s w hf (by omega) (by omega)
  have ks := fun w => spec_offer t s w hf (by omega) (by omega)
  have k2 := fun (h : FitTkr (offerS t s).1 ∧ (offerS t s).1.b.size ≤ 120000) w => impl_offer (offerS t s).1 s w h.1 (by have := h.2; omega) (by omega)
  have k3 := fun (h : FitTkr (offerS t s).1) w => impl_takerOk (offerS t s).1 w h
  obtain ⟨u, hu⟩ : ∃ x, x = (offerS t s).1 := ⟨_, rfl⟩
  obtain ⟨k, hk⟩ : ∃ x, x = (offerS t s).2 := ⟨_, rfl⟩
  rw [← hu] at hbad htak hfu ki ks k2 k3
  rw [← hk] at hbad htak hfu ki ks hcode hin
  clear hu hk hf hc
  have ku := fun w => neq_tk u u w
  have ke := fun w => eql_tk u t w
  rw [tkrEq_refl] at ku
  obtain ⟨eq_, heq⟩ : ∃ x, x = tkrEq u t := ⟨_, rfl⟩
  rw [← heq] at ke
  have HEQ : Hid (u = t → eq_ = true) := Lib.hid (fun h => by rw [heq]; exact tkrEq_iff.2 h)
  clear heq
  obtain ⟨so, sn, sc, sb⟩ := u
  obtain ⟨mo, mn, mc, mb⟩ := t
  have HBAD := Lib.hid hbad
  have HTAK := Lib.hid htak
  have HFU := Lib.hid hfu
  have HCODE := Lib.hid hcode
  have HFT := Lib.hid hft
  have HIN := Lib.hid hin
  unfold tkrV at ki ks k2 k3 ku ke
  dsimp only at ki ks k2 k3 ku ke hbz
  have K2 := Lib.hid k2
  have K3 := Lib.hid k3
  have KE := Lib.hid ke
  replace BB := Lib.hid hb
  clear hbad htak hfu hcode hft hin k2 k3 ke hb
  obtain ⟨X1, hX1⟩ : ∃ z, z = w1.alloc (.cells #[.int .i64 mo, .int .i64 mn, .int .i64 mc, .string mb] 25) := ⟨_, rfl⟩
  have hb : Below w1.heap.size w1 X1 := by rw [hX1]; exact (Below.refl _ _).alloc (Nat.le_refl _) _
  replace BB := tbt BB hb
  have KT : Hid (X1.heap[w1.heap.size]? = some (.cells #[.int .i64 mo, .int .i64 mn, .int .i64 mc, .string mb] 25 (0, 0))) := Lib.hid (by rw [hX1]; exact heap_new _ _)
  have LT : Hid (w1.heap.size < X1.heap.size) := Lib.hid (by rw [hX1]; simp)
  clear hb
  have hc := ki X1
  have fT0 := tcr KT 0
  have fT1 := tcr KT 1
  have fT2 := tcr KT 2
  have fT3 := tcr KT 3
  rw [hX1] at hc fT0 fT1 fT2 fT3
  go_wp2_with (go_at_call 11; refine hc.mono ?_; rintro e w2 ⟨rfl, hb⟩; refine Hid.out ?_)
  refine Lib.hid ?_
  rw [← hX1] at hb 
  clear hX1
  replace KT := tkb hb LT KT
  replace LT := tlz LT hb.size
  replace BB := tbt BB hb
  clear hc hb fT0 fT1 fT2 fT3
  obtain ⟨X2, hX2⟩ : ∃ z, z = w2.alloc (.cells #[.int .i64 so, .int .i64 sn, .int .i64 sc, .string sb] 25) := ⟨_, rfl⟩
  have hb : Below w2.heap.size w2 X2 := by rw [hX2]; exact (Below.refl _ _).alloc (Nat.le_refl _) _
  replace KT := tkb hb LT KT
  replace LT := tlz LT hb.size
  replace BB := tbt BB hb
  have KU : Hid (X2.heap[w2.heap.size]? = some (.cells #[.int .i64 so, .int .i64 sn, .int .i64 sc, .string sb] 25 (0, 0))) := Lib.hid (by rw [hX2]; exact heap_new _ _)
  have LU : Hid (w2.heap.size < X2.heap.size) := Lib.hid (by rw [hX2]; simp)
  clear hb
  have hc := ks X2
  have fT0 := tcr KT 0
  have fT1 := tcr KT 1
  have fT2 := tcr KT 2
  have fT3 := tcr KT 3
  rw [hX2] at hc fT0 fT1 fT2 fT3
  go_wp2_with (go_at_call 12; refine hc.mono ?_; rintro e w3 ⟨rfl, hb⟩; refine Hid.out ?_)
  refine Lib.hid ?_
  rw [← hX2] at hb 
  clear hX2
  replace KT := tkb hb LT KT
  replace LT := tlz LT hb.size
  replace KU := tkb hb LU KU
  replace LU := tlz LU hb.size
  replace BB := tbt BB hb
  clear hc hb fT0 fT1 fT2 fT3
  obtain ⟨X3, hX3⟩ : ∃ z, z = w3.alloc (.cells #[.int .i64 so, .int .i64 sn, .int .i64 sc, .string sb] 25) := ⟨_, rfl⟩
  have hb : Below w3.heap.size w3 X3 := by rw [hX3]; exact (Below.refl _ _).alloc (Nat.le_refl _) _
  replace KT := tkb hb LT KT
  replace LT := tlz LT hb.size
  replace KU := tkb hb LU KU
  replace LU := tlz LU hb.size
  replace BB := tbt BB hb
  have KW : Hid (X3.heap[w3.heap.size]? = some (.cells #[.int .i64 so, .int .i64 sn, .int .i64 sc, .string sb] 25 (0, 0))) := Lib.hid (by rw [hX3]; exact heap_new _ _)
  have LW : Hid (w3.heap.size < X3.heap.size) := Lib.hid (by rw [hX3]; simp)
  clear hb
  clear ki ks
  have hc := hd0 X3 (Hr8.out.later BB.out)
  rw [hX3] at hc 
  go_wp2_with (go_at_call 13; refine hc.mono ?_; rintro e w4 ⟨x, rfl, hfx, hbx, hb⟩; refine Hid.out ?_)
  refine Lib.hid ?_
  rw [← hX3] at hb 
  clear hX3
  replace KT := tkb hb LT KT
  replace LT := tlz LT hb.size
  replace KU := tkb hb LU KU
  replace LU := tlz LU hb.size
  replace KW := tkb hb LW KW
  replace LW := tlz LW hb.size
  replace BB := tbt BB hb
  clear hc hb 
  clear hd0
  have kx1 := fun w => impl_takerOk x w hfx
  have kx2 := fun w => spec_takerOk x w hfx
  obtain ⟨r, hr⟩ : ∃ r, r = tkrOk x := ⟨_, rfl⟩
  rw [← hr] at kx1 kx2
  clear hr hfx hbx
  obtain ⟨xo, xn, xc, xb⟩ := x
  unfold tkrV at kx1 kx2
  dsimp only at kx1 kx2
  obtain ⟨X4, hX4⟩ : ∃ z, z = w4.alloc (.cells #[.int .i64 xo, .int .i64 xn, .int .i64 xc, .string xb] 25) := ⟨_, rfl⟩
  have hb : Below w4.heap.size w4 X4 := by rw [hX4]; exact (Below.refl _ _).alloc (Nat.le_refl _) _
  replace KT := tkb hb LT KT
  replace LT := tlz LT hb.size
  replace KU := tkb hb LU KU
  replace LU := tlz LU hb.size
  replace KW := tkb hb LW KW
  replace LW := tlz LW hb.size
  replace BB := tbt BB hb
  have KX : Hid (X4.heap[w4.heap.size]? = some (.cells #[.int .i64 xo, .int .i64 xn, .int .i64 xc, .string xb] 25 (0, 0))) := Lib.hid (by rw [hX4]; exact heap_new _ _)
  have LX : Hid (w4.heap.size < X4.heap.size) := Lib.hid (by rw [hX4]; simp)
  clear hb
  go_wp2_with fail
  rw [← hX4]
  clear hX4
  have FU : Hid (∀ w', Below X4.heap.size X4 w' → w'.cell? ⟨w2.heap.size, 0, none⟩ = some (.int .i64 so) ∧ w'.cell? ⟨w2.heap.size, 1, none⟩ = some (.int .i64 sn) ∧ w'.cell? ⟨w2.heap.size, 2, none⟩ = some (.int .i64 sc) ∧ w'.cell? ⟨w2.heap.size, 3, none⟩ = some (.string sb)) := Lib.hid (fun w' h => by have K := tkb h LU KU; exact ⟨tcr K 0, tcr K 1, tcr K 2, tcr K 3⟩)
  have FW : Hid (∀ w', Below X4.heap.size X4 w' → w'.cell? ⟨w3.heap.size, 0, none⟩ = some (.int .i64 so) ∧ w'.cell? ⟨w3.heap.size, 1, none⟩ = some (.int .i64 sn) ∧ w'.cell? ⟨w3.heap.size, 2, none⟩ = some (.int .i64 sc) ∧ w'.cell? ⟨w3.heap.size, 3, none⟩ = some (.string sb)) := Lib.hid (fun w' h => by have K := tkb h LW KW; exact ⟨tcr K 0, tcr K 1, tcr K 2, tcr K 3⟩)
  have FX : Hid (∀ w', Below X4.heap.size X4 w' → w'.cell? ⟨w4.heap.size, 0, none⟩ = some (.int .i64 xo) ∧ w'.cell? ⟨w4.heap.size, 1, none⟩ = some (.int .i64 xn) ∧ w'.cell? ⟨w4.heap.size, 2, none⟩ = some (.int .i64 xc) ∧ w'.cell? ⟨w4.heap.size, 3, none⟩ = some (.string xb)) := Lib.hid (fun w' h => by have K := tkb h LX KX; exact ⟨tcr K 0, tcr K 1, tcr K 2, tcr K 3⟩)
  refine wp_region_held_drew (S := (fun w' => Below X4.heap.size X4 w')) (by kernel_rfl) (Below.refl _ _).drew (fun hHeld => ?_)
  obtain ⟨zD, hzD⟩ : ∃ zz, zz = X4.drew := ⟨_, rfl⟩
  rw [← hzD] at hHeld ⊢
  clear hzD
  have BD := Lib.hid hHeld
  refine tk 0 (v := ?_) ?_ ?_; rotate_left
  · refine Or.inl ⟨by rfl, ?_⟩; intro w hSw; obtain ⟨hU0, hU1, hU2, hU3⟩ := FU.out w hSw; go_simp; first | done | with_reducible rfl
  refine tk 1 (v := ?_) ?_ ?_; rotate_left
  · refine Or.inl ⟨by rfl, ?_⟩; intro w hSw; obtain ⟨hW0, hW1, hW2, hW3⟩ := FW.out w hSw; go_simp; first | done | with_reducible rfl
  refine tk0 2 ?_
  have hkk : (k != k) = false := by simp
  have hrr : (r != r) = false := by simp
  refine tk0 3 ?_
  refine tk0 4 ?_
  refine tk0 5 ?_
  refine tk0 6 ?_
  refine tk0 7 ?_
  refine tk0 8 ?_
  refine tk 9 (v := ?_) ?_ ?_; rotate_left
  · refine Or.inl ⟨by rfl, ?_⟩; intro w hSw; obtain ⟨hX0, hX1, hX2, hX3⟩ := FX.out w hSw; go_simp; first | done | with_reducible rfl
  refine tk 11 (v := ?_) ?_ ?_; rotate_left
  · refine Or.inl ⟨by rfl, ?_⟩; intro w hSw; obtain ⟨hX0, hX1, hX2, hX3⟩ := FX.out w hSw; go_simp; first | done | with_reducible rfl
  refine rd1 10 (fun K hK => ?_)
  go_simp
  have hc := kx1 zD
  go_at_call 14
  refine hc.mono ?_
  rintro e w5 ⟨rfl, hb⟩
  replace BD := tbt BD hb
  clear hc hb
  go_wp2_with fail
  refine hK.out _ _ BD.out (fun hHeld => ?_)
  clear hK K
  refine rd1 12 (fun K hK => ?_)
  go_simp
  have hc := kx2 w5
  go_at_call 15
  refine hc.mono ?_
  rintro e w6 ⟨rfl, hb⟩
  replace BD := tbt BD hb
  clear hc hb
  go_wp2_with fail
  refine hK.out _ _ BD.out (fun hHeld => ?_)
  clear hK K
  refine tk0 13 ?_
  refine tk0 14 ?_
  refine wpAnyH_done (by kernel_rfl) ?_ _
  clear hHeld
  have hb := BD.out
  replace KT := tkb hb LT KT
  replace LT := tlz LT hb.size
  replace KU := tkb hb LU KU
  replace LU := tlz LU hb.size
  replace KW := tkb hb LW KW
  replace LW := tlz LW hb.size
  replace KX := tkb hb LX KX
  replace LX := tlz LX hb.size
  replace BB := tbt BB hb
  clear hb BD
  clear FU FW FX kx1 kx2 KW LW KX LX ku hkk hrr
  rcases HCODE.out with h | h | h
  · have T := HTAK.out (by omega)
    obtain ⟨t1, t2, t3, t4⟩ := T
    have hu := HFU.out (by omega)
    have hnn := HFT.out (HIN.out (by omega))
    have k2 := K2.out hu
    have k3 := K3.out hu.1
    have hsz2 : 0 ≤ so ∧ so ≤ 600 := tkr_of t1
    try dsimp only at t2 t3 hnn
    obtain ⟨yo, hy⟩ : ∃ z, z = offerS ⟨so, sn, sc, sb⟩ s := ⟨_, rfl⟩
    rw [← hy] at k2 t4
    rw [t4] at k2
    rw [t1] at k3
    clear hy
    obtain ⟨⟨yo, yn, yc, yb⟩, y2⟩ := yo
    try dsimp only at k2
    clear t4 t1 hu
    have hwt : IntKind.i64.wrap (mn + 1) = mn + 1 := by rw [IntKind.wrap_i64] <;> omega
    have hws : IntKind.i64.wrap (so + 1) = so + 1 := by rw [IntKind.wrap_i64] <;> omega
    have hen : (sn == mn + 1) = true := by rw [t2]; simp
    have hk0 : (k != 0) = false := by rw [h]; rfl
    have hke : (k == 1) = false := by rw [h]; rfl
    have hlast : (sn == so + 1) = false := by rw [beq_eq_false_iff_ne]; intro e; have := t3.2 e; omega
    clear t2 t3 h hnn hsz2
    have hc := k2 w6
    have fU0 := tcr KU 0
    have fU1 := tcr KU 1
    have fU2 := tcr KU 2
    have fU3 := tcr KU 3
    go_wp2_with (go_at_call 11; refine hc.mono ?_; rintro e w7 ⟨rfl, hb⟩; refine Hid.out ?_)
    refine Lib.hid ?_
    replace KT := tkb hb LT KT
    replace LT := tlz LT hb.size
    replace KU := tkb hb LU KU
    replace LU := tlz LU hb.size
    replace BB := tbt BB hb
    clear hc hb fU0 fU1 fU2 fU3
    obtain ⟨X5, hX5⟩ : ∃ z, z = w7.alloc (.cells #[.int .i64 yo, .int .i64 yn, .int .i64 yc, .string yb] 25) := ⟨_, rfl⟩
    have hb : Below w7.heap.size w7 X5 := by rw [hX5]; exact (Below.refl _ _).alloc (Nat.le_refl _) _
    replace KT := tkb hb LT KT
    replace LT := tlz LT hb.size
    replace KU := tkb hb LU KU
    replace LU := tlz LU hb.size
    replace BB := tbt BB hb
    have KZ : Hid (X5.heap[w7.heap.size]? = some (.cells #[.int .i64 yo, .int .i64 yn, .int .i64 yc, .string yb] 25 (0, 0))) := Lib.hid (by rw [hX5]; exact heap_new _ _)
    have LZ : Hid (w7.heap.size < X5.heap.size) := Lib.hid (by rw [hX5]; simp)
    clear hb
    have hc := k3 X5
    have fU0 := tcr KU 0
    have fU1 := tcr KU 1
    have fU2 := tcr KU 2
    have fU3 := tcr KU 3
    rw [hX5] at hc fU0 fU1 fU2 fU3
    go_wp2_with (go_at_call 14; refine hc.mono ?_; rintro e w8 ⟨rfl, hb⟩; refine Hid.out ?_)
    refine Lib.hid ?_
    rw [← hX5] at hb 
    clear hX5
    replace KT := tkb hb LT KT
    replace LT := tlz LT hb.size
    replace KU := tkb hb LU KU
    replace LU := tlz LU hb.size
    replace KZ := tkb hb LZ KZ
    replace LZ := tlz LZ hb.size
    replace BB := tbt BB hb
    clear hc hb fU0 fU1 fU2 fU3
    have fU0 := tcr KU 0
    have fU1 := tcr KU 1
    have fU2 := tcr KU 2
    have fU3 := tcr KU 3
    have fT0 := tcr KT 0
    have fT1 := tcr KT 1
    have fT2 := tcr KT 2
    have fT3 := tcr KT 3
    go_wp2_with fail
    go_ret
    exact ⟨rfl, BB.out⟩
  · have T := HTAK.out (by omega)
    obtain ⟨t1, t2, t3, t4⟩ := T
    have hu := HFU.out (by omega)
    have hnn := HFT.out (HIN.out (by omega))
    have k2 := K2.out hu
    have k3 := K3.out hu.1
    have hsz2 : 0 ≤ so ∧ so ≤ 600 := tkr_of t1
    try dsimp only at t2 t3 hnn
    obtain ⟨yo, hy⟩ : ∃ z, z = offerS ⟨so, sn, sc, sb⟩ s := ⟨_, rfl⟩
    rw [← hy] at k2 t4
    rw [t4] at k2
    rw [t1] at k3
    clear hy
    obtain ⟨⟨yo, yn, yc, yb⟩, y2⟩ := yo
    try dsimp only at k2
    clear t4 t1 hu
    have hwt : IntKind.i64.wrap (mn + 1) = mn + 1 := by rw [IntKind.wrap_i64] <;> omega
    have hws : IntKind.i64.wrap (so + 1) = so + 1 := by rw [IntKind.wrap_i64] <;> omega
    have hen : (sn == mn + 1) = true := by rw [t2]; simp
    have hk0 : (k != 0) = true := by rw [h]; rfl
    have hk1 : (k != 1) = false := by rw [h]; rfl
    have hke : (k == 1) = true := by rw [h]; rfl
    have hlast : (sn == so + 1) = true := by rw [t3.1 h]; simp
    clear t2 t3 h hnn hsz2
    have hc := k2 w6
    have fU0 := tcr KU 0
    have fU1 := tcr KU 1
    have fU2 := tcr KU 2
    have fU3 := tcr KU 3
    go_wp2_with (go_at_call 11; refine hc.mono ?_; rintro e w7 ⟨rfl, hb⟩; refine Hid.out ?_)
    refine Lib.hid ?_
    replace KT := tkb hb LT KT
    replace LT := tlz LT hb.size
    replace KU := tkb hb LU KU
    replace LU := tlz LU hb.size
    replace BB := tbt BB hb
    clear hc hb fU0 fU1 fU2 fU3
    obtain ⟨X5, hX5⟩ : ∃ z, z = w7.alloc (.cells #[.int .i64 yo, .int .i64 yn, .int .i64 yc, .string yb] 25) := ⟨_, rfl⟩
    have hb : Below w7.heap.size w7 X5 := by rw [hX5]; exact (Below.refl _ _).alloc (Nat.le_refl _) _
    replace KT := tkb hb LT KT
    replace LT := tlz LT hb.size
    replace KU := tkb hb LU KU
    replace LU := tlz LU hb.size
    replace BB := tbt BB hb
    have KZ : Hid (X5.heap[w7.heap.size]? = some (.cells #[.int .i64 yo, .int .i64 yn, .int .i64 yc, .string yb] 25 (0, 0))) := Lib.hid (by rw [hX5]; exact heap_new _ _)
    have LZ : Hid (w7.heap.size < X5.heap.size) := Lib.hid (by rw [hX5]; simp)
    clear hb
    have hc := k3 X5
    have fU0 := tcr KU 0
    have fU1 := tcr KU 1
    have fU2 := tcr KU 2
    have fU3 := tcr KU 3
    rw [hX5] at hc fU0 fU1 fU2 fU3
    go_wp2_with (go_at_call 14; refine hc.mono ?_; rintro e w8 ⟨rfl, hb⟩; refine Hid.out ?_)
    refine Lib.hid ?_
    rw [← hX5] at hb 
    clear hX5
    replace KT := tkb hb LT KT
    replace LT := tlz LT hb.size
    replace KU := tkb hb LU KU
    replace LU := tlz LU hb.size
    replace KZ := tkb hb LZ KZ
    replace LZ := tlz LZ hb.size
    replace BB := tbt BB hb
    clear hc hb fU0 fU1 fU2 fU3
    have fU0 := tcr KU 0
    have fU1 := tcr KU 1
    have fU2 := tcr KU 2
    have fU3 := tcr KU 3
    have fT0 := tcr KT 0
    have fT1 := tcr KT 1
    have fT2 := tcr KT 2
    have fT3 := tcr KT 3
    go_wp2_with fail
    go_ret
    exact ⟨rfl, BB.out⟩
  · have hk0 : (k != 0) = true := by rw [bne_iff_ne]; omega
    have hk1 : (k != 1) = true := by rw [bne_iff_ne]; omega
    have he := HEQ.out (HBAD.out h)
    have ke := KE.out
    rw [he] at ke
    clear h he
    have fU0 := tcr KU 0
    have fU1 := tcr KU 1
    have fU2 := tcr KU 2
    have fU3 := tcr KU 3
    have fT0 := tcr KT 0
    have fT1 := tcr KT 1
    have fT2 := tcr KT 2
    have fT3 := tcr KT 3
    go_wp2_with fail
    go_ret
    exact ⟨rfl, BB.out⟩
end Go.Proofs.Ytdpjdjkfedcojaa
