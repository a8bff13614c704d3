/- The law FnTaker: who takes a stream in order has it, whatever comes twice or too early. Condition: none. -/
import Derived.Test.YtdpjdjkfedcojaaGreatCurA
import Derived.Test.YtdpjdjkfedcojaaGreatDrX
import Derived.Test.YtdpjdjkfedcojaaGreatVerB
import Derived.Test.YtdpjdjkfedcojaaGreatStrA
import Derived.Test.YtdpjdjkfedcojaaGreatSameRaw
import Derived.Test.YtdpjdjkfedcojaaGreatSpecSame
import Derived.Test.YtdpjdjkfedcojaaGreatBaseA
import Derived.Test.YtdpjdjkfedcojaaGreatDrwC
import Derived.Test.YtdpjdjkfedcojaaGreatImTA
import Derived.Test.YtdpjdjkfedcojaaGreatTkStream
import Derived.Test.YtdpjdjkfedcojaaGreatRowT
import Derived.BigQuiet
import Derived.Deep.QuietTactic
namespace Go.Proofs.YtdpjdjkfedcojaaGreat
open Go.RowKit
set_option linter.unusedVariables false
set_option linter.unusedSimpArgs false

def nxAt (w : World) (b : Nat) : Nat := match w.cell? ⟨b, 1, none⟩ with | some (.int _ n) => n.toNat | _ => 0
theorem grown4 (w : World) (g : Nat) (a b c d : Value) : w.grownBy ((((w.setCell ⟨g, 0, none⟩ a).setCell ⟨g, 1, none⟩ b).setCell ⟨g, 2, none⟩ c).setCell ⟨g, 3, none⟩ d) (some g) :=
  (((grown_set w ⟨g, 0, none⟩ a).trans (grown_set _ ⟨g, 1, none⟩ b)).trans (grown_set _ ⟨g, 2, none⟩ c)).trans (grown_set _ ⟨g, 3, none⟩ d)
set_option maxRecDepth 100000 in
set_option maxHeartbeats 8000000 in
theorem law_taker (a : Option Addr) (len cap : Nat) (zs : List Int) (w : World) (hr : IsRow .u8 w a len cap zs) :
    Calls Tryz.prog 3 #[.slice a len cap] w fun e w' => e = .returned (.bool true) ∧ Below w.heap.size w w' := by
  have hr := row8_of hr
  by_cases hbig : 1048576 < len
  · have hd : decide (1048576 < len) = true := by simpa using hbig
    go_enter Tryz.func3, Tryz.ntmps3
    go_wp2_with (go_at_call 5; refine (big_any _ _ _ _).mono ?_; rintro e w' ⟨rfl, rfl⟩)
    go_ret
    exact ⟨rfl, Below.refl _ _⟩
  have hd : decide (1048576 < len) = false := by simpa using hbig
  have hlen : len ≤ 1048576 := by omega
  have Hr8 := Lib.hid hr
  have BB : Hid (Below w.heap.size w w) := Lib.hid (Below.refl _ _)
  go_enter Tryz.func3, Tryz.ntmps3
  go_wp2_with (go_at_call 5; refine (big_any _ _ _ _).mono ?_; rintro e w' ⟨rfl, rfl⟩; refine Hid.out ?_)
  refine Lib.hid ?_
  clear hd hbig hr
  obtain ⟨x0, hx0, kat⟩ := at_the a len cap zs 0 (by omega) w Hr8.out hlen
  have KAT0 := Lib.hid kat
  clear kat
  have KAT : Hid (∀ (i : Nat) (w' : World), i ≤ 1000 → Row8 w' w'.heap.size a len cap zs → Calls Tryz.prog 8 #[.slice a len cap, .int .i64 i] w' fun e w'' => ∃ x : Nat, x < 256 ∧ e = .returned (.int .i64 x) ∧ w' = w'') := Lib.hid (fun i w' hi hr => (at_val a len cap zs i (by omega) w' hr hlen).mono (fun e w'' h => by obtain ⟨x, h1, _, _, h2, h3⟩ := h; exact ⟨x, h1, h2, h3⟩))
  have hc := drawExport_any a len cap zs w Hr8.out hlen
  go_wp2_with (go_at_call 6; refine hc.mono ?_; rintro e w1 ⟨v, s, n, k, rfl, hst, hsm, hn64, hk64, hb⟩; refine Hid.out ?_)
  refine Lib.hid ?_
  obtain ⟨vi, vt, rfl, r1, r2⟩ := id hst
  obtain ⟨sa, sc, rfl⟩ := slice_rowX r1
  obtain ⟨ta, tc, rfl⟩ := slice_rowX r2
  have SV := Lib.hid hst
  replace BB := Lib.hid hb
  have W1 : Hid (w.heap.size ≤ w1.heap.size) := Lib.hid hb.size
  have Hfit : Hid (Fits s) := Lib.hid hsm.fits
  have B1 : Hid (Below w1.heap.size w1 w1) := Lib.hid (Below.refl _ _)
  clear r1 r2 hst hsm hb hc
  obtain ⟨X1, hX1⟩ : ∃ z, z = w1.alloc (.cells #[.slice sa s.items.length sc, .slice ta s.talks.length tc] 27) := ⟨_, rfl⟩
  have hb : Below w1.heap.size w1 X1 := by rw [hX1]; exact (Below.refl _ _).alloc (Nat.le_refl _) _
  replace B1 := tbt B1 hb
  replace BB := tbt BB hb
  have KA : Hid (X1.heap[w1.heap.size]? = some (.cells #[.slice sa s.items.length sc, .slice ta s.talks.length tc] 27 (0, 0))) := Lib.hid (by rw [hX1]; exact heap_new _ _)
  have LA : Hid (w1.heap.size < X1.heap.size) := Lib.hid (by rw [hX1]; simp)
  clear hb
  obtain ⟨m, hm⟩ : ∃ m : Nat, m = 8 + x0 % 20 := ⟨_, rfl⟩
  have hm1 : 8 ≤ m := by omega
  have hm2 : m ≤ 200 := by omega
  have hwr : IntKind.i64.wrap (8 + (x0 : Int).tmod 20) = (m : Int) := by rw [Int.tmod_eq_emod_of_nonneg (by omega), IntKind.wrap_i64] <;> omega
  clear hm hx0
  obtain ⟨E, hE⟩ : ∃ E, E = cutS (fmtS s 2) (m : Int) := ⟨_, rfl⟩
  have HE := Lib.hid hE
  have Hmem : Hid (∀ x ∈ E, x.size ≤ 1000) := Lib.hid (fun x hx => by rw [hE] at hx; have := exp_mem x hx; omega)
  have hlnE : E.length ≤ 600 := by rw [hE]; exact exp_len _ _
  clear hE
  go_wp2_with fail
  rw [← hX1]
  clear hX1
  have FA : Hid (∀ w', Below X1.heap.size X1 w' → w'.cell? ⟨w1.heap.size, 0, none⟩ = some (.slice sa s.items.length sc) ∧ w'.cell? ⟨w1.heap.size, 1, none⟩ = some (.slice ta s.talks.length tc)) := Lib.hid (fun w' h => by have K := tkb h LA KA; exact ⟨tcr K 0, tcr K 1⟩)
  refine wp_region_held_drew (S := (fun w' => Below X1.heap.size X1 w')) (by kernel_rfl) (Below.refl _ _).drew (fun hHeld => ?_)
  obtain ⟨zD, hzD⟩ : ∃ zz, zz = X1.drew := ⟨_, rfl⟩
  rw [← hzD] at hHeld ⊢
  clear hzD
  have BD := Lib.hid hHeld
  refine tk 0 (v := ?_) ?_ ?_; rotate_left
  · refine Or.inl ⟨by rfl, ?_⟩; intro w hSw; obtain ⟨hA0, hA1⟩ := FA.out w hSw; go_simp; first | done | with_reducible rfl
  refine tk0 1 ?_
  refine rd1 2 (fun K hK => ?_)
  go_simp
  have hc := KAT0.out _ (Hr8.out.later (BB.out.trans (BD.out.mono BB.out.size)))
  go_at_call 8
  refine hc.mono ?_
  rintro e w2 ⟨rfl, hww⟩
  have hb : Below zD.heap.size zD w2 := by rw [← hww]; exact Below.refl _ _
  clear hww
  replace BD := tbt BD hb
  clear hc hb
  go_wp2_with fail
  refine hK.out _ _ BD.out (fun hHeld => ?_)
  clear hK K
  refine tk0 3 ?_
  refine tk0 4 ?_
  refine rd1 5 (fun K hK => ?_)
  go_simp
  have hc := impl_export s _ 2 (m : Int) w2.heap.size w2 ((SV.out.later B1.out B1.out.size).later BD.out BD.out.size) (Nat.le_refl _) Hfit.out
  rw [← HE.out] at hc
  go_at_call 7
  refine hc.mono ?_
  rintro e w3 ⟨vE, rfl, hE, hb⟩
  obtain ⟨ea, ec, rfl, hraw⟩ := texts_raw hE
  have GE := Lib.hid hE
  have RE := Lib.hid hraw
  clear hE hraw
  replace BD := tbt BD hb
  clear hc hb
  go_wp2_with fail
  refine hK.out _ _ BD.out (fun hHeld => ?_)
  clear hK K
  refine tk0 6 ?_
  refine wpAnyH_done (by kernel_rfl) ?_ _
  clear hHeld
  have hb := BD.out
  replace KA := tkb hb LA KA
  replace LA := tlz LA hb.size
  replace B1 := tbt B1 hb
  replace BB := tbt BB hb
  clear hb BD
  clear FA
  have hc := KAT.out 1 w3 (by omega) (Hr8.out.later BB.out)
  go_wp2_with (go_at_call 8; refine hc.mono ?_; rintro e wq ⟨y1, _, rfl, rfl⟩; refine Hid.out ?_)
  refine Lib.hid ?_
  clear hc
  obtain ⟨⟨zo, zn, zc, zb⟩, hz⟩ : ∃ u, u = tkN := ⟨_, rfl⟩
  have HZ := Lib.hid hz
  have ku := fun w => neq_tk ⟨zo, zn, zc, zb⟩ ⟨zo, zn, zc, zb⟩ w
  rw [tkrEq_refl] at ku
  unfold tkrV at ku
  dsimp only at ku
  have kb := fun w => spec_begin 0 w
  have kt := fun w => impl_takerOk tkN w (tk_fit tkr_new_ok).1
  rw [tkr_new_ok] at kt
  rw [← hz] at kb kt
  unfold tkrV at kb kt
  dsimp only at kb kt
  clear hz
  have hc := impl_begin (y1 : Int) w3
  rw [← HZ.out] at hc
  unfold tkrV at hc
  dsimp only at hc
  go_wp2_with (go_at_call 9; refine hc.mono ?_; rintro e w4 ⟨rfl, hb⟩; refine Hid.out ?_)
  refine Lib.hid ?_
  have GLT : Hid (∀ g cap, Value.slice ea E.length ec = .slice (some ⟨g, 0, none⟩) E.length cap → g < w4.heap.size) := Lib.hid (fun g cap e => by have h := World.ownsRow.lt GE.out g (by rw [e]; rfl); have := hb.size; omega)
  replace KA := tkb hb LA KA
  replace LA := tlz LA hb.size
  replace B1 := tbt B1 hb
  replace GE := Lib.hid (sp_later GE.out hb)
  replace RE := Lib.hid (RE.out.later hb hb.size)
  replace BB := tbt BB hb
  clear hc hb 
  have W4 : Hid (w1.heap.size < w4.heap.size) := LA
  obtain ⟨X2, hX2⟩ : ∃ z, z = w4.alloc (.cells #[.int .i64 zo, .int .i64 zn, .int .i64 zc, .string zb] 34) := ⟨_, rfl⟩
  have hb : Below w4.heap.size w4 X2 := by rw [hX2]; exact (Below.refl _ _).alloc (Nat.le_refl _) _
  replace KA := tkb hb LA KA
  replace LA := tlz LA hb.size
  replace B1 := tbt B1 hb
  replace GE := Lib.hid (sp_later GE.out hb)
  replace RE := Lib.hid (RE.out.later hb hb.size)
  replace BB := tbt BB hb
  have KT : Hid (X2.heap[w4.heap.size]? = some (.cells #[.int .i64 zo, .int .i64 zn, .int .i64 zc, .string zb] 34 (0, 0))) := Lib.hid (by rw [hX2]; exact heap_new _ _)
  have LT : Hid (w4.heap.size < X2.heap.size) := Lib.hid (by rw [hX2]; simp)
  clear hb
  have LT0 : Hid (w4.heap.size < X2.heap.size) := LT
  have BX0 : Hid (Below X2.heap.size X2 X2) := Lib.hid (Below.refl _ _)
  go_wp2_with fail
  rw [← hX2]
  clear hX2
  have FA : Hid (∀ w', Below X2.heap.size X2 w' → w'.cell? ⟨w1.heap.size, 0, none⟩ = some (.slice sa s.items.length sc) ∧ w'.cell? ⟨w1.heap.size, 1, none⟩ = some (.slice ta s.talks.length tc)) := Lib.hid (fun w' h => by have K := tkb h LA KA; exact ⟨tcr K 0, tcr K 1⟩)
  have FT : Hid (∀ w', Below X2.heap.size X2 w' → w'.cell? ⟨w4.heap.size, 0, none⟩ = some (.int .i64 zo) ∧ w'.cell? ⟨w4.heap.size, 1, none⟩ = some (.int .i64 zn) ∧ w'.cell? ⟨w4.heap.size, 2, none⟩ = some (.int .i64 zc) ∧ w'.cell? ⟨w4.heap.size, 3, none⟩ = some (.string zb)) := Lib.hid (fun w' h => by have K := tkb h LT KT; exact ⟨tcr K 0, tcr K 1, tcr K 2, tcr K 3⟩)
  refine wp_region_held_drew (S := (fun w' => Below X2.heap.size X2 w')) (by kernel_rfl) (Below.refl _ _).drew (fun hHeld => ?_)
  obtain ⟨zE, hzE⟩ : ∃ zz, zz = X2.drew := ⟨_, rfl⟩
  rw [← hzE] at hHeld ⊢
  clear hzE
  have BD := Lib.hid hHeld
  refine tk 0 (v := ?_) ?_ ?_; rotate_left
  · refine Or.inl ⟨by rfl, ?_⟩; intro w hSw; obtain ⟨hT0, hT1, hT2, hT3⟩ := FT.out w hSw; go_simp; first | done | with_reducible rfl
  refine rd1 1 (fun K hK => ?_)
  go_simp
  have hc := kb zE
  go_at_call 10
  refine hc.mono ?_
  rintro e w5 ⟨rfl, hb⟩
  replace BD := tbt BD hb
  clear hc hb
  go_wp2_with fail
  refine hK.out _ _ BD.out (fun hHeld => ?_)
  clear hK K
  refine tk0 2 ?_
  refine tk0 3 ?_
  refine tk 4 (v := ?_) ?_ ?_; rotate_left
  · refine Or.inl ⟨by rfl, ?_⟩; intro w hSw; obtain ⟨hT0, hT1, hT2, hT3⟩ := FT.out w hSw; go_simp; first | done | with_reducible rfl
  refine rd1 5 (fun K hK => ?_)
  go_simp
  have hc := kt w5
  go_at_call 11
  refine hc.mono ?_
  rintro e w6 ⟨rfl, hb⟩
  replace BD := tbt BD hb
  clear hc hb
  go_wp2_with fail
  refine hK.out _ _ BD.out (fun hHeld => ?_)
  clear hK K
  refine tk0 6 ?_
  refine tk0 7 ?_
  refine tk0 8 ?_
  refine tk0 9 ?_
  refine tk 10 (v := ?_) ?_ ?_; rotate_left
  · refine Or.inl ⟨by rfl, ?_⟩; intro w hSw; obtain ⟨hA0, hA1⟩ := FA.out w hSw; go_simp; first | done | with_reducible rfl
  refine tk0 11 ?_
  refine rd1 12 (fun K hK => ?_)
  go_simp
  have hc := KAT0.out _ (Hr8.out.later (BB.out.trans (BD.out.mono BB.out.size)))
  go_at_call 8
  refine hc.mono ?_
  rintro e w7 ⟨rfl, hww⟩
  have hb : Below w6.heap.size w6 w7 := by rw [← hww]; exact Below.refl _ _
  clear hww
  replace BD := tbt BD hb
  clear hc hb
  go_wp2_with fail
  refine hK.out _ _ BD.out (fun hHeld => ?_)
  clear hK K
  refine tk0 13 ?_
  refine tk0 14 ?_
  refine rd1 15 (fun K hK => ?_)
  go_simp
  have hc := spec_export s _ 2 (m : Int) w7.heap.size w7 ((SV.out.later B1.out B1.out.size).later BD.out BD.out.size) (Nat.le_refl _) Hfit.out
  rw [← HE.out] at hc
  go_at_call 13
  refine hc.mono ?_
  rintro e w8 ⟨vW, rfl, hW, hb⟩
  obtain ⟨wa, wc, rfl, hraw⟩ := texts_raw hW
  have RW := Lib.hid hraw
  clear hraw hW
  replace BD := tbt BD hb
  clear hc hb
  go_wp2_with fail
  refine hK.out _ _ BD.out (fun hHeld => ?_)
  clear hK K
  refine rd1 16 (fun K hK => ?_)
  go_simp
  have hc := same_raw E _ _ w8.heap.size w8 (RE.out.later BD.out BD.out.size) RW.out (Nat.le_refl _)
  clear RW
  go_at_call 12
  refine hc.mono ?_
  rintro e w9 ⟨rfl, hb⟩
  replace BD := tbt BD hb
  clear hc hb
  go_wp2_with fail
  refine hK.out _ _ BD.out (fun hHeld => ?_)
  clear hK K
  refine tk0 17 ?_
  refine tk0 18 ?_
  refine wpAnyH_done (by kernel_rfl) ?_ _
  clear hHeld
  have hb := BD.out
  replace KA := tkb hb LA KA
  replace LA := tlz LA hb.size
  replace KT := tkb hb LT KT
  replace LT := tlz LT hb.size
  replace B1 := tbt B1 hb
  replace GE := Lib.hid (sp_later GE.out hb)
  replace RE := Lib.hid (RE.out.later hb hb.size)
  replace BB := tbt BB hb
  clear hb BD
  clear FA FT hwr KAT0 ku kb kt RE BX0
  have hc := spec_stateOk s _ w9.heap.size w9 (SV.out.later B1.out B1.out.size) (Nat.le_refl _) Hfit.out
  have fA0 := tcr KA 0
  have fA1 := tcr KA 1
  go_wp2_with (go_at_call 14; refine hc.mono ?_; rintro e w10 ⟨rfl, hb⟩; refine Hid.out ?_)
  refine Lib.hid ?_
  replace KA := tkb hb LA KA
  replace LA := tlz LA hb.size
  replace KT := tkb hb LT KT
  replace LT := tlz LT hb.size
  replace B1 := tbt B1 hb
  replace GE := Lib.hid (sp_later GE.out hb)
  replace BB := tbt BB hb
  clear hc hb fA0 fA1
  by_cases hok : stOk s = true
  · rw [hok]
    obtain ⟨T, hE0, _, hT0, hTn, hTk, hTo, hTt⟩ := tk_stream hok hm1 hm2 HE.out
    clear hok
    have HTK := Lib.hid hTk
    have HTO := Lib.hid hTo
    have HTT := Lib.hid hTt
    have HTN := Lib.hid hTn
    rw [← HZ.out] at hT0
    have KT0 : Hid (w10.heap[w4.heap.size]? = some (.cells #[.int .i64 (T 0).of, .int .i64 (T 0).nx, .int .i64 (T 0).ch, .string (T 0).b] 34 (0, 0))) := Lib.hid (by rw [hT0]; exact KT.out)
    clear KT hT0 hTk hTo hTt hTn HZ hm1 hm2
    have KT := KT0
    clear KT0
    obtain ⟨g, cl, hv, hgot⟩ := sp_got GE.out (by omega)
    obtain ⟨rfl, rfl⟩ : ea = some ⟨g, 0, none⟩ ∧ ec = cl := by injection hv with e1 _ e2; exact ⟨e1, e2⟩
    have GT := Lib.hid hgot
    have NG : Hid (g ≠ w4.heap.size) := Lib.hid (by have := GLT.out g ec rfl; omega)
    have hcap : E.length ≤ ec := hgot.2.1
    clear GE hv hgot HE GLT
    have hl0 : ((E.length : Int) == 0) = false := by rw [beq_eq_false_iff_ne]; omega
    go_wp2_with fail
    go_loopw [8] (fun i wr => ∃ (k j : Nat), k ≤ 300 ∧ i = .int .i64 k ∧ j ≤ E.length ∧ Hid (wr.heap[w4.heap.size]? = some (.cells #[.int .i64 (T j).of, .int .i64 (T j).nx, .int .i64 (T j).ch, .string (T j).b] 34 (0, 0))) ∧ Hid (w4.heap.size < wr.heap.size) ∧ Hid (wr.heap[w1.heap.size]? = some (.cells #[.slice sa s.items.length sc, .slice ta s.talks.length tc] 27 (0, 0))) ∧ Hid (w1.heap.size < wr.heap.size) ∧ Hid (Below w1.heap.size w1 wr) ∧ Hid (Got wr w2.heap.size 9 1 g E.length ec (E.map Value.string)) ∧ Hid (Below w.heap.size w wr)) (fun i _ => 300 - (intOf i).toNat)
    case atStart => exact ⟨0, 0, by omega, rfl, by omega, KT, LT, KA, LA, B1, GT, BB⟩
    case round =>
      clear KT LT KA LA B1 GT BB
      obtain ⟨k, j, hk, rfl, hj, KT, LT, KA, LA, B1, GT, BB⟩ := hrel
      have hnx := HTN.out j
      have HNX := Lib.hid hnx
      clear hnx
      by_cases h1 : k < 300
      · have d1 : decide ((k : Int) < 300) = true := by rw [decide_eq_true_iff]; omega
        by_cases h2 : j < E.length
        · have d2 : decide ((T j).nx ≤ (E.length : Int)) = true := by rw [decide_eq_true_iff, HNX.out]; omega
          have fT0 := tcr KT 0
          have fT1 := tcr KT 1
          have fT2 := tcr KT 2
          have fT3 := tcr KT 3
          have hc := KAT.out k wr (by omega) (Hr8.out.later BB.out)
          go_wp2_with (go_at_call 8; refine hc.mono ?_; rintro e wq ⟨x, _, rfl, rfl⟩; refine Hid.out ?_)
          refine Lib.hid ?_
          clear hc fT0 fT1 fT2 fT3
          obtain ⟨n1, hn1⟩ : ∃ z, z = x % E.length := ⟨_, rfl⟩
          have hn1l : n1 < E.length := by rw [hn1]; exact Nat.mod_lt _ (by omega)
          have hxt : (x : Int).tmod (E.length : Int) = (n1 : Int) := by rw [hn1]; rfl
          have hxt2 : (x : Int) % (E.length : Int) = (n1 : Int) := by rw [hn1]; rfl
          clear hn1
          obtain ⟨k3, hk3⟩ : ∃ z, z = k + 3 := ⟨_, rfl⟩
          have hw3 : IntKind.i64.wrap ((k : Int) + 3) = (k3 : Int) := by rw [hk3, IntKind.wrap_i64] <;> omega
          have hc := KAT.out k3 wr (by omega) (Hr8.out.later BB.out)
          clear hk3
          go_wp2_with (go_at_call 8; refine hc.mono ?_; rintro e wq ⟨y, _, rfl, rfl⟩; refine Hid.out ?_)
          refine Lib.hid ?_
          clear hc hxt hxt2 hw3
          by_cases hev : y % 2 = 0
          · have e0 : ((y : Int).tmod 2 == 0) = true := by rw [Int.tmod_eq_emod_of_nonneg (by omega), beq_iff_eq]; omega
            have e1 : ((y : Int) % 2 == 0) = true := by rw [beq_iff_eq]; omega
            have hwj : IntKind.i64.wrap ((T j).nx - 1) = (j : Int) := by rw [HNX.out, IntKind.wrap_i64] <;> omega
            have fT0 := tcr KT 0
            have fT1 := tcr KT 1
            have fT2 := tcr KT 2
            have fT3 := tcr KT 3
            obtain ⟨xn, hxn⟩ : ∃ z, z = E[j]'h2 := ⟨_, rfl⟩
            have hof := HTO.out j h2 j hj
            rw [← hxn] at hof
            obtain ⟨hfit, hbz, hnn⟩ := tk_fit (HTK.out j hj)
            have hxz : xn.size ≤ 1000 := by rw [hxn]; exact Hmem.out _ (List.getElem_mem _)
            have ki := fun w => impl_offer (T j) xn w hfit (by omega) (by omega)
            have ks := fun w => spec_offer (T j) xn w hfit (by omega) (by omega)
            obtain ⟨⟨uo, un, uc, ub⟩, hu⟩ : ∃ z, z = (offerS (T j) xn).1 := ⟨_, rfl⟩
            obtain ⟨c, hcd⟩ : ∃ z, z = (offerS (T j) xn).2 := ⟨_, rfl⟩
            rw [← hu, ← hcd] at ki ks
            unfold tkrV at ki ks
            dsimp only at ki ks
            have HOF : Hid ((⟨uo, un, uc, ub⟩, c) = if j < j then (T j, 2) else if j < j then (T j, 3) else (T (j + 1), if j + 1 = E.length then 1 else 0)) := Lib.hid (by rw [← hof, hu, hcd])
            have HXN := Lib.hid hxn
            clear hof hu hcd hxn hfit hbz hnn hxz
            have n0 : (0 : Int) ≤ (j : Int) := by omega
            have nE : (j : Int) < (E.length : Int) := by omega
            go_wp2_with fail
            clear e0 e1 hwj fT0 fT1 fT2 fT3
            go_cut [10, 11] (fun mm bv wx => ∃ (mb : Nat), mm = .pointer (some ⟨mb, 0, none⟩) ∧ bv = .int .i64 c ∧ Hid (wx.heap[mb]? = some (.cells #[.int .i64 uo, .int .i64 un, .int .i64 uc, .string ub] 34 (0, 0))) ∧ Hid (Below wr.heap.size wr wx) ∧ Hid (wr.heap.size ≤ mb ∧ mb < wx.heap.size))
            case first =>
              have FT : Hid (∀ w', Below wr.heap.size wr w' → w'.cell? ⟨w4.heap.size, 0, none⟩ = some (.int .i64 (T j).of) ∧ w'.cell? ⟨w4.heap.size, 1, none⟩ = some (.int .i64 (T j).nx) ∧ w'.cell? ⟨w4.heap.size, 2, none⟩ = some (.int .i64 (T j).ch) ∧ w'.cell? ⟨w4.heap.size, 3, none⟩ = some (.string (T j).b)) := Lib.hid (fun w' h => by have K := tkb h LT KT; exact ⟨tcr K 0, tcr K 1, tcr K 2, tcr K 3⟩)
              have FL : Hid (∀ w', Below wr.heap.size wr w' → w'.cell? ⟨g, j, none⟩ = some (.string xn)) := Lib.hid (fun w' h => by rw [HXN.out]; exact (sp_cell (GT.out.later h) j h2).1)
              refine wp_region_held_drew (S := (fun w' => Below wr.heap.size wr w')) (by kernel_rfl) (Below.refl _ _).drew (fun hHeld => ?_)
              obtain ⟨zD, hzD⟩ : ∃ zz, zz = wr.drew := ⟨_, rfl⟩
              rw [← hzD] at hHeld ⊢
              clear hzD
              have BD := Lib.hid hHeld
              refine tk 0 (v := ?_) ?_ ?_; rotate_left
              · refine Or.inl ⟨by rfl, ?_⟩; intro w hSw; obtain ⟨hT0, hT1, hT2, hT3⟩ := FT.out w hSw; go_simp; first | done | with_reducible rfl
              refine tk0 1 ?_
              refine tk0 2 ?_
              refine tk0 3 ?_
              refine tk 4 (v := ?_) ?_ ?_; rotate_left
              · refine Or.inl ⟨by rfl, ?_⟩; intro w hSw; have h0 := FL.out w hSw; go_simp; first | done | with_reducible rfl
              refine rd2 5 9 (fun K hK => ?_) (fun K hK => ?_)
              · go_simp
                have hc := ki zD
                go_at_call 15
                refine hc.mono ?_
                rintro e zE ⟨rfl, hb⟩
                have hbk := hb
                replace BD := tbt BD hb
                clear hc hb
                clear hbk
                go_wp2_with fail
                refine hK.out _ _ BD.out (fun hHeld => ?_)
                clear hK K
                refine tk0 6 ?_
                refine tk0 7 ?_
                refine tk0 8 ?_
                refine rd1 9 (fun K hK => ?_)
                go_simp
                obtain ⟨zV, hzV⟩ : ∃ z, z = zE.alloc (.cells #[.int .i64 0, .int .i64 0, .int .i64 0, .string ⟨#[]⟩] 34) := ⟨_, rfl⟩
                rw [← hzV]
                have bV : Below zE.heap.size zE zV := by rw [hzV]; exact (Below.refl _ _).alloc (Nat.le_refl _) _
                have KM : Hid (zV.heap[zE.heap.size]? = some (.cells #[.int .i64 0, .int .i64 0, .int .i64 0, .string ⟨#[]⟩] 34 (0, 0))) := Lib.hid (by rw [hzV]; exact heap_new _ _)
                have LM : Hid (zE.heap.size < zV.heap.size) := Lib.hid (by rw [hzV]; simp)
                have AM : Hid (wr.heap.size ≤ zE.heap.size) := Lib.hid BD.out.size
                replace BD := tbt BD bV
                clear hzV bV
                go_wp2_with fail
                refine hK.out _ _ BD.out (fun hHeld => ?_)
                clear hK K
                refine rd1 10 (fun K hK => ?_)
                have f0 := tcr KM 0
                have f1 := tcr KM 1
                have f2 := tcr KM 2
                have f3 := tcr KM 3
                have z0 := tfr KM 0
                have z1 := tfr KM 1
                have z2 := tfr KM 2
                have z3 := tfr KM 3
                go_simp
                obtain ⟨Y, hY⟩ : ∃ Y, Y = (((zV.setCell ⟨zE.heap.size, 0, none⟩ (.int .i64 uo)).setCell ⟨zE.heap.size, 1, none⟩ (.int .i64 un)).setCell ⟨zE.heap.size, 2, none⟩ (.int .i64 uc)).setCell ⟨zE.heap.size, 3, none⟩ (.string ub) := ⟨_, rfl⟩
                rw [← hY]
                have R1 : Hid (Y.heap[zE.heap.size]? = some (.cells #[.int .i64 uo, .int .i64 un, .int .i64 uc, .string ub] 34 (0, 0))) := Lib.hid (by rw [hY]; exact storeT KM.out)
                have BY : Below wr.heap.size wr Y := by rw [hY]; exact below4 BD.out AM.out
                have LY : Hid (wr.heap.size ≤ zE.heap.size ∧ zE.heap.size < Y.heap.size) := Lib.hid ⟨AM.out, (Array.getElem?_eq_some_iff.1 R1.out).1⟩
                refine hK.out _ _ BY (fun hHeld => ?_)
                clear hK K f0 f1 f2 f3 z0 z1 z2 z3 hY
                refine tk0 11 ?_
                refine wpAnyH_done (by kernel_rfl) ?_ _
                clear hHeld
                go_wp2_with fail
                go_meet
                exact ⟨zE.heap.size, rfl, rfl, R1, Lib.hid BY, LY⟩
              · go_simp
                obtain ⟨zV, hzV⟩ : ∃ z, z = zD.alloc (.cells #[.int .i64 0, .int .i64 0, .int .i64 0, .string ⟨#[]⟩] 34) := ⟨_, rfl⟩
                rw [← hzV]
                have bV : Below zD.heap.size zD zV := by rw [hzV]; exact (Below.refl _ _).alloc (Nat.le_refl _) _
                have KM : Hid (zV.heap[zD.heap.size]? = some (.cells #[.int .i64 0, .int .i64 0, .int .i64 0, .string ⟨#[]⟩] 34 (0, 0))) := Lib.hid (by rw [hzV]; exact heap_new _ _)
                have LM : Hid (zD.heap.size < zV.heap.size) := Lib.hid (by rw [hzV]; simp)
                have AM : Hid (wr.heap.size ≤ zD.heap.size) := Lib.hid BD.out.size
                replace BD := tbt BD bV
                clear hzV bV
                go_wp2_with fail
                refine hK.out _ _ BD.out (fun hHeld => ?_)
                clear hK K
                refine rd1 5 (fun K hK => ?_)
                go_simp
                have hc := ki zV
                go_at_call 15
                refine hc.mono ?_
                rintro e zE ⟨rfl, hb⟩
                have hbk := hb
                replace BD := tbt BD hb
                clear hc hb
                replace KM := tkb hbk LM KM
                replace LM := tlz LM hbk.size
                clear hbk
                go_wp2_with fail
                refine hK.out _ _ BD.out (fun hHeld => ?_)
                clear hK K
                refine tk0 6 ?_
                refine tk0 7 ?_
                refine tk0 8 ?_
                refine rd1 10 (fun K hK => ?_)
                have f0 := tcr KM 0
                have f1 := tcr KM 1
                have f2 := tcr KM 2
                have f3 := tcr KM 3
                have z0 := tfr KM 0
                have z1 := tfr KM 1
                have z2 := tfr KM 2
                have z3 := tfr KM 3
                go_simp
                obtain ⟨Y, hY⟩ : ∃ Y, Y = (((zE.setCell ⟨zD.heap.size, 0, none⟩ (.int .i64 uo)).setCell ⟨zD.heap.size, 1, none⟩ (.int .i64 un)).setCell ⟨zD.heap.size, 2, none⟩ (.int .i64 uc)).setCell ⟨zD.heap.size, 3, none⟩ (.string ub) := ⟨_, rfl⟩
                rw [← hY]
                have R1 : Hid (Y.heap[zD.heap.size]? = some (.cells #[.int .i64 uo, .int .i64 un, .int .i64 uc, .string ub] 34 (0, 0))) := Lib.hid (by rw [hY]; exact storeT KM.out)
                have BY : Below wr.heap.size wr Y := by rw [hY]; exact below4 BD.out AM.out
                have LY : Hid (wr.heap.size ≤ zD.heap.size ∧ zD.heap.size < Y.heap.size) := Lib.hid ⟨AM.out, (Array.getElem?_eq_some_iff.1 R1.out).1⟩
                refine hK.out _ _ BY (fun hHeld => ?_)
                clear hK K f0 f1 f2 f3 z0 z1 z2 z3 hY
                refine tk0 11 ?_
                refine wpAnyH_done (by kernel_rfl) ?_ _
                clear hHeld
                go_wp2_with fail
                go_meet
                exact ⟨zD.heap.size, rfl, rfl, R1, Lib.hid BY, LY⟩
            case rest =>
              obtain ⟨mU, rfl, rfl, KU, bA, L0⟩ := hcut
              obtain ⟨v1, rfl⟩ : ∃ z, z = wc := ⟨_, rfl⟩
              have LU := Lib.hid L0.out.2
              have NU := Lib.hid L0.out.1
              have hb := bA.out
              clear L0 bA
              clear ki
              replace KA := tkb hb LA KA
              replace LA := tlz LA hb.size
              replace KT := tkb hb LT KT
              replace LT := tlz LT hb.size
              replace B1 := tbt B1 hb
              replace GT := Lib.hid (GT.out.later hb)
              replace BB := tbt BB hb
              clear hb
              go_wp2_with fail
              go_cut [12, 13] (fun mm bv wx => ∃ (mb : Nat), mm = .pointer (some ⟨mb, 0, none⟩) ∧ bv = .int .i64 c ∧ Hid (wx.heap[mb]? = some (.cells #[.int .i64 uo, .int .i64 un, .int .i64 uc, .string ub] 34 (0, 0))) ∧ Hid (Below v1.heap.size v1 wx) ∧ Hid (v1.heap.size ≤ mb ∧ mb < wx.heap.size))
              case first =>
                have FT : Hid (∀ w', Below v1.heap.size v1 w' → w'.cell? ⟨w4.heap.size, 0, none⟩ = some (.int .i64 (T j).of) ∧ w'.cell? ⟨w4.heap.size, 1, none⟩ = some (.int .i64 (T j).nx) ∧ w'.cell? ⟨w4.heap.size, 2, none⟩ = some (.int .i64 (T j).ch) ∧ w'.cell? ⟨w4.heap.size, 3, none⟩ = some (.string (T j).b)) := Lib.hid (fun w' h => by have K := tkb h LT KT; exact ⟨tcr K 0, tcr K 1, tcr K 2, tcr K 3⟩)
                have FL : Hid (∀ w', Below v1.heap.size v1 w' → w'.cell? ⟨g, j, none⟩ = some (.string xn)) := Lib.hid (fun w' h => by rw [HXN.out]; exact (sp_cell (GT.out.later h) j h2).1)
                refine wp_region_held_drew (S := (fun w' => Below v1.heap.size v1 w')) (by kernel_rfl) (Below.refl _ _).drew (fun hHeld => ?_)
                obtain ⟨zD, hzD⟩ : ∃ zz, zz = v1.drew := ⟨_, rfl⟩
                rw [← hzD] at hHeld ⊢
                clear hzD
                have BD := Lib.hid hHeld
                refine tk 0 (v := ?_) ?_ ?_; rotate_left
                · refine Or.inl ⟨by rfl, ?_⟩; intro w hSw; obtain ⟨hT0, hT1, hT2, hT3⟩ := FT.out w hSw; go_simp; first | done | with_reducible rfl
                refine tk0 1 ?_
                refine tk0 2 ?_
                refine tk0 3 ?_
                refine tk 4 (v := ?_) ?_ ?_; rotate_left
                · refine Or.inl ⟨by rfl, ?_⟩; intro w hSw; have h0 := FL.out w hSw; go_simp; first | done | with_reducible rfl
                refine rd2 5 9 (fun K hK => ?_) (fun K hK => ?_)
                · go_simp
                  have hc := ks zD
                  go_at_call 16
                  refine hc.mono ?_
                  rintro e zE ⟨rfl, hb⟩
                  have hbk := hb
                  replace BD := tbt BD hb
                  clear hc hb
                  clear hbk
                  go_wp2_with fail
                  refine hK.out _ _ BD.out (fun hHeld => ?_)
                  clear hK K
                  refine tk0 6 ?_
                  refine tk0 7 ?_
                  refine tk0 8 ?_
                  refine rd1 9 (fun K hK => ?_)
                  go_simp
                  obtain ⟨zV, hzV⟩ : ∃ z, z = zE.alloc (.cells #[.int .i64 0, .int .i64 0, .int .i64 0, .string ⟨#[]⟩] 34) := ⟨_, rfl⟩
                  rw [← hzV]
                  have bV : Below zE.heap.size zE zV := by rw [hzV]; exact (Below.refl _ _).alloc (Nat.le_refl _) _
                  have KM : Hid (zV.heap[zE.heap.size]? = some (.cells #[.int .i64 0, .int .i64 0, .int .i64 0, .string ⟨#[]⟩] 34 (0, 0))) := Lib.hid (by rw [hzV]; exact heap_new _ _)
                  have LM : Hid (zE.heap.size < zV.heap.size) := Lib.hid (by rw [hzV]; simp)
                  have AM : Hid (v1.heap.size ≤ zE.heap.size) := Lib.hid BD.out.size
                  replace BD := tbt BD bV
                  clear hzV bV
                  go_wp2_with fail
                  refine hK.out _ _ BD.out (fun hHeld => ?_)
                  clear hK K
                  refine rd1 10 (fun K hK => ?_)
                  have f0 := tcr KM 0
                  have f1 := tcr KM 1
                  have f2 := tcr KM 2
                  have f3 := tcr KM 3
                  have z0 := tfr KM 0
                  have z1 := tfr KM 1
                  have z2 := tfr KM 2
                  have z3 := tfr KM 3
                  go_simp
                  obtain ⟨Y, hY⟩ : ∃ Y, Y = (((zV.setCell ⟨zE.heap.size, 0, none⟩ (.int .i64 uo)).setCell ⟨zE.heap.size, 1, none⟩ (.int .i64 un)).setCell ⟨zE.heap.size, 2, none⟩ (.int .i64 uc)).setCell ⟨zE.heap.size, 3, none⟩ (.string ub) := ⟨_, rfl⟩
                  rw [← hY]
                  have R1 : Hid (Y.heap[zE.heap.size]? = some (.cells #[.int .i64 uo, .int .i64 un, .int .i64 uc, .string ub] 34 (0, 0))) := Lib.hid (by rw [hY]; exact storeT KM.out)
                  have BY : Below v1.heap.size v1 Y := by rw [hY]; exact below4 BD.out AM.out
                  have LY : Hid (v1.heap.size ≤ zE.heap.size ∧ zE.heap.size < Y.heap.size) := Lib.hid ⟨AM.out, (Array.getElem?_eq_some_iff.1 R1.out).1⟩
                  refine hK.out _ _ BY (fun hHeld => ?_)
                  clear hK K f0 f1 f2 f3 z0 z1 z2 z3 hY
                  refine tk0 11 ?_
                  refine wpAnyH_done (by kernel_rfl) ?_ _
                  clear hHeld
                  go_wp2_with fail
                  go_meet
                  exact ⟨zE.heap.size, rfl, rfl, R1, Lib.hid BY, LY⟩
                · go_simp
                  obtain ⟨zV, hzV⟩ : ∃ z, z = zD.alloc (.cells #[.int .i64 0, .int .i64 0, .int .i64 0, .string ⟨#[]⟩] 34) := ⟨_, rfl⟩
                  rw [← hzV]
                  have bV : Below zD.heap.size zD zV := by rw [hzV]; exact (Below.refl _ _).alloc (Nat.le_refl _) _
                  have KM : Hid (zV.heap[zD.heap.size]? = some (.cells #[.int .i64 0, .int .i64 0, .int .i64 0, .string ⟨#[]⟩] 34 (0, 0))) := Lib.hid (by rw [hzV]; exact heap_new _ _)
                  have LM : Hid (zD.heap.size < zV.heap.size) := Lib.hid (by rw [hzV]; simp)
                  have AM : Hid (v1.heap.size ≤ zD.heap.size) := Lib.hid BD.out.size
                  replace BD := tbt BD bV
                  clear hzV bV
                  go_wp2_with fail
                  refine hK.out _ _ BD.out (fun hHeld => ?_)
                  clear hK K
                  refine rd1 5 (fun K hK => ?_)
                  go_simp
                  have hc := ks zV
                  go_at_call 16
                  refine hc.mono ?_
                  rintro e zE ⟨rfl, hb⟩
                  have hbk := hb
                  replace BD := tbt BD hb
                  clear hc hb
                  replace KM := tkb hbk LM KM
                  replace LM := tlz LM hbk.size
                  clear hbk
                  go_wp2_with fail
                  refine hK.out _ _ BD.out (fun hHeld => ?_)
                  clear hK K
                  refine tk0 6 ?_
                  refine tk0 7 ?_
                  refine tk0 8 ?_
                  refine rd1 10 (fun K hK => ?_)
                  have f0 := tcr KM 0
                  have f1 := tcr KM 1
                  have f2 := tcr KM 2
                  have f3 := tcr KM 3
                  have z0 := tfr KM 0
                  have z1 := tfr KM 1
                  have z2 := tfr KM 2
                  have z3 := tfr KM 3
                  go_simp
                  obtain ⟨Y, hY⟩ : ∃ Y, Y = (((zE.setCell ⟨zD.heap.size, 0, none⟩ (.int .i64 uo)).setCell ⟨zD.heap.size, 1, none⟩ (.int .i64 un)).setCell ⟨zD.heap.size, 2, none⟩ (.int .i64 uc)).setCell ⟨zD.heap.size, 3, none⟩ (.string ub) := ⟨_, rfl⟩
                  rw [← hY]
                  have R1 : Hid (Y.heap[zD.heap.size]? = some (.cells #[.int .i64 uo, .int .i64 un, .int .i64 uc, .string ub] 34 (0, 0))) := Lib.hid (by rw [hY]; exact storeT KM.out)
                  have BY : Below v1.heap.size v1 Y := by rw [hY]; exact below4 BD.out AM.out
                  have LY : Hid (v1.heap.size ≤ zD.heap.size ∧ zD.heap.size < Y.heap.size) := Lib.hid ⟨AM.out, (Array.getElem?_eq_some_iff.1 R1.out).1⟩
                  refine hK.out _ _ BY (fun hHeld => ?_)
                  clear hK K f0 f1 f2 f3 z0 z1 z2 z3 hY
                  refine tk0 11 ?_
                  refine wpAnyH_done (by kernel_rfl) ?_ _
                  clear hHeld
                  go_wp2_with fail
                  go_meet
                  exact ⟨zD.heap.size, rfl, rfl, R1, Lib.hid BY, LY⟩
              case rest =>
                obtain ⟨mW, rfl, rfl, KW, bA, L0⟩ := hcut
                obtain ⟨v2, rfl⟩ : ∃ z, z = wc := ⟨_, rfl⟩
                have LW := Lib.hid L0.out.2
                have NW := Lib.hid L0.out.1
                have hb := bA.out
                clear L0 bA
                clear ks
                replace KA := tkb hb LA KA
                replace LA := tlz LA hb.size
                replace KT := tkb hb LT KT
                replace LT := tlz LT hb.size
                replace KU := tkb hb LU KU
                replace LU := tlz LU hb.size
                replace B1 := tbt B1 hb
                replace GT := Lib.hid (GT.out.later hb)
                replace BB := tbt BB hb
                clear hb
                have kq : ∀ w, (binOp .neq 34 (.agg #[.int .i64 uo, .int .i64 un, .int .i64 uc, .string ub]) (.agg #[.int .i64 uo, .int .i64 un, .int .i64 uc, .string ub])).run Tryz.prog w = .ok (.bool false) w := fun w => by
                  have h := neq_tk ⟨uo, un, uc, ub⟩ ⟨uo, un, uc, ub⟩ w
                  rw [tkrEq_refl] at h
                  exact h
                have hw1 : IntKind.i64.wrap ((j : Int) + 1) = (j : Int) + 1 := by rw [IntKind.wrap_i64] <;> omega
                have hpr := HOF.out
                rw [if_neg (by omega), if_neg (by omega)] at hpr
                obtain ⟨hu, hcd⟩ := Prod.mk.inj hpr
                have HU := Lib.hid hu
                have hun : un = (T j).nx + 1 := by have h1 := congrArg Tkr.nx HU.out; have h2 := HTN.out (j + 1); have h3 := HNX.out; dsimp only at h1; omega
                have hnz : (un != (T j).nx + 1) = false := by rw [hun]; simp
                have hwx : IntKind.i64.wrap ((T j).nx + 1) = (T j).nx + 1 := by have h3 := HNX.out; rw [IntKind.wrap_i64] <;> omega
                clear hpr hu HOF hun
                have kn := 0
                by_cases hla : j + 1 = E.length
                · rw [if_pos hla] at hcd
                  subst hcd
                  have hle : ((j : Int) + 1 == (E.length : Int)) = true := by rw [beq_iff_eq]; omega
                  have d22 : decide ((j : Int) + 1 < (T j).nx) = false := by rw [HNX.out, decide_eq_false_iff_not]; omega
                  have d25 : decide ((T j).nx < (j : Int) + 1) = false := by rw [HNX.out, decide_eq_false_iff_not]; omega
                  have hjn : j + 1 ≤ E.length := by omega
                  have hok2 : tkrOk ⟨uo, un, uc, ub⟩ = true := by rw [HU.out]; exact HTK.out _ hjn
                  have hft := (tk_fit hok2).1
                  obtain ⟨Y, hY⟩ : ∃ Y, Y = (((v2.setCell ⟨w4.heap.size, 0, none⟩ (.int .i64 uo)).setCell ⟨w4.heap.size, 1, none⟩ (.int .i64 un)).setCell ⟨w4.heap.size, 2, none⟩ (.int .i64 uc)).setCell ⟨w4.heap.size, 3, none⟩ (.string ub) := ⟨_, rfl⟩
                  have KY : Hid (Y.heap[w4.heap.size]? = some (.cells #[.int .i64 uo, .int .i64 un, .int .i64 uc, .string ub] 34 (0, 0))) := Lib.hid (by rw [hY]; exact storeT KT.out)
                  have gY : v2.grownBy Y (some w4.heap.size) := by rw [hY]; exact grown4 _ _ _ _ _ _
                  have fT0 := tcr KT 0
                  have fT1 := tcr KT 1
                  have fT2 := tcr KT 2
                  have fT3 := tcr KT 3
                  have fU0 := tcr KU 0
                  have fU1 := tcr KU 1
                  have fU2 := tcr KU 2
                  have fU3 := tcr KU 3
                  have fW0 := tcr KW 0
                  have fW1 := tcr KW 1
                  have fW2 := tcr KW 2
                  have fW3 := tcr KW 3
                  have z0 := tfr KT 0
                  have z1 := tfr KT 1
                  have z2 := tfr KT 2
                  have z3 := tfr KT 3
                  have y0 := tcr KY 0
                  have y1 := tcr KY 1
                  have y2 := tcr KY 2
                  have y3 := tcr KY 3
                  have hk := impl_takerOk ⟨uo, un, uc, ub⟩ Y hft
                  rw [hok2] at hk
                  unfold tkrV at hk
                  dsimp only at hk
                  rw [hY] at hk y0 y1 y2 y3
                  clear hok2 hft
                  go_wp2_with (go_at_call 11; refine hk.mono ?_; rintro e v3 ⟨rfl, hb⟩; refine Hid.out ?_)
                  refine Lib.hid ?_
                  rw [← hY] at hb
                  clear hk y0 y1 y2 y3 z0 z1 z2 z3 hY fT0 fT1 fT2 fT3 fU0 fU1 fU2 fU3 fW0 fW1 fW2 fW3 KU LU NU KW LW NW d22 d25 kq kn
                  replace LT := tlz LT gY.size
                  replace KA := tkg gY LA KA (by have := W4.out; simp; omega)
                  replace LA := tlz LA gY.size
                  replace B1 := Lib.hid (B1.out.grown gY B1.out.size (fun q e => by cases e; exact Nat.le_of_lt W4.out))
                  replace GT := Lib.hid (GT.out.grown gY NG.out)
                  replace BB := Lib.hid (BB.out.grown gY BB.out.size (fun q e => by cases e; have := W1.out; have := W4.out; omega))
                  clear gY KT
                  have KT := KY
                  clear KY
                  replace KT := tkb hb LT KT
                  replace LT := tlz LT hb.size
                  replace KA := tkb hb LA KA
                  replace LA := tlz LA hb.size
                  replace B1 := tbt B1 hb
                  replace GT := Lib.hid (GT.out.later hb)
                  replace BB := tbt BB hb
                  clear hb
                  have KT2 : Hid (v3.heap[w4.heap.size]? = some (.cells #[.int .i64 (T (j + 1)).of, .int .i64 (T (j + 1)).nx, .int .i64 (T (j + 1)).ch, .string (T (j + 1)).b] 34 (0, 0))) := Lib.hid (by rw [← HU.out]; exact KT.out)
                  clear KT
                  go_wp2_with fail
                  go_roundw
                  case rel => exact ⟨k + 1, j + 1, by omega, by go_num, hjn, KT2, LT, KA, LA, B1, GT, BB⟩
                  case measure => simp [intOf]; omega
                · rw [if_neg hla] at hcd
                  subst hcd
                  have hle : ((j : Int) + 1 == (E.length : Int)) = false := by rw [beq_eq_false_iff_ne]; omega
                  have hli : ¬ ((j : Int) + 1 = (E.length : Int)) := by omega
                  have d22 : decide ((j : Int) + 1 < (T j).nx) = false := by rw [HNX.out, decide_eq_false_iff_not]; omega
                  have d25 : decide ((T j).nx < (j : Int) + 1) = false := by rw [HNX.out, decide_eq_false_iff_not]; omega
                  have hjn : j + 1 ≤ E.length := by omega
                  have hok2 : tkrOk ⟨uo, un, uc, ub⟩ = true := by rw [HU.out]; exact HTK.out _ hjn
                  have hft := (tk_fit hok2).1
                  obtain ⟨Y, hY⟩ : ∃ Y, Y = (((v2.setCell ⟨w4.heap.size, 0, none⟩ (.int .i64 uo)).setCell ⟨w4.heap.size, 1, none⟩ (.int .i64 un)).setCell ⟨w4.heap.size, 2, none⟩ (.int .i64 uc)).setCell ⟨w4.heap.size, 3, none⟩ (.string ub) := ⟨_, rfl⟩
                  have KY : Hid (Y.heap[w4.heap.size]? = some (.cells #[.int .i64 uo, .int .i64 un, .int .i64 uc, .string ub] 34 (0, 0))) := Lib.hid (by rw [hY]; exact storeT KT.out)
                  have gY : v2.grownBy Y (some w4.heap.size) := by rw [hY]; exact grown4 _ _ _ _ _ _
                  have fT0 := tcr KT 0
                  have fT1 := tcr KT 1
                  have fT2 := tcr KT 2
                  have fT3 := tcr KT 3
                  have fU0 := tcr KU 0
                  have fU1 := tcr KU 1
                  have fU2 := tcr KU 2
                  have fU3 := tcr KU 3
                  have fW0 := tcr KW 0
                  have fW1 := tcr KW 1
                  have fW2 := tcr KW 2
                  have fW3 := tcr KW 3
                  have z0 := tfr KT 0
                  have z1 := tfr KT 1
                  have z2 := tfr KT 2
                  have z3 := tfr KT 3
                  have y0 := tcr KY 0
                  have y1 := tcr KY 1
                  have y2 := tcr KY 2
                  have y3 := tcr KY 3
                  have hk := impl_takerOk ⟨uo, un, uc, ub⟩ Y hft
                  rw [hok2] at hk
                  unfold tkrV at hk
                  dsimp only at hk
                  rw [hY] at hk y0 y1 y2 y3
                  clear hok2 hft
                  go_wp2_with (go_at_call 11; refine hk.mono ?_; rintro e v3 ⟨rfl, hb⟩; refine Hid.out ?_)
                  refine Lib.hid ?_
                  rw [← hY] at hb
                  clear hk y0 y1 y2 y3 z0 z1 z2 z3 hY fT0 fT1 fT2 fT3 fU0 fU1 fU2 fU3 fW0 fW1 fW2 fW3 KU LU NU KW LW NW d22 d25 kq kn
                  replace LT := tlz LT gY.size
                  replace KA := tkg gY LA KA (by have := W4.out; simp; omega)
                  replace LA := tlz LA gY.size
                  replace B1 := Lib.hid (B1.out.grown gY B1.out.size (fun q e => by cases e; exact Nat.le_of_lt W4.out))
                  replace GT := Lib.hid (GT.out.grown gY NG.out)
                  replace BB := Lib.hid (BB.out.grown gY BB.out.size (fun q e => by cases e; have := W1.out; have := W4.out; omega))
                  clear gY KT
                  have KT := KY
                  clear KY
                  replace KT := tkb hb LT KT
                  replace LT := tlz LT hb.size
                  replace KA := tkb hb LA KA
                  replace LA := tlz LA hb.size
                  replace B1 := tbt B1 hb
                  replace GT := Lib.hid (GT.out.later hb)
                  replace BB := tbt BB hb
                  clear hb
                  have KT2 : Hid (v3.heap[w4.heap.size]? = some (.cells #[.int .i64 (T (j + 1)).of, .int .i64 (T (j + 1)).nx, .int .i64 (T (j + 1)).ch, .string (T (j + 1)).b] 34 (0, 0))) := Lib.hid (by rw [← HU.out]; exact KT.out)
                  clear KT
                  go_wp2_with fail
                  go_roundw
                  case rel => exact ⟨k + 1, j + 1, by omega, by go_num, hjn, KT2, LT, KA, LA, B1, GT, BB⟩
                  case measure => simp [intOf]; omega
          · have e0 : ((y : Int).tmod 2 == 0) = false := by rw [Int.tmod_eq_emod_of_nonneg (by omega), beq_eq_false_iff_ne]; omega
            have e1 : ((y : Int) % 2 == 0) = false := by rw [beq_eq_false_iff_ne]; omega
            obtain ⟨xn, hxn⟩ : ∃ z, z = E[n1]'hn1l := ⟨_, rfl⟩
            have hof := HTO.out n1 hn1l j hj
            rw [← hxn] at hof
            obtain ⟨hfit, hbz, hnn⟩ := tk_fit (HTK.out j hj)
            have hxz : xn.size ≤ 1000 := by rw [hxn]; exact Hmem.out _ (List.getElem_mem _)
            have ki := fun w => impl_offer (T j) xn w hfit (by omega) (by omega)
            have ks := fun w => spec_offer (T j) xn w hfit (by omega) (by omega)
            obtain ⟨⟨uo, un, uc, ub⟩, hu⟩ : ∃ z, z = (offerS (T j) xn).1 := ⟨_, rfl⟩
            obtain ⟨c, hcd⟩ : ∃ z, z = (offerS (T j) xn).2 := ⟨_, rfl⟩
            rw [← hu, ← hcd] at ki ks
            unfold tkrV at ki ks
            dsimp only at ki ks
            have HOF : Hid ((⟨uo, un, uc, ub⟩, c) = if n1 < j then (T j, 2) else if j < n1 then (T j, 3) else (T (j + 1), if n1 + 1 = E.length then 1 else 0)) := Lib.hid (by rw [← hof, hu, hcd])
            have HXN := Lib.hid hxn
            clear hof hu hcd hxn hfit hbz hnn hxz
            have n0 : (0 : Int) ≤ (n1 : Int) := by omega
            have nE : (n1 : Int) < (E.length : Int) := by omega
            go_wp2_with fail
            clear e0 e1
            go_cut [10, 11] (fun mm bv wx => ∃ (mb : Nat), mm = .pointer (some ⟨mb, 0, none⟩) ∧ bv = .int .i64 c ∧ Hid (wx.heap[mb]? = some (.cells #[.int .i64 uo, .int .i64 un, .int .i64 uc, .string ub] 34 (0, 0))) ∧ Hid (Below wr.heap.size wr wx) ∧ Hid (wr.heap.size ≤ mb ∧ mb < wx.heap.size))
            case first =>
              have FT : Hid (∀ w', Below wr.heap.size wr w' → w'.cell? ⟨w4.heap.size, 0, none⟩ = some (.int .i64 (T j).of) ∧ w'.cell? ⟨w4.heap.size, 1, none⟩ = some (.int .i64 (T j).nx) ∧ w'.cell? ⟨w4.heap.size, 2, none⟩ = some (.int .i64 (T j).ch) ∧ w'.cell? ⟨w4.heap.size, 3, none⟩ = some (.string (T j).b)) := Lib.hid (fun w' h => by have K := tkb h LT KT; exact ⟨tcr K 0, tcr K 1, tcr K 2, tcr K 3⟩)
              have FL : Hid (∀ w', Below wr.heap.size wr w' → w'.cell? ⟨g, n1, none⟩ = some (.string xn)) := Lib.hid (fun w' h => by rw [HXN.out]; exact (sp_cell (GT.out.later h) n1 hn1l).1)
              refine wp_region_held_drew (S := (fun w' => Below wr.heap.size wr w')) (by kernel_rfl) (Below.refl _ _).drew (fun hHeld => ?_)
              obtain ⟨zD, hzD⟩ : ∃ zz, zz = wr.drew := ⟨_, rfl⟩
              rw [← hzD] at hHeld ⊢
              clear hzD
              have BD := Lib.hid hHeld
              refine tk 0 (v := ?_) ?_ ?_; rotate_left
              · refine Or.inl ⟨by rfl, ?_⟩; intro w hSw; obtain ⟨hT0, hT1, hT2, hT3⟩ := FT.out w hSw; go_simp; first | done | with_reducible rfl
              refine tk0 1 ?_
              refine tk0 2 ?_
              refine tk0 3 ?_
              refine tk 4 (v := ?_) ?_ ?_; rotate_left
              · refine Or.inl ⟨by rfl, ?_⟩; intro w hSw; have h0 := FL.out w hSw; go_simp; first | done | with_reducible rfl
              refine rd2 5 9 (fun K hK => ?_) (fun K hK => ?_)
              · go_simp
                have hc := ki zD
                go_at_call 15
                refine hc.mono ?_
                rintro e zE ⟨rfl, hb⟩
                have hbk := hb
                replace BD := tbt BD hb
                clear hc hb
                clear hbk
                go_wp2_with fail
                refine hK.out _ _ BD.out (fun hHeld => ?_)
                clear hK K
                refine tk0 6 ?_
                refine tk0 7 ?_
                refine tk0 8 ?_
                refine rd1 9 (fun K hK => ?_)
                go_simp
                obtain ⟨zV, hzV⟩ : ∃ z, z = zE.alloc (.cells #[.int .i64 0, .int .i64 0, .int .i64 0, .string ⟨#[]⟩] 34) := ⟨_, rfl⟩
                rw [← hzV]
                have bV : Below zE.heap.size zE zV := by rw [hzV]; exact (Below.refl _ _).alloc (Nat.le_refl _) _
                have KM : Hid (zV.heap[zE.heap.size]? = some (.cells #[.int .i64 0, .int .i64 0, .int .i64 0, .string ⟨#[]⟩] 34 (0, 0))) := Lib.hid (by rw [hzV]; exact heap_new _ _)
                have LM : Hid (zE.heap.size < zV.heap.size) := Lib.hid (by rw [hzV]; simp)
                have AM : Hid (wr.heap.size ≤ zE.heap.size) := Lib.hid BD.out.size
                replace BD := tbt BD bV
                clear hzV bV
                go_wp2_with fail
                refine hK.out _ _ BD.out (fun hHeld => ?_)
                clear hK K
                refine rd1 10 (fun K hK => ?_)
                have f0 := tcr KM 0
                have f1 := tcr KM 1
                have f2 := tcr KM 2
                have f3 := tcr KM 3
                have z0 := tfr KM 0
                have z1 := tfr KM 1
                have z2 := tfr KM 2
                have z3 := tfr KM 3
                go_simp
                obtain ⟨Y, hY⟩ : ∃ Y, Y = (((zV.setCell ⟨zE.heap.size, 0, none⟩ (.int .i64 uo)).setCell ⟨zE.heap.size, 1, none⟩ (.int .i64 un)).setCell ⟨zE.heap.size, 2, none⟩ (.int .i64 uc)).setCell ⟨zE.heap.size, 3, none⟩ (.string ub) := ⟨_, rfl⟩
                rw [← hY]
                have R1 : Hid (Y.heap[zE.heap.size]? = some (.cells #[.int .i64 uo, .int .i64 un, .int .i64 uc, .string ub] 34 (0, 0))) := Lib.hid (by rw [hY]; exact storeT KM.out)
                have BY : Below wr.heap.size wr Y := by rw [hY]; exact below4 BD.out AM.out
                have LY : Hid (wr.heap.size ≤ zE.heap.size ∧ zE.heap.size < Y.heap.size) := Lib.hid ⟨AM.out, (Array.getElem?_eq_some_iff.1 R1.out).1⟩
                refine hK.out _ _ BY (fun hHeld => ?_)
                clear hK K f0 f1 f2 f3 z0 z1 z2 z3 hY
                refine tk0 11 ?_
                refine wpAnyH_done (by kernel_rfl) ?_ _
                clear hHeld
                go_wp2_with fail
                go_meet
                exact ⟨zE.heap.size, rfl, rfl, R1, Lib.hid BY, LY⟩
              · go_simp
                obtain ⟨zV, hzV⟩ : ∃ z, z = zD.alloc (.cells #[.int .i64 0, .int .i64 0, .int .i64 0, .string ⟨#[]⟩] 34) := ⟨_, rfl⟩
                rw [← hzV]
                have bV : Below zD.heap.size zD zV := by rw [hzV]; exact (Below.refl _ _).alloc (Nat.le_refl _) _
                have KM : Hid (zV.heap[zD.heap.size]? = some (.cells #[.int .i64 0, .int .i64 0, .int .i64 0, .string ⟨#[]⟩] 34 (0, 0))) := Lib.hid (by rw [hzV]; exact heap_new _ _)
                have LM : Hid (zD.heap.size < zV.heap.size) := Lib.hid (by rw [hzV]; simp)
                have AM : Hid (wr.heap.size ≤ zD.heap.size) := Lib.hid BD.out.size
                replace BD := tbt BD bV
                clear hzV bV
                go_wp2_with fail
                refine hK.out _ _ BD.out (fun hHeld => ?_)
                clear hK K
                refine rd1 5 (fun K hK => ?_)
                go_simp
                have hc := ki zV
                go_at_call 15
                refine hc.mono ?_
                rintro e zE ⟨rfl, hb⟩
                have hbk := hb
                replace BD := tbt BD hb
                clear hc hb
                replace KM := tkb hbk LM KM
                replace LM := tlz LM hbk.size
                clear hbk
                go_wp2_with fail
                refine hK.out _ _ BD.out (fun hHeld => ?_)
                clear hK K
                refine tk0 6 ?_
                refine tk0 7 ?_
                refine tk0 8 ?_
                refine rd1 10 (fun K hK => ?_)
                have f0 := tcr KM 0
                have f1 := tcr KM 1
                have f2 := tcr KM 2
                have f3 := tcr KM 3
                have z0 := tfr KM 0
                have z1 := tfr KM 1
                have z2 := tfr KM 2
                have z3 := tfr KM 3
                go_simp
                obtain ⟨Y, hY⟩ : ∃ Y, Y = (((zE.setCell ⟨zD.heap.size, 0, none⟩ (.int .i64 uo)).setCell ⟨zD.heap.size, 1, none⟩ (.int .i64 un)).setCell ⟨zD.heap.size, 2, none⟩ (.int .i64 uc)).setCell ⟨zD.heap.size, 3, none⟩ (.string ub) := ⟨_, rfl⟩
                rw [← hY]
                have R1 : Hid (Y.heap[zD.heap.size]? = some (.cells #[.int .i64 uo, .int .i64 un, .int .i64 uc, .string ub] 34 (0, 0))) := Lib.hid (by rw [hY]; exact storeT KM.out)
                have BY : Below wr.heap.size wr Y := by rw [hY]; exact below4 BD.out AM.out
                have LY : Hid (wr.heap.size ≤ zD.heap.size ∧ zD.heap.size < Y.heap.size) := Lib.hid ⟨AM.out, (Array.getElem?_eq_some_iff.1 R1.out).1⟩
                refine hK.out _ _ BY (fun hHeld => ?_)
                clear hK K f0 f1 f2 f3 z0 z1 z2 z3 hY
                refine tk0 11 ?_
                refine wpAnyH_done (by kernel_rfl) ?_ _
                clear hHeld
                go_wp2_with fail
                go_meet
                exact ⟨zD.heap.size, rfl, rfl, R1, Lib.hid BY, LY⟩
            case rest =>
              obtain ⟨mU, rfl, rfl, KU, bA, L0⟩ := hcut
              obtain ⟨v1, rfl⟩ : ∃ z, z = wc := ⟨_, rfl⟩
              have LU := Lib.hid L0.out.2
              have NU := Lib.hid L0.out.1
              have hb := bA.out
              clear L0 bA
              clear ki
              replace KA := tkb hb LA KA
              replace LA := tlz LA hb.size
              replace KT := tkb hb LT KT
              replace LT := tlz LT hb.size
              replace B1 := tbt B1 hb
              replace GT := Lib.hid (GT.out.later hb)
              replace BB := tbt BB hb
              clear hb
              go_wp2_with fail
              go_cut [12, 13] (fun mm bv wx => ∃ (mb : Nat), mm = .pointer (some ⟨mb, 0, none⟩) ∧ bv = .int .i64 c ∧ Hid (wx.heap[mb]? = some (.cells #[.int .i64 uo, .int .i64 un, .int .i64 uc, .string ub] 34 (0, 0))) ∧ Hid (Below v1.heap.size v1 wx) ∧ Hid (v1.heap.size ≤ mb ∧ mb < wx.heap.size))
              case first =>
                have FT : Hid (∀ w', Below v1.heap.size v1 w' → w'.cell? ⟨w4.heap.size, 0, none⟩ = some (.int .i64 (T j).of) ∧ w'.cell? ⟨w4.heap.size, 1, none⟩ = some (.int .i64 (T j).nx) ∧ w'.cell? ⟨w4.heap.size, 2, none⟩ = some (.int .i64 (T j).ch) ∧ w'.cell? ⟨w4.heap.size, 3, none⟩ = some (.string (T j).b)) := Lib.hid (fun w' h => by have K := tkb h LT KT; exact ⟨tcr K 0, tcr K 1, tcr K 2, tcr K 3⟩)
                have FL : Hid (∀ w', Below v1.heap.size v1 w' → w'.cell? ⟨g, n1, none⟩ = some (.string xn)) := Lib.hid (fun w' h => by rw [HXN.out]; exact (sp_cell (GT.out.later h) n1 hn1l).1)
                refine wp_region_held_drew (S := (fun w' => Below v1.heap.size v1 w')) (by kernel_rfl) (Below.refl _ _).drew (fun hHeld => ?_)
                obtain ⟨zD, hzD⟩ : ∃ zz, zz = v1.drew := ⟨_, rfl⟩
                rw [← hzD] at hHeld ⊢
                clear hzD
                have BD := Lib.hid hHeld
                refine tk 0 (v := ?_) ?_ ?_; rotate_left
                · refine Or.inl ⟨by rfl, ?_⟩; intro w hSw; obtain ⟨hT0, hT1, hT2, hT3⟩ := FT.out w hSw; go_simp; first | done | with_reducible rfl
                refine tk0 1 ?_
                refine tk0 2 ?_
                refine tk0 3 ?_
                refine tk 4 (v := ?_) ?_ ?_; rotate_left
                · refine Or.inl ⟨by rfl, ?_⟩; intro w hSw; have h0 := FL.out w hSw; go_simp; first | done | with_reducible rfl
                refine rd2 5 9 (fun K hK => ?_) (fun K hK => ?_)
                · go_simp
                  have hc := ks zD
                  go_at_call 16
                  refine hc.mono ?_
                  rintro e zE ⟨rfl, hb⟩
                  have hbk := hb
                  replace BD := tbt BD hb
                  clear hc hb
                  clear hbk
                  go_wp2_with fail
                  refine hK.out _ _ BD.out (fun hHeld => ?_)
                  clear hK K
                  refine tk0 6 ?_
                  refine tk0 7 ?_
                  refine tk0 8 ?_
                  refine rd1 9 (fun K hK => ?_)
                  go_simp
                  obtain ⟨zV, hzV⟩ : ∃ z, z = zE.alloc (.cells #[.int .i64 0, .int .i64 0, .int .i64 0, .string ⟨#[]⟩] 34) := ⟨_, rfl⟩
                  rw [← hzV]
                  have bV : Below zE.heap.size zE zV := by rw [hzV]; exact (Below.refl _ _).alloc (Nat.le_refl _) _
                  have KM : Hid (zV.heap[zE.heap.size]? = some (.cells #[.int .i64 0, .int .i64 0, .int .i64 0, .string ⟨#[]⟩] 34 (0, 0))) := Lib.hid (by rw [hzV]; exact heap_new _ _)
                  have LM : Hid (zE.heap.size < zV.heap.size) := Lib.hid (by rw [hzV]; simp)
                  have AM : Hid (v1.heap.size ≤ zE.heap.size) := Lib.hid BD.out.size
                  replace BD := tbt BD bV
                  clear hzV bV
                  go_wp2_with fail
                  refine hK.out _ _ BD.out (fun hHeld => ?_)
                  clear hK K
                  refine rd1 10 (fun K hK => ?_)
                  have f0 := tcr KM 0
                  have f1 := tcr KM 1
                  have f2 := tcr KM 2
                  have f3 := tcr KM 3
                  have z0 := tfr KM 0
                  have z1 := tfr KM 1
                  have z2 := tfr KM 2
                  have z3 := tfr KM 3
                  go_simp
                  obtain ⟨Y, hY⟩ : ∃ Y, Y = (((zV.setCell ⟨zE.heap.size, 0, none⟩ (.int .i64 uo)).setCell ⟨zE.heap.size, 1, none⟩ (.int .i64 un)).setCell ⟨zE.heap.size, 2, none⟩ (.int .i64 uc)).setCell ⟨zE.heap.size, 3, none⟩ (.string ub) := ⟨_, rfl⟩
                  rw [← hY]
                  have R1 : Hid (Y.heap[zE.heap.size]? = some (.cells #[.int .i64 uo, .int .i64 un, .int .i64 uc, .string ub] 34 (0, 0))) := Lib.hid (by rw [hY]; exact storeT KM.out)
                  have BY : Below v1.heap.size v1 Y := by rw [hY]; exact below4 BD.out AM.out
                  have LY : Hid (v1.heap.size ≤ zE.heap.size ∧ zE.heap.size < Y.heap.size) := Lib.hid ⟨AM.out, (Array.getElem?_eq_some_iff.1 R1.out).1⟩
                  refine hK.out _ _ BY (fun hHeld => ?_)
                  clear hK K f0 f1 f2 f3 z0 z1 z2 z3 hY
                  refine tk0 11 ?_
                  refine wpAnyH_done (by kernel_rfl) ?_ _
                  clear hHeld
                  go_wp2_with fail
                  go_meet
                  exact ⟨zE.heap.size, rfl, rfl, R1, Lib.hid BY, LY⟩
                · go_simp
                  obtain ⟨zV, hzV⟩ : ∃ z, z = zD.alloc (.cells #[.int .i64 0, .int .i64 0, .int .i64 0, .string ⟨#[]⟩] 34) := ⟨_, rfl⟩
                  rw [← hzV]
                  have bV : Below zD.heap.size zD zV := by rw [hzV]; exact (Below.refl _ _).alloc (Nat.le_refl _) _
                  have KM : Hid (zV.heap[zD.heap.size]? = some (.cells #[.int .i64 0, .int .i64 0, .int .i64 0, .string ⟨#[]⟩] 34 (0, 0))) := Lib.hid (by rw [hzV]; exact heap_new _ _)
                  have LM : Hid (zD.heap.size < zV.heap.size) := Lib.hid (by rw [hzV]; simp)
                  have AM : Hid (v1.heap.size ≤ zD.heap.size) := Lib.hid BD.out.size
                  replace BD := tbt BD bV
                  clear hzV bV
                  go_wp2_with fail
                  refine hK.out _ _ BD.out (fun hHeld => ?_)
                  clear hK K
                  refine rd1 5 (fun K hK => ?_)
                  go_simp
                  have hc := ks zV
                  go_at_call 16
                  refine hc.mono ?_
                  rintro e zE ⟨rfl, hb⟩
                  have hbk := hb
                  replace BD := tbt BD hb
                  clear hc hb
                  replace KM := tkb hbk LM KM
                  replace LM := tlz LM hbk.size
                  clear hbk
                  go_wp2_with fail
                  refine hK.out _ _ BD.out (fun hHeld => ?_)
                  clear hK K
                  refine tk0 6 ?_
                  refine tk0 7 ?_
                  refine tk0 8 ?_
                  refine rd1 10 (fun K hK => ?_)
                  have f0 := tcr KM 0
                  have f1 := tcr KM 1
                  have f2 := tcr KM 2
                  have f3 := tcr KM 3
                  have z0 := tfr KM 0
                  have z1 := tfr KM 1
                  have z2 := tfr KM 2
                  have z3 := tfr KM 3
                  go_simp
                  obtain ⟨Y, hY⟩ : ∃ Y, Y = (((zE.setCell ⟨zD.heap.size, 0, none⟩ (.int .i64 uo)).setCell ⟨zD.heap.size, 1, none⟩ (.int .i64 un)).setCell ⟨zD.heap.size, 2, none⟩ (.int .i64 uc)).setCell ⟨zD.heap.size, 3, none⟩ (.string ub) := ⟨_, rfl⟩
                  rw [← hY]
                  have R1 : Hid (Y.heap[zD.heap.size]? = some (.cells #[.int .i64 uo, .int .i64 un, .int .i64 uc, .string ub] 34 (0, 0))) := Lib.hid (by rw [hY]; exact storeT KM.out)
                  have BY : Below v1.heap.size v1 Y := by rw [hY]; exact below4 BD.out AM.out
                  have LY : Hid (v1.heap.size ≤ zD.heap.size ∧ zD.heap.size < Y.heap.size) := Lib.hid ⟨AM.out, (Array.getElem?_eq_some_iff.1 R1.out).1⟩
                  refine hK.out _ _ BY (fun hHeld => ?_)
                  clear hK K f0 f1 f2 f3 z0 z1 z2 z3 hY
                  refine tk0 11 ?_
                  refine wpAnyH_done (by kernel_rfl) ?_ _
                  clear hHeld
                  go_wp2_with fail
                  go_meet
                  exact ⟨zD.heap.size, rfl, rfl, R1, Lib.hid BY, LY⟩
              case rest =>
                obtain ⟨mW, rfl, rfl, KW, bA, L0⟩ := hcut
                obtain ⟨v2, rfl⟩ : ∃ z, z = wc := ⟨_, rfl⟩
                have LW := Lib.hid L0.out.2
                have NW := Lib.hid L0.out.1
                have hb := bA.out
                clear L0 bA
                clear ks
                replace KA := tkb hb LA KA
                replace LA := tlz LA hb.size
                replace KT := tkb hb LT KT
                replace LT := tlz LT hb.size
                replace KU := tkb hb LU KU
                replace LU := tlz LU hb.size
                replace B1 := tbt B1 hb
                replace GT := Lib.hid (GT.out.later hb)
                replace BB := tbt BB hb
                clear hb
                have kq : ∀ w, (binOp .neq 34 (.agg #[.int .i64 uo, .int .i64 un, .int .i64 uc, .string ub]) (.agg #[.int .i64 uo, .int .i64 un, .int .i64 uc, .string ub])).run Tryz.prog w = .ok (.bool false) w := fun w => by
                  have h := neq_tk ⟨uo, un, uc, ub⟩ ⟨uo, un, uc, ub⟩ w
                  rw [tkrEq_refl] at h
                  exact h
                have hw1 : IntKind.i64.wrap ((n1 : Int) + 1) = (n1 : Int) + 1 := by rw [IntKind.wrap_i64] <;> omega
                by_cases hA : n1 < j
                · have hpr := HOF.out
                  rw [if_pos hA] at hpr
                  obtain ⟨hu, hcd⟩ := Prod.mk.inj hpr
                  have HU := Lib.hid hu
                  subst hcd
                  clear hpr hu HOF
                  have kn : ∀ w, (binOp .neq 34 (.agg #[.int .i64 uo, .int .i64 un, .int .i64 uc, .string ub]) (.agg #[.int .i64 (T j).of, .int .i64 (T j).nx, .int .i64 (T j).ch, .string (T j).b])).run Tryz.prog w = .ok (.bool false) w := fun w => by
                    have h := neq_tk ⟨uo, un, uc, ub⟩ (T j) w
                    rw [tkrEq_iff.2 HU.out] at h
                    exact h
                  have d22 : decide ((n1 : Int) + 1 < (T j).nx) = true := by rw [HNX.out, decide_eq_true_iff]; omega
                  have d25 : decide ((T j).nx < (n1 : Int) + 1) = false := by rw [HNX.out, decide_eq_false_iff_not]; omega
                  have hjn : j ≤ E.length := by omega
                  have hok2 : tkrOk ⟨uo, un, uc, ub⟩ = true := by rw [HU.out]; exact HTK.out _ hjn
                  have hft := (tk_fit hok2).1
                  obtain ⟨Y, hY⟩ : ∃ Y, Y = (((v2.setCell ⟨w4.heap.size, 0, none⟩ (.int .i64 uo)).setCell ⟨w4.heap.size, 1, none⟩ (.int .i64 un)).setCell ⟨w4.heap.size, 2, none⟩ (.int .i64 uc)).setCell ⟨w4.heap.size, 3, none⟩ (.string ub) := ⟨_, rfl⟩
                  have KY : Hid (Y.heap[w4.heap.size]? = some (.cells #[.int .i64 uo, .int .i64 un, .int .i64 uc, .string ub] 34 (0, 0))) := Lib.hid (by rw [hY]; exact storeT KT.out)
                  have gY : v2.grownBy Y (some w4.heap.size) := by rw [hY]; exact grown4 _ _ _ _ _ _
                  have fT0 := tcr KT 0
                  have fT1 := tcr KT 1
                  have fT2 := tcr KT 2
                  have fT3 := tcr KT 3
                  have fU0 := tcr KU 0
                  have fU1 := tcr KU 1
                  have fU2 := tcr KU 2
                  have fU3 := tcr KU 3
                  have fW0 := tcr KW 0
                  have fW1 := tcr KW 1
                  have fW2 := tcr KW 2
                  have fW3 := tcr KW 3
                  have z0 := tfr KT 0
                  have z1 := tfr KT 1
                  have z2 := tfr KT 2
                  have z3 := tfr KT 3
                  have y0 := tcr KY 0
                  have y1 := tcr KY 1
                  have y2 := tcr KY 2
                  have y3 := tcr KY 3
                  have hk := impl_takerOk ⟨uo, un, uc, ub⟩ Y hft
                  rw [hok2] at hk
                  unfold tkrV at hk
                  dsimp only at hk
                  rw [hY] at hk y0 y1 y2 y3
                  clear hok2 hft
                  go_wp2_with (go_at_call 11; refine hk.mono ?_; rintro e v3 ⟨rfl, hb⟩; refine Hid.out ?_)
                  refine Lib.hid ?_
                  rw [← hY] at hb
                  clear hk y0 y1 y2 y3 z0 z1 z2 z3 hY fT0 fT1 fT2 fT3 fU0 fU1 fU2 fU3 fW0 fW1 fW2 fW3 KU LU NU KW LW NW d22 d25 kq kn
                  replace LT := tlz LT gY.size
                  replace KA := tkg gY LA KA (by have := W4.out; simp; omega)
                  replace LA := tlz LA gY.size
                  replace B1 := Lib.hid (B1.out.grown gY B1.out.size (fun q e => by cases e; exact Nat.le_of_lt W4.out))
                  replace GT := Lib.hid (GT.out.grown gY NG.out)
                  replace BB := Lib.hid (BB.out.grown gY BB.out.size (fun q e => by cases e; have := W1.out; have := W4.out; omega))
                  clear gY KT
                  have KT := KY
                  clear KY
                  replace KT := tkb hb LT KT
                  replace LT := tlz LT hb.size
                  replace KA := tkb hb LA KA
                  replace LA := tlz LA hb.size
                  replace B1 := tbt B1 hb
                  replace GT := Lib.hid (GT.out.later hb)
                  replace BB := tbt BB hb
                  clear hb
                  have KT2 : Hid (v3.heap[w4.heap.size]? = some (.cells #[.int .i64 (T (j)).of, .int .i64 (T (j)).nx, .int .i64 (T (j)).ch, .string (T (j)).b] 34 (0, 0))) := Lib.hid (by rw [← HU.out]; exact KT.out)
                  clear KT
                  go_wp2_with fail
                  go_roundw
                  case rel => exact ⟨k + 1, j, by omega, by go_num, hjn, KT2, LT, KA, LA, B1, GT, BB⟩
                  case measure => simp [intOf]; omega
                by_cases hB : j < n1
                · have hpr := HOF.out
                  rw [if_neg hA, if_pos hB] at hpr
                  obtain ⟨hu, hcd⟩ := Prod.mk.inj hpr
                  have HU := Lib.hid hu
                  subst hcd
                  clear hpr hu HOF
                  have kn : ∀ w, (binOp .neq 34 (.agg #[.int .i64 uo, .int .i64 un, .int .i64 uc, .string ub]) (.agg #[.int .i64 (T j).of, .int .i64 (T j).nx, .int .i64 (T j).ch, .string (T j).b])).run Tryz.prog w = .ok (.bool false) w := fun w => by
                    have h := neq_tk ⟨uo, un, uc, ub⟩ (T j) w
                    rw [tkrEq_iff.2 HU.out] at h
                    exact h
                  have d22 : decide ((n1 : Int) + 1 < (T j).nx) = false := by rw [HNX.out, decide_eq_false_iff_not]; omega
                  have d25 : decide ((T j).nx < (n1 : Int) + 1) = true := by rw [HNX.out, decide_eq_true_iff]; omega
                  have hjn : j ≤ E.length := by omega
                  have hok2 : tkrOk ⟨uo, un, uc, ub⟩ = true := by rw [HU.out]; exact HTK.out _ hjn
                  have hft := (tk_fit hok2).1
                  obtain ⟨Y, hY⟩ : ∃ Y, Y = (((v2.setCell ⟨w4.heap.size, 0, none⟩ (.int .i64 uo)).setCell ⟨w4.heap.size, 1, none⟩ (.int .i64 un)).setCell ⟨w4.heap.size, 2, none⟩ (.int .i64 uc)).setCell ⟨w4.heap.size, 3, none⟩ (.string ub) := ⟨_, rfl⟩
                  have KY : Hid (Y.heap[w4.heap.size]? = some (.cells #[.int .i64 uo, .int .i64 un, .int .i64 uc, .string ub] 34 (0, 0))) := Lib.hid (by rw [hY]; exact storeT KT.out)
                  have gY : v2.grownBy Y (some w4.heap.size) := by rw [hY]; exact grown4 _ _ _ _ _ _
                  have fT0 := tcr KT 0
                  have fT1 := tcr KT 1
                  have fT2 := tcr KT 2
                  have fT3 := tcr KT 3
                  have fU0 := tcr KU 0
                  have fU1 := tcr KU 1
                  have fU2 := tcr KU 2
                  have fU3 := tcr KU 3
                  have fW0 := tcr KW 0
                  have fW1 := tcr KW 1
                  have fW2 := tcr KW 2
                  have fW3 := tcr KW 3
                  have z0 := tfr KT 0
                  have z1 := tfr KT 1
                  have z2 := tfr KT 2
                  have z3 := tfr KT 3
                  have y0 := tcr KY 0
                  have y1 := tcr KY 1
                  have y2 := tcr KY 2
                  have y3 := tcr KY 3
                  have hk := impl_takerOk ⟨uo, un, uc, ub⟩ Y hft
                  rw [hok2] at hk
                  unfold tkrV at hk
                  dsimp only at hk
                  rw [hY] at hk y0 y1 y2 y3
                  clear hok2 hft
                  go_wp2_with (go_at_call 11; refine hk.mono ?_; rintro e v3 ⟨rfl, hb⟩; refine Hid.out ?_)
                  refine Lib.hid ?_
                  rw [← hY] at hb
                  clear hk y0 y1 y2 y3 z0 z1 z2 z3 hY fT0 fT1 fT2 fT3 fU0 fU1 fU2 fU3 fW0 fW1 fW2 fW3 KU LU NU KW LW NW d22 d25 kq kn
                  replace LT := tlz LT gY.size
                  replace KA := tkg gY LA KA (by have := W4.out; simp; omega)
                  replace LA := tlz LA gY.size
                  replace B1 := Lib.hid (B1.out.grown gY B1.out.size (fun q e => by cases e; exact Nat.le_of_lt W4.out))
                  replace GT := Lib.hid (GT.out.grown gY NG.out)
                  replace BB := Lib.hid (BB.out.grown gY BB.out.size (fun q e => by cases e; have := W1.out; have := W4.out; omega))
                  clear gY KT
                  have KT := KY
                  clear KY
                  replace KT := tkb hb LT KT
                  replace LT := tlz LT hb.size
                  replace KA := tkb hb LA KA
                  replace LA := tlz LA hb.size
                  replace B1 := tbt B1 hb
                  replace GT := Lib.hid (GT.out.later hb)
                  replace BB := tbt BB hb
                  clear hb
                  have KT2 : Hid (v3.heap[w4.heap.size]? = some (.cells #[.int .i64 (T (j)).of, .int .i64 (T (j)).nx, .int .i64 (T (j)).ch, .string (T (j)).b] 34 (0, 0))) := Lib.hid (by rw [← HU.out]; exact KT.out)
                  clear KT
                  go_wp2_with fail
                  go_roundw
                  case rel => exact ⟨k + 1, j, by omega, by go_num, hjn, KT2, LT, KA, LA, B1, GT, BB⟩
                  case measure => simp [intOf]; omega
                have hpr := HOF.out
                rw [if_neg (by omega), if_neg (by omega)] at hpr
                obtain ⟨hu, hcd⟩ := Prod.mk.inj hpr
                have HU := Lib.hid hu
                have hun : un = (T j).nx + 1 := by have h1 := congrArg Tkr.nx HU.out; have h2 := HTN.out (j + 1); have h3 := HNX.out; dsimp only at h1; omega
                have hnz : (un != (T j).nx + 1) = false := by rw [hun]; simp
                have hwx : IntKind.i64.wrap ((T j).nx + 1) = (T j).nx + 1 := by have h3 := HNX.out; rw [IntKind.wrap_i64] <;> omega
                clear hpr hu HOF hun
                have kn := 0
                by_cases hla : n1 + 1 = E.length
                · rw [if_pos hla] at hcd
                  subst hcd
                  have hle : ((n1 : Int) + 1 == (E.length : Int)) = true := by rw [beq_iff_eq]; omega
                  have d22 : decide ((n1 : Int) + 1 < (T j).nx) = false := by rw [HNX.out, decide_eq_false_iff_not]; omega
                  have d25 : decide ((T j).nx < (n1 : Int) + 1) = false := by rw [HNX.out, decide_eq_false_iff_not]; omega
                  have hjn : j + 1 ≤ E.length := by omega
                  have hok2 : tkrOk ⟨uo, un, uc, ub⟩ = true := by rw [HU.out]; exact HTK.out _ hjn
                  have hft := (tk_fit hok2).1
                  obtain ⟨Y, hY⟩ : ∃ Y, Y = (((v2.setCell ⟨w4.heap.size, 0, none⟩ (.int .i64 uo)).setCell ⟨w4.heap.size, 1, none⟩ (.int .i64 un)).setCell ⟨w4.heap.size, 2, none⟩ (.int .i64 uc)).setCell ⟨w4.heap.size, 3, none⟩ (.string ub) := ⟨_, rfl⟩
                  have KY : Hid (Y.heap[w4.heap.size]? = some (.cells #[.int .i64 uo, .int .i64 un, .int .i64 uc, .string ub] 34 (0, 0))) := Lib.hid (by rw [hY]; exact storeT KT.out)
                  have gY : v2.grownBy Y (some w4.heap.size) := by rw [hY]; exact grown4 _ _ _ _ _ _
                  have fT0 := tcr KT 0
                  have fT1 := tcr KT 1
                  have fT2 := tcr KT 2
                  have fT3 := tcr KT 3
                  have fU0 := tcr KU 0
                  have fU1 := tcr KU 1
                  have fU2 := tcr KU 2
                  have fU3 := tcr KU 3
                  have fW0 := tcr KW 0
                  have fW1 := tcr KW 1
                  have fW2 := tcr KW 2
                  have fW3 := tcr KW 3
                  have z0 := tfr KT 0
                  have z1 := tfr KT 1
                  have z2 := tfr KT 2
                  have z3 := tfr KT 3
                  have y0 := tcr KY 0
                  have y1 := tcr KY 1
                  have y2 := tcr KY 2
                  have y3 := tcr KY 3
                  have hk := impl_takerOk ⟨uo, un, uc, ub⟩ Y hft
                  rw [hok2] at hk
                  unfold tkrV at hk
                  dsimp only at hk
                  rw [hY] at hk y0 y1 y2 y3
                  clear hok2 hft
                  go_wp2_with (go_at_call 11; refine hk.mono ?_; rintro e v3 ⟨rfl, hb⟩; refine Hid.out ?_)
                  refine Lib.hid ?_
                  rw [← hY] at hb
                  clear hk y0 y1 y2 y3 z0 z1 z2 z3 hY fT0 fT1 fT2 fT3 fU0 fU1 fU2 fU3 fW0 fW1 fW2 fW3 KU LU NU KW LW NW d22 d25 kq kn
                  replace LT := tlz LT gY.size
                  replace KA := tkg gY LA KA (by have := W4.out; simp; omega)
                  replace LA := tlz LA gY.size
                  replace B1 := Lib.hid (B1.out.grown gY B1.out.size (fun q e => by cases e; exact Nat.le_of_lt W4.out))
                  replace GT := Lib.hid (GT.out.grown gY NG.out)
                  replace BB := Lib.hid (BB.out.grown gY BB.out.size (fun q e => by cases e; have := W1.out; have := W4.out; omega))
                  clear gY KT
                  have KT := KY
                  clear KY
                  replace KT := tkb hb LT KT
                  replace LT := tlz LT hb.size
                  replace KA := tkb hb LA KA
                  replace LA := tlz LA hb.size
                  replace B1 := tbt B1 hb
                  replace GT := Lib.hid (GT.out.later hb)
                  replace BB := tbt BB hb
                  clear hb
                  have KT2 : Hid (v3.heap[w4.heap.size]? = some (.cells #[.int .i64 (T (j + 1)).of, .int .i64 (T (j + 1)).nx, .int .i64 (T (j + 1)).ch, .string (T (j + 1)).b] 34 (0, 0))) := Lib.hid (by rw [← HU.out]; exact KT.out)
                  clear KT
                  go_wp2_with fail
                  go_roundw
                  case rel => exact ⟨k + 1, j + 1, by omega, by go_num, hjn, KT2, LT, KA, LA, B1, GT, BB⟩
                  case measure => simp [intOf]; omega
                · rw [if_neg hla] at hcd
                  subst hcd
                  have hle : ((n1 : Int) + 1 == (E.length : Int)) = false := by rw [beq_eq_false_iff_ne]; omega
                  have hli : ¬ ((n1 : Int) + 1 = (E.length : Int)) := by omega
                  have d22 : decide ((n1 : Int) + 1 < (T j).nx) = false := by rw [HNX.out, decide_eq_false_iff_not]; omega
                  have d25 : decide ((T j).nx < (n1 : Int) + 1) = false := by rw [HNX.out, decide_eq_false_iff_not]; omega
                  have hjn : j + 1 ≤ E.length := by omega
                  have hok2 : tkrOk ⟨uo, un, uc, ub⟩ = true := by rw [HU.out]; exact HTK.out _ hjn
                  have hft := (tk_fit hok2).1
                  obtain ⟨Y, hY⟩ : ∃ Y, Y = (((v2.setCell ⟨w4.heap.size, 0, none⟩ (.int .i64 uo)).setCell ⟨w4.heap.size, 1, none⟩ (.int .i64 un)).setCell ⟨w4.heap.size, 2, none⟩ (.int .i64 uc)).setCell ⟨w4.heap.size, 3, none⟩ (.string ub) := ⟨_, rfl⟩
                  have KY : Hid (Y.heap[w4.heap.size]? = some (.cells #[.int .i64 uo, .int .i64 un, .int .i64 uc, .string ub] 34 (0, 0))) := Lib.hid (by rw [hY]; exact storeT KT.out)
                  have gY : v2.grownBy Y (some w4.heap.size) := by rw [hY]; exact grown4 _ _ _ _ _ _
                  have fT0 := tcr KT 0
                  have fT1 := tcr KT 1
                  have fT2 := tcr KT 2
                  have fT3 := tcr KT 3
                  have fU0 := tcr KU 0
                  have fU1 := tcr KU 1
                  have fU2 := tcr KU 2
                  have fU3 := tcr KU 3
                  have fW0 := tcr KW 0
                  have fW1 := tcr KW 1
                  have fW2 := tcr KW 2
                  have fW3 := tcr KW 3
                  have z0 := tfr KT 0
                  have z1 := tfr KT 1
                  have z2 := tfr KT 2
                  have z3 := tfr KT 3
                  have y0 := tcr KY 0
                  have y1 := tcr KY 1
                  have y2 := tcr KY 2
                  have y3 := tcr KY 3
                  have hk := impl_takerOk ⟨uo, un, uc, ub⟩ Y hft
                  rw [hok2] at hk
                  unfold tkrV at hk
                  dsimp only at hk
                  rw [hY] at hk y0 y1 y2 y3
                  clear hok2 hft
                  go_wp2_with (go_at_call 11; refine hk.mono ?_; rintro e v3 ⟨rfl, hb⟩; refine Hid.out ?_)
                  refine Lib.hid ?_
                  rw [← hY] at hb
                  clear hk y0 y1 y2 y3 z0 z1 z2 z3 hY fT0 fT1 fT2 fT3 fU0 fU1 fU2 fU3 fW0 fW1 fW2 fW3 KU LU NU KW LW NW d22 d25 kq kn
                  replace LT := tlz LT gY.size
                  replace KA := tkg gY LA KA (by have := W4.out; simp; omega)
                  replace LA := tlz LA gY.size
                  replace B1 := Lib.hid (B1.out.grown gY B1.out.size (fun q e => by cases e; exact Nat.le_of_lt W4.out))
                  replace GT := Lib.hid (GT.out.grown gY NG.out)
                  replace BB := Lib.hid (BB.out.grown gY BB.out.size (fun q e => by cases e; have := W1.out; have := W4.out; omega))
                  clear gY KT
                  have KT := KY
                  clear KY
                  replace KT := tkb hb LT KT
                  replace LT := tlz LT hb.size
                  replace KA := tkb hb LA KA
                  replace LA := tlz LA hb.size
                  replace B1 := tbt B1 hb
                  replace GT := Lib.hid (GT.out.later hb)
                  replace BB := tbt BB hb
                  clear hb
                  have KT2 : Hid (v3.heap[w4.heap.size]? = some (.cells #[.int .i64 (T (j + 1)).of, .int .i64 (T (j + 1)).nx, .int .i64 (T (j + 1)).ch, .string (T (j + 1)).b] 34 (0, 0))) := Lib.hid (by rw [← HU.out]; exact KT.out)
                  clear KT
                  go_wp2_with fail
                  go_roundw
                  case rel => exact ⟨k + 1, j + 1, by omega, by go_num, hjn, KT2, LT, KA, LA, B1, GT, BB⟩
                  case measure => simp [intOf]; omega
        have d2 : decide ((T j).nx ≤ (E.length : Int)) = false := by rw [decide_eq_false_iff_not, HNX.out]; omega
        have fT0 := tcr KT 0
        have fT1 := tcr KT 1
        have fT2 := tcr KT 2
        have fT3 := tcr KT 3
        go_wp2_with fail
        clear fT0 fT1 fT2 fT3
        go_loopw [15] (fun x wr2 => ∃ (j2 : Nat), j2 ≤ E.length ∧ Hid (wr2.heap[w4.heap.size]? = some (.cells #[.int .i64 (T j2).of, .int .i64 (T j2).nx, .int .i64 (T j2).ch, .string (T j2).b] 34 (0, 0))) ∧ Hid (w4.heap.size < wr2.heap.size) ∧ Hid (wr2.heap[w1.heap.size]? = some (.cells #[.slice sa s.items.length sc, .slice ta s.talks.length tc] 27 (0, 0))) ∧ Hid (w1.heap.size < wr2.heap.size) ∧ Hid (Below w1.heap.size w1 wr2) ∧ Hid (Got wr2 w2.heap.size 9 1 g E.length ec (E.map Value.string)) ∧ Hid (Below w.heap.size w wr2)) (fun x wr2 => E.length + 1 - nxAt wr2 w4.heap.size)
        case atStart => exact ⟨j, hj, KT, LT, KA, LA, B1, GT, BB⟩
        case round =>
          clear KT LT KA LA B1 GT BB HNX
          obtain ⟨j2, hj2, KT, LT, KA, LA, B1, GT, BB⟩ := hrel
          have hnx := HTN.out j2
          have HNX := Lib.hid hnx
          clear hnx
          have HME : Hid (nxAt wr w4.heap.size = j2 + 1) := Lib.hid (by unfold nxAt; rw [tcr KT 1]; dsimp only; rw [HNX.out]; omega)
          by_cases h3 : j2 < E.length
          · have d3 : decide ((T j2).nx ≤ (E.length : Int)) = true := by rw [decide_eq_true_iff, HNX.out]; omega
            have hwj : IntKind.i64.wrap ((T j2).nx - 1) = (j2 : Int) := by rw [HNX.out, IntKind.wrap_i64] <;> omega
            have fT0 := tcr KT 0
            have fT1 := tcr KT 1
            have fT2 := tcr KT 2
            have fT3 := tcr KT 3
            obtain ⟨xn, hxn⟩ : ∃ z, z = E[j2]'h3 := ⟨_, rfl⟩
            have hof := HTO.out j2 h3 j2 hj2
            rw [← hxn, if_neg (by omega), if_neg (by omega)] at hof
            obtain ⟨hfit, hbz, hnn⟩ := tk_fit (HTK.out j2 hj2)
            have hxz : xn.size ≤ 1000 := by rw [hxn]; exact Hmem.out _ (List.getElem_mem _)
            have ki := fun w => impl_offer (T j2) xn w hfit (by omega) (by omega)
            obtain ⟨⟨uo, un, uc, ub⟩, hu⟩ : ∃ z, z = (offerS (T j2) xn).1 := ⟨_, rfl⟩
            obtain ⟨c, hcd⟩ : ∃ z, z = (offerS (T j2) xn).2 := ⟨_, rfl⟩
            rw [← hu, ← hcd] at ki
            unfold tkrV at ki
            dsimp only at ki
            have HU : Hid ((⟨uo, un, uc, ub⟩ : Tkr) = T (j2 + 1)) := Lib.hid (by rw [hu, hof])
            have HXN := Lib.hid hxn
            clear hof hu hcd hxn hfit hbz hnn hxz
            have n0 : (0 : Int) ≤ (j2 : Int) := by omega
            have nE : (j2 : Int) < (E.length : Int) := by omega
            go_wp2_with fail
            clear fT0 fT1 fT2 fT3
            go_cut [14, 15] (fun mm bv wx => ∃ (mb : Nat), mm = .pointer (some ⟨mb, 0, none⟩) ∧ bv = .int .i64 c ∧ Hid (wx.heap[mb]? = some (.cells #[.int .i64 uo, .int .i64 un, .int .i64 uc, .string ub] 34 (0, 0))) ∧ Hid (Below wr.heap.size wr wx) ∧ Hid (wr.heap.size ≤ mb ∧ mb < wx.heap.size))
            case first =>
              have FT : Hid (∀ w', Below wr.heap.size wr w' → w'.cell? ⟨w4.heap.size, 0, none⟩ = some (.int .i64 (T j2).of) ∧ w'.cell? ⟨w4.heap.size, 1, none⟩ = some (.int .i64 (T j2).nx) ∧ w'.cell? ⟨w4.heap.size, 2, none⟩ = some (.int .i64 (T j2).ch) ∧ w'.cell? ⟨w4.heap.size, 3, none⟩ = some (.string (T j2).b)) := Lib.hid (fun w' h => by have K := tkb h LT KT; exact ⟨tcr K 0, tcr K 1, tcr K 2, tcr K 3⟩)
              have FL : Hid (∀ w', Below wr.heap.size wr w' → w'.cell? ⟨g, j2, none⟩ = some (.string xn)) := Lib.hid (fun w' h => by rw [HXN.out]; exact (sp_cell (GT.out.later h) j2 h3).1)
              refine wp_region_held_drew (S := (fun w' => Below wr.heap.size wr w')) (by kernel_rfl) (Below.refl _ _).drew (fun hHeld => ?_)
              obtain ⟨zD, hzD⟩ : ∃ zz, zz = wr.drew := ⟨_, rfl⟩
              rw [← hzD] at hHeld ⊢
              clear hzD
              have BD := Lib.hid hHeld
              refine tk 0 (v := ?_) ?_ ?_; rotate_left
              · refine Or.inl ⟨by rfl, ?_⟩; intro w hSw; obtain ⟨hT0, hT1, hT2, hT3⟩ := FT.out w hSw; go_simp; first | done | with_reducible rfl
              refine tk0 1 ?_
              refine tk0 2 ?_
              refine tk 3 (v := ?_) ?_ ?_; rotate_left
              · refine Or.inl ⟨by rfl, ?_⟩; intro w hSw; obtain ⟨hT0, hT1, hT2, hT3⟩ := FT.out w hSw; go_simp; first | done | with_reducible rfl
              refine tk0 4 ?_
              refine tk0 5 ?_
              refine tk 6 (v := ?_) ?_ ?_; rotate_left
              · refine Or.inl ⟨by rfl, ?_⟩; intro w hSw; have h0 := FL.out w hSw; go_simp; first | done | with_reducible rfl
              refine rd2 7 11 (fun K hK => ?_) (fun K hK => ?_)
              · go_simp
                have hc := ki zD
                go_at_call 15
                refine hc.mono ?_
                rintro e zE ⟨rfl, hb⟩
                have hbk := hb
                replace BD := tbt BD hb
                clear hc hb
                clear hbk
                go_wp2_with fail
                refine hK.out _ _ BD.out (fun hHeld => ?_)
                clear hK K
                refine tk0 8 ?_
                refine tk0 9 ?_
                refine tk0 10 ?_
                refine rd1 11 (fun K hK => ?_)
                go_simp
                obtain ⟨zV, hzV⟩ : ∃ z, z = zE.alloc (.cells #[.int .i64 0, .int .i64 0, .int .i64 0, .string ⟨#[]⟩] 34) := ⟨_, rfl⟩
                rw [← hzV]
                have bV : Below zE.heap.size zE zV := by rw [hzV]; exact (Below.refl _ _).alloc (Nat.le_refl _) _
                have KM : Hid (zV.heap[zE.heap.size]? = some (.cells #[.int .i64 0, .int .i64 0, .int .i64 0, .string ⟨#[]⟩] 34 (0, 0))) := Lib.hid (by rw [hzV]; exact heap_new _ _)
                have LM : Hid (zE.heap.size < zV.heap.size) := Lib.hid (by rw [hzV]; simp)
                have AM : Hid (wr.heap.size ≤ zE.heap.size) := Lib.hid BD.out.size
                replace BD := tbt BD bV
                clear hzV bV
                go_wp2_with fail
                refine hK.out _ _ BD.out (fun hHeld => ?_)
                clear hK K
                refine rd1 12 (fun K hK => ?_)
                have f0 := tcr KM 0
                have f1 := tcr KM 1
                have f2 := tcr KM 2
                have f3 := tcr KM 3
                have z0 := tfr KM 0
                have z1 := tfr KM 1
                have z2 := tfr KM 2
                have z3 := tfr KM 3
                go_simp
                obtain ⟨Y, hY⟩ : ∃ Y, Y = (((zV.setCell ⟨zE.heap.size, 0, none⟩ (.int .i64 uo)).setCell ⟨zE.heap.size, 1, none⟩ (.int .i64 un)).setCell ⟨zE.heap.size, 2, none⟩ (.int .i64 uc)).setCell ⟨zE.heap.size, 3, none⟩ (.string ub) := ⟨_, rfl⟩
                rw [← hY]
                have R1 : Hid (Y.heap[zE.heap.size]? = some (.cells #[.int .i64 uo, .int .i64 un, .int .i64 uc, .string ub] 34 (0, 0))) := Lib.hid (by rw [hY]; exact storeT KM.out)
                have BY : Below wr.heap.size wr Y := by rw [hY]; exact below4 BD.out AM.out
                have LY : Hid (wr.heap.size ≤ zE.heap.size ∧ zE.heap.size < Y.heap.size) := Lib.hid ⟨AM.out, (Array.getElem?_eq_some_iff.1 R1.out).1⟩
                refine hK.out _ _ BY (fun hHeld => ?_)
                clear hK K f0 f1 f2 f3 z0 z1 z2 z3 hY
                refine tk0 13 ?_
                refine wpAnyH_done (by kernel_rfl) ?_ _
                clear hHeld
                go_wp2_with fail
                go_meet
                exact ⟨zE.heap.size, rfl, rfl, R1, Lib.hid BY, LY⟩
              · go_simp
                obtain ⟨zV, hzV⟩ : ∃ z, z = zD.alloc (.cells #[.int .i64 0, .int .i64 0, .int .i64 0, .string ⟨#[]⟩] 34) := ⟨_, rfl⟩
                rw [← hzV]
                have bV : Below zD.heap.size zD zV := by rw [hzV]; exact (Below.refl _ _).alloc (Nat.le_refl _) _
                have KM : Hid (zV.heap[zD.heap.size]? = some (.cells #[.int .i64 0, .int .i64 0, .int .i64 0, .string ⟨#[]⟩] 34 (0, 0))) := Lib.hid (by rw [hzV]; exact heap_new _ _)
                have LM : Hid (zD.heap.size < zV.heap.size) := Lib.hid (by rw [hzV]; simp)
                have AM : Hid (wr.heap.size ≤ zD.heap.size) := Lib.hid BD.out.size
                replace BD := tbt BD bV
                clear hzV bV
                go_wp2_with fail
                refine hK.out _ _ BD.out (fun hHeld => ?_)
                clear hK K
                refine rd1 7 (fun K hK => ?_)
                go_simp
                have hc := ki zV
                go_at_call 15
                refine hc.mono ?_
                rintro e zE ⟨rfl, hb⟩
                have hbk := hb
                replace BD := tbt BD hb
                clear hc hb
                replace KM := tkb hbk LM KM
                replace LM := tlz LM hbk.size
                clear hbk
                go_wp2_with fail
                refine hK.out _ _ BD.out (fun hHeld => ?_)
                clear hK K
                refine tk0 8 ?_
                refine tk0 9 ?_
                refine tk0 10 ?_
                refine rd1 12 (fun K hK => ?_)
                have f0 := tcr KM 0
                have f1 := tcr KM 1
                have f2 := tcr KM 2
                have f3 := tcr KM 3
                have z0 := tfr KM 0
                have z1 := tfr KM 1
                have z2 := tfr KM 2
                have z3 := tfr KM 3
                go_simp
                obtain ⟨Y, hY⟩ : ∃ Y, Y = (((zE.setCell ⟨zD.heap.size, 0, none⟩ (.int .i64 uo)).setCell ⟨zD.heap.size, 1, none⟩ (.int .i64 un)).setCell ⟨zD.heap.size, 2, none⟩ (.int .i64 uc)).setCell ⟨zD.heap.size, 3, none⟩ (.string ub) := ⟨_, rfl⟩
                rw [← hY]
                have R1 : Hid (Y.heap[zD.heap.size]? = some (.cells #[.int .i64 uo, .int .i64 un, .int .i64 uc, .string ub] 34 (0, 0))) := Lib.hid (by rw [hY]; exact storeT KM.out)
                have BY : Below wr.heap.size wr Y := by rw [hY]; exact below4 BD.out AM.out
                have LY : Hid (wr.heap.size ≤ zD.heap.size ∧ zD.heap.size < Y.heap.size) := Lib.hid ⟨AM.out, (Array.getElem?_eq_some_iff.1 R1.out).1⟩
                refine hK.out _ _ BY (fun hHeld => ?_)
                clear hK K f0 f1 f2 f3 z0 z1 z2 z3 hY
                refine tk0 13 ?_
                refine wpAnyH_done (by kernel_rfl) ?_ _
                clear hHeld
                go_wp2_with fail
                go_meet
                exact ⟨zD.heap.size, rfl, rfl, R1, Lib.hid BY, LY⟩
            case rest =>
              obtain ⟨mU, rfl, rfl, KU, bA, L0⟩ := hcut
              obtain ⟨v1, rfl⟩ : ∃ z, z = wc := ⟨_, rfl⟩
              have LU := Lib.hid L0.out.2
              have NU := Lib.hid L0.out.1
              have hb := bA.out
              clear L0 bA
              clear ki
              replace KA := tkb hb LA KA
              replace LA := tlz LA hb.size
              replace KT := tkb hb LT KT
              replace LT := tlz LT hb.size
              replace B1 := tbt B1 hb
              replace GT := Lib.hid (GT.out.later hb)
              replace BB := tbt BB hb
              clear hb
              have hun : un = (T j2).nx + 1 := by have h1 := congrArg Tkr.nx HU.out; have h2 := HTN.out (j2 + 1); have h3 := HNX.out; dsimp only at h1; omega
              have hnz : (un != (T j2).nx + 1) = false := by rw [hun]; simp
              have hwx : IntKind.i64.wrap ((T j2).nx + 1) = (T j2).nx + 1 := by have h3 := HNX.out; rw [IntKind.wrap_i64] <;> omega
              clear hun hwj
              have hjn : j2 + 1 ≤ E.length := by omega
              obtain ⟨Y, hY⟩ : ∃ Y, Y = (((v1.setCell ⟨w4.heap.size, 0, none⟩ (.int .i64 uo)).setCell ⟨w4.heap.size, 1, none⟩ (.int .i64 un)).setCell ⟨w4.heap.size, 2, none⟩ (.int .i64 uc)).setCell ⟨w4.heap.size, 3, none⟩ (.string ub) := ⟨_, rfl⟩
              have KY : Hid (Y.heap[w4.heap.size]? = some (.cells #[.int .i64 uo, .int .i64 un, .int .i64 uc, .string ub] 34 (0, 0))) := Lib.hid (by rw [hY]; exact storeT KT.out)
              have gY : v1.grownBy Y (some w4.heap.size) := by rw [hY]; exact grown4 _ _ _ _ _ _
              have fT0 := tcr KT 0
              have fT1 := tcr KT 1
              have fT2 := tcr KT 2
              have fT3 := tcr KT 3
              have fU0 := tcr KU 0
              have fU1 := tcr KU 1
              have fU2 := tcr KU 2
              have fU3 := tcr KU 3
              have z0 := tfr KT 0
              have z1 := tfr KT 1
              have z2 := tfr KT 2
              have z3 := tfr KT 3
              go_wp2_with fail
              rw [← hY]
              clear z0 z1 z2 z3 hY fT0 fT1 fT2 fT3 fU0 fU1 fU2 fU3 KU LU NU hnz hwx
              replace LT := tlz LT gY.size
              replace KA := tkg gY LA KA (by have := W4.out; simp; omega)
              replace LA := tlz LA gY.size
              replace B1 := Lib.hid (B1.out.grown gY B1.out.size (fun q e => by cases e; exact Nat.le_of_lt W4.out))
              replace GT := Lib.hid (GT.out.grown gY NG.out)
              replace BB := Lib.hid (BB.out.grown gY BB.out.size (fun q e => by cases e; have := W1.out; have := W4.out; omega))
              clear gY KT
              have KT := KY
              clear KY
              have KT2 : Hid (Y.heap[w4.heap.size]? = some (.cells #[.int .i64 (T (j2 + 1)).of, .int .i64 (T (j2 + 1)).nx, .int .i64 (T (j2 + 1)).ch, .string (T (j2 + 1)).b] 34 (0, 0))) := Lib.hid (by rw [← HU.out]; exact KT.out)
              clear KT
              have HM2 : Hid (nxAt Y w4.heap.size = j2 + 2) := Lib.hid (by unfold nxAt; rw [tcr KT2 1]; dsimp only; rw [HTN.out (j2 + 1)]; omega)
              go_roundw
              case rel => exact ⟨j2 + 1, hjn, KT2, LT, KA, LA, B1, GT, BB⟩
              case measure => show _ - nxAt Y w4.heap.size < _ - nxAt wr w4.heap.size; rw [HM2.out, HME.out]; omega
          have d3 : decide ((T j2).nx ≤ (E.length : Int)) = false := by rw [decide_eq_false_iff_not, HNX.out]; omega
          have he : j2 = E.length := by omega
          have ht : takenS (T j2) = (s, true) := by rw [he]; exact HTT.out
          obtain ⟨hfit, hbz, hnn⟩ := tk_fit (HTK.out j2 hj2)
          have hk := impl_taken (T j2) wr hfit (by omega)
          rw [ht] at hk
          unfold tkrV at hk
          dsimp only at hk
          clear he ht hfit hbz hnn HME
          have fT0 := tcr KT 0
          have fT1 := tcr KT 1
          have fT2 := tcr KT 2
          have fT3 := tcr KT 3
          go_wp2_with (go_at_call 17; refine hk.mono ?_; rintro e v5 ⟨v9, rfl, hd9, hb⟩; refine Hid.out ?_)
          refine Lib.hid ?_
          clear hk d3 fT0 fT1 fT2 fT3
          replace KA := tkb hb LA KA
          replace LA := tlz LA hb.size
          replace KT := tkb hb LT KT
          replace LT := tlz LT hb.size
          replace B1 := tbt B1 hb
          replace BB := tbt BB hb
          clear hb
          obtain ⟨a0, k0, a1, k1, rfl⟩ := hd9.two
          have SD := Lib.hid hd9
          clear hd9
          obtain ⟨X3, hX3⟩ : ∃ z, z = v5.alloc (.cells #[.slice a0 s.items.length k0, .slice a1 s.talks.length k1] 27) := ⟨_, rfl⟩
          have hb : Below v5.heap.size v5 X3 := by rw [hX3]; exact (Below.refl _ _).alloc (Nat.le_refl _) _
          replace KA := tkb hb LA KA
          replace LA := tlz LA hb.size
          replace KT := tkb hb LT KT
          replace LT := tlz LT hb.size
          replace B1 := tbt B1 hb
          replace SD := Lib.hid (SD.out.later hb)
          replace BB := tbt BB hb
          have KZ : Hid (X3.heap[v5.heap.size]? = some (.cells #[.slice a0 s.items.length k0, .slice a1 s.talks.length k1] 27 (0, 0))) := Lib.hid (by rw [hX3]; exact heap_new _ _)
          have LZ : Hid (v5.heap.size < X3.heap.size) := Lib.hid (by rw [hX3]; simp)
          clear hb
          have hc := spec_same s s _ _ X3.heap.size X3 SD.out.st.rd (SV.out.later B1.out B1.out.size).rd (Nat.le_refl _)
          have fZ0 := tcr KZ 0
          have fZ1 := tcr KZ 1
          have fA0 := tcr KA 0
          have fA1 := tcr KA 1
          rw [hX3] at hc fZ0 fZ1 fA0 fA1
          go_wp2_with (go_at_call 18; refine hc.mono ?_; rintro e v6 ⟨bb, rfl, hbe, hb⟩; refine Hid.out ?_)
          refine Lib.hid ?_
          rw [← hX3] at hb 
          clear hX3
          replace KA := tkb hb LA KA
          replace LA := tlz LA hb.size
          replace KT := tkb hb LT KT
          replace LT := tlz LT hb.size
          replace KZ := tkb hb LZ KZ
          replace LZ := tlz LZ hb.size
          replace B1 := tbt B1 hb
          replace SD := Lib.hid (SD.out.later hb)
          replace BB := tbt BB hb
          clear hc hb fZ0 fZ1 fA0 fA1
          obtain rfl : bb = true := hbe.2 (by first | trivial | rfl)
          clear hbe
          go_wp2_with fail
          go_ret
          exact ⟨rfl, BB.out⟩
      have d1 : decide ((k : Int) < 300) = false := by rw [decide_eq_false_iff_not]; omega
      go_wp2_with fail
      go_loopw [15] (fun x wr2 => ∃ (j2 : Nat), j2 ≤ E.length ∧ Hid (wr2.heap[w4.heap.size]? = some (.cells #[.int .i64 (T j2).of, .int .i64 (T j2).nx, .int .i64 (T j2).ch, .string (T j2).b] 34 (0, 0))) ∧ Hid (w4.heap.size < wr2.heap.size) ∧ Hid (wr2.heap[w1.heap.size]? = some (.cells #[.slice sa s.items.length sc, .slice ta s.talks.length tc] 27 (0, 0))) ∧ Hid (w1.heap.size < wr2.heap.size) ∧ Hid (Below w1.heap.size w1 wr2) ∧ Hid (Got wr2 w2.heap.size 9 1 g E.length ec (E.map Value.string)) ∧ Hid (Below w.heap.size w wr2)) (fun x wr2 => E.length + 1 - nxAt wr2 w4.heap.size)
      case atStart => exact ⟨j, hj, KT, LT, KA, LA, B1, GT, BB⟩
      case round =>
        clear KT LT KA LA B1 GT BB HNX
        obtain ⟨j2, hj2, KT, LT, KA, LA, B1, GT, BB⟩ := hrel
        have hnx := HTN.out j2
        have HNX := Lib.hid hnx
        clear hnx
        have HME : Hid (nxAt wr w4.heap.size = j2 + 1) := Lib.hid (by unfold nxAt; rw [tcr KT 1]; dsimp only; rw [HNX.out]; omega)
        by_cases h3 : j2 < E.length
        · have d3 : decide ((T j2).nx ≤ (E.length : Int)) = true := by rw [decide_eq_true_iff, HNX.out]; omega
          have hwj : IntKind.i64.wrap ((T j2).nx - 1) = (j2 : Int) := by rw [HNX.out, IntKind.wrap_i64] <;> omega
          have fT0 := tcr KT 0
          have fT1 := tcr KT 1
          have fT2 := tcr KT 2
          have fT3 := tcr KT 3
          obtain ⟨xn, hxn⟩ : ∃ z, z = E[j2]'h3 := ⟨_, rfl⟩
          have hof := HTO.out j2 h3 j2 hj2
          rw [← hxn, if_neg (by omega), if_neg (by omega)] at hof
          obtain ⟨hfit, hbz, hnn⟩ := tk_fit (HTK.out j2 hj2)
          have hxz : xn.size ≤ 1000 := by rw [hxn]; exact Hmem.out _ (List.getElem_mem _)
          have ki := fun w => impl_offer (T j2) xn w hfit (by omega) (by omega)
          obtain ⟨⟨uo, un, uc, ub⟩, hu⟩ : ∃ z, z = (offerS (T j2) xn).1 := ⟨_, rfl⟩
          obtain ⟨c, hcd⟩ : ∃ z, z = (offerS (T j2) xn).2 := ⟨_, rfl⟩
          rw [← hu, ← hcd] at ki
          unfold tkrV at ki
          dsimp only at ki
          have HU : Hid ((⟨uo, un, uc, ub⟩ : Tkr) = T (j2 + 1)) := Lib.hid (by rw [hu, hof])
          have HXN := Lib.hid hxn
          clear hof hu hcd hxn hfit hbz hnn hxz
          have n0 : (0 : Int) ≤ (j2 : Int) := by omega
          have nE : (j2 : Int) < (E.length : Int) := by omega
          go_wp2_with fail
          clear fT0 fT1 fT2 fT3
          go_cut [14, 15] (fun mm bv wx => ∃ (mb : Nat), mm = .pointer (some ⟨mb, 0, none⟩) ∧ bv = .int .i64 c ∧ Hid (wx.heap[mb]? = some (.cells #[.int .i64 uo, .int .i64 un, .int .i64 uc, .string ub] 34 (0, 0))) ∧ Hid (Below wr.heap.size wr wx) ∧ Hid (wr.heap.size ≤ mb ∧ mb < wx.heap.size))
          case first =>
            have FT : Hid (∀ w', Below wr.heap.size wr w' → w'.cell? ⟨w4.heap.size, 0, none⟩ = some (.int .i64 (T j2).of) ∧ w'.cell? ⟨w4.heap.size, 1, none⟩ = some (.int .i64 (T j2).nx) ∧ w'.cell? ⟨w4.heap.size, 2, none⟩ = some (.int .i64 (T j2).ch) ∧ w'.cell? ⟨w4.heap.size, 3, none⟩ = some (.string (T j2).b)) := Lib.hid (fun w' h => by have K := tkb h LT KT; exact ⟨tcr K 0, tcr K 1, tcr K 2, tcr K 3⟩)
            have FL : Hid (∀ w', Below wr.heap.size wr w' → w'.cell? ⟨g, j2, none⟩ = some (.string xn)) := Lib.hid (fun w' h => by rw [HXN.out]; exact (sp_cell (GT.out.later h) j2 h3).1)
            refine wp_region_held_drew (S := (fun w' => Below wr.heap.size wr w')) (by kernel_rfl) (Below.refl _ _).drew (fun hHeld => ?_)
            obtain ⟨zD, hzD⟩ : ∃ zz, zz = wr.drew := ⟨_, rfl⟩
            rw [← hzD] at hHeld ⊢
            clear hzD
            have BD := Lib.hid hHeld
            refine tk 0 (v := ?_) ?_ ?_; rotate_left
            · refine Or.inl ⟨by rfl, ?_⟩; intro w hSw; obtain ⟨hT0, hT1, hT2, hT3⟩ := FT.out w hSw; go_simp; first | done | with_reducible rfl
            refine tk0 1 ?_
            refine tk0 2 ?_
            refine tk 3 (v := ?_) ?_ ?_; rotate_left
            · refine Or.inl ⟨by rfl, ?_⟩; intro w hSw; obtain ⟨hT0, hT1, hT2, hT3⟩ := FT.out w hSw; go_simp; first | done | with_reducible rfl
            refine tk0 4 ?_
            refine tk0 5 ?_
            refine tk 6 (v := ?_) ?_ ?_; rotate_left
            · refine Or.inl ⟨by rfl, ?_⟩; intro w hSw; have h0 := FL.out w hSw; go_simp; first | done | with_reducible rfl
            refine rd2 7 11 (fun K hK => ?_) (fun K hK => ?_)
            · go_simp
              have hc := ki zD
              go_at_call 15
              refine hc.mono ?_
              rintro e zE ⟨rfl, hb⟩
              have hbk := hb
              replace BD := tbt BD hb
              clear hc hb
              clear hbk
              go_wp2_with fail
              refine hK.out _ _ BD.out (fun hHeld => ?_)
              clear hK K
              refine tk0 8 ?_
              refine tk0 9 ?_
              refine tk0 10 ?_
              refine rd1 11 (fun K hK => ?_)
              go_simp
              obtain ⟨zV, hzV⟩ : ∃ z, z = zE.alloc (.cells #[.int .i64 0, .int .i64 0, .int .i64 0, .string ⟨#[]⟩] 34) := ⟨_, rfl⟩
              rw [← hzV]
              have bV : Below zE.heap.size zE zV := by rw [hzV]; exact (Below.refl _ _).alloc (Nat.le_refl _) _
              have KM : Hid (zV.heap[zE.heap.size]? = some (.cells #[.int .i64 0, .int .i64 0, .int .i64 0, .string ⟨#[]⟩] 34 (0, 0))) := Lib.hid (by rw [hzV]; exact heap_new _ _)
              have LM : Hid (zE.heap.size < zV.heap.size) := Lib.hid (by rw [hzV]; simp)
              have AM : Hid (wr.heap.size ≤ zE.heap.size) := Lib.hid BD.out.size
              replace BD := tbt BD bV
              clear hzV bV
              go_wp2_with fail
              refine hK.out _ _ BD.out (fun hHeld => ?_)
              clear hK K
              refine rd1 12 (fun K hK => ?_)
              have f0 := tcr KM 0
              have f1 := tcr KM 1
              have f2 := tcr KM 2
              have f3 := tcr KM 3
              have z0 := tfr KM 0
              have z1 := tfr KM 1
              have z2 := tfr KM 2
              have z3 := tfr KM 3
              go_simp
              obtain ⟨Y, hY⟩ : ∃ Y, Y = (((zV.setCell ⟨zE.heap.size, 0, none⟩ (.int .i64 uo)).setCell ⟨zE.heap.size, 1, none⟩ (.int .i64 un)).setCell ⟨zE.heap.size, 2, none⟩ (.int .i64 uc)).setCell ⟨zE.heap.size, 3, none⟩ (.string ub) := ⟨_, rfl⟩
              rw [← hY]
              have R1 : Hid (Y.heap[zE.heap.size]? = some (.cells #[.int .i64 uo, .int .i64 un, .int .i64 uc, .string ub] 34 (0, 0))) := Lib.hid (by rw [hY]; exact storeT KM.out)
              have BY : Below wr.heap.size wr Y := by rw [hY]; exact below4 BD.out AM.out
              have LY : Hid (wr.heap.size ≤ zE.heap.size ∧ zE.heap.size < Y.heap.size) := Lib.hid ⟨AM.out, (Array.getElem?_eq_some_iff.1 R1.out).1⟩
              refine hK.out _ _ BY (fun hHeld => ?_)
              clear hK K f0 f1 f2 f3 z0 z1 z2 z3 hY
              refine tk0 13 ?_
              refine wpAnyH_done (by kernel_rfl) ?_ _
              clear hHeld
              go_wp2_with fail
              go_meet
              exact ⟨zE.heap.size, rfl, rfl, R1, Lib.hid BY, LY⟩
            · go_simp
              obtain ⟨zV, hzV⟩ : ∃ z, z = zD.alloc (.cells #[.int .i64 0, .int .i64 0, .int .i64 0, .string ⟨#[]⟩] 34) := ⟨_, rfl⟩
              rw [← hzV]
              have bV : Below zD.heap.size zD zV := by rw [hzV]; exact (Below.refl _ _).alloc (Nat.le_refl _) _
              have KM : Hid (zV.heap[zD.heap.size]? = some (.cells #[.int .i64 0, .int .i64 0, .int .i64 0, .string ⟨#[]⟩] 34 (0, 0))) := Lib.hid (by rw [hzV]; exact heap_new _ _)
              have LM : Hid (zD.heap.size < zV.heap.size) := Lib.hid (by rw [hzV]; simp)
              have AM : Hid (wr.heap.size ≤ zD.heap.size) := Lib.hid BD.out.size
              replace BD := tbt BD bV
              clear hzV bV
              go_wp2_with fail
              refine hK.out _ _ BD.out (fun hHeld => ?_)
              clear hK K
              refine rd1 7 (fun K hK => ?_)
              go_simp
              have hc := ki zV
              go_at_call 15
              refine hc.mono ?_
              rintro e zE ⟨rfl, hb⟩
              have hbk := hb
              replace BD := tbt BD hb
              clear hc hb
              replace KM := tkb hbk LM KM
              replace LM := tlz LM hbk.size
              clear hbk
              go_wp2_with fail
              refine hK.out _ _ BD.out (fun hHeld => ?_)
              clear hK K
              refine tk0 8 ?_
              refine tk0 9 ?_
              refine tk0 10 ?_
              refine rd1 12 (fun K hK => ?_)
              have f0 := tcr KM 0
              have f1 := tcr KM 1
              have f2 := tcr KM 2
              have f3 := tcr KM 3
              have z0 := tfr KM 0
              have z1 := tfr KM 1
              have z2 := tfr KM 2
              have z3 := tfr KM 3
              go_simp
              obtain ⟨Y, hY⟩ : ∃ Y, Y = (((zE.setCell ⟨zD.heap.size, 0, none⟩ (.int .i64 uo)).setCell ⟨zD.heap.size, 1, none⟩ (.int .i64 un)).setCell ⟨zD.heap.size, 2, none⟩ (.int .i64 uc)).setCell ⟨zD.heap.size, 3, none⟩ (.string ub) := ⟨_, rfl⟩
              rw [← hY]
              have R1 : Hid (Y.heap[zD.heap.size]? = some (.cells #[.int .i64 uo, .int .i64 un, .int .i64 uc, .string ub] 34 (0, 0))) := Lib.hid (by rw [hY]; exact storeT KM.out)
              have BY : Below wr.heap.size wr Y := by rw [hY]; exact below4 BD.out AM.out
              have LY : Hid (wr.heap.size ≤ zD.heap.size ∧ zD.heap.size < Y.heap.size) := Lib.hid ⟨AM.out, (Array.getElem?_eq_some_iff.1 R1.out).1⟩
              refine hK.out _ _ BY (fun hHeld => ?_)
              clear hK K f0 f1 f2 f3 z0 z1 z2 z3 hY
              refine tk0 13 ?_
              refine wpAnyH_done (by kernel_rfl) ?_ _
              clear hHeld
              go_wp2_with fail
              go_meet
              exact ⟨zD.heap.size, rfl, rfl, R1, Lib.hid BY, LY⟩
          case rest =>
            obtain ⟨mU, rfl, rfl, KU, bA, L0⟩ := hcut
            obtain ⟨v1, rfl⟩ : ∃ z, z = wc := ⟨_, rfl⟩
            have LU := Lib.hid L0.out.2
            have NU := Lib.hid L0.out.1
            have hb := bA.out
            clear L0 bA
            clear ki
            replace KA := tkb hb LA KA
            replace LA := tlz LA hb.size
            replace KT := tkb hb LT KT
            replace LT := tlz LT hb.size
            replace B1 := tbt B1 hb
            replace GT := Lib.hid (GT.out.later hb)
            replace BB := tbt BB hb
            clear hb
            have hun : un = (T j2).nx + 1 := by have h1 := congrArg Tkr.nx HU.out; have h2 := HTN.out (j2 + 1); have h3 := HNX.out; dsimp only at h1; omega
            have hnz : (un != (T j2).nx + 1) = false := by rw [hun]; simp
            have hwx : IntKind.i64.wrap ((T j2).nx + 1) = (T j2).nx + 1 := by have h3 := HNX.out; rw [IntKind.wrap_i64] <;> omega
            clear hun hwj
            have hjn : j2 + 1 ≤ E.length := by omega
            obtain ⟨Y, hY⟩ : ∃ Y, Y = (((v1.setCell ⟨w4.heap.size, 0, none⟩ (.int .i64 uo)).setCell ⟨w4.heap.size, 1, none⟩ (.int .i64 un)).setCell ⟨w4.heap.size, 2, none⟩ (.int .i64 uc)).setCell ⟨w4.heap.size, 3, none⟩ (.string ub) := ⟨_, rfl⟩
            have KY : Hid (Y.heap[w4.heap.size]? = some (.cells #[.int .i64 uo, .int .i64 un, .int .i64 uc, .string ub] 34 (0, 0))) := Lib.hid (by rw [hY]; exact storeT KT.out)
            have gY : v1.grownBy Y (some w4.heap.size) := by rw [hY]; exact grown4 _ _ _ _ _ _
            have fT0 := tcr KT 0
            have fT1 := tcr KT 1
            have fT2 := tcr KT 2
            have fT3 := tcr KT 3
            have fU0 := tcr KU 0
            have fU1 := tcr KU 1
            have fU2 := tcr KU 2
            have fU3 := tcr KU 3
            have z0 := tfr KT 0
            have z1 := tfr KT 1
            have z2 := tfr KT 2
            have z3 := tfr KT 3
            go_wp2_with fail
            rw [← hY]
            clear z0 z1 z2 z3 hY fT0 fT1 fT2 fT3 fU0 fU1 fU2 fU3 KU LU NU hnz hwx
            replace LT := tlz LT gY.size
            replace KA := tkg gY LA KA (by have := W4.out; simp; omega)
            replace LA := tlz LA gY.size
            replace B1 := Lib.hid (B1.out.grown gY B1.out.size (fun q e => by cases e; exact Nat.le_of_lt W4.out))
            replace GT := Lib.hid (GT.out.grown gY NG.out)
            replace BB := Lib.hid (BB.out.grown gY BB.out.size (fun q e => by cases e; have := W1.out; have := W4.out; omega))
            clear gY KT
            have KT := KY
            clear KY
            have KT2 : Hid (Y.heap[w4.heap.size]? = some (.cells #[.int .i64 (T (j2 + 1)).of, .int .i64 (T (j2 + 1)).nx, .int .i64 (T (j2 + 1)).ch, .string (T (j2 + 1)).b] 34 (0, 0))) := Lib.hid (by rw [← HU.out]; exact KT.out)
            clear KT
            have HM2 : Hid (nxAt Y w4.heap.size = j2 + 2) := Lib.hid (by unfold nxAt; rw [tcr KT2 1]; dsimp only; rw [HTN.out (j2 + 1)]; omega)
            go_roundw
            case rel => exact ⟨j2 + 1, hjn, KT2, LT, KA, LA, B1, GT, BB⟩
            case measure => show _ - nxAt Y w4.heap.size < _ - nxAt wr w4.heap.size; rw [HM2.out, HME.out]; omega
        have d3 : decide ((T j2).nx ≤ (E.length : Int)) = false := by rw [decide_eq_false_iff_not, HNX.out]; omega
        have he : j2 = E.length := by omega
        have ht : takenS (T j2) = (s, true) := by rw [he]; exact HTT.out
        obtain ⟨hfit, hbz, hnn⟩ := tk_fit (HTK.out j2 hj2)
        have hk := impl_taken (T j2) wr hfit (by omega)
        rw [ht] at hk
        unfold tkrV at hk
        dsimp only at hk
        clear he ht hfit hbz hnn HME
        have fT0 := tcr KT 0
        have fT1 := tcr KT 1
        have fT2 := tcr KT 2
        have fT3 := tcr KT 3
        go_wp2_with (go_at_call 17; refine hk.mono ?_; rintro e v5 ⟨v9, rfl, hd9, hb⟩; refine Hid.out ?_)
        refine Lib.hid ?_
        clear hk d3 fT0 fT1 fT2 fT3
        replace KA := tkb hb LA KA
        replace LA := tlz LA hb.size
        replace KT := tkb hb LT KT
        replace LT := tlz LT hb.size
        replace B1 := tbt B1 hb
        replace BB := tbt BB hb
        clear hb
        obtain ⟨a0, k0, a1, k1, rfl⟩ := hd9.two
        have SD := Lib.hid hd9
        clear hd9
        obtain ⟨X3, hX3⟩ : ∃ z, z = v5.alloc (.cells #[.slice a0 s.items.length k0, .slice a1 s.talks.length k1] 27) := ⟨_, rfl⟩
        have hb : Below v5.heap.size v5 X3 := by rw [hX3]; exact (Below.refl _ _).alloc (Nat.le_refl _) _
        replace KA := tkb hb LA KA
        replace LA := tlz LA hb.size
        replace KT := tkb hb LT KT
        replace LT := tlz LT hb.size
        replace B1 := tbt B1 hb
        replace SD := Lib.hid (SD.out.later hb)
        replace BB := tbt BB hb
        have KZ : Hid (X3.heap[v5.heap.size]? = some (.cells #[.slice a0 s.items.length k0, .slice a1 s.talks.length k1] 27 (0, 0))) := Lib.hid (by rw [hX3]; exact heap_new _ _)
        have LZ : Hid (v5.heap.size < X3.heap.size) := Lib.hid (by rw [hX3]; simp)
        clear hb
        have hc := spec_same s s _ _ X3.heap.size X3 SD.out.st.rd (SV.out.later B1.out B1.out.size).rd (Nat.le_refl _)
        have fZ0 := tcr KZ 0
        have fZ1 := tcr KZ 1
        have fA0 := tcr KA 0
        have fA1 := tcr KA 1
        rw [hX3] at hc fZ0 fZ1 fA0 fA1
        go_wp2_with (go_at_call 18; refine hc.mono ?_; rintro e v6 ⟨bb, rfl, hbe, hb⟩; refine Hid.out ?_)
        refine Lib.hid ?_
        rw [← hX3] at hb 
        clear hX3
        replace KA := tkb hb LA KA
        replace LA := tlz LA hb.size
        replace KT := tkb hb LT KT
        replace LT := tlz LT hb.size
        replace KZ := tkb hb LZ KZ
        replace LZ := tlz LZ hb.size
        replace B1 := tbt B1 hb
        replace SD := Lib.hid (SD.out.later hb)
        replace BB := tbt BB hb
        clear hc hb fZ0 fZ1 fA0 fA1
        obtain rfl : bb = true := hbe.2 (by first | trivial | rfl)
        clear hbe
        go_wp2_with fail
        go_ret
        exact ⟨rfl, BB.out⟩
  · have hs1 : stOk s = false := by simpa using hok
    have hE0 : E = [] := by rw [HE.out]; exact exp_none (fun h => hok h.1)
    have hl0 : ((E.length : Int) == 0) = true := by rw [hE0]; rfl
    clear hE0
    rw [hs1]
    go_wp2_with fail
    go_ret
    exact ⟨rfl, BB.out⟩
end Go.Proofs.YtdpjdjkfedcojaaGreat
