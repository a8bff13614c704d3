/- The law FnDel: what is put and deleted is not there; what is got changes nothing but the talk. Condition: the variable errors.errorType holds the handle of the type error. -/
import Derived.Test.YtebmaplflpfjbaaDoorBaseA
import Derived.Test.YtebmaplflpfjbaaDoorBig
import Derived.Test.YtebmaplflpfjbaaDoorDelFacts
import Derived.Test.YtebmaplflpfjbaaDoorImplApplyAll
import Derived.Test.YtebmaplflpfjbaaDoorImplDrop
import Derived.Test.YtebmaplflpfjbaaDoorImplSame
import Derived.Test.YtebmaplflpfjbaaDoorImplAt
import Derived.Test.YtebmaplflpfjbaaDoorStateOk
namespace Go.Proofs.YtebmaplflpfjbaaDoor
open Go.RowKit
set_option linter.unusedVariables false
set_option linter.unusedSimpArgs false

theorem slice_row_len {w : World} {B sz n : Nat} {v : Value} {cs : List Value} (h : Row w B sz v n cs) : ∃ a c, v = .slice a n c := by
  rcases h with ⟨_, ⟨rfl, rfl⟩ | ⟨g, o, cap, rfl, _⟩⟩ <;> exact ⟨_, _, rfl⟩
theorem texts_raw {w : World} {B : Nat} {v : Value} {xs : List ByteArray} (h : Texts w B v xs) : ∃ a cap, v = .slice a xs.length cap ∧ Raw w w.heap.size v xs.length (xs.map Value.string) := by
  obtain ⟨hl, ⟨rfl, h0⟩ | ⟨g, cap, cur, rfl, hg, hh, hc, hm, hs, ht⟩⟩ := id h
  · obtain rfl : xs = [] := List.eq_nil_of_length_eq_zero h0
    exact ⟨none, 0, rfl, none, 0, rfl, Nat.le_refl _, Nat.zero_le _, fun _ => rfl, fun h => absurd h (Nat.lt_irrefl _)⟩
  · refine ⟨_, cap, rfl, _, cap, rfl, hc, hm, (fun h => by cases h), fun h0 => ⟨g, 0, rfl, (World.ownsRow.lt h g rfl).2, fun j u hu => ?_⟩⟩
    have := World.ownsRow.cells h (g := g) rfl j u hu
    rwa [add_flat] at this
theorem own_two {w : World} {b : Nat} {v : Value} {s : St} (h : OwnN w b v s) : ∃ a0 k0 a1 k1, v = .agg #[.slice a0 s.items.length k0, .slice a1 s.talks.length k1] := by
  obtain ⟨_, _, _, _, _, _, h, _, ⟨a0, rfl, _⟩, ⟨a1, rfl, _⟩, _⟩ := h
  exact ⟨_, _, _, _, h⟩
theorem ops_fit {k : ByteArray} (hk : k.size ≤ 64) : ∀ x ∈ [d1 k, d2 k, d3 k, d4 k], FitRq x := by
  intro x hx
  have e1 : zed.size = 3 := rfl
  have e2 : bV.size = 1 := rfl
  have e3 : (⟨#[]⟩ : ByteArray).size = 0 := rfl
  simp only [List.mem_cons, List.not_mem_nil, or_false] at hx
  unfold FitRq maxLen
  rcases hx with rfl | rfl | rfl | rfl <;> simp only [d1, d2, d3, d4, e1, e2, e3] <;> omega
theorem at_low (a : Option Addr) (len cap : Nat) (zs : List Int) (i : Nat) (hi : i ≤ 5) (w : World) (hr : Row8 w w.heap.size a len cap zs) (hl : len ≤ 1048576) :
    Calls Tryd.prog 24 #[.slice a len cap, .int .i64 i] w fun e w' => ∃ x : Nat, x < 256 ∧ e = .returned (.int .i64 x) ∧ w = w' := by
  by_cases h : i < len
  · obtain ⟨b, off, z, rfl, hb, hcell, hz0, hz1, hzz⟩ := hr.byte i h
    clear hzz
    obtain ⟨x, rfl⟩ := Int.eq_ofNat_of_zero_le hz0
    go_enter Tryd.func24, Tryd.ntmps24
    go_wp2_with fail
    go_ret
    exact ⟨x, by omega, rfl, rfl⟩
  · have hv : Hid (((i : Int) * 7 + (len : Int)).tmod 256 = (((i * 7 + len) % 256 : Nat) : Int)) := Lib.hid (by rw [Int.tmod_eq_emod_of_nonneg (by omega)]; omega)
    go_enter Tryd.func24, Tryd.ntmps24
    go_wp2_with fail
    go_ret
    exact ⟨(i * 7 + len) % 256, by omega, ret_int (by rw [← hv.out]; rfl), rfl⟩

set_option maxRecDepth 100000 in
set_option maxHeartbeats 16000000 in
theorem law_del (a : Option Addr) (len cap : Nat) (zs : List Int) (w : World) (hr : IsRow .u8 w a len cap zs) (hE : ErrType w) :
    Calls Tryd.prog 6 #[.slice a len cap] w fun e w' => e = .returned (.bool true) ∧ Below w.heap.size w w' := by
  have hr := row8_of hr
  by_cases hbig : 1048576 < len
  · have hd : decide (1048576 < len) = true := by simpa using hbig
    go_enter Tryd.func6, Tryd.ntmps6
    go_wp2_with (go_at_call 7; refine (big_any _ _ _ _).mono ?_; rintro e w' ⟨rfl, rfl⟩)
    go_ret
    exact ⟨rfl, Below.refl _ _⟩
  · have hd : decide (1048576 < len) = false := by simpa using hbig
    have hlen : len ≤ 1048576 := by omega
    have HE := Lib.hid hE
    have Hr8 := Lib.hid hr
    clear hE
    go_enter Tryd.func6, Tryd.ntmps6
    go_wp2_with (first | (go_at_call 7; refine (big_any _ _ _ _).mono ?_; rintro e w' ⟨rfl, rfl⟩) | (go_at_call 23; refine (drawApplyAll_any _ make_goodP a len cap zs _ hr hlen).mono ?_; rintro e w1 ⟨v, s, g0, n0, lc0, xs0, rfl, hn, hst, ⟨hsm, hok, hnz⟩, hraw, hn7, hxs, hb⟩; clear hn; refine Hid.out ?_))
    refine Lib.hid ?_
    have SV := Lib.hid hst
    obtain ⟨vi, vt, rfl, r1, r2⟩ := hst
    obtain ⟨sa, sc, rfl⟩ := slice_row_len r1
    obtain ⟨ta, tc, rfl⟩ := slice_row_len r2
    have BB : Hid (Below w.heap.size w w1) := Lib.hid hb
    have B1 : Hid (Below w1.heap.size w1 w1) := Lib.hid (Below.refl _ _)
    have Hkeep : Hid (KeepS s) := Lib.hid ⟨hsm.small (by omega) (by omega), hsm.fits⟩
    have Hok := Lib.hid hok
    have Hnz := Lib.hid hnz
    have Hsm := Lib.hid hsm
    have h6 : s.items.length ≤ 6 := hsm.1
    clear r1 r2 hsm hok hnz hraw hxs hb hr hd
    obtain ⟨X1, hX1⟩ : ∃ z, z = w1.alloc (.cells #[.slice sa s.items.length sc, .slice ta s.talks.length tc] 27) := ⟨_, rfl⟩
    have hb : Below w1.heap.size w1 X1 := by rw [hX1]; exact (Below.refl _ _).alloc (Nat.le_refl _) _
    replace B1 := tbt B1 hb
    replace BB := tbt BB hb
    have KA : Hid (X1.heap[w1.heap.size]? = some (.cells #[.slice sa s.items.length sc, .slice ta s.talks.length tc] 27 (0, 0))) := Lib.hid (by rw [hX1]; exact heap_new _ _)
    have LA : Hid (w1.heap.size < X1.heap.size) := Lib.hid (by rw [hX1]; simp)
    clear hb
    obtain ⟨X2, hX2⟩ : ∃ z, z = X1.alloc (.cells #[.string ⟨#[97, 112, 112, 108, 101]⟩, .string ⟨#[110, 101, 119]⟩] 9) := ⟨_, rfl⟩
    have hb : Below X1.heap.size X1 X2 := by rw [hX2]; exact (Below.refl _ _).alloc (Nat.le_refl _) _
    replace KA := tkb hb LA KA
    replace LA := tlz LA hb.size
    replace B1 := tbt B1 hb
    replace BB := tbt BB hb
    have KQ : Hid (X2.heap[X1.heap.size]? = some (.cells #[.string ⟨#[97, 112, 112, 108, 101]⟩, .string ⟨#[110, 101, 119]⟩] 9 (0, 0))) := Lib.hid (by rw [hX2]; exact heap_new _ _)
    have LQ : Hid (X1.heap.size < X2.heap.size) := Lib.hid (by rw [hX2]; simp)
    clear hb
    rw [show X1.heap.size = w1.heap.size + 1 by rw [hX1]; simp] at KQ LQ
    have R8 : Row8 X2 X2.heap.size a len cap zs := Hr8.out.later BB.out
    have hc := at_low a len cap zs 0 (by omega) X2 R8 hlen
    rw [hX2, hX1] at hc
    go_wp2_with (go_at_call 24; refine hc.mono ?_; rintro e w2 ⟨x, hx, rfl, rfl⟩; refine Hid.out ?_)
    refine Lib.hid ?_
    rw [← hX1, ← hX2]
    clear hX2 hX1
    clear hc R8
    obtain ⟨j, hj⟩ : ∃ j : Nat, j = x % 2 := ⟨_, rfl⟩
    have hj2 : j < 2 := by omega
    have hjt : (x : Int).tmod 2 = (j : Int) := by rw [Int.tmod_eq_emod_of_nonneg (by omega)]; omega
    have hje : (x : Int) % 2 = (j : Int) := by omega
    clear hj
    obtain ⟨k, hk, fQ⟩ : ∃ k, (k = kA ∨ k = kN) ∧ X2.cell? ⟨w1.heap.size + 1, j, none⟩ = some (.string k) := by
      have q0 := tcr KQ 0
      have q1 := tcr KQ 1
      rcases (show j = 0 ∨ j = 1 by omega) with rfl | rfl
      · exact ⟨_, .inl rfl, q0⟩
      · exact ⟨_, .inr rfl, q1⟩
    have Hk := Lib.hid hk
    have hks : Hid (k.size ≤ 64) := Lib.hid (by rcases hk with rfl | rfl <;> decide)
    clear hk
    have hd40 : decide ((40 : Int) ≤ (s.items.length : Int)) = false := by simp; omega
    clear KQ LQ
    have fA0 := tcr KA 0
    obtain ⟨X3, hX3⟩ : ∃ z, z = X2.alloc (.cells #[.string ⟨#[122, 101, 100]⟩, .int .i64 1, .int .i64 1, .string k, .string ⟨#[118]⟩, .string ⟨#[122, 101, 100]⟩, .int .i64 2, .int .i64 0, .string k, .string ⟨#[]⟩, .string ⟨#[122, 101, 100]⟩, .int .i64 5, .int .i64 2, .string k, .string ⟨#[]⟩, .string ⟨#[122, 101, 100]⟩, .int .i64 6, .int .i64 0, .string k, .string ⟨#[]⟩] 29) := ⟨_, rfl⟩
    have hb : Below X2.heap.size X2 X3 := by rw [hX3]; exact (Below.refl _ _).alloc (Nat.le_refl _) _
    have sX3 : X2.heap.size < X3.heap.size := by rw [hX3]; simp
    have RO : Raw X3 X3.heap.size (.slice (some ⟨X2.heap.size, 0, none⟩) 4 4) ([d1 k, d2 k, d3 k, d4 k]).length (([d1 k, d2 k, d3 k, d4 k]).flatMap rqC) := ⟨_, 4, rfl, Nat.le_refl _, by decide, (fun h => by cases h), fun _ => ⟨X2.heap.size, 0, rfl, sX3, fun j u hu => by rw [hX3, World.cell?_alloc_new]; simpa [rqC, d1, d2, d3, d4, zed, bV] using hu⟩⟩
    replace KA := tkb hb LA KA
    replace LA := tlz LA hb.size
    replace B1 := tbt B1 hb
    replace BB := tbt BB hb
    obtain ⟨r, hr'⟩ : ∃ r, r = (apA s [d1 k, d2 k, d3 k, d4 k]).1 := ⟨_, rfl⟩
    have hdf := del_facts Hk.out Hok.out Hnz.out h6 Hsm.out.2.1
    rw [← hr'] at hdf
    obtain ⟨di, dn, dok, r0, hrs⟩ := hdf
    have Hr := Lib.hid hr'
    have Hdi := Lib.hid di
    have Hdn := Lib.hid dn
    have Hdok := Lib.hid dok
    have Hrs := Lib.hid hrs
    clear hr' di dn dok hrs hb
    have hc := impl_applyAll s _ (.slice (some ⟨X2.heap.size, 0, none⟩) 4 4) [d1 k, d2 k, d3 k, d4 k] X3.heap.size X3 (SV.out.later B1.out B1.out.size) RO (Nat.le_refl _) Hkeep.out (fun x hx => ops_fit hks.out x hx) (by simp) (HE.out.on BB.out)
    rw [← Hr.out, Hrs.out] at hc
    have fA0 := tcr KA 0
    have fA1 := tcr KA 1
    rw [hX3] at hc fA0 fA1
    go_wp2_with (go_at_call 25; refine hc.mono ?_; rintro e w3 ⟨_, vr, nb, rfl, hT, hb⟩; refine Hid.out ?_)
    refine Lib.hid ?_
    rw [← hX3] at hb hT
    clear hX3
    replace KA := tkb hb LA KA
    replace LA := tlz LA hb.size
    replace B1 := tbt B1 hb
    replace BB := tbt BB hb
    clear hc hb fA0 fA1
    clear RO sX3 fQ hd40 hjt hje
    have OT_ := Lib.hid hT.own
    have STT := Lib.hid hT.own.st
    obtain ⟨gi, ci, gt, ct, rfl⟩ := own_two hT.own
    obtain ⟨ra, rc, rfl, hrw⟩ := texts_raw hT.2.2
    have B3 : Hid (Below w3.heap.size w3 w3) := Lib.hid (Below.refl _ _)
    have RR := Lib.hid hrw
    clear hT hrw
    obtain ⟨X4, hX4⟩ : ∃ z, z = w3.alloc (.cells #[.slice gi r.items.length ci, .slice gt r.talks.length ct] 27) := ⟨_, rfl⟩
    have hb : Below w3.heap.size w3 X4 := by rw [hX4]; exact (Below.refl _ _).alloc (Nat.le_refl _) _
    replace KA := tkb hb LA KA
    replace LA := tlz LA hb.size
    replace B1 := tbt B1 hb
    replace B3 := tbt B3 hb
    replace BB := tbt BB hb
    have KT : Hid (X4.heap[w3.heap.size]? = some (.cells #[.slice gi r.items.length ci, .slice gt r.talks.length ct] 27 (0, 0))) := Lib.hid (by rw [hX4]; exact heap_new _ _)
    have LT : Hid (w3.heap.size < X4.heap.size) := Lib.hid (by rw [hX4]; simp)
    clear hb
    have hc := impl_dropItem s _ X4.heap.size k X4 (SV.out.later B1.out B1.out.size) (Nat.le_refl _) Hkeep.out.few Hkeep.out.2 (by have := hks.out; unfold maxLen; omega)
    have fA0 := tcr KA 0
    have fA1 := tcr KA 1
    rw [hX4] at hc fA0 fA1
    go_wp2_with (go_at_call 26; refine hc.mono ?_; rintro e w4 ⟨_, rfl, ho, hb⟩; refine Hid.out ?_)
    refine Lib.hid ?_
    rw [← hX4] at hb ho
    clear hX4
    replace KA := tkb hb LA KA
    replace LA := tlz LA hb.size
    replace KT := tkb hb LT KT
    replace LT := tlz LT hb.size
    replace B1 := tbt B1 hb
    replace B3 := tbt B3 hb
    replace BB := tbt BB hb
    clear hc hb fA0 fA1
    have SD := Lib.hid ho.st
    obtain ⟨wi, wk, wt, wl, rfl⟩ := own_two ho
    have B4 : Hid (Below w4.heap.size w4 w4) := Lib.hid (Below.refl _ _)
    clear ho
    obtain ⟨Z, hZ⟩ : ∃ z, z = w4.alloc (.cells #[.slice wi (dropS s k).items.length wk, .slice wt (dropS s k).talks.length wl] 27) := ⟨_, rfl⟩
    have bZ : Below w4.heap.size w4 Z := by rw [hZ]; exact (Below.refl _ _).alloc (Nat.le_refl _) _
    have KTz := tkb bZ LT KT
    have fZ0 := tcr KTz 0
    have fZ1 := tcr KTz 1
    rw [hZ] at fZ0 fZ1
    clear KTz bZ hZ
    obtain ⟨X5, hX5⟩ : ∃ z, z = w4.alloc (.cells #[.slice wi (dropS s k).items.length wk, .slice gt r.talks.length ct] 27) := ⟨_, rfl⟩
    have hb : Below w4.heap.size w4 X5 := by rw [hX5]; exact (Below.refl _ _).alloc (Nat.le_refl _) _
    replace KA := tkb hb LA KA
    replace LA := tlz LA hb.size
    replace KT := tkb hb LT KT
    replace LT := tlz LT hb.size
    replace B1 := tbt B1 hb
    replace B3 := tbt B3 hb
    replace B4 := tbt B4 hb
    replace BB := tbt BB hb
    have KW : Hid (X5.heap[w4.heap.size]? = some (.cells #[.slice wi (dropS s k).items.length wk, .slice gt r.talks.length ct] 27 (0, 0))) := Lib.hid (by rw [hX5]; exact heap_new _ _)
    have LW : Hid (w4.heap.size < X5.heap.size) := Lib.hid (by rw [hX5]; simp)
    clear hb
    have hc := spec_stateOk s _ X5.heap.size X5 (SV.out.later B1.out B1.out.size) (Nat.le_refl _) Hkeep.out.2
    rw [Hok.out] at hc
    have fA0 := tcr KA 0
    have fA1 := tcr KA 1
    rw [hX5] at hc fA0 fA1
    go_wp2_with (go_at_call 27; refine hc.mono ?_; rintro e w5 ⟨rfl, hb⟩; refine Hid.out ?_)
    refine Lib.hid ?_
    rw [← hX5] at hb 
    clear hX5
    replace KA := tkb hb LA KA
    replace LA := tlz LA hb.size
    replace KT := tkb hb LT KT
    replace LT := tlz LT hb.size
    replace KW := tkb hb LW KW
    replace LW := tlz LW hb.size
    replace B1 := tbt B1 hb
    replace B3 := tbt B3 hb
    replace B4 := tbt B4 hb
    replace BB := tbt BB hb
    clear hc hb fA0 fA1
    clear fZ0 fZ1
    obtain ⟨a5, c5, hv5, hc4, hc5, _, hat5⟩ := RR.out.later B3.out B3.out.size
    obtain ⟨rfl, rfl⟩ : ra = a5 ∧ rc = c5 := by simpa using hv5
    obtain ⟨g5, o5, rfl, hg5, hA5⟩ := hat5 (by simp)
    have y1 := hA5 1 _ rfl
    have y2 := hA5 2 _ rfl
    have y3 := hA5 3 _ rfl
    have hc4' : 4 ≤ rc := by simpa using hc4
    have hc5' : rc ≤ 9223372036854775807 := by unfold maxLen at hc5; omega
    have hvv : (bV.toList == bV.toList) = true := teq rfl
    have hee : ((⟨#[]⟩ : ByteArray).toList == (⟨#[]⟩ : ByteArray).toList) = true := teq rfl
    unfold bV at y1 y2 hvv
    clear hA5 hat5 hv5 hc4 hc5
    have SW : StV w5 w5.heap.size (.agg #[.slice wi (dropS s k).items.length wk, .slice gt r.talks.length ct]) r := by
      obtain ⟨vi, vt, e1, p1, p2⟩ := SD.out.later B4.out B4.out.size
      obtain ⟨vi2, vt2, e2, p3, p4⟩ := (STT.out.later B3.out B3.out.size)
      obtain ⟨rfl, rfl⟩ : Value.slice wi (dropS s k).items.length wk = vi ∧ Value.slice wt (dropS s k).talks.length wl = vt := by simpa using e1
      obtain ⟨rfl, rfl⟩ : Value.slice gi r.items.length ci = vi2 ∧ Value.slice gt r.talks.length ct = vt2 := by simpa using e2
      exact ⟨_, _, rfl, by rw [Hdi.out]; exact p1, p4⟩
    have Hrf := Lib.hid (ok_fits Hdok.out)
    have SW := Lib.hid SW
    have hc := impl_sameState r r _ _ w5.heap.size w5 (STT.out.later B3.out B3.out.size) SW.out (Nat.le_refl _) Hrf.out Hrf.out
    have fT0 := tcr KT 0
    have fT1 := tcr KT 1
    have fW0 := tcr KW 0
    have fW1 := tcr KW 1
    go_wp2_with (go_at_call 28; refine hc.mono ?_; rintro e w6 ⟨bb, rfl, hbe, hb⟩; refine Hid.out ?_)
    refine Lib.hid ?_
    replace KA := tkb hb LA KA
    replace LA := tlz LA hb.size
    replace KT := tkb hb LT KT
    replace LT := tlz LT hb.size
    replace KW := tkb hb LW KW
    replace LW := tlz LW hb.size
    replace B1 := tbt B1 hb
    replace B3 := tbt B3 hb
    replace B4 := tbt B4 hb
    replace BB := tbt BB hb
    clear hc hb fT0 fT1 fW0 fW1
    obtain rfl : bb = true := hbe.2 (by first | trivial | rfl)
    clear hbe y1 y2 y3 hvv hee
    have hc := impl_itemAt r _ w6.heap.size k w6 (STT.out.later B3.out B3.out.size) (Nat.le_refl _) Hrf.out (by have := hks.out; unfold maxLen; omega)
    rw [Hdn.out] at hc
    have fT0 := tcr KT 0
    have fT1 := tcr KT 1
    go_wp2_with (go_at_call 29; refine hc.mono ?_; rintro e w7 ⟨rfl, hb⟩; refine Hid.out ?_)
    refine Lib.hid ?_
    replace KA := tkb hb LA KA
    replace LA := tlz LA hb.size
    replace KT := tkb hb LT KT
    replace LT := tlz LT hb.size
    replace KW := tkb hb LW KW
    replace LW := tlz LW hb.size
    replace B1 := tbt B1 hb
    replace B3 := tbt B3 hb
    replace B4 := tbt B4 hb
    replace BB := tbt BB hb
    clear hc hb fT0 fT1
    go_wp2_with fail
    go_ret
    exact ⟨rfl, BB.out⟩
end Go.Proofs.YtebmaplflpfjbaaDoor
