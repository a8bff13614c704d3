/- The items of a part moved from a map to another one: moveItems, a range that deletes. Condition: names that a text may be. -/
import Derived.Test.YtebmaplflpfjbaaMapI
import Derived.Test.YtebmaplflpfjbaaPartOf
import Derived.Test.YtebmaplflpfjbaaBaseA
namespace Go.Proofs.Ytebmaplflpfjbaa
open Go.RowKit Go.Maps
set_option linter.unusedVariables false
set_option linter.unusedSimpArgs false

/-- Two blocks may have turned. -/
structure Tw (w w' : World) (g h : Nat) : Prop where
  os : w'.os = w.os
  tape : w'.tape = w.tape
  output : w'.output = w.output
  size : w.heap.size ≤ w'.heap.size
  block : ∀ k, k < w.heap.size → k ≠ g → k ≠ h → w'.heap[k]? = w.heap[k]?
theorem Tw.refl (w : World) (g h : Nat) : Tw w w g h := ⟨rfl, rfl, rfl, Nat.le_refl _, fun _ _ _ _ => rfl⟩
theorem Tw.step {w w1 w2 : World} {g h : Nat} {r : Option Nat} (t : Tw w w1 g h) (b : w1.grownBy w2 r) (hr : ∀ j, r = some j → j = g ∨ j = h ∨ w.heap.size ≤ j) : Tw w w2 g h :=
  ⟨b.os.trans t.os, b.tape.trans t.tape, b.output.trans t.output, Nat.le_trans t.size b.size, fun k hk h1 h2 => (b.block k (Nat.lt_of_lt_of_le hk t.size) (fun e => by rcases hr k e.symm with e | e | e <;> omega)).trans (t.block k hk h1 h2)⟩
theorem Tw.below {w w1 w2 : World} {g h : Nat} (t : Tw w w1 g h) (b : Below w1.heap.size w1 w2) : Tw w w2 g h := t.step (grown_of_below b none) (fun j e => by cases e)
theorem samek (j k : ByteArray) : (kl j).sameKey (kl k) = decide (j = k) := by
  by_cases h : j = k
  · subst h; simp [kl, Lit.sameKey]
  · rw [Maps.sameKey_ne (fun e => h (kl_inj e))]; simp [h]
/-- A range over a map of items under way. -/
def RngI (w : World) (b r n : Nat) (m : ByteArray → Option It) (left : Lit → Bool) (cnt : Nat) : Prop :=
  ∃ D : DataW Unit, w.ranges Try.prog 9 itR b r n D left cnt ∧ (∀ k, Maps.has D (kl k) = (m k).isSome) ∧ ∀ k x, m k = some x → ∀ z, D.atKey (kl k) z = itD x
theorem RngI.map {w : World} {b r n cnt : Nat} {m : ByteArray → Option It} {left : Lit → Bool} (h : RngI w b r n m left cnt) : MapI w b n m := by obtain ⟨D, h, h1⟩ := h; exact ⟨D, h.owns, h1⟩
theorem RngI.kept {w w' : World} {b r n cnt : Nat} {m : ByteArray → Option It} {left : Lit → Bool} {row : Option Nat} (h : RngI w b r n m left cnt) (hg : w.grownBy w' row) (hb : some b ≠ row) (hr : some r ≠ row) : RngI w' b r n m left cnt := by obtain ⟨D, h, h1⟩ := h; exact ⟨D, h.kept hg hb hr, h1⟩
theorem RngI.later {w w' : World} {b r n cnt : Nat} {m : ByteArray → Option It} {left : Lit → Bool} (h : RngI w b r n m left cnt) (hb : Below w.heap.size w w') : RngI w' b r n m left cnt := h.kept (grown_of_below hb none) (by simp) (by simp)
theorem RngI.lt {w : World} {b r n cnt : Nat} {m : ByteArray → Option It} {left : Lit → Bool} (h : RngI w b r n m left cnt) : r < w.heap.size := by obtain ⟨D, h, _⟩ := h; exact h.lt
theorem RngI.ne {w : World} {b r n cnt : Nat} {m : ByteArray → Option It} {left : Lit → Bool} (h : RngI w b r n m left cnt) : r ≠ b := by obtain ⟨D, h, _⟩ := h; exact h.ne
theorem RngI.left_eq {w : World} {b r n cnt : Nat} {m : ByteArray → Option It} {left : Lit → Bool} (h : RngI w b r n m left cnt) : w.rangeLeft b r = cnt := by obtain ⟨D, h, _⟩ := h; exact h.left_eq
theorem MapI.range {w : World} {b n : Nat} {m : ByteArray → Option It} (h : MapI w b n m) : ∃ w' left cnt, (Instr.range 71 (.map (some b))).run Try.prog w = .ok (.pointer (some ⟨w.heap.size, 0, none⟩)) w' ∧ RngI w' b w.heap.size n m left cnt ∧ (∀ k, left (kl k) = (m k).isSome) ∧ w.grownBy w' none ∧ w'.heap.size = w.heap.size + 1 := by
  obtain ⟨D, h, h1, h2⟩ := h
  obtain ⟨w', e, r, g, s⟩ := h.range (string_keyed Try.underlying9) Try.underlying71
  exact ⟨w', _, _, e, ⟨D, r, h1, h2⟩, h1, g, s⟩
theorem RngI.next {w : World} {b r n cnt : Nat} {m : ByteArray → Option It} {left : Lit → Bool} (h : RngI w b r n m left cnt) (ty : TypeId) :
    (cnt = 0 ∧ (∀ k, left k = false) ∧ (Instr.next (.pointer (some ⟨r, 0, none⟩)) false ty).run Try.prog w = .ok (.tuple #[.bool false]) w) ∨
    ∃ k x w' cnt', m k = some x ∧ left (kl k) = true ∧ k.size ≤ maxLen ∧ (Instr.next (.pointer (some ⟨r, 0, none⟩)) false ty).run Try.prog w = .ok (.tuple #[.bool true, .string k, itA x]) w' ∧
      RngI w' b r n m (fun z => left z && !z.sameKey (kl k)) cnt' ∧ cnt' < cnt ∧ w.grownBy w' (some r) ∧ w'.heap.size = w.heap.size ∧ (Instr.entry (.pointer (some ⟨r, 0, none⟩))).run Try.prog w' = .ok (.tuple #[.string k, itA x]) w' := by
  obtain ⟨D, h, h1, h2⟩ := h
  rcases h.next (string_keyed Try.underlying9) ty with ⟨e0, e1, e2⟩ | ⟨key, v, q, y, w', cnt', hkey, hlk, hv, hat, hrun, hrg, hlt, hgr, hsz, hen⟩
  · exact .inl ⟨e0, e1, e2⟩
  · obtain ⟨x, rfl, hx⟩ := itR_inv hv
    obtain ⟨k, rfl, hk, rfl⟩ : ∃ k, key = .string k ∧ k.size ≤ maxLen ∧ q = kl k := by
      cases key <;> simp [keyOf, Try.underlying9, mapKey] at hkey
      exact ⟨_, rfl, hkey.1, hkey.2.symm⟩
    refine .inr ⟨k, x, w', cnt', ?_, hlk, hk, hrun, ⟨D, hrg, h1, h2⟩, hlt, hgr, hsz, hen⟩
    have hh := h1 k
    rw [Maps.has_true_of_atKey hat] at hh
    cases hm : m k with
    | none => rw [hm] at hh; cases hh
    | some z =>
      have e1 := h2 k z hm (.agg [])
      rw [hat, hx] at e1
      rw [itD_inj e1]
theorem RngI.drop {w : World} {b r n cnt : Nat} {m : ByteArray → Option It} {left : Lit → Bool} (h : RngI w b r n m left cnt) (k : ByteArray) (hk : k.size ≤ maxLen) (ty : TypeId) :
    ∃ w' cnt', (Builtin.delete_ #[71, 9] ty #[.map (some b), .string k]).run Try.prog w = .ok (.tuple #[]) w' ∧ RngI w' b r n (upd m k none) (fun z => left z && !z.sameKey (kl k)) cnt' ∧ cnt' ≤ cnt ∧ w.grownBy w' (some b) := by
  obtain ⟨D, h, h1, h2⟩ := h
  obtain ⟨w', cnt', e, r1, r2, r3⟩ := h.drop (string_keyed Try.underlying9) Try.underlying71 (kl_of hk) ty
  refine ⟨w', cnt', e, ⟨_, r1, fun j => ?_, fun j x hj z => ?_⟩, r2, r3.grown⟩
  · by_cases e2 : j = k
    · subst e2; rw [upd_same, Maps.has_del_same]; rfl
    · rw [upd_other _ _ e2, Maps.has_del_other (fun e3 => e2 (kl_inj e3)), h1]
  · by_cases e2 : j = k
    · subst e2; rw [upd_same] at hj; cases hj
    · rw [upd_other _ _ e2] at hj; rw [Maps.atKey_del_other (fun e3 => e2 (kl_inj e3)), h2 j x hj]
/-- The items of a part, and the others. -/
def partM (m : ByteArray → Option It) (p n : Int) : ByteArray → Option It := fun k => if partN k n = p then m k else none
def restM (m : ByteArray → Option It) (p n : Int) : ByteArray → Option It := fun k => if partN k n = p then none else m k

set_option maxRecDepth 100000 in
set_option maxHeartbeats 8000000 in
theorem impl_move (bo br no nr : Nat) (m : ByteArray → Option It) (p n : Int) (w : World) (ho : MapI w bo no (fun _ => none)) (hr : MapI w br nr m) (hne : bo ≠ br) (hn : no + nr ≤ 1099511627776) :
    Calls Try.prog 49 #[.map (some bo), .map (some br), .int .i64 p, .int .i64 n] w fun e w' => e = .returned (.tuple #[]) ∧ MapI w' bo (no + nr) (partM m p n) ∧ MapI w' br nr (restM m p n) ∧ Tw w w' bo br := by
  obtain ⟨w0, left0, cnt0, hrun0, hrg0, hl0, hg0, hs0⟩ := hr.range
  have hcl : cnt0 ≤ nr := by
    obtain ⟨D, h, _⟩ := hrg0
    obtain ⟨es, clock, since, seen, c0, hb, F, hs, hD, hi, hold, hc, rest⟩ := h
    rw [← hc]
    exact Nat.le_trans (by unfold leftOf; rw [← Array.length_toList, Array.toList_filter]; exact List.length_filter_le _ _) hs
  have HO := Lib.hid (ho.kept hg0 (by simp))
  have HR := Lib.hid hrg0
  have Hl0 := Lib.hid hl0
  have T0 : Hid (Tw w w0 bo br) := Lib.hid ((Tw.refl w bo br).step hg0 (fun j e => by cases e))
  have hbo := ho.lt
  have hbr := hr.lt
  clear hrg0 hl0 hg0
  go_enter Try.func49, Try.ntmps49
  go_wp2
  go_loopw [12] (fun _ wr => ∃ (left : Lit → Bool) (cnt nk : Nat) (mo mr : ByteArray → Option It), nk + cnt ≤ no + cnt0 ∧ Hid (RngI wr br w.heap.size nr mr left cnt) ∧ Hid (MapI wr bo nk mo) ∧ Hid (∀ k, left (kl k) = true → (m k).isSome = true) ∧ Hid (∀ k, mr k = if left (kl k) = false ∧ partN k n = p then none else m k) ∧ Hid (∀ k, mo k = if left (kl k) = false ∧ partN k n = p then m k else none) ∧ Hid (Tw w wr bo br)) (fun _ wr => wr.rangeLeft br w.heap.size)
  case atStart => exact ⟨left0, cnt0, no, _, m, by omega, HR, HO, Lib.hid (fun k h => by rw [← Hl0.out k]; exact h), Lib.hid (fun k => by
    by_cases h : left0 (kl k) = false ∧ partN k n = p
    · rw [if_pos h]; have := Hl0.out k; rw [h.1] at this; cases hm : m k with
      | none => rfl
      | some x => rw [hm] at this; cases this
    · rw [if_neg h]), Lib.hid (fun k => by
    by_cases h : left0 (kl k) = false ∧ partN k n = p
    · rw [if_pos h]; have := Hl0.out k; rw [h.1] at this; cases hm : m k with
      | none => rfl
      | some x => rw [hm] at this; cases this
    · rw [if_neg h]), T0⟩
  case round =>
    obtain ⟨left, cnt, nk, mo, mr, hnk, HR, HO, Hsub, Hmr, Hmo, T⟩ := hrel
    rcases HR.out.next 0 with ⟨h0, hlf, hnx⟩ | ⟨k, x, w1, cnt1, hmk, hlk, hk, hnx, hrg1, hlt, hg1, hs1, hen⟩
    · have e1 : mr = restM m p n := funext fun k => by rw [Hmr.out k]; unfold restM; simp [hlf]
      have e2 : mo = partM m p n := funext fun k => by rw [Hmo.out k]; unfold partM; simp [hlf]
      have F1 := Lib.hid (e1 ▸ HR.out.map)
      have F2 := Lib.hid (e2 ▸ HO.out.mono (by omega : nk ≤ no + nr))
      clear e1 e2 hlf HR HO
      go_wp2
      go_end0
      exact ⟨rfl, F2.out, F1.out, T.out⟩
    · have hrlt := HR.out.lt
      have hrne := HR.out.ne
      have hm : m k = some x := by
        have h := Hmr.out k
        rw [hmk, hlk, if_neg (by simp)] at h
        exact h.symm
      have HM := Lib.hid hm
      have Hk := Lib.hid hk
      have HO1 := Lib.hid (HO.out.kept hg1 (by simp; have := HO.out.lt; have := T.out.size; omega))
      have T1 : Hid (Tw w w1 bo br) := Lib.hid (T.out.step hg1 (fun j e => by cases e; exact .inr (.inr (Nat.le_refl _))))
      have HR1 := Lib.hid hrg1
      have hleft : ∀ j, (left (kl j) && !(kl j).sameKey (kl k)) = (left (kl j) && !decide (j = k)) := fun j => by rw [samek]
      have Hsub1 : Hid (∀ j, (left (kl j) && !(kl j).sameKey (kl k)) = true → (m j).isSome = true) := Lib.hid (fun j h => Hsub.out j (by simp at h; exact h.1))
      have Hleft := Lib.hid hleft
      have Hlk := Lib.hid hlk
      have Hml := Lib.hid (HR1.out.left_eq)
      have Hml0 := Lib.hid (HR.out.left_eq)
      obtain ⟨xk, xv⟩ := x
      unfold itA at hnx hen
      obtain ⟨X, hX⟩ : ∃ X, X = w1.alloc (.cells #[.string xk, .string xv] 74) := ⟨_, rfl⟩
      have bX : Below w1.heap.size w1 X := by rw [hX]; exact (Below.refl _ _).alloc (Nat.le_refl _) _
      have KX : Hid (X.heap[w1.heap.size]? = some (.cells #[.string xk, .string xv] 74 (0, 0))) := Lib.hid (by rw [hX]; exact heap_new _ _)
      have HRX := Lib.hid (HR1.out.later bX)
      have HOX := Lib.hid (HO1.out.later bX)
      have TX := Lib.hid (T1.out.below bX)
      obtain ⟨pk, hpk⟩ : ∃ q, q = partN k n := ⟨_, rfl⟩
      have Hpk := Lib.hid hpk
      clear hm hk hrg1 hg1 hmk hlk hleft bX hpk
      by_cases he : pk = p
      · have hq : (pk == p) = true := by simpa using he
        obtain ⟨w2, hput, HO2, g2⟩ := HOX.out.put (by unfold maxLen; omega) k ⟨xk, xv⟩ Hk.out
        have HR2 := Lib.hid (HRX.out.kept g2 (by simp; omega) (by simp; omega))
        obtain ⟨w3, cnt3, hdel, HR3, hc3, g3⟩ := HR2.out.drop k Hk.out 0
        rw [Maps.strike_twice] at HR3
        have HO3 := Lib.hid (HO2.kept g3 (by simp; omega))
        have HR4 := Lib.hid HR3
        have T3 : Hid (Tw w w3 bo br) := Lib.hid ((TX.out.step g2 (fun j e => by cases e; exact .inl rfl)).step g3 (fun j e => by cases e; exact .inr (.inl rfl)))
        have fX0 := tcr KX 0
        have fX1 := tcr KX 1
        unfold itA at hput
        rw [hX] at hput fX0 fX1
        clear HO2 HR3 g2 g3 hX
        have Hmr3 : Hid (∀ j, upd mr k none j = if (left (kl j) && !(kl j).sameKey (kl k)) = false ∧ partN j n = p then none else m j) := Lib.hid (fun j => by
          rw [Hleft.out j]
          by_cases e : j = k
          · subst e; rw [upd_same, if_pos ⟨by simp, by rw [← Hpk.out]; exact he⟩]
          · rw [upd_other _ _ e, Hmr.out j]; simp [e])
        have Hmo3 : Hid (∀ j, upd mo k (some ⟨xk, xv⟩) j = if (left (kl j) && !(kl j).sameKey (kl k)) = false ∧ partN j n = p then m j else none) := Lib.hid (fun j => by
          rw [Hleft.out j]
          by_cases e : j = k
          · subst e; rw [upd_same, if_pos ⟨by simp, by rw [← Hpk.out]; exact he⟩, HM.out]
          · rw [upd_other _ _ e, Hmo.out j]; simp [e])
        go_wp2_with (go_at_call 13; refine (impl_partOf _ _ _ Hk.out).mono ?_; rintro e w' ⟨rfl, rfl⟩; rw [← Hpk.out])
        go_roundw
        case rel => exact ⟨_, cnt3, nk + 1, _, _, by omega, HR4, HO3, Hsub1, Hmr3, Hmo3, T3⟩
        case measure => rw [HR4.out.left_eq, Hml0.out]; omega
      · have hq : (pk == p) = false := by simpa using he
        have Hmr3 : Hid (∀ j, mr j = if (left (kl j) && !(kl j).sameKey (kl k)) = false ∧ partN j n = p then none else m j) := Lib.hid (fun j => by
          rw [Hleft.out j]
          by_cases e : j = k
          · subst e; rw [if_neg (fun h => he (by rw [Hpk.out]; exact h.2)), Hmr.out j, if_neg (fun h => he (by rw [Hpk.out]; exact h.2))]
          · rw [Hmr.out j]; simp [e])
        have Hmo3 : Hid (∀ j, mo j = if (left (kl j) && !(kl j).sameKey (kl k)) = false ∧ partN j n = p then m j else none) := Lib.hid (fun j => by
          rw [Hleft.out j]
          by_cases e : j = k
          · subst e; rw [if_neg (fun h => he (by rw [Hpk.out]; exact h.2)), Hmo.out j, if_neg (fun h => he (by rw [Hpk.out]; exact h.2))]
          · rw [Hmo.out j]; simp [e])
        have HX := Lib.hid hX
        clear hX
        go_wp2_with (go_at_call 13; refine (impl_partOf _ _ _ Hk.out).mono ?_; rintro e w' ⟨rfl, rfl⟩; rw [← Hpk.out])
        rw [← HX.out]
        go_roundw
        case rel => exact ⟨_, cnt1, nk, _, _, by omega, HRX, HOX, Hsub1, Hmr3, Hmo3, TX⟩
        case measure => rw [HRX.out.left_eq, Hml0.out]; omega
end Go.Proofs.Ytebmaplflpfjbaa
