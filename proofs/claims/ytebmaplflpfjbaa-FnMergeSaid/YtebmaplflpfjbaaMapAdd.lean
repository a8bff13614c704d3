/- The rows of a list added to a map by name: true if none was there. Condition: names that a text may be. -/
import Derived.Test.YtebmaplflpfjbaaMapI
import Derived.Test.YtebmaplflpfjbaaImplRow
import Derived.Test.YtebmaplflpfjbaaBaseA
import Derived.Deep.RegionHeld
namespace Go.Proofs.Ytebmaplflpfjbaa
open Go.RowKit Go.Maps
set_option linter.unusedVariables false
set_option linter.unusedSimpArgs false

def addM (m : ByteArray → Option It) : List It → Bool × (ByteArray → Option It)
  | [] => (true, m)
  | x :: xs => if (m x.k).isSome = true then (false, m) else addM (upd m x.k (some x)) xs

set_option maxRecDepth 100000 in
set_option maxHeartbeats 8000000 in
theorem impl_addI (xs : List It) (v : Value) (B b n : Nat) (m : ByteArray → Option It) (w : World) (hm : MapI w b n m) (hr : Raw w B v xs.length (xs.flatMap itC)) (hB : B ≤ b) (hn : n + xs.length ≤ 1099511627776) (hf : ∀ x ∈ xs, x.k.size ≤ maxLen) :
    Calls Try.prog 48 #[.map (some b), v] w fun e w' => e = .returned (.bool (addM m xs).1) ∧ (∃ n', n' ≤ n + xs.length ∧ MapI w' b n' (addM m xs).2) ∧ w.grownBy w' (some b) := by
  obtain ⟨a, cap, rfl, hnc, hcap, _, hat⟩ := hr
  have hbl := hm.lt
  obtain ⟨l, hL⟩ : ∃ l, l = xs.length := ⟨_, rfl⟩
  rw [← hL] at hnc hat hn ⊢
  have HL := Lib.hid hL
  have Hat := Lib.hid hat
  have Hf := Lib.hid hf
  have HM := Lib.hid hm
  have mN := meth_nameI
  unfold maxLen at hcap
  clear hL hat hf hm
  go_enter Try.func48, Try.ntmps48
  go_wp2
  go_loopw [11] (fun i wr => ∃ (k nk : Nat) (mk : ByteArray → Option It), k ≤ l ∧ i = .int .i64 k ∧ nk ≤ n + k ∧ Hid (MapI wr b nk mk) ∧ Hid (addM m xs = addM mk (xs.drop k)) ∧ Hid (w.grownBy wr (some b))) (fun i _ => l - (intOf i).toNat)
  case atStart => exact ⟨0, n, m, Nat.zero_le _, rfl, Nat.le_refl _, HM, Lib.hid (by rw [List.drop_zero]), Lib.hid (grown_of_below (Below.refl _ _) _)⟩
  case round =>
    obtain ⟨k, nk, mk, hk, rfl, hnk, HK, Hadd, GB⟩ := hrel
    by_cases hlt : k < l
    · obtain ⟨g, o, ha, hg, hAt⟩ := Hat.out (by omega)
      subst ha
      have hkl : k < xs.length := by have := HL.out; omega
      obtain ⟨x, hx⟩ : ∃ x, x = xs[k] := ⟨_, rfl⟩
      have Hxk := Lib.hid (Hf.out x (by rw [hx]; exact List.getElem_mem _))
      have hgl : g < w.heap.size := by omega
      have hc := hAt.item k hkl
      rw [← hx] at hc
      have Hdrop : Hid (xs.drop k = x :: xs.drop (k + 1)) := Lib.hid (by rw [List.drop_eq_getElem_cons hkl, hx])
      have hcc : wr.cell? ⟨g, o + k * 2, none⟩ = some (.string x.k) ∧ wr.cell? ⟨g, o + k * 2 + 1, none⟩ = some (.string x.v) := by
        have e := GB.out.block g hgl (by simp; omega)
        exact ⟨(World.cell?_of_block e).trans hc.1, (World.cell?_of_block e).trans hc.2⟩
      obtain ⟨hc0, hc1⟩ := hcc
      have hlt' : (k : Int) < (l : Int) := by omega
      obtain ⟨A, hA⟩ : ∃ A, A = wr.alloc (.cells #[.string x.k, .string x.v] 74) := ⟨_, rfl⟩
      have bA : Below wr.heap.size wr A := by rw [hA]; exact (Below.refl _ _).alloc (Nat.le_refl _) _
      have KA : Hid (A.heap[wr.heap.size]? = some (.cells #[.string x.k, .string x.v] 74 (0, 0))) := Lib.hid (by rw [hA]; exact heap_new _ _)
      have LA : Hid (wr.heap.size < A.heap.size) := Lib.hid (by rw [hA]; simp)
      have KM := Lib.hid (HK.out.later bA)
      have GA : Hid (w.grownBy A (some b)) := Lib.hid (GB.out.trans (grown_of_below bA _))
      have hcn := impl_nameI x A
      unfold itA at hcn
      have fA0 := tcr KA 0
      have fA1 := tcr KA 1
      rw [hA] at hcn fA0 fA1
      clear hx hAt hc bA
      go_wp2_with (go_at_call 140; refine hcn.mono ?_; rintro e w1 ⟨rfl, hb1⟩; refine Hid.out ?_)
      refine Lib.hid ?_
      rw [← hA] at hb1
      replace KA := tkb hb1 LA KA
      replace KM := Lib.hid (KM.out.later hb1)
      replace GA := Lib.hid (GA.out.trans (grown_of_below hb1 _))
      replace LA := tlz LA hb1.size
      have hlook := KM.out.look x.k Hxk.out
      clear hcn hA hb1 fA0 fA1
      cases hmk : mk x.k with
      | some y =>
        rw [hmk] at hlook
        have hres : Hid ((addM m xs).1 = false ∧ (addM m xs).2 = mk) := Lib.hid (by rw [Hadd.out, Hdrop.out]; unfold addM; rw [hmk]; exact ⟨rfl, rfl⟩)
        obtain ⟨yk, yv⟩ := y
        simp only [Option.getD_some, Option.isSome_some] at hlook
        unfold itA at hlook
        obtain ⟨X, hX⟩ : ∃ X, X = w1.alloc (.cells #[.string yk, .string yv] 74) := ⟨_, rfl⟩
        have bX : Below w1.heap.size w1 X := by rw [hX]; exact (Below.refl _ _).alloc (Nat.le_refl _) _
        have KM2 := Lib.hid (KM.out.later bX)
        have GX : Hid (w.grownBy X (some b)) := Lib.hid (GA.out.trans (grown_of_below bX _))
        have HX := Lib.hid hX
        clear bX hX hmk
        go_wp2_with fail
        go_ret
        exact ⟨ret_bool hres.out.1.symm, ⟨nk, by omega, by rw [hres.out.2, ← HX.out]; exact KM2.out⟩, by rw [← HX.out]; exact GX.out⟩
      | none =>
        rw [hmk] at hlook
        have hnext : Hid (addM m xs = addM (upd mk x.k (some x)) (xs.drop (k + 1))) := Lib.hid (by
          rw [Hadd.out, Hdrop.out]
          show (if (mk x.k).isSome = true then _ else _) = _
          rw [hmk]; rfl)
        simp only [Option.getD_none, Option.isSome_none] at hlook
        unfold itA at hlook
        obtain ⟨X, hX⟩ : ∃ X, X = w1.alloc (.cells #[.string ⟨#[]⟩, .string ⟨#[]⟩] 74) := ⟨_, rfl⟩
        have bX : Below w1.heap.size w1 X := by rw [hX]; exact (Below.refl _ _).alloc (Nat.le_refl _) _
        replace KA := tkb bX LA KA
        replace KM := Lib.hid (KM.out.later bX)
        replace GA := Lib.hid (GA.out.trans (grown_of_below bX _))
        replace LA := tlz LA bX.size
        clear bX hmk
        go_wp2_with fail
        rw [← hX]
        clear hlook hX
        obtain ⟨zD, hzD⟩ : ∃ z, z = X.drew := ⟨_, rfl⟩
        have bD : Below X.heap.size X zD := by rw [hzD]; exact (Below.refl _ _).drew
        replace KA := tkb bD LA KA
        replace KM := Lib.hid (KM.out.later bD)
        replace GA := Lib.hid (GA.out.trans (grown_of_below bD _))
        replace LA := tlz LA bD.size
        have hne : Hid (some wr.heap.size ≠ some b) := Lib.hid (by have := GB.out.size; simp; omega)
        refine wp_region_held_drew (S := (fun w' => w'.cell? ⟨wr.heap.size, 0, none⟩ = some (.string x.k) ∧ w'.cell? ⟨wr.heap.size, 1, none⟩ = some (.string x.v))) (by kernel_rfl) (by rw [← hzD]; exact ⟨tcr KA 0, tcr KA 1⟩) (fun hHeld => ?_)
        rw [← hzD] at hHeld ⊢
        clear bD hzD
        refine tk0 0 ?_
        refine tk 1 (v := ?_) ?_ ?_; rotate_left
        · refine Or.inl ⟨by rfl, ?_⟩; intro w hSw; obtain ⟨f0, f1⟩ := hSw; go_simp; first | done | with_reducible rfl
        refine tk0 2 ?_
        refine tk 4 (v := ?_) ?_ ?_; rotate_left
        · refine Or.inl ⟨by rfl, ?_⟩; intro w hSw; obtain ⟨f0, f1⟩ := hSw; go_simp; first | done | with_reducible rfl
        refine rd1 3 (fun K hK => ?_)
        go_simp
        have hcn := impl_nameI x zD
        unfold itA at hcn
        go_at_call 140
        refine hcn.mono ?_
        rintro e w2 ⟨rfl, hb2⟩
        replace KA := tkb hb2 LA KA
        replace KM := Lib.hid (KM.out.later hb2)
        replace GA := Lib.hid (GA.out.trans (grown_of_below hb2 _))
        replace LA := tlz LA hb2.size
        clear hcn hb2
        go_wp2_with fail
        refine hK.out _ _ ⟨tcr KA 0, tcr KA 1⟩ (fun hHeld => ?_)
        clear hK K
        obtain ⟨w3, hrun, KM3, g3⟩ := KM.out.put (by unfold maxLen; omega) x.k x Hxk.out
        replace KA := tkg g3 LA KA hne.out
        replace GA := Lib.hid (GA.out.trans g3)
        have KM4 := Lib.hid KM3
        unfold itA at hrun
        clear KM3 g3 KM
        refine rd1 5 (fun K hK => ?_)
        go_simp
        refine hK.out _ _ ⟨tcr KA 0, tcr KA 1⟩ (fun hHeld => ?_)
        clear hK K hrun
        refine wpAnyH_done (by kernel_rfl) ?_ _
        clear hHeld
        go_wp2_with fail
        go_roundw
        case rel => exact ⟨k + 1, nk + 1, _, by omega, by go_num, by omega, KM4, hnext, GA⟩
        case measure => simp [intOf]; omega
    · have hlt' : ¬ (k : Int) < (l : Int) := by omega
      have hres : Hid (addM m xs = (true, mk)) := Lib.hid (by rw [Hadd.out, List.drop_of_length_le (by have := HL.out; omega)]; rfl)
      go_wp2
      go_ret
      exact ⟨ret_bool (by rw [hres.out]), ⟨nk, by omega, by rw [hres.out]; exact HK.out⟩, GB.out⟩
end Go.Proofs.Ytebmaplflpfjbaa
