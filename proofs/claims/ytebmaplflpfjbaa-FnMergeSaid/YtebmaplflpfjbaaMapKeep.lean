/- The talks of a list taken into a map by client, the later one of two: keepLatest. Condition: names that a text may be. -/
import Derived.Test.YtebmaplflpfjbaaMapT
import Derived.Test.YtebmaplflpfjbaaBaseA
namespace Go.Proofs.Ytebmaplflpfjbaa
open Go.RowKit Go.Maps
set_option linter.unusedVariables false
set_option linter.unusedSimpArgs false

/-- One talk more. -/
def keep1 (m : ByteArray → Option Tk) (x : Tk) : ByteArray → Option Tk := match m x.c with
  | some y => if y.q < x.q then upd m x.c (some x) else m
  | none => upd m x.c (some x)
def keepM (m : ByteArray → Option Tk) (xs : List Tk) : ByteArray → Option Tk := xs.foldl keep1 m
theorem keep1_new {m : ByteArray → Option Tk} {x : Tk} (h : m x.c = none) : keep1 m x = upd m x.c (some x) := by unfold keep1; rw [h]
theorem keep1_more {m : ByteArray → Option Tk} {x y : Tk} (h : m x.c = some y) (hq : y.q < x.q) : keep1 m x = upd m x.c (some x) := by unfold keep1; rw [h]; exact if_pos hq
theorem keep1_old {m : ByteArray → Option Tk} {x y : Tk} (h : m x.c = some y) (hq : ¬ y.q < x.q) : keep1 m x = m := by unfold keep1; rw [h]; exact if_neg hq

set_option maxRecDepth 100000 in
set_option maxHeartbeats 8000000 in
theorem impl_keep (xs : List Tk) (v : Value) (B b n : Nat) (m : ByteArray → Option Tk) (w : World) (hm : MapT w b n m) (hr : Raw w B v xs.length (xs.flatMap tkC)) (hB : B ≤ b) (hn : n + xs.length ≤ 1099511627776) (hf : ∀ x ∈ xs, x.c.size ≤ maxLen) :
    Calls Try.prog 55 #[.map (some b), v] w fun e w' => e = .returned (.tuple #[]) ∧ (∃ n', n' ≤ n + xs.length ∧ MapT w' b n' (keepM m xs)) ∧ w.grownBy w' (some b) := by
  obtain ⟨a, cap, rfl, hnc, hcap, _, hat⟩ := hr
  have hbl := hm.lt
  obtain ⟨l, hL⟩ : ∃ l, l = xs.length := ⟨_, rfl⟩
  rw [← hL] at hnc hat hn ⊢
  have HL := Lib.hid hL
  have Hat := Lib.hid hat
  have Hf := Lib.hid hf
  have HM := Lib.hid hm
  unfold maxLen at hcap
  clear hL hat hf hm
  go_enter Try.func55, Try.ntmps55
  go_wp2
  go_loopw [10] (fun i wr => ∃ (k nk : Nat) (mk : ByteArray → Option Tk), k ≤ l ∧ i = .int .i64 k ∧ nk ≤ n + k ∧ Hid (MapT wr b nk mk) ∧ Hid (keepM m xs = keepM mk (xs.drop k)) ∧ Hid (w.grownBy wr (some b))) (fun i _ => l - (intOf i).toNat)
  case atStart => exact ⟨0, n, m, Nat.zero_le _, rfl, Nat.le_refl _, HM, Lib.hid (by rw [List.drop_zero]), Lib.hid (grown_of_below (Below.refl _ _) _)⟩
  case round =>
    obtain ⟨k, nk, mk, hk, rfl, hnk, HK, Hadd, GB⟩ := hrel
    by_cases hlt : k < l
    · obtain ⟨g, o, ha, hg, hAt⟩ := Hat.out (by omega)
      subst ha
      have hkl : k < xs.length := by have := HL.out; omega
      obtain ⟨x, hx⟩ : ∃ x, x = xs[k] := ⟨_, rfl⟩
      have Hxk := Lib.hid (Hf.out x (by rw [hx]; exact List.getElem_mem _))
      have hgl : g < w.heap.size := by omega
      have hc := hAt.talk k hkl
      rw [← hx] at hc
      have Hnext : Hid (keepM m xs = keepM (keep1 mk x) (xs.drop (k + 1))) := Lib.hid (by rw [Hadd.out, List.drop_eq_getElem_cons hkl, ← hx]; rfl)
      have hcc : wr.cell? ⟨g, o + k * 3, none⟩ = some (.string x.c) ∧ wr.cell? ⟨g, o + k * 3 + 1, none⟩ = some (.int .i64 x.q) ∧ wr.cell? ⟨g, o + k * 3 + 2, none⟩ = some (.string x.r) := by
        have e := GB.out.block g hgl (by simp; omega)
        exact ⟨(World.cell?_of_block e).trans hc.1, (World.cell?_of_block e).trans hc.2.1, (World.cell?_of_block e).trans hc.2.2⟩
      obtain ⟨hc0, hc1, hc2⟩ := hcc
      have hlt' : (k : Int) < (l : Int) := by omega
      obtain ⟨A, hA⟩ : ∃ A, A = wr.alloc (.cells #[.string x.c, .int .i64 x.q, .string x.r] 45) := ⟨_, rfl⟩
      have bA : Below wr.heap.size wr A := by rw [hA]; exact (Below.refl _ _).alloc (Nat.le_refl _) _
      have KA : Hid (A.heap[wr.heap.size]? = some (.cells #[.string x.c, .int .i64 x.q, .string x.r] 45 (0, 0))) := Lib.hid (by rw [hA]; exact heap_new _ _)
      have LA : Hid (wr.heap.size < A.heap.size) := Lib.hid (by rw [hA]; simp)
      have hne : Hid (some wr.heap.size ≠ some b) := Lib.hid (by have := GB.out.size; simp; omega)
      have KM := Lib.hid (HK.out.later bA)
      have GA : Hid (w.grownBy A (some b)) := Lib.hid (GB.out.trans (grown_of_below bA _))
      have hlook := KM.out.look x.c Hxk.out
      have fA0 := tcr KA 0
      rw [hA] at hlook fA0
      clear hx hAt hc
      cases hmk : mk x.c with
      | none =>
        rw [hmk] at hlook
        simp only [Option.getD_none, Option.isSome_none] at hlook
        unfold tkA at hlook
        rw [keep1_new hmk] at Hnext
        clear hmk
        obtain ⟨X, hX⟩ : ∃ X, X = A.alloc (.cells #[.string ⟨#[]⟩, .int .i64 0, .string ⟨#[]⟩] 45) := ⟨_, rfl⟩
        have bX : Below A.heap.size A X := by rw [hX]; exact (Below.refl _ _).alloc (Nat.le_refl _) _
        have KX := tkb bX LA KA
        have KMX := Lib.hid (KM.out.later bX)
        have GX : Hid (w.grownBy X (some b)) := Lib.hid (GA.out.trans (grown_of_below bX _))
        have fX0 := tcr KX 0
        have fX1 := tcr KX 1
        have fX2 := tcr KX 2
        obtain ⟨w3, hrun, KM3, g3⟩ := KMX.out.put (by unfold maxLen; omega) x.c x Hxk.out
        have KM4 := Lib.hid KM3
        have G4 : Hid (w.grownBy w3 (some b)) := Lib.hid (GX.out.trans g3)
        unfold tkA at hrun
        rw [hX, hA] at fX0 fX1 fX2 hrun
        clear KM3 g3 bX hX hA bA
        go_wp2_with fail
        go_roundw
        case rel => exact ⟨k + 1, nk + 1, _, by omega, by go_num, by omega, KM4, Hnext, G4⟩
        case measure => simp [intOf]; omega
      | some y =>
        rw [hmk] at hlook
        simp only [Option.getD_some, Option.isSome_some] at hlook
        by_cases hq : y.q < x.q
        · rw [keep1_more hmk hq] at Hnext
          obtain ⟨yc, yq, yr⟩ := y
          unfold tkA at hlook
          clear hmk
          obtain ⟨X, hX⟩ : ∃ X, X = A.alloc (.cells #[.string yc, .int .i64 yq, .string yr] 45) := ⟨_, rfl⟩
          have bX : Below A.heap.size A X := by rw [hX]; exact (Below.refl _ _).alloc (Nat.le_refl _) _
          have KX := tkb bX LA KA
          have KY : Hid (X.heap[A.heap.size]? = some (.cells #[.string yc, .int .i64 yq, .string yr] 45 (0, 0))) := Lib.hid (by rw [hX]; exact heap_new _ _)
          have KMX := Lib.hid (KM.out.later bX)
          have GX : Hid (w.grownBy X (some b)) := Lib.hid (GA.out.trans (grown_of_below bX _))
          have fX0 := tcr KX 0
          have fX1 := tcr KX 1
          have fX2 := tcr KX 2
          have fY1 := tcr KY 1
          obtain ⟨w3, hrun, KM3, g3⟩ := KMX.out.put (by unfold maxLen; omega) x.c x Hxk.out
          have KM4 := Lib.hid KM3
          have G4 : Hid (w.grownBy w3 (some b)) := Lib.hid (GX.out.trans g3)
          unfold tkA at hrun
          have sA : A.heap.size = wr.heap.size + 1 := by rw [hA]; simp
          rw [sA] at fY1
          rw [hX, hA] at fX0 fX1 fX2 fY1 hrun
          clear KM3 g3 bX KY hX hA bA sA
          go_wp2_with fail
          go_roundw
          case rel => exact ⟨k + 1, nk + 1, _, by omega, by go_num, by omega, KM4, Hnext, G4⟩
          case measure => simp [intOf]; omega
        · rw [keep1_old hmk hq] at Hnext
          obtain ⟨yc, yq, yr⟩ := y
          unfold tkA at hlook
          clear hmk
          obtain ⟨X, hX⟩ : ∃ X, X = A.alloc (.cells #[.string yc, .int .i64 yq, .string yr] 45) := ⟨_, rfl⟩
          have bX : Below A.heap.size A X := by rw [hX]; exact (Below.refl _ _).alloc (Nat.le_refl _) _
          have KX := tkb bX LA KA
          have KY : Hid (X.heap[A.heap.size]? = some (.cells #[.string yc, .int .i64 yq, .string yr] 45 (0, 0))) := Lib.hid (by rw [hX]; exact heap_new _ _)
          have KMX := Lib.hid (KM.out.later bX)
          have GX : Hid (w.grownBy X (some b)) := Lib.hid (GA.out.trans (grown_of_below bX _))
          have fX1 := tcr KX 1
          have fY1 := tcr KY 1
          have HX := Lib.hid hX
          have HAh := Lib.hid hA
          have sA : A.heap.size = wr.heap.size + 1 := by rw [hA]; simp
          rw [sA] at fY1
          rw [hX, hA] at fX1 fY1
          clear bX KY hX hA bA sA
          go_wp2_with fail
          rw [← HAh.out, ← HX.out]
          go_roundw
          case rel => exact ⟨k + 1, nk, _, by omega, by go_num, by omega, KMX, Hnext, GX⟩
          case measure => simp [intOf]; omega
    · have hlt' : ¬ (k : Int) < (l : Int) := by omega
      have hres : Hid (keepM m xs = mk) := Lib.hid (by rw [Hadd.out, List.drop_of_length_le (by have := HL.out; omega)]; rfl)
      go_wp2
      go_end0
      exact ⟨rfl, ⟨nk, by omega, by rw [hres.out]; exact HK.out⟩, GB.out⟩
end Go.Proofs.Ytebmaplflpfjbaa
