/- What the program's Scan answers. Condition: a text of at most 2^40 bytes. -/
import Derived.Test.YtkkmjlpeahkiaaaImplScan
import Derived.Test.YtkkmjlpeahkiaaaSpecRec
import Derived.Test.YtkkmjlpeahkiaaaSplitPlain
import Derived.WalkKit
import Derived.WalkSpells
import Derived.WalkLawsBesides
import Derived.LoopTactic
import Derived.Lib.Hide
namespace Go.Proofs.Ytkkmjlpeahkiaaa
open Go.RowKit
set_option linter.unusedVariables false
set_option linter.unusedSimpArgs false

set_option maxRecDepth 100000 in
set_option maxHeartbeats 4000000 in
theorem impl_scan (t : ByteArray) (w : World) (ht : t.size ≤ 1099511627776) :
    Calls Try.prog 33 #[.string t] w fun e w' => ∃ v, e = .returned (.tuple #[v, .int .i64 ((scanS t).2 : Nat)]) ∧ Texts w' w.heap.size v (scanS t).1 ∧ Below w.heap.size w w' := by
  obtain ⟨i0, hi, hz0, hz1, hz2⟩ := info_parts infoTxt
  have hmf : ∀ (fn : Fn) (first cap : Array Value) (w : World), (Instr.makeFunc fn first cap).run Try.prog w = .ok (.func fn first cap) w := fun _ _ _ _ => rfl
  go_enter_defers Try.func33, Try.ntmps33
  go_wp2_with fail
  go_loopw [2, 3] (fun out i wr => ∃ (p : Nat) (xs : List ByteArray), i = .int .i64 p ∧ p ≤ t.size ∧ Texts wr (w.heap.size + 1) out xs ∧ Hid (ScanUp t xs p) ∧ Hid (wr.heap[w.heap.size]? = some (.cells #[.string (t.extract p t.size)] 65 (0, 0))) ∧ Below w.heap.size w wr ∧ w.heap.size < wr.heap.size) (fun _ i _ => t.size - (intOf i).toNat)
  case atStart => exact ⟨0, [], rfl, Nat.zero_le _, Texts.nil _ _, Lib.hid (ScanUp.start t), Lib.hid (by rw [show t.extract 0 t.size = t by simp]; exact heap_new _ _), (Below.refl _ _).alloc (Nat.le_refl _) _, by simp⟩
  case round =>
    obtain ⟨p, xs, rfl, hp, hrow, hS, HJ, hB, hlt⟩ := hrel
    have hz : (t.extract p t.size).size = t.size - p := by rw [ByteArray.size_extract]; omega
    obtain ⟨f1, f2, f3⟩ := ent_from t p hp
    have fJ := tcr HJ 0
    have HROW := Lib.hid hrow
    have HB := Lib.hid hB
    have HLT := Lib.hid hlt
    clear hrow hB hlt
    by_cases hend : t.size - p = 0
    · have hem := (isEmpty_yes (hz.trans hend)).1
      have HR := Lib.hid (hS.out.ends (by rw [Bool.eq_false_iff]; intro hq; have := ent_end hq; omega))
      obtain ⟨r, hr⟩ : ∃ r, r = t.extract p t.size := ⟨_, rfl⟩
      rw [← hr] at hem fJ
      clear f1 f2 f3 hr hz hS HJ
      go_wp2_with fail
      refine leaves_cons (f := 62) (args := #[]) (by simp) (by simp [go_sem]) ?_
      refine (scan_idle _).mono ?_
      rintro e u' w2 ⟨rfl, rfl, rfl⟩
      exact ⟨.tuple #[u2, .int .i64 p], by simp [results, Try.results33, go_sem], u2, by rw [HR.out], by rw [HR.out]; exact textsD_lower HROW.out (by omega), HB.out⟩
    · have hem := isEmpty_no (fun h => hend (hz.symm.trans h))
      by_cases hq : entOk t p = true
      · have hc := entry_yes (t.extract p t.size) w.heap.size _ wr HJ.out (by omega) (f1.trans hq)
        obtain ⟨g1, g2⟩ := f3 hq
        obtain ⟨e1, e2, e3, e4, e5⟩ := ent_end hq
        have hS2 := Lib.hid (hS.out.step hq)
        have hl2 := hS2.out.len
        rw [f2, g2] at hc
        obtain ⟨A, hA⟩ : ∃ z, z = entAt t p := ⟨_, rfl⟩
        obtain ⟨M, hM⟩ : ∃ z, z = entEnd t p := ⟨_, rfl⟩
        rw [← hA, ← hM] at hc
        rw [← hA] at hS2 hl2
        rw [← hM] at e2 e3 hS2
        clear hA hM hS hq e1 e4 e5 g1 g2 f1 f2 f3
        have hzM : (t.extract M t.size).size = t.size - M := by rw [ByteArray.size_extract]; omega
        rw [List.length_append] at hl2
        have hl3 : xs.length + 1 ≤ t.size := hl2
        clear hl2
        obtain ⟨r, hr⟩ : ∃ r, r = t.extract p t.size := ⟨_, rfl⟩
        rw [← hr] at hem fJ
        obtain ⟨R, hR⟩ : ∃ r, r = t.extract M t.size := ⟨_, rfl⟩
        have HR := Lib.hid hR
        rw [← hR] at hc hzM
        clear hr hR hz HJ hend
        have hw : IntKind.i64.wrap ((t.size : Int) - (R.size : Int)) = (M : Int) := by rw [IntKind.wrap_i64]; omega
        have HZ := Lib.hid hzM
        clear hzM
        go_wp2_with (go_at_call 63; refine hc.mono ?_; rintro e w1 ⟨rfl, h1, hg⟩; refine Hid.out ?_)
        refine Lib.hid ?_
        have hrow := textsD_kept HROW.out hg (Nat.lt_succ_self _)
        have KJ := Lib.hid h1
        have hsz := hg.size
        have hlt := Lib.hid (Nat.lt_of_lt_of_le HLT.out hsz)
        have HB2 := Lib.hid (below_grown HB.out hg (Nat.le_refl _) HB.out.size)
        have hown := hrow.own
        have hlt' := hlt.out
        clear hc h1 hg HROW HB HLT hsz
        go_wp2_with (at_builtin; refine wpList_append_own _ rfl _ _ 38 rfl (w.heap.size + 1) 9 i0 (.string ⟨#[]⟩) 1 16 Try.underlying38 hi hz0 hz1 hz2 rfl (by decide) _ _ _ rfl (World.ownsRow.alloc hrow _) ⟨_, 0, none⟩ 1 1 [.string A] rfl rfl (cell_one_new _ _ _) (by simp [Value.oneCell']) (by unfold maxLen; omega) (by omega) (by simp; omega) ?_; intro v' w3 hown' hgrow _; refine Hid.out ?_)
        refine Lib.hid ?_
        have K3 : Hid (w3.heap[w.heap.size]? = some (.cells #[.string R] 65 (0, 0))) := Lib.hid ((hgrow.block w.heap.size (by simp; omega) (fun h => by have := hown _ h.symm; omega)).trans ((Below.heap_alloc _ _ _ hlt').trans KJ.out))
        have fJ3 := tcr K3 0
        have HB3 := Lib.hid (Texts.grown (textsD_lower hrow (Nat.le_succ _)) HB2.out HB2.out.size hgrow)
        have hs3 : w.heap.size < w3.heap.size := by have := hgrow.size; simp at this; omega
        have HT := Lib.hid (Texts.snoc hown')
        clear hgrow hown' hrow KJ HB2 hown hlt hlt'
        go_wp2_with fail
        go_roundw
        case rel => exact ⟨M, xs ++ [A], rfl, e3, HT.out, hS2, by rw [← HR.out]; exact K3, HB3.out, hs3⟩
        case measure => simp [intOf]; omega
      · have hc := entry_no (t.extract p t.size) w.heap.size _ wr HJ.out (by omega) (f1.trans (Bool.eq_false_iff.2 hq))
        have HR := Lib.hid (hS.out.ends (Bool.eq_false_iff.2 hq))
        obtain ⟨r, hr⟩ : ∃ r, r = t.extract p t.size := ⟨_, rfl⟩
        rw [← hr] at hem fJ
        clear f1 f2 f3 hr hz hS HJ hq hend
        go_wp2_with (go_at_call 63; refine hc.mono ?_; rintro e w1 ⟨rfl, hg⟩; refine Hid.out ?_)
        refine Lib.hid ?_
        have HROW2 := Lib.hid (textsD_kept HROW.out hg (Nat.lt_succ_self _))
        have HB2 := Lib.hid (below_grown HB.out hg (Nat.le_refl _) HB.out.size)
        clear hc hg HROW HB
        go_wp2_with fail
        refine leaves_cons (f := 62) (args := #[]) (by simp) (by simp [go_sem]) ?_
        refine (scan_catch _).mono ?_
        rintro e u' w2 ⟨rfl, rfl, rfl⟩
        exact ⟨.tuple #[u2, .int .i64 p], by simp [results, Try.results33, go_sem], u2, by rw [HR.out], by rw [HR.out]; exact textsD_lower HROW2.out (by omega), HB2.out⟩
end Go.Proofs.Ytkkmjlpeahkiaaa
