/- What the model's Scan and Recover answer. Condition: a text of at most 2^40 bytes; a Disk of a small size. -/
import Derived.Test.YtkkmjlpeahkiaaaSpecDsk
import Derived.Test.YtkkmjlpeahkiaaaSplitPlain
import Derived.Test.YtkkmjlpeahkiaaaTk
import Derived.WalkKit
import Derived.WalkSpells
import Derived.WalkLawsBesides
import Derived.LoopTactic
import Derived.Lib.Hide
namespace Go.Proofs.Ytkkmjlpeahkiaaa
open Go.RowKit
set_option linter.unusedVariables false
set_option linter.unusedSimpArgs false

theorem text_smallD (s : ByteArray) (p : Int) : (getTextB s p).1.size ≤ s.size := by
  unfold getTextB
  split
  · show (ByteArray.mk #[]).size ≤ _; exact Nat.zero_le _
  · show (s.extract _ _).size ≤ _; rw [ByteArray.size_extract]; omega
theorem infoTxt : (Try.prog.info? 9).map (fun i => (i.zero, i.size, i.bytes)) = some (some (.string ⟨#[]⟩), 1, 16) := by kernel_rfl
/-- How far a scan has come. -/
def ScanUp (t : ByteArray) (xs : List ByteArray) (p : Nat) : Prop := scanS t = (xs ++ (scanA t p).1, (scanA t p).2)
theorem ScanUp.start (t : ByteArray) : ScanUp t [] 0 := rfl
theorem ScanUp.step {t : ByteArray} {xs : List ByteArray} {p : Nat} (h : ScanUp t xs p) (hq : entOk t p = true) : ScanUp t (xs ++ [entAt t p]) (entEnd t p) := by
  unfold ScanUp at h ⊢
  rw [h, scan_yes hq]
  simp
theorem ScanUp.ends {t : ByteArray} {xs : List ByteArray} {p : Nat} (h : ScanUp t xs p) (hq : entOk t p = false) : scanS t = (xs, p) := by
  unfold ScanUp at h
  rw [h, scan_no hq]
  simp
theorem ScanUp.len {t : ByteArray} {xs : List ByteArray} {p : Nat} (h : ScanUp t xs p) : xs.length ≤ t.size := by
  have h2 := scan_len (t := t) 0
  unfold ScanUp at h
  have h3 : scanA t 0 = _ := h
  rw [h3] at h2
  dsimp only at h2
  rw [List.length_append] at h2
  omega
set_option maxRecDepth 100000 in
set_option maxHeartbeats 4000000 in
theorem spec_scan (t : ByteArray) (w : World) (ht : t.size ≤ 1099511627776) :
    Calls Try.prog 32 #[.string t] w fun e w' => ∃ v, e = .returned (.tuple #[v, .int .i64 ((scanS t).2 : Nat)]) ∧ Texts w' w.heap.size v (scanS t).1 ∧ Below w.heap.size w w' := by
  obtain ⟨i0, hi, hz0, hz1, hz2⟩ := info_parts infoTxt
  have kg := fun (p : Nat) (hp : p ≤ t.size) w => spec_getText t p (by omega) w ht
  have ko := fun (E : ByteArray) (hE : E.size ≤ 1099511627776) w => spec_opened E w hE
  go_enter Try.func32, Try.ntmps32
  go_wp2_with fail
  go_loopw [4, 5] (fun out i wr => ∃ (p : Nat) (xs : List ByteArray), i = .int .i64 p ∧ p ≤ t.size ∧ Texts wr w.heap.size out xs ∧ Hid (ScanUp t xs p) ∧ Below w.heap.size w wr) (fun _ i _ => t.size - (intOf i).toNat)
  case atStart => exact ⟨0, [], rfl, Nat.zero_le _, Texts.empty _ _ (Nat.le_refl _), Lib.hid (ScanUp.start t), (Below.refl _ _).alloc (Nat.le_refl _) _⟩
  case round =>
    obtain ⟨p, xs, rfl, hp, hrow, hS, hB⟩ := hrel
    have hc := kg p hp wr
    have hsm := text_smallD t p
    have HQ := Lib.hid (show entOk t p = (openB (getTextB t p).1).2 from rfl)
    have HA := Lib.hid (show entAt t p = (openB (getTextB t p).1).1 from rfl)
    have HE := Lib.hid (@ent_end t p)
    obtain ⟨E, hE⟩ : ∃ z, z = (getTextB t p).1 := ⟨_, rfl⟩
    obtain ⟨N, hN⟩ : ∃ z, z = (getTextB t p).2 := ⟨_, rfl⟩
    rw [← hE, ← hN] at hc
    rw [← hE] at HQ HA hsm
    rw [← hN] at HE
    clear hE hN
    have hrow := Lib.hid hrow
    have HB := Lib.hid hB
    clear hB
    go_wp2_with (go_at_call 60; refine hc.mono ?_; rintro e w1 ⟨rfl, rfl⟩; refine Hid.out ?_)
    refine Lib.hid ?_
    clear hc
    have hc := fun w => ko E (by omega) w
    by_cases hq : entOk t p = true
    · obtain ⟨e1, e2, e3, e4, e5⟩ := HE.out hq
      have hS2 := Lib.hid (hS.out.step hq)
      have hl2 := hS2.out.len
      clear HE hS e4 e5
      rw [← HA.out, ← HQ.out, hq] at hc
      obtain ⟨A, hA⟩ : ∃ z, z = entAt t p := ⟨_, rfl⟩
      obtain ⟨M, hM⟩ : ∃ z, z = entEnd t p := ⟨_, rfl⟩
      rw [← hA] at hc hS2 hl2
      rw [← hM] at e1 e2 e3 hS2
      clear hA hM HA HQ hq
      subst e1
      rw [List.length_append] at hl2
      have hl3 : xs.length + 1 ≤ t.size := hl2
      clear hl2
      go_wp2_with (go_at_call 61; refine (hc _).mono ?_; rintro e w2 ⟨rfl, hb2⟩; refine Hid.out ?_)
      refine Lib.hid ?_
      replace hrow := hrow.out.later hb2
      replace HB := tbt HB hb2
      have hsz := HB.out.size
      clear hc hb2 kg ko
      go_wp2_with (at_builtin; refine wpList_append_own _ rfl _ _ 38 rfl w.heap.size 9 i0 (.string ⟨#[]⟩) 1 16 Try.underlying38 hi hz0 hz1 hz2 rfl (by decide) _ _ _ rfl (World.ownsRow.alloc hrow _) ⟨_, 0, none⟩ 1 1 [.string A] rfl rfl (cell_one_new _ _ _) (by simp [Value.oneCell']) (by unfold maxLen; omega) (by omega) (by simp; omega) ?_; intro v' w3 hown' hgrow _)
      go_roundw
      case rel => exact ⟨M, xs ++ [A], rfl, e3, Texts.snoc hown', hS2, hrow.grown HB.out hsz hgrow⟩
      case measure => simp [intOf]; omega
    · have hq := Bool.eq_false_iff.2 hq
      have HR := Lib.hid (hS.out.ends hq)
      rw [← HQ.out, hq] at hc
      obtain ⟨A, hA⟩ : ∃ z, z = (openB E).1 := ⟨_, rfl⟩
      rw [← hA] at hc
      clear HE HQ HA hS hA hq
      by_cases hneg : N < 0
      all_goals
        go_wp2_with (go_at_call 61; refine (hc _).mono ?_; rintro e w2 ⟨rfl, hb2⟩; refine Hid.out ?_)
        refine Lib.hid ?_
        replace hrow := Lib.hid (hrow.out.later hb2)
        replace HB := tbt HB hb2
        clear hc hb2 kg ko
        go_wp2_with fail
        go_ret2
        exact ⟨_, by rw [HR.out]; rfl, by rw [HR.out]; exact hrow.out, HB.out⟩
end Go.Proofs.Ytkkmjlpeahkiaaa
