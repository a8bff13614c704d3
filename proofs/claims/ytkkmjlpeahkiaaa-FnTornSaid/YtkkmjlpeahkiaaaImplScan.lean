/- What the program's reader, its entry and its Scan answer: an entry that is missing panics, and Scan recovers. Condition: a text of at most 2^40 bytes. -/
import Derived.Test.YtkkmjlpeahkiaaaSpecScan
import Derived.Test.YtkkmjlpeahkiaaaImplText
import Derived.Test.YtkkmjlpeahkiaaaImplSeal
import Derived.Recover
import Derived.Defers
namespace Go.Proofs.Ytkkmjlpeahkiaaa
open Go.RowKit
set_option linter.unusedVariables false
set_option linter.unusedSimpArgs false

theorem belowD_grown {w w' : World} (hb : Below w.heap.size w w') : w.grownBy w' none := ⟨hb.os, hb.tape, hb.output, hb.size, fun k hk _ => hb.block k hk⟩
theorem text_endD (s : ByteArray) (p : Int) : -1 ≤ (getTextB s p).2 ∧ (getTextB s p).2 ≤ s.size := by
  unfold getTextB
  split
  · exact ⟨Int.le_refl _, by show (-1 : Int) ≤ _; omega⟩
  · rename_i h
    have h1 := getN_lo s p 2
    have hn : ¬ getN s p 2 < 0 := by omega
    obtain ⟨a, b, _, _⟩ := getN_in hn
    refine ⟨?_, ?_⟩
    · show -1 ≤ p + 2 + getN s p 2; omega
    · show p + 2 + getN s p 2 ≤ _; omega
theorem dropD_list (t : ByteArray) (n : Nat) : (t.extract n t.size).data.toList = t.data.toList.drop n := by
  rw [ByteArray.data_extract, Array.toList_extract, List.extract_eq_take_drop]
  exact List.take_of_length_le (by simp)
theorem ext_ext (t : ByteArray) (p a b : Nat) : (t.extract p t.size).extract a b = t.extract (p + a) (min (p + b) t.size) := by
  apply ByteArray.ext
  apply Array.toList_inj.mp
  rw [ByteArray.data_extract, Array.toList_extract, List.extract_eq_take_drop, dropD_list, ByteArray.data_extract, Array.toList_extract, List.extract_eq_take_drop, List.drop_drop]
  have hl : (t.data.toList.drop (p + a)).length = t.size - (p + a) := by rw [List.length_drop, bytes_len]
  by_cases h : p + b ≤ t.size
  · rw [Nat.min_eq_left h]; congr 1; omega
  · rw [Nat.min_eq_right (by omega), List.take_of_length_le (by omega), List.take_of_length_le (by omega)]
theorem getN_from (t : ByteArray) (p : Nat) (hp : p ≤ t.size) : getN (t.extract p t.size) 0 2 = getN t p 2 := by
  have hz : (t.extract p t.size).size = t.size - p := by rw [ByteArray.size_extract]; omega
  unfold getN
  rw [hz]
  by_cases h : t.size < p + 2
  · rw [if_pos (by omega), if_pos (by omega)]
  · rw [if_neg (by omega), if_neg (by omega), dropD_list]
    rw [show ((0 : Int)).toNat = 0 from rfl, List.drop_zero, Int.toNat_natCast]
/-- A text that is read from a place on is read at that place. -/
theorem text_from (t : ByteArray) (p : Nat) (hp : p ≤ t.size) : (getTextB (t.extract p t.size) 0).1 = (getTextB t p).1 ∧ (getTextB t p).2 = if (getTextB (t.extract p t.size) 0).2 < 0 then -1 else (p : Int) + (getTextB (t.extract p t.size) 0).2 := by
  have hz : (t.extract p t.size).size = t.size - p := by rw [ByteArray.size_extract]; omega
  have hlo := getN_lo t p 2
  unfold getTextB
  rw [getN_from t p hp, hz]
  by_cases h : getN t p 2 < 0 ∨ (t.size : Int) < p + 2 + getN t p 2
  · rw [if_pos h, if_pos (by omega)]
    exact ⟨rfl, by rw [if_pos (by show (-1 : Int) < 0; omega)]⟩
  · rw [if_neg h, if_neg (by omega)]
    obtain ⟨L, hL⟩ := Int.eq_ofNat_of_zero_le (show 0 ≤ getN t p 2 by omega)
    rw [hL]
    refine ⟨?_, ?_⟩
    · show (t.extract p t.size).extract ((0 : Int) + 2).toNat ((0 : Int) + 2 + (L : Int)).toNat = t.extract ((p : Int) + 2).toNat ((p : Int) + 2 + (L : Int)).toNat
      rw [ext_ext]
      congr 1 <;> omega
    · show (p : Int) + 2 + (L : Int) = if (0 : Int) + 2 + (L : Int) < 0 then -1 else (p : Int) + ((0 : Int) + 2 + (L : Int))
      rw [if_neg (by omega)]; omega
theorem ent_from (t : ByteArray) (p : Nat) (hp : p ≤ t.size) : entOk (t.extract p t.size) 0 = entOk t p ∧ entAt (t.extract p t.size) 0 = entAt t p ∧ (entOk t p = true → entEnd t p = p + entEnd (t.extract p t.size) 0 ∧ (t.extract p t.size).extract (entEnd (t.extract p t.size) 0) (t.extract p t.size).size = t.extract (entEnd t p) t.size) := by
  obtain ⟨h1, h2⟩ := text_from t p hp
  have hz : (t.extract p t.size).size = t.size - p := by rw [ByteArray.size_extract]; omega
  have ho : entOk (t.extract p t.size) 0 = entOk t p := by unfold entOk; rw [show ((0 : Nat) : Int) = 0 from rfl, h1]
  refine ⟨ho, by unfold entAt; rw [show ((0 : Nat) : Int) = 0 from rfl, h1], fun hq => ?_⟩
  have he := (ent_end hq).1
  have he2 := (ent_end (ho.trans hq)).1
  rw [show ((0 : Nat) : Int) = 0 from rfl] at he2
  rw [he2, if_neg (by omega), he] at h2
  have h3 : entEnd t p = p + entEnd (t.extract p t.size) 0 := by omega
  refine ⟨h3, ?_⟩
  rw [hz, ext_ext, ← h3]
  congr 1
  omega

/-- What is left behind a text. -/
def restD (t : ByteArray) : ByteArray := t.extract (max (getTextB t 0).2 0).toNat t.size
set_option maxRecDepth 100000 in
set_option maxHeartbeats 4000000 in
theorem rdD_text (t : ByteArray) (b : Nat) (T : TypeId) (w : World) (h : w.heap[b]? = some (.cells #[.string t] T (0, 0))) (ht : t.size ≤ 1099511627776) :
    Calls Try.prog 79 #[.pointer (some ⟨b, 0, none⟩)] w fun e w' => e = .returned (.string (getTextB t 0).1) ∧ w'.heap[b]? = some (.cells #[.string (restD t)] T (0, 0)) ∧ w.grownBy w' (some b) := by
  have K := Lib.hid h
  have f0 := tcr K 0
  have z0 := tfr K 0
  have te := text_endD t 0
  obtain ⟨x, hx⟩ : ∃ x, x = (getTextB t 0).1 := ⟨_, rfl⟩
  obtain ⟨q, hq⟩ : ∃ q, q = (getTextB t 0).2 := ⟨_, rfl⟩
  have hc := impl_getText t 0 (by omega) w ht
  rw [← hq] at te
  rw [← hx, ← hq] at hc
  have Hx := Lib.hid hx
  have Hq := Lib.hid hq
  clear hx hq h
  go_enter Try.func79, Try.ntmps79
  go_wp2_with (go_at_call 86; refine hc.mono ?_; rintro e w1 ⟨rfl, rfl⟩; refine Hid.out ?_)
  refine Lib.hid ?_
  clear hc
  have e1 : q < 0 → t = restD t := fun h => by unfold restD; rw [← Hq.out, show max q 0 = 0 by omega]; simp
  have e2 : 0 ≤ q → t.extract q.toNat t.size = restD t := fun h => by unfold restD; rw [← Hq.out, show max q 0 = q by omega]
  have E1 := Lib.hid e1
  have E2 := Lib.hid e2
  clear e1 e2
  go_wp2_with fail
  · go_ret
    refine ⟨congrArg (fun z => Ending.returned (.string z)) Hx.out, ?_, grown_set _ _ _⟩
    have r := heap_setCell_same w b 0 _ _ (.string t) K.out
    rw [← E1.out ‹_›]
    exact r
  · go_ret
    refine ⟨congrArg (fun z => Ending.returned (.string z)) Hx.out, ?_, grown_set _ _ _⟩
    have r := heap_setCell_same w b 0 _ _ (.string (t.extract q.toNat t.size)) K.out
    rw [← E2.out ‹_›]
    exact r

/-- What entry panics with. -/
def noEntry : PanicEntry := { v := .iface 9 (.string ⟨#[110, 111, 32, 101, 110, 116, 114, 121]⟩), recovered := false }
set_option maxRecDepth 100000 in
set_option maxHeartbeats 4000000 in
theorem entry_yes (r : ByteArray) (b : Nat) (T : TypeId) (w : World) (h : w.heap[b]? = some (.cells #[.string r] T (0, 0))) (hr : r.size ≤ 1099511627776) (hq : entOk r 0 = true) :
    Calls Try.prog 63 #[.pointer (some ⟨b, 0, none⟩)] w fun e w' => e = .returned (.string (entAt r 0)) ∧ w'.heap[b]? = some (.cells #[.string (r.extract (entEnd r 0) r.size)] T (0, 0)) ∧ w.grownBy w' (some b) := by
  have k1 := rdD_text r b T w h hr
  have k2 := fun w => impl_opened (getTextB r 0).1 w (by have := text_smallD r 0; omega)
  have hR : Hid (restD r = r.extract (entEnd r 0) r.size) := Lib.hid (by have := (ent_end hq).1; unfold restD; rw [show ((0 : Nat) : Int) = 0 from rfl] at this; rw [this]; congr 1; omega)
  have hA : (openB (getTextB r 0).1).1 = entAt r 0 := rfl
  have hO : (openB (getTextB r 0).1).2 = true := hq
  rw [hA, hO] at k2
  obtain ⟨A, hA'⟩ : ∃ z, z = entAt r 0 := ⟨_, rfl⟩
  rw [← hA'] at k2 ⊢
  clear hA hO hA' hq
  obtain ⟨E, hE⟩ : ∃ z, z = (getTextB r 0).1 := ⟨_, rfl⟩
  rw [← hE] at k1 k2
  clear hE
  rw [← hR.out]
  clear hR
  obtain ⟨R, hR⟩ : ∃ z, z = restD r := ⟨_, rfl⟩
  rw [← hR] at k1 ⊢
  have HL := Lib.hid (lt_of_block h)
  clear hR h
  go_enter Try.func63, Try.ntmps63
  go_wp2_with (go_at_call 79; refine k1.mono ?_; rintro e w1 ⟨rfl, h1, hg⟩; refine Hid.out ?_)
  refine Lib.hid ?_
  have H1 := Lib.hid h1
  have HG := Lib.hid hg
  clear k1 h1 hg
  go_wp2_with (go_at_call 78; refine (k2 _).mono ?_; rintro e w2 ⟨rfl, hb⟩; refine Hid.out ?_)
  refine Lib.hid ?_
  have H2 := Lib.hid ((hb.block b (Nat.lt_of_lt_of_le HL.out HG.out.size)).trans H1.out)
  have HG2 := Lib.hid (HG.out.andThen (belowD_grown hb) (fun j e => by cases e))
  clear k2 hb
  go_wp2_with fail
  go_ret
  exact ⟨rfl, H2.out, HG2.out⟩
set_option maxRecDepth 100000 in
set_option maxHeartbeats 4000000 in
theorem entry_no (r : ByteArray) (b : Nat) (T : TypeId) (w : World) (h : w.heap[b]? = some (.cells #[.string r] T (0, 0))) (hr : r.size ≤ 1099511627776) (hq : entOk r 0 = false) :
    Calls Try.prog 63 #[.pointer (some ⟨b, 0, none⟩)] w fun e w' => e = .panicked [noEntry] ∧ w.grownBy w' (some b) := by
  have k1 := rdD_text r b T w h hr
  have k2 := fun w => impl_opened (getTextB r 0).1 w (by have := text_smallD r 0; omega)
  have hO : (openB (getTextB r 0).1).2 = false := hq
  rw [hO] at k2
  obtain ⟨A, hA'⟩ : ∃ z, z = (openB (getTextB r 0).1).1 := ⟨_, rfl⟩
  rw [← hA'] at k2
  clear hO hA' hq
  obtain ⟨E, hE⟩ : ∃ z, z = (getTextB r 0).1 := ⟨_, rfl⟩
  rw [← hE] at k1 k2
  clear hE
  have HL := Lib.hid (lt_of_block h)
  clear h
  go_enter Try.func63, Try.ntmps63
  go_wp2_with (go_at_call 79; refine k1.mono ?_; rintro e w1 ⟨rfl, _, hg⟩; refine Hid.out ?_)
  refine Lib.hid ?_
  have HG := Lib.hid hg
  clear k1 hg
  go_wp2_with (go_at_call 78; refine (k2 _).mono ?_; rintro e w2 ⟨rfl, hb⟩; refine Hid.out ?_)
  refine Lib.hid ?_
  have HG2 := Lib.hid (HG.out.andThen (belowD_grown hb) (fun j e => by cases e))
  clear k2 hb
  go_wp2_with fail
  exact ⟨rfl, rfl, HG2.out⟩
theorem scan_catch (w : World) : CallsD Try.prog 62 #[] (.panicking [noEntry]) w fun e u' w' => e = .returned (.tuple #[]) ∧ u' = .panicking [{ noEntry with recovered := true }] ∧ w' = w := by
  unfold noEntry
  refine callsD_of_wpS Try.func62 rfl fun c₀ cs hu => ?_
  apply wpS_region
  simp [wpOpsS, go_sem, recoverD, hu, Try.ntmps62, bodyPostS, results, Try.results62]
theorem scan_idle (w : World) : CallsD Try.prog 62 #[] .returning w fun e u' w' => e = .returned (.tuple #[]) ∧ u' = .returning ∧ w' = w := by
  refine callsD_of_wpS Try.func62 rfl fun c₀ cs hu => ?_
  apply wpS_region
  simp [wpOpsS, go_sem, recoverD, hu, Try.ntmps62, bodyPostS, results, Try.results62]
  cases c₀
  simp_all
end Go.Proofs.Ytkkmjlpeahkiaaa
