/- The program's reader: what num, text, item and talk answer, and what is left of the text. Condition: a text of at most 2^40 bytes. -/
import Derived.Test.YtlklhmdpkicpnaaNumA
import Derived.Test.YtlklhmdpkicpnaaBaseA
import Derived.Test.YtlklhmdpkicpnaaRdFacts
import Derived.RegionTactic
import Derived.ChangeAlike
namespace Go.Proofs.Ytlklhmdpkicpnaa
open Go.RowKit
set_option linter.unusedVariables false
set_option linter.unusedSimpArgs false

/-- What is left behind a number, and behind a text. -/
def restN (t : ByteArray) (k : Nat) : ByteArray := t.extract (min k t.size) t.size
def restT (t : ByteArray) : ByteArray := t.extract (max (getTextB t 0).2 0).toNat t.size
theorem restN_size (t : ByteArray) (k : Nat) : (restN t k).size ≤ t.size := by unfold restN; rw [ByteArray.size_extract]; omega
theorem restT_size (t : ByteArray) : (restT t).size ≤ t.size := by unfold restT; rw [ByteArray.size_extract]; omega
/-- A reader that stands at a text. -/
def At1 (w : World) (b : Nat) (t : ByteArray) : Prop := w.heap[b]? = some (.cells #[.string t] 85 (0, 0))

set_option maxRecDepth 100000 in
set_option maxHeartbeats 4000000 in
theorem rd_text (t : ByteArray) (b : Nat) (w : World) (h : At1 w b t) (ht : t.size ≤ 1099511627776) :
    Calls Try.prog 69 #[.pointer (some ⟨b, 0, none⟩)] w fun e w' => e = .returned (.string (getTextB t 0).1) ∧ At1 w' b (restT t) ∧ w.grownBy w' (some b) := by
  have K := Lib.hid h
  have f0 := tcr K 0
  have z0 := tfr K 0
  have te := text_end t 0
  obtain ⟨x, hx⟩ : ∃ x, x = (getTextB t 0).1 := ⟨_, rfl⟩
  obtain ⟨q, hq⟩ : ∃ q, q = (getTextB t 0).2 := ⟨_, rfl⟩
  have hc := impl_getText t 0 (by omega) w ht
  rw [← hq] at te
  rw [← hx, ← hq] at hc
  have Hx := Lib.hid hx
  have Hq := Lib.hid hq
  clear hx hq h
  go_enter Try.func69, Try.ntmps69
  go_wp2_with (go_at_call 117; refine hc.mono ?_; rintro e w1 ⟨rfl, rfl⟩; refine Hid.out ?_)
  refine Lib.hid ?_
  clear hc
  have e1 : q < 0 → t = restT t := fun h => by unfold restT; rw [← Hq.out, show max q 0 = 0 by omega]; simp
  have e2 : 0 ≤ q → t.extract q.toNat t.size = restT t := fun h => by unfold restT; rw [← Hq.out, show max q 0 = q by omega]
  have E1 := Lib.hid e1
  have E2 := Lib.hid e2
  clear e1 e2
  go_wp2_with fail
  · go_ret
    refine ⟨congrArg (fun z => Ending.returned (.string z)) Hx.out, ?_, grown_set _ _ _⟩
    have r := heap_setCell_same w b 0 _ _ (.string t) K.out
    unfold At1
    rw [← E1.out ‹_›]
    exact r
  · go_ret
    refine ⟨congrArg (fun z => Ending.returned (.string z)) Hx.out, ?_, grown_set _ _ _⟩
    have r := heap_setCell_same w b 0 _ _ (.string (t.extract q.toNat t.size)) K.out
    unfold At1
    rw [← E2.out ‹_›]
    exact r
set_option maxRecDepth 100000 in
set_option maxHeartbeats 4000000 in
theorem rd_num (t : ByteArray) (k : Nat) (b : Nat) (w : World) (h : At1 w b t) (hk : k = 2 ∨ k = 4) (ht : t.size ≤ 1099511627776) :
    Calls Try.prog 68 #[.pointer (some ⟨b, 0, none⟩), .int .i64 k] w fun e w' => e = .returned (.int .i64 (getN t 0 k)) ∧ At1 w' b (restN t k) ∧ w.grownBy w' (some b) := by
  have K := Lib.hid h
  have f0 := tcr K 0
  obtain ⟨x, hx⟩ : ∃ x, x = getN t 0 k := ⟨_, rfl⟩
  have hc := impl_getNum t 0 k (by omega) (by omega) w (by unfold maxLen; omega)
  rw [← hx] at hc
  have Hx := Lib.hid hx
  clear hx h
  go_enter Try.func68, Try.ntmps68
  go_wp2_with (go_at_call 116; refine hc.mono ?_; rintro e w1 ⟨rfl, rfl⟩; refine Hid.out ?_)
  refine Lib.hid ?_
  clear hc
  go_wp2_with fail
  clear f0
  have f0 : w.drew.cell? ⟨b, 0, none⟩ = some (.string t) := tcr (w := w.drew) K 0
  have z0 : w.drew.frozen? ⟨b, 0, none⟩ = false := tfr (w := w.drew) K 0
  have e : t.extract (if t.size < k then (t.size : Int) else (k : Int)).toNat t.size = restN t k := by
    unfold restN
    by_cases hk' : t.size < k
    · rw [if_pos hk', Nat.min_eq_right (by omega)]; rfl
    · rw [if_neg hk', Nat.min_eq_left (by omega)]; rfl
  have E := Lib.hid e
  clear e
  go_region
  rw [E.out]
  have r : Hid (((w.setCell ⟨b, 0, none⟩ (.string (restN t k))).drew).heap[b]? = some (.cells #[.string (restN t k)] 85 (0, 0))) := Lib.hid (heap_setCell_same w b 0 _ _ (.string (restN t k)) K.out)
  have g : Hid (w.grownBy (w.setCell ⟨b, 0, none⟩ (.string (restN t k))).drew (some b)) := Lib.hid ((grown_set w ⟨b, 0, none⟩ _).trans ⟨rfl, rfl, rfl, Nat.le_refl _, fun _ _ _ => rfl⟩)
  go_wp2_with fail
  all_goals
    go_ret
    exact ⟨congrArg (fun z => Ending.returned (.int .i64 z)) Hx.out, r.out, g.out⟩
end Go.Proofs.Ytlklhmdpkicpnaa
