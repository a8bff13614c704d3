/- What laws.markText answers. Condition: a positive number. -/
import Derived.Test.YtkkmjlpeahkiaaaRows
import Derived.Test.YtkkmjlpeahkiaaaSplitPlain
import Derived.Test.YtkkmjlpeahkiaaaCurPlain
import Derived.WalkKit
import Derived.WalkSpells
import Derived.WalkLawsBesides
import Derived.LoopTactic
import Derived.Lib.Hide
import Derived.Deep.QuietTactic
import Derived.BigQuiet
import Derived.Deep.RegionHeld3
namespace Go.Proofs.Ytkkmjlpeahkiaaa
open Go.RowKit
set_option linter.unusedVariables false

set_option maxHeartbeats 1000000 in
theorem mark_text (k : Nat) (hk : 0 < k) (hk' : k ≤ 9223372036854775807) (w : World) :
    Calls Try.prog 64 #[.int .i64 k] w fun e w' => e = .returned (.string ⟨((109 : UInt8) :: Lib.decDigits k).toArray⟩) ∧ Below w.heap.size w w' := by
  go_enter Try.func64, Try.ntmps64
  go_wp2
  go_loopw [0, 3] (fun i out wr => ∃ (m : Nat) (s : ByteArray), m ≤ k ∧ i = .int .i64 m ∧ out = .string s ∧ Hid (Left k m s) ∧ Below w.heap.size w wr) (fun i _ _ => (intOf i).toNat)
  case atStart => exact ⟨k, _, Nat.le_refl _, rfl, rfl, Lib.hid (Left.start k hk), Below.refl _ _⟩
  case round =>
    obtain ⟨m, s, hm, rfl, rfl, hl, hB⟩ := hrel
    have hb := hl.out.bound (by omega)
    have hsz := hB.size
    by_cases hlt : 0 < m
    · have hd1 : (0 : Int) ≤ (m : Int) % 10 := by omega
      have hd2 : (m : Int) % 10 < 10 := by omega
      obtain ⟨d, hd, hst⟩ : ∃ d : UInt8, (d.toNat : Int) = 48 + (m : Int) % 10 ∧ Hid (Left k (m / 10) ((⟨#[d]⟩ : ByteArray) ++ s)) := ⟨UInt8.ofNat (48 + m % 10), by simp; omega, Lib.hid (hl.out.step1 hlt)⟩
      have hconv : (convert 45 9 (.slice (some ⟨wr.heap.size, 0, none⟩) 1 1)).run Try.prog (wr.alloc (.cells #[.int .u8 (48 + (m : Int) % 10)] 5)) = .ok (.string ⟨#[d]⟩) (wr.alloc (.cells #[.int .u8 (48 + (m : Int) % 10)] 5)) := by
        refine run_convert_bytes_back (l := [d]) _ 45 9 5 ⟨wr.heap.size, 0, none⟩ 1 Try.underlying45 Try.underlying5 Try.underlying9 ?_
        intro j hj
        obtain rfl : j = 0 := by simpa using hj
        show World.cell? _ ⟨wr.heap.size, 0, none⟩ = _
        rw [World.cell?_alloc_new, ← hd]
        simp
      have hd := Lib.hid hd
      go_wp2
      go_roundw
      case rel => exact ⟨m / 10, _, by omega, by go_num, rfl, hst, hB.alloc hsz _⟩
      case measure => simp [intOf]; omega
    · obtain rfl : m = 0 := by omega
      have hfin := Lib.hid hl.out.fin
      go_wp2
      go_ret
      exact ⟨ret_str (by rw [hfin.out]; apply ByteArray.ext; simp), hB⟩

end Go.Proofs.Ytkkmjlpeahkiaaa
