/- What impl.PutNum and impl.GetNum answer at every argument. Condition: none beyond what the arguments may be. -/
import Derived.Test.YtkkmjlpeahkiaaaPutNum
import Derived.Deep.WholeRow
namespace Go.Proofs.Ytkkmjlpeahkiaaa
open Go.RowKit
set_option linter.unusedVariables false

theorem info49 : (Try.prog.info? 87).map (fun i => (i.zero, i.size)) = some (some (.agg #[.int .u8 0, .int .u8 0, .int .u8 0, .int .u8 0]), 4) := by kernel_rfl

theorem impl_lowest (n : Nat) (hn : (n : Int) ≤ 9223372036854775807) (w : World) :
    Calls Try.prog 83 #[.int .i64 n] w fun e w' => e = .returned (.agg #[.int .u8 ((n : Int) / 16777216 % 256), .int .u8 ((n : Int) / 65536 % 256), .int .u8 ((n : Int) / 256 % 256), .int .u8 ((n : Int) % 256)]) ∧ Below w.heap.size w w' := by
  obtain ⟨hz, hs⟩ := zero_of_info info49
  go_enter Try.func83, Try.ntmps83
  go_wp2
  exact bodyPost_ret (results_cell_row rfl _ _ w.heap.size _ _ _ _ rfl (heap_alloc_last _ _) Try.underlying87 rfl (by simpa using hs)) rfl ⟨rfl, (Below.refl _ _).alloc (Nat.le_refl _) _⟩

/-- The end of a row that the call made last, as a text. -/
theorem conv_tail (w : World) (t : TypeId) (xs : List Int) (h : ∀ x ∈ xs, 0 ≤ x ∧ x ≤ 255) (off n cap : Nat) (hn : off + n = xs.length) : (convert 45 9 (.slice (some ⟨w.heap.size, off, none⟩) n cap)).run Try.prog (w.alloc (.cells (xs.map (Value.int .u8)).toArray t)) = .ok (.string (txt (xs.drop off))) (w.alloc (.cells (xs.map (Value.int .u8)).toArray t)) := by
  have hl : ((xs.drop off).map fun z => UInt8.ofNat z.toNat).length = n := by simp; omega
  have := run_convert_bytes_back (P := Try.prog) (w.alloc (.cells (xs.map (Value.int .u8)).toArray t)) 45 9 5 ⟨w.heap.size, off, none⟩ cap ((xs.drop off).map fun z => UInt8.ofNat z.toNat) Try.underlying45 Try.underlying5 Try.underlying9 (fun j hj => by
    rw [hl] at hj
    have hj' : off + j < xs.length := by omega
    have hz := h xs[off + j] (List.getElem_mem _)
    rw [add_flat, World.cell?_alloc_new]
    simp only [List.getElem_map, List.getElem_drop, List.getElem?_toArray, List.getElem?_map, List.getElem?_eq_getElem hj', Option.map_some]
    congr 2
    generalize xs[off + j] = z at *
    obtain ⟨m, rfl⟩ := Int.eq_ofNat_of_zero_le hz.1
    simp; omega)
  rw [hl] at this
  exact this

/-- Is a number of bytes one of 1..4? -/
theorem impl_bytesOk (b : Int) (hb : -9223372036854775808 ≤ b ∧ b ≤ 9223372036854775807) (w : World) :
    Calls Try.prog 82 #[.int .i64 b] w fun e w' => e = .returned (.bool (inB b 1 4)) ∧ w = w' := by
  by_cases h1 : 1 ≤ b
  · have hv : Hid (decide (b ≤ 4) = inB b 1 4) := Lib.hid (by simp [inB]; omega)
    go_enter Try.func82, Try.ntmps82
    go_wp2_with fail
    go_ret
    exact ⟨by rw [← hv.out]; rfl, rfl⟩
  · have hv : Hid (false = inB b 1 4) := Lib.hid (by simp [inB]; omega)
    go_enter Try.func82, Try.ntmps82
    go_wp2_with fail
    go_ret
    exact ⟨by rw [← hv.out]; rfl, rfl⟩

set_option maxHeartbeats 1000000 in
theorem impl_putNum (n b : Int) (hn : -9223372036854775808 ≤ n ∧ n ≤ 9223372036854775807) (hb : -9223372036854775808 ≤ b ∧ b ≤ 9223372036854775807) (w : World) :
    Calls Try.prog 75 #[.int .i64 n, .int .i64 b] w fun e w' => e = .returned (.string (txt (putN n b))) ∧ Below w.heap.size w w' := by
  by_cases hn0 : n < 0
  · have hv : Hid (txt [] = txt (putN n b)) := Lib.hid (by unfold putN; rw [if_pos (by omega)])
    go_enter Try.func75, Try.ntmps75
    go_wp2_with fail
    go_ret
    exact ⟨ret_empty hv.out, Below.refl _ _⟩
  · by_cases hout : b < 1 ∨ 4 < b
    · have hin : inB b 1 4 = false := by simp [inB]; omega
      have hv : Hid (txt [] = txt (putN n b)) := Lib.hid (by unfold putN; rw [if_pos (by omega)])
      go_enter Try.func75, Try.ntmps75
      go_wp2_with (go_at_call 82; refine (impl_bytesOk _ (by omega) _).mono ?_; rintro e w' ⟨rfl, rfl⟩)
      go_ret
      exact ⟨ret_empty hv.out, Below.refl _ _⟩
    · have hin : inB b 1 4 = true := by simp [inB]; omega
      obtain ⟨N, rfl⟩ := Int.eq_ofNat_of_zero_le (show 0 ≤ n by omega)
      have e2 : (N : Int) / 256 / 256 = (N : Int) / 65536 := by omega
      have e3 : (N : Int) / 65536 / 256 = (N : Int) / 16777216 := by omega
      obtain ⟨hz, hs⟩ := zero_of_info info49
      have hcl := fun (w1 : World) (off n cap : Nat) (h : off + n = 4) => conv_tail w1 87 [(N : Int) / 16777216 % 256, (N : Int) / 65536 % 256, (N : Int) / 256 % 256, (N : Int) % 256] (by intro x hx; simp at hx; omega) off n cap h
      simp only [List.map] at hcl
      rcases (show b = 1 ∨ b = 2 ∨ b = 3 ∨ b = 4 by omega) with hb0 | hb0 | hb0 | hb0
      · subst hb0
        have hv : Hid (txt [(N : Int) % 256] = txt (putN N 1)) := Lib.hid (by unfold putN; rw [if_neg (by omega)]; simp [beB])
        clear e2 e3
        go_enter Try.func75, Try.ntmps75
        go_wp2_with (first | (go_at_call 82; refine (impl_bytesOk _ (by omega) _).mono ?_; rintro e w' ⟨rfl, rfl⟩) | (go_at_call 83; refine (impl_lowest _ (by omega) _).mono ?_; rintro e w1 ⟨rfl, hb1⟩))
        go_ret
        exact ⟨ret_txt hv.out, hb1.alloc hb1.size _⟩
      · subst hb0
        have hv : Hid (txt [(N : Int) / 256 % 256, (N : Int) % 256] = txt (putN N 2)) := Lib.hid (by unfold putN; rw [if_neg (by omega)]; simp [beB])
        clear e2 e3
        go_enter Try.func75, Try.ntmps75
        go_wp2_with (first | (go_at_call 82; refine (impl_bytesOk _ (by omega) _).mono ?_; rintro e w' ⟨rfl, rfl⟩) | (go_at_call 83; refine (impl_lowest _ (by omega) _).mono ?_; rintro e w1 ⟨rfl, hb1⟩))
        go_ret
        exact ⟨ret_txt hv.out, hb1.alloc hb1.size _⟩
      · subst hb0
        have hv : Hid (txt [(N : Int) / 65536 % 256, (N : Int) / 256 % 256, (N : Int) % 256] = txt (putN N 3)) := Lib.hid (by unfold putN; rw [if_neg (by omega)]; simp [beB, e2])
        clear e2 e3
        go_enter Try.func75, Try.ntmps75
        go_wp2_with (first | (go_at_call 82; refine (impl_bytesOk _ (by omega) _).mono ?_; rintro e w' ⟨rfl, rfl⟩) | (go_at_call 83; refine (impl_lowest _ (by omega) _).mono ?_; rintro e w1 ⟨rfl, hb1⟩))
        go_ret
        exact ⟨ret_txt hv.out, hb1.alloc hb1.size _⟩
      · subst hb0
        have hv : Hid (txt [(N : Int) / 16777216 % 256, (N : Int) / 65536 % 256, (N : Int) / 256 % 256, (N : Int) % 256] = txt (putN N 4)) := Lib.hid (by unfold putN; rw [if_neg (by omega)]; simp [beB, e2, e3])
        clear e2 e3
        go_enter Try.func75, Try.ntmps75
        go_wp2_with (first | (go_at_call 82; refine (impl_bytesOk _ (by omega) _).mono ?_; rintro e w' ⟨rfl, rfl⟩) | (go_at_call 83; refine (impl_lowest _ (by omega) _).mono ?_; rintro e w1 ⟨rfl, hb1⟩))
        go_ret
        exact ⟨ret_txt hv.out, hb1.alloc hb1.size _⟩
end Go.Proofs.Ytkkmjlpeahkiaaa
