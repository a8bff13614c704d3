/- What the program's PieceOk and Link answer. Condition: texts of at most 2^40 bytes. -/
import Derived.Test.YtdpjdjkfedcojaaGreatSpecGet
import Derived.Test.YtdpjdjkfedcojaaGreatImplHash
import Derived.Test.YtdpjdjkfedcojaaGreatNumA
namespace Go.Proofs.YtdpjdjkfedcojaaGreat
open Go.RowKit
set_option linter.unusedVariables false
set_option linter.unusedSimpArgs false

theorem impl_chainOk (n : Int) (w : World) : Calls Tryz.prog 31 #[.int .i64 n] w fun e w' => e = .returned (.bool (inB n 0 4294967295)) ∧ w = w' := by
  rcases (show n < 0 ∨ 4294967295 < n ∨ (0 ≤ n ∧ n ≤ 4294967295) by omega) with h | h | ⟨h, h'⟩
  · have hb : Hid (inB n 0 4294967295 = false) := Lib.hid (by unfold inB; simp; omega)
    go_enter Tryz.func31, Tryz.ntmps31
    go_wp2
    go_ret
    exact ⟨ret_bool (by rw [hb.out]), rfl⟩
  · have hb : Hid (inB n 0 4294967295 = false) := Lib.hid (by unfold inB; simp; omega)
    have h1 : 0 ≤ n := by omega
    go_enter Tryz.func31, Tryz.ntmps31
    go_wp2
    go_ret
    exact ⟨ret_bool (by rw [hb.out]; try (simpa using h)), rfl⟩
  · have hb : Hid (inB n 0 4294967295 = true) := Lib.hid (by unfold inB; simp; omega)
    go_enter Tryz.func31, Tryz.ntmps31
    go_wp2
    go_ret
    exact ⟨ret_bool (by rw [hb.out]; try (simpa using h')), rfl⟩
theorem pc_bad {p : Pc} (h : ¬ ((1 ≤ p.of ∧ p.of ≤ 600) ∧ (1 ≤ p.no ∧ p.no ≤ p.of) ∧ (1 ≤ p.b.size ∧ p.b.size ≤ 200) ∧ (0 ≤ p.ch ∧ p.ch ≤ 4294967295))) : pcOk p = false := by
  cases hp : pcOk p with
  | false => rfl
  | true => exact absurd (pc_in hp) h
theorem pc_chain {p : Pc} (h : (1 ≤ p.of ∧ p.of ≤ 600) ∧ (1 ≤ p.no ∧ p.no ≤ p.of) ∧ (1 ≤ p.b.size ∧ p.b.size ≤ 200)) : pcOk p = inB p.ch 0 4294967295 := by
  have t1 : inB p.of 1 600 = true := by unfold inB; simp; omega
  have t2 : inB p.no 1 p.of = true := by unfold inB; simp; omega
  have t3 : inB (p.b.size : Int) 1 200 = true := by unfold inB; simp; omega
  unfold pcOk
  rw [t1, t2, t3]
  rfl
set_option maxRecDepth 100000 in
set_option maxHeartbeats 4000000 in
theorem impl_pieceOk (p : Pc) (w : World) (hb : p.b.size ≤ maxLen) :
    Calls Tryz.prog 75 #[pcV p] w fun e w' => e = .returned (.bool (pcOk p)) ∧ Below w.heap.size w w' := by
  have hbad := @pc_bad p
  have hch := @pc_chain p
  obtain ⟨no, of, b, ch⟩ := p
  change b.size ≤ _ at hb
  unfold maxLen at hb
  unfold pcV
  dsimp only at hbad hch ⊢
  have hc := fun w => impl_chainOk ch w
  by_cases h1 : no < 1
  · have HB := Lib.hid (hbad (by omega))
    clear hbad hch
    go_enter Tryz.func75, Tryz.ntmps75
    go_wp2_with fail
    go_ret
    exact ⟨ret_bool HB.out.symm, (Below.refl _ _).alloc (Nat.le_refl _) _⟩
  by_cases h2 : of < no
  · have HB := Lib.hid (hbad (by omega))
    clear hbad hch
    go_enter Tryz.func75, Tryz.ntmps75
    go_wp2_with fail
    go_ret
    exact ⟨ret_bool HB.out.symm, (Below.refl _ _).alloc (Nat.le_refl _) _⟩
  by_cases h3 : 600 < of
  · have HB := Lib.hid (hbad (by omega))
    clear hbad hch
    go_enter Tryz.func75, Tryz.ntmps75
    go_wp2_with fail
    go_ret
    exact ⟨ret_bool HB.out.symm, (Below.refl _ _).alloc (Nat.le_refl _) _⟩
  by_cases h4 : 1 ≤ (b.size : Int)
  · by_cases h5 : (b.size : Int) ≤ 200
    · have HB := Lib.hid (hch (by omega))
      clear hbad hch
      go_enter Tryz.func75, Tryz.ntmps75
      go_wp2_with (go_at_call 31; refine (hc _).mono ?_; rintro e w' ⟨rfl, rfl⟩)
      go_ret
      exact ⟨ret_bool HB.out.symm, (Below.refl _ _).alloc (Nat.le_refl _) _⟩
    · have HB := Lib.hid (hbad (by omega))
      clear hbad hch
      go_enter Tryz.func75, Tryz.ntmps75
      go_wp2_with fail
      go_ret
      exact ⟨ret_bool HB.out.symm, (Below.refl _ _).alloc (Nat.le_refl _) _⟩
  · have HB := Lib.hid (hbad (by omega))
    clear hbad hch
    go_enter Tryz.func75, Tryz.ntmps75
    go_wp2_with fail
    go_ret
    exact ⟨ret_bool HB.out.symm, (Below.refl _ _).alloc (Nat.le_refl _) _⟩
set_option maxHeartbeats 1000000 in
theorem impl_link (ch : Int) (b : ByteArray) (w : World) (hc : -9223372036854775808 ≤ ch ∧ ch ≤ 9223372036854775807) (hb : b.size ≤ 1099511627776) :
    Calls Tryz.prog 58 #[.int .i64 ch, .string b] w fun e w' => e = .returned (.int .i64 (linkN ch b)) ∧ Below w.heap.size w w' := by
  have hk := link_size ch
  have k1 := fun w => impl_putNum ch 4 hc (by omega) w
  have hv : Hid (hashN (txt (putN ch 4) ++ b).data.toList = linkN ch b) := Lib.hid (by unfold linkN; rw [ByteArray.data_append, Array.toList_append])
  obtain ⟨p, hp⟩ : ∃ p, p = txt (putN ch 4) := ⟨_, rfl⟩
  rw [← hp] at k1 hk hv
  clear hp
  have ns : ¬ 9223372036854775807 < p.size + b.size := by omega
  have k2 := fun w => impl_hash (p ++ b) w (by rw [ByteArray.size_append]; unfold maxLen; omega)
  go_enter Tryz.func58, Tryz.ntmps58
  go_wp2_with (first | (go_at_call 61; refine (k1 _).mono ?_; rintro e w1 ⟨rfl, hb1⟩; replace hb1 := Lib.hid hb1) | (go_at_call 65; refine (k2 _).mono ?_; rintro e w2 ⟨rfl, rfl⟩))
  go_ret
  exact ⟨ret_int (by rw [← hv.out, ByteArray.data_append, Array.toList_append]), hb1.out⟩
end Go.Proofs.YtdpjdjkfedcojaaGreat
