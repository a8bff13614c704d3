/- What spec.PieceOk, PutPiece, GetPiece and Link answer. Condition: texts of a size that a text may have. -/
import Derived.Test.YtdpjdjkfedcojaaGreatBaseA
import Derived.Test.YtdpjdjkfedcojaaGreatFmtA
import Derived.Test.YtdpjdjkfedcojaaGreatNumA
import Derived.Test.YtdpjdjkfedcojaaGreatBldA
namespace Go.Proofs.YtdpjdjkfedcojaaGreat
open Go.RowKit
set_option linter.unusedVariables false
set_option linter.unusedSimpArgs false

def pcV (p : Pc) : Value := .agg #[.int .i64 p.no, .int .i64 p.of, .string p.b, .int .i64 p.ch]
def pcC (p : Pc) : Array Value := #[.int .i64 p.no, .int .i64 p.of, .string p.b, .int .i64 p.ch]
/-- What a piece that is an argument may hold. -/
def FitPc (p : Pc) : Prop := (-9223372036854775808 ≤ p.no ∧ p.no ≤ 9223372036854775807) ∧ (-9223372036854775808 ≤ p.of ∧ p.of ≤ 9223372036854775807) ∧ p.b.size ≤ maxLen ∧ (-9223372036854775808 ≤ p.ch ∧ p.ch ≤ 9223372036854775807)

theorem spec_word (n : Int) (w : World) : Calls Tryz.prog 80 #[.int .i64 n] w fun e w' => e = .returned (.bool (inB n 0 4294967295)) ∧ w = w' := by
  have hc := fun w => in_any n 0 4294967295 w
  go_enter Tryz.func80, Tryz.ntmps80
  go_wp2_with (go_at_call 66; refine (hc _).mono ?_; rintro e w' ⟨rfl, rfl⟩)
  go_ret
  exact ⟨rfl, rfl⟩

set_option maxRecDepth 100000 in
set_option maxHeartbeats 4000000 in
theorem spec_pieceOk (p : Pc) (w : World) (hb : p.b.size ≤ maxLen) :
    Calls Tryz.prog 103 #[pcV p] w fun e w' => e = .returned (.bool (pcOk p)) ∧ Below w.heap.size w w' := by
  obtain ⟨no, of, b, ch⟩ := p
  change b.size ≤ _ at hb
  unfold pcV pcOk
  dsimp only
  have hc : ∀ (x a b : Int) (c : Bool) (w : World), inB x a b = c → Calls Tryz.prog 66 #[.int .i64 x, .int .i64 a, .int .i64 b] w fun e w' => e = .returned (.bool c) ∧ w = w' := fun x a b c w h => by rw [← h]; exact in_any x a b w
  have hc4 : ∀ (x : Int) (c : Bool) (w : World), inB x 0 4294967295 = c → Calls Tryz.prog 80 #[.int .i64 x] w fun e w' => e = .returned (.bool c) ∧ w = w' := fun x c w h => by rw [← h]; exact spec_word x w
  generalize h1 : inB of 1 600 = c1
  generalize h2 : inB no 1 of = c2
  generalize h3 : inB (b.size : Int) 1 200 = c3
  generalize h4 : inB ch 0 4294967295 = c4
  cases c1
  rotate_left
  cases c2
  rotate_left
  cases c3
  rotate_left
  cases c4
  all_goals
    go_enter Tryz.func103, Tryz.ntmps103
    go_wp2_with (first | (go_at_call 80; refine (hc4 _ _ _ (by assumption)).mono ?_; rintro e w' ⟨rfl, rfl⟩) | (go_at_call 66; refine (hc _ _ _ _ _ (by assumption)).mono ?_; rintro e w' ⟨rfl, rfl⟩))
    go_ret
    exact ⟨rfl, (Below.refl _ _).alloc (Nat.le_refl _) _⟩
set_option maxRecDepth 100000 in
set_option maxHeartbeats 4000000 in
theorem spec_putPiece (p : Pc) (w : World) (hf : FitPc p) :
    Calls Tryz.prog 67 #[pcV p] w fun e w' => e = .returned (.string (pcB p)) ∧ Below w.heap.size w w' := by
  have hc0 := fun w => spec_pieceOk p w hf.2.2.1
  cases hok : pcOk p
  · rw [hok] at hc0
    have hv : Hid ((⟨#[]⟩ : ByteArray) = pcB p) := Lib.hid (by unfold pcB; rw [hok, if_neg (by decide)])
    obtain ⟨no, of, b, ch⟩ := p
    unfold pcV at hc0 ⊢
    dsimp only at hc0 ⊢
    have BB := Lib.hid ((Below.refl w.heap.size w).alloc (Nat.le_refl _) (.cells #[.int .i64 no, .int .i64 of, .string b, .int .i64 ch] 67))
    clear hf hok
    go_enter Tryz.func67, Tryz.ntmps67
    go_wp2_with (go_at_call 103; refine (hc0 _).mono ?_; rintro e w1 ⟨rfl, hb⟩; replace hb := Lib.hid hb)
    go_ret
    exact ⟨ret_txt hv.out, BB.out.trans (hb.out.mono BB.out.size)⟩
  · rw [hok] at hc0
    obtain ⟨⟨o1, o2⟩, ⟨n1, n2⟩, ⟨b1, b2⟩, ⟨c1, c2⟩⟩ := pc_in hok
    have hv : Hid (sealB (⟨#[80]⟩ ++ txt (putN p.no 2) ++ txt (putN p.of 2) ++ putTextB p.b ++ txt (putN p.ch 4)) = pcB p) := Lib.hid (by
      unfold pcB
      rw [if_pos hok]
      congr 1
      apply ByteArray.ext
      apply Array.toList_inj.mp
      simp only [ByteArray.data_append, Array.toList_append]
      have e1 : (txt (putN p.no 2)).data.toList = be8 p.no.toNat 2 := by unfold putN; rw [if_neg (by omega)]; simp [txt, be8]
      have e2 : (txt (putN p.of 2)).data.toList = be8 p.of.toNat 2 := by unfold putN; rw [if_neg (by omega)]; simp [txt, be8]
      rw [e1, e2, put_list (by omega), seq_list c1]
      unfold pcL
      simp [List.append_assoc])
    obtain ⟨no, of, b, ch⟩ := p
    dsimp only at o1 o2 n1 n2 b1 b2 c1 c2
    unfold pcV at hc0 ⊢
    dsimp only at hc0 hv ⊢
    clear hf hok
    have s1 : (txt (putN no 2)).size = 2 := by unfold putN; rw [if_neg (by omega)]; exact txt_beB_size _ _
    have s2 : (txt (putN of 2)).size = 2 := by unfold putN; rw [if_neg (by omega)]; exact txt_beB_size _ _
    have s3 : (putTextB b).size ≤ b.size + 2 := by
      unfold putTextB
      rw [if_neg (by omega), ByteArray.size_append, putN_size]; omega
    have s4 : (txt (putN ch 4)).size = 4 := seq_size c1
    have k1 := fun w => spec_putNum no 2 (by omega) (by omega) w
    have k2 := fun w => spec_putNum of 2 (by omega) (by omega) w
    have k3 := fun w => spec_putText b w (by unfold maxLen; omega)
    have k4 := fun w => spec_putNum ch 4 (by omega) (by omega) w
    obtain ⟨p1, hp1⟩ : ∃ p, p = txt (putN no 2) := ⟨_, rfl⟩
    obtain ⟨p2, hp2⟩ : ∃ p, p = txt (putN of 2) := ⟨_, rfl⟩
    obtain ⟨p3, hp3⟩ : ∃ p, p = putTextB b := ⟨_, rfl⟩
    obtain ⟨p4, hp4⟩ : ∃ p, p = txt (putN ch 4) := ⟨_, rfl⟩
    rw [← hp1] at s1 k1 hv
    rw [← hp2] at s2 k2 hv
    rw [← hp3] at s3 k3 hv
    rw [← hp4] at s4 k4 hv
    clear hp1 hp2 hp3 hp4
    have q1 : (⟨#[80]⟩ : ByteArray).size = 1 := rfl
    have ns1 : ¬ 9223372036854775807 < (⟨#[80]⟩ : ByteArray).size + p1.size := by omega
    have ns2 : ¬ 9223372036854775807 < (⟨#[80]⟩ ++ p1).size + p2.size := by rw [ByteArray.size_append]; omega
    have ns3 : ¬ 9223372036854775807 < (⟨#[80]⟩ ++ p1 ++ p2).size + p3.size := by rw [ByteArray.size_append, ByteArray.size_append]; omega
    have ns4 : ¬ 9223372036854775807 < (⟨#[80]⟩ ++ p1 ++ p2 ++ p3).size + p4.size := by rw [ByteArray.size_append, ByteArray.size_append, ByteArray.size_append]; omega
    have ns5 : ¬ 9223372036854775807 < 5 + p3.size := by omega
    have ns6 : ¬ 9223372036854775807 < 5 + p3.size + 4 := by omega
    have ns7 : ¬ 9223372036854775807 < 5 + p3.size + p4.size := by omega
    have ks := fun w => spec_sealed (⟨#[80]⟩ ++ p1 ++ p2 ++ p3 ++ p4) w (by rw [ByteArray.size_append, ByteArray.size_append, ByteArray.size_append, ByteArray.size_append]; omega)
    obtain ⟨X, hX⟩ : ∃ X, X = w.alloc (.cells #[.int .i64 no, .int .i64 of, .string b, .int .i64 ch] 67) := ⟨_, rfl⟩
    have bX : Below w.heap.size w X := by rw [hX]; exact (Below.refl _ _).alloc (Nat.le_refl _) _
    have KX : Hid (X.heap[w.heap.size]? = some (.cells #[.int .i64 no, .int .i64 of, .string b, .int .i64 ch] 67 (0, 0))) := Lib.hid (by rw [hX]; exact heap_new _ _)
    have LX : Hid (w.heap.size < X.heap.size) := Lib.hid (by rw [hX]; simp)
    have BB := Lib.hid bX
    clear bX
    go_enter Tryz.func67, Tryz.ntmps67
    go_wp2_with (go_at_call 103; refine (hc0 _).mono ?_; rintro e w1 ⟨rfl, hb⟩; rw [← hX] at hb; replace BB := tbt BB hb; replace KX := tkb hb LX KX; replace LX := tlz LX hb.size; clear hb)
    clear hX
    have FX : Hid (∀ w', Below w1.heap.size w1 w' → w'.cell? ⟨w.heap.size, 0, none⟩ = some (.int .i64 no) ∧ w'.cell? ⟨w.heap.size, 1, none⟩ = some (.int .i64 of) ∧ w'.cell? ⟨w.heap.size, 2, none⟩ = some (.string b) ∧ w'.cell? ⟨w.heap.size, 3, none⟩ = some (.int .i64 ch)) := Lib.hid (fun w' h => by have K := tkb h LX KX; exact ⟨tcr K 0, tcr K 1, tcr K 2, tcr K 3⟩)
    clear KX LX hc0
    refine wp_region_held_drew (S := (fun w' => Below w1.heap.size w1 w')) (by kernel_rfl) (Below.refl _ _).drew (fun hHeld => ?_)
    obtain ⟨zD, hzD⟩ : ∃ zz, zz = w1.drew := ⟨_, rfl⟩
    rw [← hzD] at hHeld ⊢
    clear hzD
    have BD := Lib.hid hHeld
    refine tk0 0 ?_
    refine tk 1 (v := ?_) ?_ ?_; rotate_left
    · refine Or.inl ⟨by rfl, ?_⟩; intro w hSw; obtain ⟨f0, f1, f2, f3⟩ := FX.out w hSw; go_simp; first | done | with_reducible rfl
    refine tk0 4 ?_
    refine tk 5 (v := ?_) ?_ ?_; rotate_left
    · refine Or.inl ⟨by rfl, ?_⟩; intro w hSw; obtain ⟨f0, f1, f2, f3⟩ := FX.out w hSw; go_simp; first | done | with_reducible rfl
    refine tk0 8 ?_
    refine tk 9 (v := ?_) ?_ ?_; rotate_left
    · refine Or.inl ⟨by rfl, ?_⟩; intro w hSw; obtain ⟨f0, f1, f2, f3⟩ := FX.out w hSw; go_simp; first | done | with_reducible rfl
    refine tk0 12 ?_
    refine tk 13 (v := ?_) ?_ ?_; rotate_left
    · refine Or.inl ⟨by rfl, ?_⟩; intro w hSw; obtain ⟨f0, f1, f2, f3⟩ := FX.out w hSw; go_simp; first | done | with_reducible rfl
    refine rd1 2 (fun K hK => ?_)
    go_simp
    go_at_call 68
    refine (k1 _).mono ?_
    rintro e x0 ⟨rfl, hb⟩
    replace BD := tbt BD hb
    clear hb
    go_wp2_with fail
    refine hK.out _ _ BD.out (fun hHeld => ?_)
    clear hK K
    refine tk0 3 ?_
    refine rd1 6 (fun K hK => ?_)
    go_simp
    go_at_call 68
    refine (k2 _).mono ?_
    rintro e x1 ⟨rfl, hb⟩
    replace BD := tbt BD hb
    clear hb
    go_wp2_with fail
    refine hK.out _ _ BD.out (fun hHeld => ?_)
    clear hK K
    refine tk0 7 ?_
    refine rd1 10 (fun K hK => ?_)
    go_simp
    go_at_call 69
    refine (k3 _).mono ?_
    rintro e x2 ⟨rfl, hb⟩
    replace BD := tbt BD hb
    clear hb
    go_wp2_with fail
    refine hK.out _ _ BD.out (fun hHeld => ?_)
    clear hK K
    refine tk0 11 ?_
    refine rd1 14 (fun K hK => ?_)
    go_simp
    go_at_call 68
    refine (k4 _).mono ?_
    rintro e x3 ⟨rfl, hb⟩
    replace BD := tbt BD hb
    clear hb
    go_wp2_with fail
    refine hK.out _ _ BD.out (fun hHeld => ?_)
    clear hK K
    refine tk0 15 ?_
    refine rd1 16 (fun K hK => ?_)
    go_simp
    go_at_call 70
    refine (ks _).mono ?_
    rintro e x5 ⟨rfl, hb⟩
    replace BD := tbt BD hb
    clear hb
    go_wp2_with fail
    refine hK.out _ _ BD.out (fun hHeld => ?_)
    clear hK K
    refine tk0 17 ?_
    refine wpAnyH_done (by kernel_rfl) ?_ _
    clear hHeld
    go_wp2_with fail
    go_ret
    exact ⟨ret_txt hv.out, BB.out.trans (BD.out.mono BB.out.size)⟩
end Go.Proofs.YtdpjdjkfedcojaaGreat
