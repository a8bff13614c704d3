/- The law FnRoom: where there is no room any more, nothing changes, and all is there that was. Condition: none. -/
import Derived.Test.YtkkmjlpeahkiaaaDkBox
import Derived.Test.YtkkmjlpeahkiaaaImplDsk
import Derived.Test.YtkkmjlpeahkiaaaImplRec
import Derived.Test.YtkkmjlpeahkiaaaSameD
import Derived.Test.YtkkmjlpeahkiaaaAtD
import Derived.Test.YtkkmjlpeahkiaaaBig
import Derived.Test.YtkkmjlpeahkiaaaTk
namespace Go.Proofs.Ytkkmjlpeahkiaaa
open Go.RowKit
set_option linter.unusedVariables false
set_option linter.unusedSimpArgs false

def entL (k : Nat) : ByteArray := catB (List.replicate k ⟨#[101, 110, 116, 114, 121]⟩)
theorem entL_zero : entL 0 = ⟨#[]⟩ := rfl
theorem entL_succ (k : Nat) : entL (k + 1) = entL k ++ entB ⟨#[101, 110, 116, 114, 121]⟩ := by
  unfold entL
  rw [List.replicate_succ', catB_snoc]
theorem entN_size : (entB ⟨#[101, 110, 116, 114, 121]⟩).size = 11 := by rw [ent_size, if_neg (by decide)]; rfl
theorem entL_size (k : Nat) : (entL k).size = 11 * k := by
  induction k with
  | zero => rfl
  | succ k ih => rw [entL_succ, ByteArray.size_append, ih, entN_size]; omega
theorem nil_size : (ByteArray.mk #[]).size = 0 := rfl
theorem room_ok {R k : Nat} (h : 11 * k ≤ R) (hR : R ≤ 4000) : dskOk ⟨(R : Int), ⟨#[]⟩, ⟨#[]⟩, entL k⟩ = true := by
  refine dsk_mk ⟨by show (0 : Int) ≤ (R : Int); omega, by show (R : Int) ≤ 4000; omega⟩ ?_
  unfold usedD
  dsimp only
  rw [entL_size, nil_size]
  omega
theorem room_ok2 {R k : Nat} (h : 11 * k ≤ R) (hR : R ≤ 4000) : dskOk ⟨(R : Int), ⟨#[]⟩, entL k, ⟨#[]⟩⟩ = true := by
  refine dsk_mk ⟨by show (0 : Int) ≤ (R : Int); omega, by show (R : Int) ≤ 4000; omega⟩ ?_
  unfold usedD
  dsimp only
  rw [entL_size, nil_size]
  omega
theorem room_yes {R k : Nat} (h : 11 * (k + 1) ≤ R) (hR : R ≤ 4000) : appS ⟨(R : Int), ⟨#[]⟩, ⟨#[]⟩, entL k⟩ ⟨#[101, 110, 116, 114, 121]⟩ = (⟨(R : Int), ⟨#[]⟩, ⟨#[]⟩, entL (k + 1)⟩, true) := by
  unfold appS
  rw [if_pos ⟨room_ok (by omega) hR, by rw [entN_size]; decide, by unfold usedD; dsimp only; rw [entL_size, entN_size, nil_size]; omega⟩, entL_succ]
theorem room_no {R k : Nat} (h : R < 11 * (k + 1)) (hR : R ≤ 4000) : appS ⟨(R : Int), ⟨#[]⟩, ⟨#[]⟩, entL k⟩ ⟨#[101, 110, 116, 114, 121]⟩ = (⟨(R : Int), ⟨#[]⟩, ⟨#[]⟩, entL k⟩, false) :=
  app_no (.inr (.inr (by unfold usedD; dsimp only; rw [entL_size, entN_size, nil_size]; omega)))
theorem room_no2 {R k : Nat} (h : R < 11 * (k + 1)) (hR : R ≤ 4000) : appS ⟨(R : Int), ⟨#[]⟩, entL k, ⟨#[]⟩⟩ ⟨#[101, 110, 116, 114, 121]⟩ = (⟨(R : Int), ⟨#[]⟩, entL k, ⟨#[]⟩⟩, false) :=
  app_no (.inr (.inr (by unfold usedD; dsimp only; rw [entL_size, entN_size, nil_size]; omega)))
theorem room_sync {R k : Nat} (h : 11 * k ≤ R) (hR : R ≤ 4000) : syncS ⟨(R : Int), ⟨#[]⟩, ⟨#[]⟩, entL k⟩ = ⟨(R : Int), ⟨#[]⟩, entL k, ⟨#[]⟩⟩ := by
  unfold syncS
  rw [if_pos (room_ok h hR)]
  dsimp only
  rw [show (ByteArray.mk #[]) ++ entL k = entL k from ByteArray.ext (by rw [ByteArray.data_append]; simp)]
theorem room_rec {R k : Nat} (h : 11 * k ≤ R) (hR : R ≤ 4000) : recS (syncS ⟨(R : Int), ⟨#[]⟩, ⟨#[]⟩, entL k⟩) = (⟨(R : Int), ⟨#[]⟩, entL k, ⟨#[]⟩⟩, List.replicate k ⟨#[101, 110, 116, 114, 121]⟩) := by
  rw [room_sync h hR]
  unfold recS
  rw [if_pos (room_ok2 h hR)]
  have hs : scanS (entL k) = (List.replicate k ⟨#[101, 110, 116, 114, 121]⟩, (entL k).size) := scan_whole (fun x hx => by rw [List.eq_of_mem_replicate hx]; decide)
  dsimp only
  rw [hs]
  dsimp only
  rw [show (entL k).extract 0 (entL k).size = entL k by simp]
theorem room_ins (d : Dsk) (T : ByteArray) (w : World) (hd : SmD d) (hT : T.size ≤ 549755813888) :
    Calls Try.prog 40 #[dskV d, .string T] w fun e w' => ∃ (go : Int) (gs gt gu : ByteArray) (b : Bool), e = .returned (.tuple #[.agg #[.int .i64 go, .string gs, .string gt, .string gu], .bool b]) ∧ (b = false → d.rm = go ∧ d.sn = gs ∧ d.kp = gt ∧ d.ls = gu) ∧ Below w.heap.size w w' := by
  refine (impl_install d T w hd hT).mono ?_
  rintro e w' ⟨rfl, hb⟩
  refine ⟨_, _, _, _, _, rfl, fun h => ?_, hb⟩
  unfold insS at h ⊢
  split at h
  · cases h
  · rename_i hc
    rw [if_neg hc]
    exact ⟨rfl, rfl, rfl, rfl⟩
set_option maxRecDepth 100000 in
set_option maxHeartbeats 8000000 in
theorem law_room (a : Option Addr) (len cap : Nat) (zs : List Int) (w : World) (hr : IsRow .u8 w a len cap zs) :
    Calls Try.prog 18 #[.slice a len cap] w fun e w' => e = .returned (.bool true) ∧ Below w.heap.size w w' := by
  have hr := row8_of hr
  by_cases hbig : 1048576 < len
  · have hd : decide (1048576 < len) = true := by simpa using hbig
    go_enter Try.func18, Try.ntmps18
    go_wp2_with (go_at_call 41; refine (big_any _ _ _ _).mono ?_; rintro e w' ⟨rfl, rfl⟩)
    go_ret
    exact ⟨rfl, Below.refl _ _⟩
  have hd : decide (1048576 < len) = false := by simpa using hbig
  have hlen : len ≤ 1048576 := by omega
  have Hr8 := Lib.hid hr
  have BB : Hid (Below w.heap.size w w) := Lib.hid (Below.refl _ _)
  go_enter Try.func18, Try.ntmps18
  go_wp2_with (go_at_call 41; refine (big_any _ _ _ _).mono ?_; rintro e w' ⟨rfl, rfl⟩; refine Hid.out ?_)
  refine Lib.hid ?_
  clear hd hbig hr
  obtain ⟨x, hx8, KX⟩ := atD_the a len cap zs 0 (by omega) w Hr8.out hlen
  have kx := KX w Hr8.out
  obtain ⟨R, hR⟩ : ∃ R : Nat, R = 40 + x := ⟨_, rfl⟩
  have hwR : IntKind.i64.wrap (40 + (x : Int)) = (R : Int) := by rw [IntKind.wrap_i64]; omega
  have hR2 : 40 ≤ R ∧ R ≤ 295 := by omega
  clear hR KX
  go_wp2_with (go_at_call 44; refine kx.mono ?_; rintro e w1 ⟨rfl, rfl⟩; refine Hid.out ?_)
  refine Lib.hid ?_
  clear kx
  obtain ⟨X, hX⟩ : ∃ z, z = w.alloc (.cells #[.int .i64 (R : Int), .string ⟨#[]⟩, .string ⟨#[]⟩, .string ⟨#[]⟩] 26) := ⟨_, rfl⟩
  have KD : Hid (X.heap[w.heap.size]? = some (.cells #[.int .i64 (R : Int), .string ⟨#[]⟩, .string ⟨#[]⟩, .string (entL 0)] 26 (0, 0))) := Lib.hid (by rw [hX, entL_zero]; exact heap_new _ _)
  replace BB : Hid (Below w.heap.size w X) := Lib.hid (by rw [hX]; exact (Below.refl _ _).alloc (Nat.le_refl _) _)
  go_wp2_with fail
  rw [← hX]
  clear hX
  go_loopw [4, 5] (fun nv i wr => ∃ k : Nat, 11 * k ≤ R ∧ i = .int .i64 k ∧ nv = .int .i64 k ∧ Hid (wr.heap[w.heap.size]? = some (.cells #[.int .i64 (R : Int), .string ⟨#[]⟩, .string ⟨#[]⟩, .string (entL k)] 26 (0, 0))) ∧ Hid (Below w.heap.size w wr)) (fun _ i _ => 60 - (intOf i).toNat)
  case atStart => exact ⟨0, by omega, rfl, rfl, KD, BB⟩
  case round =>
    clear KD BB
    obtain ⟨k, hk, rfl, rfl, KD, BB⟩ := hrel
    have LD : Hid (w.heap.size < wr.heap.size) := Lib.hid (lt_of_block KD.out)
    have h60 : (k : Int) < 60 := by omega
    have kA := fun w => impl_append ⟨R, ⟨#[]⟩, ⟨#[]⟩, entL k⟩ ⟨#[101, 110, 116, 114, 121]⟩ w (dsk_sm (room_ok hk (by omega))) (by decide)
    have hlz := entL_size k
    by_cases hf : 11 * (k + 1) ≤ R
    · rw [room_yes hf (by omega)] at kA
      unfold dskV at kA
      dsimp only at kA
      have HLZ := Lib.hid hlz
      clear hlz
      have hc := kA wr
      have fD0 := tcr KD 0
      have fD1 := tcr KD 1
      have fD2 := tcr KD 2
      have fD3 := tcr KD 3
      go_wp2_with (go_at_call 26; refine hc.mono ?_; rintro e w2 ⟨rfl, hb⟩; refine Hid.out ?_)
      refine Lib.hid ?_
      replace KD := tkb hb LD KD
      replace LD := tlz LD hb.size
      replace BB := tbt BB hb
      clear hc hb fD0 fD1 fD2 fD3
      obtain ⟨X1, hX1⟩ : ∃ z, z = w2.alloc (.cells #[.int .i64 (R : Int), .string ⟨#[]⟩, .string ⟨#[]⟩, .string (entL (k + 1))] 26) := ⟨_, rfl⟩
      have hb : Below w2.heap.size w2 X1 := by rw [hX1]; exact (Below.refl _ _).alloc (Nat.le_refl _) _
      replace KD := tkb hb LD KD
      replace LD := tlz LD hb.size
      replace BB := tbt BB hb
      have KE : Hid (X1.heap[w2.heap.size]? = some (.cells #[.int .i64 (R : Int), .string ⟨#[]⟩, .string ⟨#[]⟩, .string (entL (k + 1))] 26 (0, 0))) := Lib.hid (by rw [hX1]; exact heap_new _ _)
      have LE : Hid (w2.heap.size < X1.heap.size) := Lib.hid (by rw [hX1]; simp)
      clear hb
      have fD0 := tcr KD 0
      have fD1 := tcr KD 1
      have fD2 := tcr KD 2
      have fD3 := tcr KD 3
      have fE0 := tcr KE 0
      have fE1 := tcr KE 1
      have fE2 := tcr KE 2
      have fE3 := tcr KE 3
      have zD0 := tfr KD 0
      have zD1 := tfr KD 1
      have zD2 := tfr KD 2
      have zD3 := tfr KD 3
      rw [hX1] at fD0 fD1 fD2 fD3 fE0 fE1 fE2 fE3 zD0 zD1 zD2 zD3
      go_wp2_with fail
      rw [← hX1]
      clear hX1
      go_roundw
      case rel => exact ⟨k + 1, hf, by go_num, by go_num, Lib.hid (storeD KD.out), Lib.hid (belowD BB.out (Nat.le_refl _))⟩
      case measure => simp [intOf]; omega
    rw [room_no (by omega) (by omega)] at kA
    have kY := fun w => impl_sync ⟨R, ⟨#[]⟩, ⟨#[]⟩, entL k⟩ w (dsk_sm (room_ok hk (by omega)))
    have kR := fun w => impl_recover (syncS ⟨R, ⟨#[]⟩, ⟨#[]⟩, entL k⟩) w (dsk_sm (sync_ok (room_ok hk (by omega))))
    rw [room_rec hk (by omega)] at kR
    rw [room_sync hk (by omega)] at kY kR
    have hokF : dskOk ⟨R, ⟨#[]⟩, entL k, ⟨#[]⟩⟩ = true := room_ok2 hk (by omega)
    have kB := fun w => impl_append ⟨R, ⟨#[]⟩, entL k, ⟨#[]⟩⟩ ⟨#[101, 110, 116, 114, 121]⟩ w (dsk_sm hokF) (by decide)
    rw [room_no2 (by omega) (by omega)] at kB
    have kI := fun (T : ByteArray) (hT : T.size ≤ 549755813888) w => room_ins ⟨R, ⟨#[]⟩, entL k, ⟨#[]⟩⟩ T w (dsk_sm hokF) hT
    clear hokF
    have hq : ((R : Int)).tdiv 11 = (k : Int) := by rw [Int.tdiv_eq_ediv_of_nonneg (by omega)]; omega
    have hd : decide ((0 : Int) + 11 * (k : Int) + 11 ≤ (R : Int)) = false := by simp; omega
    have hne := fun w => neq_dsk ⟨R, ⟨#[]⟩, ⟨#[]⟩, entL k⟩ ⟨R, ⟨#[]⟩, ⟨#[]⟩, entL k⟩ w
    rw [dskEq_refl] at hne
    unfold dskV at hne
    try dsimp only at hne
    have heq := fun w => eql_dsk ⟨R, ⟨#[]⟩, entL k, ⟨#[]⟩⟩ ⟨R, ⟨#[]⟩, entL k, ⟨#[]⟩⟩ w
    rw [dskEq_refl] at heq
    unfold dskV at heq
    try dsimp only at heq
    unfold dskV at kA kB kY kR kI
    dsimp only at kA kB kY kR kI
    obtain ⟨L, hL⟩ : ∃ L, L = entL k := ⟨_, rfl⟩
    rw [← hL] at kA kB kY kR kI hne heq hlz KD
    clear hL
    have hd2 : ¬ ((L.size : Int) + 11 ≤ (R : Int)) := by omega
    have hd3 : decide ((L.size : Int) + 11 ≤ (R : Int)) = false := by simp; omega
    have hd4 : decide (L.size + 11 ≤ R) = false := by simp; omega
    have hLb : L.size ≤ 300 := by omega
    have HLZ := Lib.hid hlz
    clear hlz hd
    have hc := kA wr
    have fD0 := tcr KD 0
    have fD1 := tcr KD 1
    have fD2 := tcr KD 2
    have fD3 := tcr KD 3
    go_wp2_with (go_at_call 26; refine hc.mono ?_; rintro e w2 ⟨rfl, hb⟩; refine Hid.out ?_)
    refine Lib.hid ?_
    replace KD := tkb hb LD KD
    replace LD := tlz LD hb.size
    replace BB := tbt BB hb
    clear hc hb fD0 fD1 fD2 fD3
    obtain ⟨X1, hX1⟩ : ∃ z, z = w2.alloc (.cells #[.int .i64 (R : Int), .string ⟨#[]⟩, .string ⟨#[]⟩, .string L] 26) := ⟨_, rfl⟩
    have hb : Below w2.heap.size w2 X1 := by rw [hX1]; exact (Below.refl _ _).alloc (Nat.le_refl _) _
    replace KD := tkb hb LD KD
    replace LD := tlz LD hb.size
    replace BB := tbt BB hb
    have KE : Hid (X1.heap[w2.heap.size]? = some (.cells #[.int .i64 (R : Int), .string ⟨#[]⟩, .string ⟨#[]⟩, .string L] 26 (0, 0))) := Lib.hid (by rw [hX1]; exact heap_new _ _)
    have LE : Hid (w2.heap.size < X1.heap.size) := Lib.hid (by rw [hX1]; simp)
    clear hb
    have hc := kY X1
    have fD0 := tcr KD 0
    have fD1 := tcr KD 1
    have fD2 := tcr KD 2
    have fD3 := tcr KD 3
    have fE0 := tcr KE 0
    have fE1 := tcr KE 1
    have fE2 := tcr KE 2
    have fE3 := tcr KE 3
    rw [hX1] at hc fD0 fD1 fD2 fD3 fE0 fE1 fE2 fE3
    go_wp2_with (go_at_call 29; refine hc.mono ?_; rintro e w3 ⟨rfl, hb⟩; refine Hid.out ?_)
    refine Lib.hid ?_
    rw [← hX1] at hb 
    clear hX1
    replace KD := tkb hb LD KD
    replace LD := tlz LD hb.size
    replace KE := tkb hb LE KE
    replace LE := tlz LE hb.size
    replace BB := tbt BB hb
    clear hc hb fD0 fD1 fD2 fD3 fE0 fE1 fE2 fE3
    have hc := kR w3
    go_wp2_with (go_at_call 38; refine hc.mono ?_; rintro e w4 ⟨v, rfl, ht, hb⟩; refine Hid.out ?_)
    refine Lib.hid ?_
    replace KD := tkb hb LD KD
    replace LD := tlz LD hb.size
    replace KE := tkb hb LE KE
    replace LE := tlz LE hb.size
    replace BB := tbt BB hb
    clear hc hb 
    obtain ⟨a1, c1, rfl⟩ := texts_shape ht
    rw [List.length_replicate]
    clear ht
    obtain ⟨X2, hX2⟩ : ∃ z, z = w4.alloc (.cells #[.int .i64 (R : Int), .string ⟨#[]⟩, .string L, .string ⟨#[]⟩] 26) := ⟨_, rfl⟩
    have hb : Below w4.heap.size w4 X2 := by rw [hX2]; exact (Below.refl _ _).alloc (Nat.le_refl _) _
    replace KD := tkb hb LD KD
    replace LD := tlz LD hb.size
    replace KE := tkb hb LE KE
    replace LE := tlz LE hb.size
    replace BB := tbt BB hb
    have KF : Hid (X2.heap[w4.heap.size]? = some (.cells #[.int .i64 (R : Int), .string ⟨#[]⟩, .string L, .string ⟨#[]⟩] 26 (0, 0))) := Lib.hid (by rw [hX2]; exact heap_new _ _)
    have LF : Hid (w4.heap.size < X2.heap.size) := Lib.hid (by rw [hX2]; simp)
    clear hb
    have fF0 := tcr KF 0
    have fF1 := tcr KF 1
    have fF2 := tcr KF 2
    have fF3 := tcr KF 3
    rw [hX2] at fF0 fF1 fF2 fF3
    go_wp2_with fail
    go_at_call 40
    refine (kI _ ?hT _).mono ?_
    case hT => decide
    rintro e w5 ⟨go, gs, gt, gu, b, rfl, hgb, hb⟩
    rw [← hX2] at hb
    clear hX2 fF0 fF1 fF2 fF3
    replace KD := tkb hb LD KD
    replace LD := tlz LD hb.size
    replace KE := tkb hb LE KE
    replace LE := tlz LE hb.size
    replace KF := tkb hb LF KF
    replace LF := tlz LF hb.size
    replace BB := tbt BB hb
    clear hb
    have HGB := Lib.hid hgb
    clear hgb
    obtain ⟨X3, hX3⟩ : ∃ z, z = w5.alloc (.cells #[.int .i64 go, .string gs, .string gt, .string gu] 26) := ⟨_, rfl⟩
    have hb : Below w5.heap.size w5 X3 := by rw [hX3]; exact (Below.refl _ _).alloc (Nat.le_refl _) _
    replace KD := tkb hb LD KD
    replace LD := tlz LD hb.size
    replace KE := tkb hb LE KE
    replace LE := tlz LE hb.size
    replace KF := tkb hb LF KF
    replace LF := tlz LF hb.size
    replace BB := tbt BB hb
    have KG : Hid (X3.heap[w5.heap.size]? = some (.cells #[.int .i64 go, .string gs, .string gt, .string gu] 26 (0, 0))) := Lib.hid (by rw [hX3]; exact heap_new _ _)
    have LG : Hid (w5.heap.size < X3.heap.size) := Lib.hid (by rw [hX3]; simp)
    clear hb
    have hc := kB X3
    have fF0 := tcr KF 0
    have fF1 := tcr KF 1
    have fF2 := tcr KF 2
    have fF3 := tcr KF 3
    rw [hX3] at hc fF0 fF1 fF2 fF3
    go_wp2_with (go_at_call 26; refine hc.mono ?_; rintro e w6 ⟨rfl, hb⟩; refine Hid.out ?_)
    refine Lib.hid ?_
    rw [← hX3] at hb 
    clear hX3
    replace KD := tkb hb LD KD
    replace LD := tlz LD hb.size
    replace KE := tkb hb LE KE
    replace LE := tlz LE hb.size
    replace KF := tkb hb LF KF
    replace LF := tlz LF hb.size
    replace KG := tkb hb LG KG
    replace LG := tlz LG hb.size
    replace BB := tbt BB hb
    clear hc hb fF0 fF1 fF2 fF3
    obtain ⟨X4, hX4⟩ : ∃ z, z = w6.alloc (.cells #[.int .i64 (R : Int), .string ⟨#[]⟩, .string L, .string ⟨#[]⟩] 26) := ⟨_, rfl⟩
    have hb : Below w6.heap.size w6 X4 := by rw [hX4]; exact (Below.refl _ _).alloc (Nat.le_refl _) _
    replace KD := tkb hb LD KD
    replace LD := tlz LD hb.size
    replace KE := tkb hb LE KE
    replace LE := tlz LE hb.size
    replace KF := tkb hb LF KF
    replace LF := tlz LF hb.size
    replace KG := tkb hb LG KG
    replace LG := tlz LG hb.size
    replace BB := tbt BB hb
    have KH : Hid (X4.heap[w6.heap.size]? = some (.cells #[.int .i64 (R : Int), .string ⟨#[]⟩, .string L, .string ⟨#[]⟩] 26 (0, 0))) := Lib.hid (by rw [hX4]; exact heap_new _ _)
    have LH : Hid (w6.heap.size < X4.heap.size) := Lib.hid (by rw [hX4]; simp)
    clear hb
    cases b
    · obtain ⟨rfl, rfl, rfl, rfl⟩ := HGB.out rfl
      have fD0 := tcr KD 0
      have fD1 := tcr KD 1
      have fD2 := tcr KD 2
      have fD3 := tcr KD 3
      have fF0 := tcr KF 0
      have fF1 := tcr KF 1
      have fF2 := tcr KF 2
      have fF3 := tcr KF 3
      have fG0 := tcr KG 0
      have fG1 := tcr KG 1
      have fG2 := tcr KG 2
      have fG3 := tcr KG 3
      have fH0 := tcr KH 0
      have fH1 := tcr KH 1
      have fH2 := tcr KH 2
      have fH3 := tcr KH 3
      rw [hX4] at BB fD0 fD1 fD2 fD3 fF0 fF1 fF2 fF3 fG0 fG1 fG2 fG3 fH0 fH1 fH2 fH3
      go_wp2_with fail
      go_ret
      exact ⟨rfl, BB.out⟩
    · have fD0 := tcr KD 0
      have fD1 := tcr KD 1
      have fD2 := tcr KD 2
      have fD3 := tcr KD 3
      have fF0 := tcr KF 0
      have fF1 := tcr KF 1
      have fF2 := tcr KF 2
      have fF3 := tcr KF 3
      have fG0 := tcr KG 0
      have fG1 := tcr KG 1
      have fG2 := tcr KG 2
      have fG3 := tcr KG 3
      have fH0 := tcr KH 0
      have fH1 := tcr KH 1
      have fH2 := tcr KH 2
      have fH3 := tcr KH 3
      rw [hX4] at BB fD0 fD1 fD2 fD3 fF0 fF1 fF2 fF3 fG0 fG1 fG2 fG3 fH0 fH1 fH2 fH3
      go_wp2_with fail
      go_ret
      exact ⟨rfl, BB.out⟩
end Go.Proofs.Ytkkmjlpeahkiaaa
