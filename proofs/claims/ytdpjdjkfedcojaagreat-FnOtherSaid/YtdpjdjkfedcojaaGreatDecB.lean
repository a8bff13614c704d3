/- What the proofs of this seat have in common: plain facts, rows in memory, the laws' own helpers, the small functions' contracts. Condition: none. -/
import Derived.Test.YtdpjdjkfedcojaaGreatRows
import Derived.Test.YtdpjdjkfedcojaaGreatBaseA
import Derived.WalkKit
import Derived.WalkSpells
import Derived.WalkLawsBesides
import Derived.LoopTactic
import Derived.Lib.Hide
import Derived.Test.YtdpjdjkfedcojaaGreatImplRow
import Derived.Test.YtdpjdjkfedcojaaGreatImplSays
namespace Go.Proofs.YtdpjdjkfedcojaaGreat
open Go.RowKit
set_option linter.unusedVariables false

theorem decText_zero (w : World) :
    Calls Tryz.prog 21 #[.int .i64 0] w fun e w' => e = .returned (.string ⟨(Lib.itoa 0).toArray⟩) ∧ w = w' := by
  have h : ((⟨(Lib.itoa 0).toArray⟩ : ByteArray) = ⟨#[48]⟩) := by decide +kernel
  rw [h]
  go_enter Tryz.func21, Tryz.ntmps21
  go_wp2
  go_ret
  exact ⟨rfl, rfl⟩

set_option maxHeartbeats 400000 in
theorem decText_pos (n : Nat) (h0 : 0 < n) (hn : (n : Int) ≤ 9223372036854775807) (w : World) :
    Calls Tryz.prog 21 #[.int .i64 n] w fun e w' => e = .returned (.string ⟨(Lib.decDigits n).toArray⟩) ∧ w = w' := by
  have hn0 : ((n : Int) == 0) = false := by simp; omega
  go_enter Tryz.func21, Tryz.ntmps21
  go_wp2
  go_loop [3, 4] (fun out i => ∃ (m : Nat) (s : ByteArray), m ≤ n ∧ i = .int .i64 m ∧ out = .string s ∧ Hid (Left n m s)) (fun _ i => (intOf i).toNat)
  case atStart => exact ⟨n, _, Nat.le_refl _, rfl, rfl, Lib.hid (Left.start n h0)⟩
  case round =>
    obtain ⟨m, s, hm, rfl, rfl, hl⟩ := hrel
    have hb := hl.out.bound (by omega)
    by_cases hlt : 0 < m
    · have hd1 : (0 : Int) ≤ (m : Int) % 10 := by omega
      have hd2 : (m : Int) % 10 < 10 := by omega
      have hd3 : min (m % 10 + 1) 10 - m % 10 + s.size ≤ 9223372036854775807 := by omega
      have hst := Lib.hid (hl.out.step hlt)
      go_wp2
      go_round
      case rel => exact ⟨m / 10, _, by omega, by go_num, rfl, hst⟩
      case measure => simp [intOf]; omega
    · obtain rfl : m = 0 := by omega
      go_wp2
      go_ret
      exact ⟨ret_str hl.out.fin, rfl⟩

set_option maxHeartbeats 400000 in
theorem decText_neg (n : Nat) (h0 : 0 < n) (hn : (n : Int) ≤ 9223372036854775808) (w : World) :
    Calls Tryz.prog 21 #[.int .i64 (-(n : Int))] w fun e w' => e = .returned (.string ⟨((45 : UInt8) :: Lib.decDigits n).toArray⟩) ∧ w = w' := by
  have hn0 : ((-(n : Int)) == 0) = false := by simp; omega
  go_enter Tryz.func21, Tryz.ntmps21
  go_wp2
  go_loop [3, 4] (fun out i => ∃ (m : Nat) (s : ByteArray), m ≤ n ∧ i = .int .i64 (-(m : Int)) ∧ out = .string s ∧ Hid (Left n m s)) (fun _ i => (-(intOf i)).toNat)
  case atStart => exact ⟨n, _, Nat.le_refl _, rfl, rfl, Lib.hid (Left.start n h0)⟩
  case round =>
    obtain ⟨m, s, hm, rfl, rfl, hl⟩ := hrel
    have hb := hl.out.bound (by omega)
    by_cases hlt : 0 < m
    · have hd1 : (0 : Int) ≤ (m : Int) % 10 := by omega
      have hd2 : (m : Int) % 10 < 10 := by omega
      have hd3 : min (m % 10 + 1) 10 - m % 10 + s.size ≤ 9223372036854775807 := by omega
      have hst := Lib.hid (hl.out.step hlt)
      go_wp2
      · go_round
        case rel => exact ⟨m / 10, _, by omega, by go_num, rfl, hst⟩
        case measure => simp [intOf]; omega
      · have hz : (m : Int) % 10 ≤ 0 := by assumption
        have e1 : (-((m : Int) % 10)).toNat = m % 10 := by omega
        have e2 : (-((m : Int) % 10) + 1).toNat = m % 10 + 1 := by omega
        go_round
        case rel => exact ⟨m / 10, _, by omega, by go_num, rfl, by rw [e1, e2]; exact hst⟩
        case measure => simp [intOf]; omega
    · obtain rfl : m = 0 := by omega
      go_wp2
      go_ret
      exact ⟨ret_str hl.out.fin_neg, rfl⟩

/-- spec.DecText at every int. -/
theorem spec_decText (n : Int) (h0 : -9223372036854775808 ≤ n) (h1 : n ≤ 9223372036854775807) (w : World) :
    Calls Tryz.prog 21 #[.int .i64 n] w fun e w' => e = .returned (.string ⟨(Lib.itoa n).toArray⟩) ∧ w = w' := by
  rcases Int.lt_trichotomy n 0 with h | h | h
  · obtain ⟨m, rfl⟩ : ∃ m : Nat, n = -(m : Int) := ⟨n.natAbs, by omega⟩
    rw [itoa_neg m (by omega)]
    exact decText_neg m (by omega) (by omega) w
  · subst h
    exact decText_zero w
  · obtain ⟨m, rfl⟩ : ∃ m : Nat, n = (m : Int) := ⟨n.natAbs, by omega⟩
    rw [itoa_pos m]
    exact decText_pos m (by omega) (by omega) w
end Go.Proofs.YtdpjdjkfedcojaaGreat

namespace Go.Proofs.YtdpjdjkfedcojaaGreat
open Go.RowKit List
set_option linter.unusedVariables false

theorem at1_item (x : It) (p : Nat) (key : ByteArray) (w : World) (hp : w.cell? ⟨p, 0, none⟩ = some (.string key)) (hpl : p < w.heap.size) :
    Calls Tryz.prog 90 #[itA x, .pointer (some ⟨p, 0, none⟩)] w fun e w' => e = .returned (.bool (x.k.toList == key.toList)) ∧ Below w.heap.size w w' := by
  unfold itA
  obtain ⟨W, hW⟩ : ∃ W, W = w.alloc (.cells #[.string x.k, .string x.v] 45) := ⟨_, rfl⟩
  have hbW : Below w.heap.size w W := by rw [hW]; exact (Below.refl _ _).alloc (Nat.le_refl _) _
  have hWs : W.heap.size = w.heap.size + 1 := by rw [hW]; simp
  have HV : Hid (∀ w', Below W.heap.size W w' → w'.cell? ⟨w.heap.size, 0, none⟩ = some (.string x.k) ∧ w'.cell? ⟨w.heap.size, 1, none⟩ = some (.string x.v)) := Lib.hid (fun w' h => by
    rw [h.cell (show w.heap.size < W.heap.size by omega), h.cell (show w.heap.size < W.heap.size by omega), hW, World.cell?_alloc_new, World.cell?_alloc_new]; exact ⟨rfl, rfl⟩)
  have HP : Hid (∀ w', Below W.heap.size W w' → w'.cell? ⟨p, 0, none⟩ = some (.string key)) := Lib.hid (fun w' h => by
    rw [(hbW.trans (h.mono hbW.size)).cell hpl]; exact hp)
  clear hp
  go_enter Tryz.func90, Tryz.ntmps90
  go_wp2
  rw [← hW]
  clear hW hWs
  have mN := meth_nameI
  refine wp_region_held_drew (S := (fun w' => Below W.heap.size W w')) (by kernel_rfl) ((Below.refl W.heap.size W).drew) (fun hHeld => ?_)
  refine tk 0 (v := ?_) ?_ ?_; rotate_left
  · refine Or.inl ⟨by rfl, ?_⟩; intro w hSw; have f0 := HV.out w hSw; have f1 := HP.out w hSw; go_simp; first | done | with_reducible rfl
  refine tk 3 (v := ?_) ?_ ?_; rotate_left
  · refine Or.inl ⟨by rfl, ?_⟩; intro w hSw; have f0 := HV.out w hSw; have f1 := HP.out w hSw; go_simp; first | done | with_reducible rfl
  refine tk0 1 ?_
  refine rd1 2 (fun K hK => ?_)
  go_simp
  go_at_call 135
  refine (impl_nameI x _).mono ?_
  rintro e w1 ⟨rfl, hb1⟩
  have B1 := hHeld.trans (hb1.mono hHeld.size)
  go_wp2_with fail
  refine hK.out _ _ (B1) (fun hHeld => ?_)
  clear hK K
  refine tk0 4 ?_
  refine tk0 5 ?_
  refine wpAnyH_done (by kernel_rfl) ?_ _
  clear mN
  go_wp2_with fail
  go_ret
  exact ⟨rfl, hbW.trans (B1.mono hbW.size)⟩

set_option maxHeartbeats 400000 in
theorem idx_items (xs : List It) (v : Value) (B p : Nat) (key : ByteArray) (w : World) (hr : Raw w B v xs.length (xs.flatMap itC)) (hB : B ≤ w.heap.size) (hp : w.cell? ⟨p, 0, none⟩ = some (.string key)) (hpl : p < w.heap.size) :
    Calls Tryz.prog 89 #[v, .func (.func 90) #[] #[.pointer (some ⟨p, 0, none⟩)]] w fun e w' => e = .returned (.int .i64 (itemAt xs key)) ∧ Below w.heap.size w w' := by
  obtain ⟨a, cap, rfl, hn, hcap, _, hat⟩ := hr
  obtain ⟨n, hN⟩ : ∃ n, n = xs.length := ⟨_, rfl⟩
  rw [← hN] at hn hat ⊢
  have HN := Lib.hid hN
  have Hat := Lib.hid hat
  have HP := Lib.hid hp
  unfold maxLen at hcap
  clear hN hat hp
  go_enter Tryz.func89, Tryz.ntmps89
  go_wp2
  go_loopw [8] (fun i wr => ∃ k : Nat, k ≤ n ∧ i = .int .i64 k ∧ Hid (∀ j (hj : j < xs.length), j < k → ¬ xs[j].k = key) ∧ Hid (Below w.heap.size w wr)) (fun i _ => n - (intOf i).toNat)
  case atStart => exact ⟨0, by omega, rfl, Lib.hid (fun j hj h => by omega), Lib.hid (Below.refl _ _)⟩
  case round =>
    obtain ⟨k, hk, rfl, hno, hbw⟩ := hrel
    by_cases hlt : k < n
    · obtain ⟨g, o, ha, hg, hAt⟩ := Hat.out (by omega)
      subst ha
      have hkl : k < xs.length := by have := HN.out; omega
      obtain ⟨x, hx⟩ : ∃ x, x = xs[k] := ⟨_, rfl⟩
      have hgw : g < w.heap.size := by omega
      have hc := hAt.item k hkl
      rw [← hx] at hc
      simp only [← hbw.out.cell (p := ⟨g, o + k * 2, none⟩) hgw, ← hbw.out.cell (p := ⟨g, o + k * 2 + 1, none⟩) hgw] at hc
      have hcall := at1_item x p key wr (by rw [hbw.out.cell hpl]; exact HP.out) (Nat.lt_of_lt_of_le hpl hbw.out.size)
      have HX := Lib.hid hx
      clear hx hAt Hat
      obtain ⟨hc0, hc1⟩ := hc
      have hb0 := hbw.out
      by_cases he : x.k = key
      · have hv : Hid (itemAt xs key = k) := Lib.hid (itemAt_found hkl (by rw [← HX.out]; exact he) (fun i hi => hno.out i (by omega) hi))
        have hq := teq he
        rw [hq] at hcall
        clear he hq
        go_wp2_with (go_at_call 90; refine hcall.mono ?_; rintro e w1 ⟨rfl, hb1⟩; refine Hid.out ?_)
        refine Lib.hid ?_
        have hb2 := hb0.trans (hb1.mono hb0.size)
        go_wp2_with fail
        go_ret
        exact ⟨ret_int (by rw [hv.out]), hb2⟩
      · have hno' : Hid (∀ j (hj : j < xs.length), j < k + 1 → ¬ xs[j].k = key) := Lib.hid (fun i hi h => by
          by_cases h' : i = k
          · subst h'; rw [← HX.out]; exact he
          · exact hno.out i hi (by omega))
        have hq := tne he
        rw [hq] at hcall
        clear he hq
        go_wp2_with (go_at_call 90; refine hcall.mono ?_; rintro e w1 ⟨rfl, hb1⟩; refine Hid.out ?_)
        refine Lib.hid ?_
        have hb2 := hb0.trans (hb1.mono hb0.size)
        go_wp2_with fail
        go_roundw
        case rel => exact ⟨k + 1, by omega, by go_num, hno', Lib.hid hb2⟩
        case measure => simp [intOf]; omega
    · have hv : Hid (itemAt xs key = -1) := Lib.hid (itemAt_none (fun i hi => hno.out i hi (by have := HN.out; omega)))
      go_wp2
      go_ret
      exact ⟨ret_int (by rw [hv.out]), hbw.out⟩

theorem list_itemAt (xs : List It) (v : Value) (B : Nat) (key : ByteArray) (w : World) (hr : Raw w B v xs.length (xs.flatMap itC)) (hB : B ≤ w.heap.size) :
    Calls Tryz.prog 51 #[v, .string key] w fun e w' => e = .returned (.int .i64 (itemAt xs key)) ∧ Below w.heap.size w w' := by
  have hbW : Below w.heap.size w (w.alloc (.cells #[.string key] 9)) := (Below.refl _ _).alloc (Nat.le_refl _) _
  have hc := idx_items xs v B w.heap.size key (w.alloc (.cells #[.string key] 9)) (hr.later (hbW.mono hB) (Nat.le_refl _)) (by simp; omega) (by rw [World.cell?_alloc_new]; rfl) (by simp)
  go_enter Tryz.func51, Tryz.ntmps51
  go_wp2_with (go_at_call 89; refine hc.mono ?_; rintro e w1 ⟨rfl, hb1⟩; refine Hid.out ?_)
  refine Lib.hid ?_
  have hb2 := hbW.trans (hb1.mono hbW.size)
  go_wp2_with fail
  go_ret
  exact ⟨rfl, hb2⟩

theorem impl_itemAt : ImplItemAt := by
  intro s v B key w hs hB hf _
  obtain ⟨vi, vt, rfl, hri, hrt⟩ := hs.rd
  have hbW : Below w.heap.size w (w.alloc (.cells #[vi, vt] 27)) := (Below.refl _ _).alloc (Nat.le_refl _) _
  have hc := list_itemAt s.items vi B key (w.alloc (.cells #[vi, vt] 27)) (hri.later (hbW.mono hB) (Nat.le_refl _)) (by simp; omega)
  go_enter Tryz.func22, Tryz.ntmps22
  go_wp2_with (go_at_call 51; refine hc.mono ?_; rintro e w1 ⟨rfl, hb1⟩; refine Hid.out ?_)
  refine Lib.hid ?_
  have hb2 := hbW.trans (hb1.mono hbW.size)
  go_wp2_with fail
  go_ret
  exact ⟨rfl, hb2⟩

end Go.Proofs.YtdpjdjkfedcojaaGreat
