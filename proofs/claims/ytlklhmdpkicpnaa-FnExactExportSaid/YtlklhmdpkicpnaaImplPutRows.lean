/- What the program's putRows answers, at items and at talks. Condition: rows of a right state. -/
import Derived.Test.YtlklhmdpkicpnaaBaseA
import Derived.Test.YtlklhmdpkicpnaaImplRows
namespace Go.Proofs.Ytlklhmdpkicpnaa
open Go.RowKit
set_option linter.unusedVariables false
set_option linter.unusedSimpArgs false

theorem encI_flat {xs : List It} (h : ∀ x ∈ xs, SmI x) : (xs.flatMap encIt).length ≤ xs.length * 132 := by
  induction xs with
  | nil => exact Nat.le_refl _
  | cons x xs ih =>
    have h1 := encI_len (h x (by simp))
    have h2 := ih (fun y hy => h y (by simp [hy]))
    rw [List.flatMap_cons, List.length_append, List.length_cons]; omega
theorem encT_flat {xs : List Tk} (h : ∀ x ∈ xs, SmT x) : (xs.flatMap encTk).length ≤ xs.length * 136 := by
  induction xs with
  | nil => exact Nat.le_refl _
  | cons x xs ih =>
    have h1 := encT_len (h x (by simp))
    have h2 := ih (fun y hy => h y (by simp [hy]))
    rw [List.flatMap_cons, List.length_append, List.length_cons]; omega

set_option maxRecDepth 100000 in
set_option maxHeartbeats 4000000 in
theorem impl_putRowsI (xs : List It) (v : Value) (B : Nat) (w : World) (hr : Raw w B v xs.length (xs.flatMap itC)) (hB : B ≤ w.heap.size) (hl : xs.length ≤ 40) (hs : ∀ x ∈ xs, SmI x) :
    Calls Try.prog 121 #[v] w fun e w' => e = .returned (.string ⟨(be8 xs.length 2 ++ xs.flatMap encIt).toArray⟩) ∧ Below w.heap.size w w' := by
  obtain ⟨a, cap, rfl, hnc, hcap, _, hat⟩ := hr
  obtain ⟨n, hN⟩ : ∃ n, n = xs.length := ⟨_, rfl⟩
  rw [← hN] at hnc hat hl ⊢
  have HN := Lib.hid hN
  have Hat := Lib.hid hat
  have Hs := Lib.hid hs
  unfold maxLen at hcap
  obtain ⟨W, hW⟩ : ∃ W, W = w.alloc (.cells #[.pointer none, .slice none 0 0] 105) := ⟨_, rfl⟩
  have bW : Below w.heap.size w W := by rw [hW]; exact (Below.refl _ _).alloc (Nat.le_refl _) _
  have B0 : Hid (Bld W w.heap.size w.heap.size []) := Lib.hid (by rw [hW]; exact Bld.fresh w)
  have BB := Lib.hid bW
  have hc := impl_putNum (n : Int) 2 (by omega) (by omega) W
  rw [hW] at hc
  clear hat hs hN bW
  go_enter Try.func121, Try.ntmps121
  go_wp2_with (go_at_call 59; refine hc.mono ?_; rintro e w1 ⟨rfl, hb⟩; refine Hid.out ?_)
  refine Lib.hid ?_
  rw [← hW] at hb
  replace B0 := Lib.hid (B0.out.later hb)
  replace BB := tbt BB hb
  obtain ⟨pn, hpn⟩ : ∃ p, p = txt (putN (n : Int) 2) := ⟨_, rfl⟩
  rw [← hpn]
  have hpz : pn.size = 2 := by rw [hpn]; exact putN_size _
  have Hpn : Hid (pn.data.toList = be8 n 2) := Lib.hid (by rw [hpn]; exact cnt_list n)
  clear hc hb hW hpn
  have hc := bld_write w.heap.size w.heap.size [] pn w1 B0.out (by rw [hpz]; decide) BB.out.size
  go_wp2_with (go_at_call 88; refine hc.mono ?_; rintro e w2 ⟨rfl, hbl, hb⟩; refine Hid.out ?_)
  refine Lib.hid ?_
  replace B0 := Lib.hid hbl
  rw [List.nil_append, Hpn.out] at B0
  replace BB := Lib.hid (BB.out.trans hb)
  clear hc hb hbl hpz Hpn
  go_wp2_with fail
  go_loopw [12] (fun i wr => ∃ k : Nat, k ≤ n ∧ i = .int .i64 k ∧ Hid (Below w.heap.size w wr) ∧ Hid (Bld wr w.heap.size w.heap.size (be8 n 2 ++ (xs.take k).flatMap encIt))) (fun i _ => n - (intOf i).toNat)
  case atStart => exact ⟨0, by omega, rfl, BB, by rw [List.take_zero]; exact Lib.hid (by simpa using B0.out)⟩
  case round =>
    clear B0 BB
    obtain ⟨k, hk, rfl, BB, B0⟩ := hrel
    by_cases hlt : k < n
    · obtain ⟨g, o, ha, hg, hAt⟩ := Hat.out (by omega)
      subst ha
      have hkl : k < xs.length := by have := HN.out; omega
      obtain ⟨x, hx⟩ : ∃ x, x = xs[k] := ⟨_, rfl⟩
      have hsx : SmI x := Hs.out x (by rw [hx]; exact List.getElem_mem _)
      have hgw : g < w.heap.size := by omega
      have hcx := hAt.item k hkl
      rw [← hx] at hcx
      have hcl : wr.cell? ⟨g, o + k * 2, none⟩ = some (.string x.k) ∧ wr.cell? ⟨g, o + k * 2 + 1, none⟩ = some (.string x.v) := by
        have hq : ∀ j, wr.cell? ⟨g, j, none⟩ = w.cell? ⟨g, j, none⟩ := fun j => BB.out.cell (p := ⟨g, j, none⟩) hgw
        simp only [hq]; exact hcx
      obtain ⟨f0, f1⟩ := hcl
      have HX := Lib.hid hx
      have Hsx := Lib.hid hsx
      have hlt' : (k : Int) < (n : Int) := by omega
      obtain ⟨X, hX⟩ : ∃ X, X = wr.alloc (.cells #[.string x.k, .string x.v] 114) := ⟨_, rfl⟩
      have bX : Below wr.heap.size wr X := by rw [hX]; exact (Below.refl _ _).alloc (Nat.le_refl _) _
      have KX : Hid (X.heap[wr.heap.size]? = some (.cells #[.string x.k, .string x.v] 114 (0, 0))) := Lib.hid (by rw [hX]; exact heap_new _ _)
      have hc := impl_putRowI x X hsx
      rw [hX] at hc
      unfold itA at hc
      clear hsx hcx hx hgw
      go_wp2_with (go_at_call 145; refine hc.mono ?_; rintro e w4 ⟨rfl, hb⟩; refine Hid.out ?_)
      refine Lib.hid ?_
      rw [← hX] at hb
      replace B0 := Lib.hid ((B0.out.later bX).later hb)
      replace BB := Lib.hid ((BB.out.trans (bX.mono BB.out.size)).trans (hb.mono (Nat.le_trans BB.out.size bX.size)))
      clear hc hb bX KX hX f0 f1
      have hln : (be8 n 2 ++ (xs.take k).flatMap encIt).length + (rowIB x).size ≤ 140737488355328 := by
        have h1 := encI_flat (xs := xs.take k) (fun y hy => Hs.out y (List.mem_of_mem_take hy))
        have h2 := rowI_size Hsx.out
        rw [List.length_append, be8_len]
        rw [List.length_take] at h1
        omega
      have hc := bld_write w.heap.size w.heap.size _ (rowIB x) w4 B0.out hln BB.out.size
      clear hln
      go_wp2_with (go_at_call 88; refine hc.mono ?_; rintro e w5 ⟨rfl, hbl, hb⟩; refine Hid.out ?_)
      refine Lib.hid ?_
      replace B0 := Lib.hid hbl
      replace BB := Lib.hid (BB.out.trans hb)
      clear hc hb hbl
      go_wp2_with fail
      go_roundw
      case rel =>
        refine ⟨k + 1, by omega, by go_num, BB, Lib.hid ?_⟩
        have h := B0.out
        rw [rowI_list Hsx.out, List.append_assoc] at h
        rw [List.take_succ_eq_append_getElem hkl, List.flatMap_append, ← HX.out]
        simpa using h
      case measure => simp [intOf]; omega
    · have hlt' : ¬ (k : Int) < (n : Int) := by omega
      have hkn : k = xs.length := by have := HN.out; omega
      replace B0 := Lib.hid (by have h := B0.out; rw [hkn, List.take_length] at h; exact h)
      have hc := bld_string w.heap.size w.heap.size _ wr B0.out BB.out.size
      clear hkn
      go_wp2_with (go_at_call 90; refine hc.mono ?_; rintro e w6 ⟨rfl, hb⟩)
      go_ret
      exact ⟨rfl, BB.out.trans hb⟩

set_option maxRecDepth 100000 in
set_option maxHeartbeats 4000000 in
theorem impl_putRowsT (xs : List Tk) (v : Value) (B : Nat) (w : World) (hr : Raw w B v xs.length (xs.flatMap tkC)) (hB : B ≤ w.heap.size) (hl : xs.length ≤ 40) (hs : ∀ x ∈ xs, SmT x) :
    Calls Try.prog 122 #[v] w fun e w' => e = .returned (.string ⟨(be8 xs.length 2 ++ xs.flatMap encTk).toArray⟩) ∧ Below w.heap.size w w' := by
  obtain ⟨a, cap, rfl, hnc, hcap, _, hat⟩ := hr
  obtain ⟨n, hN⟩ : ∃ n, n = xs.length := ⟨_, rfl⟩
  rw [← hN] at hnc hat hl ⊢
  have HN := Lib.hid hN
  have Hat := Lib.hid hat
  have Hs := Lib.hid hs
  unfold maxLen at hcap
  obtain ⟨W, hW⟩ : ∃ W, W = w.alloc (.cells #[.pointer none, .slice none 0 0] 105) := ⟨_, rfl⟩
  have bW : Below w.heap.size w W := by rw [hW]; exact (Below.refl _ _).alloc (Nat.le_refl _) _
  have B0 : Hid (Bld W w.heap.size w.heap.size []) := Lib.hid (by rw [hW]; exact Bld.fresh w)
  have BB := Lib.hid bW
  have hc := impl_putNum (n : Int) 2 (by omega) (by omega) W
  rw [hW] at hc
  clear hat hs hN bW
  go_enter Try.func122, Try.ntmps122
  go_wp2_with (go_at_call 59; refine hc.mono ?_; rintro e w1 ⟨rfl, hb⟩; refine Hid.out ?_)
  refine Lib.hid ?_
  rw [← hW] at hb
  replace B0 := Lib.hid (B0.out.later hb)
  replace BB := tbt BB hb
  obtain ⟨pn, hpn⟩ : ∃ p, p = txt (putN (n : Int) 2) := ⟨_, rfl⟩
  rw [← hpn]
  have hpz : pn.size = 2 := by rw [hpn]; exact putN_size _
  have Hpn : Hid (pn.data.toList = be8 n 2) := Lib.hid (by rw [hpn]; exact cnt_list n)
  clear hc hb hW hpn
  have hc := bld_write w.heap.size w.heap.size [] pn w1 B0.out (by rw [hpz]; decide) BB.out.size
  go_wp2_with (go_at_call 88; refine hc.mono ?_; rintro e w2 ⟨rfl, hbl, hb⟩; refine Hid.out ?_)
  refine Lib.hid ?_
  replace B0 := Lib.hid hbl
  rw [List.nil_append, Hpn.out] at B0
  replace BB := Lib.hid (BB.out.trans hb)
  clear hc hb hbl hpz Hpn
  go_wp2_with fail
  go_loopw [12] (fun i wr => ∃ k : Nat, k ≤ n ∧ i = .int .i64 k ∧ Hid (Below w.heap.size w wr) ∧ Hid (Bld wr w.heap.size w.heap.size (be8 n 2 ++ (xs.take k).flatMap encTk))) (fun i _ => n - (intOf i).toNat)
  case atStart => exact ⟨0, by omega, rfl, BB, by rw [List.take_zero]; exact Lib.hid (by simpa using B0.out)⟩
  case round =>
    clear B0 BB
    obtain ⟨k, hk, rfl, BB, B0⟩ := hrel
    by_cases hlt : k < n
    · obtain ⟨g, o, ha, hg, hAt⟩ := Hat.out (by omega)
      subst ha
      have hkl : k < xs.length := by have := HN.out; omega
      obtain ⟨x, hx⟩ : ∃ x, x = xs[k] := ⟨_, rfl⟩
      have hsx : SmT x := Hs.out x (by rw [hx]; exact List.getElem_mem _)
      have hgw : g < w.heap.size := by omega
      have hcx := hAt.talk k hkl
      rw [← hx] at hcx
      have hcl : wr.cell? ⟨g, o + k * 3, none⟩ = some (.string x.c) ∧ wr.cell? ⟨g, o + k * 3 + 1, none⟩ = some (.int .i64 x.q) ∧ wr.cell? ⟨g, o + k * 3 + 2, none⟩ = some (.string x.r) := by
        have hq : ∀ j, wr.cell? ⟨g, j, none⟩ = w.cell? ⟨g, j, none⟩ := fun j => BB.out.cell (p := ⟨g, j, none⟩) hgw
        simp only [hq]; exact hcx
      obtain ⟨f0, f1, f2⟩ := hcl
      have HX := Lib.hid hx
      have Hsx := Lib.hid hsx
      have hlt' : (k : Int) < (n : Int) := by omega
      obtain ⟨X, hX⟩ : ∃ X, X = wr.alloc (.cells #[.string x.c, .int .i64 x.q, .string x.r] 116) := ⟨_, rfl⟩
      have bX : Below wr.heap.size wr X := by rw [hX]; exact (Below.refl _ _).alloc (Nat.le_refl _) _
      have KX : Hid (X.heap[wr.heap.size]? = some (.cells #[.string x.c, .int .i64 x.q, .string x.r] 116 (0, 0))) := Lib.hid (by rw [hX]; exact heap_new _ _)
      have hc := impl_putRowT x X hsx
      rw [hX] at hc
      unfold tkA at hc
      clear hsx hcx hx hgw
      go_wp2_with (go_at_call 145; refine hc.mono ?_; rintro e w4 ⟨rfl, hb⟩; refine Hid.out ?_)
      refine Lib.hid ?_
      rw [← hX] at hb
      replace B0 := Lib.hid ((B0.out.later bX).later hb)
      replace BB := Lib.hid ((BB.out.trans (bX.mono BB.out.size)).trans (hb.mono (Nat.le_trans BB.out.size bX.size)))
      clear hc hb bX KX hX f0 f1 f2
      have hln : (be8 n 2 ++ (xs.take k).flatMap encTk).length + (rowTB x).size ≤ 140737488355328 := by
        have h1 := encT_flat (xs := xs.take k) (fun y hy => Hs.out y (List.mem_of_mem_take hy))
        have h2 := rowT_size Hsx.out
        rw [List.length_append, be8_len]
        rw [List.length_take] at h1
        omega
      have hc := bld_write w.heap.size w.heap.size _ (rowTB x) w4 B0.out hln BB.out.size
      clear hln
      go_wp2_with (go_at_call 88; refine hc.mono ?_; rintro e w5 ⟨rfl, hbl, hb⟩; refine Hid.out ?_)
      refine Lib.hid ?_
      replace B0 := Lib.hid hbl
      replace BB := Lib.hid (BB.out.trans hb)
      clear hc hb hbl
      go_wp2_with fail
      go_roundw
      case rel =>
        refine ⟨k + 1, by omega, by go_num, BB, Lib.hid ?_⟩
        have h := B0.out
        rw [rowT_list Hsx.out, List.append_assoc] at h
        rw [List.take_succ_eq_append_getElem hkl, List.flatMap_append, ← HX.out]
        simpa using h
      case measure => simp [intOf]; omega
    · have hlt' : ¬ (k : Int) < (n : Int) := by omega
      have hkn : k = xs.length := by have := HN.out; omega
      replace B0 := Lib.hid (by have h := B0.out; rw [hkn, List.take_length] at h; exact h)
      have hc := bld_string w.heap.size w.heap.size _ wr B0.out BB.out.size
      clear hkn
      go_wp2_with (go_at_call 90; refine hc.mono ?_; rintro e w6 ⟨rfl, hb⟩)
      go_ret
      exact ⟨rfl, BB.out.trans hb⟩
end Go.Proofs.Ytlklhmdpkicpnaa
