/- What Apart answers, the program's and the model's. Condition: what the argument may be. -/
import Derived.Test.YtebmaplflpfjbaaStates
import Derived.Test.YtebmaplflpfjbaaPartOf
namespace Go.Proofs.Ytebmaplflpfjbaa
open Go.RowKit
set_option linter.unusedVariables false
set_option linter.unusedSimpArgs false

/-- Each item is in the state of its part. -/
def apartB (ss : List St) : Bool := (List.range ss.length).all fun (k : Nat) => (ss.getD k ⟨[], []⟩).items.all fun x => decide (partN x.k ss.length = (k : Int))
theorem apart_iff (ss : List St) : apartB ss = true ↔ ∀ k (h : k < ss.length), ∀ x ∈ ss[k].items, partN x.k ss.length = k := by
  unfold apartB
  rw [List.all_eq_true]
  constructor
  · intro h k hk x hx
    have h1 := h k (List.mem_range.2 hk)
    rw [List.all_eq_true] at h1
    have h2 : ss.getD k ⟨[], []⟩ = ss[k] := by simp [List.getD, List.getElem?_eq_getElem hk]
    rw [h2] at h1
    simpa using h1 x hx
  · intro h k hk
    have hk := List.mem_range.1 hk
    rw [List.all_eq_true]
    intro x hx
    have h2 : ss.getD k ⟨[], []⟩ = ss[k] := by simp [List.getD, List.getElem?_eq_getElem hk]
    rw [h2] at hx
    simpa using h k hk x hx
theorem apart_no {ss : List St} {k : Nat} {n : Int} {x : It} (hk : k < ss.length) (hn : (ss.length : Int) = n) (hx : x ∈ ss[k].items) (h : ¬ partN x.k n = k) : apartB ss = false := by
  cases hc : apartB ss
  · rfl
  · subst hn; exact absurd ((apart_iff ss).1 hc k hk x hx) h
theorem apart_yes {ss : List St} (h : ∀ k (hk : k < ss.length), ∀ x ∈ ss[k].items, partN x.k ss.length = k) : apartB ss = true := (apart_iff ss).2 h

set_option maxHeartbeats 4000000 in
theorem impl_apart (qs : List Sq) (v : Value) (B : Nat) (w : World) (hr : RdL w B v qs) (hB : B ≤ w.heap.size) (hf : ∀ q ∈ qs, ∀ x ∈ q.s.items, x.k.size ≤ maxLen) :
    Calls Try.prog 22 #[v] w fun e w' => e = .returned (.bool (apartB (qs.map Sq.s))) ∧ Below w.heap.size w w' := by
  obtain ⟨⟨a, cap, rfl, hn, hcap, _, hat⟩, hrd⟩ := hr
  obtain ⟨n, hN⟩ : ∃ n, n = qs.length := ⟨_, rfl⟩
  have HM : Hid ((qs.map Sq.s).length = n) := Lib.hid (by simp [hN])
  rw [← hN] at hn hat ⊢
  have HN := Lib.hid hN
  have Hat := Lib.hid hat
  have Hf := Lib.hid hf
  have Hrd := Lib.hid hrd
  unfold maxLen at hcap
  clear hN hat hf hrd
  go_enter Try.func22, Try.ntmps22
  go_wp2
  go_loopw [9] (fun i wr => ∃ k : Nat, k ≤ n ∧ i = .int .i64 k ∧ Hid (∀ j (hj : j < qs.length), j < k → ∀ x ∈ qs[j].s.items, partN x.k n = j) ∧ Hid (Below w.heap.size w wr)) (fun i _ => n - (intOf i).toNat)
  case atStart => exact ⟨0, Nat.zero_le _, rfl, Lib.hid (fun j hj h => by omega), Lib.hid (Below.refl _ _)⟩
  case round =>
    obtain ⟨k, hk, rfl, hno, hbw⟩ := hrel
    by_cases hlt : k < n
    · obtain ⟨g, o, ha, hg, hAt⟩ := Hat.out (by omega)
      subst ha
      have hkl : k < qs.length := by have := HN.out; omega
      obtain ⟨x, hx⟩ : ∃ x, x = qs[k] := ⟨_, rfl⟩
      have hxm : x ∈ qs := by rw [hx]; exact List.getElem_mem _
      have hgw : g < w.heap.size := by omega
      have hc := hAt.sq k hkl
      rw [← hx] at hc
      simp only [← hbw.out.cell (p := ⟨g, o + k * 2, none⟩) hgw, ← hbw.out.cell (p := ⟨g, o + k * 2 + 1, none⟩) hgw] at hc
      obtain ⟨vi, vt, hv, r1, r2⟩ := Hrd.out x hxm
      obtain ⟨hvi, hvt⟩ : x.vi = vi ∧ x.vt = vt := by unfold Sq.v at hv; simpa using hv
      rw [hvi, hvt] at hc
      obtain ⟨ai, ci, rfl, hni, hci, _, hati⟩ := r1
      obtain ⟨at_, ct, rfl, _⟩ := r2
      obtain ⟨m, hm⟩ : ∃ m, m = x.s.items.length := ⟨_, rfl⟩
      rw [← hm] at hni hati hc
      have Hm := Lib.hid hm
      have Hati := Lib.hid hati
      have HX := Lib.hid hx
      have Hfx := Lib.hid (Hf.out x hxm)
      have hlt' : (k : Int) < (n : Int) := by omega
      obtain ⟨hc0, hc1⟩ := hc
      unfold maxLen at hci
      have hsz := Lib.hid hbw.out.size
      have Hbox : Hid (Below w.heap.size w (wr.alloc (.cells #[.slice ai m ci, .slice at_ x.s.talks.length ct] 31))) := Lib.hid (hbw.out.alloc hsz.out _)
      clear hx hxm hAt hv hvi hvt hm hati
      go_wp2
      go_loopw [17] (fun i wr => ∃ j : Nat, j ≤ m ∧ i = .int .i64 j ∧ Hid (∀ i (hi : i < x.s.items.length), i < j → partN x.s.items[i].k n = k) ∧ Hid (Below w.heap.size w wr)) (fun i _ => m - (intOf i).toNat)
      case atStart => exact ⟨0, Nat.zero_le _, rfl, Lib.hid (fun j hj h => by omega), Hbox⟩
      case round =>
        obtain ⟨j, hj, rfl, hnj, hbz⟩ := hrel
        by_cases hjl : j < m
        · obtain ⟨g', o', ha', hg', hAt'⟩ := Hati.out (by omega)
          subst ha'
          have hjk : j < x.s.items.length := by have := Hm.out; omega
          obtain ⟨y, hy⟩ : ∃ y, y = x.s.items[j] := ⟨_, rfl⟩
          have hgz : g' < w.heap.size := by omega
          have hd := hAt'.item j hjk
          rw [← hy] at hd
          simp only [← hbz.out.cell (p := ⟨g', o' + j * 2, none⟩) hgz, ← hbz.out.cell (p := ⟨g', o' + j * 2 + 1, none⟩) hgz] at hd
          have HY := Lib.hid hy
          have Hyk := Lib.hid (Hfx.out y (by rw [hy]; exact List.getElem_mem _))
          have hjl' : (j : Int) < (m : Int) := by omega
          have hszz := Lib.hid hbz.out.size
          obtain ⟨hd0, hd1⟩ := hd
          clear hy hAt' hc0 hc1
          obtain ⟨pk, hpk⟩ : ∃ pk, pk = partN y.k n := ⟨_, rfl⟩
          have Hpk := Lib.hid hpk
          have HB1 : Hid (Below w.heap.size w (wr.alloc (.cells #[.string y.k, .string y.v] 74))) := Lib.hid (hbz.out.alloc hszz.out _)
          clear hpk
          by_cases he : pk = k
          · have hq : (pk != (k : Int)) = false := by simpa using he
            have hnj' : Hid (∀ i (hi : i < x.s.items.length), i < j + 1 → partN x.s.items[i].k n = k) := Lib.hid (fun i hi h => by
              by_cases h' : i = j
              · subst h'
                have h1 := HY.out
                rw [← h1, ← Hpk.out, he]
              · exact hnj.out i hi (by omega))
            clear he
            go_wp2_with (go_at_call 13; refine (impl_partOf _ _ _ Hyk.out).mono ?_; rintro e w' ⟨rfl, rfl⟩; rw [← Hpk.out])
            go_roundw
            case rel => exact ⟨j + 1, by omega, by go_num, hnj', HB1⟩
            case measure => simp [intOf]; omega
          · have hq : (pk != (k : Int)) = true := by simpa using he
            have hres : Hid (apartB (qs.map Sq.s) = false) := Lib.hid (by
              have h1 : (qs.map Sq.s)[k]'(by simpa using hkl) = x.s := by rw [List.getElem_map, ← HX.out]
              refine apart_no (k := k) (x := y) (n := (n : Int)) (by simpa using hkl) (by rw [HM.out]) (by rw [h1, HY.out]; exact List.getElem_mem _) ?_
              rw [← Hpk.out]; exact he)
            clear he
            go_wp2_with (go_at_call 13; refine (impl_partOf _ _ _ Hyk.out).mono ?_; rintro e w' ⟨rfl, rfl⟩; rw [← Hpk.out])
            go_ret
            exact ⟨ret_bool (by rw [hres.out]), HB1.out⟩
        · have hjl' : ¬ (j : Int) < (m : Int) := by omega
          have hno' : Hid (∀ i (hi : i < qs.length), i < k + 1 → ∀ x ∈ qs[i].s.items, partN x.k n = i) := Lib.hid (fun i hi h => by
            by_cases h' : i = k
            · subst h'
              intro z hz
              rw [← HX.out] at hz
              obtain ⟨i2, hi2, rfl⟩ := List.getElem_of_mem hz
              exact hnj.out i2 hi2 (by have := Hm.out; omega)
            · exact hno.out i hi (by omega))
          clear hc0 hc1
          go_wp2
          go_roundw
          case rel => exact ⟨k + 1, by omega, by go_num, hno', hbz⟩
          case measure => simp [intOf]; omega
    · have hlt' : ¬ (k : Int) < (n : Int) := by omega
      have hres : Hid (apartB (qs.map Sq.s) = true) := Lib.hid (apart_yes (fun i hi z hz => by
        have hi' : i < qs.length := by simpa using hi
        rw [List.getElem_map] at hz
        rw [HM.out]
        exact hno.out i hi' (by have := HN.out; omega) z hz))
      go_wp2
      go_ret
      exact ⟨ret_bool (by rw [hres.out]), hbw.out⟩

set_option maxHeartbeats 4000000 in
theorem spec_apart (qs : List Sq) (v : Value) (B : Nat) (w : World) (hr : RdL w B v qs) (hB : B ≤ w.heap.size) (hf : ∀ q ∈ qs, ∀ x ∈ q.s.items, x.k.size ≤ maxLen) :
    Calls Try.prog 27 #[v] w fun e w' => e = .returned (.bool (apartB (qs.map Sq.s))) ∧ w = w' := by
  obtain ⟨⟨a, cap, rfl, hn, hcap, _, hat⟩, hrd⟩ := hr
  obtain ⟨n, hN⟩ : ∃ n, n = qs.length := ⟨_, rfl⟩
  have HM : Hid ((qs.map Sq.s).length = n) := Lib.hid (by simp [hN])
  rw [← hN] at hn hat ⊢
  have HN := Lib.hid hN
  have Hat := Lib.hid hat
  have Hf := Lib.hid hf
  have Hrd := Lib.hid hrd
  unfold maxLen at hcap
  clear hN hat hf hrd
  go_enter Try.func27, Try.ntmps27
  go_wp2
  go_loop [3] (fun i => ∃ k : Nat, k ≤ n ∧ i = .int .i64 k ∧ Hid (∀ j (hj : j < qs.length), j < k → ∀ x ∈ qs[j].s.items, partN x.k n = j)) (fun i => n - (intOf i).toNat)
  case atStart => exact ⟨0, Nat.zero_le _, rfl, Lib.hid (fun j hj h => by omega)⟩
  case round =>
    obtain ⟨k, hk, rfl, hno⟩ := hrel
    by_cases hlt : k < n
    · obtain ⟨g, o, ha, hg, hAt⟩ := Hat.out (by omega)
      subst ha
      have hkl : k < qs.length := by have := HN.out; omega
      obtain ⟨x, hx⟩ : ∃ x, x = qs[k] := ⟨_, rfl⟩
      have hxm : x ∈ qs := by rw [hx]; exact List.getElem_mem _
      have hc := (hAt.sq k hkl).1
      rw [← hx] at hc
      obtain ⟨vi, vt, hv, r1, r2⟩ := Hrd.out x hxm
      obtain ⟨hvi, hvt⟩ : x.vi = vi ∧ x.vt = vt := by unfold Sq.v at hv; simpa using hv
      rw [hvi] at hc
      obtain ⟨ai, ci, rfl, hni, hci, _, hati⟩ := r1
      obtain ⟨m, hm⟩ : ∃ m, m = x.s.items.length := ⟨_, rfl⟩
      rw [← hm] at hni hati hc
      have Hm := Lib.hid hm
      have Hati := Lib.hid hati
      have HX := Lib.hid hx
      have Hfx := Lib.hid (Hf.out x hxm)
      have hlt' : (k : Int) < (n : Int) := by omega
      unfold maxLen at hci
      clear hx hxm hAt hv hvi hvt r2 hm hati
      go_wp2
      go_loop [4] (fun i => ∃ j : Nat, j ≤ m ∧ i = .int .i64 j ∧ Hid (∀ i (hi : i < x.s.items.length), i < j → partN x.s.items[i].k n = k)) (fun i => m - (intOf i).toNat)
      case atStart => exact ⟨0, Nat.zero_le _, rfl, Lib.hid (fun j hj h => by omega)⟩
      case round =>
        obtain ⟨j, hj, rfl, hnj⟩ := hrel
        by_cases hjl : j < m
        · obtain ⟨g', o', ha', hg', hAt'⟩ := Hati.out (by omega)
          subst ha'
          have hjk : j < x.s.items.length := by have := Hm.out; omega
          obtain ⟨y, hy⟩ : ∃ y, y = x.s.items[j] := ⟨_, rfl⟩
          have hd := (hAt'.item j hjk).1
          rw [← hy] at hd
          have HY := Lib.hid hy
          have Hyk := Lib.hid (Hfx.out y (by rw [hy]; exact List.getElem_mem _))
          have hjl' : (j : Int) < (m : Int) := by omega
          clear hy hAt'
          obtain ⟨pk, hpk⟩ : ∃ pk, pk = partN y.k n := ⟨_, rfl⟩
          have Hpk := Lib.hid hpk
          clear hpk
          by_cases he : pk = k
          · have hq : (pk != (k : Int)) = false := by simpa using he
            have hnj' : Hid (∀ i (hi : i < x.s.items.length), i < j + 1 → partN x.s.items[i].k n = k) := Lib.hid (fun i hi h => by
              by_cases h' : i = j
              · subst h'
                have h1 := HY.out
                rw [← h1, ← Hpk.out, he]
              · exact hnj.out i hi (by omega))
            clear he
            go_wp2_with (go_at_call 14; refine (spec_partOf _ _ _ Hyk.out).mono ?_; rintro e w' ⟨rfl, rfl⟩; rw [← Hpk.out])
            go_round
            case rel => exact ⟨j + 1, by omega, by go_num, hnj'⟩
            case measure => simp [intOf]; omega
          · have hq : (pk != (k : Int)) = true := by simpa using he
            have hres : Hid (apartB (qs.map Sq.s) = false) := Lib.hid (by
              have h1 : (qs.map Sq.s)[k]'(by simpa using hkl) = x.s := by rw [List.getElem_map, ← HX.out]
              refine apart_no (k := k) (x := y) (n := (n : Int)) (by simpa using hkl) (by rw [HM.out]) (by rw [h1, HY.out]; exact List.getElem_mem _) ?_
              rw [← Hpk.out]; exact he)
            clear he
            go_wp2_with (go_at_call 14; refine (spec_partOf _ _ _ Hyk.out).mono ?_; rintro e w' ⟨rfl, rfl⟩; rw [← Hpk.out])
            go_ret
            exact ⟨ret_bool (by rw [hres.out]), rfl⟩
        · have hjl' : ¬ (j : Int) < (m : Int) := by omega
          have hno' : Hid (∀ i (hi : i < qs.length), i < k + 1 → ∀ x ∈ qs[i].s.items, partN x.k n = i) := Lib.hid (fun i hi h => by
            by_cases h' : i = k
            · subst h'
              intro z hz
              rw [← HX.out] at hz
              obtain ⟨i2, hi2, rfl⟩ := List.getElem_of_mem hz
              exact hnj.out i2 hi2 (by have := Hm.out; omega)
            · exact hno.out i hi (by omega))
          go_wp2
          go_round
          case rel => exact ⟨k + 1, by omega, by go_num, hno'⟩
          case measure => simp [intOf]; omega
    · have hlt' : ¬ (k : Int) < (n : Int) := by omega
      have hres : Hid (apartB (qs.map Sq.s) = true) := Lib.hid (apart_yes (fun i hi z hz => by
        have hi' : i < qs.length := by simpa using hi
        rw [List.getElem_map] at hz
        rw [HM.out]
        exact hno.out i hi' (by have := HN.out; omega) z hz))
      go_wp2
      go_ret
      exact ⟨ret_bool (by rw [hres.out]), rfl⟩
end Go.Proofs.Ytebmaplflpfjbaa
