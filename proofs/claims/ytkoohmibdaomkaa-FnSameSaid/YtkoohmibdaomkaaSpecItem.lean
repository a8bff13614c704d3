/- What spec.l03Item, spec.l03Talk, spec.ItemAt and spec.TalkAt answer. Condition: none beyond what the arguments may be. -/
import Derived.Test.YtkoohmibdaomkaaState
import Derived.Test.YtkoohmibdaomkaaNameOk
import Derived.Test.YtkoohmibdaomkaaBefore
namespace Go.Proofs.Ytkoohmibdaomkaa
open Go.RowKit
set_option linter.unusedVariables false

def itOk (x : It) : Bool := nameOkB x.k.data.toList && decide ((x.v.size : Int) ≤ 60)
def tkOk (x : Tk) : Bool := (nameOkB x.c.data.toList && inB x.q 1 1000000000) && decide ((x.r.size : Int) ≤ 60)

theorem spec_item (x : It) (w : World) (hk : x.k.size ≤ maxLen) :
    Calls Try.prog 59 #[itA x] w fun e w' => e = .returned (.bool (itOk x)) ∧ Below w.heap.size w w' := by
  unfold itA itOk
  generalize hn : nameOkB x.k.data.toList = n
  have hc := fun w => spec_nameOk x.k w hk
  rw [hn] at hc
  clear hn
  cases n
  all_goals
    go_enter Try.func59, Try.ntmps59
    go_wp2_with (go_at_call 89; refine (hc _).mono ?_; rintro e w' ⟨rfl, rfl⟩)
    go_ret
    exact ⟨rfl, (Below.refl _ _).alloc (Nat.le_refl _) _⟩

theorem spec_talk (x : Tk) (w : World) (hk : x.c.size ≤ maxLen) (hq : -9223372036854775808 ≤ x.q ∧ x.q ≤ 9223372036854775807) :
    Calls Try.prog 60 #[tkA x] w fun e w' => e = .returned (.bool (tkOk x)) ∧ Below w.heap.size w w' := by
  unfold tkA tkOk
  generalize hn : nameOkB x.c.data.toList = n
  have hc := fun w => spec_nameOk x.c w hk
  rw [hn] at hc
  clear hn
  generalize hm : inB x.q 1 1000000000 = m
  have hc2 := fun w => in_any x.q 1 1000000000 w
  rw [hm] at hc2
  clear hm
  cases n <;> cases m
  all_goals
    go_enter Try.func60, Try.ntmps60
    go_wp2_with (first | (go_at_call 89; refine (hc _).mono ?_; rintro e w' ⟨rfl, rfl⟩) | (go_at_call 71; refine (hc2 _).mono ?_; rintro e w' ⟨rfl, rfl⟩))
    go_ret
    exact ⟨rfl, (Below.refl _ _).alloc (Nat.le_refl _) _⟩

set_option maxHeartbeats 400000 in
theorem spec_itemAt (s : St) (v : Value) (B : Nat) (key : ByteArray) (w : World) (hs : StV w B v s) (hB : B ≤ w.heap.size) :
    Calls Try.prog 22 #[v, .string key] w fun e w' => e = .returned (.int .i64 (itemAt s.items key)) ∧ Below w.heap.size w w' := by
  obtain ⟨vi, vt, rfl, ⟨hli, hi⟩, ⟨hlt, ht⟩⟩ := hs
  rcases hi with ⟨rfl, h0⟩ | ⟨g, o, cap, rfl, h1, h2, h3, h4⟩
  · have hv : Hid (itemAt s.items key = -1) := Lib.hid (itemAt_none (fun i hi => by omega))
    go_enter Try.func22, Try.ntmps22
    go_wp2
    go_loop [5] (fun i => i = .int .i64 0) (fun _ => 0)
    case atStart => rfl
    case round =>
      subst hrel
      go_wp2
      go_ret
      exact ⟨ret_int (by rw [hv.out]), (Below.refl _ _).alloc (Nat.le_refl _) _⟩
  · have H4 := Lib.hid h4
    have H3 := Lib.hid h3
    clear h3 h4 hli hlt ht
    unfold maxLen at h2
    go_enter Try.func22, Try.ntmps22
    go_wp2
    go_loop [5] (fun i => ∃ k : Nat, k ≤ s.items.length ∧ i = .int .i64 k ∧ Hid (∀ i (hi : i < s.items.length), i < k → ¬ s.items[i].k = key)) (fun i => s.items.length - (intOf i).toNat)
    case atStart => exact ⟨0, Nat.zero_le _, rfl, Lib.hid (fun i _ h => by omega)⟩
    case round =>
      obtain ⟨k, hk, rfl, hno⟩ := hrel
      by_cases hlt : k < s.items.length
      · have hg : g < w.heap.size := by rcases H3.out with h | h <;> omega
        have hcell := (H4.out.item k hlt).1
        have hcell' := ((Below.refl w.heap.size w).alloc (Nat.le_refl _) (.cells #[.slice (some ⟨g, o, none⟩) s.items.length cap, vt] 27)).cell (p := ⟨g, o + k * 2, none⟩) hg
        rw [hcell] at hcell'
        clear hcell
        by_cases he : s.items[k].k = key
        · have hv : Hid (itemAt s.items key = k) := Lib.hid (itemAt_found hlt he (fun i hi => hno.out i (by omega) hi))
          have hq := teq he
          clear he
          go_wp2
          go_ret
          exact ⟨ret_int (by rw [hv.out]), (Below.refl _ _).alloc (Nat.le_refl _) _⟩
        · have hq := tne he
          have hno' : Hid (∀ i (hi : i < s.items.length), i < k + 1 → ¬ s.items[i].k = key) := Lib.hid (fun i hi h => by
            by_cases h' : i = k
            · subst h'; exact he
            · exact hno.out i hi (by omega))
          clear he
          go_wp2
          go_round
          case rel => exact ⟨k + 1, by omega, by go_num, hno'⟩
          case measure => simp [intOf]; omega
      · have hv : Hid (itemAt s.items key = -1) := Lib.hid (itemAt_none (fun i hi => hno.out i hi (by omega)))
        go_wp2
        go_ret
        exact ⟨ret_int (by rw [hv.out]), (Below.refl _ _).alloc (Nat.le_refl _) _⟩

set_option maxHeartbeats 400000 in
theorem spec_talkAt (s : St) (v : Value) (B : Nat) (key : ByteArray) (w : World) (hs : StV w B v s) (hB : B ≤ w.heap.size) :
    Calls Try.prog 33 #[v, .string key] w fun e w' => e = .returned (.int .i64 (talkAt s.talks key)) ∧ Below w.heap.size w w' := by
  obtain ⟨vi, vt, rfl, ⟨hli, hi⟩, ⟨hlt, ht⟩⟩ := hs
  rcases ht with ⟨rfl, h0⟩ | ⟨g, o, cap, rfl, h1, h2, h3, h4⟩
  · have hv : Hid (talkAt s.talks key = -1) := Lib.hid (talkAt_none (fun i hi => by omega))
    go_enter Try.func33, Try.ntmps33
    go_wp2
    go_loop [5] (fun i => i = .int .i64 0) (fun _ => 0)
    case atStart => rfl
    case round =>
      subst hrel
      go_wp2
      go_ret
      exact ⟨ret_int (by rw [hv.out]), (Below.refl _ _).alloc (Nat.le_refl _) _⟩
  · have H4 := Lib.hid h4
    have H3 := Lib.hid h3
    clear h3 h4 hli hlt hi
    unfold maxLen at h2
    go_enter Try.func33, Try.ntmps33
    go_wp2
    go_loop [5] (fun i => ∃ k : Nat, k ≤ s.talks.length ∧ i = .int .i64 k ∧ Hid (∀ i (hi : i < s.talks.length), i < k → ¬ s.talks[i].c = key)) (fun i => s.talks.length - (intOf i).toNat)
    case atStart => exact ⟨0, Nat.zero_le _, rfl, Lib.hid (fun i _ h => by omega)⟩
    case round =>
      obtain ⟨k, hk, rfl, hno⟩ := hrel
      by_cases hlt : k < s.talks.length
      · have hg : g < w.heap.size := by rcases H3.out with h | h <;> omega
        have hcell := (H4.out.talk k hlt).1
        have hcell' := ((Below.refl w.heap.size w).alloc (Nat.le_refl _) (.cells #[vi, .slice (some ⟨g, o, none⟩) s.talks.length cap] 27)).cell (p := ⟨g, o + k * 3, none⟩) hg
        rw [hcell] at hcell'
        clear hcell
        by_cases he : s.talks[k].c = key
        · have hv : Hid (talkAt s.talks key = k) := Lib.hid (talkAt_found hlt he (fun i hi => hno.out i (by omega) hi))
          have hq := teq he
          clear he
          go_wp2
          go_ret
          exact ⟨ret_int (by rw [hv.out]), (Below.refl _ _).alloc (Nat.le_refl _) _⟩
        · have hq := tne he
          have hno' : Hid (∀ i (hi : i < s.talks.length), i < k + 1 → ¬ s.talks[i].c = key) := Lib.hid (fun i hi h => by
            by_cases h' : i = k
            · subst h'; exact he
            · exact hno.out i hi (by omega))
          clear he
          go_wp2
          go_round
          case rel => exact ⟨k + 1, by omega, by go_num, hno'⟩
          case measure => simp [intOf]; omega
      · have hv : Hid (talkAt s.talks key = -1) := Lib.hid (talkAt_none (fun i hi => hno.out i hi (by omega)))
        go_wp2
        go_ret
        exact ⟨ret_int (by rw [hv.out]), (Below.refl _ _).alloc (Nat.le_refl _) _⟩

end Go.Proofs.Ytkoohmibdaomkaa
