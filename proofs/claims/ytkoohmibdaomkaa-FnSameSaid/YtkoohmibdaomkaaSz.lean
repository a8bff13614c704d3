/- What the exact laws' size functions tell of a state that came in: where one isn't negative, all its texts are small. Condition: none. -/
import Derived.Test.YtkoohmibdaomkaaForms
import Derived.WalkSpells
import Derived.WalkLawsBesides
import Derived.LoopTactic
namespace Go.Proofs.Ytkoohmibdaomkaa
open Go.RowKit
set_option linter.unusedVariables false

theorem sz_item (x : It) (l : Int) (w : World) (hk : x.k.size ≤ maxLen) (hv : x.v.size ≤ maxLen) (hl : 0 ≤ l ∧ l ≤ 1048576) :
    Calls Try.prog 42 #[itA x, .int .i64 l] w fun e w' => ∃ r : Int, e = .returned (.int .i64 r) ∧ -1 ≤ r ∧ r ≤ l ∧ (0 ≤ r → (x.k.size : Int) ≤ l ∧ (x.v.size : Int) ≤ l) ∧ Below w.heap.size w w' := by
  unfold maxLen at hk hv
  unfold itA
  by_cases h1 : l - (x.k.size : Int) < 0
  · go_enter Try.func42, Try.ntmps42
    go_wp2
    go_ret
    exact ⟨-1, ret_int rfl, by omega, by omega, fun h => by omega, (Below.refl _ _).alloc (Nat.le_refl _) _⟩
  · by_cases h2 : l - (x.k.size : Int) - (x.v.size : Int) < 0
    · go_enter Try.func42, Try.ntmps42
      go_wp2
      go_ret
      exact ⟨-1, ret_int rfl, by omega, by omega, fun h => by omega, (Below.refl _ _).alloc (Nat.le_refl _) _⟩
    · go_enter Try.func42, Try.ntmps42
      go_wp2
      go_ret
      exact ⟨l - x.k.size - x.v.size, ret_int rfl, by omega, by omega, fun h => by omega, (Below.refl _ _).alloc (Nat.le_refl _) _⟩
theorem sz_talk (x : Tk) (l : Int) (w : World) (hk : x.c.size ≤ maxLen) (hv : x.r.size ≤ maxLen) (hl : 0 ≤ l ∧ l ≤ 1048576) :
    Calls Try.prog 46 #[tkA x, .int .i64 l] w fun e w' => ∃ r : Int, e = .returned (.int .i64 r) ∧ -1 ≤ r ∧ r ≤ l ∧ (0 ≤ r → (x.c.size : Int) ≤ l ∧ (x.r.size : Int) ≤ l) ∧ Below w.heap.size w w' := by
  unfold maxLen at hk hv
  unfold tkA
  by_cases h1 : l - (x.c.size : Int) < 0
  · go_enter Try.func46, Try.ntmps46
    go_wp2
    go_ret
    exact ⟨-1, ret_int rfl, by omega, by omega, fun h => by omega, (Below.refl _ _).alloc (Nat.le_refl _) _⟩
  · by_cases h2 : l - (x.c.size : Int) - (x.r.size : Int) < 0
    · go_enter Try.func46, Try.ntmps46
      go_wp2
      go_ret
      exact ⟨-1, ret_int rfl, by omega, by omega, fun h => by omega, (Below.refl _ _).alloc (Nat.le_refl _) _⟩
    · go_enter Try.func46, Try.ntmps46
      go_wp2
      go_ret
      exact ⟨l - x.c.size - x.r.size, ret_int rfl, by omega, by omega, fun h => by omega, (Below.refl _ _).alloc (Nat.le_refl _) _⟩

set_option maxHeartbeats 1000000 in
theorem sz_items (xs : List It) (v : Value) (B : Nat) (l : Int) (w : World) (hr : Raw w B v xs.length (xs.flatMap itC)) (hf : ∀ x ∈ xs, FitIt x) (hB : B ≤ w.heap.size) (hl : 0 ≤ l ∧ l ≤ 1048576) :
    Calls Try.prog 75 #[v, .int .i64 l] w fun e w' => ∃ r : Int, e = .returned (.int .i64 r) ∧ -1 ≤ r ∧ r ≤ l ∧ (0 ≤ r → (xs.length : Int) ≤ l ∧ ∀ x ∈ xs, (x.k.size : Int) ≤ l ∧ (x.v.size : Int) ≤ l) ∧ Below w.heap.size w w' := by
  obtain ⟨a, cap, rfl, hn, hcap, _, hat⟩ := hr
  obtain ⟨n, hN⟩ : ∃ n, n = xs.length := ⟨_, rfl⟩
  rw [← hN] at hn hat ⊢
  have HN := Lib.hid hN
  have Hat := Lib.hid hat
  unfold maxLen at hcap
  clear hN hat
  by_cases h1 : l - (n : Int) < 0
  · go_enter Try.func75, Try.ntmps75
    go_wp2
    go_ret
    exact ⟨-1, ret_int rfl, by omega, by omega, fun h => by omega, Below.refl _ _⟩
  · go_enter Try.func75, Try.ntmps75
    go_wp2
    go_loopw [1, 5] (fun lv i wr => ∃ (k : Nat) (q : Int), k ≤ n ∧ i = .int .i64 k ∧ lv = .int .i64 q ∧ 0 ≤ q ∧ q ≤ l ∧ Hid (∀ j (hj : j < xs.length), j < k → (xs[j].k.size : Int) ≤ l ∧ (xs[j].v.size : Int) ≤ l) ∧ Hid (Below w.heap.size w wr)) (fun _ i _ => n - (intOf i).toNat)
    case atStart => exact ⟨0, l - n, by omega, rfl, rfl, by omega, by omega, Lib.hid (fun j hj h => by omega), Lib.hid (Below.refl _ _)⟩
    case round =>
      obtain ⟨k, q, hk, rfl, rfl, hq0, hq1, hsm, hbw⟩ := hrel
      by_cases hlt : k < n
      · obtain ⟨g, o, ha, hg, hAt⟩ := Hat.out (by omega)
        subst ha
        have hkl : k < xs.length := by have := HN.out; omega
        obtain ⟨x, hx⟩ : ∃ x, x = xs[k] := ⟨_, rfl⟩
        have hfx := hf x (by rw [hx]; exact List.getElem_mem _)
        have hgw : g < w.heap.size := by omega
        have hc := hAt.item k hkl
        rw [← hx] at hc
        simp only [← hbw.out.cell (p := ⟨g, o + k * 2, none⟩) hgw, ← hbw.out.cell (p := ⟨g, o + k * 2 + 1, none⟩) hgw] at hc
        have hcall := fun w => sz_item x q w hfx.1 hfx.2 ⟨hq0, by omega⟩
        have HX := Lib.hid hx
        have Hat' := Lib.hid hAt
        clear hx hAt hfx Hat
        obtain ⟨hc0, hc1⟩ := hc
        have hb0 := hbw.out
        have hsz := hb0.size
        have Hf := Lib.hid hf
        clear hf
        go_wp2_with (go_at_call 42; refine (hcall _).mono ?_; rintro e w1 ⟨r, rfl, hr0, hr1, hr2, hb1⟩; refine Hid.out ?_)
        refine Lib.hid ?_
        have hb2 := hb0.trans (hb1.mono hsz)
        by_cases hneg : r < 0
        · clear hr2
          go_wp2_with fail
          go_ret
          exact ⟨-1, ret_int rfl, by omega, by omega, fun h => by omega, hb2⟩
        · have hr2 := hr2 (by omega)
          have hsm' : Hid (∀ j (hj : j < xs.length), j < k + 1 → (xs[j].k.size : Int) ≤ l ∧ (xs[j].v.size : Int) ≤ l) := Lib.hid (fun j hj h => by
            by_cases he : j = k
            · subst he
              have h2 := HX.out
              rw [← h2]; omega
            · exact hsm.out j hj (by omega))
          clear hr2
          go_wp2_with fail
          go_roundw
          case rel => exact ⟨k + 1, r, by omega, by go_num, rfl, by omega, by omega, hsm', Lib.hid hb2⟩
          case measure => simp [intOf]; omega
      · go_wp2
        go_ret
        exact ⟨q, ret_int rfl, by omega, by omega, fun h => ⟨by omega, fun x hx => by
          obtain ⟨j, hj, rfl⟩ := List.getElem_of_mem hx
          exact hsm.out j hj (by have := HN.out; omega)⟩, hbw.out⟩

set_option maxHeartbeats 1000000 in
theorem sz_talks (xs : List Tk) (v : Value) (B : Nat) (l : Int) (w : World) (hr : Raw w B v xs.length (xs.flatMap tkC)) (hf : ∀ x ∈ xs, FitTk x) (hB : B ≤ w.heap.size) (hl : 0 ≤ l ∧ l ≤ 1048576) :
    Calls Try.prog 76 #[v, .int .i64 l] w fun e w' => ∃ r : Int, e = .returned (.int .i64 r) ∧ -1 ≤ r ∧ r ≤ l ∧ (0 ≤ r → (xs.length : Int) ≤ l ∧ ∀ x ∈ xs, (x.c.size : Int) ≤ l ∧ (x.r.size : Int) ≤ l) ∧ Below w.heap.size w w' := by
  obtain ⟨a, cap, rfl, hn, hcap, _, hat⟩ := hr
  obtain ⟨n, hN⟩ : ∃ n, n = xs.length := ⟨_, rfl⟩
  rw [← hN] at hn hat ⊢
  have HN := Lib.hid hN
  have Hat := Lib.hid hat
  unfold maxLen at hcap
  clear hN hat
  by_cases h1 : l - (n : Int) < 0
  · go_enter Try.func76, Try.ntmps76
    go_wp2
    go_ret
    exact ⟨-1, ret_int rfl, by omega, by omega, fun h => by omega, Below.refl _ _⟩
  · go_enter Try.func76, Try.ntmps76
    go_wp2
    go_loopw [1, 5] (fun lv i wr => ∃ (k : Nat) (q : Int), k ≤ n ∧ i = .int .i64 k ∧ lv = .int .i64 q ∧ 0 ≤ q ∧ q ≤ l ∧ Hid (∀ j (hj : j < xs.length), j < k → (xs[j].c.size : Int) ≤ l ∧ (xs[j].r.size : Int) ≤ l) ∧ Hid (Below w.heap.size w wr)) (fun _ i _ => n - (intOf i).toNat)
    case atStart => exact ⟨0, l - n, by omega, rfl, rfl, by omega, by omega, Lib.hid (fun j hj h => by omega), Lib.hid (Below.refl _ _)⟩
    case round =>
      obtain ⟨k, q, hk, rfl, rfl, hq0, hq1, hsm, hbw⟩ := hrel
      by_cases hlt : k < n
      · obtain ⟨g, o, ha, hg, hAt⟩ := Hat.out (by omega)
        subst ha
        have hkl : k < xs.length := by have := HN.out; omega
        obtain ⟨x, hx⟩ : ∃ x, x = xs[k] := ⟨_, rfl⟩
        have hfx := hf x (by rw [hx]; exact List.getElem_mem _)
        have hgw : g < w.heap.size := by omega
        have hc := hAt.talk k hkl
        rw [← hx] at hc
        simp only [← hbw.out.cell (p := ⟨g, o + k * 3, none⟩) hgw, ← hbw.out.cell (p := ⟨g, o + k * 3 + 1, none⟩) hgw, ← hbw.out.cell (p := ⟨g, o + k * 3 + 2, none⟩) hgw] at hc
        have hcall := fun w => sz_talk x q w hfx.1 hfx.2.1 ⟨hq0, by omega⟩
        have HX := Lib.hid hx
        have Hat' := Lib.hid hAt
        clear hx hAt hfx Hat
        obtain ⟨hc0, hc1, hc2⟩ := hc
        have hb0 := hbw.out
        have hsz := hb0.size
        have Hf := Lib.hid hf
        clear hf
        go_wp2_with (go_at_call 46; refine (hcall _).mono ?_; rintro e w1 ⟨r, rfl, hr0, hr1, hr2, hb1⟩; refine Hid.out ?_)
        refine Lib.hid ?_
        have hb2 := hb0.trans (hb1.mono hsz)
        by_cases hneg : r < 0
        · clear hr2
          go_wp2_with fail
          go_ret
          exact ⟨-1, ret_int rfl, by omega, by omega, fun h => by omega, hb2⟩
        · have hr2 := hr2 (by omega)
          have hsm' : Hid (∀ j (hj : j < xs.length), j < k + 1 → (xs[j].c.size : Int) ≤ l ∧ (xs[j].r.size : Int) ≤ l) := Lib.hid (fun j hj h => by
            by_cases he : j = k
            · subst he
              have h2 := HX.out
              rw [← h2]; omega
            · exact hsm.out j hj (by omega))
          clear hr2
          go_wp2_with fail
          go_roundw
          case rel => exact ⟨k + 1, r, by omega, by go_num, rfl, by omega, by omega, hsm', Lib.hid hb2⟩
          case measure => simp [intOf]; omega
      · go_wp2
        go_ret
        exact ⟨q, ret_int rfl, by omega, by omega, fun h => ⟨by omega, fun x hx => by
          obtain ⟨j, hj, rfl⟩ := List.getElem_of_mem hx
          exact hsm.out j hj (by have := HN.out; omega)⟩, hbw.out⟩

set_option maxHeartbeats 1000000 in
theorem sz_state (s : St) (v : Value) (B : Nat) (l : Int) (w : World) (hr : RawS w B v s) (hB : B ≤ w.heap.size) (hl : 0 ≤ l ∧ l ≤ 1048576) :
    Calls Try.prog 39 #[v, .int .i64 l] w fun e w' => ∃ r : Int, e = .returned (.int .i64 r) ∧ -1 ≤ r ∧ r ≤ l ∧ (0 ≤ r → Small s l) ∧ Below w.heap.size w w' := by
  obtain ⟨vi, vt, rfl, hri, hrt, hfi, hft⟩ := hr
  obtain ⟨W, hW⟩ : ∃ W, W = w.alloc (.cells #[vi, vt] 53) := ⟨_, rfl⟩
  have hbW : Below w.heap.size w W := by rw [hW]; exact (Below.refl _ _).alloc (Nat.le_refl _) _
  have hWs : W.heap.size = w.heap.size + 1 := by rw [hW]; simp
  have hc0 := sz_items s.items vi B l W (hri.later (hbW.mono hB) (Nat.le_refl _)) hfi (Nat.le_trans hB hbW.size) hl
  have HV : Hid (∀ w', Below W.heap.size W w' → w'.cell? ⟨w.heap.size, 1, none⟩ = some vt) := Lib.hid (fun w' h => by
    rw [h.cell (show w.heap.size < W.heap.size by omega), hW, World.cell?_alloc_new]; rfl)
  have Hrt := Lib.hid hrt
  rw [hW] at hc0
  go_enter Try.func39, Try.ntmps39
  go_wp2_with (go_at_call 75; refine hc0.mono ?_; rintro e w1 ⟨r, rfl, hr0, hr1, hr2, hb1⟩; refine Hid.out ?_)
  refine Lib.hid ?_
  rw [← hW] at hb1
  have hv := HV.out w1 hb1
  have hb2 := hbW.trans (hb1.mono hbW.size)
  clear hc0 hW hri hrt HV
  by_cases hneg : r < 0
  · clear hr2
    go_wp2_with fail
    go_ret
    exact ⟨-1, ret_int rfl, by omega, by omega, fun h => by omega, hb2⟩
  · have hr2 := hr2 (by omega)
    have hc1 := sz_talks s.talks vt B r w1 (Hrt.out.later (hb2.mono hB) (Nat.le_refl _)) hft (Nat.le_trans hB hb2.size) ⟨by omega, by omega⟩
    have Hr2 := Lib.hid hr2
    have Hfi := Lib.hid hfi
    have Hft := Lib.hid hft
    clear hr2 hfi hft
    have hsz := hb2.size
    go_wp2_with (go_at_call 76; refine hc1.mono ?_; rintro e w2 ⟨q, rfl, hq0, hq1, hq2, hb3⟩; refine Hid.out ?_)
    refine Lib.hid ?_
    have hb4 := hb2.trans (hb3.mono hsz)
    by_cases hneg2 : q < 0
    · clear hq2
      go_wp2_with fail
      go_ret
      exact ⟨-1, ret_int rfl, by omega, by omega, fun h => by omega, hb4⟩
    · have Hq2 := Lib.hid (hq2 (by omega))
      clear hq2
      go_wp2_with fail
      go_ret
      exact ⟨q, ret_int rfl, by omega, by omega, fun h => ⟨Hr2.out.1, Hr2.out.2, by have := Hq2.out.1; omega, fun x hx => by have := Hq2.out.2 x hx; omega⟩, hb4⟩
end Go.Proofs.Ytkoohmibdaomkaa
