/- What spec.OpText answers: the operation's text. Condition: what the arguments may be. -/
import Derived.Test.YtebmaplflpfjbaaDoorBaseA
import Derived.Test.YtebmaplflpfjbaaDoorSpecOpText
namespace Go.Proofs.YtebmaplflpfjbaaDoor
open Go.RowKit List
set_option linter.unusedVariables false
set_option linter.unusedSimpArgs false

theorem kw_size (n : Int) : (kw n).size ≤ 3 := by
  unfold kw
  split
  · decide
  · split <;> decide
theorem op_sizes (x : Rq) (h : rqOk x = true) : x.c.size + 1 + (decS x.q).size + 1 + 3 + 1 + x.k.size + 1 + x.v.size ≤ 200 := by
  obtain ⟨h1, h2, h3, h4, h5, _⟩ := rqOk_parts h
  have a1 := name_size h2
  have a2 := name_size h3
  have a3 := itoa_small x.q h4.1 h4.2
  have a4 := kw_size x.n
  omega
set_option maxRecDepth 100000 in
set_option maxHeartbeats 4000000 in
theorem spec_opText (x : Rq) (w : World) (hf : FitRq x) :
    Calls Tryd.prog 22 #[rqA x] w fun e w' => e = .returned (.string (opText x)) ∧ Below w.heap.size w w' := by
  have hx := hf
  obtain ⟨hc, hk, hv, hq, hn⟩ := hf
  have Hv := Lib.hid hv
  have c2 := fun w => spec_opOk x w hx
  have c3 := fun w => spec_plain x.v w hv
  have Hsum : Hid (rqOk x = true → (x.c.size + 1 + (decS x.q).size + 1 + 3 + 1 + x.k.size + 1 + x.v.size ≤ 200)) := Lib.hid (op_sizes x)
  have Hd := fun w => spec_decText x.q hq.1 hq.2 w
  obtain ⟨D, hD⟩ : ∃ D, D = decS x.q := ⟨_, rfl⟩
  have HDD := Lib.hid hD
  have HD : Hid (∀ w, Calls Tryd.prog 58 #[.int .i64 x.q] w fun e w' => e = .returned (.string D) ∧ w = w') := Lib.hid (by rw [hD]; exact Hd)
  rw [← hD] at Hsum
  clear Hd hD hc hk hq hn hx hv
  unfold rqA at *
  obtain ⟨W, hW⟩ : ∃ W, W = w.alloc (.cells #[.string x.c, .int .i64 x.q, .int .i64 x.n, .string x.k, .string x.v] 29) := ⟨_, rfl⟩
  have hbW : Below w.heap.size w W := by rw [hW]; exact (Below.refl _ _).alloc (Nat.le_refl _) _
  have KQ : Hid (W.heap[w.heap.size]? = some (.cells #[.string x.c, .int .i64 x.q, .int .i64 x.n, .string x.k, .string x.v] 29 (0, 0))) := Lib.hid (by rw [hW]; exact heap_new _ _)
  have LQ : Hid (w.heap.size < W.heap.size) := Lib.hid (by rw [hW]; simp)
  have BB := Lib.hid hbW
  have c0 := c2 W
  rw [hW] at c0
  clear hbW
  cases hok : rqOk x
  · have HN := Lib.hid (opText_bad hok)
    rw [hok] at c0
    clear hok
    go_enter Tryd.func22, Tryd.ntmps22
    go_wp2_with (go_at_call 15; refine c0.mono ?_; rintro e w1 ⟨rfl, hb1⟩; refine Hid.out ?_)
    refine Lib.hid ?_
    rw [← hW] at hb1
    clear c0 hW c2 c3
    replace KQ := tkb hb1 LQ KQ
    replace LQ := tlz LQ hb1.size
    replace BB := tbt BB hb1
    clear hb1
    go_wp2_with fail
    go_ret
    exact ⟨ret_str' (by rw [HN.out]), BB.out⟩
  · have HO := Lib.hid hok
    rw [hok] at c0
    have hnn := (rqOk_parts HO.out).1
    have Hs := Lib.hid (Hsum.out HO.out)
    clear hok Hsum
    have hn : x.n = 0 ∨ x.n = 1 ∨ x.n = 2 := by omega
    clear hnn
    have Hn3 := Lib.hid hn
    clear hn
    go_enter Tryd.func22, Tryd.ntmps22
    go_wp2_with (go_at_call 15; refine c0.mono ?_; rintro e w1 ⟨rfl, hb1⟩; refine Hid.out ?_)
    refine Lib.hid ?_
    rw [← hW] at hb1
    clear c0 hW c2
    replace KQ := tkb hb1 LQ KQ
    replace LQ := tlz LQ hb1.size
    replace BB := tbt BB hb1
    clear hb1
    rcases Hn3.out with hn | hn | hn
    · clear Hn3
      have KQ' : Hid (w1.heap[w.heap.size]? = some (.cells #[.string x.c, .int .i64 x.q, .int .i64 0, .string x.k, .string x.v] 29 (0, 0))) := Lib.hid (by rw [← hn]; exact KQ.out)
      clear KQ
      have KQ := KQ'
      clear KQ'
      have HN : Hid (opText x = x.c ++ ⟨#[32]⟩ ++ D ++ ⟨#[32]⟩ ++ ⟨#[103, 101, 116]⟩ ++ ⟨#[32]⟩ ++ x.k) := Lib.hid (by rw [HDD.out, opText_head HO.out (by omega)]; unfold opHead; rw [hn]; rfl)
      clear c3 hn
      have fQ0 := tcr KQ 0
      have fQ1 := tcr KQ 1
      have fQ2 := tcr KQ 2
      have fQ3 := tcr KQ 3
      have fQ4 := tcr KQ 4
      go_wp2_with fail
      clear fQ0 fQ1 fQ2 fQ3 fQ4
      have HSS : Hid (∀ w' : World, w'.heap[w.heap.size]? = some (.cells #[.string x.c, .int .i64 x.q, .int .i64 0, .string x.k, .string x.v] 29 (0, 0)) → w'.cell? ⟨w.heap.size, 0, none⟩ = some (.string x.c) ∧ w'.cell? ⟨w.heap.size, 1, none⟩ = some (.int .i64 x.q) ∧ w'.cell? ⟨w.heap.size, 2, none⟩ = some (.int .i64 0) ∧ w'.cell? ⟨w.heap.size, 3, none⟩ = some (.string x.k) ∧ w'.cell? ⟨w.heap.size, 4, none⟩ = some (.string x.v)) := Lib.hid (fun w' k1 => ⟨by simpa using cell_of_row w' _ 0 _ _ _ k1, by simpa using cell_of_row w' _ 1 _ _ _ k1, by simpa using cell_of_row w' _ 2 _ _ _ k1, by simpa using cell_of_row w' _ 3 _ _ _ k1, by simpa using cell_of_row w' _ 4 _ _ _ k1⟩)
      have hl0 : ¬ 9223372036854775807 < x.c.size + 1 := by have := Hs.out; omega
      have hl1 : ¬ 9223372036854775807 < x.c.size + 1 + D.size := by have := Hs.out; omega
      have hl2 : ¬ 9223372036854775807 < x.c.size + 1 + D.size + 1 := by have := Hs.out; omega
      have hl3 : ¬ 9223372036854775807 < x.c.size + 1 + D.size + 1 + 3 := by have := Hs.out; omega
      have hl4 : ¬ 9223372036854775807 < x.c.size + 1 + D.size + 1 + 3 + 1 := by have := Hs.out; omega
      have hl5 : ¬ 9223372036854775807 < x.c.size + 1 + D.size + 1 + 3 + 1 + x.k.size := by have := Hs.out; omega
      have hl6 : ¬ 9223372036854775807 < x.c.size + 1 + D.size + 1 + 3 + 1 + x.k.size + 1 := by have := Hs.out; omega
      have hl7 : ¬ 9223372036854775807 < x.c.size + 1 + D.size + 1 + 3 + 1 + x.k.size + 1 + x.v.size := by have := Hs.out; omega
      refine wp_region_held_drew (S := (fun w' => w'.cell? ⟨w.heap.size, 0, none⟩ = some (.string x.c) ∧ w'.cell? ⟨w.heap.size, 1, none⟩ = some (.int .i64 x.q) ∧ w'.cell? ⟨w.heap.size, 2, none⟩ = some (.int .i64 0) ∧ w'.cell? ⟨w.heap.size, 3, none⟩ = some (.string x.k) ∧ w'.cell? ⟨w.heap.size, 4, none⟩ = some (.string x.v))) (by kernel_rfl) (HSS.out _ KQ.out) (fun hHeld => ?_)
      obtain ⟨zD, hzD⟩ : ∃ z, z = w1.drew := ⟨_, rfl⟩
      rw [← hzD] at hHeld ⊢
      have bzD : Below w1.heap.size w1 zD := by rw [hzD]; exact (Below.refl _ _).drew
      replace KQ := tkb bzD LQ KQ
      replace LQ := tlz LQ bzD.size
      replace BB := tbt BB bzD
      clear bzD hzD
      refine tk 0 (v := ?_) ?_ ?_; rotate_left
      · refine Or.inl ⟨by rfl, ?_⟩; intro w hSw; obtain ⟨gQ0, gQ1, gQ2, gQ3, gQ4⟩ := hSw; go_simp; first | done | with_reducible rfl
      refine tk 1 (v := ?_) ?_ ?_; rotate_left
      · refine Or.inl ⟨by rfl, ?_⟩; intro w hSw; obtain ⟨gQ0, gQ1, gQ2, gQ3, gQ4⟩ := hSw; go_simp; first | done | with_reducible rfl
      refine tk 2 (v := ?_) ?_ ?_; rotate_left
      · refine Or.inl ⟨by rfl, ?_⟩; intro w hSw; obtain ⟨gQ0, gQ1, gQ2, gQ3, gQ4⟩ := hSw; go_simp; first | done | with_reducible rfl
      refine tk 3 (v := ?_) ?_ ?_; rotate_left
      · refine Or.inl ⟨by rfl, ?_⟩; intro w hSw; obtain ⟨gQ0, gQ1, gQ2, gQ3, gQ4⟩ := hSw; go_simp; first | done | with_reducible rfl
      refine tk 4 (v := ?_) ?_ ?_; rotate_left
      · refine Or.inl ⟨by rfl, ?_⟩; intro w hSw; obtain ⟨gQ0, gQ1, gQ2, gQ3, gQ4⟩ := hSw; go_simp; first | done | with_reducible rfl
      refine tk 9 (v := ?_) ?_ ?_; rotate_left
      · refine Or.inl ⟨by rfl, ?_⟩; intro w hSw; obtain ⟨gQ0, gQ1, gQ2, gQ3, gQ4⟩ := hSw; go_simp; first | done | with_reducible rfl
      refine tk 10 (v := ?_) ?_ ?_; rotate_left
      · refine Or.inl ⟨by rfl, ?_⟩; intro w hSw; obtain ⟨gQ0, gQ1, gQ2, gQ3, gQ4⟩ := hSw; go_simp; first | done | with_reducible rfl
      refine tk 15 (v := ?_) ?_ ?_; rotate_left
      · refine Or.inl ⟨by rfl, ?_⟩; intro w hSw; obtain ⟨gQ0, gQ1, gQ2, gQ3, gQ4⟩ := hSw; go_simp; first | done | with_reducible rfl
      refine tk 16 (v := ?_) ?_ ?_; rotate_left
      · refine Or.inl ⟨by rfl, ?_⟩; intro w hSw; obtain ⟨gQ0, gQ1, gQ2, gQ3, gQ4⟩ := hSw; go_simp; first | done | with_reducible rfl
      refine rd2 5 8 (fun K hK => ?_) (fun K hK => ?_)
      · go_simp
        go_at_call 58
        refine (HD.out _).mono ?_
        rintro e wq ⟨rfl, rfl⟩
        go_wp2_with fail
        refine hK.out _ _ (HSS.out _ KQ.out) (fun hHeld => ?_)
        clear hK K
        refine tk 6 (v := ?_) ?_ ?_; rotate_left
        · refine Or.inl ⟨by rfl, ?_⟩; intro w hSw; obtain ⟨gQ0, gQ1, gQ2, gQ3, gQ4⟩ := hSw; go_simp; first | done | with_reducible rfl
        refine tk 7 (v := ?_) ?_ ?_; rotate_left
        · refine Or.inl ⟨by rfl, ?_⟩; intro w hSw; obtain ⟨gQ0, gQ1, gQ2, gQ3, gQ4⟩ := hSw; go_simp; first | done | with_reducible rfl
        refine rd1 8 (fun K hK => ?_)
        go_simp
        obtain ⟨V, hV⟩ : ∃ V, V = zD.alloc (.cells #[.string ⟨#[103, 101, 116]⟩, .string ⟨#[112, 117, 116]⟩, .string ⟨#[100, 101, 108]⟩] 9) := ⟨_, rfl⟩
        rw [← hV]
        have bV : Below zD.heap.size zD V := by rw [hV]; exact (Below.refl _ _).alloc (Nat.le_refl _) _
        have fV := cell_of_row V zD.heap.size 0 _ _ _ (by rw [hV]; exact heap_new _ _)
        simp only [List.getElem?_toArray, List.getElem?_cons_zero, List.getElem?_cons_succ] at fV
        have FV := Lib.hid fV
        replace KQ := tkb bV LQ KQ
        replace LQ := tlz LQ bV.size
        replace BB := tbt BB bV
        clear bV hV fV
        refine hK.out _ _ (HSS.out _ KQ.out) (fun hHeld => ?_)
        clear hK K
        refine tk 11 (v := ?_) ?_ ?_; rotate_left
        · refine Or.inl ⟨by rfl, ?_⟩; intro w hSw; obtain ⟨gQ0, gQ1, gQ2, gQ3, gQ4⟩ := hSw; go_simp; first | done | with_reducible rfl
        refine rd1 12 (fun K hK => ?_)
        have fV := FV.out
        go_simp
        clear fV
        refine hK.out _ _ (HSS.out _ KQ.out) (fun hHeld => ?_)
        clear hK K
        refine tk 13 (v := ?_) ?_ ?_; rotate_left
        · refine Or.inl ⟨by rfl, ?_⟩; intro w hSw; obtain ⟨gQ0, gQ1, gQ2, gQ3, gQ4⟩ := hSw; go_simp; first | done | with_reducible rfl
        refine tk 14 (v := ?_) ?_ ?_; rotate_left
        · refine Or.inl ⟨by rfl, ?_⟩; intro w hSw; obtain ⟨gQ0, gQ1, gQ2, gQ3, gQ4⟩ := hSw; go_simp; first | done | with_reducible rfl
        refine tk 17 (v := ?_) ?_ ?_; rotate_left
        · refine Or.inl ⟨by rfl, ?_⟩; intro w hSw; obtain ⟨gQ0, gQ1, gQ2, gQ3, gQ4⟩ := hSw; go_simp; first | done | with_reducible rfl
        refine tk 18 (v := ?_) ?_ ?_; rotate_left
        · refine Or.inl ⟨by rfl, ?_⟩; intro w hSw; obtain ⟨gQ0, gQ1, gQ2, gQ3, gQ4⟩ := hSw; go_simp; first | done | with_reducible rfl
        refine wpAnyH_done (by kernel_rfl) ?_ _
        clear hHeld
        have fQ0 := tcr KQ 0
        have fQ1 := tcr KQ 1
        have fQ2 := tcr KQ 2
        have fQ3 := tcr KQ 3
        have fQ4 := tcr KQ 4
        go_wp2_with fail
        go_ret
        exact ⟨ret_str' (by rw [HN.out]), BB.out⟩
      · go_simp
        obtain ⟨V, hV⟩ : ∃ V, V = zD.alloc (.cells #[.string ⟨#[103, 101, 116]⟩, .string ⟨#[112, 117, 116]⟩, .string ⟨#[100, 101, 108]⟩] 9) := ⟨_, rfl⟩
        rw [← hV]
        have bV : Below zD.heap.size zD V := by rw [hV]; exact (Below.refl _ _).alloc (Nat.le_refl _) _
        have fV := cell_of_row V zD.heap.size 0 _ _ _ (by rw [hV]; exact heap_new _ _)
        simp only [List.getElem?_toArray, List.getElem?_cons_zero, List.getElem?_cons_succ] at fV
        have FV := Lib.hid fV
        replace KQ := tkb bV LQ KQ
        replace LQ := tlz LQ bV.size
        replace BB := tbt BB bV
        clear bV hV fV
        refine hK.out _ _ (HSS.out _ KQ.out) (fun hHeld => ?_)
        clear hK K
        refine tk 11 (v := ?_) ?_ ?_; rotate_left
        · refine Or.inl ⟨by rfl, ?_⟩; intro w hSw; obtain ⟨gQ0, gQ1, gQ2, gQ3, gQ4⟩ := hSw; go_simp; first | done | with_reducible rfl
        refine rd2 5 12 (fun K hK => ?_) (fun K hK => ?_)
        · go_simp
          go_at_call 58
          refine (HD.out _).mono ?_
          rintro e wq ⟨rfl, rfl⟩
          go_wp2_with fail
          refine hK.out _ _ (HSS.out _ KQ.out) (fun hHeld => ?_)
          clear hK K
          refine tk 6 (v := ?_) ?_ ?_; rotate_left
          · refine Or.inl ⟨by rfl, ?_⟩; intro w hSw; obtain ⟨gQ0, gQ1, gQ2, gQ3, gQ4⟩ := hSw; go_simp; first | done | with_reducible rfl
          refine tk 7 (v := ?_) ?_ ?_; rotate_left
          · refine Or.inl ⟨by rfl, ?_⟩; intro w hSw; obtain ⟨gQ0, gQ1, gQ2, gQ3, gQ4⟩ := hSw; go_simp; first | done | with_reducible rfl
          refine rd1 12 (fun K hK => ?_)
          have fV := FV.out
          go_simp
          clear fV
          refine hK.out _ _ (HSS.out _ KQ.out) (fun hHeld => ?_)
          clear hK K
          refine tk 13 (v := ?_) ?_ ?_; rotate_left
          · refine Or.inl ⟨by rfl, ?_⟩; intro w hSw; obtain ⟨gQ0, gQ1, gQ2, gQ3, gQ4⟩ := hSw; go_simp; first | done | with_reducible rfl
          refine tk 14 (v := ?_) ?_ ?_; rotate_left
          · refine Or.inl ⟨by rfl, ?_⟩; intro w hSw; obtain ⟨gQ0, gQ1, gQ2, gQ3, gQ4⟩ := hSw; go_simp; first | done | with_reducible rfl
          refine tk 17 (v := ?_) ?_ ?_; rotate_left
          · refine Or.inl ⟨by rfl, ?_⟩; intro w hSw; obtain ⟨gQ0, gQ1, gQ2, gQ3, gQ4⟩ := hSw; go_simp; first | done | with_reducible rfl
          refine tk 18 (v := ?_) ?_ ?_; rotate_left
          · refine Or.inl ⟨by rfl, ?_⟩; intro w hSw; obtain ⟨gQ0, gQ1, gQ2, gQ3, gQ4⟩ := hSw; go_simp; first | done | with_reducible rfl
          refine wpAnyH_done (by kernel_rfl) ?_ _
          clear hHeld
          have fQ0 := tcr KQ 0
          have fQ1 := tcr KQ 1
          have fQ2 := tcr KQ 2
          have fQ3 := tcr KQ 3
          have fQ4 := tcr KQ 4
          go_wp2_with fail
          go_ret
          exact ⟨ret_str' (by rw [HN.out]), BB.out⟩
        · have fV := FV.out
          go_simp
          clear fV
          refine hK.out _ _ (HSS.out _ KQ.out) (fun hHeld => ?_)
          clear hK K
          refine rd1 5 (fun K hK => ?_)
          go_simp
          go_at_call 58
          refine (HD.out _).mono ?_
          rintro e wq ⟨rfl, rfl⟩
          go_wp2_with fail
          refine hK.out _ _ (HSS.out _ KQ.out) (fun hHeld => ?_)
          clear hK K
          refine tk 6 (v := ?_) ?_ ?_; rotate_left
          · refine Or.inl ⟨by rfl, ?_⟩; intro w hSw; obtain ⟨gQ0, gQ1, gQ2, gQ3, gQ4⟩ := hSw; go_simp; first | done | with_reducible rfl
          refine tk 7 (v := ?_) ?_ ?_; rotate_left
          · refine Or.inl ⟨by rfl, ?_⟩; intro w hSw; obtain ⟨gQ0, gQ1, gQ2, gQ3, gQ4⟩ := hSw; go_simp; first | done | with_reducible rfl
          refine tk 13 (v := ?_) ?_ ?_; rotate_left
          · refine Or.inl ⟨by rfl, ?_⟩; intro w hSw; obtain ⟨gQ0, gQ1, gQ2, gQ3, gQ4⟩ := hSw; go_simp; first | done | with_reducible rfl
          refine tk 14 (v := ?_) ?_ ?_; rotate_left
          · refine Or.inl ⟨by rfl, ?_⟩; intro w hSw; obtain ⟨gQ0, gQ1, gQ2, gQ3, gQ4⟩ := hSw; go_simp; first | done | with_reducible rfl
          refine tk 17 (v := ?_) ?_ ?_; rotate_left
          · refine Or.inl ⟨by rfl, ?_⟩; intro w hSw; obtain ⟨gQ0, gQ1, gQ2, gQ3, gQ4⟩ := hSw; go_simp; first | done | with_reducible rfl
          refine tk 18 (v := ?_) ?_ ?_; rotate_left
          · refine Or.inl ⟨by rfl, ?_⟩; intro w hSw; obtain ⟨gQ0, gQ1, gQ2, gQ3, gQ4⟩ := hSw; go_simp; first | done | with_reducible rfl
          refine wpAnyH_done (by kernel_rfl) ?_ _
          clear hHeld
          have fQ0 := tcr KQ 0
          have fQ1 := tcr KQ 1
          have fQ2 := tcr KQ 2
          have fQ3 := tcr KQ 3
          have fQ4 := tcr KQ 4
          go_wp2_with fail
          go_ret
          exact ⟨ret_str' (by rw [HN.out]), BB.out⟩
    · clear Hn3
      have KQ' : Hid (w1.heap[w.heap.size]? = some (.cells #[.string x.c, .int .i64 x.q, .int .i64 1, .string x.k, .string x.v] 29 (0, 0))) := Lib.hid (by rw [← hn]; exact KQ.out)
      clear KQ
      have KQ := KQ'
      clear KQ'
      have c4 := c3 w1
      cases hw : wordB x.v.data.toList
      · have HN := Lib.hid (opText_none HO.out hn hw)
        rw [hw] at c4
        clear hw c3 hn
        have fQ0 := tcr KQ 0
        have fQ1 := tcr KQ 1
        have fQ2 := tcr KQ 2
        have fQ3 := tcr KQ 3
        have fQ4 := tcr KQ 4
        go_wp2_with (go_at_call 59; refine c4.mono ?_; rintro e w2 ⟨rfl, rfl⟩)
        go_ret
        exact ⟨ret_str' (by rw [HN.out]), BB.out⟩
      · have HN : Hid (opText x = x.c ++ ⟨#[32]⟩ ++ D ++ ⟨#[32]⟩ ++ ⟨#[112, 117, 116]⟩ ++ ⟨#[32]⟩ ++ x.k ++ ⟨#[32]⟩ ++ x.v) := Lib.hid (by rw [HDD.out, opText_word HO.out hn hw]; unfold opHead; rw [hn]; rfl)
        rw [hw] at c4
        clear hw c3 hn
        have fQ0 := tcr KQ 0
        have fQ1 := tcr KQ 1
        have fQ2 := tcr KQ 2
        have fQ3 := tcr KQ 3
        have fQ4 := tcr KQ 4
        go_wp2_with (go_at_call 59; refine c4.mono ?_; rintro e w2 ⟨rfl, rfl⟩)
        clear c4
        clear fQ0 fQ1 fQ2 fQ3 fQ4
        have HSS : Hid (∀ w' : World, w'.heap[w.heap.size]? = some (.cells #[.string x.c, .int .i64 x.q, .int .i64 1, .string x.k, .string x.v] 29 (0, 0)) → w'.cell? ⟨w.heap.size, 0, none⟩ = some (.string x.c) ∧ w'.cell? ⟨w.heap.size, 1, none⟩ = some (.int .i64 x.q) ∧ w'.cell? ⟨w.heap.size, 2, none⟩ = some (.int .i64 1) ∧ w'.cell? ⟨w.heap.size, 3, none⟩ = some (.string x.k) ∧ w'.cell? ⟨w.heap.size, 4, none⟩ = some (.string x.v)) := Lib.hid (fun w' k1 => ⟨by simpa using cell_of_row w' _ 0 _ _ _ k1, by simpa using cell_of_row w' _ 1 _ _ _ k1, by simpa using cell_of_row w' _ 2 _ _ _ k1, by simpa using cell_of_row w' _ 3 _ _ _ k1, by simpa using cell_of_row w' _ 4 _ _ _ k1⟩)
        have hl0 : ¬ 9223372036854775807 < x.c.size + 1 := by have := Hs.out; omega
        have hl1 : ¬ 9223372036854775807 < x.c.size + 1 + D.size := by have := Hs.out; omega
        have hl2 : ¬ 9223372036854775807 < x.c.size + 1 + D.size + 1 := by have := Hs.out; omega
        have hl3 : ¬ 9223372036854775807 < x.c.size + 1 + D.size + 1 + 3 := by have := Hs.out; omega
        have hl4 : ¬ 9223372036854775807 < x.c.size + 1 + D.size + 1 + 3 + 1 := by have := Hs.out; omega
        have hl5 : ¬ 9223372036854775807 < x.c.size + 1 + D.size + 1 + 3 + 1 + x.k.size := by have := Hs.out; omega
        have hl6 : ¬ 9223372036854775807 < x.c.size + 1 + D.size + 1 + 3 + 1 + x.k.size + 1 := by have := Hs.out; omega
        have hl7 : ¬ 9223372036854775807 < x.c.size + 1 + D.size + 1 + 3 + 1 + x.k.size + 1 + x.v.size := by have := Hs.out; omega
        refine wp_region_held_drew (S := (fun w' => w'.cell? ⟨w.heap.size, 0, none⟩ = some (.string x.c) ∧ w'.cell? ⟨w.heap.size, 1, none⟩ = some (.int .i64 x.q) ∧ w'.cell? ⟨w.heap.size, 2, none⟩ = some (.int .i64 1) ∧ w'.cell? ⟨w.heap.size, 3, none⟩ = some (.string x.k) ∧ w'.cell? ⟨w.heap.size, 4, none⟩ = some (.string x.v))) (by kernel_rfl) (HSS.out _ KQ.out) (fun hHeld => ?_)
        obtain ⟨zD, hzD⟩ : ∃ z, z = w1.drew := ⟨_, rfl⟩
        rw [← hzD] at hHeld ⊢
        have bzD : Below w1.heap.size w1 zD := by rw [hzD]; exact (Below.refl _ _).drew
        replace KQ := tkb bzD LQ KQ
        replace LQ := tlz LQ bzD.size
        replace BB := tbt BB bzD
        clear bzD hzD
        refine tk 0 (v := ?_) ?_ ?_; rotate_left
        · refine Or.inl ⟨by rfl, ?_⟩; intro w hSw; obtain ⟨gQ0, gQ1, gQ2, gQ3, gQ4⟩ := hSw; go_simp; first | done | with_reducible rfl
        refine tk 1 (v := ?_) ?_ ?_; rotate_left
        · refine Or.inl ⟨by rfl, ?_⟩; intro w hSw; obtain ⟨gQ0, gQ1, gQ2, gQ3, gQ4⟩ := hSw; go_simp; first | done | with_reducible rfl
        refine tk 2 (v := ?_) ?_ ?_; rotate_left
        · refine Or.inl ⟨by rfl, ?_⟩; intro w hSw; obtain ⟨gQ0, gQ1, gQ2, gQ3, gQ4⟩ := hSw; go_simp; first | done | with_reducible rfl
        refine tk 3 (v := ?_) ?_ ?_; rotate_left
        · refine Or.inl ⟨by rfl, ?_⟩; intro w hSw; obtain ⟨gQ0, gQ1, gQ2, gQ3, gQ4⟩ := hSw; go_simp; first | done | with_reducible rfl
        refine tk 4 (v := ?_) ?_ ?_; rotate_left
        · refine Or.inl ⟨by rfl, ?_⟩; intro w hSw; obtain ⟨gQ0, gQ1, gQ2, gQ3, gQ4⟩ := hSw; go_simp; first | done | with_reducible rfl
        refine tk 9 (v := ?_) ?_ ?_; rotate_left
        · refine Or.inl ⟨by rfl, ?_⟩; intro w hSw; obtain ⟨gQ0, gQ1, gQ2, gQ3, gQ4⟩ := hSw; go_simp; first | done | with_reducible rfl
        refine tk 10 (v := ?_) ?_ ?_; rotate_left
        · refine Or.inl ⟨by rfl, ?_⟩; intro w hSw; obtain ⟨gQ0, gQ1, gQ2, gQ3, gQ4⟩ := hSw; go_simp; first | done | with_reducible rfl
        refine tk 15 (v := ?_) ?_ ?_; rotate_left
        · refine Or.inl ⟨by rfl, ?_⟩; intro w hSw; obtain ⟨gQ0, gQ1, gQ2, gQ3, gQ4⟩ := hSw; go_simp; first | done | with_reducible rfl
        refine tk 16 (v := ?_) ?_ ?_; rotate_left
        · refine Or.inl ⟨by rfl, ?_⟩; intro w hSw; obtain ⟨gQ0, gQ1, gQ2, gQ3, gQ4⟩ := hSw; go_simp; first | done | with_reducible rfl
        refine rd2 5 8 (fun K hK => ?_) (fun K hK => ?_)
        · go_simp
          go_at_call 58
          refine (HD.out _).mono ?_
          rintro e wq ⟨rfl, rfl⟩
          go_wp2_with fail
          refine hK.out _ _ (HSS.out _ KQ.out) (fun hHeld => ?_)
          clear hK K
          refine tk 6 (v := ?_) ?_ ?_; rotate_left
          · refine Or.inl ⟨by rfl, ?_⟩; intro w hSw; obtain ⟨gQ0, gQ1, gQ2, gQ3, gQ4⟩ := hSw; go_simp; first | done | with_reducible rfl
          refine tk 7 (v := ?_) ?_ ?_; rotate_left
          · refine Or.inl ⟨by rfl, ?_⟩; intro w hSw; obtain ⟨gQ0, gQ1, gQ2, gQ3, gQ4⟩ := hSw; go_simp; first | done | with_reducible rfl
          refine rd1 8 (fun K hK => ?_)
          go_simp
          obtain ⟨V, hV⟩ : ∃ V, V = zD.alloc (.cells #[.string ⟨#[103, 101, 116]⟩, .string ⟨#[112, 117, 116]⟩, .string ⟨#[100, 101, 108]⟩] 9) := ⟨_, rfl⟩
          rw [← hV]
          have bV : Below zD.heap.size zD V := by rw [hV]; exact (Below.refl _ _).alloc (Nat.le_refl _) _
          have fV := cell_of_row V zD.heap.size 1 _ _ _ (by rw [hV]; exact heap_new _ _)
          simp only [List.getElem?_toArray, List.getElem?_cons_zero, List.getElem?_cons_succ] at fV
          have FV := Lib.hid fV
          replace KQ := tkb bV LQ KQ
          replace LQ := tlz LQ bV.size
          replace BB := tbt BB bV
          clear bV hV fV
          refine hK.out _ _ (HSS.out _ KQ.out) (fun hHeld => ?_)
          clear hK K
          refine tk 11 (v := ?_) ?_ ?_; rotate_left
          · refine Or.inl ⟨by rfl, ?_⟩; intro w hSw; obtain ⟨gQ0, gQ1, gQ2, gQ3, gQ4⟩ := hSw; go_simp; first | done | with_reducible rfl
          refine rd1 12 (fun K hK => ?_)
          have fV := FV.out
          go_simp
          clear fV
          refine hK.out _ _ (HSS.out _ KQ.out) (fun hHeld => ?_)
          clear hK K
          refine tk 13 (v := ?_) ?_ ?_; rotate_left
          · refine Or.inl ⟨by rfl, ?_⟩; intro w hSw; obtain ⟨gQ0, gQ1, gQ2, gQ3, gQ4⟩ := hSw; go_simp; first | done | with_reducible rfl
          refine tk 14 (v := ?_) ?_ ?_; rotate_left
          · refine Or.inl ⟨by rfl, ?_⟩; intro w hSw; obtain ⟨gQ0, gQ1, gQ2, gQ3, gQ4⟩ := hSw; go_simp; first | done | with_reducible rfl
          refine tk 17 (v := ?_) ?_ ?_; rotate_left
          · refine Or.inl ⟨by rfl, ?_⟩; intro w hSw; obtain ⟨gQ0, gQ1, gQ2, gQ3, gQ4⟩ := hSw; go_simp; first | done | with_reducible rfl
          refine tk 18 (v := ?_) ?_ ?_; rotate_left
          · refine Or.inl ⟨by rfl, ?_⟩; intro w hSw; obtain ⟨gQ0, gQ1, gQ2, gQ3, gQ4⟩ := hSw; go_simp; first | done | with_reducible rfl
          refine wpAnyH_done (by kernel_rfl) ?_ _
          clear hHeld
          have fQ0 := tcr KQ 0
          have fQ1 := tcr KQ 1
          have fQ2 := tcr KQ 2
          have fQ3 := tcr KQ 3
          have fQ4 := tcr KQ 4
          go_wp2_with fail
          go_ret
          exact ⟨ret_str' (by rw [HN.out]), BB.out⟩
        · go_simp
          obtain ⟨V, hV⟩ : ∃ V, V = zD.alloc (.cells #[.string ⟨#[103, 101, 116]⟩, .string ⟨#[112, 117, 116]⟩, .string ⟨#[100, 101, 108]⟩] 9) := ⟨_, rfl⟩
          rw [← hV]
          have bV : Below zD.heap.size zD V := by rw [hV]; exact (Below.refl _ _).alloc (Nat.le_refl _) _
          have fV := cell_of_row V zD.heap.size 1 _ _ _ (by rw [hV]; exact heap_new _ _)
          simp only [List.getElem?_toArray, List.getElem?_cons_zero, List.getElem?_cons_succ] at fV
          have FV := Lib.hid fV
          replace KQ := tkb bV LQ KQ
          replace LQ := tlz LQ bV.size
          replace BB := tbt BB bV
          clear bV hV fV
          refine hK.out _ _ (HSS.out _ KQ.out) (fun hHeld => ?_)
          clear hK K
          refine tk 11 (v := ?_) ?_ ?_; rotate_left
          · refine Or.inl ⟨by rfl, ?_⟩; intro w hSw; obtain ⟨gQ0, gQ1, gQ2, gQ3, gQ4⟩ := hSw; go_simp; first | done | with_reducible rfl
          refine rd2 5 12 (fun K hK => ?_) (fun K hK => ?_)
          · go_simp
            go_at_call 58
            refine (HD.out _).mono ?_
            rintro e wq ⟨rfl, rfl⟩
            go_wp2_with fail
            refine hK.out _ _ (HSS.out _ KQ.out) (fun hHeld => ?_)
            clear hK K
            refine tk 6 (v := ?_) ?_ ?_; rotate_left
            · refine Or.inl ⟨by rfl, ?_⟩; intro w hSw; obtain ⟨gQ0, gQ1, gQ2, gQ3, gQ4⟩ := hSw; go_simp; first | done | with_reducible rfl
            refine tk 7 (v := ?_) ?_ ?_; rotate_left
            · refine Or.inl ⟨by rfl, ?_⟩; intro w hSw; obtain ⟨gQ0, gQ1, gQ2, gQ3, gQ4⟩ := hSw; go_simp; first | done | with_reducible rfl
            refine rd1 12 (fun K hK => ?_)
            have fV := FV.out
            go_simp
            clear fV
            refine hK.out _ _ (HSS.out _ KQ.out) (fun hHeld => ?_)
            clear hK K
            refine tk 13 (v := ?_) ?_ ?_; rotate_left
            · refine Or.inl ⟨by rfl, ?_⟩; intro w hSw; obtain ⟨gQ0, gQ1, gQ2, gQ3, gQ4⟩ := hSw; go_simp; first | done | with_reducible rfl
            refine tk 14 (v := ?_) ?_ ?_; rotate_left
            · refine Or.inl ⟨by rfl, ?_⟩; intro w hSw; obtain ⟨gQ0, gQ1, gQ2, gQ3, gQ4⟩ := hSw; go_simp; first | done | with_reducible rfl
            refine tk 17 (v := ?_) ?_ ?_; rotate_left
            · refine Or.inl ⟨by rfl, ?_⟩; intro w hSw; obtain ⟨gQ0, gQ1, gQ2, gQ3, gQ4⟩ := hSw; go_simp; first | done | with_reducible rfl
            refine tk 18 (v := ?_) ?_ ?_; rotate_left
            · refine Or.inl ⟨by rfl, ?_⟩; intro w hSw; obtain ⟨gQ0, gQ1, gQ2, gQ3, gQ4⟩ := hSw; go_simp; first | done | with_reducible rfl
            refine wpAnyH_done (by kernel_rfl) ?_ _
            clear hHeld
            have fQ0 := tcr KQ 0
            have fQ1 := tcr KQ 1
            have fQ2 := tcr KQ 2
            have fQ3 := tcr KQ 3
            have fQ4 := tcr KQ 4
            go_wp2_with fail
            go_ret
            exact ⟨ret_str' (by rw [HN.out]), BB.out⟩
          · have fV := FV.out
            go_simp
            clear fV
            refine hK.out _ _ (HSS.out _ KQ.out) (fun hHeld => ?_)
            clear hK K
            refine rd1 5 (fun K hK => ?_)
            go_simp
            go_at_call 58
            refine (HD.out _).mono ?_
            rintro e wq ⟨rfl, rfl⟩
            go_wp2_with fail
            refine hK.out _ _ (HSS.out _ KQ.out) (fun hHeld => ?_)
            clear hK K
            refine tk 6 (v := ?_) ?_ ?_; rotate_left
            · refine Or.inl ⟨by rfl, ?_⟩; intro w hSw; obtain ⟨gQ0, gQ1, gQ2, gQ3, gQ4⟩ := hSw; go_simp; first | done | with_reducible rfl
            refine tk 7 (v := ?_) ?_ ?_; rotate_left
            · refine Or.inl ⟨by rfl, ?_⟩; intro w hSw; obtain ⟨gQ0, gQ1, gQ2, gQ3, gQ4⟩ := hSw; go_simp; first | done | with_reducible rfl
            refine tk 13 (v := ?_) ?_ ?_; rotate_left
            · refine Or.inl ⟨by rfl, ?_⟩; intro w hSw; obtain ⟨gQ0, gQ1, gQ2, gQ3, gQ4⟩ := hSw; go_simp; first | done | with_reducible rfl
            refine tk 14 (v := ?_) ?_ ?_; rotate_left
            · refine Or.inl ⟨by rfl, ?_⟩; intro w hSw; obtain ⟨gQ0, gQ1, gQ2, gQ3, gQ4⟩ := hSw; go_simp; first | done | with_reducible rfl
            refine tk 17 (v := ?_) ?_ ?_; rotate_left
            · refine Or.inl ⟨by rfl, ?_⟩; intro w hSw; obtain ⟨gQ0, gQ1, gQ2, gQ3, gQ4⟩ := hSw; go_simp; first | done | with_reducible rfl
            refine tk 18 (v := ?_) ?_ ?_; rotate_left
            · refine Or.inl ⟨by rfl, ?_⟩; intro w hSw; obtain ⟨gQ0, gQ1, gQ2, gQ3, gQ4⟩ := hSw; go_simp; first | done | with_reducible rfl
            refine wpAnyH_done (by kernel_rfl) ?_ _
            clear hHeld
            have fQ0 := tcr KQ 0
            have fQ1 := tcr KQ 1
            have fQ2 := tcr KQ 2
            have fQ3 := tcr KQ 3
            have fQ4 := tcr KQ 4
            go_wp2_with fail
            go_ret
            exact ⟨ret_str' (by rw [HN.out]), BB.out⟩
    · clear Hn3
      have KQ' : Hid (w1.heap[w.heap.size]? = some (.cells #[.string x.c, .int .i64 x.q, .int .i64 2, .string x.k, .string x.v] 29 (0, 0))) := Lib.hid (by rw [← hn]; exact KQ.out)
      clear KQ
      have KQ := KQ'
      clear KQ'
      have HN : Hid (opText x = x.c ++ ⟨#[32]⟩ ++ D ++ ⟨#[32]⟩ ++ ⟨#[100, 101, 108]⟩ ++ ⟨#[32]⟩ ++ x.k) := Lib.hid (by rw [HDD.out, opText_head HO.out (by omega)]; unfold opHead; rw [hn]; rfl)
      clear c3 hn
      have fQ0 := tcr KQ 0
      have fQ1 := tcr KQ 1
      have fQ2 := tcr KQ 2
      have fQ3 := tcr KQ 3
      have fQ4 := tcr KQ 4
      go_wp2_with fail
      clear fQ0 fQ1 fQ2 fQ3 fQ4
      have HSS : Hid (∀ w' : World, w'.heap[w.heap.size]? = some (.cells #[.string x.c, .int .i64 x.q, .int .i64 2, .string x.k, .string x.v] 29 (0, 0)) → w'.cell? ⟨w.heap.size, 0, none⟩ = some (.string x.c) ∧ w'.cell? ⟨w.heap.size, 1, none⟩ = some (.int .i64 x.q) ∧ w'.cell? ⟨w.heap.size, 2, none⟩ = some (.int .i64 2) ∧ w'.cell? ⟨w.heap.size, 3, none⟩ = some (.string x.k) ∧ w'.cell? ⟨w.heap.size, 4, none⟩ = some (.string x.v)) := Lib.hid (fun w' k1 => ⟨by simpa using cell_of_row w' _ 0 _ _ _ k1, by simpa using cell_of_row w' _ 1 _ _ _ k1, by simpa using cell_of_row w' _ 2 _ _ _ k1, by simpa using cell_of_row w' _ 3 _ _ _ k1, by simpa using cell_of_row w' _ 4 _ _ _ k1⟩)
      have hl0 : ¬ 9223372036854775807 < x.c.size + 1 := by have := Hs.out; omega
      have hl1 : ¬ 9223372036854775807 < x.c.size + 1 + D.size := by have := Hs.out; omega
      have hl2 : ¬ 9223372036854775807 < x.c.size + 1 + D.size + 1 := by have := Hs.out; omega
      have hl3 : ¬ 9223372036854775807 < x.c.size + 1 + D.size + 1 + 3 := by have := Hs.out; omega
      have hl4 : ¬ 9223372036854775807 < x.c.size + 1 + D.size + 1 + 3 + 1 := by have := Hs.out; omega
      have hl5 : ¬ 9223372036854775807 < x.c.size + 1 + D.size + 1 + 3 + 1 + x.k.size := by have := Hs.out; omega
      have hl6 : ¬ 9223372036854775807 < x.c.size + 1 + D.size + 1 + 3 + 1 + x.k.size + 1 := by have := Hs.out; omega
      have hl7 : ¬ 9223372036854775807 < x.c.size + 1 + D.size + 1 + 3 + 1 + x.k.size + 1 + x.v.size := by have := Hs.out; omega
      refine wp_region_held_drew (S := (fun w' => w'.cell? ⟨w.heap.size, 0, none⟩ = some (.string x.c) ∧ w'.cell? ⟨w.heap.size, 1, none⟩ = some (.int .i64 x.q) ∧ w'.cell? ⟨w.heap.size, 2, none⟩ = some (.int .i64 2) ∧ w'.cell? ⟨w.heap.size, 3, none⟩ = some (.string x.k) ∧ w'.cell? ⟨w.heap.size, 4, none⟩ = some (.string x.v))) (by kernel_rfl) (HSS.out _ KQ.out) (fun hHeld => ?_)
      obtain ⟨zD, hzD⟩ : ∃ z, z = w1.drew := ⟨_, rfl⟩
      rw [← hzD] at hHeld ⊢
      have bzD : Below w1.heap.size w1 zD := by rw [hzD]; exact (Below.refl _ _).drew
      replace KQ := tkb bzD LQ KQ
      replace LQ := tlz LQ bzD.size
      replace BB := tbt BB bzD
      clear bzD hzD
      refine tk 0 (v := ?_) ?_ ?_; rotate_left
      · refine Or.inl ⟨by rfl, ?_⟩; intro w hSw; obtain ⟨gQ0, gQ1, gQ2, gQ3, gQ4⟩ := hSw; go_simp; first | done | with_reducible rfl
      refine tk 1 (v := ?_) ?_ ?_; rotate_left
      · refine Or.inl ⟨by rfl, ?_⟩; intro w hSw; obtain ⟨gQ0, gQ1, gQ2, gQ3, gQ4⟩ := hSw; go_simp; first | done | with_reducible rfl
      refine tk 2 (v := ?_) ?_ ?_; rotate_left
      · refine Or.inl ⟨by rfl, ?_⟩; intro w hSw; obtain ⟨gQ0, gQ1, gQ2, gQ3, gQ4⟩ := hSw; go_simp; first | done | with_reducible rfl
      refine tk 3 (v := ?_) ?_ ?_; rotate_left
      · refine Or.inl ⟨by rfl, ?_⟩; intro w hSw; obtain ⟨gQ0, gQ1, gQ2, gQ3, gQ4⟩ := hSw; go_simp; first | done | with_reducible rfl
      refine tk 4 (v := ?_) ?_ ?_; rotate_left
      · refine Or.inl ⟨by rfl, ?_⟩; intro w hSw; obtain ⟨gQ0, gQ1, gQ2, gQ3, gQ4⟩ := hSw; go_simp; first | done | with_reducible rfl
      refine tk 9 (v := ?_) ?_ ?_; rotate_left
      · refine Or.inl ⟨by rfl, ?_⟩; intro w hSw; obtain ⟨gQ0, gQ1, gQ2, gQ3, gQ4⟩ := hSw; go_simp; first | done | with_reducible rfl
      refine tk 10 (v := ?_) ?_ ?_; rotate_left
      · refine Or.inl ⟨by rfl, ?_⟩; intro w hSw; obtain ⟨gQ0, gQ1, gQ2, gQ3, gQ4⟩ := hSw; go_simp; first | done | with_reducible rfl
      refine tk 15 (v := ?_) ?_ ?_; rotate_left
      · refine Or.inl ⟨by rfl, ?_⟩; intro w hSw; obtain ⟨gQ0, gQ1, gQ2, gQ3, gQ4⟩ := hSw; go_simp; first | done | with_reducible rfl
      refine tk 16 (v := ?_) ?_ ?_; rotate_left
      · refine Or.inl ⟨by rfl, ?_⟩; intro w hSw; obtain ⟨gQ0, gQ1, gQ2, gQ3, gQ4⟩ := hSw; go_simp; first | done | with_reducible rfl
      refine rd2 5 8 (fun K hK => ?_) (fun K hK => ?_)
      · go_simp
        go_at_call 58
        refine (HD.out _).mono ?_
        rintro e wq ⟨rfl, rfl⟩
        go_wp2_with fail
        refine hK.out _ _ (HSS.out _ KQ.out) (fun hHeld => ?_)
        clear hK K
        refine tk 6 (v := ?_) ?_ ?_; rotate_left
        · refine Or.inl ⟨by rfl, ?_⟩; intro w hSw; obtain ⟨gQ0, gQ1, gQ2, gQ3, gQ4⟩ := hSw; go_simp; first | done | with_reducible rfl
        refine tk 7 (v := ?_) ?_ ?_; rotate_left
        · refine Or.inl ⟨by rfl, ?_⟩; intro w hSw; obtain ⟨gQ0, gQ1, gQ2, gQ3, gQ4⟩ := hSw; go_simp; first | done | with_reducible rfl
        refine rd1 8 (fun K hK => ?_)
        go_simp
        obtain ⟨V, hV⟩ : ∃ V, V = zD.alloc (.cells #[.string ⟨#[103, 101, 116]⟩, .string ⟨#[112, 117, 116]⟩, .string ⟨#[100, 101, 108]⟩] 9) := ⟨_, rfl⟩
        rw [← hV]
        have bV : Below zD.heap.size zD V := by rw [hV]; exact (Below.refl _ _).alloc (Nat.le_refl _) _
        have fV := cell_of_row V zD.heap.size 2 _ _ _ (by rw [hV]; exact heap_new _ _)
        simp only [List.getElem?_toArray, List.getElem?_cons_zero, List.getElem?_cons_succ] at fV
        have FV := Lib.hid fV
        replace KQ := tkb bV LQ KQ
        replace LQ := tlz LQ bV.size
        replace BB := tbt BB bV
        clear bV hV fV
        refine hK.out _ _ (HSS.out _ KQ.out) (fun hHeld => ?_)
        clear hK K
        refine tk 11 (v := ?_) ?_ ?_; rotate_left
        · refine Or.inl ⟨by rfl, ?_⟩; intro w hSw; obtain ⟨gQ0, gQ1, gQ2, gQ3, gQ4⟩ := hSw; go_simp; first | done | with_reducible rfl
        refine rd1 12 (fun K hK => ?_)
        have fV := FV.out
        go_simp
        clear fV
        refine hK.out _ _ (HSS.out _ KQ.out) (fun hHeld => ?_)
        clear hK K
        refine tk 13 (v := ?_) ?_ ?_; rotate_left
        · refine Or.inl ⟨by rfl, ?_⟩; intro w hSw; obtain ⟨gQ0, gQ1, gQ2, gQ3, gQ4⟩ := hSw; go_simp; first | done | with_reducible rfl
        refine tk 14 (v := ?_) ?_ ?_; rotate_left
        · refine Or.inl ⟨by rfl, ?_⟩; intro w hSw; obtain ⟨gQ0, gQ1, gQ2, gQ3, gQ4⟩ := hSw; go_simp; first | done | with_reducible rfl
        refine tk 17 (v := ?_) ?_ ?_; rotate_left
        · refine Or.inl ⟨by rfl, ?_⟩; intro w hSw; obtain ⟨gQ0, gQ1, gQ2, gQ3, gQ4⟩ := hSw; go_simp; first | done | with_reducible rfl
        refine tk 18 (v := ?_) ?_ ?_; rotate_left
        · refine Or.inl ⟨by rfl, ?_⟩; intro w hSw; obtain ⟨gQ0, gQ1, gQ2, gQ3, gQ4⟩ := hSw; go_simp; first | done | with_reducible rfl
        refine wpAnyH_done (by kernel_rfl) ?_ _
        clear hHeld
        have fQ0 := tcr KQ 0
        have fQ1 := tcr KQ 1
        have fQ2 := tcr KQ 2
        have fQ3 := tcr KQ 3
        have fQ4 := tcr KQ 4
        go_wp2_with fail
        go_ret
        exact ⟨ret_str' (by rw [HN.out]), BB.out⟩
      · go_simp
        obtain ⟨V, hV⟩ : ∃ V, V = zD.alloc (.cells #[.string ⟨#[103, 101, 116]⟩, .string ⟨#[112, 117, 116]⟩, .string ⟨#[100, 101, 108]⟩] 9) := ⟨_, rfl⟩
        rw [← hV]
        have bV : Below zD.heap.size zD V := by rw [hV]; exact (Below.refl _ _).alloc (Nat.le_refl _) _
        have fV := cell_of_row V zD.heap.size 2 _ _ _ (by rw [hV]; exact heap_new _ _)
        simp only [List.getElem?_toArray, List.getElem?_cons_zero, List.getElem?_cons_succ] at fV
        have FV := Lib.hid fV
        replace KQ := tkb bV LQ KQ
        replace LQ := tlz LQ bV.size
        replace BB := tbt BB bV
        clear bV hV fV
        refine hK.out _ _ (HSS.out _ KQ.out) (fun hHeld => ?_)
        clear hK K
        refine tk 11 (v := ?_) ?_ ?_; rotate_left
        · refine Or.inl ⟨by rfl, ?_⟩; intro w hSw; obtain ⟨gQ0, gQ1, gQ2, gQ3, gQ4⟩ := hSw; go_simp; first | done | with_reducible rfl
        refine rd2 5 12 (fun K hK => ?_) (fun K hK => ?_)
        · go_simp
          go_at_call 58
          refine (HD.out _).mono ?_
          rintro e wq ⟨rfl, rfl⟩
          go_wp2_with fail
          refine hK.out _ _ (HSS.out _ KQ.out) (fun hHeld => ?_)
          clear hK K
          refine tk 6 (v := ?_) ?_ ?_; rotate_left
          · refine Or.inl ⟨by rfl, ?_⟩; intro w hSw; obtain ⟨gQ0, gQ1, gQ2, gQ3, gQ4⟩ := hSw; go_simp; first | done | with_reducible rfl
          refine tk 7 (v := ?_) ?_ ?_; rotate_left
          · refine Or.inl ⟨by rfl, ?_⟩; intro w hSw; obtain ⟨gQ0, gQ1, gQ2, gQ3, gQ4⟩ := hSw; go_simp; first | done | with_reducible rfl
          refine rd1 12 (fun K hK => ?_)
          have fV := FV.out
          go_simp
          clear fV
          refine hK.out _ _ (HSS.out _ KQ.out) (fun hHeld => ?_)
          clear hK K
          refine tk 13 (v := ?_) ?_ ?_; rotate_left
          · refine Or.inl ⟨by rfl, ?_⟩; intro w hSw; obtain ⟨gQ0, gQ1, gQ2, gQ3, gQ4⟩ := hSw; go_simp; first | done | with_reducible rfl
          refine tk 14 (v := ?_) ?_ ?_; rotate_left
          · refine Or.inl ⟨by rfl, ?_⟩; intro w hSw; obtain ⟨gQ0, gQ1, gQ2, gQ3, gQ4⟩ := hSw; go_simp; first | done | with_reducible rfl
          refine tk 17 (v := ?_) ?_ ?_; rotate_left
          · refine Or.inl ⟨by rfl, ?_⟩; intro w hSw; obtain ⟨gQ0, gQ1, gQ2, gQ3, gQ4⟩ := hSw; go_simp; first | done | with_reducible rfl
          refine tk 18 (v := ?_) ?_ ?_; rotate_left
          · refine Or.inl ⟨by rfl, ?_⟩; intro w hSw; obtain ⟨gQ0, gQ1, gQ2, gQ3, gQ4⟩ := hSw; go_simp; first | done | with_reducible rfl
          refine wpAnyH_done (by kernel_rfl) ?_ _
          clear hHeld
          have fQ0 := tcr KQ 0
          have fQ1 := tcr KQ 1
          have fQ2 := tcr KQ 2
          have fQ3 := tcr KQ 3
          have fQ4 := tcr KQ 4
          go_wp2_with fail
          go_ret
          exact ⟨ret_str' (by rw [HN.out]), BB.out⟩
        · have fV := FV.out
          go_simp
          clear fV
          refine hK.out _ _ (HSS.out _ KQ.out) (fun hHeld => ?_)
          clear hK K
          refine rd1 5 (fun K hK => ?_)
          go_simp
          go_at_call 58
          refine (HD.out _).mono ?_
          rintro e wq ⟨rfl, rfl⟩
          go_wp2_with fail
          refine hK.out _ _ (HSS.out _ KQ.out) (fun hHeld => ?_)
          clear hK K
          refine tk 6 (v := ?_) ?_ ?_; rotate_left
          · refine Or.inl ⟨by rfl, ?_⟩; intro w hSw; obtain ⟨gQ0, gQ1, gQ2, gQ3, gQ4⟩ := hSw; go_simp; first | done | with_reducible rfl
          refine tk 7 (v := ?_) ?_ ?_; rotate_left
          · refine Or.inl ⟨by rfl, ?_⟩; intro w hSw; obtain ⟨gQ0, gQ1, gQ2, gQ3, gQ4⟩ := hSw; go_simp; first | done | with_reducible rfl
          refine tk 13 (v := ?_) ?_ ?_; rotate_left
          · refine Or.inl ⟨by rfl, ?_⟩; intro w hSw; obtain ⟨gQ0, gQ1, gQ2, gQ3, gQ4⟩ := hSw; go_simp; first | done | with_reducible rfl
          refine tk 14 (v := ?_) ?_ ?_; rotate_left
          · refine Or.inl ⟨by rfl, ?_⟩; intro w hSw; obtain ⟨gQ0, gQ1, gQ2, gQ3, gQ4⟩ := hSw; go_simp; first | done | with_reducible rfl
          refine tk 17 (v := ?_) ?_ ?_; rotate_left
          · refine Or.inl ⟨by rfl, ?_⟩; intro w hSw; obtain ⟨gQ0, gQ1, gQ2, gQ3, gQ4⟩ := hSw; go_simp; first | done | with_reducible rfl
          refine tk 18 (v := ?_) ?_ ?_; rotate_left
          · refine Or.inl ⟨by rfl, ?_⟩; intro w hSw; obtain ⟨gQ0, gQ1, gQ2, gQ3, gQ4⟩ := hSw; go_simp; first | done | with_reducible rfl
          refine wpAnyH_done (by kernel_rfl) ?_ _
          clear hHeld
          have fQ0 := tcr KQ 0
          have fQ1 := tcr KQ 1
          have fQ2 := tcr KQ 2
          have fQ3 := tcr KQ 3
          have fQ4 := tcr KQ 4
          go_wp2_with fail
          go_ret
          exact ⟨ret_str' (by rw [HN.out]), BB.out⟩
end Go.Proofs.YtebmaplflpfjbaaDoor
