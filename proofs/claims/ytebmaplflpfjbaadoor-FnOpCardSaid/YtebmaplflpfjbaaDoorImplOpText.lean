/- What impl.OpText answers: the operation's text. Condition: what the arguments may be; the table of kinds' words and the table of powers of ten read as their initialisers lay them. -/
import Derived.Test.YtebmaplflpfjbaaDoorBaseA
import Derived.Test.YtebmaplflpfjbaaDoorSpecOpText2
import Derived.Test.YtebmaplflpfjbaaDoorImplDec
import Derived.Deep.RegionHeld
namespace Go.Proofs.YtebmaplflpfjbaaDoor
open Go.RowKit List
set_option linter.unusedVariables false
set_option linter.unusedSimpArgs false

theorem infoSt9 : (Tryd.prog.info? 9).map (fun i => (i.zero, i.size, i.bytes)) = some (some (.string ⟨#[]⟩), 1, 16) := by kernel_rfl
theorem ByteArray.size_mk3 (a b c : UInt8) : (⟨#[a, b, c]⟩ : ByteArray).size = 3 := rfl
/-- The words of the kinds lie where the program laid them. -/
def Kinds (w : World) : Prop := 0 < w.heap.size ∧ w.cell? ⟨0, 0, none⟩ = some (.string ⟨#[103, 101, 116]⟩) ∧ w.cell? ⟨0, 1, none⟩ = some (.string ⟨#[112, 117, 116]⟩) ∧ w.cell? ⟨0, 2, none⟩ = some (.string ⟨#[100, 101, 108]⟩)
def Doors (w : World) : Prop := Kinds w ∧ Pow10 w.heap.size w
theorem Kinds.later {w w' : World} (h : Kinds w) (hb : Below w.heap.size w w') : Kinds w' := by
  obtain ⟨h0, h1, h2, h3⟩ := h
  refine ⟨Nat.lt_of_lt_of_le h0 hb.size, ?_, ?_, ?_⟩
  · rw [hb.cell h0]; exact h1
  · rw [hb.cell h0]; exact h2
  · rw [hb.cell h0]; exact h3
theorem Doors.later {w w' : World} (h : Doors w) (hb : Below w.heap.size w w') : Doors w' := ⟨h.1.later hb, pow10_later h.2 hb⟩
theorem join_four (g : Nat) (a b c d : ByteArray) (w : World) (h : w.heap[g]? = some (.cells #[.string a, .string b, .string c, .string d] 9 (0, 0))) (hs : a.size + 1 + b.size + 1 + c.size + 1 + d.size ≤ 1000) :
    Calls Tryd.prog 50 #[.slice (some ⟨g, 0, none⟩) 4 4, .string ⟨#[32]⟩] w fun e w' => e = .returned (.string (a ++ ⟨#[32]⟩ ++ b ++ ⟨#[32]⟩ ++ c ++ ⟨#[32]⟩ ++ d)) ∧ Below w.heap.size w w' := by
  have hlt : g < w.heap.size := by
    rcases Nat.lt_or_ge g w.heap.size with h' | h'
    · exact h'
    · rw [Array.getElem?_eq_none h'] at h; cases h
  have hc : ∀ (j : Nat) (x : ByteArray), [a, b, c, d][j]? = some x → w.cell? ⟨g, 0 + j, none⟩ = some (.string x) := by
    intro j x hj
    rw [Nat.zero_add, cell_of_row w g j _ _ _ h]
    match j with
    | 0 | 1 | 2 | 3 => simp at hj; subst hj; rfl
    | j + 4 => simp at hj
  have hl : (Lib.join ([a, b, c, d].map (·.data.toList)) [32]).length ≤ 140737488355328 := by
    simp [Lib.join_cons, Lib.joinTail]; omega
  have := Tryd.strings_Join g 0 4 [a, b, c, d] ⟨#[32]⟩ w hc hlt (by simp) (by simp) hl
  rw [← join4]
  exact this
theorem join_five (g cap : Nat) (a b c d f : ByteArray) (w : World) (h : ∀ (j : Nat) (x : ByteArray), [a, b, c, d, f][j]? = some x → w.cell? ⟨g, 0 + j, none⟩ = some (.string x)) (hlt : g < w.heap.size) (hcap : 5 ≤ cap) (hs : a.size + 1 + b.size + 1 + c.size + 1 + d.size + 1 + f.size ≤ 1000) :
    Calls Tryd.prog 50 #[.slice (some ⟨g, 0, none⟩) 5 cap, .string ⟨#[32]⟩] w fun e w' => e = .returned (.string (a ++ ⟨#[32]⟩ ++ b ++ ⟨#[32]⟩ ++ c ++ ⟨#[32]⟩ ++ d ++ ⟨#[32]⟩ ++ f)) ∧ Below w.heap.size w w' := by
  have hl : (Lib.join ([a, b, c, d, f].map (·.data.toList)) [32]).length ≤ 140737488355328 := by
    simp [Lib.join_cons, Lib.joinTail]; omega
  have := Tryd.strings_Join g 0 cap [a, b, c, d, f] ⟨#[32]⟩ w h hlt (by simp) hcap hl
  rw [← join5]
  exact this
theorem owns_four {w : World} {base g : Nat} {a b c d : Value} (hb : base ≤ g) (h : w.heap[g]? = some (.cells #[a, b, c, d] 9 (0, 0))) : w.ownsRow base 9 1 (.slice (some ⟨g, 0, none⟩) 4 4) 4 [a, b, c, d] :=
  ⟨rfl, .inr ⟨g, 4, _, rfl, hb, h, Nat.le_refl _, by unfold maxLen; omega, rfl, rfl⟩⟩
theorem owns_five {w : World} {base : Nat} {v : Value} {a b c d f : ByteArray} (h : w.ownsRow base 9 1 v (4 + 1) ([.string a, .string b, .string c, .string d] ++ [.string f])) :
    ∃ g cap, v = .slice (some ⟨g, 0, none⟩) 5 cap ∧ base ≤ g ∧ g < w.heap.size ∧ 5 ≤ cap ∧ ∀ (j : Nat) (x : ByteArray), [a, b, c, d, f][j]? = some x → w.cell? ⟨g, 0 + j, none⟩ = some (.string x) := by
  have h0 := h
  obtain ⟨_, h | ⟨g, cap, cur, rfl, hb, hg, hn, hm, hs, ht⟩⟩ := h
  · exact absurd h.2 (by omega)
  · have hlt : g < w.heap.size := by
      rcases Nat.lt_or_ge g w.heap.size with h' | h'
      · exact h'
      · rw [Array.getElem?_eq_none h'] at hg; cases hg
    refine ⟨g, cap, rfl, hb, hlt, hn, fun j x hj => ?_⟩
    have := h0.cells (g := g) rfl j (.string x) (by
      match j with
      | 0 | 1 | 2 | 3 | 4 => simp at hj; subst hj; rfl
      | j + 5 => simp at hj)
    rw [add_flat] at this
    exact this
theorem Below.grown_own {B : Nat} {w w1 w2 : World} {r : Option Nat} (h : Below B w w1) (hg : w1.grownBy w2 r) (hr : ∀ k, r = some k → B ≤ k) (hB : B ≤ w1.heap.size) : Below B w w2 := h.grown hg hB hr
set_option maxRecDepth 100000 in
set_option maxHeartbeats 4000000 in
theorem impl_opText (x : Rq) (w : World) (hf : FitRq x) (hdo : Doors w) :
    Calls Tryd.prog 18 #[rqA x] w fun e w' => e = .returned (.string (opText x)) ∧ Below w.heap.size w w' := by
  have hx := hf
  obtain ⟨hc, hk, hv, hq, hn⟩ := hf
  have Hv := Lib.hid hv
  have c2 := fun w => impl_opOk x w hx
  have c3 := fun w => impl_isWord x.v w hv
  have Hsum : Hid (rqOk x = true → (x.c.size + 1 + (decS x.q).size + 1 + 3 + 1 + x.k.size + 1 + x.v.size ≤ 200)) := Lib.hid (op_sizes x)
  obtain ⟨D, hD⟩ : ∃ D, D = decS x.q := ⟨_, rfl⟩
  have HDD := Lib.hid hD
  rw [← hD] at Hsum
  have HD : Hid (∀ w, Pow10 w.heap.size w → Calls Tryd.prog 48 #[.int .i64 x.q] w fun e w' => e = .returned (.string D) ∧ Below w.heap.size w w') := Lib.hid (fun w h => by rw [hD]; exact impl_decText x.q hq.1 hq.2 _ w (Nat.le_refl _) h)
  clear hD hc hk hq hn hx hv
  unfold rqA at *
  obtain ⟨W, hW⟩ : ∃ W, W = w.alloc (.cells #[.string x.c, .int .i64 x.q, .int .i64 x.n, .string x.k, .string x.v] 29) := ⟨_, rfl⟩
  have hbW : Below w.heap.size w W := by rw [hW]; exact (Below.refl _ _).alloc (Nat.le_refl _) _
  have KQ : Hid (W.heap[w.heap.size]? = some (.cells #[.string x.c, .int .i64 x.q, .int .i64 x.n, .string x.k, .string x.v] 29 (0, 0))) := Lib.hid (by rw [hW]; exact heap_new _ _)
  have LQ : Hid (w.heap.size < W.heap.size) := Lib.hid (by rw [hW]; simp)
  have BB := Lib.hid hbW
  have c0 := c2 W
  rw [hW] at c0
  clear hbW
  have DO := Lib.hid (hdo.later BB.out)
  clear hdo
  cases hok : rqOk x
  · have HN := Lib.hid (opText_bad hok)
    rw [hok] at c0
    clear hok
    go_enter Tryd.func18, Tryd.ntmps18
    go_wp2_with (go_at_call 14; refine c0.mono ?_; rintro e w1 ⟨rfl, hb1⟩; refine Hid.out ?_)
    refine Lib.hid ?_
    rw [← hW] at hb1
    clear c0 hW c2 c3
    replace KQ := tkb hb1 LQ KQ
    replace LQ := tlz LQ hb1.size
    replace DO := Lib.hid (DO.out.later hb1)
    replace BB := tbt BB hb1
    clear hb1
    go_wp2_with fail
    go_ret
    exact ⟨ret_str' (by rw [HN.out]), BB.out⟩
  · have HO := Lib.hid hok
    rw [hok] at c0
    have hnn := (rqOk_parts HO.out).1
    have Hs := Lib.hid (Hsum.out HO.out)
    clear hok Hsum
    have hn : x.n = 0 ∨ x.n = 1 ∨ x.n = 2 := by omega
    clear hnn
    have Hn3 := Lib.hid hn
    clear hn
    go_enter Tryd.func18, Tryd.ntmps18
    go_wp2_with (go_at_call 14; refine c0.mono ?_; rintro e w1 ⟨rfl, hb1⟩; refine Hid.out ?_)
    refine Lib.hid ?_
    rw [← hW] at hb1
    clear c0 hW c2
    replace KQ := tkb hb1 LQ KQ
    replace LQ := tlz LQ hb1.size
    replace DO := Lib.hid (DO.out.later hb1)
    replace BB := tbt BB hb1
    clear hb1
    rcases Hn3.out with hn | hn | hn
    · clear Hn3
      have KQ' : Hid (w1.heap[w.heap.size]? = some (.cells #[.string x.c, .int .i64 x.q, .int .i64 0, .string x.k, .string x.v] 29 (0, 0))) := Lib.hid (by rw [← hn]; exact KQ.out)
      clear KQ
      have KQ := KQ'
      clear KQ'
      have Hn := Lib.hid hn
      clear hn
      have HSS : Hid (∀ w' : World, w'.heap[w.heap.size]? = some (.cells #[.string x.c, .int .i64 x.q, .int .i64 0, .string x.k, .string x.v] 29 (0, 0)) → Doors w' → (w'.cell? ⟨w.heap.size, 0, none⟩ = some (.string x.c) ∧ w'.cell? ⟨w.heap.size, 1, none⟩ = some (.int .i64 x.q) ∧ w'.cell? ⟨w.heap.size, 2, none⟩ = some (.int .i64 0) ∧ w'.cell? ⟨w.heap.size, 3, none⟩ = some (.string x.k) ∧ w'.cell? ⟨w.heap.size, 4, none⟩ = some (.string x.v)) ∧ (w'.cell? ⟨0, 0, none⟩ = some (.string ⟨#[103, 101, 116]⟩))) := Lib.hid (fun w' k1 k2 => ⟨⟨by simpa using cell_of_row w' _ 0 _ _ _ k1, by simpa using cell_of_row w' _ 1 _ _ _ k1, by simpa using cell_of_row w' _ 2 _ _ _ k1, by simpa using cell_of_row w' _ 3 _ _ _ k1, by simpa using cell_of_row w' _ 4 _ _ _ k1⟩, k2.1.2.1⟩)
      go_wp2_with fail
      refine wp_region_held_drew (S := (fun w' => (w'.cell? ⟨w.heap.size, 0, none⟩ = some (.string x.c) ∧ w'.cell? ⟨w.heap.size, 1, none⟩ = some (.int .i64 x.q) ∧ w'.cell? ⟨w.heap.size, 2, none⟩ = some (.int .i64 0) ∧ w'.cell? ⟨w.heap.size, 3, none⟩ = some (.string x.k) ∧ w'.cell? ⟨w.heap.size, 4, none⟩ = some (.string x.v)) ∧ (w'.cell? ⟨0, 0, none⟩ = some (.string ⟨#[103, 101, 116]⟩)))) (by kernel_rfl) (HSS.out _ KQ.out (DO.out.later (Below.refl _ _).drew)) (fun hHeld => ?_)
      obtain ⟨zD, hzD⟩ : ∃ z, z = w1.drew := ⟨_, rfl⟩
      rw [← hzD] at hHeld ⊢
      have bzD : Below w1.heap.size w1 zD := by rw [hzD]; exact (Below.refl _ _).drew
      replace KQ := tkb bzD LQ KQ
      replace LQ := tlz LQ bzD.size
      replace DO := Lib.hid (DO.out.later bzD)
      replace BB := tbt BB bzD
      clear bzD hzD
      refine tk 0 (v := ?_) ?_ ?_; rotate_left
      · refine Or.inl ⟨by rfl, ?_⟩; intro w hSw; obtain ⟨⟨gQ0, gQ1, gQ2, gQ3, gQ4⟩, gK⟩ := hSw; go_simp; first | done | with_reducible rfl
      refine tk 1 (v := ?_) ?_ ?_; rotate_left
      · refine Or.inl ⟨by rfl, ?_⟩; intro w hSw; obtain ⟨⟨gQ0, gQ1, gQ2, gQ3, gQ4⟩, gK⟩ := hSw; go_simp; first | done | with_reducible rfl
      refine tk 2 (v := ?_) ?_ ?_; rotate_left
      · refine Or.inl ⟨by rfl, ?_⟩; intro w hSw; obtain ⟨⟨gQ0, gQ1, gQ2, gQ3, gQ4⟩, gK⟩ := hSw; go_simp; first | done | with_reducible rfl
      refine tk 3 (v := ?_) ?_ ?_; rotate_left
      · refine Or.inl ⟨by rfl, ?_⟩; intro w hSw; obtain ⟨⟨gQ0, gQ1, gQ2, gQ3, gQ4⟩, gK⟩ := hSw; go_simp; first | done | with_reducible rfl
      refine tk 5 (v := ?_) ?_ ?_; rotate_left
      · refine Or.inl ⟨by rfl, ?_⟩; intro w hSw; obtain ⟨⟨gQ0, gQ1, gQ2, gQ3, gQ4⟩, gK⟩ := hSw; go_simp; first | done | with_reducible rfl
      refine tk 6 (v := ?_) ?_ ?_; rotate_left
      · refine Or.inl ⟨by rfl, ?_⟩; intro w hSw; obtain ⟨⟨gQ0, gQ1, gQ2, gQ3, gQ4⟩, gK⟩ := hSw; go_simp; first | done | with_reducible rfl
      refine tk 7 (v := ?_) ?_ ?_; rotate_left
      · refine Or.inl ⟨by rfl, ?_⟩; intro w hSw; obtain ⟨⟨gQ0, gQ1, gQ2, gQ3, gQ4⟩, gK⟩ := hSw; go_simp; first | done | with_reducible rfl
      refine tk 8 (v := ?_) ?_ ?_; rotate_left
      · refine Or.inl ⟨by rfl, ?_⟩; intro w hSw; obtain ⟨⟨gQ0, gQ1, gQ2, gQ3, gQ4⟩, gK⟩ := hSw; go_simp; first | done | with_reducible rfl
      refine tk 9 (v := ?_) ?_ ?_; rotate_left
      · refine Or.inl ⟨by rfl, ?_⟩; intro w hSw; obtain ⟨⟨gQ0, gQ1, gQ2, gQ3, gQ4⟩, gK⟩ := hSw; go_simp; first | done | with_reducible rfl
      refine tk 10 (v := ?_) ?_ ?_; rotate_left
      · refine Or.inl ⟨by rfl, ?_⟩; intro w hSw; obtain ⟨⟨gQ0, gQ1, gQ2, gQ3, gQ4⟩, gK⟩ := hSw; go_simp; first | done | with_reducible rfl
      refine rd1 4 (fun K hK => ?_)
      have hc := HD.out zD DO.out.2
      go_simp
      go_at_call 48
      refine hc.mono ?_
      rintro e wk ⟨rfl, hbk⟩
      replace KQ := tkb hbk LQ KQ
      replace LQ := tlz LQ hbk.size
      replace DO := Lib.hid (DO.out.later hbk)
      replace BB := tbt BB hbk
      clear hc hbk
      go_wp2_with fail
      refine hK.out _ _ (HSS.out _ KQ.out DO.out) (fun hHeld => ?_)
      clear hK K
      refine rd1 11 (fun K hK => ?_)
      go_simp
      obtain ⟨V, hV⟩ : ∃ V, V = wk.alloc (.cells #[.string x.c, .string D, .string ⟨#[103, 101, 116]⟩, .string x.k] 9) := ⟨_, rfl⟩
      rw [← hV]
      have bV : Below wk.heap.size wk V := by rw [hV]; exact (Below.refl _ _).alloc (Nat.le_refl _) _
      have KV : Hid (V.heap[wk.heap.size]? = some (.cells #[.string x.c, .string D, .string ⟨#[103, 101, 116]⟩, .string x.k] 9 (0, 0))) := Lib.hid (by rw [hV]; exact heap_new _ _)
      have LV : Hid (wk.heap.size < V.heap.size) := Lib.hid (by rw [hV]; simp)
      have NV : Hid (w.heap.size < wk.heap.size) := LQ
      replace KQ := tkb bV LQ KQ
      replace LQ := tlz LQ bV.size
      replace DO := Lib.hid (DO.out.later bV)
      replace BB := tbt BB bV
      clear bV hV
      refine hK.out _ _ (HSS.out _ KQ.out DO.out) (fun hHeld => ?_)
      clear hK K
      refine tk0 12 ?_
      refine wpAnyH_done (by kernel_rfl) ?_ _
      clear hHeld HSS
      clear c3
      have HN : Hid (opText x = x.c ++ ⟨#[32]⟩ ++ D ++ ⟨#[32]⟩ ++ ⟨#[103, 101, 116]⟩ ++ ⟨#[32]⟩ ++ x.k) := Lib.hid (by rw [HDD.out, opText_head HO.out (by rw [Hn.out]; decide)]; unfold opHead; rw [Hn.out]; rfl)
      have hj := join_four wk.heap.size x.c D ⟨#[103, 101, 116]⟩ x.k V KV.out (by have := Hs.out; simp only [ByteArray.size_mk3]; omega)
      have fQ0 := tcr KQ 0
      have fQ1 := tcr KQ 1
      have fQ2 := tcr KQ 2
      have fQ3 := tcr KQ 3
      have fQ4 := tcr KQ 4
      go_wp2_with (go_at_call 50; refine hj.mono ?_; rintro e wj ⟨rfl, hbj⟩; refine Hid.out ?_)
      refine Lib.hid ?_
      clear fQ0 fQ1 fQ2 fQ3 fQ4
      replace KQ := tkb hbj LQ KQ
      replace LQ := tlz LQ hbj.size
      replace KV := tkb hbj LV KV
      replace LV := tlz LV hbj.size
      replace DO := Lib.hid (DO.out.later hbj)
      replace BB := tbt BB hbj
      clear hj hbj
      go_wp2_with fail
      go_ret
      exact ⟨ret_str' (by rw [HN.out]), BB.out⟩
    · clear Hn3
      have KQ' : Hid (w1.heap[w.heap.size]? = some (.cells #[.string x.c, .int .i64 x.q, .int .i64 1, .string x.k, .string x.v] 29 (0, 0))) := Lib.hid (by rw [← hn]; exact KQ.out)
      clear KQ
      have KQ := KQ'
      clear KQ'
      have Hn := Lib.hid hn
      clear hn
      have HSS : Hid (∀ w' : World, w'.heap[w.heap.size]? = some (.cells #[.string x.c, .int .i64 x.q, .int .i64 1, .string x.k, .string x.v] 29 (0, 0)) → Doors w' → (w'.cell? ⟨w.heap.size, 0, none⟩ = some (.string x.c) ∧ w'.cell? ⟨w.heap.size, 1, none⟩ = some (.int .i64 x.q) ∧ w'.cell? ⟨w.heap.size, 2, none⟩ = some (.int .i64 1) ∧ w'.cell? ⟨w.heap.size, 3, none⟩ = some (.string x.k) ∧ w'.cell? ⟨w.heap.size, 4, none⟩ = some (.string x.v)) ∧ (w'.cell? ⟨0, 1, none⟩ = some (.string ⟨#[112, 117, 116]⟩))) := Lib.hid (fun w' k1 k2 => ⟨⟨by simpa using cell_of_row w' _ 0 _ _ _ k1, by simpa using cell_of_row w' _ 1 _ _ _ k1, by simpa using cell_of_row w' _ 2 _ _ _ k1, by simpa using cell_of_row w' _ 3 _ _ _ k1, by simpa using cell_of_row w' _ 4 _ _ _ k1⟩, k2.1.2.2.1⟩)
      go_wp2_with fail
      refine wp_region_held_drew (S := (fun w' => (w'.cell? ⟨w.heap.size, 0, none⟩ = some (.string x.c) ∧ w'.cell? ⟨w.heap.size, 1, none⟩ = some (.int .i64 x.q) ∧ w'.cell? ⟨w.heap.size, 2, none⟩ = some (.int .i64 1) ∧ w'.cell? ⟨w.heap.size, 3, none⟩ = some (.string x.k) ∧ w'.cell? ⟨w.heap.size, 4, none⟩ = some (.string x.v)) ∧ (w'.cell? ⟨0, 1, none⟩ = some (.string ⟨#[112, 117, 116]⟩)))) (by kernel_rfl) (HSS.out _ KQ.out (DO.out.later (Below.refl _ _).drew)) (fun hHeld => ?_)
      obtain ⟨zD, hzD⟩ : ∃ z, z = w1.drew := ⟨_, rfl⟩
      rw [← hzD] at hHeld ⊢
      have bzD : Below w1.heap.size w1 zD := by rw [hzD]; exact (Below.refl _ _).drew
      replace KQ := tkb bzD LQ KQ
      replace LQ := tlz LQ bzD.size
      replace DO := Lib.hid (DO.out.later bzD)
      replace BB := tbt BB bzD
      clear bzD hzD
      refine tk 0 (v := ?_) ?_ ?_; rotate_left
      · refine Or.inl ⟨by rfl, ?_⟩; intro w hSw; obtain ⟨⟨gQ0, gQ1, gQ2, gQ3, gQ4⟩, gK⟩ := hSw; go_simp; first | done | with_reducible rfl
      refine tk 1 (v := ?_) ?_ ?_; rotate_left
      · refine Or.inl ⟨by rfl, ?_⟩; intro w hSw; obtain ⟨⟨gQ0, gQ1, gQ2, gQ3, gQ4⟩, gK⟩ := hSw; go_simp; first | done | with_reducible rfl
      refine tk 2 (v := ?_) ?_ ?_; rotate_left
      · refine Or.inl ⟨by rfl, ?_⟩; intro w hSw; obtain ⟨⟨gQ0, gQ1, gQ2, gQ3, gQ4⟩, gK⟩ := hSw; go_simp; first | done | with_reducible rfl
      refine tk 3 (v := ?_) ?_ ?_; rotate_left
      · refine Or.inl ⟨by rfl, ?_⟩; intro w hSw; obtain ⟨⟨gQ0, gQ1, gQ2, gQ3, gQ4⟩, gK⟩ := hSw; go_simp; first | done | with_reducible rfl
      refine tk 5 (v := ?_) ?_ ?_; rotate_left
      · refine Or.inl ⟨by rfl, ?_⟩; intro w hSw; obtain ⟨⟨gQ0, gQ1, gQ2, gQ3, gQ4⟩, gK⟩ := hSw; go_simp; first | done | with_reducible rfl
      refine tk 6 (v := ?_) ?_ ?_; rotate_left
      · refine Or.inl ⟨by rfl, ?_⟩; intro w hSw; obtain ⟨⟨gQ0, gQ1, gQ2, gQ3, gQ4⟩, gK⟩ := hSw; go_simp; first | done | with_reducible rfl
      refine tk 7 (v := ?_) ?_ ?_; rotate_left
      · refine Or.inl ⟨by rfl, ?_⟩; intro w hSw; obtain ⟨⟨gQ0, gQ1, gQ2, gQ3, gQ4⟩, gK⟩ := hSw; go_simp; first | done | with_reducible rfl
      refine tk 8 (v := ?_) ?_ ?_; rotate_left
      · refine Or.inl ⟨by rfl, ?_⟩; intro w hSw; obtain ⟨⟨gQ0, gQ1, gQ2, gQ3, gQ4⟩, gK⟩ := hSw; go_simp; first | done | with_reducible rfl
      refine tk 9 (v := ?_) ?_ ?_; rotate_left
      · refine Or.inl ⟨by rfl, ?_⟩; intro w hSw; obtain ⟨⟨gQ0, gQ1, gQ2, gQ3, gQ4⟩, gK⟩ := hSw; go_simp; first | done | with_reducible rfl
      refine tk 10 (v := ?_) ?_ ?_; rotate_left
      · refine Or.inl ⟨by rfl, ?_⟩; intro w hSw; obtain ⟨⟨gQ0, gQ1, gQ2, gQ3, gQ4⟩, gK⟩ := hSw; go_simp; first | done | with_reducible rfl
      refine rd1 4 (fun K hK => ?_)
      have hc := HD.out zD DO.out.2
      go_simp
      go_at_call 48
      refine hc.mono ?_
      rintro e wk ⟨rfl, hbk⟩
      replace KQ := tkb hbk LQ KQ
      replace LQ := tlz LQ hbk.size
      replace DO := Lib.hid (DO.out.later hbk)
      replace BB := tbt BB hbk
      clear hc hbk
      go_wp2_with fail
      refine hK.out _ _ (HSS.out _ KQ.out DO.out) (fun hHeld => ?_)
      clear hK K
      refine rd1 11 (fun K hK => ?_)
      go_simp
      obtain ⟨V, hV⟩ : ∃ V, V = wk.alloc (.cells #[.string x.c, .string D, .string ⟨#[112, 117, 116]⟩, .string x.k] 9) := ⟨_, rfl⟩
      rw [← hV]
      have bV : Below wk.heap.size wk V := by rw [hV]; exact (Below.refl _ _).alloc (Nat.le_refl _) _
      have KV : Hid (V.heap[wk.heap.size]? = some (.cells #[.string x.c, .string D, .string ⟨#[112, 117, 116]⟩, .string x.k] 9 (0, 0))) := Lib.hid (by rw [hV]; exact heap_new _ _)
      have LV : Hid (wk.heap.size < V.heap.size) := Lib.hid (by rw [hV]; simp)
      have NV : Hid (w.heap.size < wk.heap.size) := LQ
      replace KQ := tkb bV LQ KQ
      replace LQ := tlz LQ bV.size
      replace DO := Lib.hid (DO.out.later bV)
      replace BB := tbt BB bV
      clear bV hV
      refine hK.out _ _ (HSS.out _ KQ.out DO.out) (fun hHeld => ?_)
      clear hK K
      refine tk0 12 ?_
      refine wpAnyH_done (by kernel_rfl) ?_ _
      clear hHeld HSS
      have c4 := c3 V
      cases hw : wordB x.v.data.toList
      · have HN := Lib.hid (opText_none HO.out Hn.out hw)
        rw [hw] at c4
        clear hw c3
        have fQ0 := tcr KQ 0
        have fQ1 := tcr KQ 1
        have fQ2 := tcr KQ 2
        have fQ3 := tcr KQ 3
        have fQ4 := tcr KQ 4
        go_wp2_with (go_at_call 49; refine c4.mono ?_; rintro e w2 ⟨rfl, rfl⟩)
        go_ret
        exact ⟨ret_str' (by rw [HN.out]), BB.out⟩
      · have HN : Hid (opText x = x.c ++ ⟨#[32]⟩ ++ D ++ ⟨#[32]⟩ ++ ⟨#[112, 117, 116]⟩ ++ ⟨#[32]⟩ ++ x.k ++ ⟨#[32]⟩ ++ x.v) := Lib.hid (by rw [HDD.out, opText_word HO.out Hn.out hw]; unfold opHead; rw [Hn.out]; rfl)
        rw [hw] at c4
        clear hw c3
        have fQ0 := tcr KQ 0
        have fQ1 := tcr KQ 1
        have fQ2 := tcr KQ 2
        have fQ3 := tcr KQ 3
        have fQ4 := tcr KQ 4
        obtain ⟨i0, hi, hz0, hz1, hz2⟩ := info_parts infoSt9
        have hrow : V.ownsRow w.heap.size 9 1 (.slice (some ⟨wk.heap.size, 0, none⟩) 4 4) 4 [.string x.c, .string D, .string ⟨#[112, 117, 116]⟩, .string x.k] := owns_four (by have := NV.out; omega) KV.out
        have Hrow := Lib.hid hrow
        have hbs := BB.out.size
        clear hrow
        go_wp2_with (first | (go_at_call 49; refine c4.mono ?_; rintro e w2 ⟨rfl, rfl⟩) | (at_builtin; refine wpList_append_own _ rfl _ _ 50 rfl w.heap.size 9 i0 (.string ⟨#[]⟩) 1 16 Tryd.underlying50 hi hz0 hz1 hz2 rfl (by decide) _ _ _ rfl (World.ownsRow.alloc Hrow.out _) ⟨_, 0, none⟩ 1 1 [.string x.v] rfl rfl (cell_one_new _ _ _) (by simp [Value.oneCell']) (by unfold maxLen; omega) (by omega) (by simp; omega) ?_; intro v' wa hown' hgrow _; refine Hid.out ?_))
        refine Lib.hid ?_
        clear fQ0 fQ1 fQ2 fQ3 fQ4
        obtain ⟨g5, c5, rfl, hg5, hl5, hm5, hcells⟩ := owns_five hown'
        have hBa := Lib.hid (Below.grown_own (BB.out.alloc (by omega) _) hgrow (fun k hk => by cases hk; have := NV.out; show w.heap.size ≤ wk.heap.size; omega) (by simp; omega))
        have hj := join_five g5 c5 x.c D ⟨#[112, 117, 116]⟩ x.k x.v wa hcells hl5 hm5 (by have := Hs.out; simp only [ByteArray.size_mk3]; omega)
        clear hown' hgrow hcells c4
        go_wp2_with (go_at_call 50; refine hj.mono ?_; rintro e wj ⟨rfl, hbj⟩; refine Hid.out ?_)
        refine Lib.hid ?_
        have HB := Lib.hid (hBa.out.trans (hbj.mono hBa.out.size))
        clear hj hbj
        go_wp2_with fail
        go_ret
        exact ⟨ret_str' (by rw [HN.out]), HB.out⟩
    · clear Hn3
      have KQ' : Hid (w1.heap[w.heap.size]? = some (.cells #[.string x.c, .int .i64 x.q, .int .i64 2, .string x.k, .string x.v] 29 (0, 0))) := Lib.hid (by rw [← hn]; exact KQ.out)
      clear KQ
      have KQ := KQ'
      clear KQ'
      have Hn := Lib.hid hn
      clear hn
      have HSS : Hid (∀ w' : World, w'.heap[w.heap.size]? = some (.cells #[.string x.c, .int .i64 x.q, .int .i64 2, .string x.k, .string x.v] 29 (0, 0)) → Doors w' → (w'.cell? ⟨w.heap.size, 0, none⟩ = some (.string x.c) ∧ w'.cell? ⟨w.heap.size, 1, none⟩ = some (.int .i64 x.q) ∧ w'.cell? ⟨w.heap.size, 2, none⟩ = some (.int .i64 2) ∧ w'.cell? ⟨w.heap.size, 3, none⟩ = some (.string x.k) ∧ w'.cell? ⟨w.heap.size, 4, none⟩ = some (.string x.v)) ∧ (w'.cell? ⟨0, 2, none⟩ = some (.string ⟨#[100, 101, 108]⟩))) := Lib.hid (fun w' k1 k2 => ⟨⟨by simpa using cell_of_row w' _ 0 _ _ _ k1, by simpa using cell_of_row w' _ 1 _ _ _ k1, by simpa using cell_of_row w' _ 2 _ _ _ k1, by simpa using cell_of_row w' _ 3 _ _ _ k1, by simpa using cell_of_row w' _ 4 _ _ _ k1⟩, k2.1.2.2.2⟩)
      go_wp2_with fail
      refine wp_region_held_drew (S := (fun w' => (w'.cell? ⟨w.heap.size, 0, none⟩ = some (.string x.c) ∧ w'.cell? ⟨w.heap.size, 1, none⟩ = some (.int .i64 x.q) ∧ w'.cell? ⟨w.heap.size, 2, none⟩ = some (.int .i64 2) ∧ w'.cell? ⟨w.heap.size, 3, none⟩ = some (.string x.k) ∧ w'.cell? ⟨w.heap.size, 4, none⟩ = some (.string x.v)) ∧ (w'.cell? ⟨0, 2, none⟩ = some (.string ⟨#[100, 101, 108]⟩)))) (by kernel_rfl) (HSS.out _ KQ.out (DO.out.later (Below.refl _ _).drew)) (fun hHeld => ?_)
      obtain ⟨zD, hzD⟩ : ∃ z, z = w1.drew := ⟨_, rfl⟩
      rw [← hzD] at hHeld ⊢
      have bzD : Below w1.heap.size w1 zD := by rw [hzD]; exact (Below.refl _ _).drew
      replace KQ := tkb bzD LQ KQ
      replace LQ := tlz LQ bzD.size
      replace DO := Lib.hid (DO.out.later bzD)
      replace BB := tbt BB bzD
      clear bzD hzD
      refine tk 0 (v := ?_) ?_ ?_; rotate_left
      · refine Or.inl ⟨by rfl, ?_⟩; intro w hSw; obtain ⟨⟨gQ0, gQ1, gQ2, gQ3, gQ4⟩, gK⟩ := hSw; go_simp; first | done | with_reducible rfl
      refine tk 1 (v := ?_) ?_ ?_; rotate_left
      · refine Or.inl ⟨by rfl, ?_⟩; intro w hSw; obtain ⟨⟨gQ0, gQ1, gQ2, gQ3, gQ4⟩, gK⟩ := hSw; go_simp; first | done | with_reducible rfl
      refine tk 2 (v := ?_) ?_ ?_; rotate_left
      · refine Or.inl ⟨by rfl, ?_⟩; intro w hSw; obtain ⟨⟨gQ0, gQ1, gQ2, gQ3, gQ4⟩, gK⟩ := hSw; go_simp; first | done | with_reducible rfl
      refine tk 3 (v := ?_) ?_ ?_; rotate_left
      · refine Or.inl ⟨by rfl, ?_⟩; intro w hSw; obtain ⟨⟨gQ0, gQ1, gQ2, gQ3, gQ4⟩, gK⟩ := hSw; go_simp; first | done | with_reducible rfl
      refine tk 5 (v := ?_) ?_ ?_; rotate_left
      · refine Or.inl ⟨by rfl, ?_⟩; intro w hSw; obtain ⟨⟨gQ0, gQ1, gQ2, gQ3, gQ4⟩, gK⟩ := hSw; go_simp; first | done | with_reducible rfl
      refine tk 6 (v := ?_) ?_ ?_; rotate_left
      · refine Or.inl ⟨by rfl, ?_⟩; intro w hSw; obtain ⟨⟨gQ0, gQ1, gQ2, gQ3, gQ4⟩, gK⟩ := hSw; go_simp; first | done | with_reducible rfl
      refine tk 7 (v := ?_) ?_ ?_; rotate_left
      · refine Or.inl ⟨by rfl, ?_⟩; intro w hSw; obtain ⟨⟨gQ0, gQ1, gQ2, gQ3, gQ4⟩, gK⟩ := hSw; go_simp; first | done | with_reducible rfl
      refine tk 8 (v := ?_) ?_ ?_; rotate_left
      · refine Or.inl ⟨by rfl, ?_⟩; intro w hSw; obtain ⟨⟨gQ0, gQ1, gQ2, gQ3, gQ4⟩, gK⟩ := hSw; go_simp; first | done | with_reducible rfl
      refine tk 9 (v := ?_) ?_ ?_; rotate_left
      · refine Or.inl ⟨by rfl, ?_⟩; intro w hSw; obtain ⟨⟨gQ0, gQ1, gQ2, gQ3, gQ4⟩, gK⟩ := hSw; go_simp; first | done | with_reducible rfl
      refine tk 10 (v := ?_) ?_ ?_; rotate_left
      · refine Or.inl ⟨by rfl, ?_⟩; intro w hSw; obtain ⟨⟨gQ0, gQ1, gQ2, gQ3, gQ4⟩, gK⟩ := hSw; go_simp; first | done | with_reducible rfl
      refine rd1 4 (fun K hK => ?_)
      have hc := HD.out zD DO.out.2
      go_simp
      go_at_call 48
      refine hc.mono ?_
      rintro e wk ⟨rfl, hbk⟩
      replace KQ := tkb hbk LQ KQ
      replace LQ := tlz LQ hbk.size
      replace DO := Lib.hid (DO.out.later hbk)
      replace BB := tbt BB hbk
      clear hc hbk
      go_wp2_with fail
      refine hK.out _ _ (HSS.out _ KQ.out DO.out) (fun hHeld => ?_)
      clear hK K
      refine rd1 11 (fun K hK => ?_)
      go_simp
      obtain ⟨V, hV⟩ : ∃ V, V = wk.alloc (.cells #[.string x.c, .string D, .string ⟨#[100, 101, 108]⟩, .string x.k] 9) := ⟨_, rfl⟩
      rw [← hV]
      have bV : Below wk.heap.size wk V := by rw [hV]; exact (Below.refl _ _).alloc (Nat.le_refl _) _
      have KV : Hid (V.heap[wk.heap.size]? = some (.cells #[.string x.c, .string D, .string ⟨#[100, 101, 108]⟩, .string x.k] 9 (0, 0))) := Lib.hid (by rw [hV]; exact heap_new _ _)
      have LV : Hid (wk.heap.size < V.heap.size) := Lib.hid (by rw [hV]; simp)
      have NV : Hid (w.heap.size < wk.heap.size) := LQ
      replace KQ := tkb bV LQ KQ
      replace LQ := tlz LQ bV.size
      replace DO := Lib.hid (DO.out.later bV)
      replace BB := tbt BB bV
      clear bV hV
      refine hK.out _ _ (HSS.out _ KQ.out DO.out) (fun hHeld => ?_)
      clear hK K
      refine tk0 12 ?_
      refine wpAnyH_done (by kernel_rfl) ?_ _
      clear hHeld HSS
      clear c3
      have HN : Hid (opText x = x.c ++ ⟨#[32]⟩ ++ D ++ ⟨#[32]⟩ ++ ⟨#[100, 101, 108]⟩ ++ ⟨#[32]⟩ ++ x.k) := Lib.hid (by rw [HDD.out, opText_head HO.out (by rw [Hn.out]; decide)]; unfold opHead; rw [Hn.out]; rfl)
      have hj := join_four wk.heap.size x.c D ⟨#[100, 101, 108]⟩ x.k V KV.out (by have := Hs.out; simp only [ByteArray.size_mk3]; omega)
      have fQ0 := tcr KQ 0
      have fQ1 := tcr KQ 1
      have fQ2 := tcr KQ 2
      have fQ3 := tcr KQ 3
      have fQ4 := tcr KQ 4
      go_wp2_with (go_at_call 50; refine hj.mono ?_; rintro e wj ⟨rfl, hbj⟩; refine Hid.out ?_)
      refine Lib.hid ?_
      clear fQ0 fQ1 fQ2 fQ3 fQ4
      replace KQ := tkb hbj LQ KQ
      replace LQ := tlz LQ hbj.size
      replace KV := tkb hbj LV KV
      replace LV := tlz LV hbj.size
      replace DO := Lib.hid (DO.out.later hbj)
      replace BB := tbt BB hbj
      clear hj hbj
      go_wp2_with fail
      go_ret
      exact ⟨ret_str' (by rw [HN.out]), BB.out⟩
end Go.Proofs.YtebmaplflpfjbaaDoor
