/- What spec.l05Add answers: one state added to another, row by row. Condition: what the arguments may be. -/
import Derived.Test.YtebmaplflpfjbaaBaseA
import Derived.Test.YtebmaplflpfjbaaStL
import Derived.Test.YtebmaplflpfjbaaSpecPut
import Derived.Test.YtebmaplflpfjbaaSpecPutT
import Derived.Deep.RegionHeld
import Derived.Deep.CutBlock
import Derived.Deep.DeepCutAuto
namespace Go.Proofs.Ytebmaplflpfjbaa
open Go.RowKit
set_option linter.unusedVariables false
set_option linter.unusedSimpArgs false

theorem Got.kept {w w' : World} {base e size g n cap k : Nat} {cs : List Value} (h : Got w base e size g n cap cs) (hg : w.grownBy w' (some k)) (hne : k < base ∨ w.heap.size ≤ k) : Got w' base e size g n cap cs :=
  h.grown hg (by have h1 := h.2.2.2.1; have h2 := h.2.2.2.2.1; omega)
theorem OwnC.later {w w' : World} {base : Nat} {v : Value} {s : St} (h : OwnC w base v s) (hb : Below w.heap.size w w') : OwnC w' base v s := by
  obtain ⟨gi, ci, gt, ct, h0, h1, h2, h3⟩ := h
  exact ⟨gi, ci, gt, ct, h0, h1, h2.later hb, h3.later hb⟩
theorem OwnC.base {w : World} {base base' : Nat} {v : Value} {s : St} (h : OwnC w base v s) (hb : base' ≤ base) : OwnC w base' v s := by
  obtain ⟨gi, ci, gt, ct, h0, h1, h2, h3⟩ := h
  exact ⟨gi, ci, gt, ct, h0, h1, h2.base hb, h3.base hb⟩
theorem OwnC.kept {w w' : World} {base k : Nat} {v : Value} {s : St} (h : OwnC w base v s) (hg : w.grownBy w' (some k)) (hne : k < base ∨ w.heap.size ≤ k) : OwnC w' base v s := by
  obtain ⟨gi, ci, gt, ct, h0, h1, h2, h3⟩ := h
  exact ⟨gi, ci, gt, ct, h0, h1, h2.kept hg hne, h3.kept hg hne⟩
theorem OwnC.stv {w : World} {base : Nat} {v : Value} {s : St} (h : OwnC w base v s) : StV w w.heap.size v s := by
  obtain ⟨gi, ci, gt, ct, rfl, h1, h2, h3⟩ := h
  exact ⟨_, _, rfl, row_of_got h2, row_of_got h3⟩
/-- The state that there was; or one whose rows are the call's own. -/
def SoR (w : World) (base : Nat) (v0 : Value) (s0 : St) (v : Value) (s : St) : Prop := (v = v0 ∧ s = s0) ∨ OwnC w base v s
theorem SoR.later {w w' : World} {base : Nat} {v0 v : Value} {s0 s : St} (h : SoR w base v0 s0 v s) (hb : Below w.heap.size w w') : SoR w' base v0 s0 v s := h.imp id (fun h => h.later hb)
theorem SoR.base {w : World} {base base' : Nat} {v0 v : Value} {s0 s : St} (h : SoR w base v0 s0 v s) (hb : base' ≤ base) : SoR w base' v0 s0 v s := h.imp id (fun h => h.base hb)
theorem SoR.kept {w w' : World} {base k : Nat} {v0 v : Value} {s0 s : St} (h : SoR w base v0 s0 v s) (hg : w.grownBy w' (some k)) (hne : k < base ∨ w.heap.size ≤ k) : SoR w' base v0 s0 v s := h.imp id (fun h => h.kept hg hne)
theorem SoR.st {w : World} {base : Nat} {v0 v : Value} {s0 s : St} (h : SoR w base v0 s0 v s) (h0 : StV w w.heap.size v0 s0) : StV w w.heap.size v s := by
  rcases h with ⟨rfl, rfl⟩ | h
  · exact h0
  · exact h.stv
/-- One state added to another. -/
def addO (s x : St) : Option St := (spI s x.items).bind (fun s1 => spT s1 x.talks)
theorem spM_cons (s x : St) (xs : List St) : spM s (x :: xs) = match addO s x with
    | none => none
    | some s2 => if stOk x = true then spM s2 xs else none := by
  conv => lhs; unfold spM
  unfold addO
  cases spI s x.items with
  | none => rfl
  | some s1 => cases h : spT s1 x.talks <;> simp [h]
theorem spI_ok : ∀ {xs : List It} {s r : St}, stOk s = true → spI s xs = some r → stOk r = true := by
  intro xs
  induction xs with
  | nil => intro s r h e; simp only [spI, Option.some.injEq] at e; rw [← e]; exact h
  | cons x xs ih =>
    intro s r h e
    unfold spI at e
    split at e
    · rename_i hc; exact ih (chgB_both hc.1).2 e
    · cases e
theorem spT_ok : ∀ {xs : List Tk} {s r : St}, stOk s = true → spT s xs = some r → stOk r = true := by
  intro xs
  induction xs with
  | nil => intro s r h e; simp only [spT, Option.some.injEq] at e; rw [← e]; exact h
  | cons x xs ih =>
    intro s r h e
    unfold spT at e
    split at e
    · exact ih h e
    · split at e
      · rename_i hc; exact ih (chgB_both hc).2 e
      · cases e
theorem addO_ok {s x r : St} (h : stOk s = true) (e : addO s x = some r) : stOk r = true := by
  unfold addO at e
  cases h1 : spI s x.items with
  | none => rw [h1] at e; cases e
  | some s1 => rw [h1] at e; exact spT_ok (spI_ok h h1) e
theorem ok_few {s : St} (h : stOk s = true) : Few s := by
  have := ok_len h
  unfold Few
  omega
theorem set_cells {w : World} {g : Nat} {a b a' b' : Value} {t : TypeId} (h : w.heap[g]? = some (.cells #[a, b] t (0, 0))) : ((w.setCell ⟨g, 0, none⟩ a').setCell ⟨g, 1, none⟩ b').heap[g]? = some (.cells #[a', b'] t (0, 0)) := by
  have f1 := heap_setCell_same w g 0 _ _ a' h
  have f2 := heap_setCell_same _ g 1 _ _ b' f1
  simpa using f2
theorem set_grown (w : World) (g : Nat) (a b : Value) : w.grownBy ((w.setCell ⟨g, 0, none⟩ a).setCell ⟨g, 1, none⟩ b) (some g) := (grown_set w ⟨g, 0, none⟩ a).trans (grown_set _ ⟨g, 1, none⟩ b)

set_option maxRecDepth 100000 in
set_option maxHeartbeats 16000000 in
theorem spec_add (s x : St) (vs vx : Value) (B : Nat) (w : World) (hs : StV w B vs s) (hx : StV w B vx x) (hB : B ≤ w.heap.size) (hok : stOk s = true) (hfx : Fits x) :
    Calls Try.prog 58 #[vs, vx] w fun e w' => ∃ (a0 : Option Addr) (n0 c0 : Nat) (a1 : Option Addr) (n1 c1 : Nat) (r : St), e = .returned (.tuple #[.agg #[.slice a0 n0 c0, .slice a1 n1 c1], .bool (addO s x).isSome]) ∧ SoR w' w.heap.size vs s (.agg #[.slice a0 n0 c0, .slice a1 n1 c1]) r ∧ (∀ q, addO s x = some q → r = q) ∧ Below w.heap.size w w' := by
  have HS := Lib.hid hs
  have HFx := Lib.hid hfx
  obtain ⟨vi, vt, rfl, hri, hrt⟩ := hs.rd
  obtain ⟨a0, c0, rfl, _⟩ := hri
  obtain ⟨a1, c1, rfl, _⟩ := hrt
  obtain ⟨n0, hn0⟩ : ∃ n, n = s.items.length := ⟨_, rfl⟩
  obtain ⟨n1, hn1⟩ : ∃ n, n = s.talks.length := ⟨_, rfl⟩
  rw [← hn0, ← hn1] at HS ⊢
  clear hs hn0 hn1 hfx
  obtain ⟨vi, vt, rfl, hri, hrt⟩ := hx.rd
  obtain ⟨ai, ci, rfl, hni, hci, _, hati⟩ := hri
  obtain ⟨at_, ct, rfl, hnt, hct, _, hatt⟩ := hrt
  obtain ⟨ni, hNi⟩ : ∃ n, n = x.items.length := ⟨_, rfl⟩
  obtain ⟨nt, hNt⟩ : ∃ n, n = x.talks.length := ⟨_, rfl⟩
  rw [← hNi] at hni hati ⊢
  rw [← hNt] at hnt hatt ⊢
  have Hni := Lib.hid hNi
  have Hnt := Lib.hid hNt
  have Hati := Lib.hid hati
  have Hatt := Lib.hid hatt
  unfold maxLen at hci hct
  clear hx hNi hNt hati hatt
  obtain ⟨W, hW⟩ : ∃ W, W = ((w.alloc (.cells #[.slice a0 n0 c0, .slice a1 n1 c1] 31)).alloc (.cells #[.slice ai ni ci, .slice at_ nt ct] 31)).alloc (.cells #[.slice none 0 0, .slice none 0 0] 31) := ⟨_, rfl⟩
  obtain ⟨W1, hW1⟩ : ∃ W, W = w.alloc (.cells #[.slice a0 n0 c0, .slice a1 n1 c1] 31) := ⟨_, rfl⟩
  obtain ⟨W2, hW2⟩ : ∃ W, W = W1.alloc (.cells #[.slice ai ni ci, .slice at_ nt ct] 31) := ⟨_, rfl⟩
  have hW3 : W = W2.alloc (.cells #[.slice none 0 0, .slice none 0 0] 31) := by rw [hW, hW2, hW1]
  have b1 : Below w.heap.size w W1 := by rw [hW1]; exact (Below.refl _ _).alloc (Nat.le_refl _) _
  have b2 : Below W1.heap.size W1 W2 := by rw [hW2]; exact (Below.refl _ _).alloc (Nat.le_refl _) _
  have b3 : Below W2.heap.size W2 W := by rw [hW3]; exact (Below.refl _ _).alloc (Nat.le_refl _) _
  have s1 : W1.heap.size = w.heap.size + 1 := by rw [hW1]; simp
  have s2 : W2.heap.size = w.heap.size + 1 + 1 := by rw [hW2]; simp [s1]
  have s3 : W.heap.size = w.heap.size + 1 + 1 + 1 := by rw [hW3]; simp [s2]
  have KS : Hid (W.heap[w.heap.size]? = some (.cells #[.slice a0 n0 c0, .slice a1 n1 c1] 31 (0, 0))) := tkb b3 (Lib.hid (by omega)) (tkb b2 (Lib.hid (by omega)) (Lib.hid (by rw [hW1]; exact heap_new _ _)))
  have KX : Hid (W.heap[w.heap.size + 1]? = some (.cells #[.slice ai ni ci, .slice at_ nt ct] 31 (0, 0))) := tkb b3 (Lib.hid (by omega)) (Lib.hid (by rw [hW2, ← s1]; exact heap_new _ _))
  have KR : Hid (W.heap[w.heap.size + 1 + 1]? = some (.cells #[.slice none 0 0, .slice none 0 0] 31 (0, 0))) := Lib.hid (by rw [hW3, ← s2]; exact heap_new _ _)
  have BB : Hid (Below w.heap.size w W) := Lib.hid (b1.trans ((b2.trans (b3.mono b2.size)).mono b1.size))
  have LP : Hid (w.heap.size + 1 + 1 < W.heap.size) := Lib.hid (by omega)
  clear b1 b2 b3 s1 s2 s3 hW3 hW2 hW1
  subst hW
  have HO : Hid (stOk s = true) := Lib.hid hok
  clear hok
  go_enter Try.func58, Try.ntmps58
  go_wp2_with fail
  go_loopw [6] (fun i wr => ∃ (k : Nat) (a0' : Option Addr) (n0' c0' : Nat) (a1' : Option Addr) (n1' c1' : Nat) (s' : St), k ≤ ni ∧ i = .int .i64 k ∧ Hid (wr.heap[w.heap.size]? = some (.cells #[.slice a0' n0' c0', .slice a1' n1' c1'] 31 (0, 0))) ∧ Hid (wr.heap[w.heap.size + 1]? = some (.cells #[.slice ai ni ci, .slice at_ nt ct] 31 (0, 0))) ∧ Hid (wr.heap[w.heap.size + 1 + 1]? = some (.cells #[.slice none 0 0, .slice none 0 0] 31 (0, 0))) ∧ Hid (SoR wr (w.heap.size + 1 + 1 + 1) (.agg #[.slice a0 n0 c0, .slice a1 n1 c1]) s (.agg #[.slice a0' n0' c0', .slice a1' n1' c1']) s') ∧ Hid (stOk s' = true) ∧ Hid (addO s x = (spI s' (x.items.drop k)).bind (fun s1 => spT s1 x.talks)) ∧ Hid (Below w.heap.size w wr) ∧ Hid (w.heap.size + 1 + 1 < wr.heap.size)) (fun i _ => ni - (intOf i).toNat)
  case atStart => exact ⟨0, a0, n0, c0, a1, n1, c1, s, Nat.zero_le _, rfl, KS, KX, KR, Lib.hid (.inl ⟨rfl, rfl⟩), HO, Lib.hid (by rw [List.drop_zero]; rfl), BB, LP⟩
  case round =>
    clear KS KX KR BB LP
    obtain ⟨k, a0', n0', c0', a1', n1', c1', s', hk, rfl, KS, KX, KR, SO, HO', HT, BB, LP⟩ := hrel
    by_cases hlt : k < ni
    · obtain ⟨g, o, ha, hg, hAt⟩ := Hati.out (by omega)
      subst ha
      have hkl : k < x.items.length := by have := Hni.out; omega
      obtain ⟨y, hy⟩ : ∃ y, y = x.items[k] := ⟨_, rfl⟩
      have Hfy : Hid (FitIt y) := Lib.hid (by have h := HFx.out.1 y (by rw [hy]; exact List.getElem_mem _); exact h)
      have Hdrop : Hid (x.items.drop k = y :: x.items.drop (k + 1)) := Lib.hid (by rw [hy]; exact List.drop_eq_getElem_cons hkl)
      have hc := hAt.item k hkl
      rw [← hy] at hc
      have FI : Hid (∀ w', Below w.heap.size w w' → w'.cell? ⟨g, o + k * 2, none⟩ = some (.string y.k) ∧ w'.cell? ⟨g, o + k * 2 + 1, none⟩ = some (.string y.v)) := Lib.hid (fun w' h => by
        have hgw : g < w.heap.size := by omega
        rw [h.cell hgw, h.cell hgw]; exact hc)
      have hlt' : (k : Int) < (ni : Int) := by omega
      clear hy hAt hc hkl
      have fX0 := tcr KX 0
      have fX1 := tcr KX 1
      go_wp2_with fail
      clear fX0 fX1
      have l0 := LP.out
      have FS : Hid (∀ w', Below wr.heap.size wr w' → w'.cell? ⟨w.heap.size, 0, none⟩ = some (.slice a0' n0' c0') ∧ w'.cell? ⟨w.heap.size, 1, none⟩ = some (.slice a1' n1' c1')) := Lib.hid (fun w' h => by have K := tkb h (Lib.hid (by omega)) KS; exact ⟨tcr K 0, tcr K 1⟩)
      have FX : Hid (∀ w', Below wr.heap.size wr w' → w'.cell? ⟨w.heap.size + 1, 0, none⟩ = some (.slice (some ⟨g, o, none⟩) ni ci) ∧ w'.cell? ⟨w.heap.size + 1, 1, none⟩ = some (.slice at_ nt ct)) := Lib.hid (fun w' h => by have K := tkb h (Lib.hid (by omega)) KX; exact ⟨tcr K 0, tcr K 1⟩)
      have FJ : Hid (∀ w', Below wr.heap.size wr w' → Below w.heap.size w w') := Lib.hid (fun w' h => BB.out.trans (h.mono BB.out.size))
      clear l0
      have HSV : Hid (StV wr wr.heap.size (.agg #[.slice a0' n0' c0', .slice a1' n1' c1']) s') := Lib.hid (SO.out.st (HS.out.later (BB.out.mono hB) (Nat.le_trans hB BB.out.size)))
      have LW0 := LP
      obtain ⟨r, hr⟩ : ∃ r, r = chg s' (putSI s' y) := ⟨_, rfl⟩
      obtain ⟨bq, hbq⟩ : ∃ b, b = chgB s' (putSI s' y) := ⟨_, rfl⟩
      have Hr := Lib.hid hr
      have Hbq := Lib.hid hbq
      clear hr hbq
      go_cut [7, 8] (fun m bv wx => ∃ (mb : Nat) (gi ci' gt ct' : Nat), m = .pointer (some ⟨mb, 0, none⟩) ∧ bv = .bool bq ∧ Hid (wx.heap[mb]? = some (.cells #[.slice (some ⟨gi, 0, none⟩) r.items.length ci', .slice (some ⟨gt, 0, none⟩) r.talks.length ct'] 31 (0, 0))) ∧ Hid (OwnC wx wr.heap.size (.agg #[.slice (some ⟨gi, 0, none⟩) r.items.length ci', .slice (some ⟨gt, 0, none⟩) r.talks.length ct']) r) ∧ Hid (Below wr.heap.size wr wx) ∧ Hid (wr.heap.size ≤ mb ∧ mb < wx.heap.size))
      case first =>
        refine wp_region_held_drew (S := (fun w' => Below wr.heap.size wr w')) (by kernel_rfl) (Below.refl _ _).drew (fun hHeld => ?_)
        obtain ⟨zD, hzD⟩ : ∃ z, z = wr.drew := ⟨_, rfl⟩
        rw [← hzD] at hHeld ⊢
        have BA := Lib.hid hHeld
        clear hzD
        refine tk 0 (v := ?_) ?_ ?_; rotate_left
        · refine Or.inl ⟨by rfl, ?_⟩; intro w hSw; obtain ⟨hS0, hS1⟩ := FS.out w hSw; go_simp; first | done | with_reducible rfl
        refine tk0 1 ?_
        refine tk 2 (v := ?_) ?_ ?_; rotate_left
        · refine Or.inl ⟨by rfl, ?_⟩; intro w hSw; obtain ⟨hX0, hX1⟩ := FX.out w hSw; go_simp; first | done | with_reducible rfl
        refine tk0 3 ?_
        refine tk0 4 ?_
        refine tk 5 (v := ?_) ?_ ?_; rotate_left
        · refine Or.inl ⟨by rfl, ?_⟩; intro w hSw; obtain ⟨hI0, hI1⟩ := FI.out w (FJ.out w hSw); go_simp; first | done | with_reducible rfl
        refine rd2 6 10 (fun K hK => ?_) (fun K hK => ?_)
        · go_simp
          have hc := spec_putItemAny s' _ y zD.heap.size zD (HSV.out.later BA.out BA.out.size) (Nat.le_refl _) (by have := ok_len HO'.out; omega) (ok_few HO'.out) (ok_fits HO'.out) Hfy.out
          rw [← Hr.out, ← Hbq.out] at hc
          unfold itA at hc
          go_at_call 80
          refine hc.mono ?_
          rintro e wk ⟨_, rfl, ho, hb⟩
          have hbk := hb
          replace BA := tbt BA hb
          obtain ⟨gi, ci', gt, ct', rfl, hne, gI, gT⟩ := ho
          have G : Hid (OwnC wk zD.heap.size (.agg #[.slice (some ⟨gi, 0, none⟩) r.items.length ci', .slice (some ⟨gt, 0, none⟩) r.talks.length ct']) r) := Lib.hid ⟨gi, ci', gt, ct', rfl, hne, gI, gT⟩
          have AL : Hid (wr.heap.size ≤ zD.heap.size) := Lib.hid hHeld.size
          have BK : Hid (Below wk.heap.size wk wk) := Lib.hid (Below.refl _ _)
          clear hne gI gT
          have NE : Hid (zD.heap.size ≤ wk.heap.size) := Lib.hid hbk.size
          clear hbk
          clear hc hb
          go_wp2_with fail
          refine hK.out _ _ BA.out (fun hHeld => ?_)
          clear hK K
          refine tk0 7 ?_
          refine tk0 8 ?_
          refine tk0 9 ?_
          refine rd1 10 (fun K hK => ?_)
          go_simp
          obtain ⟨V, hV⟩ : ∃ V, V = wk.alloc (.cells #[.slice none 0 0, .slice none 0 0] 31) := ⟨_, rfl⟩
          rw [← hV]
          have bV : Below wk.heap.size wk V := by rw [hV]; exact (Below.refl _ _).alloc (Nat.le_refl _) _
          have KM : Hid (V.heap[wk.heap.size]? = some (.cells #[.slice none 0 0, .slice none 0 0] 31 (0, 0))) := Lib.hid (by rw [hV]; exact heap_new _ _)
          have LM : Hid (wk.heap.size < V.heap.size) := Lib.hid (by rw [hV]; simp)
          have AM : Hid (wr.heap.size ≤ wk.heap.size) := Lib.hid BA.out.size
          replace BA := tbt BA bV
          clear hV
          replace BK := Lib.hid (BK.out.trans bV)
          clear bV
          go_wp2_with fail
          refine hK.out _ _ BA.out (fun hHeld => ?_)
          clear hK K
          have d0 := tcr KM 0
          have d1 := tcr KM 1
          have z0 := tfr KM 0
          have z1 := tfr KM 1
          refine rd1 11 (fun K hK => ?_)
          go_simp
          obtain ⟨Y, hY⟩ : ∃ Y, Y = (V.setCell ⟨wk.heap.size, 0, none⟩ (.slice (some ⟨gi, 0, none⟩) r.items.length ci')).setCell ⟨wk.heap.size, 1, none⟩ (.slice (some ⟨gt, 0, none⟩) r.talks.length ct') := ⟨_, rfl⟩
          rw [← hY]
          have r0 := heap_setCell_same _ (wk.heap.size) 0 _ _ (.slice (some ⟨gi, 0, none⟩) r.items.length ci') KM.out
          have r1 := heap_setCell_same _ (wk.heap.size) 1 _ _ (.slice (some ⟨gt, 0, none⟩) r.talks.length ct') r0
          rw [← hY] at r1
          simp only [List.setIfInBounds_toArray, List.set_cons_zero, List.set_cons_succ] at r1
          have R1 := Lib.hid r1
          have gY : V.grownBy Y (some (wk.heap.size)) := by rw [hY]; exact (grown_set _ ⟨wk.heap.size, 0, none⟩ _).trans (grown_set _ ⟨wk.heap.size, 1, none⟩ _)
          clear d0 d1 z0 z1 r0 r1 hY
          replace BA := Lib.hid (BA.out.grown gY BA.out.size (fun k hk => by cases hk; exact AM.out))
          have LMY : Hid (wr.heap.size ≤ wk.heap.size ∧ wk.heap.size < Y.heap.size) := Lib.hid ⟨AM.out, Nat.lt_of_lt_of_le LM.out gY.size⟩
          replace G := Lib.hid ((G.out.later (BK.out.grown gY BK.out.size (fun k hk => by cases hk; exact Nat.le_refl _))).base AL.out)
          refine hK.out _ _ BA.out (fun hHeld => ?_)
          clear hK K gY
          refine tk0 12 ?_
          refine wpAnyH_done (by kernel_rfl) ?_ _
          clear hHeld
          go_wp2_with fail
          go_meet
          exact ⟨wk.heap.size, gi, ci', gt, ct', rfl, rfl, R1, G, BA, LMY⟩
        · go_simp
          obtain ⟨V, hV⟩ : ∃ V, V = zD.alloc (.cells #[.slice none 0 0, .slice none 0 0] 31) := ⟨_, rfl⟩
          rw [← hV]
          have bV : Below zD.heap.size zD V := by rw [hV]; exact (Below.refl _ _).alloc (Nat.le_refl _) _
          have KM : Hid (V.heap[zD.heap.size]? = some (.cells #[.slice none 0 0, .slice none 0 0] 31 (0, 0))) := Lib.hid (by rw [hV]; exact heap_new _ _)
          have LM : Hid (zD.heap.size < V.heap.size) := Lib.hid (by rw [hV]; simp)
          have AM : Hid (wr.heap.size ≤ zD.heap.size) := Lib.hid BA.out.size
          replace BA := tbt BA bV
          clear hV
          clear bV
          go_wp2_with fail
          refine hK.out _ _ BA.out (fun hHeld => ?_)
          clear hK K
          have zDV := LM
          refine rd1 6 (fun K hK => ?_)
          go_simp
          have hc := spec_putItemAny s' _ y V.heap.size V (HSV.out.later BA.out BA.out.size) (Nat.le_refl _) (by have := ok_len HO'.out; omega) (ok_few HO'.out) (ok_fits HO'.out) Hfy.out
          rw [← Hr.out, ← Hbq.out] at hc
          unfold itA at hc
          go_at_call 80
          refine hc.mono ?_
          rintro e wk ⟨_, rfl, ho, hb⟩
          have hbk := hb
          replace BA := tbt BA hb
          obtain ⟨gi, ci', gt, ct', rfl, hne, gI, gT⟩ := ho
          have G : Hid (OwnC wk V.heap.size (.agg #[.slice (some ⟨gi, 0, none⟩) r.items.length ci', .slice (some ⟨gt, 0, none⟩) r.talks.length ct']) r) := Lib.hid ⟨gi, ci', gt, ct', rfl, hne, gI, gT⟩
          have AL : Hid (wr.heap.size ≤ V.heap.size) := Lib.hid hHeld.size
          have BK : Hid (Below wk.heap.size wk wk) := Lib.hid (Below.refl _ _)
          clear hne gI gT
          replace KM := tkb hbk LM KM
          have NE : Hid (zD.heap.size < V.heap.size) := LM
          replace LM := tlz LM hbk.size
          clear hbk zDV
          clear hc hb
          go_wp2_with fail
          refine hK.out _ _ BA.out (fun hHeld => ?_)
          clear hK K
          refine tk0 7 ?_
          refine tk0 8 ?_
          refine tk0 9 ?_
          have d0 := tcr KM 0
          have d1 := tcr KM 1
          have z0 := tfr KM 0
          have z1 := tfr KM 1
          refine rd1 11 (fun K hK => ?_)
          go_simp
          obtain ⟨Y, hY⟩ : ∃ Y, Y = (wk.setCell ⟨zD.heap.size, 0, none⟩ (.slice (some ⟨gi, 0, none⟩) r.items.length ci')).setCell ⟨zD.heap.size, 1, none⟩ (.slice (some ⟨gt, 0, none⟩) r.talks.length ct') := ⟨_, rfl⟩
          rw [← hY]
          have r0 := heap_setCell_same _ (zD.heap.size) 0 _ _ (.slice (some ⟨gi, 0, none⟩) r.items.length ci') KM.out
          have r1 := heap_setCell_same _ (zD.heap.size) 1 _ _ (.slice (some ⟨gt, 0, none⟩) r.talks.length ct') r0
          rw [← hY] at r1
          simp only [List.setIfInBounds_toArray, List.set_cons_zero, List.set_cons_succ] at r1
          have R1 := Lib.hid r1
          have gY : wk.grownBy Y (some (zD.heap.size)) := by rw [hY]; exact (grown_set _ ⟨zD.heap.size, 0, none⟩ _).trans (grown_set _ ⟨zD.heap.size, 1, none⟩ _)
          clear d0 d1 z0 z1 r0 r1 hY
          replace BA := Lib.hid (BA.out.grown gY BA.out.size (fun k hk => by cases hk; exact AM.out))
          have LMY : Hid (wr.heap.size ≤ zD.heap.size ∧ zD.heap.size < Y.heap.size) := Lib.hid ⟨AM.out, Nat.lt_of_lt_of_le LM.out gY.size⟩
          replace G := Lib.hid ((G.out.kept gY (.inl NE.out)).base AL.out)
          refine hK.out _ _ BA.out (fun hHeld => ?_)
          clear hK K gY
          refine tk0 12 ?_
          refine wpAnyH_done (by kernel_rfl) ?_ _
          clear hHeld
          go_wp2_with fail
          go_meet
          exact ⟨zD.heap.size, gi, ci', gt, ct', rfl, rfl, R1, G, BA, LMY⟩
      case rest =>
        obtain ⟨mb, gi, ci', gt, ct', rfl, rfl, KM, G, bA, LM⟩ := hcut
        obtain ⟨w5, rfl⟩ : ∃ z, z = wc := ⟨_, rfl⟩
        have l0 := LP.out
        replace KS := tkb bA.out (Lib.hid (by omega)) KS
        replace KX := tkb bA.out (Lib.hid (by omega)) KX
        replace KR := tkb bA.out (Lib.hid (by omega)) KR
        replace SO := Lib.hid (SO.out.later bA.out)
        replace BB := Lib.hid (BB.out.trans (bA.out.mono BB.out.size))
        replace LP := tlz LP bA.out.size
        clear l0
        clear FS FX FJ HSV
        have FX : Hid (∀ w', Below w5.heap.size w5 w' → w'.cell? ⟨w.heap.size, 0, none⟩ = some (.slice a0' n0' c0') ∧ w'.cell? ⟨w.heap.size, 1, none⟩ = some (.slice a1' n1' c1') ∧ w'.cell? ⟨w.heap.size + 1, 0, none⟩ = some (.slice (some ⟨g, o, none⟩) ni ci)) := Lib.hid (fun w' h => by have l0 := LP.out; have K := tkb h (Lib.hid (by omega)) KS; have K2 := tkb h (Lib.hid (by omega)) KX; exact ⟨tcr K 0, tcr K 1, tcr K2 0⟩)
        have FJ : Hid (∀ w', Below w5.heap.size w5 w' → Below w.heap.size w w') := Lib.hid (fun w' h => BB.out.trans (h.mono BB.out.size))
        cases hbq : bq
        · have Hno : Hid (addO s x = none) := Lib.hid (by rw [HT.out, Hdrop.out]; unfold spI; rw [if_neg (by rw [← Hbq.out, hbq]; rintro ⟨h, _⟩; cases h)]; rfl)
          clear hbq FX FJ
          go_wp2_with fail
          refine wp_region_held_drew (S := (fun w' => Below w5.heap.size w5 w')) (by kernel_rfl) (Below.refl _ _).drew (fun hHeld => ?_)
          obtain ⟨w6, hw6⟩ : ∃ z, z = w5.drew := ⟨_, rfl⟩
          rw [← hw6] at hHeld ⊢
          clear hw6
          refine tk0 0 ?_
          refine tk0 1 ?_
          refine tk0 2 ?_
          refine tku 3 ?_
          refine tku 4 ?_
          refine tku 5 ?_
          refine tku 6 ?_
          refine tku 7 ?_
          refine tku 8 ?_
          refine tku 9 ?_
          refine tku 10 ?_
          refine tku 11 ?_
          refine tk0 12 ?_
          refine wpAnyH_done (by kernel_rfl) ?_ _
          have l0 := LP.out
          replace KS := tkb hHeld (Lib.hid (by omega)) KS
          replace KX := tkb hHeld (Lib.hid (by omega)) KX
          replace KR := tkb hHeld (Lib.hid (by omega)) KR
          replace SO := Lib.hid (SO.out.later hHeld)
          replace BB := tbt BB hHeld
          replace LP := tlz LP hHeld.size
          clear l0
          clear hHeld
          have fS0 := tcr KS 0
          have fS1 := tcr KS 1
          have fR0 := tcr KR 0
          have fR1 := tcr KR 1
          have zR0 := tfr KR 0
          have zR1 := tfr KR 1
          go_wp2_with fail
          clear fS0 fS1 fR0 fR1 zR0 zR1
          have l0 := LP.out
          obtain ⟨j0, q1, q2, q3, q4⟩ := info_parts infoSt
          have gR := set_grown w6 (w.heap.size + 1 + 1) (.slice a0' n0' c0') (.slice a1' n1' c1')
          refine bodyPost_ret (results_cell_row2 (P := Try.prog) rfl _ _ (w.heap.size + 1 + 1) _ _ (0, 0) _ _ rfl rfl (set_cells KR.out) Try.underlying31 rfl (by rw [q1]; simp [q3])) rfl ⟨a0', n0', c0', a1', n1', c1', s', by rw [Hno.out]; rfl, ?_, ?_, ?_⟩
          · exact (SO.out.kept gR (.inl (by omega))).base (by omega)
          · intro q e; rw [Hno.out] at e; cases e
          · exact BB.out.grown gR BB.out.size (fun j e => by cases e; omega)
        · have Hrok : Hid (stOk r = true) := Lib.hid (by have h := Hbq.out; rw [hbq] at h; rw [Hr.out, chg_of h.symm]; exact (chgB_both h.symm).2)
          have Hcb : Hid (chgB s' (putSI s' y) = true ∧ r = putSI s' y) := Lib.hid (by have h := Hbq.out; rw [hbq] at h; exact ⟨h.symm, by rw [Hr.out, chg_of h.symm]⟩)
          clear hbq
          go_wp2_with fail
          refine wp_region_held_drew (S := (fun w' => Below w5.heap.size w5 w')) (by kernel_rfl) (Below.refl _ _).drew (fun hHeld => ?_)
          obtain ⟨wd, hwd⟩ : ∃ z, z = w5.drew := ⟨_, rfl⟩
          rw [← hwd] at hHeld ⊢
          clear hwd
          refine tk0 0 ?_
          refine tk0 1 ?_
          refine tk0 2 ?_
          refine tk 3 (v := ?_) ?_ ?_; rotate_left
          · refine Or.inl ⟨by rfl, ?_⟩; intro w hSw; obtain ⟨hS0, hS1, hX0⟩ := FX.out w hSw; go_simp; first | done | with_reducible rfl
          refine tk0 4 ?_
          refine tk 5 (v := ?_) ?_ ?_; rotate_left
          · refine Or.inl ⟨by rfl, ?_⟩; intro w hSw; obtain ⟨hS0, hS1, hX0⟩ := FX.out w hSw; go_simp; first | done | with_reducible rfl
          refine tk0 6 ?_
          refine tk0 7 ?_
          refine tk0 8 ?_
          refine tk 9 (v := ?_) ?_ ?_; rotate_left
          · refine Or.inl ⟨by rfl, ?_⟩; intro w hSw; obtain ⟨hI0, hI1⟩ := FI.out w (FJ.out w hSw); go_simp; first | done | with_reducible rfl
          refine rd1 10 (fun K hK => ?_)
          go_simp
          have hc := spec_itemAt s' _ wd.heap.size y.k wd (SO.out.st (HS.out.later (BB.out.mono hB) (Nat.le_trans hB BB.out.size)) |>.later hHeld hHeld.size) (Nat.le_refl _)
          go_at_call 81
          refine hc.mono ?_
          rintro e w6 ⟨rfl, hb⟩
          have hb2 := hHeld.trans (hb.mono hHeld.size)
          clear hHeld hb hc
          go_wp2_with fail
          refine hK.out _ _ hb2 (fun hHeld => ?_)
          clear hK K
          refine tk0 11 ?_
          refine tk0 12 ?_
          refine wpAnyH_done (by kernel_rfl) ?_ _
          replace KM := tkb hb2 (Lib.hid LM.out.2) KM
          replace G := Lib.hid (G.out.later hb2)
          replace LM : Hid (wr.heap.size ≤ mb ∧ mb < w6.heap.size) := Lib.hid ⟨LM.out.1, Nat.lt_of_lt_of_le LM.out.2 hb2.size⟩
          have l0 := LP.out
          replace KS := tkb hb2 (Lib.hid (by omega)) KS
          replace KX := tkb hb2 (Lib.hid (by omega)) KX
          replace KR := tkb hb2 (Lib.hid (by omega)) KR
          replace SO := Lib.hid (SO.out.later hb2)
          replace BB := tbt BB hb2
          replace LP := tlz LP hb2.size
          clear l0
          clear hHeld hb2 FX FJ
          by_cases hit : 0 ≤ itemAt s'.items y.k
          · have Hno : Hid (addO s x = none) := Lib.hid (by rw [HT.out, Hdrop.out]; unfold spI; rw [if_neg (by rintro ⟨_, h⟩; exact h hit)]; rfl)
            have hd : decide (0 ≤ itemAt s'.items y.k) = true := by simpa using hit
            have fS0 := tcr KS 0
            have fS1 := tcr KS 1
            have fR0 := tcr KR 0
            have fR1 := tcr KR 1
            have zR0 := tfr KR 0
            have zR1 := tfr KR 1
            go_wp2_with fail
            clear fS0 fS1 fR0 fR1 zR0 zR1
            have l0 := LP.out
            obtain ⟨j0, q1, q2, q3, q4⟩ := info_parts infoSt
            have gR := set_grown w6 (w.heap.size + 1 + 1) (.slice a0' n0' c0') (.slice a1' n1' c1')
            refine bodyPost_ret (results_cell_row2 (P := Try.prog) rfl _ _ (w.heap.size + 1 + 1) _ _ (0, 0) _ _ rfl rfl (set_cells KR.out) Try.underlying31 rfl (by rw [q1]; simp [q3])) rfl ⟨a0', n0', c0', a1', n1', c1', s', by rw [Hno.out]; rfl, ?_, ?_, ?_⟩
            · exact (SO.out.kept gR (.inl (by omega))).base (by omega)
            · intro q e; rw [Hno.out] at e; cases e
            · exact BB.out.grown gR BB.out.size (fun j e => by cases e; omega)
          · have HN2 : Hid (addO s x = (spI r (x.items.drop (k + 1))).bind (fun s1 => spT s1 x.talks)) := Lib.hid (by rw [HT.out, Hdrop.out, Hcb.out.2]; conv => lhs; unfold spI; rw [if_pos ⟨Hcb.out.1, hit⟩])
            have hd : decide (0 ≤ itemAt s'.items y.k) = false := by simpa using hit
            have fS0 := tcr KS 0
            have fS1 := tcr KS 1
            have fM0 := tcr KM 0
            have fM1 := tcr KM 1
            have zS0 := tfr KS 0
            have zS1 := tfr KS 1
            go_wp2_with fail
            clear fS0 fS1 fM0 fM1 zS0 zS1
            have l0 := LP.out
            have l1 := LM.out
            have gS := set_grown w6 w.heap.size (.slice (some ⟨gi, 0, none⟩) r.items.length ci') (.slice (some ⟨gt, 0, none⟩) r.talks.length ct')
            have KS2 := Lib.hid (set_cells (a' := .slice (some ⟨gi, 0, none⟩) r.items.length ci') (b' := .slice (some ⟨gt, 0, none⟩) r.talks.length ct') KS.out)
            have KX2 := tkg gS (Lib.hid (by omega)) KX (by simp)
            have KR2 := tkg gS (Lib.hid (by omega)) KR (fun e => by have := Option.some.inj e; omega)
            have l2 := LW0.out
            have SO2 := Lib.hid ((G.out.base (show w.heap.size + 1 + 1 + 1 ≤ wr.heap.size by omega)).kept gS (.inl (by omega)))
            have BB2 : Hid (Below w.heap.size w _) := Lib.hid (BB.out.grown gS BB.out.size (fun j e => by cases e; exact Nat.le_refl _))
            have LP2 := tlz LP gS.size
            go_roundw
            case rel => exact ⟨k + 1, _, _, _, _, _, _, r, by omega, by go_num, KS2, KX2, KR2, Lib.hid (.inr SO2.out), Hrok, HN2, BB2, LP2⟩
            case measure => simp [intOf]; omega
    · have HT2 : Hid (addO s x = spT s' x.talks) := Lib.hid (by rw [HT.out, List.drop_of_length_le (by have := Hni.out; omega)]; rfl)
      clear HT
      have fX0 := tcr KX 0
      have fX1 := tcr KX 1
      go_wp2_with fail
      clear hlt hk
      clear fX0 fX1
      obtain ⟨wz, hwz⟩ : ∃ z, z = wr := ⟨_, rfl⟩
      subst hwz
      go_loopw [9] (fun i wr => ∃ (k : Nat) (a0' : Option Addr) (n0' c0' : Nat) (a1' : Option Addr) (n1' c1' : Nat) (s' : St), k ≤ nt ∧ i = .int .i64 k ∧ Hid (wr.heap[w.heap.size]? = some (.cells #[.slice a0' n0' c0', .slice a1' n1' c1'] 31 (0, 0))) ∧ Hid (wr.heap[w.heap.size + 1]? = some (.cells #[.slice ai ni ci, .slice at_ nt ct] 31 (0, 0))) ∧ Hid (wr.heap[w.heap.size + 1 + 1]? = some (.cells #[.slice none 0 0, .slice none 0 0] 31 (0, 0))) ∧ Hid (SoR wr (w.heap.size + 1 + 1 + 1) (.agg #[.slice a0 n0 c0, .slice a1 n1 c1]) s (.agg #[.slice a0' n0' c0', .slice a1' n1' c1']) s') ∧ Hid (stOk s' = true) ∧ Hid (addO s x = spT s' (x.talks.drop k)) ∧ Hid (Below w.heap.size w wr) ∧ Hid (w.heap.size + 1 + 1 < wr.heap.size)) (fun i _ => nt - (intOf i).toNat)
      case atStart => exact ⟨0, a0', n0', c0', a1', n1', c1', s', Nat.zero_le _, rfl, KS, KX, KR, SO, HO', Lib.hid (by rw [List.drop_zero]; exact HT2.out), BB, LP⟩
      case round =>
        clear KS KX KR BB LP SO HO' HT2
        obtain ⟨k, a0', n0', c0', a1', n1', c1', s', hk, rfl, KS, KX, KR, SO, HO', HT, BB, LP⟩ := hrel
        by_cases hlt : k < nt
        · obtain ⟨g, o, ha, hg, hAt⟩ := Hatt.out (by omega)
          subst ha
          have hkl : k < x.talks.length := by have := Hnt.out; omega
          obtain ⟨y, hy⟩ : ∃ y, y = x.talks[k] := ⟨_, rfl⟩
          have Hfy : Hid (FitTk y) := Lib.hid (by have h := HFx.out.2 y (by rw [hy]; exact List.getElem_mem _); exact h)
          have Hdrop : Hid (x.talks.drop k = y :: x.talks.drop (k + 1)) := Lib.hid (by rw [hy]; exact List.drop_eq_getElem_cons hkl)
          have hc := hAt.talk k hkl
          rw [← hy] at hc
          have FI : Hid (∀ w', Below w.heap.size w w' → w'.cell? ⟨g, o + k * 3, none⟩ = some (.string y.c) ∧ w'.cell? ⟨g, o + k * 3 + 1, none⟩ = some (.int .i64 y.q) ∧ w'.cell? ⟨g, o + k * 3 + 2, none⟩ = some (.string y.r)) := Lib.hid (fun w' h => by
            have hgw : g < w.heap.size := by omega
            rw [h.cell hgw, h.cell hgw, h.cell hgw]; exact hc)
          have hlt' : (k : Int) < (nt : Int) := by omega
          clear hy hAt hc hkl
          have fX0 := tcr KX 0
          have fX1 := tcr KX 1
          go_wp2_with fail
          clear fX0 fX1
          have l0 := LP.out
          have FS : Hid (∀ w', Below wr.heap.size wr w' → w'.cell? ⟨w.heap.size, 0, none⟩ = some (.slice a0' n0' c0') ∧ w'.cell? ⟨w.heap.size, 1, none⟩ = some (.slice a1' n1' c1')) := Lib.hid (fun w' h => by have K := tkb h (Lib.hid (by omega)) KS; exact ⟨tcr K 0, tcr K 1⟩)
          have FX : Hid (∀ w', Below wr.heap.size wr w' → w'.cell? ⟨w.heap.size + 1, 0, none⟩ = some (.slice ai ni ci) ∧ w'.cell? ⟨w.heap.size + 1, 1, none⟩ = some (.slice (some ⟨g, o, none⟩) nt ct)) := Lib.hid (fun w' h => by have K := tkb h (Lib.hid (by omega)) KX; exact ⟨tcr K 0, tcr K 1⟩)
          have FJ : Hid (∀ w', Below wr.heap.size wr w' → Below w.heap.size w w') := Lib.hid (fun w' h => BB.out.trans (h.mono BB.out.size))
          clear l0
          have HSV : Hid (StV wr wr.heap.size (.agg #[.slice a0' n0' c0', .slice a1' n1' c1']) s') := Lib.hid (SO.out.st (HS.out.later (BB.out.mono hB) (Nat.le_trans hB BB.out.size)))
          have LW0 := LP
          refine wp_region_held_drew (S := (fun w' => Below wr.heap.size wr w')) (by kernel_rfl) (Below.refl _ _).drew (fun hHeld => ?_)
          obtain ⟨zD, hzD⟩ : ∃ z, z = wr.drew := ⟨_, rfl⟩
          rw [← hzD] at hHeld ⊢
          clear hzD
          refine tk 0 (v := ?_) ?_ ?_; rotate_left
          · refine Or.inl ⟨by rfl, ?_⟩; intro w hSw; obtain ⟨hS0, hS1⟩ := FS.out w hSw; go_simp; first | done | with_reducible rfl
          refine tk0 1 ?_
          refine tk 2 (v := ?_) ?_ ?_; rotate_left
          · refine Or.inl ⟨by rfl, ?_⟩; intro w hSw; obtain ⟨hX0, hX1⟩ := FX.out w hSw; go_simp; first | done | with_reducible rfl
          refine tk0 3 ?_
          refine tk0 4 ?_
          refine tk0 5 ?_
          refine tk 6 (v := ?_) ?_ ?_; rotate_left
          · refine Or.inl ⟨by rfl, ?_⟩; intro w hSw; obtain ⟨hI0, hI1, hI2⟩ := FI.out w (FJ.out w hSw); go_simp; first | done | with_reducible rfl
          refine rd1 7 (fun K hK => ?_)
          go_simp
          have hc := spec_talkAt s' _ zD.heap.size y.c zD (HSV.out.later hHeld hHeld.size) (Nat.le_refl _)
          go_at_call 28
          refine hc.mono ?_
          rintro e w4 ⟨rfl, hb⟩
          have hb2 := hHeld.trans (hb.mono hHeld.size)
          clear hHeld hb hc
          go_wp2_with fail
          refine hK.out _ _ hb2 (fun hHeld => ?_)
          clear hK K
          refine tk0 8 ?_
          refine wpAnyH_done (by kernel_rfl) ?_ _
          have l0 := LP.out
          replace KS := tkb hb2 (Lib.hid (by omega)) KS
          replace KX := tkb hb2 (Lib.hid (by omega)) KX
          replace KR := tkb hb2 (Lib.hid (by omega)) KR
          replace SO := Lib.hid (SO.out.later hb2)
          replace BB := tbt BB hb2
          replace LP := tlz LP hb2.size
          clear l0
          clear hHeld hb2 FS FX FJ HSV LW0
          have l0 := LP.out
          have FS : Hid (∀ w', Below w4.heap.size w4 w' → w'.cell? ⟨w.heap.size, 0, none⟩ = some (.slice a0' n0' c0') ∧ w'.cell? ⟨w.heap.size, 1, none⟩ = some (.slice a1' n1' c1')) := Lib.hid (fun w' h => by have K := tkb h (Lib.hid (by omega)) KS; exact ⟨tcr K 0, tcr K 1⟩)
          have FX : Hid (∀ w', Below w4.heap.size w4 w' → w'.cell? ⟨w.heap.size + 1, 0, none⟩ = some (.slice ai ni ci) ∧ w'.cell? ⟨w.heap.size + 1, 1, none⟩ = some (.slice (some ⟨g, o, none⟩) nt ct)) := Lib.hid (fun w' h => by have K := tkb h (Lib.hid (by omega)) KX; exact ⟨tcr K 0, tcr K 1⟩)
          have FJ : Hid (∀ w', Below w4.heap.size w4 w' → Below w.heap.size w w') := Lib.hid (fun w' h => BB.out.trans (h.mono BB.out.size))
          clear l0
          have HSV : Hid (StV w4 w4.heap.size (.agg #[.slice a0' n0' c0', .slice a1' n1' c1']) s') := Lib.hid (SO.out.st (HS.out.later (BB.out.mono hB) (Nat.le_trans hB BB.out.size)))
          have LW0 := LP
          by_cases hit : 0 ≤ talkAt s'.talks y.c
          · obtain ⟨j, hj, e1, e2⟩ := talkAt_hit hit
            obtain ⟨_, vt', hv, _, hrow⟩ := id HSV.out
            obtain rfl : Value.slice a1' n1' c1' = vt' := by have h := congrArg (fun v => match v with | .agg cs => cs.getD 1 undef | _ => undef) hv; simpa using h
            rcases hrow with ⟨_, ⟨h0, hz⟩ | ⟨g2, o2, cap2, h0, hn2, hcap2, hg2, hAt2⟩⟩
            · exfalso; omega
            · obtain ⟨rfl, rfl, rfl⟩ : a1' = some ⟨g2, o2, none⟩ ∧ n1' = s'.talks.length ∧ c1' = cap2 := by simpa using h0
              have hq2 := (hAt2.talk j hj).2.1
              have hgl : g2 < w4.heap.size := by rcases hg2 with h | h; (exfalso; omega); exact h
              obtain ⟨tj, htj⟩ : ∃ q, q = s'.talks[j].q := ⟨_, rfl⟩
              have Htj := Lib.hid htj
              rw [← htj] at hq2
              have FT : Hid (∀ w', Below w4.heap.size w4 w' → w'.cell? ⟨g2, o2 + j * 3 + 1, none⟩ = some (.int .i64 tj)) := Lib.hid (fun w' h => by rw [h.cell hgl]; exact hq2)
              have E1 := Lib.hid e1
              have HK : Hid (known s'.talks y = decide (y.q ≤ tj)) := Lib.hid (by unfold known; rw [e1, Int.toNat_natCast, getD_eq _ _ hj, ← htj]; simp)
              rw [e1]
              unfold maxLen at hcap2
              clear h0 hv hAt2 hq2 hg2 hgl htj e1 e2
              have hj' : (j : Int) < (s'.talks.length : Int) := by omega
              have hj0 : decide (0 ≤ (j : Int)) = true := by simp
              go_wp2_with fail
              refine wp_region_held_drew (S := (fun w' => Below w4.heap.size w4 w')) (by kernel_rfl) (Below.refl _ _).drew (fun hHeld => ?_)
              obtain ⟨w6, hw6⟩ : ∃ z, z = w4.drew := ⟨_, rfl⟩
              rw [← hw6] at hHeld ⊢
              clear hw6
              refine tk0 0 ?_
              refine tk0 1 ?_
              refine tk0 2 ?_
              refine tk0 3 ?_
              refine tk 4 (v := ?_) ?_ ?_; rotate_left
              · refine Or.inl ⟨by rfl, ?_⟩; intro w hSw; obtain ⟨hS0, hS1⟩ := FS.out w hSw; go_simp; first | done | with_reducible rfl
              refine tk0 5 ?_
              refine tk0 6 ?_
              refine tk0 7 ?_
              refine tk 8 (v := ?_) ?_ ?_; rotate_left
              · refine Or.inl ⟨by rfl, ?_⟩; intro w hSw; have hT := FT.out w hSw; go_simp; first | done | with_reducible rfl
              refine tk0 9 ?_
              refine tk 10 (v := ?_) ?_ ?_; rotate_left
              · refine Or.inl ⟨by rfl, ?_⟩; intro w hSw; obtain ⟨hX0, hX1⟩ := FX.out w hSw; go_simp; first | done | with_reducible rfl
              refine tk0 11 ?_
              refine tk0 12 ?_
              refine tk0 13 ?_
              refine tk 14 (v := ?_) ?_ ?_; rotate_left
              · refine Or.inl ⟨by rfl, ?_⟩; intro w hSw; obtain ⟨hI0, hI1, hI2⟩ := FI.out w (FJ.out w hSw); go_simp; first | done | with_reducible rfl
              refine tk0 15 ?_
              refine tk0 16 ?_
              refine wpAnyH_done (by kernel_rfl) ?_ _
              by_cases hq : y.q ≤ tj
              · have l0 := LP.out
                replace KS := tkb hHeld (Lib.hid (by omega)) KS
                replace KX := tkb hHeld (Lib.hid (by omega)) KX
                replace KR := tkb hHeld (Lib.hid (by omega)) KR
                replace SO := Lib.hid (SO.out.later hHeld)
                replace BB := tbt BB hHeld
                replace LP := tlz LP hHeld.size
                clear l0
                have hd : decide (y.q ≤ tj) = true := by simpa using hq
                have HN2 : Hid (addO s x = spT s' (x.talks.drop (k + 1))) := Lib.hid (by rw [HT.out, Hdrop.out]; conv => lhs; unfold spT; rw [if_pos (by rw [HK.out]; exact hd)])
                clear hHeld FS FX FJ HSV LW0 FT
                go_wp2_with fail
                go_roundw
                case rel => exact ⟨k + 1, _, _, _, _, _, _, s', by omega, by go_num, KS, KX, KR, SO, HO', HN2, BB, LP⟩
                case measure => simp [intOf]; omega
              · have hd : decide (y.q ≤ tj) = false := by simpa using hq
                clear FT
                have l0 := LP.out
                replace KS := tkb hHeld (Lib.hid (by omega)) KS
                replace KX := tkb hHeld (Lib.hid (by omega)) KX
                replace KR := tkb hHeld (Lib.hid (by omega)) KR
                replace SO := Lib.hid (SO.out.later hHeld)
                replace BB := tbt BB hHeld
                replace LP := tlz LP hHeld.size
                clear l0
                clear hHeld FS FX FJ HSV LW0
                have Hk : Hid (¬ known s'.talks y = true) := Lib.hid (by rw [HK.out, hd]; decide)
                have l0 := LP.out
                have FS : Hid (∀ w', Below w6.heap.size w6 w' → w'.cell? ⟨w.heap.size, 0, none⟩ = some (.slice a0' n0' c0') ∧ w'.cell? ⟨w.heap.size, 1, none⟩ = some (.slice (some ⟨g2, o2, none⟩) s'.talks.length c1')) := Lib.hid (fun w' h => by have K := tkb h (Lib.hid (by omega)) KS; exact ⟨tcr K 0, tcr K 1⟩)
                have FX : Hid (∀ w', Below w6.heap.size w6 w' → w'.cell? ⟨w.heap.size + 1, 0, none⟩ = some (.slice ai ni ci) ∧ w'.cell? ⟨w.heap.size + 1, 1, none⟩ = some (.slice (some ⟨g, o, none⟩) nt ct)) := Lib.hid (fun w' h => by have K := tkb h (Lib.hid (by omega)) KX; exact ⟨tcr K 0, tcr K 1⟩)
                have FJ : Hid (∀ w', Below w6.heap.size w6 w' → Below w.heap.size w w') := Lib.hid (fun w' h => BB.out.trans (h.mono BB.out.size))
                clear l0
                have HSV : Hid (StV w6 w6.heap.size (.agg #[.slice a0' n0' c0', .slice (some ⟨g2, o2, none⟩) s'.talks.length c1']) s') := Lib.hid (SO.out.st (HS.out.later (BB.out.mono hB) (Nat.le_trans hB BB.out.size)))
                have LW0 := LP
                go_wp2_with fail
                obtain ⟨r, hr⟩ : ∃ r, r = chg s' (putST s' y) := ⟨_, rfl⟩
                obtain ⟨bq, hbq⟩ : ∃ b, b = chgB s' (putST s' y) := ⟨_, rfl⟩
                have Hr := Lib.hid hr
                have Hbq := Lib.hid hbq
                clear hr hbq
                go_cut [11, 12] (fun m bv wx => ∃ (mb : Nat) (gi ci' gt ct' : Nat), m = .pointer (some ⟨mb, 0, none⟩) ∧ bv = .bool bq ∧ Hid (wx.heap[mb]? = some (.cells #[.slice (some ⟨gi, 0, none⟩) r.items.length ci', .slice (some ⟨gt, 0, none⟩) r.talks.length ct'] 31 (0, 0))) ∧ Hid (OwnC wx w6.heap.size (.agg #[.slice (some ⟨gi, 0, none⟩) r.items.length ci', .slice (some ⟨gt, 0, none⟩) r.talks.length ct']) r) ∧ Hid (Below w6.heap.size w6 wx) ∧ Hid (w6.heap.size ≤ mb ∧ mb < wx.heap.size))
                case first =>
                  refine wp_region_held_drew (S := (fun w' => Below w6.heap.size w6 w')) (by kernel_rfl) (Below.refl _ _).drew (fun hHeld => ?_)
                  obtain ⟨zD, hzD⟩ : ∃ z, z = w6.drew := ⟨_, rfl⟩
                  rw [← hzD] at hHeld ⊢
                  have BA := Lib.hid hHeld
                  clear hzD
                  refine tk 0 (v := ?_) ?_ ?_; rotate_left
                  · refine Or.inl ⟨by rfl, ?_⟩; intro w hSw; obtain ⟨hS0, hS1⟩ := FS.out w hSw; go_simp; first | done | with_reducible rfl
                  refine tk0 1 ?_
                  refine tk 2 (v := ?_) ?_ ?_; rotate_left
                  · refine Or.inl ⟨by rfl, ?_⟩; intro w hSw; obtain ⟨hX0, hX1⟩ := FX.out w hSw; go_simp; first | done | with_reducible rfl
                  refine tk0 3 ?_
                  refine tk0 4 ?_
                  refine tk 5 (v := ?_) ?_ ?_; rotate_left
                  · refine Or.inl ⟨by rfl, ?_⟩; intro w hSw; obtain ⟨hI0, hI1, hI2⟩ := FI.out w (FJ.out w hSw); go_simp; first | done | with_reducible rfl
                  refine rd2 6 10 (fun K hK => ?_) (fun K hK => ?_)
                  · go_simp
                    have hc := spec_putTalkAny s' _ y zD.heap.size zD (HSV.out.later BA.out BA.out.size) (Nat.le_refl _) (by have := ok_len HO'.out; omega) (ok_few HO'.out) (ok_fits HO'.out) Hfy.out
                    rw [← Hr.out, ← Hbq.out] at hc
                    unfold tkA at hc
                    go_at_call 78
                    refine hc.mono ?_
                    rintro e wk ⟨_, rfl, ho, hb⟩
                    have hbk := hb
                    replace BA := tbt BA hb
                    obtain ⟨gi, ci', gt, ct', rfl, hne, gI, gT⟩ := ho
                    have G : Hid (OwnC wk zD.heap.size (.agg #[.slice (some ⟨gi, 0, none⟩) r.items.length ci', .slice (some ⟨gt, 0, none⟩) r.talks.length ct']) r) := Lib.hid ⟨gi, ci', gt, ct', rfl, hne, gI, gT⟩
                    have AL : Hid (w6.heap.size ≤ zD.heap.size) := Lib.hid hHeld.size
                    have BK : Hid (Below wk.heap.size wk wk) := Lib.hid (Below.refl _ _)
                    clear hne gI gT
                    have NE : Hid (zD.heap.size ≤ wk.heap.size) := Lib.hid hbk.size
                    clear hbk
                    clear hc hb
                    go_wp2_with fail
                    refine hK.out _ _ BA.out (fun hHeld => ?_)
                    clear hK K
                    refine tk0 7 ?_
                    refine tk0 8 ?_
                    refine tk0 9 ?_
                    refine rd1 10 (fun K hK => ?_)
                    go_simp
                    obtain ⟨V, hV⟩ : ∃ V, V = wk.alloc (.cells #[.slice none 0 0, .slice none 0 0] 31) := ⟨_, rfl⟩
                    rw [← hV]
                    have bV : Below wk.heap.size wk V := by rw [hV]; exact (Below.refl _ _).alloc (Nat.le_refl _) _
                    have KM : Hid (V.heap[wk.heap.size]? = some (.cells #[.slice none 0 0, .slice none 0 0] 31 (0, 0))) := Lib.hid (by rw [hV]; exact heap_new _ _)
                    have LM : Hid (wk.heap.size < V.heap.size) := Lib.hid (by rw [hV]; simp)
                    have AM : Hid (w6.heap.size ≤ wk.heap.size) := Lib.hid BA.out.size
                    replace BA := tbt BA bV
                    clear hV
                    replace BK := Lib.hid (BK.out.trans bV)
                    clear bV
                    go_wp2_with fail
                    refine hK.out _ _ BA.out (fun hHeld => ?_)
                    clear hK K
                    have d0 := tcr KM 0
                    have d1 := tcr KM 1
                    have z0 := tfr KM 0
                    have z1 := tfr KM 1
                    refine rd1 11 (fun K hK => ?_)
                    go_simp
                    obtain ⟨Y, hY⟩ : ∃ Y, Y = (V.setCell ⟨wk.heap.size, 0, none⟩ (.slice (some ⟨gi, 0, none⟩) r.items.length ci')).setCell ⟨wk.heap.size, 1, none⟩ (.slice (some ⟨gt, 0, none⟩) r.talks.length ct') := ⟨_, rfl⟩
                    rw [← hY]
                    have r0 := heap_setCell_same _ (wk.heap.size) 0 _ _ (.slice (some ⟨gi, 0, none⟩) r.items.length ci') KM.out
                    have r1 := heap_setCell_same _ (wk.heap.size) 1 _ _ (.slice (some ⟨gt, 0, none⟩) r.talks.length ct') r0
                    rw [← hY] at r1
                    simp only [List.setIfInBounds_toArray, List.set_cons_zero, List.set_cons_succ] at r1
                    have R1 := Lib.hid r1
                    have gY : V.grownBy Y (some (wk.heap.size)) := by rw [hY]; exact (grown_set _ ⟨wk.heap.size, 0, none⟩ _).trans (grown_set _ ⟨wk.heap.size, 1, none⟩ _)
                    clear d0 d1 z0 z1 r0 r1 hY
                    replace BA := Lib.hid (BA.out.grown gY BA.out.size (fun k hk => by cases hk; exact AM.out))
                    have LMY : Hid (w6.heap.size ≤ wk.heap.size ∧ wk.heap.size < Y.heap.size) := Lib.hid ⟨AM.out, Nat.lt_of_lt_of_le LM.out gY.size⟩
                    replace G := Lib.hid ((G.out.later (BK.out.grown gY BK.out.size (fun k hk => by cases hk; exact Nat.le_refl _))).base AL.out)
                    refine hK.out _ _ BA.out (fun hHeld => ?_)
                    clear hK K gY
                    refine tk0 12 ?_
                    refine wpAnyH_done (by kernel_rfl) ?_ _
                    clear hHeld
                    go_wp2_with fail
                    go_meet
                    exact ⟨wk.heap.size, gi, ci', gt, ct', rfl, rfl, R1, G, BA, LMY⟩
                  · go_simp
                    obtain ⟨V, hV⟩ : ∃ V, V = zD.alloc (.cells #[.slice none 0 0, .slice none 0 0] 31) := ⟨_, rfl⟩
                    rw [← hV]
                    have bV : Below zD.heap.size zD V := by rw [hV]; exact (Below.refl _ _).alloc (Nat.le_refl _) _
                    have KM : Hid (V.heap[zD.heap.size]? = some (.cells #[.slice none 0 0, .slice none 0 0] 31 (0, 0))) := Lib.hid (by rw [hV]; exact heap_new _ _)
                    have LM : Hid (zD.heap.size < V.heap.size) := Lib.hid (by rw [hV]; simp)
                    have AM : Hid (w6.heap.size ≤ zD.heap.size) := Lib.hid BA.out.size
                    replace BA := tbt BA bV
                    clear hV
                    clear bV
                    go_wp2_with fail
                    refine hK.out _ _ BA.out (fun hHeld => ?_)
                    clear hK K
                    have zDV := LM
                    refine rd1 6 (fun K hK => ?_)
                    go_simp
                    have hc := spec_putTalkAny s' _ y V.heap.size V (HSV.out.later BA.out BA.out.size) (Nat.le_refl _) (by have := ok_len HO'.out; omega) (ok_few HO'.out) (ok_fits HO'.out) Hfy.out
                    rw [← Hr.out, ← Hbq.out] at hc
                    unfold tkA at hc
                    go_at_call 78
                    refine hc.mono ?_
                    rintro e wk ⟨_, rfl, ho, hb⟩
                    have hbk := hb
                    replace BA := tbt BA hb
                    obtain ⟨gi, ci', gt, ct', rfl, hne, gI, gT⟩ := ho
                    have G : Hid (OwnC wk V.heap.size (.agg #[.slice (some ⟨gi, 0, none⟩) r.items.length ci', .slice (some ⟨gt, 0, none⟩) r.talks.length ct']) r) := Lib.hid ⟨gi, ci', gt, ct', rfl, hne, gI, gT⟩
                    have AL : Hid (w6.heap.size ≤ V.heap.size) := Lib.hid hHeld.size
                    have BK : Hid (Below wk.heap.size wk wk) := Lib.hid (Below.refl _ _)
                    clear hne gI gT
                    replace KM := tkb hbk LM KM
                    have NE : Hid (zD.heap.size < V.heap.size) := LM
                    replace LM := tlz LM hbk.size
                    clear hbk zDV
                    clear hc hb
                    go_wp2_with fail
                    refine hK.out _ _ BA.out (fun hHeld => ?_)
                    clear hK K
                    refine tk0 7 ?_
                    refine tk0 8 ?_
                    refine tk0 9 ?_
                    have d0 := tcr KM 0
                    have d1 := tcr KM 1
                    have z0 := tfr KM 0
                    have z1 := tfr KM 1
                    refine rd1 11 (fun K hK => ?_)
                    go_simp
                    obtain ⟨Y, hY⟩ : ∃ Y, Y = (wk.setCell ⟨zD.heap.size, 0, none⟩ (.slice (some ⟨gi, 0, none⟩) r.items.length ci')).setCell ⟨zD.heap.size, 1, none⟩ (.slice (some ⟨gt, 0, none⟩) r.talks.length ct') := ⟨_, rfl⟩
                    rw [← hY]
                    have r0 := heap_setCell_same _ (zD.heap.size) 0 _ _ (.slice (some ⟨gi, 0, none⟩) r.items.length ci') KM.out
                    have r1 := heap_setCell_same _ (zD.heap.size) 1 _ _ (.slice (some ⟨gt, 0, none⟩) r.talks.length ct') r0
                    rw [← hY] at r1
                    simp only [List.setIfInBounds_toArray, List.set_cons_zero, List.set_cons_succ] at r1
                    have R1 := Lib.hid r1
                    have gY : wk.grownBy Y (some (zD.heap.size)) := by rw [hY]; exact (grown_set _ ⟨zD.heap.size, 0, none⟩ _).trans (grown_set _ ⟨zD.heap.size, 1, none⟩ _)
                    clear d0 d1 z0 z1 r0 r1 hY
                    replace BA := Lib.hid (BA.out.grown gY BA.out.size (fun k hk => by cases hk; exact AM.out))
                    have LMY : Hid (w6.heap.size ≤ zD.heap.size ∧ zD.heap.size < Y.heap.size) := Lib.hid ⟨AM.out, Nat.lt_of_lt_of_le LM.out gY.size⟩
                    replace G := Lib.hid ((G.out.kept gY (.inl NE.out)).base AL.out)
                    refine hK.out _ _ BA.out (fun hHeld => ?_)
                    clear hK K gY
                    refine tk0 12 ?_
                    refine wpAnyH_done (by kernel_rfl) ?_ _
                    clear hHeld
                    go_wp2_with fail
                    go_meet
                    exact ⟨zD.heap.size, gi, ci', gt, ct', rfl, rfl, R1, G, BA, LMY⟩
                case rest =>
                  obtain ⟨mb, gi, ci', gt, ct', rfl, rfl, KM, G, bA, LM⟩ := hcut
                  obtain ⟨w5, rfl⟩ : ∃ z, z = wc := ⟨_, rfl⟩
                  have l0 := LP.out
                  replace KS := tkb bA.out (Lib.hid (by omega)) KS
                  replace KX := tkb bA.out (Lib.hid (by omega)) KX
                  replace KR := tkb bA.out (Lib.hid (by omega)) KR
                  replace SO := Lib.hid (SO.out.later bA.out)
                  replace BB := Lib.hid (BB.out.trans (bA.out.mono BB.out.size))
                  replace LP := tlz LP bA.out.size
                  clear l0
                  clear FS FX FJ HSV
                  cases hbq : bq
                  · have Hno : Hid (addO s x = none) := Lib.hid (by rw [HT.out, Hdrop.out]; unfold spT; rw [if_neg Hk.out, if_neg (by rw [← Hbq.out, hbq]; intro h; cases h)])
                    clear hbq
                    have fS0 := tcr KS 0
                    have fS1 := tcr KS 1
                    have fR0 := tcr KR 0
                    have fR1 := tcr KR 1
                    have zR0 := tfr KR 0
                    have zR1 := tfr KR 1
                    go_wp2_with fail
                    clear fS0 fS1 fR0 fR1 zR0 zR1
                    have l0 := LP.out
                    obtain ⟨j0, q1, q2, q3, q4⟩ := info_parts infoSt
                    have gR := set_grown w5 (w.heap.size + 1 + 1) (.slice a0' n0' c0') (.slice (some ⟨g2, o2, none⟩) s'.talks.length c1')
                    refine bodyPost_ret (results_cell_row2 (P := Try.prog) rfl _ _ (w.heap.size + 1 + 1) _ _ (0, 0) _ _ rfl rfl (set_cells KR.out) Try.underlying31 rfl (by rw [q1]; simp [q3])) rfl ⟨a0', n0', c0', some ⟨g2, o2, none⟩, s'.talks.length, c1', s', by rw [Hno.out]; rfl, ?_, ?_, ?_⟩
                    · exact (SO.out.kept gR (.inl (by omega))).base (by omega)
                    · intro q e; rw [Hno.out] at e; cases e
                    · exact BB.out.grown gR BB.out.size (fun j e => by cases e; omega)
                  · have Hrok : Hid (stOk r = true) := Lib.hid (by have h := Hbq.out; rw [hbq] at h; rw [Hr.out, chg_of h.symm]; exact (chgB_both h.symm).2)
                    have HN2 : Hid (addO s x = spT r (x.talks.drop (k + 1))) := Lib.hid (by have h := Hbq.out; rw [hbq] at h; rw [HT.out, Hdrop.out, Hr.out, chg_of h.symm]; conv => lhs; unfold spT; rw [if_neg Hk.out, if_pos h.symm])
                    clear hbq
                    have fS0 := tcr KS 0
                    have fS1 := tcr KS 1
                    have fM0 := tcr KM 0
                    have fM1 := tcr KM 1
                    have zS0 := tfr KS 0
                    have zS1 := tfr KS 1
                    go_wp2_with fail
                    clear fS0 fS1 fM0 fM1 zS0 zS1
                    have l0 := LP.out
                    have l1 := LM.out
                    have gS := set_grown w5 w.heap.size (.slice (some ⟨gi, 0, none⟩) r.items.length ci') (.slice (some ⟨gt, 0, none⟩) r.talks.length ct')
                    have KS2 := Lib.hid (set_cells (a' := .slice (some ⟨gi, 0, none⟩) r.items.length ci') (b' := .slice (some ⟨gt, 0, none⟩) r.talks.length ct') KS.out)
                    have KX2 := tkg gS (Lib.hid (by omega)) KX (by simp)
                    have KR2 := tkg gS (Lib.hid (by omega)) KR (fun e => by have := Option.some.inj e; omega)
                    have l2 := LW0.out
                    have SO2 := Lib.hid ((G.out.base (show w.heap.size + 1 + 1 + 1 ≤ w6.heap.size by omega)).kept gS (.inl (by omega)))
                    have BB2 : Hid (Below w.heap.size w _) := Lib.hid (BB.out.grown gS BB.out.size (fun j e => by cases e; exact Nat.le_refl _))
                    have LP2 := tlz LP gS.size
                    go_roundw
                    case rel => exact ⟨k + 1, _, _, _, _, _, _, r, by omega, by go_num, KS2, KX2, KR2, Lib.hid (.inr SO2.out), Hrok, HN2, BB2, LP2⟩
                    case measure => simp [intOf]; omega
          · have hd : decide (0 ≤ talkAt s'.talks y.c) = false := by simpa using hit
            go_wp2_with fail
            refine wp_region_held_drew (S := (fun w' => Below w4.heap.size w4 w')) (by kernel_rfl) (Below.refl _ _).drew (fun hHeld => ?_)
            obtain ⟨w6, hw6⟩ : ∃ z, z = w4.drew := ⟨_, rfl⟩
            rw [← hw6] at hHeld ⊢
            clear hw6
            refine tk0 0 ?_
            refine tk0 1 ?_
            refine tk0 2 ?_
            refine tku 3 ?_
            refine tku 4 ?_
            refine tku 5 ?_
            refine tku 6 ?_
            refine tku 7 ?_
            refine tku 8 ?_
            refine tku 9 ?_
            refine tku 10 ?_
            refine tku 11 ?_
            refine tku 12 ?_
            refine tku 13 ?_
            refine tku 14 ?_
            refine tku 15 ?_
            refine tk0 16 ?_
            refine wpAnyH_done (by kernel_rfl) ?_ _
            have l0 := LP.out
            replace KS := tkb hHeld (Lib.hid (by omega)) KS
            replace KX := tkb hHeld (Lib.hid (by omega)) KX
            replace KR := tkb hHeld (Lib.hid (by omega)) KR
            replace SO := Lib.hid (SO.out.later hHeld)
            replace BB := tbt BB hHeld
            replace LP := tlz LP hHeld.size
            clear l0
            clear hHeld FS FX FJ HSV LW0
            have Hk : Hid (¬ known s'.talks y = true) := Lib.hid (by unfold known; rw [decide_eq_true_iff]; rintro ⟨h, _⟩; omega)
            have l0 := LP.out
            have FS : Hid (∀ w', Below w6.heap.size w6 w' → w'.cell? ⟨w.heap.size, 0, none⟩ = some (.slice a0' n0' c0') ∧ w'.cell? ⟨w.heap.size, 1, none⟩ = some (.slice a1' n1' c1')) := Lib.hid (fun w' h => by have K := tkb h (Lib.hid (by omega)) KS; exact ⟨tcr K 0, tcr K 1⟩)
            have FX : Hid (∀ w', Below w6.heap.size w6 w' → w'.cell? ⟨w.heap.size + 1, 0, none⟩ = some (.slice ai ni ci) ∧ w'.cell? ⟨w.heap.size + 1, 1, none⟩ = some (.slice (some ⟨g, o, none⟩) nt ct)) := Lib.hid (fun w' h => by have K := tkb h (Lib.hid (by omega)) KX; exact ⟨tcr K 0, tcr K 1⟩)
            have FJ : Hid (∀ w', Below w6.heap.size w6 w' → Below w.heap.size w w') := Lib.hid (fun w' h => BB.out.trans (h.mono BB.out.size))
            clear l0
            have HSV : Hid (StV w6 w6.heap.size (.agg #[.slice a0' n0' c0', .slice a1' n1' c1']) s') := Lib.hid (SO.out.st (HS.out.later (BB.out.mono hB) (Nat.le_trans hB BB.out.size)))
            have LW0 := LP
            go_wp2_with fail
            obtain ⟨r, hr⟩ : ∃ r, r = chg s' (putST s' y) := ⟨_, rfl⟩
            obtain ⟨bq, hbq⟩ : ∃ b, b = chgB s' (putST s' y) := ⟨_, rfl⟩
            have Hr := Lib.hid hr
            have Hbq := Lib.hid hbq
            clear hr hbq
            go_cut [11, 12] (fun m bv wx => ∃ (mb : Nat) (gi ci' gt ct' : Nat), m = .pointer (some ⟨mb, 0, none⟩) ∧ bv = .bool bq ∧ Hid (wx.heap[mb]? = some (.cells #[.slice (some ⟨gi, 0, none⟩) r.items.length ci', .slice (some ⟨gt, 0, none⟩) r.talks.length ct'] 31 (0, 0))) ∧ Hid (OwnC wx w6.heap.size (.agg #[.slice (some ⟨gi, 0, none⟩) r.items.length ci', .slice (some ⟨gt, 0, none⟩) r.talks.length ct']) r) ∧ Hid (Below w6.heap.size w6 wx) ∧ Hid (w6.heap.size ≤ mb ∧ mb < wx.heap.size))
            case first =>
              refine wp_region_held_drew (S := (fun w' => Below w6.heap.size w6 w')) (by kernel_rfl) (Below.refl _ _).drew (fun hHeld => ?_)
              obtain ⟨zD, hzD⟩ : ∃ z, z = w6.drew := ⟨_, rfl⟩
              rw [← hzD] at hHeld ⊢
              have BA := Lib.hid hHeld
              clear hzD
              refine tk 0 (v := ?_) ?_ ?_; rotate_left
              · refine Or.inl ⟨by rfl, ?_⟩; intro w hSw; obtain ⟨hS0, hS1⟩ := FS.out w hSw; go_simp; first | done | with_reducible rfl
              refine tk0 1 ?_
              refine tk 2 (v := ?_) ?_ ?_; rotate_left
              · refine Or.inl ⟨by rfl, ?_⟩; intro w hSw; obtain ⟨hX0, hX1⟩ := FX.out w hSw; go_simp; first | done | with_reducible rfl
              refine tk0 3 ?_
              refine tk0 4 ?_
              refine tk 5 (v := ?_) ?_ ?_; rotate_left
              · refine Or.inl ⟨by rfl, ?_⟩; intro w hSw; obtain ⟨hI0, hI1, hI2⟩ := FI.out w (FJ.out w hSw); go_simp; first | done | with_reducible rfl
              refine rd2 6 10 (fun K hK => ?_) (fun K hK => ?_)
              · go_simp
                have hc := spec_putTalkAny s' _ y zD.heap.size zD (HSV.out.later BA.out BA.out.size) (Nat.le_refl _) (by have := ok_len HO'.out; omega) (ok_few HO'.out) (ok_fits HO'.out) Hfy.out
                rw [← Hr.out, ← Hbq.out] at hc
                unfold tkA at hc
                go_at_call 78
                refine hc.mono ?_
                rintro e wk ⟨_, rfl, ho, hb⟩
                have hbk := hb
                replace BA := tbt BA hb
                obtain ⟨gi, ci', gt, ct', rfl, hne, gI, gT⟩ := ho
                have G : Hid (OwnC wk zD.heap.size (.agg #[.slice (some ⟨gi, 0, none⟩) r.items.length ci', .slice (some ⟨gt, 0, none⟩) r.talks.length ct']) r) := Lib.hid ⟨gi, ci', gt, ct', rfl, hne, gI, gT⟩
                have AL : Hid (w6.heap.size ≤ zD.heap.size) := Lib.hid hHeld.size
                have BK : Hid (Below wk.heap.size wk wk) := Lib.hid (Below.refl _ _)
                clear hne gI gT
                have NE : Hid (zD.heap.size ≤ wk.heap.size) := Lib.hid hbk.size
                clear hbk
                clear hc hb
                go_wp2_with fail
                refine hK.out _ _ BA.out (fun hHeld => ?_)
                clear hK K
                refine tk0 7 ?_
                refine tk0 8 ?_
                refine tk0 9 ?_
                refine rd1 10 (fun K hK => ?_)
                go_simp
                obtain ⟨V, hV⟩ : ∃ V, V = wk.alloc (.cells #[.slice none 0 0, .slice none 0 0] 31) := ⟨_, rfl⟩
                rw [← hV]
                have bV : Below wk.heap.size wk V := by rw [hV]; exact (Below.refl _ _).alloc (Nat.le_refl _) _
                have KM : Hid (V.heap[wk.heap.size]? = some (.cells #[.slice none 0 0, .slice none 0 0] 31 (0, 0))) := Lib.hid (by rw [hV]; exact heap_new _ _)
                have LM : Hid (wk.heap.size < V.heap.size) := Lib.hid (by rw [hV]; simp)
                have AM : Hid (w6.heap.size ≤ wk.heap.size) := Lib.hid BA.out.size
                replace BA := tbt BA bV
                clear hV
                replace BK := Lib.hid (BK.out.trans bV)
                clear bV
                go_wp2_with fail
                refine hK.out _ _ BA.out (fun hHeld => ?_)
                clear hK K
                have d0 := tcr KM 0
                have d1 := tcr KM 1
                have z0 := tfr KM 0
                have z1 := tfr KM 1
                refine rd1 11 (fun K hK => ?_)
                go_simp
                obtain ⟨Y, hY⟩ : ∃ Y, Y = (V.setCell ⟨wk.heap.size, 0, none⟩ (.slice (some ⟨gi, 0, none⟩) r.items.length ci')).setCell ⟨wk.heap.size, 1, none⟩ (.slice (some ⟨gt, 0, none⟩) r.talks.length ct') := ⟨_, rfl⟩
                rw [← hY]
                have r0 := heap_setCell_same _ (wk.heap.size) 0 _ _ (.slice (some ⟨gi, 0, none⟩) r.items.length ci') KM.out
                have r1 := heap_setCell_same _ (wk.heap.size) 1 _ _ (.slice (some ⟨gt, 0, none⟩) r.talks.length ct') r0
                rw [← hY] at r1
                simp only [List.setIfInBounds_toArray, List.set_cons_zero, List.set_cons_succ] at r1
                have R1 := Lib.hid r1
                have gY : V.grownBy Y (some (wk.heap.size)) := by rw [hY]; exact (grown_set _ ⟨wk.heap.size, 0, none⟩ _).trans (grown_set _ ⟨wk.heap.size, 1, none⟩ _)
                clear d0 d1 z0 z1 r0 r1 hY
                replace BA := Lib.hid (BA.out.grown gY BA.out.size (fun k hk => by cases hk; exact AM.out))
                have LMY : Hid (w6.heap.size ≤ wk.heap.size ∧ wk.heap.size < Y.heap.size) := Lib.hid ⟨AM.out, Nat.lt_of_lt_of_le LM.out gY.size⟩
                replace G := Lib.hid ((G.out.later (BK.out.grown gY BK.out.size (fun k hk => by cases hk; exact Nat.le_refl _))).base AL.out)
                refine hK.out _ _ BA.out (fun hHeld => ?_)
                clear hK K gY
                refine tk0 12 ?_
                refine wpAnyH_done (by kernel_rfl) ?_ _
                clear hHeld
                go_wp2_with fail
                go_meet
                exact ⟨wk.heap.size, gi, ci', gt, ct', rfl, rfl, R1, G, BA, LMY⟩
              · go_simp
                obtain ⟨V, hV⟩ : ∃ V, V = zD.alloc (.cells #[.slice none 0 0, .slice none 0 0] 31) := ⟨_, rfl⟩
                rw [← hV]
                have bV : Below zD.heap.size zD V := by rw [hV]; exact (Below.refl _ _).alloc (Nat.le_refl _) _
                have KM : Hid (V.heap[zD.heap.size]? = some (.cells #[.slice none 0 0, .slice none 0 0] 31 (0, 0))) := Lib.hid (by rw [hV]; exact heap_new _ _)
                have LM : Hid (zD.heap.size < V.heap.size) := Lib.hid (by rw [hV]; simp)
                have AM : Hid (w6.heap.size ≤ zD.heap.size) := Lib.hid BA.out.size
                replace BA := tbt BA bV
                clear hV
                clear bV
                go_wp2_with fail
                refine hK.out _ _ BA.out (fun hHeld => ?_)
                clear hK K
                have zDV := LM
                refine rd1 6 (fun K hK => ?_)
                go_simp
                have hc := spec_putTalkAny s' _ y V.heap.size V (HSV.out.later BA.out BA.out.size) (Nat.le_refl _) (by have := ok_len HO'.out; omega) (ok_few HO'.out) (ok_fits HO'.out) Hfy.out
                rw [← Hr.out, ← Hbq.out] at hc
                unfold tkA at hc
                go_at_call 78
                refine hc.mono ?_
                rintro e wk ⟨_, rfl, ho, hb⟩
                have hbk := hb
                replace BA := tbt BA hb
                obtain ⟨gi, ci', gt, ct', rfl, hne, gI, gT⟩ := ho
                have G : Hid (OwnC wk V.heap.size (.agg #[.slice (some ⟨gi, 0, none⟩) r.items.length ci', .slice (some ⟨gt, 0, none⟩) r.talks.length ct']) r) := Lib.hid ⟨gi, ci', gt, ct', rfl, hne, gI, gT⟩
                have AL : Hid (w6.heap.size ≤ V.heap.size) := Lib.hid hHeld.size
                have BK : Hid (Below wk.heap.size wk wk) := Lib.hid (Below.refl _ _)
                clear hne gI gT
                replace KM := tkb hbk LM KM
                have NE : Hid (zD.heap.size < V.heap.size) := LM
                replace LM := tlz LM hbk.size
                clear hbk zDV
                clear hc hb
                go_wp2_with fail
                refine hK.out _ _ BA.out (fun hHeld => ?_)
                clear hK K
                refine tk0 7 ?_
                refine tk0 8 ?_
                refine tk0 9 ?_
                have d0 := tcr KM 0
                have d1 := tcr KM 1
                have z0 := tfr KM 0
                have z1 := tfr KM 1
                refine rd1 11 (fun K hK => ?_)
                go_simp
                obtain ⟨Y, hY⟩ : ∃ Y, Y = (wk.setCell ⟨zD.heap.size, 0, none⟩ (.slice (some ⟨gi, 0, none⟩) r.items.length ci')).setCell ⟨zD.heap.size, 1, none⟩ (.slice (some ⟨gt, 0, none⟩) r.talks.length ct') := ⟨_, rfl⟩
                rw [← hY]
                have r0 := heap_setCell_same _ (zD.heap.size) 0 _ _ (.slice (some ⟨gi, 0, none⟩) r.items.length ci') KM.out
                have r1 := heap_setCell_same _ (zD.heap.size) 1 _ _ (.slice (some ⟨gt, 0, none⟩) r.talks.length ct') r0
                rw [← hY] at r1
                simp only [List.setIfInBounds_toArray, List.set_cons_zero, List.set_cons_succ] at r1
                have R1 := Lib.hid r1
                have gY : wk.grownBy Y (some (zD.heap.size)) := by rw [hY]; exact (grown_set _ ⟨zD.heap.size, 0, none⟩ _).trans (grown_set _ ⟨zD.heap.size, 1, none⟩ _)
                clear d0 d1 z0 z1 r0 r1 hY
                replace BA := Lib.hid (BA.out.grown gY BA.out.size (fun k hk => by cases hk; exact AM.out))
                have LMY : Hid (w6.heap.size ≤ zD.heap.size ∧ zD.heap.size < Y.heap.size) := Lib.hid ⟨AM.out, Nat.lt_of_lt_of_le LM.out gY.size⟩
                replace G := Lib.hid ((G.out.kept gY (.inl NE.out)).base AL.out)
                refine hK.out _ _ BA.out (fun hHeld => ?_)
                clear hK K gY
                refine tk0 12 ?_
                refine wpAnyH_done (by kernel_rfl) ?_ _
                clear hHeld
                go_wp2_with fail
                go_meet
                exact ⟨zD.heap.size, gi, ci', gt, ct', rfl, rfl, R1, G, BA, LMY⟩
            case rest =>
              obtain ⟨mb, gi, ci', gt, ct', rfl, rfl, KM, G, bA, LM⟩ := hcut
              obtain ⟨w5, rfl⟩ : ∃ z, z = wc := ⟨_, rfl⟩
              have l0 := LP.out
              replace KS := tkb bA.out (Lib.hid (by omega)) KS
              replace KX := tkb bA.out (Lib.hid (by omega)) KX
              replace KR := tkb bA.out (Lib.hid (by omega)) KR
              replace SO := Lib.hid (SO.out.later bA.out)
              replace BB := Lib.hid (BB.out.trans (bA.out.mono BB.out.size))
              replace LP := tlz LP bA.out.size
              clear l0
              clear FS FX FJ HSV
              cases hbq : bq
              · have Hno : Hid (addO s x = none) := Lib.hid (by rw [HT.out, Hdrop.out]; unfold spT; rw [if_neg Hk.out, if_neg (by rw [← Hbq.out, hbq]; intro h; cases h)])
                clear hbq
                have fS0 := tcr KS 0
                have fS1 := tcr KS 1
                have fR0 := tcr KR 0
                have fR1 := tcr KR 1
                have zR0 := tfr KR 0
                have zR1 := tfr KR 1
                go_wp2_with fail
                clear fS0 fS1 fR0 fR1 zR0 zR1
                have l0 := LP.out
                obtain ⟨j0, q1, q2, q3, q4⟩ := info_parts infoSt
                have gR := set_grown w5 (w.heap.size + 1 + 1) (.slice a0' n0' c0') (.slice a1' n1' c1')
                refine bodyPost_ret (results_cell_row2 (P := Try.prog) rfl _ _ (w.heap.size + 1 + 1) _ _ (0, 0) _ _ rfl rfl (set_cells KR.out) Try.underlying31 rfl (by rw [q1]; simp [q3])) rfl ⟨a0', n0', c0', a1', n1', c1', s', by rw [Hno.out]; rfl, ?_, ?_, ?_⟩
                · exact (SO.out.kept gR (.inl (by omega))).base (by omega)
                · intro q e; rw [Hno.out] at e; cases e
                · exact BB.out.grown gR BB.out.size (fun j e => by cases e; omega)
              · have Hrok : Hid (stOk r = true) := Lib.hid (by have h := Hbq.out; rw [hbq] at h; rw [Hr.out, chg_of h.symm]; exact (chgB_both h.symm).2)
                have HN2 : Hid (addO s x = spT r (x.talks.drop (k + 1))) := Lib.hid (by have h := Hbq.out; rw [hbq] at h; rw [HT.out, Hdrop.out, Hr.out, chg_of h.symm]; conv => lhs; unfold spT; rw [if_neg Hk.out, if_pos h.symm])
                clear hbq
                have fS0 := tcr KS 0
                have fS1 := tcr KS 1
                have fM0 := tcr KM 0
                have fM1 := tcr KM 1
                have zS0 := tfr KS 0
                have zS1 := tfr KS 1
                go_wp2_with fail
                clear fS0 fS1 fM0 fM1 zS0 zS1
                have l0 := LP.out
                have l1 := LM.out
                have gS := set_grown w5 w.heap.size (.slice (some ⟨gi, 0, none⟩) r.items.length ci') (.slice (some ⟨gt, 0, none⟩) r.talks.length ct')
                have KS2 := Lib.hid (set_cells (a' := .slice (some ⟨gi, 0, none⟩) r.items.length ci') (b' := .slice (some ⟨gt, 0, none⟩) r.talks.length ct') KS.out)
                have KX2 := tkg gS (Lib.hid (by omega)) KX (by simp)
                have KR2 := tkg gS (Lib.hid (by omega)) KR (fun e => by have := Option.some.inj e; omega)
                have l2 := LW0.out
                have SO2 := Lib.hid ((G.out.base (show w.heap.size + 1 + 1 + 1 ≤ w6.heap.size by omega)).kept gS (.inl (by omega)))
                have BB2 : Hid (Below w.heap.size w _) := Lib.hid (BB.out.grown gS BB.out.size (fun j e => by cases e; exact Nat.le_refl _))
                have LP2 := tlz LP gS.size
                go_roundw
                case rel => exact ⟨k + 1, _, _, _, _, _, _, r, by omega, by go_num, KS2, KX2, KR2, Lib.hid (.inr SO2.out), Hrok, HN2, BB2, LP2⟩
                case measure => simp [intOf]; omega
        · have Hyes : Hid (addO s x = some s') := Lib.hid (by rw [HT.out, List.drop_of_length_le (by have := Hnt.out; omega)]; rfl)
          clear HT
          have fX0 := tcr KX 0
          have fX1 := tcr KX 1
          have fS0 := tcr KS 0
          have fS1 := tcr KS 1
          have fR0 := tcr KR 0
          have fR1 := tcr KR 1
          have zR0 := tfr KR 0
          have zR1 := tfr KR 1
          go_wp2_with fail
          clear fS0 fS1 fX0 fX1 fR0 fR1 zR0 zR1
          have l0 := LP.out
          obtain ⟨j0, q1, q2, q3, q4⟩ := info_parts infoSt
          have gR := set_grown wr (w.heap.size + 1 + 1) (.slice a0' n0' c0') (.slice a1' n1' c1')
          refine bodyPost_ret (results_cell_row2 (P := Try.prog) rfl _ _ (w.heap.size + 1 + 1) _ _ (0, 0) _ _ rfl rfl (set_cells KR.out) Try.underlying31 rfl (by rw [q1]; simp [q3])) rfl ⟨a0', n0', c0', a1', n1', c1', s', by rw [Hyes.out]; rfl, ?_, ?_, ?_⟩
          · exact (SO.out.kept gR (.inl (by omega))).base (by omega)
          · intro q e; rw [Hyes.out] at e; exact Option.some.inj e
          · exact BB.out.grown gR BB.out.size (fun j e => by cases e; omega)
end Go.Proofs.Ytebmaplflpfjbaa
