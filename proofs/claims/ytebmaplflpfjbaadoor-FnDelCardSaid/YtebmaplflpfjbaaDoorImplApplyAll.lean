/- What impl.ApplyAll answers: 'apA', the state and the replies apart. Condition: a state and operations that can be read, not too great; the variable errors.errorType holds the handle of the type error. -/
import Derived.Test.YtebmaplflpfjbaaDoorBaseA
import Derived.Test.YtebmaplflpfjbaaDoorApplyAllPlain
import Derived.Test.YtebmaplflpfjbaaDoorImplApply
import Derived.Deep.RegionHeld
namespace Go.Proofs.YtebmaplflpfjbaaDoor
open Go.RowKit
set_option linter.unusedVariables false
set_option linter.unusedSimpArgs false

theorem infoStr2 : (Tryd.prog.info? 9).map (fun i => (i.zero, i.size, i.bytes)) = some (some (.string ⟨#[]⟩), 1, 16) := by kernel_rfl
theorem StTx.low {w w' : World} {base nb b : Nat} {v out : Value} {s : St} {rs : List ByteArray} (h : StTx w base nb v s out rs) (hg : w.grownBy w' (some b)) (hb : b < base) : StTx w' base nb v s out rs := by
  obtain ⟨⟨vi, vt, gi, ci, gt, ct, h0, h1, h2, h3, h4, h5, h6⟩, h7, h8⟩ := h
  have i1 := h4.2.2.2.1
  have t1 := h5.2.2.2.1
  exact ⟨⟨vi, vt, gi, ci, gt, ct, h0, h1, h2, h3, h4.grown hg (by omega), h5.grown hg (by omega), h6⟩, h7, texts_kept h8 hg (.inr (fun e => by have := Texts.own h8 _ e; omega))⟩
theorem StTx.base {w : World} {base base' nb : Nat} {v out : Value} {s : St} {rs : List ByteArray} (h : StTx w base nb v s out rs) (hb : base' ≤ base) : StTx w base' nb v s out rs := by
  obtain ⟨⟨vi, vt, gi, ci, gt, ct, h0, h1, h2, h3, h4, h5, h6⟩, h7, h8⟩ := h
  exact ⟨⟨vi, vt, gi, ci, gt, ct, h0, h1, h2, h3, h4.base hb, h5.base hb, h6⟩, h7, owns_base h8 hb⟩
theorem texts_at {w : World} {base g n cap k : Nat} {rs : List ByteArray} (h : Texts w base (.slice (some ⟨g, 0, none⟩) n cap) rs) (hk : k < rs.length) : ∃ z, w.cell? ⟨g, k, none⟩ = some (.string z) ∧ w.frozen? ⟨g, k, none⟩ = false := by
  rcases h.form with ⟨h0, _⟩ | ⟨g', cap', h0, _, _, _, hc, hf⟩
  · cases h0
  · cases h0
    exact ⟨_, hc k hk, hf k⟩
theorem StTx.put {w : World} {base nb g n cap k : Nat} {v : Value} {s : St} {rs : List ByteArray} (h : StTx w base nb v s (.slice (some ⟨g, 0, none⟩) n cap) rs) (hk : k < rs.length) (x : ByteArray) : StTx (w.setCell ⟨g, k, none⟩ (.string x)) base nb v s (.slice (some ⟨g, 0, none⟩) n cap) (rs.set k x) := by
  obtain ⟨⟨vi, vt, gi, ci, gt, ct, h0, h1, h2, h3, h4, h5, h6, h6', h6a, h6b⟩, h7, h8⟩ := h
  have hg := grown_set w ⟨g, k, none⟩ (.string x)
  have hn : rs.length = n := by
    rcases h8.form with ⟨e, _⟩ | ⟨_, _, e, _⟩
    · cases e
    · cases e; rfl
  subst hn
  exact ⟨⟨vi, vt, gi, ci, gt, ct, h0, h1, h2, h3, h4.grown hg (fun e => h6a (by rw [e]; rfl)), h5.grown hg (fun e => h6b (by rw [e]; rfl)), h6, h6', h6a, h6b⟩, h7, h8.set x⟩
theorem set_reply (rk : List ByteArray) (n k : Nat) (x : ByteArray) (h : rk.length = k) (hk : k < n) : (rk ++ List.replicate (n - k) (⟨#[]⟩ : ByteArray)).set k x = (rk ++ [x]) ++ List.replicate (n - (k + 1)) (⟨#[]⟩ : ByteArray) := by
  subst h
  rw [List.set_append_right _ _ (Nat.le_refl _), Nat.sub_self]
  obtain ⟨m, hm⟩ : ∃ m, n - rk.length = m + 1 := ⟨n - rk.length - 1, by omega⟩
  rw [hm, List.replicate_succ, List.set_cons_zero, show n - (rk.length + 1) = m by omega, List.append_assoc]
  rfl
theorem StTx.made {W w1 X2 w : World} {nb n : Nat} {v : Value} {s : St} (ho : OwnN w1 W.heap.size v s) (hown : X2.ownsRow (nb + 1) 9 1 (.slice (some ⟨nb + 1, 0, none⟩) n n) n (madeCells (Value.string ⟨#[]⟩).cells (n * 1)).toList) (hb : Below w1.heap.size w1 X2) (hnb : nb = w1.heap.size) (hWs : W.heap.size = w.heap.size + 2) (hs : W.heap.size ≤ w1.heap.size) :
    StTx X2 (w.heap.size + 2) nb v s (.slice (some ⟨nb + 1, 0, none⟩) n n) (List.replicate n ⟨#[]⟩) := by
  obtain ⟨vi, vt, gi, ci, gt, ct, h0, h1, h2, h3, h4, h5⟩ := ho
  have i2 := h4.2.2.2.2.1
  have t2 := h5.2.2.2.2.1
  refine ⟨⟨vi, vt, gi, ci, gt, ct, h0, h1, h2, h3, (h4.base (by omega)).later hb, (h5.base (by omega)).later hb, by omega, by omega, fun e => ?_, fun e => ?_⟩, fun e => ?_, ?_⟩
  · simp only [Value.ownBlock, Option.some.injEq] at e; omega
  · simp only [Value.ownBlock, Option.some.injEq] at e; omega
  · simp only [Value.ownBlock, Option.some.injEq] at e; omega
  · have e : (madeCells (Value.string ⟨#[]⟩).cells (n * 1)).toList = (List.replicate n (⟨#[]⟩ : ByteArray)).map Value.string := by
      rw [Nat.mul_one, show (Value.string ⟨#[]⟩).cells = #[Value.string ⟨#[]⟩] from rfl, toList_madeCells_one]; simp
    rw [e] at hown
    unfold Texts
    rw [List.length_replicate]
    exact owns_base hown (by omega)
set_option maxRecDepth 100000 in
set_option maxHeartbeats 8000000 in
theorem impl_applyAll (s : St) (v va : Value) (xs : List Rq) (B : Nat) (w : World) (hs : StV w B v s) (hr : Raw w B va xs.length (xs.flatMap rqC)) (hB : B ≤ w.heap.size) (hk : KeepS s) (hf : ∀ x ∈ xs, FitRq x) (hl : xs.length ≤ 1048576) (hE : ErrType w) :
    Calls Tryd.prog 25 #[v, va] w fun e w' => ∃ v' vr nb, e = .returned (.tuple #[v', vr]) ∧ StTx w' w.heap.size nb v' (apA s xs).1 vr (apA s xs).2 ∧ Below w.heap.size w w' := by
  have HS := Lib.hid hs
  have HKE := Lib.hid hk
  have HF := Lib.hid hf
  have HE := Lib.hid hE
  obtain ⟨vi, vt, rfl, hri, hrt⟩ := hs
  obtain ⟨la, lcap, rfl, hn1, hn2, hn3, hn4⟩ := hr
  have HL := Lib.hid hn4
  unfold maxLen at hn2
  clear hri hrt hn3 hn4 hf hE
  obtain ⟨W, hW⟩ : ∃ W, W = (w.alloc (.cells #[vi, vt] 27)).alloc (.cells #[.slice none 0 0, .slice none 0 0] 27) := ⟨_, rfl⟩
  have hbW : Below w.heap.size w W := by rw [hW]; exact ((Below.refl _ _).alloc (Nat.le_refl _) _).alloc (by simp) _
  have hWs : W.heap.size = w.heap.size + 2 := by rw [hW]; simp
  have KP : Hid (W.heap[w.heap.size]? = some (.cells #[vi, vt] 27 (0, 0))) := Lib.hid (by rw [hW, Below.heap_alloc _ _ _ (by simp)]; exact heap_new _ _)
  have KR : Hid (W.heap[w.heap.size + 1]? = some (.cells #[.slice none 0 0, .slice none 0 0] 27 (0, 0))) := Lib.hid (by rw [hW]; simpa using heap_new (w.alloc (.cells #[vi, vt] 27)) (.cells #[.slice none 0 0, .slice none 0 0] 27))
  have LP : Hid (w.heap.size < W.heap.size) := Lib.hid (by omega)
  have LR : Hid (w.heap.size + 1 < W.heap.size) := Lib.hid (by omega)
  have HWs := Lib.hid hWs
  have BB := Lib.hid hbW
  have hc0 := impl_copy s _ B W (HS.out.rd.later (hbW.mono hB) (Nat.le_refl _)) (Nat.le_trans hB hbW.size) HKE.out.few
  rw [hW] at hc0
  clear hbW hWs hk
  have fP0 := tcr KP 0
  have fP1 := tcr KP 1
  rw [hW] at fP0 fP1
  go_enter Tryd.func25, Tryd.ntmps25
  go_wp2_with (go_at_call 35; refine hc0.mono ?_; rintro e w1 ⟨v1, rfl, ho1, hb1⟩; refine Hid.out ?_)
  refine Lib.hid ?_
  rw [← hW] at ho1 hb1
  have S1 := Lib.hid ho1
  obtain ⟨a0, n0, c0, a1, n1, c1, rfl⟩ := ho1.two'
  clear hc0 hW ho1
  clear fP0 fP1
  have HsW := Lib.hid hb1.size
  replace KP := tkb hb1 LP KP
  replace LP := tlz LP hb1.size
  replace KR := tkb hb1 LR KR
  replace LR := tlz LR hb1.size
  replace BB := tbt BB hb1
  clear hb1
  obtain ⟨X, hX⟩ : ∃ x, x = w1.alloc (.cells #[.slice a0 n0 c0, .slice a1 n1 c1] 27) := ⟨_, rfl⟩
  have bX : Below w1.heap.size w1 X := by rw [hX]; exact (Below.refl _ _).alloc (Nat.le_refl _) _
  have sX : Hid (X.heap.size = w1.heap.size + 1) := Lib.hid (by rw [hX]; simp)
  replace KP := tkb bX LP KP
  replace LP := tlz LP bX.size
  replace KR := tkb bX LR KR
  replace LR := tlz LR bX.size
  replace BB := tbt BB bX
  have KN : Hid (X.heap[w1.heap.size]? = some (.cells #[.slice a0 n0 c0, .slice a1 n1 c1] 27 (0, 0))) := Lib.hid (by rw [hX]; exact heap_new _ _)
  have LN : Hid (w1.heap.size < X.heap.size) := Lib.hid (by have := sX.out; omega)
  clear bX
  obtain ⟨i0, hi, hz0, hz1, hz2⟩ := info_parts infoStr2
  obtain ⟨X2, hmk, hown, hgr⟩ := run_make_full (P := Tryd.prog) X X.heap.size 50 9 i0 (.string ⟨#[]⟩) 1 Tryd.underlying50 hi hz0 hz1 .i64 .i64 xs.length (by rw [hz2]; omega) (by unfold maxLen; omega) (Nat.le_refl _)
  clear hi hz0 hz1 hz2
  have bX2 : Below X.heap.size X X2 := (Below.refl _ _).grown hgr (Nat.le_refl _) (fun k hk => by cases hk)
  obtain ⟨nb, hnb⟩ : ∃ n, n = w1.heap.size := ⟨_, rfl⟩
  have hXs : X.heap.size = nb + 1 := by rw [hnb]; exact sX.out
  rw [hXs] at hmk hown
  rw [← hnb] at KN LN
  have HT2 : Hid (StTx X2 (w.heap.size + 2) nb (.agg #[.slice a0 n0 c0, .slice a1 n1 c1]) s (.slice (some ⟨nb + 1, 0, none⟩) xs.length xs.length) (List.replicate xs.length ⟨#[]⟩)) := Lib.hid (StTx.made S1.out hown ((by rw [hX]; exact (Below.refl _ _).alloc (Nat.le_refl _) _ : Below w1.heap.size w1 X).trans (bX2.mono (by rw [hX]; simp))) hnb HWs.out HsW.out)
  have NB2 : Hid (w.heap.size + 2 ≤ nb) := Lib.hid (by have := HsW.out; have := HWs.out; omega)
  rw [hX] at hmk
  have HX := Lib.hid hX
  have bX2' := bX2
  clear hX hXs hown hgr S1 bX2
  go_wp2_with fail
  rw [← hnb]
  clear hmk HX sX HsW hnb
  replace KP := Lib.hid ((bX2'.block _ LP.out).trans KP.out)
  replace LP := Lib.hid (Nat.lt_of_lt_of_le LP.out bX2'.size)
  replace KR := Lib.hid ((bX2'.block _ LR.out).trans KR.out)
  replace LR := Lib.hid (Nat.lt_of_lt_of_le LR.out bX2'.size)
  replace KN := Lib.hid ((bX2'.block _ LN.out).trans KN.out)
  replace LN := Lib.hid (Nat.lt_of_lt_of_le LN.out bX2'.size)
  replace BB := Lib.hid (BB.out.trans (bX2'.mono BB.out.size))
  clear bX2'
  have BX0 : Hid (Below (w.heap.size + 2) X2 X2) := Lib.hid (Below.refl _ _)
  go_loopw [17] (fun i wr => ∃ (k : Nat), k ≤ xs.length ∧ i = .int .i64 k ∧ ∃ (a0 : Option Addr) (n0 c0 : Nat) (a1 : Option Addr) (n1 c1 : Nat), Hid (wr.heap[nb]? = some (.cells #[.slice a0 n0 c0, .slice a1 n1 c1] 27 (0, 0))) ∧ Hid (StTx wr (w.heap.size + 2) nb (.agg #[.slice a0 n0 c0, .slice a1 n1 c1]) (apA s (xs.take k)).1 (.slice (some ⟨nb + 1, 0, none⟩) xs.length xs.length) ((apA s (xs.take k)).2 ++ List.replicate (xs.length - k) ⟨#[]⟩)) ∧ Hid (Below (w.heap.size + 2) X2 wr)) (fun i _ => xs.length - (intOf i).toNat)
  case atStart => exact ⟨0, Nat.zero_le _, rfl, a0, n0, c0, a1, n1, c1, KN, HT2, BX0⟩
  case round =>
    clear KN HT2 BX0
    obtain ⟨k, hk, rfl, a0, n0, c0, a1, n1, c1, KN, STX, BW⟩ := hrel
    have LPr := Lib.hid (Nat.lt_of_lt_of_le LP.out BW.out.size)
    have LRr := Lib.hid (Nat.lt_of_lt_of_le LR.out BW.out.size)
    have KPr := Lib.hid ((BW.out.block _ (by omega)).trans KP.out)
    have KRr := Lib.hid ((BW.out.block _ (by omega)).trans KR.out)
    have LNr := Lib.hid (Nat.lt_of_lt_of_le LN.out BW.out.size)
    have BBr : Hid (Below w.heap.size w wr) := Lib.hid (BB.out.trans (BW.out.mono (by omega)))
    clear KP KR LP LR LN BB
    have KP := KPr
    have KR := KRr
    have LP := LPr
    have LR := LRr
    have LN := LNr
    have BB := BBr
    clear KPr KRr LPr LRr LNr BBr
    by_cases hlt : k < xs.length
    · obtain ⟨g, o, rfl, hgB, hAt⟩ := HL.out (by omega)
      obtain ⟨x, hx⟩ : ∃ x, x = xs[k] := ⟨_, rfl⟩
      have Hxk : Hid (xs[k] = x) := Lib.hid hx.symm
      have Hfx : Hid (FitRq x) := Lib.hid (by rw [hx]; exact HF.out _ (List.getElem_mem hlt))
      have hop := hAt.op k hlt
      rw [← hx] at hop
      have hgw : g < w.heap.size := Nat.lt_of_lt_of_le hgB hB
      rw [← BB.out.cell (p := ⟨g, o + k * 5, none⟩) hgw, ← BB.out.cell (p := ⟨g, o + k * 5 + 1, none⟩) hgw, ← BB.out.cell (p := ⟨g, o + k * 5 + 2, none⟩) hgw, ← BB.out.cell (p := ⟨g, o + k * 5 + 3, none⟩) hgw, ← BB.out.cell (p := ⟨g, o + k * 5 + 4, none⟩) hgw] at hop
      obtain ⟨q0, q1, q2, q3, q4⟩ := hop
      clear hAt hx hgw
      obtain ⟨sk, hsk⟩ : ∃ z, z = (apA s (xs.take k)).1 := ⟨_, rfl⟩
      obtain ⟨rk, hrk⟩ : ∃ z, z = (apA s (xs.take k)).2 := ⟨_, rfl⟩
      rw [← hsk, ← hrk] at STX
      have Hkeep : Hid (KeepS sk) := Lib.hid (by rw [hsk]; exact apA_keep _ HKE.out)
      have hnx := apA_take s xs k hlt
      rw [← hsk, ← hrk, Hxk.out] at hnx
      have HNX := Lib.hid hnx
      have hrl : rk.length = k := by rw [hrk, apA_len, List.length_take]; omega
      have HRL := Lib.hid hrl
      clear hnx hrl hsk hrk
      have hkl : (k : Int) < (xs.length : Int) := by omega
      obtain ⟨V, hV⟩ : ∃ V, V = wr.alloc (.cells #[.string x.c, .int .i64 x.q, .int .i64 x.n, .string x.k, .string x.v] 29) := ⟨_, rfl⟩
      have bV : Below wr.heap.size wr V := by rw [hV]; exact (Below.refl _ _).alloc (Nat.le_refl _) _
      have KO : Hid (V.heap[wr.heap.size]? = some (.cells #[.string x.c, .int .i64 x.q, .int .i64 x.n, .string x.k, .string x.v] 29 (0, 0))) := Lib.hid (by rw [hV]; exact heap_new _ _)
      have STV := Lib.hid (STX.out.later bV)
      have EV := Lib.hid (HE.out.on (BB.out.trans (bV.mono BB.out.size)))
      have LNV := Lib.hid (Nat.lt_of_lt_of_le LN.out bV.size)
      have NV : Hid (w.heap.size + 2 ≤ V.heap.size) := Lib.hid (by have := LNV.out; have := NB2.out; omega)
      obtain ⟨R, hR⟩ : ∃ R, R = ap sk x := ⟨_, rfl⟩
      have HR := Lib.hid hR
      clear hR
      have hc := impl_apply sk _ x V.heap.size V STV.out.own.st (Nat.le_refl _) Hkeep.out.few Hkeep.out.2 Hfx.out EV.out
      rw [← HR.out] at hc
      unfold rqA at hc
      have HC := Lib.hid hc
      have HV := Lib.hid hV
      clear hc hV
      have fN0 := tcr KN 0
      have fN1 := tcr KN 1
      have KNV := Lib.hid ((bV.block _ LN.out).trans KN.out)
      have v0 := tcr KNV 0
      have v1 := tcr KNV 1
      have o0 := tcr KO 0
      have o1 := tcr KO 1
      have o2 := tcr KO 2
      have o3 := tcr KO 3
      have o4 := tcr KO 4
      rw [HV.out] at v0 v1 o0 o1 o2 o3 o4
      have hln := LN.out
      go_wp2_with (go_at_call 9; rw [← HV.out]; refine HC.out.mono ?_; rintro e w2 ⟨v2, rfl, ho, hb2⟩; refine Hid.out ?_)
      refine Lib.hid ?_
      clear fN0 fN1
      clear v0 v1 o0 o1 o2 o3 o4 hln KNV KO
      have S2 := Lib.hid ho
      obtain ⟨b0, d0, e0, b1, d1, e1, rfl⟩ := ho.two'
      have ST2 := Lib.hid (STV.out.next hb2 ho LNV.out NV.out)
      have KN2 := Lib.hid ((hb2.block _ LNV.out).trans ((bV.block _ LN.out).trans KN.out))
      have LN2 := Lib.hid (Nat.lt_of_lt_of_le LNV.out hb2.size)
      have BW2 : Hid (Below (w.heap.size + 2) X2 w2) := Lib.hid ((BW.out.trans (bV.mono (by have := LN.out; have := NB2.out; omega))).trans (hb2.mono NV.out))
      clear ho hb2 bV KN LN BW STX STV HC HV q0 q1 q2 q3 q4 KP KR LP LR BB
      have KN := KN2
      clear KN2
      have gN : w2.grownBy ((w2.setCell ⟨nb, 0, none⟩ (.slice b0 d0 e0)).setCell ⟨nb, 1, none⟩ (.slice b1 d1 e1)) (some nb) := (grown_set _ ⟨nb, 0, none⟩ _).trans (grown_set _ ⟨nb, 1, none⟩ _)
      have ST3 := Lib.hid (ST2.out.set gN)
      have r0 := heap_setCell_same _ nb 0 _ _ (.slice b0 d0 e0) KN.out
      have r1 := heap_setCell_same _ nb 1 _ _ (.slice b1 d1 e1) r0
      simp only [List.setIfInBounds_toArray, List.set_cons_zero, List.set_cons_succ] at r1
      have R1 := Lib.hid r1
      have BW3 : Hid (Below (w.heap.size + 2) X2 ((w2.setCell ⟨nb, 0, none⟩ (.slice b0 d0 e0)).setCell ⟨nb, 1, none⟩ (.slice b1 d1 e1))) := Lib.hid (BW2.out.grown gN (by have := LN2.out; have := NB2.out; omega) (fun k hk => by cases hk; exact NB2.out))
      clear r0 r1 gN
      have hcz := texts_at ST2.out.2.2 (show k < (rk ++ List.replicate (xs.length - k) (⟨#[]⟩ : ByteArray)).length by have := HRL.out; simp; omega)
      obtain ⟨z0, hc0, hz0⟩ := hcz
      have hkr : k < xs.length := hlt
      have fN0 := tcr KN 0
      have fN1 := tcr KN 1
      have zN0 := tfr KN 0
      have zN1 := tfr KN 1
      go_wp2_with fail
      clear fN0 fN1
      clear zN0 zN1
      clear hc0 hz0
      have ST4 : StTx (((w2.setCell ⟨nb, 0, none⟩ (.slice b0 d0 e0)).setCell ⟨nb, 1, none⟩ (.slice b1 d1 e1)).setCell ⟨nb + 1, k, none⟩ (.string R.2.1)) (w.heap.size + 2) nb (.agg #[.slice b0 d0 e0, .slice b1 d1 e1]) R.1 (.slice (some ⟨nb + 1, 0, none⟩) xs.length xs.length) ((rk ++ List.replicate (xs.length - k) (⟨#[]⟩ : ByteArray)).set k R.2.1) := StTx.put ST3.out (by have := HRL.out; simp; omega) R.2.1
      have KN4 : Hid ((((w2.setCell ⟨nb, 0, none⟩ (.slice b0 d0 e0)).setCell ⟨nb, 1, none⟩ (.slice b1 d1 e1)).setCell ⟨nb + 1, k, none⟩ (.string R.2.1)).heap[nb]? = some (.cells #[.slice b0 d0 e0, .slice b1 d1 e1] 27 (0, 0))) := Lib.hid (by rw [heap_setCell_other _ ⟨nb + 1, k, none⟩ _ _ (by simp)]; exact R1.out)
      have BW4 : Hid (Below (w.heap.size + 2) X2 (((w2.setCell ⟨nb, 0, none⟩ (.slice b0 d0 e0)).setCell ⟨nb, 1, none⟩ (.slice b1 d1 e1)).setCell ⟨nb + 1, k, none⟩ (.string R.2.1))) := Lib.hid (BW3.out.setCell (p := ⟨nb + 1, k, none⟩) (by have := NB2.out; simp; omega) _)
      rw [set_reply rk xs.length k R.2.1 HRL.out hlt] at ST4
      have ST5 := Lib.hid ST4
      clear ST4
      go_roundw
      case rel => exact ⟨k + 1, by omega, by go_num, b0, d0, e0, b1, d1, e1, KN4, Lib.hid (by rw [HNX.out, ← HR.out]; exact ST5.out), BW4⟩
      case measure => simp [intOf]; omega
    · obtain rfl : k = xs.length := by omega
      rw [List.take_length, Nat.sub_self, List.replicate_zero, List.append_nil] at STX
      clear hlt hk
      have fR0 := tcr KR 0
      have fR1 := tcr KR 1
      have fN0 := tcr KN 0
      have fN1 := tcr KN 1
      have zR0 := tfr KR 0
      have zR1 := tfr KR 1
      go_wp2_with fail
      clear fR0 fR1 fN0 fN1
      clear zR0 zR1
      have f1 := heap_setCell_same _ (w.heap.size + 1) 0 _ _ (.slice a0 n0 c0) KR.out
      have f2 := heap_setCell_same _ (w.heap.size + 1) 1 _ _ (.slice a1 n1 c1) f1
      obtain ⟨j0, q1, q2, q3, q4⟩ := info_parts infoSt
      have g1 := (grown_set wr ⟨w.heap.size + 1, 0, none⟩ (.slice a0 n0 c0)).trans (grown_set _ ⟨w.heap.size + 1, 1, none⟩ (.slice a1 n1 c1))
      refine bodyPost_ret (results_cell_row2 (P := Tryd.prog) rfl _ _ (w.heap.size + 1) _ _ (0, 0) _ _ rfl rfl f2 Tryd.underlying27 rfl (by rw [q1]; simp [q3])) rfl ⟨.agg #[.slice a0 n0 c0, .slice a1 n1 c1], _, nb, rfl, ?_, ?_⟩
      · exact (STX.out.low g1 (by show w.heap.size + 1 < _; omega)).base (by omega)
      · exact (BB.out.setCell (p := ⟨w.heap.size + 1, 0, none⟩) (by simp) _).setCell (p := ⟨w.heap.size + 1, 1, none⟩) (by simp) _
end Go.Proofs.YtebmaplflpfjbaaDoor
