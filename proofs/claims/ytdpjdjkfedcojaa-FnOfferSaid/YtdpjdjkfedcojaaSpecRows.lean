/- What spec.l06Items and spec.l06Talks answer: the rows that stand at a place, and the place behind. Condition: a text of at most 2^40 bytes, a place in it. -/
import Derived.Test.YtdpjdjkfedcojaaFmtA
import Derived.Test.YtdpjdjkfedcojaaNumA
import Derived.Test.YtdpjdjkfedcojaaBaseA
import Derived.Maps.Ext
namespace Go.Proofs.Ytdpjdjkfedcojaa
open Go.RowKit
set_option linter.unusedVariables false
set_option linter.unusedSimpArgs false

theorem wpList_appX {P : Program} {w w' : World} {ops : Array Oper} {rest : List Oper} {o : Oper} {a : Act} {Q : Exit → Act → World → Prop} {sv xv v' : Value} (hg : o.guard = none) (s x : Operand) (t : TypeId) (hop : o.op = Op.call { callee := Callee.builtin Builtin.append, args := #[s, x], argTypes := #[t, t] })
    (run : (Builtin.append_ #[t, t] o.type #[sv, xv]).run P w = .ok v' w') (hs : a.eval s = sv) (hx : a.eval x = xv) (hK : wpList P ops Q rest (a.put o.dst v') w') : wpList P ops Q (o :: rest) a w := by
  refine wpList_plain hg fun K' hK' => ?_
  unfold Oper.wp
  simp [execOp, hop, resolve, invoke, builtin, hs, hx, run, Result.andThen]
  exact hK' _ _ hK

set_option maxRecDepth 100000 in
set_option maxHeartbeats 8000000 in
theorem spec_items (s : ByteArray) (p : Int) (w : World) (hs : s.size ≤ 1099511627776) (hp : 0 ≤ p ∧ p ≤ 1099511627776) :
    Calls Try.prog 87 #[.string s, .int .i64 p] w fun e w' => ∃ g n cap q, e = .returned (.tuple #[.slice (some ⟨g, 0, none⟩) n cap, .int .i64 q]) ∧ (itsAt s p = none → q = -1) ∧ (∀ xs q', itsAt s p = some (xs, q') → q = q' ∧ n = xs.length ∧ Got w' w.heap.size 77 2 g n cap (xs.flatMap itC)) ∧ Below w.heap.size w w' := by
  obtain ⟨m, hm⟩ : ∃ m, m = getN s p 2 := ⟨_, rfl⟩
  have Hm := Lib.hid hm
  have h0 := getN_lo s p 2
  have h1 := getN_hi s p 2
  rw [← hm] at h0 h1
  obtain ⟨W, hW⟩ : ∃ W, W = w.alloc (.cells #[] 77) := ⟨_, rfl⟩
  have bW : Below w.heap.size w W := by rw [hW]; exact (Below.refl _ _).alloc (Nat.le_refl _) _
  have sW : w.heap.size < W.heap.size := by rw [hW]; simp
  have G0 : Hid (Got W w.heap.size 77 2 w.heap.size 0 0 []) := Lib.hid ⟨rfl, Nat.le_refl _, Nat.zero_le _, Nat.le_refl _, sW, .inl ⟨rfl, rfl⟩⟩
  have BB := Lib.hid bW
  have hc := spec_getNum s p 2 (by omega) (by omega) W (by unfold maxLen; omega)
  rw [← hm, hW] at hc
  clear hm bW sW
  go_enter Try.func87, Try.ntmps87
  go_wp2_with (go_at_call 79; refine hc.mono ?_; rintro e w1 ⟨rfl, rfl⟩; refine Hid.out ?_)
  refine Lib.hid ?_
  rw [← hW]
  clear hc hW
  go_wp2_with fail
  go_loopw [1, 6, 8] (fun a o i wr => ∃ (k g cap : Nat) (xs : List It) (q : Int), i = .int .i64 k ∧ o = .slice (some ⟨g, 0, none⟩) k cap ∧ a = .int .i64 q ∧ k ≤ 41 ∧ (k = 0 ∨ (k : Int) ≤ m) ∧ (0 ≤ q ∧ q ≤ 1099511627778) ∧ Hid (rdIts s k (p + 2) = some (xs, q)) ∧ Hid (Got wr w.heap.size 77 2 g k cap (xs.flatMap itC)) ∧ Hid (Below w.heap.size w wr)) (fun _ _ i _ => 41 - (intOf i).toNat)
  case atStart => exact ⟨0, w.heap.size, 0, [], p + 2, rfl, rfl, by first | rfl | go_num, by omega, .inl rfl, by omega, Lib.hid rfl, G0, BB⟩
  case round =>
    clear G0 BB
    obtain ⟨k, g, cap, xs, q, rfl, rfl, rfl, hk41, hkm, hq, HR, GG, BB⟩ := hrel
    by_cases hlt : (k : Int) < m
    · by_cases h40 : k ≤ 40
      · have h40' : (k : Int) ≤ 40 := by omega
        have hfail : rdIts s (k + 1) (p + 2) = none → itsAt s p = none := by
          intro hn
          unfold itsAt
          rw [← Hm.out]
          split
          · rename_i hmm
            have h := rdIts_none (m.toNat - (k + 1)) hn
            rw [show k + 1 + (m.toNat - (k + 1)) = m.toNat by omega] at h
            exact h
          · rfl
        obtain ⟨key, hkey⟩ : ∃ b, b = (getTextB s q).1 := ⟨_, rfl⟩
        obtain ⟨nx, hnx⟩ : ∃ b, b = (getTextB s q).2 := ⟨_, rfl⟩
        obtain ⟨val, hval⟩ : ∃ b, b = (getTextB s nx).1 := ⟨_, rfl⟩
        obtain ⟨en, hen⟩ : ∃ b, b = (getTextB s nx).2 := ⟨_, rfl⟩
        have t1 := text_end s q
        have t2 := text_end s nx
        rw [← hnx] at t1
        rw [← hen] at t2
        have hc1 := spec_getText s q (by omega) wr hs
        have hc2 := spec_getText s nx (by omega) wr hs
        rw [← hkey, ← hnx] at hc1
        rw [← hval, ← hen] at hc2
        have Hkey := Lib.hid hkey
        have Hnx := Lib.hid hnx
        have Hval : Hid (val = (getTextB s (getTextB s q).2).1) := Lib.hid (by rw [hval, hnx])
        have Hen : Hid (en = (getTextB s (getTextB s q).2).2) := Lib.hid (by rw [hen, hnx])
        clear hkey hnx hval hen
        go_wp2_with (go_at_call 78; refine hc1.mono ?_; rintro e wy ⟨rfl, rfl⟩; refine Hid.out ?_)
        refine Lib.hid ?_
        clear hc1
        go_wp2_with (go_at_call 78; refine hc2.mono ?_; rintro e wy ⟨rfl, rfl⟩; refine Hid.out ?_)
        refine Lib.hid ?_
        clear hc2
        by_cases hnx : nx < 0
        · have HF : Hid (itsAt s p = none) := Lib.hid (hfail (by rw [rdIts_snoc HR.out, if_pos (.inl (by rw [← Hnx.out]; exact hnx))]))
          clear hfail HR GG Hm Hkey Hnx Hval Hen
          go_wp2_with (fail)
          go_ret2
          exact ⟨g, k, cap, -1, rfl, fun _ => rfl, (fun xs q' h => by rw [HF.out] at h; cases h), BB.out⟩
        · by_cases hen : en < 0
          · have HF : Hid (itsAt s p = none) := Lib.hid (hfail (by rw [rdIts_snoc HR.out, if_pos (.inr (by rw [← Hen.out]; exact hen))]))
            clear hfail HR GG Hm Hkey Hnx Hval Hen
            go_wp2_with (fail)
            go_ret2
            exact ⟨g, k, cap, -1, rfl, fun _ => rfl, (fun xs q' h => by rw [HF.out] at h; cases h), BB.out⟩
          · have HR2 : Hid (rdIts s (k + 1) (p + 2) = some (xs ++ [(⟨key, val⟩ : It)], en)) := Lib.hid (by
              have h := rdIts_snoc HR.out
              rw [← Hval.out, ← Hen.out, ← Hkey.out, ← Hnx.out] at h
              rw [h, if_neg (by omega)])
            obtain ⟨A, hA⟩ : ∃ A, A = wr.alloc (.cells #[.string key, .string val] 77) := ⟨_, rfl⟩
            have bA : Below wr.heap.size wr A := by rw [hA]; exact (Below.refl _ _).alloc (Nat.le_refl _) _
            have sA : wr.heap.size < A.heap.size := by rw [hA]; simp
            have rX : Raw A A.heap.size (.slice (some ⟨wr.heap.size, 0, none⟩) 1 1) 1 [.string key, .string val] := ⟨_, 1, rfl, Nat.le_refl _, by decide, (fun h => by cases h), fun _ => ⟨wr.heap.size, 0, rfl, sA, fun j u hu => by
              rw [hA, World.cell?_alloc_new]
              simpa using hu⟩⟩
            obtain ⟨i0, p1, p2, p3, p4⟩ := info_parts infoIt
            obtain ⟨g', cap', w3, hrun, hg3, hloc, got3⟩ := run_app (P := Try.prog) A 32 32 77 i0 _ 2 32 Try.underlying32 p1 p2 p3 p4 rfl (by decide) g k cap w.heap.size _ (GG.out.later bA) _ _ 1 _ rX rfl (by intro u hu; simp at hu; rcases hu with rfl | rfl <;> rfl) (by unfold maxLen; omega) (by omega)
            have G3 : Hid (Got w3 w.heap.size 77 2 g' (k + 1) cap' ((xs ++ [(⟨key, val⟩ : It)]).flatMap itC)) := Lib.hid (by rw [List.flatMap_append]; exact got3)
            have B3 : Hid (Below w.heap.size w w3) := Lib.hid (by
              have hgb := GG.out.2.2.2.1
              have hbs := (BB.out.trans (bA.mono BB.out.size)).size
              exact (BB.out.trans (bA.mono BB.out.size)).grown hg3 hbs (fun j e => by cases e; exact hgb))
            rw [hA] at hrun
            clear hA bA sA rX p1 p2 p3 p4 hg3 hloc got3 GG BB HR Hm hfail Hkey Hnx Hval Hen
            go_wp2_with (at_builtin; refine wpList_appX rfl _ _ _ rfl hrun rfl rfl ?_)
            go_roundw
            case rel => exact ⟨k + 1, g', cap', _, en, by go_num, rfl, rfl, by omega, .inr (by omega), by omega, HR2, G3, B3⟩
            case measure => simp [intOf]; omega
      · have h40' : ¬ (k : Int) ≤ 40 := by omega
        have hne : ((k : Int) != m) = true := by rw [bne_iff_ne]; omega
        have hm0 : decide (m < 0) = false := by simp; omega
        have HF : Hid (itsAt s p = none) := Lib.hid (by unfold itsAt; rw [← Hm.out, if_neg (by omega)])
        clear HR GG Hm
        go_wp2_with fail
        go_ret2
        exact ⟨g, k, cap, -1, rfl, fun _ => rfl, (fun xs q' h => by rw [HF.out] at h; cases h), BB.out⟩
    · by_cases hm0 : m < 0
      · have HF : Hid (itsAt s p = none) := Lib.hid (by unfold itsAt; rw [← Hm.out, if_neg (by omega)])
        clear HR GG Hm
        go_wp2_with fail
        go_ret2
        exact ⟨g, k, cap, -1, rfl, fun _ => rfl, (fun xs q' h => by rw [HF.out] at h; cases h), BB.out⟩
      · have hkm' : (k : Int) = m := by omega
        have HE : Hid (itsAt s p = some (xs, q)) := Lib.hid (by unfold itsAt; rw [← Hm.out, if_pos (by omega), ← hkm', Int.toNat_natCast]; exact HR.out)
        have Hkl : Hid (xs.length = k) := Lib.hid (rdIts_len HR.out).1
        have hne : ((k : Int) != m) = false := by rw [bne_eq_false_iff_eq]; exact hkm'
        clear HR Hm hkm'
        go_wp2_with fail
        go_ret2
        refine ⟨g, k, cap, q, rfl, (fun h => by rw [HE.out] at h; cases h), fun ys q' h => ?_, BB.out⟩
        rw [HE.out] at h
        obtain ⟨rfl, rfl⟩ := Prod.mk.inj (Option.some.inj h)
        exact ⟨rfl, Hkl.out.symm, GG.out⟩

set_option maxRecDepth 100000 in
set_option maxHeartbeats 8000000 in
theorem spec_talks (s : ByteArray) (p : Int) (w : World) (hs : s.size ≤ 1099511627776) (hp : 0 ≤ p ∧ p ≤ 1099511627776) :
    Calls Try.prog 88 #[.string s, .int .i64 p] w fun e w' => ∃ g n cap q, e = .returned (.tuple #[.slice (some ⟨g, 0, none⟩) n cap, .int .i64 q]) ∧ (tksAt s p = none → q = -1) ∧ (∀ xs q', tksAt s p = some (xs, q') → q = q' ∧ n = xs.length ∧ Got w' w.heap.size 79 3 g n cap (xs.flatMap tkC)) ∧ Below w.heap.size w w' := by
  obtain ⟨m, hm⟩ : ∃ m, m = getN s p 2 := ⟨_, rfl⟩
  have Hm := Lib.hid hm
  have h0 := getN_lo s p 2
  have h1 := getN_hi s p 2
  rw [← hm] at h0 h1
  obtain ⟨W, hW⟩ : ∃ W, W = w.alloc (.cells #[] 79) := ⟨_, rfl⟩
  have bW : Below w.heap.size w W := by rw [hW]; exact (Below.refl _ _).alloc (Nat.le_refl _) _
  have sW : w.heap.size < W.heap.size := by rw [hW]; simp
  have G0 : Hid (Got W w.heap.size 79 3 w.heap.size 0 0 []) := Lib.hid ⟨rfl, Nat.le_refl _, Nat.zero_le _, Nat.le_refl _, sW, .inl ⟨rfl, rfl⟩⟩
  have BB := Lib.hid bW
  have hc := spec_getNum s p 2 (by omega) (by omega) W (by unfold maxLen; omega)
  rw [← hm, hW] at hc
  clear hm bW sW
  go_enter Try.func88, Try.ntmps88
  go_wp2_with (go_at_call 79; refine hc.mono ?_; rintro e w1 ⟨rfl, rfl⟩; refine Hid.out ?_)
  refine Lib.hid ?_
  rw [← hW]
  clear hc hW
  go_wp2_with fail
  go_loopw [1, 6, 8] (fun a o i wr => ∃ (k g cap : Nat) (xs : List Tk) (q : Int), i = .int .i64 k ∧ o = .slice (some ⟨g, 0, none⟩) k cap ∧ a = .int .i64 q ∧ k ≤ 21 ∧ (k = 0 ∨ (k : Int) ≤ m) ∧ (0 ≤ q ∧ q ≤ 1099511627778) ∧ Hid (rdTks s k (p + 2) = some (xs, q)) ∧ Hid (Got wr w.heap.size 79 3 g k cap (xs.flatMap tkC)) ∧ Hid (Below w.heap.size w wr)) (fun _ _ i _ => 21 - (intOf i).toNat)
  case atStart => exact ⟨0, w.heap.size, 0, [], p + 2, rfl, rfl, by first | rfl | go_num, by omega, .inl rfl, by omega, Lib.hid rfl, G0, BB⟩
  case round =>
    clear G0 BB
    obtain ⟨k, g, cap, xs, q, rfl, rfl, rfl, hk41, hkm, hq, HR, GG, BB⟩ := hrel
    by_cases hlt : (k : Int) < m
    · by_cases h40 : k ≤ 20
      · have h40' : (k : Int) ≤ 20 := by omega
        have hfail : rdTks s (k + 1) (p + 2) = none → tksAt s p = none := by
          intro hn
          unfold tksAt
          rw [← Hm.out]
          split
          · rename_i hmm
            have h := rdTks_none (m.toNat - (k + 1)) hn
            rw [show k + 1 + (m.toNat - (k + 1)) = m.toNat by omega] at h
            exact h
          · rfl
        obtain ⟨key, hkey⟩ : ∃ b, b = (getTextB s q).1 := ⟨_, rfl⟩
        obtain ⟨nx, hnx⟩ : ∃ b, b = (getTextB s q).2 := ⟨_, rfl⟩
        obtain ⟨sq, hsq⟩ : ∃ b, b = getN s nx 4 := ⟨_, rfl⟩
        obtain ⟨val, hval⟩ : ∃ b, b = (getTextB s (nx + 4)).1 := ⟨_, rfl⟩
        obtain ⟨en, hen⟩ : ∃ b, b = (getTextB s (nx + 4)).2 := ⟨_, rfl⟩
        have t1 := text_end s q
        have t2 := text_end s (nx + 4)
        have t3 := getN_lo s nx 4
        have t4 := getN_hi s nx 4
        rw [← hnx] at t1
        rw [← hen] at t2
        rw [← hsq] at t3 t4
        have hc1 := spec_getText s q (by omega) wr hs
        have hc2 := spec_getText s (nx + 4) (by omega) wr hs
        have hc3 := spec_getNum s nx 4 (by omega) (by omega) wr (by unfold maxLen; omega)
        rw [← hkey, ← hnx] at hc1
        rw [← hval, ← hen] at hc2
        rw [← hsq] at hc3
        have Hkey := Lib.hid hkey
        have Hnx := Lib.hid hnx
        have Hsq : Hid (sq = getN s (getTextB s q).2 4) := Lib.hid (by rw [hsq, hnx])
        have Hval : Hid (val = (getTextB s ((getTextB s q).2 + 4)).1) := Lib.hid (by rw [hval, hnx])
        have Hen : Hid (en = (getTextB s ((getTextB s q).2 + 4)).2) := Lib.hid (by rw [hen, hnx])
        clear hkey hnx hsq hval hen
        go_wp2_with (go_at_call 78; refine hc1.mono ?_; rintro e wy ⟨rfl, rfl⟩; refine Hid.out ?_)
        refine Lib.hid ?_
        clear hc1
        go_wp2_with (go_at_call 79; refine hc3.mono ?_; rintro e wy ⟨rfl, rfl⟩; refine Hid.out ?_)
        refine Lib.hid ?_
        clear hc3
        by_cases hnx : nx < 0
        · have HF : Hid (tksAt s p = none) := Lib.hid (hfail (by rw [rdTks_snoc HR.out, if_pos (.inl (by rw [← Hnx.out]; exact hnx))]))
          clear hfail HR GG Hm Hkey Hnx Hval Hen Hsq
          go_wp2_with (fail)
          go_ret2
          exact ⟨g, k, cap, -1, rfl, fun _ => rfl, (fun xs q' h => by rw [HF.out] at h; cases h), BB.out⟩
        · by_cases hsn : sq < 0
          · have HF : Hid (tksAt s p = none) := Lib.hid (hfail (by rw [rdTks_snoc HR.out, if_pos (.inr (.inl (by rw [← Hsq.out]; exact hsn)))]))
            clear hfail HR GG Hm Hkey Hnx Hval Hen Hsq
            go_wp2_with (fail)
            go_ret2
            exact ⟨g, k, cap, -1, rfl, fun _ => rfl, (fun xs q' h => by rw [HF.out] at h; cases h), BB.out⟩
          · go_wp2_with (go_at_call 78; refine hc2.mono ?_; rintro e wy ⟨rfl, rfl⟩; refine Hid.out ?_)
            refine Lib.hid ?_
            clear hc2
            by_cases hen : en < 0
            · have HF : Hid (tksAt s p = none) := Lib.hid (hfail (by rw [rdTks_snoc HR.out, if_pos (.inr (.inr (by rw [← Hen.out]; exact hen)))]))
              clear hfail HR GG Hm Hkey Hnx Hval Hen Hsq
              go_wp2_with (fail)
              go_ret2
              exact ⟨g, k, cap, -1, rfl, fun _ => rfl, (fun xs q' h => by rw [HF.out] at h; cases h), BB.out⟩
            · have HR2 : Hid (rdTks s (k + 1) (p + 2) = some (xs ++ [(⟨key, sq, val⟩ : Tk)], en)) := Lib.hid (by
                have h := rdTks_snoc HR.out
                rw [← Hsq.out, ← Hval.out, ← Hen.out, ← Hkey.out, ← Hnx.out] at h
                rw [h, if_neg (by omega)])
              obtain ⟨A, hA⟩ : ∃ A, A = wr.alloc (.cells #[.string key, .int .i64 sq, .string val] 79) := ⟨_, rfl⟩
              have bA : Below wr.heap.size wr A := by rw [hA]; exact (Below.refl _ _).alloc (Nat.le_refl _) _
              have sA : wr.heap.size < A.heap.size := by rw [hA]; simp
              have rX : Raw A A.heap.size (.slice (some ⟨wr.heap.size, 0, none⟩) 1 1) 1 [.string key, .int .i64 sq, .string val] := ⟨_, 1, rfl, Nat.le_refl _, by decide, (fun h => by cases h), fun _ => ⟨wr.heap.size, 0, rfl, sA, fun j u hu => by
                rw [hA, World.cell?_alloc_new]
                simpa using hu⟩⟩
              obtain ⟨i0, p1, p2, p3, p4⟩ := info_parts infoTk
              obtain ⟨g', cap', w3, hrun, hg3, hloc, got3⟩ := run_app (P := Try.prog) A 33 33 79 i0 _ 3 40 Try.underlying33 p1 p2 p3 p4 rfl (by decide) g k cap w.heap.size _ (GG.out.later bA) _ _ 1 _ rX rfl (by intro u hu; simp at hu; rcases hu with rfl | rfl | rfl <;> rfl) (by unfold maxLen; omega) (by omega)
              have G3 : Hid (Got w3 w.heap.size 79 3 g' (k + 1) cap' ((xs ++ [(⟨key, sq, val⟩ : Tk)]).flatMap tkC)) := Lib.hid (by rw [List.flatMap_append]; exact got3)
              have B3 : Hid (Below w.heap.size w w3) := Lib.hid (by
                have hgb := GG.out.2.2.2.1
                have hbs := (BB.out.trans (bA.mono BB.out.size)).size
                exact (BB.out.trans (bA.mono BB.out.size)).grown hg3 hbs (fun j e => by cases e; exact hgb))
              rw [hA] at hrun
              clear hA bA sA rX p1 p2 p3 p4 hg3 hloc got3 GG BB HR Hm hfail Hkey Hnx Hval Hen Hsq
              go_wp2_with (at_builtin; refine wpList_appX rfl _ _ _ rfl hrun rfl rfl ?_)
              go_roundw
              case rel => exact ⟨k + 1, g', cap', _, en, by go_num, rfl, rfl, by omega, .inr (by omega), by omega, HR2, G3, B3⟩
              case measure => simp [intOf]; omega
      · have h40' : ¬ (k : Int) ≤ 20 := by omega
        have hne : ((k : Int) != m) = true := by rw [bne_iff_ne]; omega
        have hm0 : decide (m < 0) = false := by simp; omega
        have HF : Hid (tksAt s p = none) := Lib.hid (by unfold tksAt; rw [← Hm.out, if_neg (by omega)])
        clear HR GG Hm
        go_wp2_with fail
        go_ret2
        exact ⟨g, k, cap, -1, rfl, fun _ => rfl, (fun xs q' h => by rw [HF.out] at h; cases h), BB.out⟩
    · by_cases hm0 : m < 0
      · have HF : Hid (tksAt s p = none) := Lib.hid (by unfold tksAt; rw [← Hm.out, if_neg (by omega)])
        clear HR GG Hm
        go_wp2_with fail
        go_ret2
        exact ⟨g, k, cap, -1, rfl, fun _ => rfl, (fun xs q' h => by rw [HF.out] at h; cases h), BB.out⟩
      · have hkm' : (k : Int) = m := by omega
        have HE : Hid (tksAt s p = some (xs, q)) := Lib.hid (by unfold tksAt; rw [← Hm.out, if_pos (by omega), ← hkm', Int.toNat_natCast]; exact HR.out)
        have Hkl : Hid (xs.length = k) := Lib.hid (rdTks_len HR.out).1
        have hne : ((k : Int) != m) = false := by rw [bne_eq_false_iff_eq]; exact hkm'
        clear HR Hm hkm'
        go_wp2_with fail
        go_ret2
        refine ⟨g, k, cap, q, rfl, (fun h => by rw [HE.out] at h; cases h), fun ys q' h => ?_, BB.out⟩
        rw [HE.out] at h
        obtain ⟨rfl, rfl⟩ := Prod.mk.inj (Option.some.inj h)
        exact ⟨rfl, Hkl.out.symm, GG.out⟩
end Go.Proofs.Ytdpjdjkfedcojaa
