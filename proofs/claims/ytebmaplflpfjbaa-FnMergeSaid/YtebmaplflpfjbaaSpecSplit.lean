/- What spec.Split answers: the parts of a right state, in rows of the call's own; else none. Condition: what the arguments may be. -/
import Derived.Test.YtebmaplflpfjbaaSplitData
import Derived.Test.YtebmaplflpfjbaaMapSort
import Derived.Test.YtebmaplflpfjbaaApplyPlain
import Derived.Test.YtebmaplflpfjbaaStateOk
import Derived.Test.YtebmaplflpfjbaaPartOf
import Derived.Test.YtebmaplflpfjbaaBaseA
namespace Go.Proofs.Ytebmaplflpfjbaa
open Go.RowKit
set_option linter.unusedVariables false
set_option linter.unusedSimpArgs false

/-- A row of states of the call's own, perhaps without any. -/
def GotL (w : World) (base g cap : Nat) (qs : List Sq) : Prop := Got w base 31 2 g qs.length cap (qs.flatMap sqC) ∧ (∀ q ∈ qs, SqOwn w base q) ∧ (sqB qs).Nodup ∧ g ∉ sqB qs
def filS (s : St) (N : Nat) (k j : Nat) : List It := (s.items.take j).filter (fun x => decide (partN x.k N = (k : Int)))
theorem filS_all (s : St) (N k : Nat) : (⟨filS s N k s.items.length, s.talks⟩ : St) = partS s N k := by unfold filS partS; rw [List.take_length]
theorem filS_yes {s : St} {N k j : Nat} (h : j < s.items.length) (e : partN s.items[j].k N = k) : filS s N k (j + 1) = filS s N k j ++ [s.items[j]] := by
  unfold filS
  rw [List.take_succ_eq_append_getElem h, List.filter_append]
  simp [e]
theorem filS_no {s : St} {N k j : Nat} (h : j < s.items.length) (e : ¬ partN s.items[j].k N = k) : filS s N k (j + 1) = filS s N k j := by
  unfold filS
  rw [List.take_succ_eq_append_getElem h, List.filter_append]
  simp [e]
theorem filS_len (s : St) (N k j : Nat) : (filS s N k j).length ≤ s.items.length := by
  unfold filS
  exact Nat.le_trans (List.length_filter_le _ _) (by rw [List.length_take]; omega)
set_option maxRecDepth 100000 in
set_option maxHeartbeats 8000000 in
theorem spec_split (s : St) (v : Value) (n : Int) (B : Nat) (w : World) (hs : StV w B v s) (hB : B ≤ w.heap.size) (hfit : Fits s) (hn64 : -9223372036854775808 ≤ n ∧ n ≤ 9223372036854775807) :
    Calls Try.prog 19 #[v, .int .i64 n] w fun e w' => ∃ g cap qs, e = .returned (.slice (some ⟨g, 0, none⟩) qs.length cap) ∧ GotL w' (w.heap.size + 1) g cap qs ∧ qs.map Sq.s = splitS s n ∧ Below w.heap.size w w' := by
  obtain ⟨vi, vt, rfl, hri, hrt⟩ := hs.rd
  obtain ⟨W, hW⟩ : ∃ W, W = (w.alloc (.cells #[vi, vt] 31)).alloc (.cells #[] 31) := ⟨_, rfl⟩
  have bW : Below w.heap.size w W := by rw [hW]; exact ((Below.refl _ _).alloc (Nat.le_refl _) _).alloc (by simp) _
  have sW : W.heap.size = w.heap.size + 2 := by rw [hW]; simp
  have KS : Hid (W.heap[w.heap.size]? = some (.cells #[vi, vt] 31 (0, 0))) := Lib.hid (by
    rw [hW, Below.heap_alloc _ _ _ (by simp)]; exact heap_new _ _)
  have LS : Hid (w.heap.size < W.heap.size) := Lib.hid (by omega)
  have LO : Hid (w.heap.size + 1 < W.heap.size) := Lib.hid (by omega)
  have hc0 := spec_stateOk s _ B W (hs.later (bW.mono hB) (Nat.le_refl _)) (Nat.le_trans hB bW.size) hfit
  have f0 := tcr KS 0
  have f1 := tcr KS 1
  have HRI := Lib.hid hri
  have HRT := Lib.hid hrt
  rw [hW] at hc0 f0 f1
  have BB := Lib.hid bW
  clear hs hri hrt bW sW
  cases hok : stOk s
  · have hres := Lib.hid (splitS_bad (s := s) (n := n) (.inl hok))
    rw [hok] at hc0
    clear hok
    go_enter Try.func19, Try.ntmps19
    go_wp2_with (go_at_call 20; refine hc0.mono ?_; rintro e w1 ⟨rfl, hb1⟩; refine Hid.out ?_)
    refine Lib.hid ?_
    rw [← hW] at hb1
    clear hc0
    go_wp2
    go_ret
    refine ⟨w.heap.size + 1, 0, [], rfl, ⟨⟨rfl, Nat.le_refl _, Nat.zero_le _, Nat.le_refl _, Nat.lt_of_lt_of_le LO.out hb1.size, .inl ⟨rfl, rfl⟩⟩, fun q hq => by simp at hq, List.nodup_nil, by simp [sqB]⟩, by rw [hres.out]; rfl, BB.out.trans (hb1.mono BB.out.size)⟩
  · rw [hok] at hc0
    have Hok := Lib.hid hok
    clear hok
    cases hin : inB n 1 8
    · have hres := Lib.hid (splitS_bad (s := s) (n := n) (.inr hin))
      have Hin := Lib.hid hin
      clear hin
      go_enter Try.func19, Try.ntmps19
      go_wp2_with (first | (go_at_call 20; refine hc0.mono ?_; rintro e w1 ⟨rfl, hb1⟩; refine Hid.out ?_))
      refine Lib.hid ?_
      rw [← hW] at hb1
      clear hc0
      go_wp2_with (go_at_call 45; refine (in_any _ _ _ _).mono ?_; rintro e w' ⟨rfl, rfl⟩; rw [Hin.out])
      go_ret
      refine ⟨w.heap.size + 1, 0, [], rfl, ⟨⟨rfl, Nat.le_refl _, Nat.zero_le _, Nat.le_refl _, Nat.lt_of_lt_of_le LO.out hb1.size, .inl ⟨rfl, rfl⟩⟩, fun q hq => by simp at hq, List.nodup_nil, by simp [sqB]⟩, by rw [hres.out]; rfl, BB.out.trans (hb1.mono BB.out.size)⟩
    · have hres := Lib.hid (splitS_ok Hok.out hin)
      have Hin := Lib.hid hin
      obtain ⟨N, rfl⟩ : ∃ N : Nat, n = N := Int.eq_ofNat_of_zero_le (by simp [inB] at hin; omega)
      have hN : 1 ≤ N ∧ N ≤ 8 := by simp [inB] at hin; omega
      clear hin
      have hfk := Lib.hid (fun x hx => (hfit.1 x hx).1 : ∀ x ∈ s.items, x.k.size ≤ maxLen)
      have Hsm := Lib.hid (ok_small Hok.out)
      go_enter Try.func19, Try.ntmps19
      go_wp2_with (first | (go_at_call 20; refine hc0.mono ?_; rintro e w1 ⟨rfl, hb1⟩; refine Hid.out ?_))
      refine Lib.hid ?_
      rw [← hW] at hb1
      replace KS := tkb hb1 LS KS
      replace LS := tlz LS hb1.size
      replace LO := tlz LO hb1.size
      replace BB := tbt BB hb1
      clear hc0 hW hb1 f0 f1
      obtain ⟨a0, c0, rfl, hn0, hc0, hz0, hat0⟩ := id HRI.out
      obtain ⟨m, hm⟩ : ∃ m, m = s.items.length := ⟨_, rfl⟩
      obtain ⟨mt, hmt⟩ : ∃ mt, mt = s.talks.length := ⟨_, rfl⟩
      have hm64 : m ≤ 64 ∧ mt ≤ 64 := by have h1 := Hsm.out.1; have h2 := Hsm.out.2.2.1; omega
      rw [← hm] at hn0 hat0 KS
      have Hm := Lib.hid hm
      have Hmt := Lib.hid hmt
      have Hat0 := Lib.hid hat0
      have G0 : Hid (GotL w1 (w.heap.size + 1) (w.heap.size + 1) 0 []) := Lib.hid ⟨⟨rfl, Nat.le_refl _, Nat.zero_le _, Nat.le_refl _, LO.out, .inl ⟨rfl, rfl⟩⟩, fun q hq => by simp at hq, List.nodup_nil, by simp [sqB]⟩
      unfold maxLen at hc0
      clear hat0 hm hmt LO
      go_wp2_with (go_at_call 45; refine (in_any _ _ _ _).mono ?_; rintro e w' ⟨rfl, rfl⟩; rw [Hin.out]; refine Hid.out ?_)
      refine Lib.hid ?_
      go_wp2_with fail
      go_loopw [5, 6] (fun o i wr => ∃ (k g cap : Nat) (rs : List Sq), k ≤ N ∧ i = .int .i64 k ∧ o = .slice (some ⟨g, 0, none⟩) k cap ∧ Hid (GotL wr (w.heap.size + 1) g cap rs) ∧ Hid (rs.length = k ∧ rs.map Sq.s = ((List.range N).map (partS s N)).take k) ∧ Hid (wr.heap[w.heap.size]? = some (.cells #[.slice a0 m c0, vt] 31 (0, 0))) ∧ Hid (w.heap.size < wr.heap.size) ∧ Hid (Below w.heap.size w wr)) (fun _ i _ => N - (intOf i).toNat)
      case atStart => exact ⟨0, w.heap.size + 1, 0, [], Nat.zero_le _, rfl, rfl, G0, Lib.hid ⟨rfl, by simp⟩, KS, LS, BB⟩
      case round =>
        clear KS BB LS G0
        obtain ⟨k, g, cap, rs, hk, rfl, rfl, GG, Hrs, KS, LS, BB⟩ := hrel
        by_cases hlt : k < N
        · have hlt' : (k : Int) < (N : Int) := by omega
          obtain ⟨A1, hA1⟩ : ∃ A, A = wr.alloc (.cells #[] 74) := ⟨_, rfl⟩
          obtain ⟨A2, hA2⟩ : ∃ A, A = A1.alloc (.cells #[] 45) := ⟨_, rfl⟩
          have b1 : Below wr.heap.size wr A1 := by rw [hA1]; exact (Below.refl _ _).alloc (Nat.le_refl _) _
          have b2 : Below A1.heap.size A1 A2 := by rw [hA2]; exact (Below.refl _ _).alloc (Nat.le_refl _) _
          have s1 : A1.heap.size = wr.heap.size + 1 := by rw [hA1]; simp
          have s2 : A2.heap.size = wr.heap.size + 2 := by rw [hA2]; simp [s1]
          have b12 : Below wr.heap.size wr A2 := b1.trans (b2.mono b1.size)
          obtain ⟨j0, q1, q2, q3, q4⟩ := info_parts infoTk
          obtain ⟨tv, A3, hrun, hb3, gt, ct, rfl, hgt, gotT⟩ := run_app0 (P := Try.prog) A2 29 29 45 j0 _ 3 40 Try.underlying29 q1 q2 q3 q4 rfl (by decide) (wr.heap.size + 1) (wr.heap.size + 1) (Nat.le_refl _) (by omega) vt B s.talks.length (s.talks.flatMap tkC) (HRT.out.later ((BB.out.trans (b12.mono BB.out.size)).mono hB) (Nat.le_refl _)) (flat_len_tk s.talks) (one_tk s.talks) (by have := Hmt.out; unfold maxLen; omega) (by have := Hmt.out; omega)
          rw [← Hmt.out] at hrun gotT
          have f1 := tcr KS 1
          have b13 : Below wr.heap.size wr A3 := b12.trans (hb3.mono b12.size)
          have F1 := tcr (tkb b12 LS KS) 1
          have hz3 : wr.heap.size + 2 ≤ A3.heap.size := by have := hb3.size; omega
          obtain ⟨A4, hA4⟩ : ∃ A, A = A3.alloc (.cells #[.slice (some ⟨wr.heap.size, 0, none⟩) 0 0, .slice (some ⟨gt, 0, none⟩) mt ct] 31) := ⟨_, rfl⟩
          have b4 : Below A3.heap.size A3 A4 := by rw [hA4]; exact (Below.refl _ _).alloc (Nat.le_refl _) _
          have b14 : Hid (Below wr.heap.size wr A4) := Lib.hid (b13.trans (b4.mono b13.size))
          have s4 : A4.heap.size = A3.heap.size + 1 := by rw [hA4]; simp
          have KX : Hid (A4.heap[A3.heap.size]? = some (.cells #[.slice (some ⟨wr.heap.size, 0, none⟩) (filS s N k 0).length 0, .slice (some ⟨gt, 0, none⟩) mt ct] 31 (0, 0))) := Lib.hid (by rw [hA4]; exact heap_new _ _)
          have GT : Hid (Got A4 wr.heap.size 45 3 gt mt ct (s.talks.flatMap tkC)) := Lib.hid ((gotT.later b4).base (by omega))
          have GI : Hid (Got A4 wr.heap.size 74 2 wr.heap.size (filS s N k 0).length 0 ((filS s N k 0).flatMap itC)) := Lib.hid ⟨rfl, Nat.le_refl _, Nat.zero_le _, Nat.le_refl _, by omega, .inl ⟨rfl, rfl⟩⟩
          have hgne : Hid (wr.heap.size ≠ gt ∧ wr.heap.size ≠ A3.heap.size) := Lib.hid ⟨by rcases hgt with e | e <;> omega, by omega⟩
          have hgtX := gotT.2.2.2.2.1
          obtain ⟨X, hX⟩ : ∃ X, X = A3.heap.size := ⟨_, rfl⟩
          have LX : Hid (X < A4.heap.size ∧ wr.heap.size ≤ X ∧ gt ≠ X) := Lib.hid ⟨by omega, by omega, by omega⟩
          rw [← hX] at KX hgne
          rw [hA2, hA1] at hrun F1
          clear b1 b2 b12 b13 hb3 b4 s1 s2 s4 gotT hgt q1 q2 q3 q4 hgtX f1 hz3
          go_wp2_with (at_builtin; refine wpList_appE rfl _ _ _ rfl hrun rfl rfl ?_)
          rw [← hA4, ← hX]
          obtain ⟨wz, hwz⟩ : ∃ z, z = wr := ⟨_, rfl⟩
          subst hwz
          clear hA4 hX hA1 hA2 hrun F1
          go_loopw [8] (fun i wr => ∃ (j gi ci : Nat), j ≤ m ∧ i = .int .i64 j ∧ Hid (wr.heap[X]? = some (.cells #[.slice (some ⟨gi, 0, none⟩) (filS s N k j).length ci, .slice (some ⟨gt, 0, none⟩) mt ct] 31 (0, 0))) ∧ Hid (Got wr wz.heap.size 74 2 gi (filS s N k j).length ci ((filS s N k j).flatMap itC)) ∧ Hid (Got wr wz.heap.size 45 3 gt mt ct (s.talks.flatMap tkC)) ∧ Hid (gi ≠ gt ∧ gi ≠ X) ∧ Hid (Below wz.heap.size wz wr) ∧ Hid (X < wr.heap.size)) (fun i _ => m - (intOf i).toNat)
          case atStart => exact ⟨0, wz.heap.size, 0, Nat.zero_le _, rfl, KX, GI, GT, hgne, b14, Lib.hid LX.out.1⟩
          case round =>
            clear KX GI GT hgne b14
            obtain ⟨j, gi, ci, hj, rfl, KX, GI, GT, hne, bz, LXi⟩ := hrel
            have KSi := tkb bz.out LS KS
            have f0 := tcr KSi 0
            by_cases hjl : j < m
            · obtain ⟨ga, oa, rfl, hga, hAt⟩ := Hat0.out (by omega)
              have hjs : j < s.items.length := by have := Hm.out; omega
              obtain ⟨y, hy⟩ : ∃ y, y = s.items[j] := ⟨_, rfl⟩
              have hcell := hAt.item j hjs
              rw [← hy] at hcell
              have hbw : wr.heap[ga]? = w.heap[ga]? := (BB.out.trans (bz.out.mono BB.out.size)).block ga (Nat.lt_of_lt_of_le hga hB)
              have k0 : wr.cell? ⟨ga, oa + j * 2, none⟩ = some (.string y.k) := (World.cell?_of_block (a := ⟨ga, oa + j * 2, none⟩) hbw).trans hcell.1
              have k1 : wr.cell? ⟨ga, oa + j * 2 + 1, none⟩ = some (.string y.v) := (World.cell?_of_block (a := ⟨ga, oa + j * 2 + 1, none⟩) hbw).trans hcell.2
              have HY := Lib.hid hy
              have Hyk := Lib.hid (hfk.out y (by rw [hy]; exact List.getElem_mem _))
              have hjl' : (j : Int) < (m : Int) := by omega
              obtain ⟨pk, hpk⟩ : ∃ pk, pk = partN y.k N := ⟨_, rfl⟩
              have Hpk := Lib.hid hpk
              clear hy hcell hbw hpk hAt
              by_cases he : pk = k
              · have hq : (pk == (k : Int)) = true := by simpa using he
                have Hfil : Hid (filS s N k (j + 1) = filS s N k j ++ [y]) := Lib.hid (by rw [HY.out]; exact filS_yes hjs (by rw [← HY.out, ← Hpk.out]; exact he))
                clear he
                go_wp2_with (go_at_call 14; refine (spec_partOf _ _ _ Hyk.out).mono ?_; rintro e w' ⟨rfl, rfl⟩; rw [← Hpk.out])
                obtain ⟨wd, hwd⟩ : ∃ z, z = wr.drew := ⟨_, rfl⟩
                have bd : Below wr.heap.size wr wd := by rw [hwd]; exact (Below.refl _ _).drew
                have sd : wd.heap.size = wr.heap.size := by rw [hwd]; rfl
                replace KX := tkb bd LXi KX
                replace KSi := tkb bd (tlz LS bz.out.size) KSi
                have Hga := Lib.hid hga
                have Hr0 : Hid (wd.cell? ⟨ga, oa + j * 2, none⟩ = some (.string y.k) ∧ wd.cell? ⟨ga, oa + j * 2 + 1, none⟩ = some (.string y.v)) := Lib.hid (by rw [hwd]; exact ⟨k0, k1⟩)
                have GI := Lib.hid (GI.out.later bd)
                have GT := Lib.hid (GT.out.later bd)
                have bz := Lib.hid (bz.out.trans (bd.mono bz.out.size))
                have LXi : Hid (X < wd.heap.size) := tlz LXi bd.size
                obtain ⟨A, hA⟩ : ∃ A, A = wd.alloc (.cells #[.string y.k, .string y.v] 74) := ⟨_, rfl⟩
                have bA : Below wd.heap.size wd A := by rw [hA]; exact (Below.refl _ _).alloc (Nat.le_refl _) _
                have sA : wd.heap.size < A.heap.size := by rw [hA]; simp
                have rX : Raw A A.heap.size (.slice (some ⟨wd.heap.size, 0, none⟩) 1 1) 1 [.string y.k, .string y.v] := ⟨_, 1, rfl, Nat.le_refl _, by decide, (fun h => by cases h), fun _ => ⟨wd.heap.size, 0, rfl, sA, fun j u hu => by
                  rw [hA, World.cell?_alloc_new]
                  simpa using hu⟩⟩
                have KXA := tkb bA LXi KX
                have KSA := tkb bA (tlz LS bz.out.size) KSi
                have hcA : A.cell? ⟨ga, oa + j * 2, none⟩ = some (.string y.k) ∧ A.cell? ⟨ga, oa + j * 2 + 1, none⟩ = some (.string y.v) := by
                  have hlt2 : ga < wd.heap.size := by have := BB.out.size; have := bz.out.size; omega
                  exact ⟨(World.cell?_of_block (a := ⟨ga, oa + j * 2, none⟩) (bA.block _ hlt2)).trans Hr0.out.1, (World.cell?_of_block (a := ⟨ga, oa + j * 2 + 1, none⟩) (bA.block _ hlt2)).trans Hr0.out.2⟩
                have fx := tcr KX 0
                have fxA := tcr KXA 0
                clear k0 k1 f0
                refine wp_region_held_drew (S := (fun w' => w'.cell? ⟨w.heap.size, 0, none⟩ = some (.slice (some ⟨ga, oa, none⟩) m c0) ∧ w'.cell? ⟨ga, oa + j * 2, none⟩ = some (.string y.k) ∧ w'.cell? ⟨ga, oa + j * 2 + 1, none⟩ = some (.string y.v))) (by kernel_rfl) (by rw [← hwd]; exact ⟨tcr KSi 0, Hr0.out.1, Hr0.out.2⟩) (fun hHeld => ?_)
                rw [← hwd] at hHeld ⊢
                clear hwd
                refine tk0 0 ?_
                refine tk0 2 ?_
                refine tk 3 (v := ?_) ?_ ?_; rotate_left
                · refine Or.inl ⟨by rfl, ?_⟩; intro w hSw; obtain ⟨f0, f1, f2⟩ := hSw; go_simp; first | done | with_reducible rfl
                refine tk0 4 ?_
                refine tk0 5 ?_
                refine tk 6 (v := ?_) ?_ ?_; rotate_left
                · refine Or.inl ⟨by rfl, ?_⟩; intro w hSw; obtain ⟨f0, f1, f2⟩ := hSw; go_simp; first | done | with_reducible rfl
                refine rd2 1 7 (fun K hK => ?_) (fun K hK => ?_)
                focus
                  go_simp
                  refine hK.out _ _ ⟨tcr KSi 0, Hr0.out.1, Hr0.out.2⟩ (fun hHeld => ?_)
                  clear hK K
                  refine rd1 7 (fun K hK => ?_)
                  go_simp
                  rw [← hA]
                  clear hA
                  refine hK.out _ _ ⟨tcr KSA 0, hcA.1, hcA.2⟩ (fun hHeld => ?_)
                  clear hK K
                rotate_left
                focus
                  go_simp
                  rw [← hA]
                  clear hA
                  refine hK.out _ _ ⟨tcr KSA 0, hcA.1, hcA.2⟩ (fun hHeld => ?_)
                  clear hK K
                  refine rd1 1 (fun K hK => ?_)
                  go_simp
                  refine hK.out _ _ ⟨tcr KSA 0, hcA.1, hcA.2⟩ (fun hHeld => ?_)
                  clear hK K
                rotate_left
                all_goals
                  obtain ⟨i0, p1, p2, p3, p4⟩ := info_parts infoIt
                  refine rd1 8 (fun K hK => ?_)
                  refine step_app rfl (.tmp 48) (.tmp 54) 28 rfl 74 i0 _ 2 32 Try.underlying28 p1 p2 p3 p4 rfl (by decide) gi (filS s N k j).length ci wz.heap.size _ (GI.out.later bA) (by simp [Act.eval]) _ (by simp [Act.eval]) A.heap.size 1 _ rX rfl (by intro u hu; simp at hu; rcases hu with rfl | rfl <;> rfl) (by have := filS_len s N k j; have := Hm.out; unfold maxLen; omega) (by have := filS_len s N k j; have := Hm.out; omega) ?_
                  intro g' c' w5 hg5 hloc got5
                  clear p1 p2 p3 p4
                  have hgiz := GI.out.2.2.2.1
                  have hne2 := hne.out
                  have hgtA := (GT.out.later bA)
                  have hwg : w.heap.size < gi := Nat.lt_of_lt_of_le LS.out hgiz
                  have Lw : Hid (w.heap.size < A.heap.size) := Lib.hid (by have := GI.out.2.2.2.2.1; omega)
                  have KS5 := tkg hg5 Lw KSA (by simp; omega)
                  have KX5 := tkg hg5 (Lib.hid (Nat.lt_of_lt_of_le LXi.out bA.size)) KXA (by simp; omega)
                  have GT5 := hgtA.grown hg5 (by omega)
                  have hgaA : ga < A.heap.size ∧ ga ≠ gi := by have := Hga.out; have := Lw.out; omega
                  have hc5 : w5.cell? ⟨ga, oa + j * 2, none⟩ = some (.string y.k) ∧ w5.cell? ⟨ga, oa + j * 2 + 1, none⟩ = some (.string y.v) :=
                    ⟨(World.cell?_of_block (a := ⟨ga, oa + j * 2, none⟩) (hg5.block _ hgaA.1 (by simp; omega))).trans hcA.1, (World.cell?_of_block (a := ⟨ga, oa + j * 2 + 1, none⟩) (hg5.block _ hgaA.1 (by simp; omega))).trans hcA.2⟩
                  have B5 : Hid (Below wz.heap.size wz w5) := Lib.hid ((bz.out.trans (bA.mono bz.out.size)).grown hg5 (Nat.le_trans bz.out.size bA.size) (fun j e => by cases e; exact hgiz))
                  have LX5 : Hid (X < w5.heap.size) := Lib.hid (by have := LXi.out; have := bA.size; have := hg5.size; omega)
                  have hgX : g' ≠ gt ∧ g' ≠ X := by
                    have := GT.out.2.2.2.2.1
                    have := LXi.out
                    rcases hloc with e | e <;> omega
                  have HgX := Lib.hid hgX
                  have G5 := Lib.hid got5
                  have hXw : X ≠ w.heap.size ∧ X ≠ ga := by have := LX.out; have := LS.out; have := Hga.out; omega
                  clear hgX got5 hloc hgtA KSA KXA fx fxA hcA rX sA
                  refine hK.out _ _ ⟨tcr KS5 0, hc5.1, hc5.2⟩ (fun hHeld => ?_)
                  clear hK K
                  refine tk0 9 ?_
                  have x0 := tcr KX5 0
                  have x1 := tfr KX5 0
                  refine rd1 10 (fun K hK => ?_)
                  go_simp
                  refine hK.out _ _ ⟨by rw [World.cell?_setCell_far _ _ _ _ hXw.1]; exact tcr KS5 0, by rw [World.cell?_setCell_far _ _ _ _ hXw.2]; exact hc5.1, by rw [World.cell?_setCell_far _ _ _ _ hXw.2]; exact hc5.2⟩ (fun hHeld => ?_)
                  clear hK K x0 x1
                  refine wpAnyH_done (by kernel_rfl) ?_ _
                  clear hHeld
                  go_wp2_with fail
                  go_roundw
                  case rel =>
                    refine ⟨j + 1, g', c', by omega, by go_num, Lib.hid ?_, Lib.hid ?_, Lib.hid (Got.set GT5 (by have := LX.out; omega) _), HgX, Lib.hid ?_, Lib.hid (by rw [World.size_setCell]; exact LX5.out)⟩
                    · have h := heap_setCell_same _ X 0 _ _ (.slice (some ⟨g', 0, none⟩) ((filS s N k j).length + 1) c') KX5.out
                      rw [Hfil.out, List.length_append]
                      simpa using h
                    · have h := Got.set G5.out (show X ≠ g' by have := HgX.out; omega) (o := 0) (.slice (some ⟨g', 0, none⟩) ((filS s N k j).length + 1) c')
                      rw [Hfil.out, List.length_append, List.flatMap_append]
                      exact h
                    · exact B5.out.setCell (by have := LX.out; show wz.heap.size ≤ X; omega) _
                  case measure => simp [intOf]; omega
              · have hq : (pk == (k : Int)) = false := by simpa using he
                have Hfil : Hid (filS s N k (j + 1) = filS s N k j) := Lib.hid (filS_no hjs (by rw [← HY.out, ← Hpk.out]; exact he))
                clear he
                go_wp2_with (go_at_call 14; refine (spec_partOf _ _ _ Hyk.out).mono ?_; rintro e w' ⟨rfl, rfl⟩; rw [← Hpk.out])
                go_roundw
                case rel => exact ⟨j + 1, gi, ci, by omega, by go_num, by rw [Hfil.out]; exact KX, by rw [Hfil.out]; exact GI, GT, hne, bz, LXi⟩
                case measure => simp [intOf]; omega
            · have hjl' : ¬ (j : Int) < (m : Int) := by omega
              obtain rfl : j = m := by omega
              have Hall : Hid ((⟨filS s N k j, s.talks⟩ : St) = partS s N k) := Lib.hid (by rw [Hm.out]; exact filS_all s N k)
              obtain ⟨ln, hln⟩ : ∃ ln, ln = (filS s N k j).length := ⟨_, rfl⟩
              rw [← hln] at KX
              obtain ⟨A, hA⟩ : ∃ A, A = wr.alloc (.cells #[.slice (some ⟨gi, 0, none⟩) ln ci, .slice (some ⟨gt, 0, none⟩) mt ct] 31) := ⟨_, rfl⟩
              have bA : Below wr.heap.size wr A := by rw [hA]; exact (Below.refl _ _).alloc (Nat.le_refl _) _
              have sA : wr.heap.size < A.heap.size := by rw [hA]; simp
              have rX : Raw A A.heap.size (.slice (some ⟨wr.heap.size, 0, none⟩) 1 1) 1 [.slice (some ⟨gi, 0, none⟩) ln ci, .slice (some ⟨gt, 0, none⟩) mt ct] := ⟨_, 1, rfl, Nat.le_refl _, by decide, (fun h => by cases h), fun _ => ⟨wr.heap.size, 0, rfl, sA, fun j u hu => by
                rw [hA, World.cell?_alloc_new]
                simpa using hu⟩⟩
              obtain ⟨i0, p1, p2, p3, p4⟩ := info_parts infoSt
              have hrl := Hrs.out.1
              obtain ⟨gg1, gg2, gg3, gg4⟩ := GG.out
              have bzA := bz.out.trans (bA.mono bz.out.size)
              have gg1A := gg1.later bzA
              rw [hrl] at gg1A
              obtain ⟨g', cap', w3, hrun, hg3, hloc, got3⟩ := run_app (P := Try.prog) A 34 34 31 i0 _ 2 48 Try.underlying34 p1 p2 p3 p4 rfl (by decide) g k cap (w.heap.size + 1) _ gg1A _ _ 1 _ rX rfl (by intro u hu; simp at hu; rcases hu with rfl | rfl <;> rfl) (by unfold maxLen; omega) (by omega)
              have hgz := gg1.2.2.2.2.1
              have hgb := gg1.2.2.2.1
              have hgiz := GI.out.2.2.2.1
              have hgtz := GT.out.2.2.2.1
              have hgil := GI.out.2.2.2.2.1
              have hgtl := GT.out.2.2.2.2.1
              have hsz : wz.heap.size ≤ wr.heap.size := bz.out.size
              have hold : ∀ b ∈ sqB rs, w.heap.size + 1 ≤ b ∧ b < wz.heap.size := sqB_lt gg2
              have f0' := tcr KX 0
              have f1' := tcr KX 1
              have KS3 : Hid (w3.heap[w.heap.size]? = some (.cells #[.slice a0 j c0, vt] 31 (0, 0))) := tkg hg3 (Lib.hid (by have := LS.out; omega)) (tkb bzA LS KS) (by simp; omega)
              have LS3 : Hid (w.heap.size < w3.heap.size) := Lib.hid (by have := LS.out; have := hg3.size; omega)
              have BB3 : Hid (Below w.heap.size w w3) := Lib.hid ((BB.out.trans (bzA.mono BB.out.size)).grown hg3 (by have := BB.out.size; omega) (fun j e => by cases e; omega))
              obtain ⟨q, hq⟩ : ∃ q : Sq, q = ⟨.slice (some ⟨gi, 0, none⟩) ln ci, .slice (some ⟨gt, 0, none⟩) mt ct, gi, ci, gt, ct, partS s N k⟩ := ⟨_, rfl⟩
              have hqi : (partS s N k).items = filS s N k j := by rw [← Hall.out]
              have hqt : (partS s N k).talks = s.talks := rfl
              have hqo : SqOwn w3 (w.heap.size + 1) q := by
                have h1 : SqOwn A wz.heap.size q := by
                  rw [hq]
                  refine ⟨⟨_, by show Value.slice _ ln ci = Value.slice _ (partS s N k).items.length ci; rw [hqi, hln], .inl rfl⟩, ⟨_, by show Value.slice _ mt ct = Value.slice _ (partS s N k).talks.length ct; rw [hqt, ← Hmt.out], .inl rfl⟩, ?_, ?_⟩
                  · show Got A wz.heap.size _ 2 gi (partS s N k).items.length ci ((partS s N k).items.flatMap itC)
                    rw [hqi]; exact GI.out.later bA
                  · show Got A wz.heap.size _ 3 gt (partS s N k).talks.length ct ((partS s N k).talks.flatMap tkC)
                    rw [hqt, ← Hmt.out]; exact GT.out.later bA
                have h2 := h1.grown hg3 (by rw [hq]; show gi ≠ g; omega) (by rw [hq]; show gt ≠ g; omega)
                exact h2.base (by have := LS.out; omega)
              have hqb : sqB [q] = [gi, gt] := by rw [sqB_one, hq]
              have GG3 : Hid (GotL w3 (w.heap.size + 1) g' cap' (rs ++ [q])) := Lib.hid (by
                refine ⟨?_, ?_, ?_, ?_⟩
                · rw [List.length_append, hrl, List.flatMap_append]
                  have hc : [q].flatMap sqC = [.slice (some ⟨gi, 0, none⟩) ln ci, .slice (some ⟨gt, 0, none⟩) mt ct] := by rw [hq]; rfl
                  rw [hc]; exact got3
                · intro p hp
                  rcases List.mem_append.1 hp with hp | hp
                  · have h1 := (gg2 p hp).later bzA
                    have h3 := sqB_mem hp
                    exact h1.grown hg3 (fun e => gg4 (by rw [← e]; exact h3.1)) (fun e => gg4 (by rw [← e]; exact h3.2))
                  · rw [List.mem_singleton.1 hp]; exact hqo
                · rw [sqB_append, hqb, List.nodup_append]
                  refine ⟨gg3, by simp; exact hne.out.1, fun a ha b hb => ?_⟩
                  have := hold a ha
                  simp at hb
                  rcases hb with rfl | rfl <;> omega
                · rw [sqB_append, hqb]
                  intro hm
                  rcases List.mem_append.1 hm with hm | hm
                  · have := hold _ hm
                    rcases hloc with e | e
                    · exact gg4 (by rw [← e]; exact hm)
                    · omega
                  · simp at hm
                    rcases hloc with e | e <;> omega)
              have Hrs3 : Hid ((rs ++ [q]).length = k + 1 ∧ (rs ++ [q]).map Sq.s = ((List.range N).map (partS s N)).take (k + 1)) := Lib.hid ⟨by rw [List.length_append, hrl]; rfl, by
                rw [List.map_append, Hrs.out.2, List.take_succ_eq_append_getElem (by simpa using hlt), hq]
                simp⟩
              rw [hA] at hrun
              clear hA bA sA rX p1 p2 p3 p4 gg1 gg2 gg3 gg4 bzA gg1A hg3 hloc got3 hgz hgb hgiz hgtz hgil hgtl hsz hold hq hqi hqt hqo hqb GI GT hne KX hln hrl
              go_wp2_with (at_builtin; refine wpList_appE rfl _ _ _ rfl hrun rfl rfl ?_)
              go_roundw
              case rel => exact ⟨k + 1, g', cap', rs ++ [q], by omega, by go_num, rfl, GG3, Hrs3, KS3, LS3, BB3⟩
              case measure => simp [intOf]; omega
        · have hlt' : ¬ (k : Int) < (N : Int) := by omega
          have hrl := Hrs.out.1
          have Hm2 : Hid (rs.map Sq.s = splitS s N) := Lib.hid (by rw [hres.out, Hrs.out.2, Int.toNat_natCast]; exact List.take_of_length_le (by simp; omega))
          have Hrl := Lib.hid hrl
          clear hrl
          go_wp2
          go_ret
          exact ⟨_, _, rs, by rw [Hrl.out]; rfl, GG.out, Hm2.out, BB.out⟩
end Go.Proofs.Ytebmaplflpfjbaa
