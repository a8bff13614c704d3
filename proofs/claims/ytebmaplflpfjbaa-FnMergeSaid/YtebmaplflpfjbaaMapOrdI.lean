/- The rows of a map in a new list, ascending by name: inOrder. Condition: a map of at most 2^40 rows. -/
import Derived.Test.YtebmaplflpfjbaaMapSort
import Derived.Test.YtebmaplflpfjbaaMapI
import Derived.Test.YtebmaplflpfjbaaIter
import Derived.Test.YtebmaplflpfjbaaBaseA
namespace Go.Proofs.Ytebmaplflpfjbaa
open Go.RowKit Go.Maps Go.Sort
set_option linter.unusedVariables false
set_option linter.unusedSimpArgs false

theorem keys_callsI (b : Nat) (w : World) : Calls Try.prog 75 #[.map (some b)] w fun e w' => e = .returned (.func (.func 94) #[] #[.pointer (some ⟨w.heap.size, 0, none⟩)]) ∧ w' = w.alloc (.cells #[.map (some b)] 71) :=
  callsIn_wide.1 (Try.maps_Keys_75 (some b) w)
set_option maxHeartbeats 1000000 in
theorem sorted_callsI (b n : Nat) (m : ByteArray → Option It) (hwf : ∀ k x, m k = some x → x.k = k) (w : World) (h : MapI w b n m) (hn : n ≤ 1099511627776) :
    Calls Try.prog 74 #[.func (.func 94) #[] #[.pointer (some ⟨w.heap.size, 0, none⟩)]] (w.alloc (.cells #[.map (some b)] 71)) fun e w' => ∃ a cp ts, e = .returned (.slice a ts.length cp) ∧ ts.length ≤ cp ∧ cp ≤ maxLen ∧ (0 < ts.length → ∃ g, a = some ⟨g, 0, none⟩ ∧ w.heap.size < g ∧ g < w'.heap.size ∧ At w' g 0 (ts.map encStr)) ∧
      (∀ l ∈ ts, (m ⟨l.toArray⟩).isSome = true ∧ l.length ≤ maxLen) ∧ ts.length ≤ n ∧ Asc It.k (rowsOf m ts) ∧ (∀ x, x ∈ rowsOf m ts ↔ m x.k = some x) ∧ w.heap.size < w'.heap.size ∧ Below w.heap.size w w' := by
  obtain ⟨D, hown, h1, h2⟩ := h
  have hsz := hown.size_le
  refine (callsIn_wide.1 (Try.slices_Sorted_keys_74_75 b n D itR w hown (by unfold maxLen; omega) (by omega))).mono ?_
  rintro e w' ⟨v, ss, rfl, hS, hrow, hnil, hb⟩
  obtain ⟨hnd, hmem⟩ := strKeys_facts hown
  have hnd2 := hS.nodup_iff.2 hnd
  have hmem2 : ∀ l, l ∈ ss ↔ (m ⟨l.toArray⟩).isSome = true := fun l => by
    rw [hS.mem_iff, hmem, ← h1]
    simp [kl]
  obtain ⟨hasc, hin⟩ := sort_asc It.k hwf hnd2 hmem2
  have hle := strKeys_le hown Try.underlying9
  have hlen : (ss.mergeSort fun x y => decide (x ≤ y)).length = ss.length := List.length_mergeSort _
  have hss : ss.length = Maps.size D := by
    rw [hS.length_eq]
    obtain ⟨es, clock, _, _, _, rfl⟩ := hown
    simp [strKeys, Maps.size]
  obtain ⟨hl1, hl2⟩ := hrow
  have hall : ∀ l ∈ (ss.mergeSort fun x y => decide (x ≤ y)), (m ⟨l.toArray⟩).isSome = true ∧ l.length ≤ maxLen := fun l hl => by
    have hl' : l ∈ ss := (List.mergeSort_perm ss _).mem_iff.1 hl
    exact ⟨(hmem2 l).1 hl', hle l (hS.mem_iff.1 hl')⟩
  have hgt : w.heap.size < w'.heap.size := by have := hb.size; simp at this; omega
  have hbb := ((Below.refl _ w).alloc (Nat.le_refl _) _).trans (hb.mono (by simp))
  rcases hl2 with ⟨rfl, h0⟩ | ⟨g, cap, cur, rfl, k1, k2, k3, k4, k5, k6⟩
  · exact ⟨none, 0, _, by rw [hlen, h0], by omega, Nat.zero_le _, fun h => by omega, hall, by omega, hasc, hin, hgt, hbb⟩
  · refine ⟨_, cap, _, by rw [hlen], by omega, k4, fun _ => ⟨g, rfl, by simp at k1; omega, (Array.getElem?_eq_some_iff.1 k2).1, fun j u hu => ?_⟩, hall, by omega, hasc, hin, hgt, hbb⟩
    have hj := (List.getElem?_eq_some_iff.1 hu).1
    rw [← k6, List.getElem?_take_of_lt (by simp at hj; omega)] at hu
    rw [Nat.zero_add, cell_of_row w' g j cur _ _ k2]
    simpa using hu

set_option maxRecDepth 100000 in
set_option maxHeartbeats 8000000 in
theorem impl_orderI (b n : Nat) (m : ByteArray → Option It) (hwf : ∀ k x, m k = some x → x.k = k) (w : World) (hm : MapI w b n m) (hn : n ≤ 1099511627776) :
    Calls Try.prog 50 #[.map (some b)] w fun e w' => ∃ g cap zs, e = .returned (.slice (some ⟨g, 0, none⟩) zs.length cap) ∧ Got w' w.heap.size 74 2 g zs.length cap (zs.flatMap itC) ∧ Asc It.k zs ∧ (∀ x, x ∈ zs ↔ m x.k = some x) ∧ g ≠ w.heap.size + 1 ∧ w.heap.size + 1 < w'.heap.size ∧ Below w.heap.size w w' := by
  obtain ⟨i0, hi, hz0, hz1, hz2⟩ := info_parts infoIt
  obtain ⟨c, hcn, hlen⟩ := hm.len
  have hlen := hlen 3
  obtain ⟨w1, hmk, hown, hgr⟩ := run_make_own (P := Try.prog) w w.heap.size 28 74 i0 _ 2 Try.underlying28 hi hz0 hz1 .i64 .i64 c (by rw [hz2]; omega) (by unfold maxLen; omega) (Nat.le_refl _)
  have hb1 : Below w.heap.size w w1 := (Below.refl _ _).grown hgr (Nat.le_refl _) (fun k hk => by cases hk)
  have hlt1 := (World.ownsRow.lt hown _ rfl).2
  have HM := Lib.hid (hm.later hb1)
  have hm0 : Hid (b < w.heap.size) := Lib.hid hm.lt
  have B1 := Lib.hid hb1
  have G1 : Hid (Got w1 w.heap.size 74 2 w.heap.size 0 c []) := Lib.hid ⟨rfl, Nat.zero_le _, by unfold maxLen; omega, Nat.le_refl _, hlt1, .inr hown⟩
  have hc1 := keys_callsI b w1
  have hc2 := sorted_callsI b n m hwf w1 HM.out hn
  clear hown hgr hb1 hm hz0 hz1 hz2 hi
  go_enter Try.func50, Try.ntmps50
  go_wp2_with (first | (go_at_call 75; refine hc1.mono ?_; rintro e w' ⟨rfl, rfl⟩) | (go_at_call 74; refine hc2.mono ?_; rintro e w2 ⟨a, cp, ts, rfl, hnc, hcap, hat, hts, htl, hasc, hin, hgt, hb2⟩; refine Hid.out ?_))
  refine Lib.hid ?_
  obtain ⟨L, hL⟩ : ∃ L, L = ts.length := ⟨_, rfl⟩
  rw [← hL] at hnc hat htl ⊢
  have HL := Lib.hid hL
  have Hat := Lib.hid hat
  have Hts := Lib.hid hts
  have Hasc := Lib.hid hasc
  have Hin := Lib.hid hin
  have HM2 := Lib.hid (HM.out.later hb2)
  have G2 := Lib.hid (G1.out.later hb2)
  have B2 : Hid (Below w.heap.size w w2) := Lib.hid (B1.out.trans (hb2.mono B1.out.size))
  have S2 : Hid (w.heap.size < w2.heap.size) := Lib.hid (Nat.lt_of_lt_of_le hlt1 hb2.size)
  have S1 := Lib.hid hlt1
  have S3 : Hid (w.heap.size + 1 < w2.heap.size) := Lib.hid (by omega)
  have hbl := hm0
  unfold maxLen at hcap
  clear hL hat hts hasc hin hb2 hgt hc1 hc2 hmk hlen HM G1 B1 hm0
  go_wp2_with fail
  go_loopw [3, 13] (fun lv i wr => ∃ (k g cap : Nat), k ≤ L ∧ i = .int .i64 k ∧ lv = .slice (some ⟨g, 0, none⟩) k cap ∧ Hid (Got wr w.heap.size 74 2 g k cap ((rowsOf m (ts.take k)).flatMap itC)) ∧ Hid (g = w.heap.size ∨ w2.heap.size ≤ g) ∧ Hid (MapI wr b n m) ∧ Hid (∀ j, j < w2.heap.size → j ≠ w.heap.size → wr.heap[j]? = w2.heap[j]?) ∧ Hid (w2.heap.size ≤ wr.heap.size) ∧ Hid (Below w.heap.size w wr)) (fun _ i _ => L - (intOf i).toNat)
  case atStart => exact ⟨0, w.heap.size, c, Nat.zero_le _, rfl, rfl, G2, Lib.hid (.inl rfl), HM2, Lib.hid (fun _ _ _ => rfl), Lib.hid (Nat.le_refl _), B2⟩
  case round =>
    obtain ⟨k, g, cap, hk, rfl, rfl, GG, HG, KM, Hsame, Hsz, BB⟩ := hrel
    by_cases hlt : k < L
    · obtain ⟨gs, ha, hgs1, hgs2, hAt⟩ := Hat.out (by omega)
      subst ha
      have hkl : k < ts.length := by have := HL.out; omega
      obtain ⟨l, hl⟩ : ∃ l, l = ts[k] := ⟨_, rfl⟩
      have hmem : l ∈ ts := by rw [hl]; exact List.getElem_mem _
      obtain ⟨hsome, hllen⟩ := Hts.out l hmem
      obtain ⟨kk, hkk⟩ : ∃ kk : ByteArray, kk = ⟨l.toArray⟩ := ⟨_, rfl⟩
      have hks : kk.size ≤ maxLen := by rw [hkk]; simpa [ByteArray.size] using hllen
      rw [← hkk] at hsome
      obtain ⟨x, hx⟩ := Option.isSome_iff_exists.1 hsome
      have hlook := KM.out.look1 kk hks hx
      have Htake : Hid (rowsOf m (ts.take (k + 1)) = rowsOf m (ts.take k) ++ [x]) := Lib.hid (rowsOf_take hkl (by rw [← hl, ← hkk]; exact hx))
      have hcell : wr.cell? ⟨gs, k, none⟩ = some (.string kk) := by
        rw [World.cell?_of_block (Hsame.out gs hgs2 (by have := S1.out; omega))]
        have h := hAt k (encStr l) (by rw [List.getElem?_map, List.getElem?_eq_getElem hkl, ← hl]; rfl)
        rw [Nat.zero_add] at h
        rw [h, hkk]
      obtain ⟨xk, xv⟩ := x
      unfold itA at hlook
      obtain ⟨A, hA⟩ : ∃ A, A = wr.alloc (.cells #[.string xk, .string xv] 74) := ⟨_, rfl⟩
      have bA : Below wr.heap.size wr A := by rw [hA]; exact (Below.refl _ _).alloc (Nat.le_refl _) _
      have sA : wr.heap.size < A.heap.size := by rw [hA]; simp
      have rA : Raw A A.heap.size (.slice (some ⟨wr.heap.size, 0, none⟩) 1 1) 1 [.string xk, .string xv] := ⟨_, 1, rfl, Nat.le_refl _, by decide, (fun h => by cases h), fun _ => ⟨wr.heap.size, 0, rfl, sA, fun j u hu => by
        rw [hA, World.cell?_alloc_new]
        simpa using hu⟩⟩
      obtain ⟨j0, q1, q2, q3, q4⟩ := info_parts infoIt
      obtain ⟨g', cap', w3, hrun, hg3, hloc, got3⟩ := run_app (P := Try.prog) A 28 28 74 j0 _ 2 32 Try.underlying28 q1 q2 q3 q4 rfl (by decide) g k cap w.heap.size _ (GG.out.later bA) _ _ 1 _ rA rfl (by intro u hu; simp at hu; rcases hu with rfl | rfl <;> rfl) (by unfold maxLen; omega) (by omega)
      have hgl := GG.out.2.2.2.1
      have hgl2 := GG.out.2.2.2.2.1
      have G3 : Hid (Got w3 w.heap.size 74 2 g' (k + 1) cap' ((rowsOf m (ts.take (k + 1))).flatMap itC)) := Lib.hid (by rw [Htake.out, List.flatMap_append]; exact got3)
      have HG3 : Hid (g' = w.heap.size ∨ w2.heap.size ≤ g') := Lib.hid (by
        rcases hloc with e | e
        · rw [e]; exact HG.out
        · exact .inr (Nat.le_trans Hsz.out (Nat.le_trans bA.size e)))
      have hbl2 := KM.out.lt
      have KM3 := Lib.hid ((KM.out.later bA).kept hg3 (by simp; have := hbl.out; omega))
      have Hsame3 : Hid (∀ j, j < w2.heap.size → j ≠ w.heap.size → w3.heap[j]? = w2.heap[j]?) := Lib.hid (fun j hj hn => by
        have hj2 := Nat.lt_of_lt_of_le hj Hsz.out
        rw [hg3.block j (Nat.lt_of_lt_of_le hj2 bA.size) (by simp; rcases HG.out with e | e <;> omega), bA.block j hj2, Hsame.out j hj hn])
      have Hsz3 : Hid (w2.heap.size ≤ w3.heap.size) := Lib.hid (Nat.le_trans Hsz.out (Nat.le_trans bA.size hg3.size))
      have BB3 : Hid (Below w.heap.size w w3) := Lib.hid ((BB.out.trans (bA.mono BB.out.size)).grown hg3 (Nat.le_trans BB.out.size bA.size) (fun j e => by cases e; exact hgl))
      have hlt' : (k : Int) < (L : Int) := by omega
      rw [hA] at hrun
      clear hl hkk hmem hsome hx hks hllen hAt hA bA sA rA got3 hg3 hloc q1 q2 q3 q4 hgl hgl2 hbl2
      go_wp2_with (at_builtin; refine wpList_appE rfl _ _ _ rfl hrun rfl rfl ?_)
      go_roundw
      case rel => exact ⟨k + 1, g', cap', by omega, by go_num, rfl, G3, HG3, KM3, Hsame3, Hsz3, BB3⟩
      case measure => simp [intOf]; omega
    · have hlt' : ¬ (k : Int) < (L : Int) := by omega
      have hres : Hid (ts.take k = ts) := Lib.hid (List.take_of_length_le (by have := HL.out; omega))
      have hln : Hid ((rowsOf m ts).length = k) := Lib.hid (by rw [rowsOf_len (fun l hl => (Hts.out l hl).1)]; have := HL.out; omega)
      have GF := GG.out
      rw [hres.out] at GF
      have GF := Lib.hid GF
      clear GG
      go_wp2
      go_ret
      exact ⟨g, cap, rowsOf m ts, by rw [hln.out]; rfl, by rw [hln.out]; exact GF.out, Hasc.out, Hin.out, by have := S3.out; rcases HG.out with e | e <;> omega, by have := S3.out; have := Hsz.out; omega, BB.out⟩
end Go.Proofs.Ytebmaplflpfjbaa
