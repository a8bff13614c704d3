/- The law FnSpoilt: a stream of which a piece is left out, doubled, turned round or changed is refused. Condition: none. -/
import Derived.Test.YtlklhmdpkicpnaaCurA
import Derived.Test.YtlklhmdpkicpnaaDrawExport
import Derived.Test.YtlklhmdpkicpnaaImplExport
import Derived.Test.YtlklhmdpkicpnaaImplImport
import Derived.Test.YtlklhmdpkicpnaaSameRaw
import Derived.Test.YtlklhmdpkicpnaaSpecSame
import Derived.Test.YtlklhmdpkicpnaaStrA
import Derived.Test.YtlklhmdpkicpnaaVerUp
import Derived.Test.YtlklhmdpkicpnaaBaseA
import Derived.Test.YtlklhmdpkicpnaaLawSeal
import Derived.Test.YtlklhmdpkicpnaaImplCut
import Derived.Test.YtlklhmdpkicpnaaImplSeal
import Derived.Test.YtlklhmdpkicpnaaTexts
import Derived.BigQuiet
import Derived.Deep.QuietTactic
namespace Go.Proofs.Ytlklhmdpkicpnaa
open Go.RowKit
set_option linter.unusedVariables false
set_option linter.unusedSimpArgs false



/-- A byte of the code, or a number that stands for it: which one, the code alone says. -/
theorem at_val (a : Option Addr) (len cap : Nat) (zs : List Int) (i : Nat) (hi : i ≤ 5) (w : World) (hr : Row8 w w.heap.size a len cap zs) (hl : len ≤ 1048576) :
    Calls Try.prog 42 #[.slice a len cap, .int .i64 i] w fun e w' => ∃ x : Nat, x < 256 ∧ (i < len → (x : Int) = zs.getD i 0) ∧ (¬ i < len → x = (i * 7 + len) % 256) ∧ e = .returned (.int .i64 x) ∧ w = w' := by
  by_cases h : i < len
  · obtain ⟨b, off, z, rfl, hb, hcell, hz0, hz1, hzz⟩ := hr.byte i h
    have HZ := Lib.hid hzz
    clear hzz
    obtain ⟨x, rfl⟩ := Int.eq_ofNat_of_zero_le hz0
    go_enter Try.func42, Try.ntmps42
    go_wp2_with fail
    go_ret
    exact ⟨x, by omega, fun _ => HZ.out, fun h' => absurd h h', rfl, rfl⟩
  · have hv : Hid (((i : Int) * 7 + (len : Int)).tmod 256 = (((i * 7 + len) % 256 : Nat) : Int)) := Lib.hid (by rw [Int.tmod_eq_emod_of_nonneg (by omega)]; omega)
    go_enter Try.func42, Try.ntmps42
    go_wp2_with fail
    go_ret
    exact ⟨(i * 7 + len) % 256, by omega, fun h' => absurd h' h, fun _ => rfl, ret_int (by rw [← hv.out]; rfl), rfl⟩
theorem at_the (a : Option Addr) (len cap : Nat) (zs : List Int) (i : Nat) (hi : i ≤ 5) (w : World) (hr : Row8 w w.heap.size a len cap zs) (hl : len ≤ 1048576) :
    ∃ x : Nat, x < 256 ∧ ∀ w', Row8 w' w'.heap.size a len cap zs → Calls Try.prog 42 #[.slice a len cap, .int .i64 i] w' fun e w'' => e = .returned (.int .i64 x) ∧ w' = w'' := by
  by_cases h : i < len
  · obtain ⟨b, off, z, _, _, _, hz0, hz1, hzz⟩ := hr.byte i h
    obtain ⟨x, rfl⟩ := Int.eq_ofNat_of_zero_le hz0
    refine ⟨x, by omega, fun w' hr' => (at_val a len cap zs i hi w' hr' hl).mono ?_⟩
    rintro e w'' ⟨y, hy, h1, _, rfl, hw⟩
    have := h1 h
    obtain rfl : y = x := by omega
    exact ⟨rfl, hw⟩
  · refine ⟨(i * 7 + len) % 256, by omega, fun w' hr' => (at_val a len cap zs i hi w' hr' hl).mono ?_⟩
    rintro e w'' ⟨y, hy, _, h2, rfl, hw⟩
    rw [h2 h]
    exact ⟨rfl, hw⟩
theorem sp_ne {n i j : Nat} (h : i < n) (hj : j + 1 < n) : i ≠ (i + 1 + j) % n := by
  rcases Nat.lt_or_ge (i + 1 + j) n with h1 | h1
  · rw [Nat.mod_eq_of_lt h1]; omega
  · rw [Nat.mod_eq_sub_mod h1, Nat.mod_eq_of_lt (by omega)]; omega
section
variable {w w0 : World} {base g cap : Nat} {E : List ByteArray}
theorem sp_got {B : Nat} {v : Value} (h : Texts w B v E) (h0 : E.length ≠ 0) : ∃ g cap, v = .slice (some ⟨g, 0, none⟩) E.length cap ∧ Got w B 9 1 g E.length cap (E.map Value.string) := by
  obtain ⟨hl, ⟨hv, h00⟩ | ⟨g, cap, cur, hv, hg, hh, hc, hm, hs, ht⟩⟩ := id h
  · exact absurd h00 h0
  · exact ⟨g, cap, hv, by simp, hc, hm, hg, (Array.getElem?_eq_some_iff.1 hh).1, .inr (by rw [← hv]; exact h)⟩
theorem sp_later {w' : World} {B : Nat} {v : Value} (h : Texts w B v E) (hb : Below w.heap.size w w') : Texts w' B v E := owns_later h hb
theorem sp_cell (h : Got w base 9 1 g E.length cap (E.map Value.string)) (k : Nat) (hk : k < E.length) : w.cell? ⟨g, k, none⟩ = some (.string E[k]) ∧ w.frozen? ⟨g, k, none⟩ = false := by
  obtain ⟨cur, h1, h2, h3⟩ := got_cells h (by omega)
  refine ⟨?_, frozen_of_row w g k cur 9 h1⟩
  rw [cell_of_row w g k cur 9 _ h1]
  have h4 : (E.map Value.string)[k]? = some (.string E[k]) := by rw [List.getElem?_map, List.getElem?_eq_getElem hk]; rfl
  rw [← h3, List.getElem?_take, if_pos (by omega), Array.getElem?_toList] at h4
  exact h4
theorem sp_set (h : Got w base 9 1 g E.length cap (E.map Value.string)) (k : Nat) (hk : k < E.length) (u : ByteArray) :
    Got (w.setCell ⟨g, k, none⟩ (.string u)) base 9 1 g (E.set k u).length cap ((E.set k u).map Value.string) := by
  have hc := h.2.1
  obtain ⟨cur, h1, h2, h3⟩ := got_put h (by omega) k [.string u] E.length hc (by simp; omega)
  have h3 : Got (w.setCell ⟨g, k, none⟩ (.string u)) base 9 1 g E.length cap ((cur.take k ++ [Value.string u] ++ cur.drop (k + 1)).take (E.length * 1)) := h3
  have e : cur.take k ++ [Value.string u] ++ cur.drop (k + 1) = cur.set k (.string u) := by
    rw [List.set_eq_take_append_cons_drop, if_pos (by omega)]; simp
  rw [e, List.take_set, h2, ← List.map_set] at h3
  rw [List.length_set]
  exact h3
theorem sp_take (h : Got w base 9 1 g E.length cap (E.map Value.string)) (i : Nat) (hi : i ≤ E.length) : Raw w w.heap.size (.slice (some ⟨g, 0, none⟩) i cap) i ((E.take i).map Value.string) := by
  have hc := h.2.1
  refine ⟨_, cap, rfl, by omega, h.2.2.1, (fun h => by cases h), fun hp => ⟨g, 0, rfl, h.2.2.2.2.1, fun j u hu => ?_⟩⟩
  have hj : j < (E.take i).length := by
    rcases Nat.lt_or_ge j (E.take i).length with hl | hl
    · exact hl
    · rw [List.getElem?_eq_none (by rw [List.length_map]; exact hl)] at hu; cases hu
  have hj2 : j < E.length := by rw [List.length_take] at hj; omega
  rw [Nat.zero_add, (sp_cell h j hj2).1]
  rw [List.getElem?_map, List.getElem?_eq_getElem hj] at hu
  rw [← hu, List.getElem_take]
  rfl
theorem sp_drop (h : Got w base 9 1 g E.length cap (E.map Value.string)) (o : Nat) (ho : o ≤ E.length) (a : Nat) (ha : o < E.length → a = o) :
    Raw w w.heap.size (.slice (some ⟨g, a, none⟩) (E.length - o) (cap - o)) (E.length - o) ((E.drop o).map Value.string) := by
  have hc := h.2.1
  have hm := h.2.2.1
  refine ⟨_, cap - o, rfl, by omega, by omega, (fun h => by cases h), fun hp => ⟨g, a, rfl, h.2.2.2.2.1, fun j u hu => ?_⟩⟩
  obtain rfl := ha (by omega)
  have hj : j < (E.drop a).length := by
    rcases Nat.lt_or_ge j (E.drop a).length with hl | hl
    · exact hl
    · rw [List.getElem?_eq_none (by rw [List.length_map]; exact hl)] at hu; cases hu
  have hj2 : a + j < E.length := by rw [List.length_drop] at hj; omega
  rw [(sp_cell h (a + j) hj2).1]
  rw [List.getElem?_map, List.getElem?_eq_getElem hj] at hu
  rw [← hu, List.getElem_drop]
  rfl
theorem raw_gotN {n : Nat} (h : Got w base 9 1 g n cap (E.map Value.string)) (hn : n = E.length) : Raw w w.heap.size (.slice (some ⟨g, 0, none⟩) n cap) E.length (E.map Value.string) := by
  subst hn
  exact raw_of_row (row_of_got h)
/-- An empty row of the call's own. -/
theorem sp_new (hb : Below w0.heap.size w0 w) {V : World} (hV : Below w.heap.size w V) (hs : w.heap.size < V.heap.size) : Got V w0.heap.size 9 1 w.heap.size 0 0 (([] : List ByteArray).map Value.string) :=
  ⟨rfl, Nat.le_refl _, Nat.zero_le _, hb.size, hs, .inl ⟨rfl, rfl⟩⟩
/-- A row put behind a row of the call's own. -/
theorem sp_app {n m c : Nat} {xs ys : List ByteArray} {v : Value} (hb : Below w0.heap.size w0 w) (h : Got w w0.heap.size 9 1 g n c (xs.map Value.string)) (hr : Raw w w.heap.size v m (ys.map Value.string)) (hm : m = ys.length) (hz : n + m ≤ 100000) :
    ∃ g' c' w', (Builtin.append_ #[34, 34] 34 #[.slice (some ⟨g, 0, none⟩) n c, v]).run Try.prog w = .ok (.slice (some ⟨g', 0, none⟩) (n + m) c') w' ∧ Below w0.heap.size w0 w' ∧ w.grownBy w' (some g) ∧ Got w' w0.heap.size 9 1 g' (n + m) c' ((xs ++ ys).map Value.string) := by
  obtain ⟨i0, p1, p2, p3, p4⟩ := info_parts infoS7
  obtain ⟨g', c', w', r1, r2, r3, r4⟩ := run_app (P := Try.prog) w 34 34 9 i0 _ 1 16 Try.underlying34 p1 p2 p3 p4 rfl (by decide) g n c w0.heap.size _ h v w.heap.size m _ hr (by rw [List.length_map, Nat.mul_one]; exact hm.symm) (fun u hu => by obtain ⟨x, _, rfl⟩ := List.mem_map.1 hu; rfl) (by unfold maxLen; omega) (by omega)
  rw [← List.map_append] at r4
  exact ⟨g', c', w', r1, hb.grown r2 hb.size (fun k hk => by cases hk; exact h.2.2.2.1), r2, r4⟩
end
theorem sp_row_set {w : World} {g : Nat} {l : List UInt8} (h : RowAt w g l) (j : Nat) (hj : j < l.length) (c : Nat) (hc : c < 256) : RowAt (w.setCell ⟨g, j, none⟩ (.int .u8 (c : Int))) g (l.set j (UInt8.ofNat c)) := fun i hi => by
  rw [List.length_set] at hi
  by_cases he : j = i
  · subst he
    rw [World.cell?_setCell_same _ _ _ (h j hj)]
    simp
    omega
  · rw [World.cell?_setCell_other _ _ _ _ (fun e => he (congrArg Addr.off e)), h i hi]
    simp [he]
theorem sp_row_move {w w' : World} {g : Nat} {l : List UInt8} (h : RowAt w g l) (hb : w'.heap[g]? = w.heap[g]?) : RowAt w' g l := fun j hj => (World.cell?_of_block hb).trans (h j hj)
theorem sp_frozen_move {w w' : World} {g j : Nat} (h : w.frozen? ⟨g, j, none⟩ = false) (hb : w'.heap[g]? = w.heap[g]?) : w'.frozen? ⟨g, j, none⟩ = false := by
  unfold World.frozen? at h ⊢
  simp only [hb]
  exact h


theorem spoilt_rows {s : St} {m : Nat} {E : List ByteArray} (hs : stOk s = true) (h1 : 8 ≤ m) (h2 : m ≤ 9) (hE : E = cutS (fmtS s 3) (m : Int)) :
    2 ≤ E.length ∧ importS E = (s, 0) ∧ (∀ x ∈ E, 0 < x.size) ∧
    (∀ i k (hi : i < E.length) (hk : k < E.length), i ≠ k → (importS (E.take i ++ E.drop (i + 1))).2 = 3 ∧ (importS (E.take i ++ [E[k]] ++ E.drop i)).2 = 3 ∧ (importS ((E.set i E[k]).set k E[i])).2 = 3) ∧
    (∀ i (hi : i < E.length) n (hn : n < E[i].data.toList.length) (b : Nat) (c : UInt8), b ≠ 0 → b < 256 → c.toNat = (E[i].data.toList[n]).toNat ^^^ b → (importS (E.set i ⟨(E[i].data.toList.set n c).toArray⟩)).2 = 2) := by
  have hv : inB 3 1 3 = true := by decide
  obtain ⟨e, hm, hp⟩ := exp_is hs hv h1 (show m ≤ 200 by omega)
  have hread := exp_read hs hv h1 (show m ≤ 200 by omega)
  have h2m := many_two (fmt_ten hs) h2 (by omega)
  have hn : 0 < m := by omega
  have hn2 : m ≤ 200 := by omega
  rw [e] at hE hread
  subst hE
  have hl : (cutUp (fmtS s 3) m (manyN (fmtS s 3) m)).length = manyN (fmtS s 3) m := cutUp_len _ _ _
  refine ⟨by omega, ?_, fun x hx => ?_, fun i k hi hk hik => ⟨?_, ?_, ?_⟩, fun i hi n hn' b c hb hb2 hc => ?_⟩
  · rw [hread]; unfold keptS; rw [if_neg (by decide)]
  · unfold cutUp at hx
    obtain ⟨i, hi, rfl⟩ := List.mem_map.1 hx
    rw [pc_size (piece_ok hn hn2 hm (List.mem_range.1 hi))]
    omega
  · rw [less_refused hn hn2 hm (by omega) h2m]
  · rw [more_refused hn hn2 hm (show i < _ by omega) (show k < _ by omega)]
  · rw [cut_at _ _ _ k (by omega), cut_at _ _ _ i (by omega), turned_refused hn hn2 hm (by omega) (by omega) hik]
  · have key : ∀ t0 (ht : t0 = pcB (pieceN (fmtS s 3) m i)) (h : n < t0.data.toList.length), c.toNat = (t0.data.toList[n]).toNat ^^^ b → (importS ((cutUp (fmtS s 3) m (manyN (fmtS s 3) m)).set i ⟨(t0.data.toList.set n c).toArray⟩)).2 = 2 := by
      intro t0 ht h hc
      subst ht
      rw [hurt_refused hn hn2 hm (by omega) (hurt_none (piece_ok hn hn2 hm (by omega)) n b h hb hb2 c hc)]
    exact key _ (cut_at _ _ _ i (by omega)) hn' hc
set_option maxRecDepth 100000 in
set_option maxHeartbeats 8000000 in
theorem law_spoilt (a : Option Addr) (len cap : Nat) (zs : List Int) (w : World) (hr : IsRow .u8 w a len cap zs) :
    Calls Try.prog 8 #[.slice a len cap] w fun e w' => e = .returned (.bool true) ∧ Below w.heap.size w w' := by
  have hr := row8_of hr
  by_cases hbig : 1048576 < len
  · have hd : decide (1048576 < len) = true := by simpa using hbig
    go_enter Try.func8, Try.ntmps8
    go_wp2_with (go_at_call 17; refine (big_any _ _ _ _).mono ?_; rintro e w' ⟨rfl, rfl⟩)
    go_ret
    exact ⟨rfl, Below.refl _ _⟩
  have hd : decide (1048576 < len) = false := by simpa using hbig
  have hlen : len ≤ 1048576 := by omega
  have Hr8 := Lib.hid hr
  have BB : Hid (Below w.heap.size w w) := Lib.hid (Below.refl _ _)
  go_enter Try.func8, Try.ntmps8
  go_wp2_with (go_at_call 17; refine (big_any _ _ _ _).mono ?_; rintro e w' ⟨rfl, rfl⟩; refine Hid.out ?_)
  refine Lib.hid ?_
  clear hd hbig hr
  obtain ⟨x0, hx0, kat⟩ := at_the a len cap zs 0 (by omega) w Hr8.out hlen
  have KAT0 := Lib.hid kat
  clear kat
  obtain ⟨x1, hx1, kat⟩ := at_the a len cap zs 1 (by omega) w Hr8.out hlen
  have KAT1 := Lib.hid kat
  clear kat
  obtain ⟨x2, hx2, kat⟩ := at_the a len cap zs 2 (by omega) w Hr8.out hlen
  have KAT2 := Lib.hid kat
  clear kat
  obtain ⟨x3, hx3, kat⟩ := at_the a len cap zs 3 (by omega) w Hr8.out hlen
  have KAT3 := Lib.hid kat
  clear kat
  obtain ⟨x4, hx4, kat⟩ := at_the a len cap zs 4 (by omega) w Hr8.out hlen
  have KAT4 := Lib.hid kat
  clear kat
  have hc := drawExport_any a len cap zs w Hr8.out hlen
  go_wp2_with (go_at_call 34; refine hc.mono ?_; rintro e w1 ⟨v, s, n, k, rfl, hst, hsm, hn64, hk64, hb⟩; refine Hid.out ?_)
  refine Lib.hid ?_
  obtain ⟨vi, vt, rfl, r1, r2⟩ := id hst
  obtain ⟨sa, sc, rfl⟩ := slice_rowX r1
  obtain ⟨ta, tc, rfl⟩ := slice_rowX r2
  have SV := Lib.hid hst
  replace BB := Lib.hid hb
  have W1 : Hid (w.heap.size ≤ w1.heap.size) := Lib.hid hb.size
  have Hfit : Hid (Fits s) := Lib.hid hsm.fits
  have B1 : Hid (Below w1.heap.size w1 w1) := Lib.hid (Below.refl _ _)
  clear r1 r2 hst hsm hb hc
  obtain ⟨X1, hX1⟩ : ∃ z, z = w1.alloc (.cells #[.slice sa s.items.length sc, .slice ta s.talks.length tc] 44) := ⟨_, rfl⟩
  have hb : Below w1.heap.size w1 X1 := by rw [hX1]; exact (Below.refl _ _).alloc (Nat.le_refl _) _
  replace B1 := tbt B1 hb
  replace BB := tbt BB hb
  have KA : Hid (X1.heap[w1.heap.size]? = some (.cells #[.slice sa s.items.length sc, .slice ta s.talks.length tc] 44 (0, 0))) := Lib.hid (by rw [hX1]; exact heap_new _ _)
  have LA : Hid (w1.heap.size < X1.heap.size) := Lib.hid (by rw [hX1]; simp)
  clear hb
  obtain ⟨m, hm⟩ : ∃ m : Nat, m = 8 + x0 % 2 := ⟨_, rfl⟩
  have hm1 : 8 ≤ m := by omega
  have hm2 : m ≤ 9 := by omega
  have hwr : IntKind.i64.wrap (8 + (x0 : Int).tmod 2) = (m : Int) := by rw [Int.tmod_eq_emod_of_nonneg (by omega), IntKind.wrap_i64] <;> omega
  clear hm hx0
  obtain ⟨E, hE⟩ : ∃ E, E = cutS (fmtS s 3) (m : Int) := ⟨_, rfl⟩
  have HE := Lib.hid hE
  have Hmem : Hid (∀ x ∈ E, x.size ≤ 1000) := Lib.hid (fun x hx => by rw [hE] at hx; have := exp_mem x hx; omega)
  have hlnE : E.length ≤ 600 := by rw [hE]; exact exp_len _ _
  clear hE
  go_wp2_with fail
  rw [← hX1]
  clear hX1
  have FA : Hid (∀ w', Below X1.heap.size X1 w' → w'.cell? ⟨w1.heap.size, 0, none⟩ = some (.slice sa s.items.length sc) ∧ w'.cell? ⟨w1.heap.size, 1, none⟩ = some (.slice ta s.talks.length tc)) := Lib.hid (fun w' h => by have K := tkb h LA KA; exact ⟨tcr K 0, tcr K 1⟩)
  refine wp_region_held_drew (S := (fun w' => Below X1.heap.size X1 w')) (by kernel_rfl) (Below.refl _ _).drew (fun hHeld => ?_)
  obtain ⟨zD, hzD⟩ : ∃ zz, zz = X1.drew := ⟨_, rfl⟩
  rw [← hzD] at hHeld ⊢
  clear hzD
  have BD := Lib.hid hHeld
  refine tk 0 (v := ?_) ?_ ?_; rotate_left
  · refine Or.inl ⟨by rfl, ?_⟩; intro w hSw; obtain ⟨hA0, hA1⟩ := FA.out w hSw; go_simp; first | done | with_reducible rfl
  refine tk0 1 ?_
  refine rd1 2 (fun K hK => ?_)
  go_simp
  have hc := KAT0.out _ (Hr8.out.later (BB.out.trans (BD.out.mono BB.out.size)))
  go_at_call 42
  refine hc.mono ?_
  rintro e w2 ⟨rfl, hww⟩
  have hb : Below zD.heap.size zD w2 := by rw [← hww]; exact Below.refl _ _
  clear hww
  replace BD := tbt BD hb
  clear hc hb
  go_wp2_with fail
  refine hK.out _ _ BD.out (fun hHeld => ?_)
  clear hK K
  refine tk0 3 ?_
  refine tk0 4 ?_
  refine rd1 5 (fun K hK => ?_)
  go_simp
  have hc := impl_export s _ 3 (m : Int) w2.heap.size w2 ((SV.out.later B1.out B1.out.size).later BD.out BD.out.size) (Nat.le_refl _) Hfit.out
  rw [← HE.out] at hc
  go_at_call 35
  refine hc.mono ?_
  rintro e w3 ⟨vE, rfl, hE, hb⟩
  obtain ⟨ea, ec, rfl, hraw⟩ := texts_raw hE
  have GE := Lib.hid hE
  have RE := Lib.hid hraw
  clear hE hraw
  replace BD := tbt BD hb
  clear hc hb
  go_wp2_with fail
  refine hK.out _ _ BD.out (fun hHeld => ?_)
  clear hK K
  refine tk0 6 ?_
  refine wpAnyH_done (by kernel_rfl) ?_ _
  clear hHeld
  have hb := BD.out
  replace KA := tkb hb LA KA
  replace LA := tlz LA hb.size
  replace B1 := tbt B1 hb
  replace BB := tbt BB hb
  clear hb BD
  clear FA
  go_wp2_with fail
  have FA : Hid (∀ w', Below w3.heap.size w3 w' → w'.cell? ⟨w1.heap.size, 0, none⟩ = some (.slice sa s.items.length sc) ∧ w'.cell? ⟨w1.heap.size, 1, none⟩ = some (.slice ta s.talks.length tc)) := Lib.hid (fun w' h => by have K := tkb h LA KA; exact ⟨tcr K 0, tcr K 1⟩)
  refine wp_region_held_drew (S := (fun w' => Below w3.heap.size w3 w')) (by kernel_rfl) (Below.refl _ _).drew (fun hHeld => ?_)
  obtain ⟨zE, hzE⟩ : ∃ zz, zz = w3.drew := ⟨_, rfl⟩
  rw [← hzE] at hHeld ⊢
  clear hzE
  have BD := Lib.hid hHeld
  refine tk0 0 ?_
  refine tk 1 (v := ?_) ?_ ?_; rotate_left
  · refine Or.inl ⟨by rfl, ?_⟩; intro w hSw; obtain ⟨hA0, hA1⟩ := FA.out w hSw; go_simp; first | done | with_reducible rfl
  refine tk0 2 ?_
  refine rd1 3 (fun K hK => ?_)
  go_simp
  have hc := KAT0.out _ (Hr8.out.later (BB.out.trans (BD.out.mono BB.out.size)))
  go_at_call 42
  refine hc.mono ?_
  rintro e w4 ⟨rfl, hww⟩
  have hb : Below zE.heap.size zE w4 := by rw [← hww]; exact Below.refl _ _
  clear hww
  replace BD := tbt BD hb
  clear hc hb
  go_wp2_with fail
  refine hK.out _ _ BD.out (fun hHeld => ?_)
  clear hK K
  refine tk0 4 ?_
  refine tk0 5 ?_
  refine rd1 6 (fun K hK => ?_)
  go_simp
  have hc := spec_export s _ 3 (m : Int) w4.heap.size w4 ((SV.out.later B1.out B1.out.size).later BD.out BD.out.size) (Nat.le_refl _) Hfit.out
  rw [← HE.out] at hc
  go_at_call 36
  refine hc.mono ?_
  rintro e w5 ⟨vW, rfl, hW, hb⟩
  obtain ⟨wa, wc, rfl, hraw⟩ := texts_raw hW
  have RW := Lib.hid hraw
  clear hraw hW
  replace BD := tbt BD hb
  clear hc hb
  go_wp2_with fail
  refine hK.out _ _ BD.out (fun hHeld => ?_)
  clear hK K
  refine rd1 7 (fun K hK => ?_)
  go_simp
  have hc := same_raw E _ _ w5.heap.size w5 (RE.out.later BD.out BD.out.size) RW.out (Nat.le_refl _)
  clear RW
  go_at_call 28
  refine hc.mono ?_
  rintro e w6 ⟨rfl, hb⟩
  replace BD := tbt BD hb
  clear hc hb
  go_wp2_with fail
  refine hK.out _ _ BD.out (fun hHeld => ?_)
  clear hK K
  refine tk0 8 ?_
  refine wpAnyH_done (by kernel_rfl) ?_ _
  clear hHeld
  have hb := BD.out
  replace KA := tkb hb LA KA
  replace LA := tlz LA hb.size
  replace B1 := tbt B1 hb
  replace GE := Lib.hid (sp_later GE.out hb)
  replace RE := Lib.hid (RE.out.later hb hb.size)
  replace BB := tbt BB hb
  clear hb BD
  clear FA hwr KAT0
  have hc := spec_stateOk s _ w6.heap.size w6 (SV.out.later B1.out B1.out.size) (Nat.le_refl _) Hfit.out
  have fA0 := tcr KA 0
  have fA1 := tcr KA 1
  go_wp2_with (go_at_call 43; refine hc.mono ?_; rintro e w7 ⟨rfl, hb⟩; refine Hid.out ?_)
  refine Lib.hid ?_
  replace KA := tkb hb LA KA
  replace LA := tlz LA hb.size
  replace B1 := tbt B1 hb
  replace GE := Lib.hid (sp_later GE.out hb)
  replace RE := Lib.hid (RE.out.later hb hb.size)
  replace BB := tbt BB hb
  clear hc hb fA0 fA1
  by_cases hok : stOk s = true
  · obtain ⟨h2, hread, hpos, hthree, hhurt⟩ := spoilt_rows hok hm1 hm2 HE.out
    have H3 := Lib.hid hthree
    have HH := Lib.hid hhurt
    have HR := Lib.hid hread
    have HP := Lib.hid hpos
    clear hread hpos hthree hhurt hm1 hm2
    obtain ⟨g, cl, hv, hgot⟩ := sp_got GE.out (by omega)
    obtain ⟨rfl, rfl⟩ : ea = some ⟨g, 0, none⟩ ∧ ec = cl := by injection hv with e1 _ e2; exact ⟨e1, e2⟩
    have GT := Lib.hid hgot
    have hcap : E.length ≤ ec := hgot.2.1
    have hcm : ec ≤ 9223372036854775807 := by have := hgot.2.2.1; unfold maxLen at this; omega
    clear GE hv hgot HE
    have hd2 : decide ((E.length : Int) < 2) = false := by rw [decide_eq_false_iff_not]; omega
    have hl0 : ((E.length : Int) == 0) = false := by rw [beq_eq_false_iff_ne]; omega
    obtain ⟨i, hi⟩ : ∃ i, i = x1 % E.length := ⟨_, rfl⟩
    have hil : i < E.length := by rw [hi]; exact Nat.mod_lt _ (by omega)
    have hti : (x1 : Int).tmod (E.length : Int) = (i : Int) := by rw [hi]; rfl
    clear hi hx1
    obtain ⟨i1, hi1⟩ : ∃ z, z = i + 1 := ⟨_, rfl⟩
    have HI1 := Lib.hid hi1
    have hw1 : IntKind.i64.wrap ((i : Int) + 1) = (i1 : Int) := by rw [hi1, IntKind.wrap_i64] <;> omega
    obtain ⟨L1, hL1⟩ : ∃ z, z = E.length - 1 := ⟨_, rfl⟩
    have HL1 : Hid (L1 + 1 = E.length) := Lib.hid (by omega)
    obtain ⟨j, hj⟩ : ∃ j, j = x2 % L1 := ⟨_, rfl⟩
    have hjl : j < L1 := by rw [hj]; exact Nat.mod_lt _ (by omega)
    have htj : (x2 : Int).tmod (L1 : Int) = (j : Int) := by rw [hj]; rfl
    have htj2 : (x2 : Int).tmod ((E.length : Int) - 1) = (j : Int) := by rw [show (E.length : Int) - 1 = (L1 : Int) by omega]; exact htj
    have htj3 : (x2 : Int) % ((E.length : Int) - 1) = (j : Int) := by rw [show (E.length : Int) - 1 = (L1 : Int) by omega, hj]; rfl
    clear hj hx2
    obtain ⟨s1, hs1⟩ : ∃ z, z = i1 + j := ⟨_, rfl⟩
    have hw3 : IntKind.i64.wrap ((i1 : Int) + (j : Int)) = (s1 : Int) := by rw [hs1, IntKind.wrap_i64] <;> omega
    have hw4 : wrap64 ((i1 : Int) + (j : Int)) = (s1 : Int) := by rw [hs1]; unfold wrap64; omega
    obtain ⟨k, hk⟩ : ∃ k, k = s1 % E.length := ⟨_, rfl⟩
    have hkl : k < E.length := by rw [hk]; exact Nat.mod_lt _ (by omega)
    have htk : (s1 : Int).tmod (E.length : Int) = (k : Int) := by rw [hk]; rfl
    have htk2 : (s1 : Int) % (E.length : Int) = (k : Int) := by rw [hk]; rfl
    have hik : Hid (i ≠ k) := Lib.hid (by rw [hk, hs1, hi1]; exact sp_ne hil (by omega))
    clear hk hs1 hi1 hL1 hjl
    have hc := KAT1.out w7 (Hr8.out.later BB.out)
    go_wp2_with (go_at_call 42; refine hc.mono ?_; rintro e wq ⟨rfl, rfl⟩; refine Hid.out ?_)
    refine Lib.hid ?_
    clear hc KAT1
    have hc := KAT2.out w7 (Hr8.out.later BB.out)
    go_wp2_with (go_at_call 42; refine hc.mono ?_; rintro e wq ⟨rfl, rfl⟩; refine Hid.out ?_)
    refine Lib.hid ?_
    clear hc KAT2
    obtain ⟨t1, t2, t3⟩ := H3.out i k hil hkl hik.out
    rw [← HI1.out] at t1
    obtain ⟨XL, hXL⟩ : ∃ x, x = E.take i ++ E.drop i1 := ⟨_, rfl⟩
    obtain ⟨XM, hXM⟩ : ∃ x, x = E.take i ++ [E[k]] ++ E.drop i := ⟨_, rfl⟩
    obtain ⟨XT, hXT⟩ : ∃ x, x = (E.set i E[k]).set k E[i] := ⟨_, rfl⟩
    rw [← hXL] at t1
    rw [← hXM] at t2
    rw [← hXT] at t3
    have C1 := Lib.hid t1
    have C2 := Lib.hid t2
    have C3 := Lib.hid t3
    obtain ⟨xi, hxi⟩ : ∃ x, x = E[i] := ⟨_, rfl⟩
    obtain ⟨xk, hxk⟩ : ∃ x, x = E[k] := ⟨_, rfl⟩
    rw [← hxk] at hXM
    rw [← hxk, ← hxi] at hXT
    have HXL := Lib.hid hXL
    have HXM := Lib.hid hXM
    have HXT := Lib.hid hXT
    have HXI := Lib.hid hxi
    have HXK := Lib.hid hxk
    have ZI : Hid (0 < xi.size ∧ xi.size ≤ 1000) := Lib.hid (by rw [hxi]; exact ⟨HP.out _ (List.getElem_mem hil), Hmem.out _ (List.getElem_mem hil)⟩)
    have ZK : Hid (xk.size ≤ 1000) := Lib.hid (by rw [hxk]; exact Hmem.out _ (List.getElem_mem hkl))
    clear t1 t2 t3 hXL hXM hXT hxi hxk H3 HP
    obtain ⟨aa, hif, haa⟩ : ∃ aa, (if ec = i1 then some (⟨g, 0, none⟩ : Addr) else some ⟨g, i1, none⟩) = some ⟨g, aa, none⟩ ∧ (i1 < E.length → aa = i1) := by
      by_cases h : ec = i1
      · exact ⟨0, by rw [if_pos h], fun h' => by omega⟩
      · exact ⟨i1, by rw [if_neg h], fun _ => rfl⟩
    have HAA := Lib.hid haa
    clear haa
    have hi1l : i1 ≤ E.length := by have := HI1.out; omega
    have b1 : (0 : Int) ≤ (i : Int) := by omega
    have b2 : (0 : Int) ≤ (i1 : Int) := by omega
    have b3 : (i : Int) ≤ (ec : Int) := by omega
    have b4 : (i1 : Int) ≤ (E.length : Int) := by omega
    have b5 : (E.length : Int) ≤ (ec : Int) := by omega
    have b6 : (i1 : Int) ≤ (ec : Int) := by omega
    have b7 : (i : Int) ≤ (E.length : Int) := by omega
    have n3 : i ≤ ec := by omega
    have n6 : i1 ≤ ec := by omega
    have n7 : i ≤ E.length := by omega
    go_wp2_with fail
    clear hti htj htj2 htj3 htk htk2 hw3 hw4 hd2 hl0
    refine wp_region_held_drew (S := (fun w' => Below w7.heap.size w7 w')) (by kernel_rfl) (Below.refl _ _).drew (fun hHeld => ?_)
    obtain ⟨zF, hzF⟩ : ∃ zz, zz = w7.drew := ⟨_, rfl⟩
    rw [← hzF] at hHeld ⊢
    clear hzF
    have BD := Lib.hid hHeld
    refine tk0 1 ?_
    refine tk0 2 ?_
    refine tk0 3 ?_
    refine tk0 5 ?_
    refine tk0 6 ?_
    refine tk0 7 ?_
    refine tk0 8 ?_
    refine rd1 0 (fun K hK => ?_)
    go_simp
    obtain ⟨V0, hV0⟩ : ∃ x, x = zF.alloc (.cells #[] 9) := ⟨_, rfl⟩
    rw [← hV0]
    have bV0 : Below zF.heap.size zF V0 := by rw [hV0]; exact (Below.refl _ _).alloc (Nat.le_refl _) _
    have G0 := Lib.hid (sp_new BD.out bV0 (by rw [hV0]; simp))
    clear hV0
    replace BD := tbt BD bV0
    refine hK.out _ _ BD.out (fun hHeld => ?_)
    clear hK K bV0
    obtain ⟨gV1, cV1, V1, run1, bd, gr, got⟩ := sp_app BD.out G0.out (sp_take (GT.out.later BD.out) i (by omega)) (ys := E.take i) (by simp; omega) (by omega)
    rw [Nat.zero_add] at run1 got
    have G1 := Lib.hid got
    clear got
    refine rd1 4 (fun K hK => ?_)
    refine step_run rfl _ _ _ rfl _ _ _ (by simp [Act.eval]) (by simp [Act.eval]) run1 ?_
    replace BD := Lib.hid bd
    clear run1 bd
    refine hK.out _ _ BD.out (fun hHeld => ?_)
    clear hK K
    try simp only [List.getElem_toArray, List.getElem_cons_zero, List.getElem_cons_succ, Act.put, List.setIfInBounds_toArray, List.set_cons_zero, List.set_cons_succ]
    clear G0 gr
    obtain ⟨gV2, cV2, V2, run1, bd, gr, got⟩ := sp_app BD.out G1.out (sp_drop (GT.out.later BD.out) i1 (by omega) aa HAA.out) (ys := E.drop i1) (by simp) (by omega)
    rw [show i + (E.length - i1) = L1 by have := HI1.out; have := HL1.out; omega] at run1 got
    have G2 := Lib.hid got
    clear got
    refine rd1 9 (fun K hK => ?_)
    refine step_run rfl _ _ _ rfl _ _ _ (by simp [Act.eval]) (by simp [Act.eval]) run1 ?_
    replace BD := Lib.hid bd
    clear run1 bd
    refine hK.out _ _ BD.out (fun hHeld => ?_)
    clear hK K
    try simp only [List.getElem_toArray, List.getElem_cons_zero, List.getElem_cons_succ, Act.put, List.setIfInBounds_toArray, List.set_cons_zero, List.set_cons_succ]
    clear G1 gr
    refine tk0 10 ?_
    refine wpAnyH_done (by kernel_rfl) ?_ _
    clear hHeld
    have hb := BD.out
    replace KA := tkb hb LA KA
    replace LA := tlz LA hb.size
    replace B1 := tbt B1 hb
    replace RE := Lib.hid (RE.out.later hb hb.size)
    replace GT := Lib.hid (GT.out.later hb)
    replace BB := tbt BB hb
    clear hb BD
    have RL : Hid (Raw V2 V2.heap.size (.slice (some ⟨gV2, 0, none⟩) L1 cV2) XL.length (XL.map Value.string)) := Lib.hid (by have h := G2.out; rw [List.nil_append, ← HXL.out] at h; exact raw_gotN h (by rw [HXL.out]; have := HI1.out; have := HL1.out; simp; omega))
    clear G2 hif HAA
    go_wp2_with fail
    go_cut [10] (fun v wx => ∃ (gm cm : Nat), v = .slice (some ⟨gm, 0, none⟩) (E.length + 1) cm ∧ Hid (Got wx V2.heap.size 9 1 gm (E.length + 1) cm ((E.take i ++ [xk] ++ E.drop i).map Value.string)) ∧ Hid (Below V2.heap.size V2 wx))
    case first =>
      have FK : Hid (∀ w', Below V2.heap.size V2 w' → w'.cell? ⟨g, k, none⟩ = some (.string xk)) := Lib.hid (fun w' h => by rw [HXK.out]; exact (sp_cell (GT.out.later h) k hkl).1)
      have hcl : ¬ ec = i := by omega
      have b8 : (0 : Int) ≤ (k : Int) := by omega
      refine wp_region_held_drew (S := (fun w' => Below V2.heap.size V2 w')) (by kernel_rfl) (Below.refl _ _).drew (fun hHeld => ?_)
      obtain ⟨zG, hzG⟩ : ∃ zz, zz = V2.drew := ⟨_, rfl⟩
      rw [← hzG] at hHeld ⊢
      clear hzG
      have BD := Lib.hid hHeld
      refine tk0 1 ?_
      refine tk0 2 ?_
      refine tk0 3 ?_
      refine tk0 5 ?_
      refine tk0 6 ?_
      refine tk0 7 ?_
      refine tk 8 (v := ?_) ?_ ?_; rotate_left
      · refine Or.inl ⟨by rfl, ?_⟩; intro w hSw; have hk0 := FK.out w hSw; go_simp; first | done | with_reducible rfl
      refine tk0 11 ?_
      refine tk0 12 ?_
      refine tk0 13 ?_
      refine rd2 0 9 (fun K hK => ?_) (fun K hK => ?_)
      · go_simp
        obtain ⟨V3, hV3⟩ : ∃ x, x = zG.alloc (.cells #[] 9) := ⟨_, rfl⟩
        rw [← hV3]
        have bV3 : Below zG.heap.size zG V3 := by rw [hV3]; exact (Below.refl _ _).alloc (Nat.le_refl _) _
        have G0 := Lib.hid (sp_new BD.out bV3 (by rw [hV3]; simp))
        clear hV3
        replace BD := tbt BD bV3
        refine hK.out _ _ BD.out (fun hHeld => ?_)
        clear hK K bV3
        refine rd2 4 9 (fun K hK => ?_) (fun K hK => ?_)
        · obtain ⟨gV4, cV4, V4, run1, bd, gr, got⟩ := sp_app BD.out G0.out (sp_take (GT.out.later BD.out) i (by omega)) (ys := E.take i) (by simp; omega) (by omega)
          rw [Nat.zero_add] at run1 got
          have G1 := Lib.hid got
          clear got
          refine step_run rfl _ _ _ rfl _ _ _ (by simp [Act.eval]) (by simp [Act.eval]) run1 ?_
          replace BD := Lib.hid bd
          clear run1 bd
          refine hK.out _ _ BD.out (fun hHeld => ?_)
          clear hK K
          try simp only [List.getElem_toArray, List.getElem_cons_zero, List.getElem_cons_succ, Act.put, List.setIfInBounds_toArray, List.set_cons_zero, List.set_cons_succ]
          clear gr G0
          refine rd1 9 (fun K hK => ?_)
          go_simp
          obtain ⟨V5, hV5⟩ : ∃ x, x = V4.alloc (.cells #[.string xk] 9) := ⟨_, rfl⟩
          rw [← hV5]
          have bV5 : Below V4.heap.size V4 V5 := by rw [hV5]; exact (Below.refl _ _).alloc (Nat.le_refl _) _
          have KE : Hid (V5.heap[V4.heap.size]? = some (.cells #[.string xk] 9 (0, 0))) := Lib.hid (by rw [hV5]; exact heap_new _ _)
          have LE : Hid (V4.heap.size < V5.heap.size) := Lib.hid (by rw [hV5]; simp)
          clear hV5
          replace G1 := Lib.hid (G1.out.later bV5)
          replace BD := tbt BD bV5
          refine hK.out _ _ BD.out (fun hHeld => ?_)
          clear hK K bV5
          obtain ⟨gUa, cUa, Ua, run1, bd, gr, got⟩ := sp_app BD.out G1.out (show Raw _ _ _ 1 (([xk] : List ByteArray).map Value.string) from one_rawS (cs := [.string xk]) KE.out LE.out) (ys := [xk]) rfl (by omega)
          have Gb := Lib.hid got
          clear got
          refine rd1 10 (fun K hK => ?_)
          refine step_run rfl _ _ _ rfl _ _ _ (by simp [Act.eval]) (by simp [Act.eval]) run1 ?_
          replace BD := Lib.hid bd
          clear run1 bd
          refine hK.out _ _ BD.out (fun hHeld => ?_)
          clear hK K
          try simp only [List.getElem_toArray, List.getElem_cons_zero, List.getElem_cons_succ, Act.put, List.setIfInBounds_toArray, List.set_cons_zero, List.set_cons_succ]
          clear gr KE LE
          obtain ⟨gUb, cUb, Ub, run1, bd, gr, got⟩ := sp_app BD.out Gb.out (sp_drop (GT.out.later BD.out) i (by omega) i (fun _ => rfl)) (ys := E.drop i) (by simp) (by omega)
          rw [show i + 1 + (E.length - i) = E.length + 1 by omega] at run1 got
          have Gc := Lib.hid got
          clear got
          refine rd1 14 (fun K hK => ?_)
          refine step_run rfl _ _ _ rfl _ _ _ (by simp [Act.eval]) (by simp [Act.eval]) run1 ?_
          replace BD := Lib.hid bd
          clear run1 bd
          refine hK.out _ _ BD.out (fun hHeld => ?_)
          clear hK K
          try simp only [List.getElem_toArray, List.getElem_cons_zero, List.getElem_cons_succ, Act.put, List.setIfInBounds_toArray, List.set_cons_zero, List.set_cons_succ]
          clear gr Gb
          refine tk0 15 ?_
          refine wpAnyH_done (by kernel_rfl) ?_ _
          clear hHeld
          rw [List.nil_append] at Gc
          go_wp2_with fail
          go_meet
          exact ⟨gUb, cUb, rfl, Gc, BD⟩
        · have lz : zG.heap.size < V3.heap.size := G0.out.2.2.2.2.1
          go_simp
          obtain ⟨V4, hV4⟩ : ∃ x, x = V3.alloc (.cells #[.string xk] 9) := ⟨_, rfl⟩
          rw [← hV4]
          have bV4 : Below V3.heap.size V3 V4 := by rw [hV4]; exact (Below.refl _ _).alloc (Nat.le_refl _) _
          have KE : Hid (V4.heap[V3.heap.size]? = some (.cells #[.string xk] 9 (0, 0))) := Lib.hid (by rw [hV4]; exact heap_new _ _)
          have LE : Hid (V3.heap.size < V4.heap.size) := Lib.hid (by rw [hV4]; simp)
          clear hV4
          replace G0 := Lib.hid (G0.out.later bV4)
          replace BD := tbt BD bV4
          refine hK.out _ _ BD.out (fun hHeld => ?_)
          clear hK K bV4
          refine rd1 4 (fun K hK => ?_)
          obtain ⟨gV5, cV5, V5, run1, bd, gr, got⟩ := sp_app BD.out G0.out (sp_take (GT.out.later BD.out) i (by omega)) (ys := E.take i) (by simp; omega) (by omega)
          rw [Nat.zero_add] at run1 got
          have G1 := Lib.hid got
          clear got
          refine step_run rfl _ _ _ rfl _ _ _ (by simp [Act.eval]) (by simp [Act.eval]) run1 ?_
          replace BD := Lib.hid bd
          clear run1 bd
          refine hK.out _ _ BD.out (fun hHeld => ?_)
          clear hK K
          try simp only [List.getElem_toArray, List.getElem_cons_zero, List.getElem_cons_succ, Act.put, List.setIfInBounds_toArray, List.set_cons_zero, List.set_cons_succ]
          replace KE := tkg gr LE KE (by simp; omega)
          replace LE := tlz LE gr.size
          clear gr G0 lz
          obtain ⟨gUa, cUa, Ua, run1, bd, gr, got⟩ := sp_app BD.out G1.out (show Raw _ _ _ 1 (([xk] : List ByteArray).map Value.string) from one_rawS (cs := [.string xk]) KE.out LE.out) (ys := [xk]) rfl (by omega)
          have Gb := Lib.hid got
          clear got
          refine rd1 10 (fun K hK => ?_)
          refine step_run rfl _ _ _ rfl _ _ _ (by simp [Act.eval]) (by simp [Act.eval]) run1 ?_
          replace BD := Lib.hid bd
          clear run1 bd
          refine hK.out _ _ BD.out (fun hHeld => ?_)
          clear hK K
          try simp only [List.getElem_toArray, List.getElem_cons_zero, List.getElem_cons_succ, Act.put, List.setIfInBounds_toArray, List.set_cons_zero, List.set_cons_succ]
          clear gr KE LE
          obtain ⟨gUb, cUb, Ub, run1, bd, gr, got⟩ := sp_app BD.out Gb.out (sp_drop (GT.out.later BD.out) i (by omega) i (fun _ => rfl)) (ys := E.drop i) (by simp) (by omega)
          rw [show i + 1 + (E.length - i) = E.length + 1 by omega] at run1 got
          have Gc := Lib.hid got
          clear got
          refine rd1 14 (fun K hK => ?_)
          refine step_run rfl _ _ _ rfl _ _ _ (by simp [Act.eval]) (by simp [Act.eval]) run1 ?_
          replace BD := Lib.hid bd
          clear run1 bd
          refine hK.out _ _ BD.out (fun hHeld => ?_)
          clear hK K
          try simp only [List.getElem_toArray, List.getElem_cons_zero, List.getElem_cons_succ, Act.put, List.setIfInBounds_toArray, List.set_cons_zero, List.set_cons_succ]
          clear gr Gb
          refine tk0 15 ?_
          refine wpAnyH_done (by kernel_rfl) ?_ _
          clear hHeld
          rw [List.nil_append] at Gc
          go_wp2_with fail
          go_meet
          exact ⟨gUb, cUb, rfl, Gc, BD⟩
      · go_simp
        obtain ⟨V3, hV3⟩ : ∃ x, x = zG.alloc (.cells #[.string xk] 9) := ⟨_, rfl⟩
        rw [← hV3]
        have bV3 : Below zG.heap.size zG V3 := by rw [hV3]; exact (Below.refl _ _).alloc (Nat.le_refl _) _
        have KE : Hid (V3.heap[zG.heap.size]? = some (.cells #[.string xk] 9 (0, 0))) := Lib.hid (by rw [hV3]; exact heap_new _ _)
        have LE : Hid (zG.heap.size < V3.heap.size) := Lib.hid (by rw [hV3]; simp)
        clear hV3
        replace BD := tbt BD bV3
        refine hK.out _ _ BD.out (fun hHeld => ?_)
        clear hK K bV3
        refine rd1 0 (fun K hK => ?_)
        go_simp
        obtain ⟨V4, hV4⟩ : ∃ x, x = V3.alloc (.cells #[] 9) := ⟨_, rfl⟩
        rw [← hV4]
        have bV4 : Below V3.heap.size V3 V4 := by rw [hV4]; exact (Below.refl _ _).alloc (Nat.le_refl _) _
        have G0 := Lib.hid (sp_new BD.out bV4 (by rw [hV4]; simp))
        clear hV4
        have lz : zG.heap.size < V3.heap.size := LE.out
        replace KE := tkb bV4 LE KE
        replace LE := tlz LE bV4.size
        replace BD := tbt BD bV4
        refine hK.out _ _ BD.out (fun hHeld => ?_)
        clear hK K bV4
        refine rd1 4 (fun K hK => ?_)
        obtain ⟨gV5, cV5, V5, run1, bd, gr, got⟩ := sp_app BD.out G0.out (sp_take (GT.out.later BD.out) i (by omega)) (ys := E.take i) (by simp; omega) (by omega)
        rw [Nat.zero_add] at run1 got
        have G1 := Lib.hid got
        clear got
        refine step_run rfl _ _ _ rfl _ _ _ (by simp [Act.eval]) (by simp [Act.eval]) run1 ?_
        replace BD := Lib.hid bd
        clear run1 bd
        refine hK.out _ _ BD.out (fun hHeld => ?_)
        clear hK K
        try simp only [List.getElem_toArray, List.getElem_cons_zero, List.getElem_cons_succ, Act.put, List.setIfInBounds_toArray, List.set_cons_zero, List.set_cons_succ]
        replace KE := tkg gr LE KE (by simp; omega)
        replace LE := tlz LE gr.size
        clear gr G0 lz
        obtain ⟨gUa, cUa, Ua, run1, bd, gr, got⟩ := sp_app BD.out G1.out (show Raw _ _ _ 1 (([xk] : List ByteArray).map Value.string) from one_rawS (cs := [.string xk]) KE.out LE.out) (ys := [xk]) rfl (by omega)
        have Gb := Lib.hid got
        clear got
        refine rd1 10 (fun K hK => ?_)
        refine step_run rfl _ _ _ rfl _ _ _ (by simp [Act.eval]) (by simp [Act.eval]) run1 ?_
        replace BD := Lib.hid bd
        clear run1 bd
        refine hK.out _ _ BD.out (fun hHeld => ?_)
        clear hK K
        try simp only [List.getElem_toArray, List.getElem_cons_zero, List.getElem_cons_succ, Act.put, List.setIfInBounds_toArray, List.set_cons_zero, List.set_cons_succ]
        clear gr KE LE
        obtain ⟨gUb, cUb, Ub, run1, bd, gr, got⟩ := sp_app BD.out Gb.out (sp_drop (GT.out.later BD.out) i (by omega) i (fun _ => rfl)) (ys := E.drop i) (by simp) (by omega)
        rw [show i + 1 + (E.length - i) = E.length + 1 by omega] at run1 got
        have Gc := Lib.hid got
        clear got
        refine rd1 14 (fun K hK => ?_)
        refine step_run rfl _ _ _ rfl _ _ _ (by simp [Act.eval]) (by simp [Act.eval]) run1 ?_
        replace BD := Lib.hid bd
        clear run1 bd
        refine hK.out _ _ BD.out (fun hHeld => ?_)
        clear hK K
        try simp only [List.getElem_toArray, List.getElem_cons_zero, List.getElem_cons_succ, Act.put, List.setIfInBounds_toArray, List.set_cons_zero, List.set_cons_succ]
        clear gr Gb
        refine tk0 15 ?_
        refine wpAnyH_done (by kernel_rfl) ?_ _
        clear hHeld
        rw [List.nil_append] at Gc
        go_wp2_with fail
        go_meet
        exact ⟨gUb, cUb, rfl, Gc, BD⟩
    case rest =>
      obtain ⟨gm, cm, rfl, GM, bA⟩ := hcut
      obtain ⟨U1, rfl⟩ : ∃ z, z = wc := ⟨_, rfl⟩
      have hb := bA.out
      replace KA := tkb hb LA KA
      replace LA := tlz LA hb.size
      replace B1 := tbt B1 hb
      replace RE := Lib.hid (RE.out.later hb hb.size)
      replace GT := Lib.hid (GT.out.later hb)
      replace RL := Lib.hid (RL.out.later hb hb.size)
      replace BB := tbt BB hb
      have RM : Hid (Raw U1 U1.heap.size (.slice (some ⟨gm, 0, none⟩) (E.length + 1) cm) XM.length (XM.map Value.string)) := Lib.hid (by have h := GM.out; rw [← HXM.out] at h; exact raw_gotN h (by rw [HXM.out]; simp; omega))
      clear GM bA hb
      obtain ⟨V, hV⟩ : ∃ V, V = U1.alloc (.cells #[] 9) := ⟨_, rfl⟩
      have bV : Below U1.heap.size U1 V := by rw [hV]; exact (Below.refl _ _).alloc (Nat.le_refl _) _
      obtain ⟨gz1, cz1, z1, run1, bz, gr, got⟩ := sp_app (w0 := U1) bV (sp_new (Below.refl _ _) bV (by rw [hV]; simp)) (RE.out.later bV bV.size) (ys := E) rfl (by omega)
      rw [Nat.zero_add] at run1 got
      rw [List.nil_append] at got
      have GT1 := Lib.hid got
      clear gr got bV
      rw [hV] at run1
      have RUN := Lib.hid run1
      clear run1 hV
      go_wp2_with (at_builtin; refine wpList_app rfl _ _ _ rfl _ _ _ (by simp [Act.eval]) (by simp [Act.eval]) RUN.out ?_; refine Hid.out ?_)
      refine Lib.hid ?_
      clear RUN
      have f1 := (sp_cell (GT.out.later bz) k hkl).1
      rw [← HXK.out] at f1
      obtain ⟨f2, f3⟩ := sp_cell GT1.out i hil
      obtain ⟨Y, hY⟩ : ∃ Y, Y = z1.setCell ⟨gz1, i, none⟩ (.string xk) := ⟨_, rfl⟩
      have gy := sp_set GT1.out i hil xk
      rw [← hY] at gy
      have bY : Below U1.heap.size U1 Y := by rw [hY]; exact bz.setCell (p := ⟨gz1, i, none⟩) GT1.out.2.2.2.1 _
      have f4 := (sp_cell (GT.out.later bY) i hil).1
      rw [← HXI.out] at f4
      obtain ⟨f5, f6⟩ := sp_cell gy k (by rw [List.length_set]; exact hkl)
      obtain ⟨Y2, hY2⟩ : ∃ z, z = Y.setCell ⟨gz1, k, none⟩ (.string xi) := ⟨_, rfl⟩
      have gy2 := sp_set gy k (by rw [List.length_set]; exact hkl) xi
      rw [← hY2, ← HXT.out] at gy2
      have bY2 : Below U1.heap.size U1 Y2 := by rw [hY2]; exact bY.setCell (p := ⟨gz1, k, none⟩) GT1.out.2.2.2.1 _
      have hXTl : XT.length = E.length := by rw [HXT.out]; simp
      have RT : Hid (Raw Y2 Y2.heap.size (.slice (some ⟨gz1, 0, none⟩) E.length cz1) XT.length (XT.map Value.string)) := Lib.hid (by have h := raw_gotN gy2 rfl; rwa [hXTl] at h ⊢)
      clear gy gy2 hXTl
      obtain ⟨V6, hV6⟩ : ∃ V, V = Y2.alloc (.cells #[] 9) := ⟨_, rfl⟩
      have bV6 : Below Y2.heap.size Y2 V6 := by rw [hV6]; exact (Below.refl _ _).alloc (Nat.le_refl _) _
      obtain ⟨gz2, cz2, z2, run1, bz2, gr, got⟩ := sp_app (w0 := Y2) bV6 (sp_new (Below.refl _ _) bV6 (by rw [hV6]; simp)) ((RE.out.later bY2 bY2.size).later bV6 bV6.size) (ys := E) rfl (by omega)
      rw [Nat.zero_add] at run1 got
      rw [List.nil_append] at got
      have GH := Lib.hid got
      clear gr got bV6
      rw [hV6, hY2, hY] at run1
      have RUN := Lib.hid run1
      rw [hY] at f4 f5 f6
      have BY2 := Lib.hid bY2
      have BZ2 := Lib.hid bz2
      have BBz : Hid (Below w.heap.size w z2) := Lib.hid (BB.out.trans ((bY2.trans (bz2.mono bY2.size)).mono BB.out.size))
      clear run1 hV6 hY hY2 bY bY2 GT1
      go_wp2_with (at_builtin; refine wpList_app rfl _ _ _ rfl _ _ _ (by simp [Act.eval]) (by simp [Act.eval]) RUN.out ?_; refine Hid.out ?_)
      refine Lib.hid ?_
      clear RUN f1 f2 f3 f4 f5 f6 bz bz2
      have f1 := (sp_cell (GT.out.later (BY2.out.trans (BZ2.out.mono BY2.out.size))) i hil).1
      rw [← HXI.out] at f1
      obtain ⟨cb, w9, hcv, hrow, hb9, hlt, hcapb, hfz⟩ := conv_bytes_free xi z2
      have ROW := Lib.hid hrow
      have HFZ := Lib.hid hfz
      have B9 := Lib.hid hb9
      have LT9 := Lib.hid hlt
      clear hrow hfz hb9 hlt
      have hc := KAT3.out w9 (Hr8.out.later (BBz.out.trans (B9.out.mono BBz.out.size)))
      go_wp2_with (go_at_call 42; refine hc.mono ?_; rintro e wq ⟨rfl, rfl⟩; refine Hid.out ?_)
      refine Lib.hid ?_
      clear hc KAT3 hcv f1
      have zi := ZI.out
      obtain ⟨n0, hn0⟩ : ∃ z, z = x3 % xi.size := ⟨_, rfl⟩
      have hnl : n0 < xi.size := by rw [hn0]; exact Nat.mod_lt _ (by omega)
      have htn : (x3 : Int).tmod (xi.size : Int) = (n0 : Int) := by rw [hn0]; rfl
      have htn2 : (x3 : Int) % (xi.size : Int) = (n0 : Int) := by rw [hn0]; rfl
      have hz0 : ((xi.size : Int) == 0) = false := by rw [beq_eq_false_iff_ne]; omega
      clear hn0
      obtain ⟨M, hM⟩ : ∃ z, z = 1 + x4 % 255 := ⟨_, rfl⟩
      have hM1 : Hid (M ≠ 0) := Lib.hid (by omega)
      have hM2 : M < 256 := by omega
      have hwM : IntKind.i64.wrap (1 + (x4 : Int).tmod 255) = (M : Int) := by rw [Int.tmod_eq_emod_of_nonneg (by omega), IntKind.wrap_i64] <;> omega
      have hM8 : (M : Int) % 256 = (M : Int) := by omega
      have hM9 : IntKind.u8.wrap (M : Int) = (M : Int) := by first | (rw [IntKind.wrap_u8]; omega) | (simp [IntKind.wrap]; omega)
      clear hM
      have hbl : xi.data.toList.length = xi.size := by rw [Array.length_toList]; rfl
      have hnl2 : n0 < xi.data.toList.length := by omega
      obtain ⟨b0, hb0⟩ : ∃ z, z = (xi.data.toList[n0]'hnl2).toNat := ⟨_, rfl⟩
      have HB0 := Lib.hid hb0
      have hb08 : b0 < 256 := by rw [hb0]; exact UInt8.toNat_lt _
      clear hb0
      obtain ⟨c, hcx⟩ : ∃ z, z = b0 ^^^ M := ⟨_, rfl⟩
      have hc8 : c < 256 := by rw [hcx]; exact Nat.xor_lt_two_pow (n := 8) hb08 hM2
      have hxor : bits .xor .u8 (b0 : Int) (M : Int) = (c : Int) := by rw [hcx]; exact u8_xor_nat b0 M hb08 hM2
      have hcc8 : (c : Int) % 256 = (c : Int) := by omega
      have HCX := Lib.hid hcx
      clear hcx
      obtain ⟨LL, hLL⟩ : ∃ z, z = xi.data.toList.set n0 (UInt8.ofNat c) := ⟨_, rfl⟩
      have HLL := Lib.hid hLL
      have hLLl : LL.length = xi.size := by rw [hLL, List.length_set]; exact hbl
      clear hLL
      go_wp2_with fail
      clear htn htn2 hz0
      go_cut [] (fun wx => Hid (Below z2.heap.size z2 wx) ∧ Hid (RowAt wx z2.heap.size LL))
      case first =>
        refine wp_region_held_drew (S := (fun w' => Below z2.heap.size z2 w')) (by kernel_rfl) B9.out.drew (fun hHeld => ?_)
        obtain ⟨zH, hzH⟩ : ∃ zz, zz = w9.drew := ⟨_, rfl⟩
        rw [← hzH] at hHeld ⊢
        have bH : Below w9.heap.size w9 zH := by rw [hzH]; exact (Below.refl _ _).drew
        clear hzH
        have BD := Lib.hid hHeld
        have rowH := ROW.out.below bH LT9.out
        have k0 := rowH n0 hnl2
        rw [← HB0.out] at k0
        have k1 := sp_frozen_move (HFZ.out n0 hnl) (bH.block _ LT9.out)
        have HROW := Lib.hid rowH
        have HK0 := Lib.hid k0
        have HK1 := Lib.hid k1
        have b9 : (0 : Int) ≤ (n0 : Int) := by omega
        clear rowH k0 k1
        refine tk0 0 ?_
        refine tk0 1 ?_
        refine tk0 2 ?_
        refine tk0 3 ?_
        refine tk0 4 ?_
        refine tk0 6 ?_
        refine rd2 5 7 (fun K hK => ?_) (fun K hK => ?_)
        · have k0 := HK0.out
          go_simp
          refine hK.out _ _ BD.out (fun hHeld => ?_)
          clear hK K k0
          refine rd1 7 (fun K hK => ?_)
          go_simp
          have hc := KAT4.out zH (Hr8.out.later (BBz.out.trans (BD.out.mono BBz.out.size)))
          go_at_call 42
          refine hc.mono ?_
          rintro e wq ⟨rfl, rfl⟩
          clear hc
          go_wp2_with fail
          refine hK.out _ _ BD.out (fun hHeld => ?_)
          clear hK K
          refine tk0 8 ?_
          refine tk0 9 ?_
          refine tk0 10 ?_
          refine tk0 11 ?_
          refine tk0 12 ?_
          refine rd1 13 (fun K hK => ?_)
          have k0 := HK0.out
          have k1 := HK1.out
          go_simp
          obtain ⟨Y3, hY3⟩ : ∃ z, z = zH.setCell ⟨z2.heap.size, n0, none⟩ (.int .u8 (c : Int)) := ⟨_, rfl⟩
          rw [← hY3]
          have BY3 : Below z2.heap.size z2 Y3 := by rw [hY3]; exact BD.out.setCell (p := ⟨z2.heap.size, n0, none⟩) (Nat.le_refl _) _
          have RY3 : RowAt Y3 z2.heap.size LL := by rw [hY3, HLL.out]; exact HROW.out.set n0 hnl2 _ c hc8
          refine hK.out _ _ BY3 (fun hHeld => ?_)
          clear hK K k0 k1 hY3
          refine wpAnyH_done (by kernel_rfl) ?_ _
          clear hHeld
          go_wp2_with fail
          go_meet
          exact ⟨Lib.hid BY3, Lib.hid RY3⟩
        · go_simp
          have hc := KAT4.out zH (Hr8.out.later (BBz.out.trans (BD.out.mono BBz.out.size)))
          go_at_call 42
          refine hc.mono ?_
          rintro e wq ⟨rfl, rfl⟩
          clear hc
          go_wp2_with fail
          refine hK.out _ _ BD.out (fun hHeld => ?_)
          clear hK K
          refine tk0 8 ?_
          refine tk0 9 ?_
          refine tk0 10 ?_
          refine rd1 5 (fun K hK => ?_)
          have k0 := HK0.out
          go_simp
          refine hK.out _ _ BD.out (fun hHeld => ?_)
          clear hK K k0
          refine tk0 11 ?_
          refine tk0 12 ?_
          refine rd1 13 (fun K hK => ?_)
          have k0 := HK0.out
          have k1 := HK1.out
          go_simp
          obtain ⟨Y3, hY3⟩ : ∃ z, z = zH.setCell ⟨z2.heap.size, n0, none⟩ (.int .u8 (c : Int)) := ⟨_, rfl⟩
          rw [← hY3]
          have BY3 : Below z2.heap.size z2 Y3 := by rw [hY3]; exact BD.out.setCell (p := ⟨z2.heap.size, n0, none⟩) (Nat.le_refl _) _
          have RY3 : RowAt Y3 z2.heap.size LL := by rw [hY3, HLL.out]; exact HROW.out.set n0 hnl2 _ c hc8
          refine hK.out _ _ BY3 (fun hHeld => ?_)
          clear hK K k0 k1 hY3
          refine wpAnyH_done (by kernel_rfl) ?_ _
          clear hHeld
          go_wp2_with fail
          go_meet
          exact ⟨Lib.hid BY3, Lib.hid RY3⟩
      case rest =>
        obtain ⟨bA, RW⟩ := hcut
        obtain ⟨Y3, rfl⟩ : ∃ z, z = wc := ⟨_, rfl⟩
        clear hxor hwM hM8 hM9 hcc8 KAT4 ROW HFZ B9 LT9
        have hback := conv_row Y3 z2.heap.size LL xi.size cb hLLl.symm RW.out
        obtain ⟨tt, htt⟩ : ∃ t : ByteArray, t = ⟨LL.toArray⟩ := ⟨_, rfl⟩
        rw [← htt] at hback
        have ztt : tt.size ≤ 1000 := by rw [htt]; show (List.toArray LL).size ≤ _; rw [List.size_toArray, hLLl]; exact zi.2
        obtain ⟨XH, hXH⟩ : ∃ x, x = E.set i tt := ⟨_, rfl⟩
        have C4 : Hid ((importS XH).2 = 2) := by
          refine Lib.hid ?_
          have key : ∀ x (hx : x = E[i]) (h : n0 < x.data.toList.length), (UInt8.ofNat c).toNat = (x.data.toList[n0]).toNat ^^^ M → (importS (E.set i ⟨(x.data.toList.set n0 (UInt8.ofNat c)).toArray⟩)).2 = 2 := by
            intro x hx h hcc
            subst hx
            exact HH.out i hil n0 h M _ hM1.out hM2 hcc
          rw [hXH, htt, HLL.out]
          exact key xi HXI.out hnl2 (by rw [toNat_small c hc8, HCX.out, HB0.out])
        have f2 := sp_cell (GH.out.later bA.out) i hil
        obtain ⟨f2, f3⟩ := f2
        obtain ⟨Y4, hY4⟩ : ∃ z, z = Y3.setCell ⟨gz2, i, none⟩ (.string tt) := ⟨_, rfl⟩
        have g4 := sp_set (GH.out.later bA.out) i hil tt
        rw [← hY4, ← hXH] at g4
        have bY4 : Below Y2.heap.size Y2 Y4 := by rw [hY4]; exact (BZ2.out.trans (bA.out.mono BZ2.out.size)).setCell (p := ⟨gz2, i, none⟩) GH.out.2.2.2.1 _
        have hXHl : XH.length = E.length := by rw [hXH]; simp
        have RH : Hid (Raw Y4 Y4.heap.size (.slice (some ⟨gz2, 0, none⟩) E.length cz2) XH.length (XH.map Value.string)) := Lib.hid (by have h := raw_gotN g4 rfl; rwa [hXHl] at h ⊢)
        replace RT := Lib.hid (RT.out.later bY4 bY4.size)
        have hb := BY2.out.trans (bY4.mono BY2.out.size)
        have NH : Hid (XH.length ≤ 600) := Lib.hid (by omega)
        have HXH := Lib.hid hXH
        clear g4 htt hXHl hXH bA RW GH bY4 BY2 BZ2 BBz HH hM1 hM2 HB0 HCX HLL hc8 hb08 hbl hnl hnl2 zi
        replace KA := tkb hb LA KA
        replace LA := tlz LA hb.size
        replace B1 := tbt B1 hb
        replace RE := Lib.hid (RE.out.later hb hb.size)
        replace GT := Lib.hid (GT.out.later hb)
        replace RL := Lib.hid (RL.out.later hb hb.size)
        replace RM := Lib.hid (RM.out.later hb hb.size)
        replace BB := tbt BB hb
        clear hb
        have hm1 := Hmem.out
        have hzk := ZK.out
        have hzi := ZI.out.2
        have ML : Hid (∀ x ∈ XL, x.size ≤ 1099511627776) := by
          refine Lib.hid (fun x hx => ?_)
          rw [HXL.out] at hx
          rcases List.mem_append.1 hx with h | h
          · have := hm1 x (List.mem_of_mem_take h); omega
          · have := hm1 x (List.mem_of_mem_drop h); omega
        have MM : Hid (∀ x ∈ XM, x.size ≤ 1099511627776) := by
          refine Lib.hid (fun x hx => ?_)
          rw [HXM.out] at hx
          rcases List.mem_append.1 hx with h | h
          · rcases List.mem_append.1 h with h | h
            · have := hm1 x (List.mem_of_mem_take h); omega
            · rw [List.mem_singleton.1 h]; omega
          · have := hm1 x (List.mem_of_mem_drop h); omega
        have MT : Hid (∀ x ∈ XT, x.size ≤ 1099511627776) := by
          refine Lib.hid (fun x hx => ?_)
          rw [HXT.out] at hx
          rcases List.mem_or_eq_of_mem_set hx with h | h
          · rcases List.mem_or_eq_of_mem_set h with h | h
            · have := hm1 x h; omega
            · rw [h]; omega
          · rw [h]; omega
        have MH : Hid (∀ x ∈ XH, x.size ≤ 1099511627776) := by
          refine Lib.hid (fun x hx => ?_)
          rw [HXH.out] at hx
          rcases List.mem_or_eq_of_mem_set hx with h | h
          · have := hm1 x h; omega
          · rw [h]; omega
        have ME : Hid (∀ x ∈ E, x.size ≤ 1099511627776) := Lib.hid (fun x hx => by have := hm1 x hx; omega)
        have NL : Hid (XL.length ≤ 1200) := Lib.hid (by rw [HXL.out]; simp; omega)
        have NM : Hid (XM.length ≤ 1200) := Lib.hid (by rw [HXM.out]; simp; omega)
        have NT : Hid (XT.length ≤ 1200) := Lib.hid (by rw [HXT.out]; simp; omega)
        clear hm1 hzk hzi HXL HXM HXT HXH HXI HXK
        obtain ⟨R1, hR⟩ : ∃ x, x = (importS XL).1 := ⟨_, rfl⟩
        have HR1 := Lib.hid hR
        clear hR
        have hc := impl_import XL _ Y4 (by have := NL.out; omega) ML.out RL.out
        rw [C1.out, ← HR1.out] at hc
        rw [hY4] at hc 
        go_wp2_with (go_at_call 37; refine hc.mono ?_; rintro e v1 ⟨vr, rfl, hd, hb⟩; refine Hid.out ?_)
        refine Lib.hid ?_
        rw [← hY4] at hb hd
        clear hY4
        replace KA := tkb hb LA KA
        replace LA := tlz LA hb.size
        replace B1 := tbt B1 hb
        replace RE := Lib.hid (RE.out.later hb hb.size)
        replace GT := Lib.hid (GT.out.later hb)
        replace RL := Lib.hid (RL.out.later hb hb.size)
        replace RM := Lib.hid (RM.out.later hb hb.size)
        replace RT := Lib.hid (RT.out.later hb hb.size)
        replace RH := Lib.hid (RH.out.later hb hb.size)
        replace BB := tbt BB hb
        clear hc hb 
        clear hback f2 f3
        obtain ⟨a1, k1, e1, l1, rfl⟩ := hd.two
        clear hd RL
        obtain ⟨Q1, hQ1⟩ : ∃ z, z = v1.alloc (.cells #[.slice a1 R1.items.length k1, .slice e1 R1.talks.length l1] 44) := ⟨_, rfl⟩
        have hb : Below v1.heap.size v1 Q1 := by rw [hQ1]; exact (Below.refl _ _).alloc (Nat.le_refl _) _
        replace KA := tkb hb LA KA
        replace LA := tlz LA hb.size
        replace B1 := tbt B1 hb
        replace RE := Lib.hid (RE.out.later hb hb.size)
        replace GT := Lib.hid (GT.out.later hb)
        replace RM := Lib.hid (RM.out.later hb hb.size)
        replace RT := Lib.hid (RT.out.later hb hb.size)
        replace RH := Lib.hid (RH.out.later hb hb.size)
        replace BB := tbt BB hb
        have KP1 : Hid (Q1.heap[v1.heap.size]? = some (.cells #[.slice a1 R1.items.length k1, .slice e1 R1.talks.length l1] 44 (0, 0))) := Lib.hid (by rw [hQ1]; exact heap_new _ _)
        have LP1 : Hid (v1.heap.size < Q1.heap.size) := Lib.hid (by rw [hQ1]; simp)
        clear hb
        clear KP1 LP1
        obtain ⟨R2, hR⟩ : ∃ x, x = (importS XM).1 := ⟨_, rfl⟩
        have HR2 := Lib.hid hR
        clear hR
        have hc := impl_import XM _ Q1 (by have := NM.out; omega) MM.out RM.out
        rw [C2.out, ← HR2.out] at hc
        rw [hQ1] at hc 
        go_wp2_with (go_at_call 37; refine hc.mono ?_; rintro e v2 ⟨vr, rfl, hd, hb⟩; refine Hid.out ?_)
        refine Lib.hid ?_
        rw [← hQ1] at hb hd
        clear hQ1
        replace KA := tkb hb LA KA
        replace LA := tlz LA hb.size
        replace B1 := tbt B1 hb
        replace RE := Lib.hid (RE.out.later hb hb.size)
        replace GT := Lib.hid (GT.out.later hb)
        replace RM := Lib.hid (RM.out.later hb hb.size)
        replace RT := Lib.hid (RT.out.later hb hb.size)
        replace RH := Lib.hid (RH.out.later hb hb.size)
        replace BB := tbt BB hb
        clear hc hb 
        obtain ⟨a2, k2, e2, l2, rfl⟩ := hd.two
        clear hd RM
        obtain ⟨Q2, hQ2⟩ : ∃ z, z = v2.alloc (.cells #[.slice a2 R2.items.length k2, .slice e2 R2.talks.length l2] 44) := ⟨_, rfl⟩
        have hb : Below v2.heap.size v2 Q2 := by rw [hQ2]; exact (Below.refl _ _).alloc (Nat.le_refl _) _
        replace KA := tkb hb LA KA
        replace LA := tlz LA hb.size
        replace B1 := tbt B1 hb
        replace RE := Lib.hid (RE.out.later hb hb.size)
        replace GT := Lib.hid (GT.out.later hb)
        replace RT := Lib.hid (RT.out.later hb hb.size)
        replace RH := Lib.hid (RH.out.later hb hb.size)
        replace BB := tbt BB hb
        have KP2 : Hid (Q2.heap[v2.heap.size]? = some (.cells #[.slice a2 R2.items.length k2, .slice e2 R2.talks.length l2] 44 (0, 0))) := Lib.hid (by rw [hQ2]; exact heap_new _ _)
        have LP2 : Hid (v2.heap.size < Q2.heap.size) := Lib.hid (by rw [hQ2]; simp)
        clear hb
        clear KP2 LP2
        obtain ⟨R3, hR⟩ : ∃ x, x = (importS XT).1 := ⟨_, rfl⟩
        have HR3 := Lib.hid hR
        clear hR
        have hc := impl_import XT _ Q2 (by have := NT.out; omega) MT.out RT.out
        rw [C3.out, ← HR3.out] at hc
        rw [hQ2] at hc 
        go_wp2_with (go_at_call 37; refine hc.mono ?_; rintro e v3 ⟨vr, rfl, hd, hb⟩; refine Hid.out ?_)
        refine Lib.hid ?_
        rw [← hQ2] at hb hd
        clear hQ2
        replace KA := tkb hb LA KA
        replace LA := tlz LA hb.size
        replace B1 := tbt B1 hb
        replace RE := Lib.hid (RE.out.later hb hb.size)
        replace GT := Lib.hid (GT.out.later hb)
        replace RT := Lib.hid (RT.out.later hb hb.size)
        replace RH := Lib.hid (RH.out.later hb hb.size)
        replace BB := tbt BB hb
        clear hc hb 
        obtain ⟨a3, k3, e3, l3, rfl⟩ := hd.two
        clear hd RT
        obtain ⟨Q3, hQ3⟩ : ∃ z, z = v3.alloc (.cells #[.slice a3 R3.items.length k3, .slice e3 R3.talks.length l3] 44) := ⟨_, rfl⟩
        have hb : Below v3.heap.size v3 Q3 := by rw [hQ3]; exact (Below.refl _ _).alloc (Nat.le_refl _) _
        replace KA := tkb hb LA KA
        replace LA := tlz LA hb.size
        replace B1 := tbt B1 hb
        replace RE := Lib.hid (RE.out.later hb hb.size)
        replace GT := Lib.hid (GT.out.later hb)
        replace RH := Lib.hid (RH.out.later hb hb.size)
        replace BB := tbt BB hb
        have KP3 : Hid (Q3.heap[v3.heap.size]? = some (.cells #[.slice a3 R3.items.length k3, .slice e3 R3.talks.length l3] 44 (0, 0))) := Lib.hid (by rw [hQ3]; exact heap_new _ _)
        have LP3 : Hid (v3.heap.size < Q3.heap.size) := Lib.hid (by rw [hQ3]; simp)
        clear hb
        clear KP3 LP3
        obtain ⟨R4, hR⟩ : ∃ x, x = (importS XH).1 := ⟨_, rfl⟩
        have HR4 := Lib.hid hR
        clear hR
        have hc := impl_import XH _ Q3 (by have := NH.out; omega) MH.out RH.out
        rw [C4.out, ← HR4.out] at hc
        rw [hQ3] at hc 
        go_wp2_with (go_at_call 37; refine hc.mono ?_; rintro e v4 ⟨vr, rfl, hd, hb⟩; refine Hid.out ?_)
        refine Lib.hid ?_
        rw [← hQ3] at hb hd
        clear hQ3
        replace KA := tkb hb LA KA
        replace LA := tlz LA hb.size
        replace B1 := tbt B1 hb
        replace RE := Lib.hid (RE.out.later hb hb.size)
        replace GT := Lib.hid (GT.out.later hb)
        replace RH := Lib.hid (RH.out.later hb hb.size)
        replace BB := tbt BB hb
        clear hc hb 
        obtain ⟨a4, k4, e4, l4, rfl⟩ := hd.two
        clear hd RH
        obtain ⟨Q4, hQ4⟩ : ∃ z, z = v4.alloc (.cells #[.slice a4 R4.items.length k4, .slice e4 R4.talks.length l4] 44) := ⟨_, rfl⟩
        have hb : Below v4.heap.size v4 Q4 := by rw [hQ4]; exact (Below.refl _ _).alloc (Nat.le_refl _) _
        replace KA := tkb hb LA KA
        replace LA := tlz LA hb.size
        replace B1 := tbt B1 hb
        replace RE := Lib.hid (RE.out.later hb hb.size)
        replace GT := Lib.hid (GT.out.later hb)
        replace BB := tbt BB hb
        have KP4 : Hid (Q4.heap[v4.heap.size]? = some (.cells #[.slice a4 R4.items.length k4, .slice e4 R4.talks.length l4] 44 (0, 0))) := Lib.hid (by rw [hQ4]; exact heap_new _ _)
        have LP4 : Hid (v4.heap.size < Q4.heap.size) := Lib.hid (by rw [hQ4]; simp)
        clear hb
        clear KP4 LP4
        have C5 : (importS E).2 = 0 := by rw [HR.out]
        obtain ⟨R5, hR⟩ : ∃ x, x = (importS E).1 := ⟨_, rfl⟩
        have HR5 := Lib.hid hR
        clear hR
        have hc := impl_import E _ Q4 (by have := hlnE; omega) ME.out RE.out
        rw [C5, ← HR5.out] at hc
        rw [hQ4] at hc 
        go_wp2_with (go_at_call 37; refine hc.mono ?_; rintro e v5 ⟨vr, rfl, hd, hb⟩; refine Hid.out ?_)
        refine Lib.hid ?_
        rw [← hQ4] at hb hd
        clear hQ4
        replace KA := tkb hb LA KA
        replace LA := tlz LA hb.size
        replace B1 := tbt B1 hb
        replace RE := Lib.hid (RE.out.later hb hb.size)
        replace GT := Lib.hid (GT.out.later hb)
        replace BB := tbt BB hb
        clear hc hb 
        obtain ⟨a5, k5, e5, l5, rfl⟩ := hd.two
        have D5 := Lib.hid hd
        clear hd 
        obtain ⟨Q5, hQ5⟩ : ∃ z, z = v5.alloc (.cells #[.slice a5 R5.items.length k5, .slice e5 R5.talks.length l5] 44) := ⟨_, rfl⟩
        have hb : Below v5.heap.size v5 Q5 := by rw [hQ5]; exact (Below.refl _ _).alloc (Nat.le_refl _) _
        replace KA := tkb hb LA KA
        replace LA := tlz LA hb.size
        replace B1 := tbt B1 hb
        replace RE := Lib.hid (RE.out.later hb hb.size)
        replace GT := Lib.hid (GT.out.later hb)
        replace D5 := Lib.hid (D5.out.later hb)
        replace BB := tbt BB hb
        have KP5 : Hid (Q5.heap[v5.heap.size]? = some (.cells #[.slice a5 R5.items.length k5, .slice e5 R5.talks.length l5] 44 (0, 0))) := Lib.hid (by rw [hQ5]; exact heap_new _ _)
        have LP5 : Hid (v5.heap.size < Q5.heap.size) := Lib.hid (by rw [hQ5]; simp)
        clear hb
        have e5 : R5 = s := by rw [HR5.out, HR.out]
        have HE5 := Lib.hid e5
        clear e5
        have hc := spec_same R5 s _ _ Q5.heap.size Q5 D5.out.st.rd (SV.out.later B1.out B1.out.size).rd (Nat.le_refl _)
        have fP50 := tcr KP5 0
        have fP51 := tcr KP5 1
        have fA0 := tcr KA 0
        have fA1 := tcr KA 1
        rw [hQ5] at hc fP50 fP51 fA0 fA1
        go_wp2_with (go_at_call 38; refine hc.mono ?_; rintro e v6 ⟨bb, rfl, hbe, hb⟩; refine Hid.out ?_)
        refine Lib.hid ?_
        rw [← hQ5] at hb 
        clear hQ5
        replace KA := tkb hb LA KA
        replace LA := tlz LA hb.size
        replace KP5 := tkb hb LP5 KP5
        replace LP5 := tlz LP5 hb.size
        replace B1 := tbt B1 hb
        replace RE := Lib.hid (RE.out.later hb hb.size)
        replace GT := Lib.hid (GT.out.later hb)
        replace D5 := Lib.hid (D5.out.later hb)
        replace BB := tbt BB hb
        clear hc hb fP50 fP51 fA0 fA1
        obtain rfl : bb = true := hbe.2 HE5.out
        clear hbe
        go_wp2_with fail
        go_ret
        exact ⟨rfl, BB.out⟩
  · have hs1 : stOk s = false := by simpa using hok
    have hE0 : E = [] := by rw [HE.out]; exact exp_none (fun h => hok h.1)
    have hl0 : ((E.length : Int) == 0) = true := by rw [hE0]; rfl
    clear hE0
    rw [hs1]
    go_wp2_with fail
    go_ret
    exact ⟨rfl, BB.out⟩
end Go.Proofs.Ytlklhmdpkicpnaa
