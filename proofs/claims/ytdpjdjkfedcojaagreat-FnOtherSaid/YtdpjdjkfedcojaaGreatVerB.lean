/- What the proofs of this seat have in common: plain facts, rows in memory, the laws' own helpers, the small functions' contracts. Condition: none. -/
import Derived.Test.YtdpjdjkfedcojaaGreatBaseA
import Derived.Test.YtdpjdjkfedcojaaGreatImplCut
import Derived.Test.YtdpjdjkfedcojaaGreatImplEnc
import Derived.Test.YtdpjdjkfedcojaaGreatStrA
import Derived.Test.YtdpjdjkfedcojaaGreatImplSeal
import Derived.Test.YtdpjdjkfedcojaaGreatDrwC
import Derived.Test.YtdpjdjkfedcojaaGreatTexts
namespace Go.Proofs.YtdpjdjkfedcojaaGreat
open Go.RowKit
set_option linter.unusedVariables false
set_option linter.unusedSimpArgs false

set_option maxRecDepth 100000 in
set_option maxHeartbeats 4000000 in
theorem impl_export (s : St) (v : Value) (n size : Int) (B : Nat) (w : World) (hs : StV w B v s) (hB : B ≤ w.heap.size) (hfit : Fits s) :
    Calls Tryz.prog 7 #[v, .int .i64 n, .int .i64 size] w fun e w' => ∃ r, e = .returned r ∧ Texts w' w.heap.size r (cutS (fmtS s n) size) ∧ Below w.heap.size w w' := by
  obtain ⟨vi, vt, rfl, hri, hrt⟩ := hs.rd
  obtain ⟨W, hW⟩ : ∃ W, W = w.alloc (.cells #[vi, vt] 27) := ⟨_, rfl⟩
  have bW : Below w.heap.size w W := by rw [hW]; exact (Below.refl _ _).alloc (Nat.le_refl _) _
  have hc0 := impl_encode s _ n B W (hs.later (bW.mono hB) (Nat.le_refl _)) (Nat.le_trans hB bW.size) hfit
  have hle := fmt_le s n
  have BB := Lib.hid bW
  clear bW hs hri hrt
  obtain ⟨E, hE⟩ : ∃ z, z = fmtS s n := ⟨_, rfl⟩
  rw [← hE] at hc0 hle ⊢
  have k2 := fun w => impl_cut E size w (by omega)
  clear hE
  rw [hW] at hc0
  go_enter Tryz.func7, Tryz.ntmps7
  go_wp2_with (first | (go_at_call 28; refine hc0.mono ?_; rintro e w1 ⟨rfl, hb⟩; rw [← hW] at hb; replace BB := tbt BB hb; clear hb) | (go_at_call 27; refine (k2 _).mono ?_; rintro e w2 ⟨r, rfl, hr, hb⟩))
  go_ret
  exact ⟨_, rfl, hr.lower BB.out.size, BB.out.trans (hb.mono BB.out.size)⟩
end Go.Proofs.YtdpjdjkfedcojaaGreat

namespace Go.Proofs.YtdpjdjkfedcojaaGreat
open Go.RowKit
set_option linter.unusedVariables false
set_option linter.unusedSimpArgs false

/-- A byte of the code, or a number that stands for it: which one, the code alone says. -/
theorem at_val (a : Option Addr) (len cap : Nat) (zs : List Int) (i : Nat) (hi : i ≤ 100000) (w : World) (hr : Row8 w w.heap.size a len cap zs) (hl : len ≤ 1048576) :
    Calls Tryz.prog 8 #[.slice a len cap, .int .i64 i] w fun e w' => ∃ x : Nat, x < 256 ∧ (i < len → (x : Int) = zs.getD i 0) ∧ (¬ i < len → x = (i * 7 + len) % 256) ∧ e = .returned (.int .i64 x) ∧ w = w' := by
  by_cases h : i < len
  · obtain ⟨b, off, z, rfl, hb, hcell, hz0, hz1, hzz⟩ := hr.byte i h
    have HZ := Lib.hid hzz
    clear hzz
    obtain ⟨x, rfl⟩ := Int.eq_ofNat_of_zero_le hz0
    go_enter Tryz.func8, Tryz.ntmps8
    go_wp2_with fail
    go_ret
    exact ⟨x, by omega, fun _ => HZ.out, fun h' => absurd h h', rfl, rfl⟩
  · have hv : Hid (((i : Int) * 7 + (len : Int)).tmod 256 = (((i * 7 + len) % 256 : Nat) : Int)) := Lib.hid (by rw [Int.tmod_eq_emod_of_nonneg (by omega)]; omega)
    go_enter Tryz.func8, Tryz.ntmps8
    go_wp2_with fail
    go_ret
    exact ⟨(i * 7 + len) % 256, by omega, fun h' => absurd h' h, fun _ => rfl, ret_int (by rw [← hv.out]; rfl), rfl⟩
theorem at_the (a : Option Addr) (len cap : Nat) (zs : List Int) (i : Nat) (hi : i ≤ 100000) (w : World) (hr : Row8 w w.heap.size a len cap zs) (hl : len ≤ 1048576) :
    ∃ x : Nat, x < 256 ∧ ∀ w', Row8 w' w'.heap.size a len cap zs → Calls Tryz.prog 8 #[.slice a len cap, .int .i64 i] w' fun e w'' => e = .returned (.int .i64 x) ∧ w' = w'' := by
  by_cases h : i < len
  · obtain ⟨b, off, z, _, _, _, hz0, hz1, hzz⟩ := hr.byte i h
    obtain ⟨x, rfl⟩ := Int.eq_ofNat_of_zero_le hz0
    refine ⟨x, by omega, fun w' hr' => (at_val a len cap zs i hi w' hr' hl).mono ?_⟩
    rintro e w'' ⟨y, hy, h1, _, rfl, hw⟩
    have := h1 h
    obtain rfl : y = x := by omega
    exact ⟨rfl, hw⟩
  · refine ⟨(i * 7 + len) % 256, by omega, fun w' hr' => (at_val a len cap zs i hi w' hr' hl).mono ?_⟩
    rintro e w'' ⟨y, hy, _, h2, rfl, hw⟩
    rw [h2 h]
    exact ⟨rfl, hw⟩
theorem sp_ne {n i j : Nat} (h : i < n) (hj : j + 1 < n) : i ≠ (i + 1 + j) % n := by
  rcases Nat.lt_or_ge (i + 1 + j) n with h1 | h1
  · rw [Nat.mod_eq_of_lt h1]; omega
  · rw [Nat.mod_eq_sub_mod h1, Nat.mod_eq_of_lt (by omega)]; omega
section
variable {w w0 : World} {base g cap : Nat} {E : List ByteArray}
theorem sp_got {B : Nat} {v : Value} (h : Texts w B v E) (h0 : E.length ≠ 0) : ∃ g cap, v = .slice (some ⟨g, 0, none⟩) E.length cap ∧ Got w B 9 1 g E.length cap (E.map Value.string) := by
  obtain ⟨hl, ⟨hv, h00⟩ | ⟨g, cap, cur, hv, hg, hh, hc, hm, hs, ht⟩⟩ := id h
  · exact absurd h00 h0
  · exact ⟨g, cap, hv, by simp, hc, hm, hg, (Array.getElem?_eq_some_iff.1 hh).1, .inr (by rw [← hv]; exact h)⟩
theorem sp_later {w' : World} {B : Nat} {v : Value} (h : Texts w B v E) (hb : Below w.heap.size w w') : Texts w' B v E := owns_later h hb
theorem sp_cell (h : Got w base 9 1 g E.length cap (E.map Value.string)) (k : Nat) (hk : k < E.length) : w.cell? ⟨g, k, none⟩ = some (.string E[k]) ∧ w.frozen? ⟨g, k, none⟩ = false := by
  obtain ⟨cur, h1, h2, h3⟩ := got_cells h (by omega)
  refine ⟨?_, frozen_of_row w g k cur 9 h1⟩
  rw [cell_of_row w g k cur 9 _ h1]
  have h4 : (E.map Value.string)[k]? = some (.string E[k]) := by rw [List.getElem?_map, List.getElem?_eq_getElem hk]; rfl
  rw [← h3, List.getElem?_take, if_pos (by omega), Array.getElem?_toList] at h4
  exact h4
theorem sp_set (h : Got w base 9 1 g E.length cap (E.map Value.string)) (k : Nat) (hk : k < E.length) (u : ByteArray) :
    Got (w.setCell ⟨g, k, none⟩ (.string u)) base 9 1 g (E.set k u).length cap ((E.set k u).map Value.string) := by
  have hc := h.2.1
  obtain ⟨cur, h1, h2, h3⟩ := got_put h (by omega) k [.string u] E.length hc (by simp; omega)
  have h3 : Got (w.setCell ⟨g, k, none⟩ (.string u)) base 9 1 g E.length cap ((cur.take k ++ [Value.string u] ++ cur.drop (k + 1)).take (E.length * 1)) := h3
  have e : cur.take k ++ [Value.string u] ++ cur.drop (k + 1) = cur.set k (.string u) := by
    rw [List.set_eq_take_append_cons_drop, if_pos (by omega)]; simp
  rw [e, List.take_set, h2, ← List.map_set] at h3
  rw [List.length_set]
  exact h3
theorem sp_take (h : Got w base 9 1 g E.length cap (E.map Value.string)) (i : Nat) (hi : i ≤ E.length) : Raw w w.heap.size (.slice (some ⟨g, 0, none⟩) i cap) i ((E.take i).map Value.string) := by
  have hc := h.2.1
  refine ⟨_, cap, rfl, by omega, h.2.2.1, (fun h => by cases h), fun hp => ⟨g, 0, rfl, h.2.2.2.2.1, fun j u hu => ?_⟩⟩
  have hj : j < (E.take i).length := by
    rcases Nat.lt_or_ge j (E.take i).length with hl | hl
    · exact hl
    · rw [List.getElem?_eq_none (by rw [List.length_map]; exact hl)] at hu; cases hu
  have hj2 : j < E.length := by rw [List.length_take] at hj; omega
  rw [Nat.zero_add, (sp_cell h j hj2).1]
  rw [List.getElem?_map, List.getElem?_eq_getElem hj] at hu
  rw [← hu, List.getElem_take]
  rfl
theorem sp_drop (h : Got w base 9 1 g E.length cap (E.map Value.string)) (o : Nat) (ho : o ≤ E.length) (a : Nat) (ha : o < E.length → a = o) :
    Raw w w.heap.size (.slice (some ⟨g, a, none⟩) (E.length - o) (cap - o)) (E.length - o) ((E.drop o).map Value.string) := by
  have hc := h.2.1
  have hm := h.2.2.1
  refine ⟨_, cap - o, rfl, by omega, by omega, (fun h => by cases h), fun hp => ⟨g, a, rfl, h.2.2.2.2.1, fun j u hu => ?_⟩⟩
  obtain rfl := ha (by omega)
  have hj : j < (E.drop a).length := by
    rcases Nat.lt_or_ge j (E.drop a).length with hl | hl
    · exact hl
    · rw [List.getElem?_eq_none (by rw [List.length_map]; exact hl)] at hu; cases hu
  have hj2 : a + j < E.length := by rw [List.length_drop] at hj; omega
  rw [(sp_cell h (a + j) hj2).1]
  rw [List.getElem?_map, List.getElem?_eq_getElem hj] at hu
  rw [← hu, List.getElem_drop]
  rfl
theorem raw_gotN {n : Nat} (h : Got w base 9 1 g n cap (E.map Value.string)) (hn : n = E.length) : Raw w w.heap.size (.slice (some ⟨g, 0, none⟩) n cap) E.length (E.map Value.string) := by
  subst hn
  exact raw_of_row (row_of_got h)
/-- An empty row of the call's own. -/
theorem sp_new (hb : Below w0.heap.size w0 w) {V : World} (hV : Below w.heap.size w V) (hs : w.heap.size < V.heap.size) : Got V w0.heap.size 9 1 w.heap.size 0 0 (([] : List ByteArray).map Value.string) :=
  ⟨rfl, Nat.le_refl _, Nat.zero_le _, hb.size, hs, .inl ⟨rfl, rfl⟩⟩
/-- A row put behind a row of the call's own. -/
theorem sp_app {n m c : Nat} {xs ys : List ByteArray} {v : Value} (hb : Below w0.heap.size w0 w) (h : Got w w0.heap.size 9 1 g n c (xs.map Value.string)) (hr : Raw w w.heap.size v m (ys.map Value.string)) (hm : m = ys.length) (hz : n + m ≤ 100000) :
    ∃ g' c' w', (Builtin.append_ #[30, 30] 30 #[.slice (some ⟨g, 0, none⟩) n c, v]).run Tryz.prog w = .ok (.slice (some ⟨g', 0, none⟩) (n + m) c') w' ∧ Below w0.heap.size w0 w' ∧ w.grownBy w' (some g) ∧ Got w' w0.heap.size 9 1 g' (n + m) c' ((xs ++ ys).map Value.string) := by
  obtain ⟨i0, p1, p2, p3, p4⟩ := info_parts infoS7
  obtain ⟨g', c', w', r1, r2, r3, r4⟩ := run_app (P := Tryz.prog) w 30 30 9 i0 _ 1 16 Tryz.underlying30 p1 p2 p3 p4 rfl (by decide) g n c w0.heap.size _ h v w.heap.size m _ hr (by rw [List.length_map, Nat.mul_one]; exact hm.symm) (fun u hu => by obtain ⟨x, _, rfl⟩ := List.mem_map.1 hu; rfl) (by unfold maxLen; omega) (by omega)
  rw [← List.map_append] at r4
  exact ⟨g', c', w', r1, hb.grown r2 hb.size (fun k hk => by cases hk; exact h.2.2.2.1), r2, r4⟩
end
theorem sp_row_set {w : World} {g : Nat} {l : List UInt8} (h : RowAt w g l) (j : Nat) (hj : j < l.length) (c : Nat) (hc : c < 256) : RowAt (w.setCell ⟨g, j, none⟩ (.int .u8 (c : Int))) g (l.set j (UInt8.ofNat c)) := fun i hi => by
  rw [List.length_set] at hi
  by_cases he : j = i
  · subst he
    rw [World.cell?_setCell_same _ _ _ (h j hj)]
    simp
    omega
  · rw [World.cell?_setCell_other _ _ _ _ (fun e => he (congrArg Addr.off e)), h i hi]
    simp [he]
theorem sp_row_move {w w' : World} {g : Nat} {l : List UInt8} (h : RowAt w g l) (hb : w'.heap[g]? = w.heap[g]?) : RowAt w' g l := fun j hj => (World.cell?_of_block hb).trans (h j hj)
theorem sp_frozen_move {w w' : World} {g j : Nat} (h : w.frozen? ⟨g, j, none⟩ = false) (hb : w'.heap[g]? = w.heap[g]?) : w'.frozen? ⟨g, j, none⟩ = false := by
  unfold World.frozen? at h ⊢
  simp only [hb]
  exact h
end Go.Proofs.YtdpjdjkfedcojaaGreat
