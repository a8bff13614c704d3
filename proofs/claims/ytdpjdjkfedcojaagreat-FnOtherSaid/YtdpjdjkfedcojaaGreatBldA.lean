/- What the proofs of this seat have in common: plain facts, rows in memory, the laws' own helpers, the small functions' contracts. Condition: none. -/
import Derived.Test.YtdpjdjkfedcojaaGreatNumA
import Derived.Test.YtdpjdjkfedcojaaGreatBaseA
import Derived.Test.YtdpjdjkfedcojaaGreatShelf
import Derived.Shelf.Strings.Builder1
import Derived.BigCall
import Derived.Shelf.Strings.BuilderK
import Derived.Test.YtdpjdjkfedcojaaGreatFmtA
namespace Go.Proofs.YtdpjdjkfedcojaaGreat
open Go.RowKit
set_option linter.unusedVariables false
set_option linter.unusedSimpArgs false

theorem sizeBld : (Tryz.prog.info? 125).map (·.size) = some 2 := by kernel_rfl
theorem liesBld : liesAt Tryz.prog Tryz.prog.depth 125 (2 / Tryz.prog.cellsOf 125) 0 125 1 = true := by kernel_rfl
theorem bldByte : (125 : Nat) ≠ 5 := by decide
/-- A builder that holds these bytes. -/
def Bld (w : World) (B b : Nat) (l : List UInt8) : Prop := Lib.IsBuilder 125 5 B b (Lib.byteCells l) w
theorem Bld.fresh (w : World) : Bld (w.alloc (.cells #[.pointer none, .slice none 0 0] 125)) w.heap.size w.heap.size [] := Lib.fresh_isBuilder _ _ _
theorem at_later {T e : TypeId} {B b : Nat} {p : Value} {bs : List Value} {w w' : World} (h : Lib.BuilderAt T e B b p bs w) (hb : Below w.heap.size w w') : Lib.BuilderAt T e B b p bs w' := by
  have hl := h.lt
  obtain ⟨h1, v, h2, h3, h4⟩ := h
  exact ⟨h1, v, (hb.block _ hl).trans h2, owns_later h3 hb, h4⟩
theorem Bld.later {w w' : World} {B b : Nat} {l : List UInt8} (h : Bld w B b l) (hb : Below w.heap.size w w') : Bld w' B b l := by
  rcases h with h | h
  · exact .inl (at_later h hb)
  · exact .inr (at_later h hb)
set_option maxHeartbeats 1000000 in
set_option maxRecDepth 100000 in
theorem copy_used (b : Nat) (w : World) (h0 : w.cell? ⟨b, 0, none⟩ = some (.pointer (some ⟨b, 0, none⟩))) :
    Calls Tryz.prog 114 #[.pointer (some ⟨b, 0, none⟩)] w fun e w' => e = .returned (.tuple #[]) ∧ w' = w := by
  obtain ⟨j, hj, _⟩ := Option.map_eq_some_iff.1 sizeBld
  go_enter Tryz.func114, Tryz.ntmps114
  go_wp2
  rw [Lib.run_neq_ptr_same w _ Tryz.underlying123 hj]
  go_wp2
  go_end0
  exact ⟨rfl, rfl⟩
set_option maxHeartbeats 1000000 in
set_option maxRecDepth 100000 in
theorem copy_fresh (b : Nat) (w : World) (h0 : w.cell? ⟨b, 0, none⟩ = some (.pointer none)) (hsh : w.shape? b = some (125, 2)) (hfz : w.frozen? ⟨b, 0, none⟩ = false) :
    Calls Tryz.prog 114 #[.pointer (some ⟨b, 0, none⟩)] w fun e w' => e = .returned (.tuple #[]) ∧ w' = w.setCell ⟨b, 0, none⟩ (.pointer (some ⟨b, 0, none⟩)) := by
  obtain ⟨j, hj, hjs⟩ := Option.map_eq_some_iff.1 sizeBld
  go_enter Tryz.func114, Tryz.ntmps114
  go_wp2
  rw [Lib.run_to_unsafe w ⟨b, 0, none⟩ Tryz.underlying123 Tryz.underlying150 hj (by rw [hjs]; decide) hsh (Nat.zero_lt_succ 1)]
  simp only [Result.andThen]
  rw [Oper.upon_value]
  go_wp2
  rw [run_callFunc_extern Tryz.func117 (by kernel_rfl) (by kernel_rfl) (by kernel_rfl) (e := Extern.AbiNoEscape.same) (by kernel_rfl)]
  rw [Lib.run_noEscape]
  simp only [Result.andThen]
  rw [Oper.upon_value]
  go_wp2
  rw [Lib.run_from_unsafe w ⟨b, 0, none⟩ Tryz.underlying150 Tryz.underlying123 hj hsh liesBld]
  simp only [Result.andThen]
  rw [Oper.upon_value]
  go_wp2
  go_end0
  exact ⟨rfl, rfl⟩
theorem copy_any (B b : Nat) (l : List UInt8) (w : World) (h : Bld w B b l) :
    Calls Tryz.prog 114 #[.pointer (some ⟨b, 0, none⟩)] w fun e w' => e = .returned (.tuple #[]) ∧ Lib.BuilderAt 125 5 B b (.pointer (some ⟨b, 0, none⟩)) (Lib.byteCells l) w' ∧ Below B w w' := by
  rcases h with h | h
  · refine (copy_fresh b w h.cell0 h.shape h.frozen0).mono ?_
    rintro e w' ⟨rfl, rfl⟩
    exact ⟨rfl, h.used _, (Below.refl B w).setCell (p := ⟨b, 0, none⟩) h.1 _⟩
  · refine (copy_used b w h.cell0).mono ?_
    rintro e w' ⟨rfl, rfl⟩
    exact ⟨rfl, h, Below.refl B _⟩
set_option maxHeartbeats 2000000 in
set_option maxRecDepth 100000 in
theorem bld_write (B b : Nat) (l : List UInt8) (s : ByteArray) (w : World) (h : Bld w B b l) (hlen : l.length + s.size ≤ 140737488355328) (hBw : B ≤ w.heap.size) :
    Calls Tryz.prog 99 #[.pointer (some ⟨b, 0, none⟩), .string s] w fun e w' => e = .returned (.tuple #[.int .i64 s.size, .nilIface]) ∧ Bld w' B b (l ++ s.data.toList) ∧ Below B w w' := by
  obtain ⟨i0, hi, hz0, hz1, hz2⟩ := info_parts infoB
  go_enter Tryz.func99, Tryz.ntmps99
  go_wp2_with (go_at_call 114; refine (copy_any B b _ _ h).mono ?_)
  rintro e w1 ⟨rfl, ⟨hB, v, hbk, hown, hne⟩, hb1⟩
  have c0 : w1.cell? ⟨b, 0, none⟩ = some (.pointer (some ⟨b, 0, none⟩)) := by rw [Lib.cell_of_heap hbk]; rfl
  have c1 : w1.cell? ⟨b, 1, none⟩ = some v := by rw [Lib.cell_of_heap hbk]; rfl
  go_wp2_with (at_builtin; refine Lib.wpList_append_own_string _ rfl _ _ 22 9 rfl B 5 i0 Tryz.underlying22 Tryz.underlying9 hi hz0 hz1 hz2 _ _ _ rfl hown s rfl ?c3 ?c4 ?c5 ?_)
  case c3 => rw [Lib.byteCells_length]; unfold maxLen; omega
  case c4 => rw [Lib.byteCells_length]; omega
  case c5 => have := hb1.size; omega
  intro v' w2 hown' hgrow _
  have hlt : b < w1.heap.size := by
    rcases Nat.lt_or_ge b w1.heap.size with h' | h'
    · exact h'
    · simp [Array.getElem?_eq_none h'] at hbk
  have hb2 : w2.heap[b]? = some (.cells #[.pointer (some ⟨b, 0, none⟩), v] 125 (0, 0)) := by
    rw [hgrow.block b hlt (fun e => hne e.symm)]
    exact hbk
  have d0 : w2.cell? ⟨b, 0, none⟩ = some (.pointer (some ⟨b, 0, none⟩)) := by rw [Lib.cell_of_heap hb2]; rfl
  have d1 : w2.cell? ⟨b, 1, none⟩ = some v := by rw [Lib.cell_of_heap hb2]; rfl
  have f1 : w2.frozen? ⟨b, 1, none⟩ = false := Lib.frozen_of_heap hb2 1
  obtain ⟨ao, n', cap, rfl⟩ : ∃ ao n' cap, v' = .slice ao n' cap := by
    rcases hown'.2 with ⟨hv, _⟩ | ⟨g, cap, cur, hv, _⟩
    · exact ⟨_, _, _, hv⟩
    · exact ⟨_, _, _, hv⟩
  go_wp2
  go_ret2
  refine ⟨rfl, ?_, ?_⟩
  · refine .inr ?_
    have hc : Lib.byteCells (l ++ s.data.toList) = Lib.byteCells l ++ Lib.strCells s := by rw [Lib.byteCells_append, Lib.strCells_eq]
    rw [hc]
    exact Lib.BuilderAt.put (T := 125) (e := 5) hB hb2 (by simpa [Lib.strCells_length] using hown') bldByte
  · exact (hb1.grown hgrow (by have := hb1.size; omega) (fun k hk => (hown.lt k hk).1)).setCell (p := ⟨b, 1, none⟩) hB _
theorem bld_string (B b : Nat) (l : List UInt8) (w : World) (h : Bld w B b l) (hBw : B ≤ w.heap.size) :
    Calls Tryz.prog 101 #[.pointer (some ⟨b, 0, none⟩)] w fun e w' => e = .returned (.string ⟨l.toArray⟩) ∧ Below B w w' := Tryz.Builder_String_any B b l w h hBw
end Go.Proofs.YtdpjdjkfedcojaaGreat

namespace Go.Proofs.YtdpjdjkfedcojaaGreat
open Go.RowKit
set_option linter.unusedVariables false
set_option linter.unusedSimpArgs false

/-- Whatever is neither the builder nor a row of bytes lies as it lay. -/
def Beside (b : Nat) (w w' : World) : Prop := Lib.OthersKept 5 (some b) w w'
theorem beside_grown {b : Nat} {a w w' : World} {r : Option Nat} (h : Beside b a w) (hg : w.grownBy w' r) (hr : ∀ g, r = some g → ∃ c fz, w.heap[g]? = some (.cells c 5 fz)) : Beside b a w' := by
  intro k x hk hb hx
  have h1 := h k x hk hb hx
  refine (hg.block k (Array.getElem?_eq_some_iff.1 h1).1 (fun e' => ?_)).trans h1
  obtain ⟨c, fz, hc⟩ := hr k e'.symm
  rw [h1] at hc
  cases hc
  exact hx _ _ rfl
theorem beside_cell {b g : Nat} {w w' : World} {cs : Array Value} {t : TypeId} {fr : Nat × Nat} (h : Beside b w w') (K : Hid (w.heap[g]? = some (.cells cs t fr))) (hg : g ≠ b) (ht : t ≠ 5) : Hid (w'.heap[g]? = some (.cells cs t fr)) :=
  Lib.hid (h g _ K.out (by simpa using hg) (fun c fz e => by cases e; exact ht rfl))
theorem copy_any_k (B b : Nat) (l : List UInt8) (w : World) (h : Bld w B b l) :
    Calls Tryz.prog 114 #[.pointer (some ⟨b, 0, none⟩)] w fun e w' => e = .returned (.tuple #[]) ∧ Lib.BuilderAt 125 5 B b (.pointer (some ⟨b, 0, none⟩)) (Lib.byteCells l) w' ∧ Below B w w' ∧ Beside b w w' := by
  rcases h with h | h
  · refine (copy_fresh b w h.cell0 h.shape h.frozen0).mono ?_
    rintro e w' ⟨rfl, rfl⟩
    exact ⟨rfl, h.used _, (Below.refl B w).setCell (p := ⟨b, 0, none⟩) h.1 _, Lib.OthersKept.setCell (b := b) (Lib.OthersKept.refl 5 (some b) w) ⟨b, 0, none⟩ rfl (.pointer (some ⟨b, 0, none⟩))⟩
  · refine (copy_used b w h.cell0).mono ?_
    rintro e w' ⟨rfl, rfl⟩
    exact ⟨rfl, h, Below.refl B _, Lib.OthersKept.refl _ _ _⟩
set_option maxHeartbeats 2000000 in
set_option maxRecDepth 100000 in
theorem bld_write_k (B b : Nat) (l : List UInt8) (s : ByteArray) (w : World) (h : Bld w B b l) (hlen : l.length + s.size ≤ 140737488355328) (hBw : B ≤ w.heap.size) :
    Calls Tryz.prog 99 #[.pointer (some ⟨b, 0, none⟩), .string s] w fun e w' => e = .returned (.tuple #[.int .i64 s.size, .nilIface]) ∧ Bld w' B b (l ++ s.data.toList) ∧ Below B w w' ∧ Beside b w w' := by
  obtain ⟨i0, hi, hz0, hz1, hz2⟩ := info_parts infoB
  go_enter Tryz.func99, Tryz.ntmps99
  go_wp2_with (go_at_call 114; refine (copy_any_k B b _ _ h).mono ?_)
  rintro e w1 ⟨rfl, ⟨hB, v, hbk, hown, hne⟩, hb1, hk1⟩
  have c0 : w1.cell? ⟨b, 0, none⟩ = some (.pointer (some ⟨b, 0, none⟩)) := by rw [Lib.cell_of_heap hbk]; rfl
  have c1 : w1.cell? ⟨b, 1, none⟩ = some v := by rw [Lib.cell_of_heap hbk]; rfl
  go_wp2_with (at_builtin; refine Lib.wpList_append_own_string _ rfl _ _ 22 9 rfl B 5 i0 Tryz.underlying22 Tryz.underlying9 hi hz0 hz1 hz2 _ _ _ rfl hown s rfl ?c3 ?c4 ?c5 ?_)
  case c3 => rw [Lib.byteCells_length]; unfold maxLen; omega
  case c4 => rw [Lib.byteCells_length]; omega
  case c5 => have := hb1.size; omega
  intro v' w2 hown' hgrow _
  have hlt : b < w1.heap.size := by
    rcases Nat.lt_or_ge b w1.heap.size with h' | h'
    · exact h'
    · simp [Array.getElem?_eq_none h'] at hbk
  have hb2 : w2.heap[b]? = some (.cells #[.pointer (some ⟨b, 0, none⟩), v] 125 (0, 0)) := by
    rw [hgrow.block b hlt (fun e => hne e.symm)]
    exact hbk
  have hk2 : Beside b w w2 := beside_grown hk1 hgrow (fun g hg => by
    rcases hown.2 with ⟨rfl, _⟩ | ⟨g', cap, cur, rfl, _, hh, _⟩
    · cases hg
    · simp [Value.ownBlock] at hg; subst hg; exact ⟨_, _, hh⟩)
  have d0 : w2.cell? ⟨b, 0, none⟩ = some (.pointer (some ⟨b, 0, none⟩)) := by rw [Lib.cell_of_heap hb2]; rfl
  have d1 : w2.cell? ⟨b, 1, none⟩ = some v := by rw [Lib.cell_of_heap hb2]; rfl
  have f1 : w2.frozen? ⟨b, 1, none⟩ = false := Lib.frozen_of_heap hb2 1
  obtain ⟨ao, n', cap, rfl⟩ : ∃ ao n' cap, v' = .slice ao n' cap := by
    rcases hown'.2 with ⟨hv, _⟩ | ⟨g, cap, cur, hv, _⟩
    · exact ⟨_, _, _, hv⟩
    · exact ⟨_, _, _, hv⟩
  go_wp2
  go_ret2
  refine ⟨rfl, ?_, ?_, ?_⟩
  · refine .inr ?_
    have hc : Lib.byteCells (l ++ s.data.toList) = Lib.byteCells l ++ Lib.strCells s := by rw [Lib.byteCells_append, Lib.strCells_eq]
    rw [hc]
    exact Lib.BuilderAt.put (T := 125) (e := 5) hB hb2 (by simpa [Lib.strCells_length] using hown') bldByte
  · exact (hb1.grown hgrow (by have := hb1.size; omega) (fun k hk => (hown.lt k hk).1)).setCell (p := ⟨b, 1, none⟩) hB _
  · exact Lib.OthersKept.setCell (b := b) hk2 ⟨b, 1, none⟩ rfl _
theorem bld_string_k (B b : Nat) (l : List UInt8) (w : World) (h : Bld w B b l) (hBw : B ≤ w.heap.size) :
    Calls Tryz.prog 101 #[.pointer (some ⟨b, 0, none⟩)] w fun e w' => e = .returned (.string ⟨l.toArray⟩) ∧ Below B w w' ∧ Beside b w w' :=
  (Any.Builder_String_any_k Tryz.lays169 Tryz.Builder_Extra_169 B b l w (Lib.IsBuilderF.of h) hBw).mono (fun e w' h => ⟨h.1, h.2.2.1, h.2.2.2⟩)
end Go.Proofs.YtdpjdjkfedcojaaGreat

namespace Go.Proofs.YtdpjdjkfedcojaaGreat
open Go.RowKit
set_option linter.unusedVariables false
set_option linter.unusedSimpArgs false

theorem put_list {s : ByteArray} (h : s.size ≤ 65535) : (putTextB s).data.toList = pt s := by
  unfold putTextB pt
  rw [if_neg (by omega), ByteArray.data_append, Array.toList_append]
  unfold putN; rw [if_neg (by omega)]; simp [txt, be8]
theorem put_size {s : ByteArray} (h : s.size ≤ 64) : (putTextB s).size ≤ 66 := by
  unfold putTextB
  rw [if_neg (by omega), ByteArray.size_append, putN_size]; omega
theorem seq_size {q : Int} (h : 0 ≤ q) : (txt (putN q 4)).size = 4 := by
  unfold putN; rw [if_neg (by omega)]; exact txt_beB_size _ _
theorem seq_list {q : Int} (h : 0 ≤ q) : (txt (putN q 4)).data.toList = be8 q.toNat 4 := by
  unfold putN; rw [if_neg (by omega)]; simp [txt, be8]
theorem cnt_list (n : Nat) : (txt (putN (n : Int) 2)).data.toList = be8 n 2 := by
  unfold putN; rw [if_neg (by omega)]; simp [txt, be8]
def rowIB (x : It) : ByteArray := putTextB x.k ++ putTextB x.v
def rowTB (x : Tk) : ByteArray := putTextB x.c ++ txt (putN x.q 4) ++ putTextB x.r
theorem rowI_list {x : It} (h : SmI x) : (rowIB x).data.toList = encIt x := by
  unfold SmI at h
  unfold rowIB encIt
  rw [ByteArray.data_append, Array.toList_append, put_list (by omega), put_list (by omega)]
theorem rowT_list {x : Tk} (h : SmT x) : (rowTB x).data.toList = encTk x := by
  unfold SmT at h
  unfold rowTB encTk
  rw [ByteArray.data_append, Array.toList_append, ByteArray.data_append, Array.toList_append, put_list (by omega), put_list (by omega), seq_list (by omega)]
theorem rowI_size {x : It} (h : SmI x) : (rowIB x).size ≤ 132 := by
  unfold SmI at h
  have h1 := put_size h.1
  have h2 := put_size h.2
  unfold rowIB; rw [ByteArray.size_append]; omega
theorem rowT_size {x : Tk} (h : SmT x) : (rowTB x).size ≤ 136 := by
  unfold SmT at h
  have h1 := put_size h.1
  have h2 := put_size h.2.1
  have h3 := seq_size h.2.2.1
  unfold rowTB; rw [ByteArray.size_append, ByteArray.size_append]; omega
theorem encI_len {x : It} (h : SmI x) : (encIt x).length ≤ 132 := by rw [← rowI_list h]; simpa using rowI_size h
theorem encT_len {x : Tk} (h : SmT x) : (encTk x).length ≤ 136 := by rw [← rowT_list h]; simpa using rowT_size h

theorem ta_it (v : Value) (w : World) : (Instr.typeAssert (.iface 45 v) 146 45 true).run Tryz.prog w = .ok (.tuple #[v, .bool true]) w := by
  simp [Instr.typeAssert, run_underlying Tryz.underlying45]
theorem ta_tk (v : Value) (w : World) : (Instr.typeAssert (.iface 65 v) 146 65 true).run Tryz.prog w = .ok (.tuple #[v, .bool true]) w := by
  simp [Instr.typeAssert, run_underlying Tryz.underlying65]
theorem ta_no (v : Value) (w : World) : (Instr.typeAssert (.iface 65 v) 146 45 true).run Tryz.prog w = .ok (.tuple #[.agg #[.string ⟨#[]⟩, .string ⟨#[]⟩], .bool false]) w := by
  simp [Instr.typeAssert, run_underlying Tryz.underlying45, Tryz.zeroValue45]
set_option maxRecDepth 100000 in
set_option maxHeartbeats 4000000 in
theorem impl_putRowI (x : It) (w : World) (hx : SmI x) :
    Calls Tryz.prog 100 #[.iface 45 (itA x)] w fun e w' => e = .returned (.string (rowIB x)) ∧ Below w.heap.size w w' := by
  unfold SmI at hx
  unfold itA
  have hv : Hid (putTextB x.k ++ putTextB x.v = rowIB x) := Lib.hid rfl
  have h1 := put_size hx.1
  have h2 := put_size hx.2
  have ns1 : ¬ 9223372036854775807 < (putTextB x.k).size + (putTextB x.v).size := by omega
  obtain ⟨X, hX⟩ : ∃ X, X = w.alloc (.cells #[.string x.k, .string x.v] 45) := ⟨_, rfl⟩
  have bX : Below w.heap.size w X := by rw [hX]; exact (Below.refl _ _).alloc (Nat.le_refl _) _
  have KX : Hid (X.heap[w.heap.size]? = some (.cells #[.string x.k, .string x.v] 45 (0, 0))) := Lib.hid (by rw [hX]; exact heap_new _ _)
  have LX : Hid (w.heap.size < X.heap.size) := Lib.hid (by rw [hX]; simp)
  have FX : Hid (∀ w', Below X.heap.size X w' → w'.cell? ⟨w.heap.size, 0, none⟩ = some (.string x.k) ∧ w'.cell? ⟨w.heap.size, 1, none⟩ = some (.string x.v)) := Lib.hid (fun w' h => by have K := tkb h LX KX; exact ⟨tcr K 0, tcr K 1⟩)
  have BB := Lib.hid bX
  have Hx := Lib.hid hx
  clear bX hx h1 h2 KX LX
  have hta := fun w => ta_it (.agg #[.string x.k, .string x.v]) w
  go_enter Tryz.func100, Tryz.ntmps100
  go_wp2_with fail
  rw [← hX]
  clear hX
  refine wp_region_held_drew (S := (fun w' => Below X.heap.size X w')) (by kernel_rfl) (Below.refl _ _).drew (fun hHeld => ?_)
  obtain ⟨zD, hzD⟩ : ∃ zz, zz = X.drew := ⟨_, rfl⟩
  rw [← hzD] at hHeld ⊢
  clear hzD
  have BD := Lib.hid hHeld
  refine tk0 0 ?_
  refine tk 1 (v := ?_) ?_ ?_; rotate_left
  · refine Or.inl ⟨by rfl, ?_⟩; intro w hSw; obtain ⟨f0, f1⟩ := FX.out w hSw; go_simp; first | done | with_reducible rfl
  refine tk0 3 ?_
  refine tk 4 (v := ?_) ?_ ?_; rotate_left
  · refine Or.inl ⟨by rfl, ?_⟩; intro w hSw; obtain ⟨f0, f1⟩ := FX.out w hSw; go_simp; first | done | with_reducible rfl
  refine rd1 2 (fun K hK => ?_)
  go_simp
  go_at_call 96
  refine (impl_putText x.k zD (by have := Hx.out; omega)).mono ?_
  rintro e w2 ⟨rfl, hb⟩
  replace BD := tbt BD hb
  clear hb
  go_wp2_with fail
  refine hK.out _ _ BD.out (fun hHeld => ?_)
  clear hK K
  refine rd1 5 (fun K hK => ?_)
  go_simp
  go_at_call 96
  refine (impl_putText x.v w2 (by have := Hx.out; omega)).mono ?_
  rintro e w3 ⟨rfl, hb⟩
  replace BD := tbt BD hb
  clear hb
  go_wp2_with fail
  refine hK.out _ _ BD.out (fun hHeld => ?_)
  clear hK K
  refine tk0 6 ?_
  refine tk0 7 ?_
  refine wpAnyH_done (by kernel_rfl) ?_ _
  clear hHeld
  go_wp2_with fail
  go_ret
  exact ⟨ret_txt hv.out, BB.out.trans (BD.out.mono BB.out.size)⟩

set_option maxRecDepth 100000 in
set_option maxHeartbeats 4000000 in
theorem impl_putRowT (x : Tk) (w : World) (hx : SmT x) :
    Calls Tryz.prog 100 #[.iface 65 (tkA x)] w fun e w' => e = .returned (.string (rowTB x)) ∧ Below w.heap.size w w' := by
  unfold SmT at hx
  unfold tkA
  have hv : Hid (putTextB x.c ++ txt (putN x.q 4) ++ putTextB x.r = rowTB x) := Lib.hid rfl
  have h1 := put_size hx.1
  have h2 := put_size hx.2.1
  have h3 := seq_size hx.2.2.1
  obtain ⟨p1, hp1⟩ : ∃ p, p = putTextB x.c := ⟨_, rfl⟩
  obtain ⟨p2, hp2⟩ : ∃ p, p = txt (putN x.q 4) := ⟨_, rfl⟩
  obtain ⟨p3, hp3⟩ : ∃ p, p = putTextB x.r := ⟨_, rfl⟩
  rw [← hp1] at h1 hv
  rw [← hp3] at h2 hv
  rw [← hp2] at h3 hv
  have H1 := Lib.hid hp1
  have H2 := Lib.hid hp2
  have H3 := Lib.hid hp3
  have ns1 : ¬ 9223372036854775807 < p1.size + p2.size := by omega
  have ns2 : ¬ 9223372036854775807 < p1.size + 4 := by omega
  have ns3 : ¬ 9223372036854775807 < p1.size + p2.size + p3.size := by omega
  have ns4 : ¬ 9223372036854775807 < p1.size + 4 + p3.size := by omega
  obtain ⟨X, hX⟩ : ∃ X, X = w.alloc (.cells #[.string x.c, .int .i64 x.q, .string x.r] 65) := ⟨_, rfl⟩
  have bX : Below w.heap.size w X := by rw [hX]; exact (Below.refl _ _).alloc (Nat.le_refl _) _
  have KX : Hid (X.heap[w.heap.size]? = some (.cells #[.string x.c, .int .i64 x.q, .string x.r] 65 (0, 0))) := Lib.hid (by rw [hX]; exact heap_new _ _)
  have LX : Hid (w.heap.size < X.heap.size) := Lib.hid (by rw [hX]; simp)
  have FX : Hid (∀ w', Below X.heap.size X w' → w'.cell? ⟨w.heap.size, 0, none⟩ = some (.string x.c) ∧ w'.cell? ⟨w.heap.size, 1, none⟩ = some (.int .i64 x.q) ∧ w'.cell? ⟨w.heap.size, 2, none⟩ = some (.string x.r)) := Lib.hid (fun w' h => by have K := tkb h LX KX; exact ⟨tcr K 0, tcr K 1, tcr K 2⟩)
  have BB := Lib.hid bX
  have Hx := Lib.hid hx
  clear bX hx h1 h2 KX LX hp1 hp2 hp3
  have hta := fun w => ta_tk (.agg #[.string x.c, .int .i64 x.q, .string x.r]) w
  have htn := fun w => ta_no (.agg #[.string x.c, .int .i64 x.q, .string x.r]) w
  go_enter Tryz.func100, Tryz.ntmps100
  go_wp2_with fail
  rw [← hX]
  clear hX
  refine wp_region_held_drew (S := (fun w' => Below X.heap.size X w')) (by kernel_rfl) (Below.refl _ _).drew (fun hHeld => ?_)
  obtain ⟨zD, hzD⟩ : ∃ zz, zz = X.drew := ⟨_, rfl⟩
  rw [← hzD] at hHeld ⊢
  clear hzD
  have BD := Lib.hid hHeld
  refine tk0 0 ?_
  refine tk 1 (v := ?_) ?_ ?_; rotate_left
  · refine Or.inl ⟨by rfl, ?_⟩; intro w hSw; obtain ⟨f0, f1, f2⟩ := FX.out w hSw; go_simp; first | done | with_reducible rfl
  refine tk0 3 ?_
  refine tk 4 (v := ?_) ?_ ?_; rotate_left
  · refine Or.inl ⟨by rfl, ?_⟩; intro w hSw; obtain ⟨f0, f1, f2⟩ := FX.out w hSw; go_simp; first | done | with_reducible rfl
  refine tk0 7 ?_
  refine tk 8 (v := ?_) ?_ ?_; rotate_left
  · refine Or.inl ⟨by rfl, ?_⟩; intro w hSw; obtain ⟨f0, f1, f2⟩ := FX.out w hSw; go_simp; first | done | with_reducible rfl
  refine rd1 2 (fun K hK => ?_)
  go_simp
  have hc := impl_putText x.c zD (by have := Hx.out; omega)
  rw [← H1.out] at hc
  go_at_call 96
  refine hc.mono ?_
  rintro e w2 ⟨rfl, hb⟩
  replace BD := tbt BD hb
  clear hb hc
  go_wp2_with fail
  refine hK.out _ _ BD.out (fun hHeld => ?_)
  clear hK K
  refine rd1 5 (fun K hK => ?_)
  go_simp
  have hc := impl_putNum x.q 4 (by have := Hx.out; omega) (by omega) w2
  rw [← H2.out] at hc
  go_at_call 61
  refine hc.mono ?_
  rintro e w3 ⟨rfl, hb⟩
  replace BD := tbt BD hb
  clear hb hc
  go_wp2_with fail
  refine hK.out _ _ BD.out (fun hHeld => ?_)
  clear hK K
  refine tk0 6 ?_
  refine rd1 9 (fun K hK => ?_)
  go_simp
  have hc := impl_putText x.r w3 (by have := Hx.out; omega)
  rw [← H3.out] at hc
  go_at_call 96
  refine hc.mono ?_
  rintro e w4 ⟨rfl, hb⟩
  replace BD := tbt BD hb
  clear hb hc
  go_wp2_with fail
  refine hK.out _ _ BD.out (fun hHeld => ?_)
  clear hK K
  refine tk0 10 ?_
  refine tk0 11 ?_
  refine wpAnyH_done (by kernel_rfl) ?_ _
  clear hHeld
  go_wp2_with fail
  go_ret
  exact ⟨ret_txt hv.out, BB.out.trans (BD.out.mono BB.out.size)⟩
end Go.Proofs.YtdpjdjkfedcojaaGreat

namespace Go.Proofs.YtdpjdjkfedcojaaGreat
open Go.RowKit
set_option linter.unusedVariables false
set_option linter.unusedSimpArgs false

theorem encI_flat {xs : List It} (h : ∀ x ∈ xs, SmI x) : (xs.flatMap encIt).length ≤ xs.length * 132 := by
  induction xs with
  | nil => exact Nat.le_refl _
  | cons x xs ih =>
    have h1 := encI_len (h x (by simp))
    have h2 := ih (fun y hy => h y (by simp [hy]))
    rw [List.flatMap_cons, List.length_append, List.length_cons]; omega
theorem encT_flat {xs : List Tk} (h : ∀ x ∈ xs, SmT x) : (xs.flatMap encTk).length ≤ xs.length * 136 := by
  induction xs with
  | nil => exact Nat.le_refl _
  | cons x xs ih =>
    have h1 := encT_len (h x (by simp))
    have h2 := ih (fun y hy => h y (by simp [hy]))
    rw [List.flatMap_cons, List.length_append, List.length_cons]; omega

set_option maxRecDepth 100000 in
set_option maxHeartbeats 4000000 in
theorem impl_putRowsI (xs : List It) (v : Value) (B : Nat) (w : World) (hr : Raw w B v xs.length (xs.flatMap itC)) (hB : B ≤ w.heap.size) (hl : xs.length ≤ 40) (hs : ∀ x ∈ xs, SmI x) :
    Calls Tryz.prog 62 #[v] w fun e w' => e = .returned (.string ⟨(be8 xs.length 2 ++ xs.flatMap encIt).toArray⟩) ∧ Below w.heap.size w w' := by
  obtain ⟨a, cap, rfl, hnc, hcap, _, hat⟩ := hr
  obtain ⟨n, hN⟩ : ∃ n, n = xs.length := ⟨_, rfl⟩
  rw [← hN] at hnc hat hl ⊢
  have HN := Lib.hid hN
  have Hat := Lib.hid hat
  have Hs := Lib.hid hs
  unfold maxLen at hcap
  obtain ⟨W, hW⟩ : ∃ W, W = w.alloc (.cells #[.pointer none, .slice none 0 0] 125) := ⟨_, rfl⟩
  have bW : Below w.heap.size w W := by rw [hW]; exact (Below.refl _ _).alloc (Nat.le_refl _) _
  have B0 : Hid (Bld W w.heap.size w.heap.size []) := Lib.hid (by rw [hW]; exact Bld.fresh w)
  have BB := Lib.hid bW
  have hc := impl_putNum (n : Int) 2 (by omega) (by omega) W
  rw [hW] at hc
  clear hat hs hN bW
  go_enter Tryz.func62, Tryz.ntmps62
  go_wp2_with (go_at_call 61; refine hc.mono ?_; rintro e w1 ⟨rfl, hb⟩; refine Hid.out ?_)
  refine Lib.hid ?_
  rw [← hW] at hb
  replace B0 := Lib.hid (B0.out.later hb)
  replace BB := tbt BB hb
  obtain ⟨pn, hpn⟩ : ∃ p, p = txt (putN (n : Int) 2) := ⟨_, rfl⟩
  rw [← hpn]
  have hpz : pn.size = 2 := by rw [hpn]; exact putN_size _
  have Hpn : Hid (pn.data.toList = be8 n 2) := Lib.hid (by rw [hpn]; exact cnt_list n)
  clear hc hb hW hpn
  have hc := bld_write w.heap.size w.heap.size [] pn w1 B0.out (by rw [hpz]; decide) BB.out.size
  go_wp2_with (go_at_call 99; refine hc.mono ?_; rintro e w2 ⟨rfl, hbl, hb⟩; refine Hid.out ?_)
  refine Lib.hid ?_
  replace B0 := Lib.hid hbl
  rw [List.nil_append, Hpn.out] at B0
  replace BB := Lib.hid (BB.out.trans hb)
  clear hc hb hbl hpz Hpn
  go_wp2_with fail
  go_loopw [12] (fun i wr => ∃ k : Nat, k ≤ n ∧ i = .int .i64 k ∧ Hid (Below w.heap.size w wr) ∧ Hid (Bld wr w.heap.size w.heap.size (be8 n 2 ++ (xs.take k).flatMap encIt))) (fun i _ => n - (intOf i).toNat)
  case atStart => exact ⟨0, by omega, rfl, BB, by rw [List.take_zero]; exact Lib.hid (by simpa using B0.out)⟩
  case round =>
    clear B0 BB
    obtain ⟨k, hk, rfl, BB, B0⟩ := hrel
    by_cases hlt : k < n
    · obtain ⟨g, o, ha, hg, hAt⟩ := Hat.out (by omega)
      subst ha
      have hkl : k < xs.length := by have := HN.out; omega
      obtain ⟨x, hx⟩ : ∃ x, x = xs[k] := ⟨_, rfl⟩
      have hsx : SmI x := Hs.out x (by rw [hx]; exact List.getElem_mem _)
      have hgw : g < w.heap.size := by omega
      have hcx := hAt.item k hkl
      rw [← hx] at hcx
      have hcl : wr.cell? ⟨g, o + k * 2, none⟩ = some (.string x.k) ∧ wr.cell? ⟨g, o + k * 2 + 1, none⟩ = some (.string x.v) := by
        have hq : ∀ j, wr.cell? ⟨g, j, none⟩ = w.cell? ⟨g, j, none⟩ := fun j => BB.out.cell (p := ⟨g, j, none⟩) hgw
        simp only [hq]; exact hcx
      obtain ⟨f0, f1⟩ := hcl
      have HX := Lib.hid hx
      have Hsx := Lib.hid hsx
      have hlt' : (k : Int) < (n : Int) := by omega
      obtain ⟨X, hX⟩ : ∃ X, X = wr.alloc (.cells #[.string x.k, .string x.v] 45) := ⟨_, rfl⟩
      have bX : Below wr.heap.size wr X := by rw [hX]; exact (Below.refl _ _).alloc (Nat.le_refl _) _
      have KX : Hid (X.heap[wr.heap.size]? = some (.cells #[.string x.k, .string x.v] 45 (0, 0))) := Lib.hid (by rw [hX]; exact heap_new _ _)
      have hc := impl_putRowI x X hsx
      rw [hX] at hc
      unfold itA at hc
      clear hsx hcx hx hgw
      go_wp2_with (go_at_call 100; refine hc.mono ?_; rintro e w4 ⟨rfl, hb⟩; refine Hid.out ?_)
      refine Lib.hid ?_
      rw [← hX] at hb
      replace B0 := Lib.hid ((B0.out.later bX).later hb)
      replace BB := Lib.hid ((BB.out.trans (bX.mono BB.out.size)).trans (hb.mono (Nat.le_trans BB.out.size bX.size)))
      clear hc hb bX KX hX f0 f1
      have hln : (be8 n 2 ++ (xs.take k).flatMap encIt).length + (rowIB x).size ≤ 140737488355328 := by
        have h1 := encI_flat (xs := xs.take k) (fun y hy => Hs.out y (List.mem_of_mem_take hy))
        have h2 := rowI_size Hsx.out
        rw [List.length_append, be8_len]
        rw [List.length_take] at h1
        omega
      have hc := bld_write w.heap.size w.heap.size _ (rowIB x) w4 B0.out hln BB.out.size
      clear hln
      go_wp2_with (go_at_call 99; refine hc.mono ?_; rintro e w5 ⟨rfl, hbl, hb⟩; refine Hid.out ?_)
      refine Lib.hid ?_
      replace B0 := Lib.hid hbl
      replace BB := Lib.hid (BB.out.trans hb)
      clear hc hb hbl
      go_wp2_with fail
      go_roundw
      case rel =>
        refine ⟨k + 1, by omega, by go_num, BB, Lib.hid ?_⟩
        have h := B0.out
        rw [rowI_list Hsx.out, List.append_assoc] at h
        rw [List.take_succ_eq_append_getElem hkl, List.flatMap_append, ← HX.out]
        simpa using h
      case measure => simp [intOf]; omega
    · have hlt' : ¬ (k : Int) < (n : Int) := by omega
      have hkn : k = xs.length := by have := HN.out; omega
      replace B0 := Lib.hid (by have h := B0.out; rw [hkn, List.take_length] at h; exact h)
      have hc := bld_string w.heap.size w.heap.size _ wr B0.out BB.out.size
      clear hkn
      go_wp2_with (go_at_call 101; refine hc.mono ?_; rintro e w6 ⟨rfl, hb⟩)
      go_ret
      exact ⟨rfl, BB.out.trans hb⟩

set_option maxRecDepth 100000 in
set_option maxHeartbeats 4000000 in
theorem impl_putRowsT (xs : List Tk) (v : Value) (B : Nat) (w : World) (hr : Raw w B v xs.length (xs.flatMap tkC)) (hB : B ≤ w.heap.size) (hl : xs.length ≤ 40) (hs : ∀ x ∈ xs, SmT x) :
    Calls Tryz.prog 63 #[v] w fun e w' => e = .returned (.string ⟨(be8 xs.length 2 ++ xs.flatMap encTk).toArray⟩) ∧ Below w.heap.size w w' := by
  obtain ⟨a, cap, rfl, hnc, hcap, _, hat⟩ := hr
  obtain ⟨n, hN⟩ : ∃ n, n = xs.length := ⟨_, rfl⟩
  rw [← hN] at hnc hat hl ⊢
  have HN := Lib.hid hN
  have Hat := Lib.hid hat
  have Hs := Lib.hid hs
  unfold maxLen at hcap
  obtain ⟨W, hW⟩ : ∃ W, W = w.alloc (.cells #[.pointer none, .slice none 0 0] 125) := ⟨_, rfl⟩
  have bW : Below w.heap.size w W := by rw [hW]; exact (Below.refl _ _).alloc (Nat.le_refl _) _
  have B0 : Hid (Bld W w.heap.size w.heap.size []) := Lib.hid (by rw [hW]; exact Bld.fresh w)
  have BB := Lib.hid bW
  have hc := impl_putNum (n : Int) 2 (by omega) (by omega) W
  rw [hW] at hc
  clear hat hs hN bW
  go_enter Tryz.func63, Tryz.ntmps63
  go_wp2_with (go_at_call 61; refine hc.mono ?_; rintro e w1 ⟨rfl, hb⟩; refine Hid.out ?_)
  refine Lib.hid ?_
  rw [← hW] at hb
  replace B0 := Lib.hid (B0.out.later hb)
  replace BB := tbt BB hb
  obtain ⟨pn, hpn⟩ : ∃ p, p = txt (putN (n : Int) 2) := ⟨_, rfl⟩
  rw [← hpn]
  have hpz : pn.size = 2 := by rw [hpn]; exact putN_size _
  have Hpn : Hid (pn.data.toList = be8 n 2) := Lib.hid (by rw [hpn]; exact cnt_list n)
  clear hc hb hW hpn
  have hc := bld_write w.heap.size w.heap.size [] pn w1 B0.out (by rw [hpz]; decide) BB.out.size
  go_wp2_with (go_at_call 99; refine hc.mono ?_; rintro e w2 ⟨rfl, hbl, hb⟩; refine Hid.out ?_)
  refine Lib.hid ?_
  replace B0 := Lib.hid hbl
  rw [List.nil_append, Hpn.out] at B0
  replace BB := Lib.hid (BB.out.trans hb)
  clear hc hb hbl hpz Hpn
  go_wp2_with fail
  go_loopw [12] (fun i wr => ∃ k : Nat, k ≤ n ∧ i = .int .i64 k ∧ Hid (Below w.heap.size w wr) ∧ Hid (Bld wr w.heap.size w.heap.size (be8 n 2 ++ (xs.take k).flatMap encTk))) (fun i _ => n - (intOf i).toNat)
  case atStart => exact ⟨0, by omega, rfl, BB, by rw [List.take_zero]; exact Lib.hid (by simpa using B0.out)⟩
  case round =>
    clear B0 BB
    obtain ⟨k, hk, rfl, BB, B0⟩ := hrel
    by_cases hlt : k < n
    · obtain ⟨g, o, ha, hg, hAt⟩ := Hat.out (by omega)
      subst ha
      have hkl : k < xs.length := by have := HN.out; omega
      obtain ⟨x, hx⟩ : ∃ x, x = xs[k] := ⟨_, rfl⟩
      have hsx : SmT x := Hs.out x (by rw [hx]; exact List.getElem_mem _)
      have hgw : g < w.heap.size := by omega
      have hcx := hAt.talk k hkl
      rw [← hx] at hcx
      have hcl : wr.cell? ⟨g, o + k * 3, none⟩ = some (.string x.c) ∧ wr.cell? ⟨g, o + k * 3 + 1, none⟩ = some (.int .i64 x.q) ∧ wr.cell? ⟨g, o + k * 3 + 2, none⟩ = some (.string x.r) := by
        have hq : ∀ j, wr.cell? ⟨g, j, none⟩ = w.cell? ⟨g, j, none⟩ := fun j => BB.out.cell (p := ⟨g, j, none⟩) hgw
        simp only [hq]; exact hcx
      obtain ⟨f0, f1, f2⟩ := hcl
      have HX := Lib.hid hx
      have Hsx := Lib.hid hsx
      have hlt' : (k : Int) < (n : Int) := by omega
      obtain ⟨X, hX⟩ : ∃ X, X = wr.alloc (.cells #[.string x.c, .int .i64 x.q, .string x.r] 65) := ⟨_, rfl⟩
      have bX : Below wr.heap.size wr X := by rw [hX]; exact (Below.refl _ _).alloc (Nat.le_refl _) _
      have KX : Hid (X.heap[wr.heap.size]? = some (.cells #[.string x.c, .int .i64 x.q, .string x.r] 65 (0, 0))) := Lib.hid (by rw [hX]; exact heap_new _ _)
      have hc := impl_putRowT x X hsx
      rw [hX] at hc
      unfold tkA at hc
      clear hsx hcx hx hgw
      go_wp2_with (go_at_call 100; refine hc.mono ?_; rintro e w4 ⟨rfl, hb⟩; refine Hid.out ?_)
      refine Lib.hid ?_
      rw [← hX] at hb
      replace B0 := Lib.hid ((B0.out.later bX).later hb)
      replace BB := Lib.hid ((BB.out.trans (bX.mono BB.out.size)).trans (hb.mono (Nat.le_trans BB.out.size bX.size)))
      clear hc hb bX KX hX f0 f1 f2
      have hln : (be8 n 2 ++ (xs.take k).flatMap encTk).length + (rowTB x).size ≤ 140737488355328 := by
        have h1 := encT_flat (xs := xs.take k) (fun y hy => Hs.out y (List.mem_of_mem_take hy))
        have h2 := rowT_size Hsx.out
        rw [List.length_append, be8_len]
        rw [List.length_take] at h1
        omega
      have hc := bld_write w.heap.size w.heap.size _ (rowTB x) w4 B0.out hln BB.out.size
      clear hln
      go_wp2_with (go_at_call 99; refine hc.mono ?_; rintro e w5 ⟨rfl, hbl, hb⟩; refine Hid.out ?_)
      refine Lib.hid ?_
      replace B0 := Lib.hid hbl
      replace BB := Lib.hid (BB.out.trans hb)
      clear hc hb hbl
      go_wp2_with fail
      go_roundw
      case rel =>
        refine ⟨k + 1, by omega, by go_num, BB, Lib.hid ?_⟩
        have h := B0.out
        rw [rowT_list Hsx.out, List.append_assoc] at h
        rw [List.take_succ_eq_append_getElem hkl, List.flatMap_append, ← HX.out]
        simpa using h
      case measure => simp [intOf]; omega
    · have hlt' : ¬ (k : Int) < (n : Int) := by omega
      have hkn : k = xs.length := by have := HN.out; omega
      replace B0 := Lib.hid (by have h := B0.out; rw [hkn, List.take_length] at h; exact h)
      have hc := bld_string w.heap.size w.heap.size _ wr B0.out BB.out.size
      clear hkn
      go_wp2_with (go_at_call 101; refine hc.mono ?_; rintro e w6 ⟨rfl, hb⟩)
      go_ret
      exact ⟨rfl, BB.out.trans hb⟩
end Go.Proofs.YtdpjdjkfedcojaaGreat
