/- What spec.Encode answers. Condition: what the arguments may be. -/
import Derived.Test.YtdpjdjkfedcojaaGreatBaseA
import Derived.Test.YtdpjdjkfedcojaaGreatFmtA
import Derived.Test.YtdpjdjkfedcojaaGreatStateOk
import Derived.Test.YtdpjdjkfedcojaaGreatNumA
import Derived.Deep.RegionHeld
import Derived.Deep.DeepCutAuto
namespace Go.Proofs.YtdpjdjkfedcojaaGreat
open Go.RowKit List
set_option linter.unusedVariables false
set_option linter.unusedSimpArgs false

theorem slice_rowE {w : World} {B sz n : Nat} {v : Value} {cs : List Value} (h : Row w B sz v n cs) : ∃ a c, v = .slice a n c := by
  rcases h with ⟨_, ⟨rfl, rfl⟩ | ⟨g, o, cap, rfl, _⟩⟩ <;> exact ⟨_, _, rfl⟩
theorem st_itemE {w : World} {s : St} {a : Option Addr} {n c : Nat} {vt : Value} (h : StV w w.heap.size (.agg #[.slice a n c, vt]) s) {j : Nat} (hj : j < s.items.length) :
    ∃ g o, a = some ⟨g, o, none⟩ ∧ g < w.heap.size ∧ ∀ z, Below w.heap.size w z → z.cell? ⟨g, o + j * 2, none⟩ = some (.string s.items[j].k) ∧ z.cell? ⟨g, o + j * 2 + 1, none⟩ = some (.string s.items[j].v) := by
  obtain ⟨vi, vt', hv, ⟨_, h1⟩, _⟩ := h
  cases hv
  rcases h1 with ⟨_, h0⟩ | ⟨g, o, cap, he, _, _, hg, hA⟩
  · omega
  · cases he
    have hg' : g < w.heap.size := hg.resolve_left (by omega)
    refine ⟨g, o, rfl, hg', fun z hb => ?_⟩
    have := hA.item j hj
    rw [hb.cell hg', hb.cell hg']
    exact this
theorem st_talkE {w : World} {s : St} {a : Option Addr} {n c : Nat} {vi : Value} (h : StV w w.heap.size (.agg #[vi, .slice a n c]) s) {j : Nat} (hj : j < s.talks.length) :
    ∃ g o, a = some ⟨g, o, none⟩ ∧ g < w.heap.size ∧ ∀ z, Below w.heap.size w z → z.cell? ⟨g, o + j * 3, none⟩ = some (.string s.talks[j].c) ∧ z.cell? ⟨g, o + j * 3 + 1, none⟩ = some (.int .i64 s.talks[j].q) ∧ z.cell? ⟨g, o + j * 3 + 2, none⟩ = some (.string s.talks[j].r) := by
  obtain ⟨vi', vt, hv, _, ⟨_, h1⟩⟩ := h
  cases hv
  rcases h1 with ⟨_, h0⟩ | ⟨g, o, cap, he, _, _, hg, hA⟩
  · omega
  · cases he
    have hg' : g < w.heap.size := hg.resolve_left (by omega)
    refine ⟨g, o, rfl, hg', fun z hb => ?_⟩
    have := hA.talk j hj
    rw [hb.cell hg', hb.cell hg', hb.cell hg']
    exact this
theorem putQ_size {q : Int} (h : 0 ≤ q) : (txt (putN q 4)).size = 4 := by
  unfold putN; rw [if_neg (by omega)]; exact txt_beB_size _ _
theorem putQ_list {q : Int} (h : 0 ≤ q) : (txt (putN q 4)).data.toList = be8 q.toNat 4 := by
  unfold putN; rw [if_neg (by omega)]; simp [txt, be8]
theorem putN_list (n : Nat) : (txt (putN (n : Int) 2)).data.toList = be8 n 2 := by
  unfold putN; rw [if_neg (by omega)]; simp [txt, be8]
theorem putText_list {s : ByteArray} (h : s.size ≤ 65535) : (putTextB s).data.toList = pt s := by
  unfold putTextB pt
  rw [if_neg (by omega), ByteArray.data_append, Array.toList_append, putN_list]
theorem putText_size {s : ByteArray} (h : s.size ≤ 64) : (putTextB s).size ≤ 66 := by
  unfold putTextB
  rw [if_neg (by omega), ByteArray.size_append, putN_size]; omega
theorem conv_rowN {w : World} {g n : Nat} (hn : n ≤ 3) (h : w.heap[g]? = some (.cells #[.int .u8 n] 5 (0, 0))) (cap : Nat) : (convert 22 9 (.slice (some ⟨g, 0, none⟩) 1 cap)).run Tryz.prog w = .ok (.string ⟨#[UInt8.ofNat n]⟩) w := by
  have hm : n % 256 = n := by omega
  have := run_convert_bytes_back (P := Tryz.prog) w 22 9 5 ⟨g, 0, none⟩ cap [UInt8.ofNat n] Tryz.underlying22 Tryz.underlying5 Tryz.underlying9 (fun j hj => by
    have hj0 : j = 0 := by simpa using hj
    subst hj0
    have hc := cell_of_row w g 0 _ _ _ h
    rw [add_flat]; simpa [hm] using hc)
  simpa using this
set_option maxRecDepth 100000 in
set_option maxHeartbeats 8000000 in
theorem spec_encode_ok (s : St) (v : Value) (n B : Nat) (w : World) (hs : StV w B v s) (hB : B ≤ w.heap.size) (hfit : Fits s) (hok : stOk s = true) (hn : n = 1 ∨ n = 2 ∨ n = 3) :
    Calls Tryz.prog 33 #[v, .int .i64 n] w fun e w' => e = .returned (.string (fmtS s n)) ∧ Below w.heap.size w w' := by
  have SA := Lib.hid hs
  obtain ⟨vi, vt, rfl, r1, r2⟩ := hs
  obtain ⟨sa, sc, rfl⟩ := slice_rowE r1
  obtain ⟨ta, tc, rfl⟩ := slice_rowE r2
  clear r1 r2
  obtain ⟨W, hW⟩ : ∃ W, W = w.alloc (.cells #[.slice sa s.items.length sc, .slice ta s.talks.length tc] 27) := ⟨_, rfl⟩
  have hbW : Below w.heap.size w W := by rw [hW]; exact (Below.refl _ _).alloc (Nat.le_refl _) _
  have hWs : W.heap.size = w.heap.size + 1 := by rw [hW]; simp
  have KA : Hid (W.heap[w.heap.size]? = some (.cells #[.slice sa s.items.length sc, .slice ta s.talks.length tc] 27 (0, 0))) := Lib.hid (by rw [hW]; exact heap_new _ _)
  have LA : Hid (w.heap.size < W.heap.size) := Lib.hid (by omega)
  replace SA := Lib.hid (SA.out.later (hbW.mono hB) (Nat.le_trans hB hbW.size))
  have BB : Hid (Below w.heap.size w W) := Lib.hid hbW
  have Hfit := Lib.hid hfit
  obtain ⟨s1, s2, _, _⟩ := ok_smI hok
  have S1 : Hid (∀ x ∈ s.items, x.k.size ≤ 64 ∧ x.v.size ≤ 64) := Lib.hid s1
  have S2 : Hid (∀ x ∈ s.talks, x.c.size ≤ 64 ∧ x.r.size ≤ 64) := Lib.hid (fun x hx => ⟨(s2 x hx).1, (s2 x hx).2.1⟩)
  have Hn := Lib.hid hn
  have hu8 : IntKind.u8.wrap (n : Int) = (n : Int) := by rcases hn with rfl | rfl | rfl <;> rfl
  have L40 := ((stOk_iff s).1 hok).1.2.2
  have L20 := ((stOk_iff s).1 hok).2.2.2
  have Hok := Lib.hid hok
  have HQ := Lib.hid (stOk_q hok)
  have hc := spec_stateOk s _ W.heap.size W SA.out (Nat.le_refl _) Hfit.out
  rw [hok, hW] at hc
  clear hfit s1 s2 hbW hWs hok hB
  go_enter Tryz.func33, Tryz.ntmps33
  go_wp2_with (go_at_call 14; refine hc.mono ?_; rintro e w1 ⟨rfl, hb⟩; refine Hid.out ?_)
  refine Lib.hid ?_
  rw [← hW] at hb
  replace KA := tkb hb LA KA
  replace LA := tlz LA hb.size
  replace BB := tbt BB hb
  replace SA := Lib.hid (SA.out.later hb hb.size)
  clear hc hb hW
  have hc := in_any n 1 3 w1
  rw [show inB (n : Int) 1 3 = true by rcases hn with rfl | rfl | rfl <;> rfl] at hc
  go_wp2_with (go_at_call 66; refine hc.mono ?_; rintro e w2 ⟨rfl, rfl⟩; refine Hid.out ?_)
  refine Lib.hid ?_
  clear hc
  obtain ⟨pn, hpn⟩ : ∃ b, b = txt (putN (s.items.length : Int) 2) := ⟨_, rfl⟩
  have Hpn := Lib.hid hpn
  have hpz : pn.size = 2 := by rw [hpn]; exact putN_size _
  clear hpn hn
  obtain ⟨vb, hvb⟩ : ∃ b : ByteArray, b = ⟨#[UInt8.ofNat n]⟩ := ⟨_, rfl⟩
  have Hvb := Lib.hid hvb
  have hvz : vb.size = 1 := by rw [hvb]; rfl
  clear hvb
  go_wp2_with fail
  go_cut [5] (fun o wx => o = .string (⟨#[70]⟩ ++ vb ++ pn) ∧ Hid (Below w1.heap.size w1 wx))
  case first =>
    have B5 : Hid (Below w1.heap.size w1 w1) := Lib.hid (Below.refl _ _)
    obtain ⟨zD, hzD⟩ : ∃ z, z = w1.drew := ⟨_, rfl⟩
    have bzD : Below w1.heap.size w1 zD := by rw [hzD]; exact (Below.refl _ _).drew
    replace B5 := tbt B5 bzD
    replace KA := tkb bzD LA KA
    replace LA := tlz LA bzD.size
    replace BB := tbt BB bzD
    replace SA := Lib.hid (SA.out.later bzD bzD.size)
    refine wp_region_held_drew (S := (fun w' => w'.cell? ⟨w.heap.size, 0, none⟩ = some (.slice sa s.items.length sc) ∧ w'.cell? ⟨w.heap.size, 1, none⟩ = some (.slice ta s.talks.length tc))) (by kernel_rfl) (by rw [← hzD]; exact ⟨(by simpa using cell_of_row zD _ 0 _ _ _ KA.out), (by simpa using cell_of_row zD _ 1 _ _ _ KA.out)⟩) (fun hHeld => ?_)
    rw [← hzD] at hHeld ⊢
    clear bzD hzD
    refine tk0 0 ?_
    refine wpAnyH_take (i := 1) (v := .int .u8 n) rfl (by kernel_rfl) (by kernel_rfl) (by kernel_rfl) (fun _ _ _ h => h) (Or.inl ⟨by rfl, ?_⟩) (by assumption) ?_
    · intro w hSw; go_simp; first | done | rfl | simp [hu8]
    try simp only [getElem_toArray, getElem_cons_zero, getElem_cons_succ, Act.put, setIfInBounds_toArray, set_cons_zero, set_cons_succ]
    refine tk0 5 ?_
    refine tk 6 (v := ?_) ?_ ?_; rotate_left
    · refine Or.inl ⟨by rfl, ?_⟩; intro w hSw; obtain ⟨hS0, hS1⟩ := hSw; go_simp; first | done | with_reducible rfl
    refine tk0 7 ?_
    refine rd2 2 8 (fun K hK => ?_) (fun K hK => ?_)
    · go_simp
      obtain ⟨z1, hz1⟩ : ∃ z, z = zD.alloc (.cells #[.int .u8 n] 5) := ⟨_, rfl⟩
      rw [← hz1]
      have bz1 : Below zD.heap.size zD z1 := by rw [hz1]; exact (Below.refl _ _).alloc (Nat.le_refl _) _
      have kz1 : z1.heap[zD.heap.size]? = some (.cells #[.int .u8 n] 5 (0, 0)) := by rw [hz1]; exact heap_new _ _
      have sz1 : z1.heap.size = zD.heap.size + 1 := by rw [hz1]; simp
      replace B5 := tbt B5 bz1
      replace KA := tkb bz1 LA KA
      replace LA := tlz LA bz1.size
      replace BB := tbt BB bz1
      replace SA := Lib.hid (SA.out.later bz1 bz1.size)
      have KC := Lib.hid kz1
      have LC : Hid (zD.heap.size < z1.heap.size) := Lib.hid (by omega)
      clear bz1 kz1 sz1 hz1
      refine hK.out _ _ ⟨(by simpa using cell_of_row z1 _ 0 _ _ _ KA.out), (by simpa using cell_of_row z1 _ 1 _ _ _ KA.out)⟩ (fun hHeld => ?_)
      clear hK K
      try simp only [getElem_toArray, getElem_cons_zero, getElem_cons_succ, Act.put, setIfInBounds_toArray, set_cons_zero, set_cons_succ]
      refine rd2 3 8 (fun K hK => ?_) (fun K hK => ?_)
      · have hcv := conv_rowN (by have := Hn.out; omega) KC.out 1
        rw [← Hvb.out] at hcv
        go_simp
        clear hcv
        refine hK.out _ _ ⟨(by simpa using cell_of_row z1 _ 0 _ _ _ KA.out), (by simpa using cell_of_row z1 _ 1 _ _ _ KA.out)⟩ (fun hHeld => ?_)
        clear hK K
        refine tk0 4 ?_
        refine rd1 8 (fun K hK => ?_)
        go_simp
        have hc := spec_putNum (s.items.length : Int) 2 (by omega) (by omega) z1
        rw [← Hpn.out] at hc
        go_at_call 68
        refine hc.mono ?_
        rintro e z3 ⟨rfl, hb⟩
        replace B5 := tbt B5 hb
        replace KA := tkb hb LA KA
        replace LA := tlz LA hb.size
        replace KC := tkb hb LC KC
        replace LC := tlz LC hb.size
        replace BB := tbt BB hb
        replace SA := Lib.hid (SA.out.later hb hb.size)
        clear hb hc
        go_wp2_with fail
        refine hK.out _ _ ⟨(by simpa using cell_of_row z3 _ 0 _ _ _ KA.out), (by simpa using cell_of_row z3 _ 1 _ _ _ KA.out)⟩ (fun hHeld => ?_)
        clear hK K
        refine tk0 9 ?_
        refine tk0 10 ?_
        refine wpAnyH_done (by kernel_rfl) ?_ _
        clear hHeld
        go_wp2_with fail
        go_meet
        exact ⟨rfl, B5⟩
      · go_simp
        have hc := spec_putNum (s.items.length : Int) 2 (by omega) (by omega) z1
        rw [← Hpn.out] at hc
        go_at_call 68
        refine hc.mono ?_
        rintro e z4 ⟨rfl, hb⟩
        replace B5 := tbt B5 hb
        replace KA := tkb hb LA KA
        replace LA := tlz LA hb.size
        replace KC := tkb hb LC KC
        replace LC := tlz LC hb.size
        replace BB := tbt BB hb
        replace SA := Lib.hid (SA.out.later hb hb.size)
        clear hb hc
        go_wp2_with fail
        refine hK.out _ _ ⟨(by simpa using cell_of_row z4 _ 0 _ _ _ KA.out), (by simpa using cell_of_row z4 _ 1 _ _ _ KA.out)⟩ (fun hHeld => ?_)
        clear hK K
        try simp only [getElem_toArray, getElem_cons_zero, getElem_cons_succ, Act.put, setIfInBounds_toArray, set_cons_zero, set_cons_succ]
        refine rd1 3 (fun K hK => ?_)
        have hcv := conv_rowN (by have := Hn.out; omega) KC.out 1
        rw [← Hvb.out] at hcv
        go_simp
        clear hcv
        refine hK.out _ _ ⟨(by simpa using cell_of_row z4 _ 0 _ _ _ KA.out), (by simpa using cell_of_row z4 _ 1 _ _ _ KA.out)⟩ (fun hHeld => ?_)
        clear hK K
        refine tk0 4 ?_
        refine tk0 9 ?_
        refine tk0 10 ?_
        refine wpAnyH_done (by kernel_rfl) ?_ _
        clear hHeld
        go_wp2_with fail
        go_meet
        exact ⟨rfl, B5⟩
    · go_simp
      have hc := spec_putNum (s.items.length : Int) 2 (by omega) (by omega) zD
      rw [← Hpn.out] at hc
      go_at_call 68
      refine hc.mono ?_
      rintro e z6 ⟨rfl, hb⟩
      replace B5 := tbt B5 hb
      replace KA := tkb hb LA KA
      replace LA := tlz LA hb.size
      replace BB := tbt BB hb
      replace SA := Lib.hid (SA.out.later hb hb.size)
      clear hb hc
      go_wp2_with fail
      refine hK.out _ _ ⟨(by simpa using cell_of_row z6 _ 0 _ _ _ KA.out), (by simpa using cell_of_row z6 _ 1 _ _ _ KA.out)⟩ (fun hHeld => ?_)
      clear hK K
      refine rd1 2 (fun K hK => ?_)
      go_simp
      obtain ⟨z7, hz7⟩ : ∃ z, z = z6.alloc (.cells #[.int .u8 n] 5) := ⟨_, rfl⟩
      rw [← hz7]
      have bz7 : Below z6.heap.size z6 z7 := by rw [hz7]; exact (Below.refl _ _).alloc (Nat.le_refl _) _
      have kz7 : z7.heap[z6.heap.size]? = some (.cells #[.int .u8 n] 5 (0, 0)) := by rw [hz7]; exact heap_new _ _
      have sz7 : z7.heap.size = z6.heap.size + 1 := by rw [hz7]; simp
      replace B5 := tbt B5 bz7
      replace KA := tkb bz7 LA KA
      replace LA := tlz LA bz7.size
      replace BB := tbt BB bz7
      replace SA := Lib.hid (SA.out.later bz7 bz7.size)
      have KC := Lib.hid kz7
      have LC : Hid (z6.heap.size < z7.heap.size) := Lib.hid (by omega)
      clear bz7 kz7 sz7 hz7
      refine hK.out _ _ ⟨(by simpa using cell_of_row z7 _ 0 _ _ _ KA.out), (by simpa using cell_of_row z7 _ 1 _ _ _ KA.out)⟩ (fun hHeld => ?_)
      clear hK K
      try simp only [getElem_toArray, getElem_cons_zero, getElem_cons_succ, Act.put, setIfInBounds_toArray, set_cons_zero, set_cons_succ]
      refine rd1 3 (fun K hK => ?_)
      have hcv := conv_rowN (by have := Hn.out; omega) KC.out 1
      rw [← Hvb.out] at hcv
      go_simp
      clear hcv
      refine hK.out _ _ ⟨(by simpa using cell_of_row z7 _ 0 _ _ _ KA.out), (by simpa using cell_of_row z7 _ 1 _ _ _ KA.out)⟩ (fun hHeld => ?_)
      clear hK K
      refine tk0 4 ?_
      refine tk0 9 ?_
      refine tk0 10 ?_
      refine wpAnyH_done (by kernel_rfl) ?_ _
      clear hHeld
      go_wp2_with fail
      go_meet
      exact ⟨rfl, B5⟩
  case rest =>
    obtain ⟨rfl, hbw⟩ := hcut
    obtain ⟨w3, rfl⟩ : ∃ z, z = wc := ⟨_, rfl⟩
    replace KA := Lib.hid ((hbw.out.block _ LA.out).trans KA.out)
    replace LA := Lib.hid (Nat.lt_of_lt_of_le LA.out hbw.out.size)
    replace BB := Lib.hid (BB.out.trans (hbw.out.mono BB.out.size))
    replace SA := Lib.hid (SA.out.later hbw.out hbw.out.size)
    clear hbw
    obtain ⟨e0, he0⟩ : ∃ b : ByteArray, b = ⟨#[70]⟩ ++ vb ++ pn := ⟨_, rfl⟩
    have E0 : Hid (e0.data.toList = [70] ++ be8 n 1 ++ be8 s.items.length 2) := Lib.hid (by rw [he0, ByteArray.data_append, Array.toList_append, Hpn.out, putN_list, ByteArray.data_append, Array.toList_append, Hvb.out]; rcases Hn.out with rfl | rfl | rfl <;> rfl)
    have e0z : e0.size = 4 := by rw [he0, ByteArray.size_append, ByteArray.size_append, hpz, hvz]; rfl
    rw [← he0]
    have Z0 := Lib.hid e0z
    clear he0 hpz hvz e0z Hpn Hvb hu8
    have fA0 := tcr KA 0
    have fA1 := tcr KA 1
    go_wp2_with fail
    clear fA0 fA1
    go_loopw [5, 6] (fun o i wr => ∃ k : Nat, k ≤ s.items.length ∧ i = .int .i64 k ∧ (∃ b : ByteArray, o = .string b ∧ Hid (b.data.toList = e0.data.toList ++ (s.items.take k).flatMap encIt) ∧ Hid (b.size ≤ 4 + k * 132)) ∧ Hid (Below w3.heap.size w3 wr)) (fun _ i _ => s.items.length - (intOf i).toNat)
    case atStart => exact ⟨0, Nat.zero_le _, rfl, ⟨e0, rfl, Lib.hid (by simp), Lib.hid (by have := Z0.out; omega)⟩, Lib.hid (Below.refl _ _)⟩
    case round =>
      obtain ⟨k, hk, rfl, ⟨b, rfl, hbl, hbz⟩, hbw⟩ := hrel
      replace KA := Lib.hid ((hbw.out.block _ LA.out).trans KA.out)
      replace LA := Lib.hid (Nat.lt_of_lt_of_le LA.out hbw.out.size)
      replace BB := Lib.hid (BB.out.trans (hbw.out.mono BB.out.size))
      replace SA := Lib.hid (SA.out.later hbw.out hbw.out.size)
      by_cases hlt : k < s.items.length
      · obtain ⟨g, o, ha, hg, hat⟩ := st_itemE SA.out hlt
        subst ha
        obtain ⟨y, hy⟩ : ∃ y, y = s.items[k] := ⟨_, rfl⟩
        rw [← hy] at hat
        have hyz := S1.out y (by rw [hy]; exact List.getElem_mem hlt)
        have HEL := Lib.hid hat
        have Hy := Lib.hid hy
        have Hyz := Lib.hid hyz
        obtain ⟨p1, hp1⟩ : ∃ b, b = putTextB y.k := ⟨_, rfl⟩
        obtain ⟨p2, hp2⟩ : ∃ b, b = putTextB y.v := ⟨_, rfl⟩
        have z1 : p1.size ≤ 66 := by rw [hp1]; exact putText_size (by omega)
        have z2 : p2.size ≤ 66 := by rw [hp2]; exact putText_size (by omega)
        have hbz' := hbz.out
        have ns1 : ¬ 9223372036854775807 < b.size + p1.size := by omega
        have ns2 : ¬ 9223372036854775807 < b.size + p1.size + p2.size := by omega
        have Z1 := Lib.hid z1
        have Z2 := Lib.hid z2
        have Hp1 := Lib.hid hp1
        have Hp2 := Lib.hid hp2
        have hlt' : (k : Int) < (s.items.length : Int) := by omega
        have B6 : Hid (Below wr.heap.size wr wr) := Lib.hid (Below.refl _ _)
        clear hat hy hyz hp1 hp2 z1 z2 hbz'
        have fA0 := tcr KA 0
        have fA1 := tcr KA 1
        go_wp2_with fail
        clear fA0 fA1
        obtain ⟨zD, hzD⟩ : ∃ z, z = wr.drew := ⟨_, rfl⟩
        have bzD : Below wr.heap.size wr zD := by rw [hzD]; exact (Below.refl _ _).drew
        replace B6 := tbt B6 bzD
        replace KA := tkb bzD LA KA
        replace LA := tlz LA bzD.size
        replace BB := tbt BB bzD
        replace SA := Lib.hid (SA.out.later bzD bzD.size)
        refine wp_region_held_drew (S := (fun w' => w'.cell? ⟨w.heap.size, 0, none⟩ = some (.slice (some ⟨g, o, none⟩) s.items.length sc) ∧ w'.cell? ⟨w.heap.size, 1, none⟩ = some (.slice ta s.talks.length tc) ∧ w'.cell? ⟨g, o + k * 2, none⟩ = some (.string y.k) ∧ w'.cell? ⟨g, o + k * 2 + 1, none⟩ = some (.string y.v))) (by kernel_rfl) (by rw [← hzD]; exact ⟨(by simpa using cell_of_row zD _ 0 _ _ _ KA.out), (by simpa using cell_of_row zD _ 1 _ _ _ KA.out), (HEL.out _ B6.out).1, (HEL.out _ B6.out).2⟩) (fun hHeld => ?_)
        rw [← hzD] at hHeld ⊢
        have bzE := Lib.hid bzD
        clear bzD hzD
        refine tk0 0 ?_
        refine tk0 1 ?_
        refine tk 2 (v := ?_) ?_ ?_; rotate_left
        · refine Or.inl ⟨by rfl, ?_⟩; intro w hSw; obtain ⟨hS0, hS1, hS2, hS3⟩ := hSw; go_simp; first | done | with_reducible rfl
        refine tk0 3 ?_
        refine tk0 4 ?_
        refine tk0 5 ?_
        refine tk 6 (v := ?_) ?_ ?_; rotate_left
        · refine Or.inl ⟨by rfl, ?_⟩; intro w hSw; obtain ⟨hS0, hS1, hS2, hS3⟩ := hSw; go_simp; first | done | with_reducible rfl
        refine tk0 9 ?_
        refine tk 10 (v := ?_) ?_ ?_; rotate_left
        · refine Or.inl ⟨by rfl, ?_⟩; intro w hSw; obtain ⟨hS0, hS1, hS2, hS3⟩ := hSw; go_simp; first | done | with_reducible rfl
        refine tk0 11 ?_
        refine tk0 12 ?_
        refine tk0 13 ?_
        refine tk 14 (v := ?_) ?_ ?_; rotate_left
        · refine Or.inl ⟨by rfl, ?_⟩; intro w hSw; obtain ⟨hS0, hS1, hS2, hS3⟩ := hSw; go_simp; first | done | with_reducible rfl
        refine rd1 7 (fun K hK => ?_)
        go_simp
        have hc := spec_putText y.k zD (by have := Hyz.out; unfold maxLen; omega)
        rw [← Hp1.out] at hc
        go_at_call 69
        refine hc.mono ?_
        rintro e w5 ⟨rfl, hb⟩
        replace B6 := tbt B6 hb
        replace KA := tkb hb LA KA
        replace LA := tlz LA hb.size
        replace BB := tbt BB hb
        replace SA := Lib.hid (SA.out.later hb hb.size)
        clear hb hc
        go_wp2_with fail
        refine hK.out _ _ ⟨(by simpa using cell_of_row w5 _ 0 _ _ _ KA.out), (by simpa using cell_of_row w5 _ 1 _ _ _ KA.out), (HEL.out _ B6.out).1, (HEL.out _ B6.out).2⟩ (fun hHeld => ?_)
        clear hK K
        refine tk0 8 ?_
        refine rd1 15 (fun K hK => ?_)
        go_simp
        have hc := spec_putText y.v w5 (by have := Hyz.out; unfold maxLen; omega)
        rw [← Hp2.out] at hc
        go_at_call 69
        refine hc.mono ?_
        rintro e w6 ⟨rfl, hb⟩
        replace B6 := tbt B6 hb
        replace KA := tkb hb LA KA
        replace LA := tlz LA hb.size
        replace BB := tbt BB hb
        replace SA := Lib.hid (SA.out.later hb hb.size)
        clear hb hc
        go_wp2_with fail
        refine hK.out _ _ ⟨(by simpa using cell_of_row w6 _ 0 _ _ _ KA.out), (by simpa using cell_of_row w6 _ 1 _ _ _ KA.out), (HEL.out _ B6.out).1, (HEL.out _ B6.out).2⟩ (fun hHeld => ?_)
        clear hK K
        refine tk0 16 ?_
        refine tk0 17 ?_
        refine wpAnyH_done (by kernel_rfl) ?_ _
        clear hHeld
        go_wp2_with fail
        go_roundw
        case rel => exact ⟨k + 1, by omega, by go_num, ⟨b ++ p1 ++ p2, rfl, Lib.hid (by
          have hyz := Hyz.out
          rw [ByteArray.data_append, ByteArray.data_append, Array.toList_append, Array.toList_append, hbl.out, Hp1.out, Hp2.out, putText_list (by omega), putText_list (by omega), List.take_succ_eq_append_getElem hlt, List.flatMap_append, ← Hy.out]
          simp [encIt, List.append_assoc]), Lib.hid (by have := Z1.out; have := Z2.out; have := hbz.out; rw [ByteArray.size_append, ByteArray.size_append]; omega)⟩, Lib.hid (hbw.out.trans (B6.out.mono hbw.out.size))⟩
        case measure => simp [intOf]; omega
      · have hge : ¬ (k : Int) < (s.items.length : Int) := by omega
        have hkn : k = s.items.length := by omega
        have B1 : Hid (b.data.toList = e0.data.toList ++ s.items.flatMap encIt) := Lib.hid (by rw [hbl.out, hkn, List.take_length])
        by_cases h1 : n = 1
        · have hq1 : ((n : Int) == 1) = true := by simp [h1]
          have FIN : Hid (b = fmtS s n) := Lib.hid (by
            rw [fmtS_low Hok.out (by rw [h1]; rfl) (by omega), h1]
            apply ByteArray.ext
            apply Array.toList_inj.mp
            rw [B1.out, E0.out, h1]
            simp [bodyB, bodyL])
          clear h1 hkn
          have fA0 := tcr KA 0
          have fA1 := tcr KA 1
          go_wp2_with fail
          go_ret
          exact ⟨ret_txt FIN.out, BB.out⟩
        · have hq1 : ((n : Int) == 1) = false := by rw [beq_eq_false_iff_ne]; omega
          have H1 := Lib.hid h1
          clear h1
          have B1z : Hid (b.size ≤ 5284) := Lib.hid (by have := hbz.out; omega)
          have hb1 := B1z.out
          obtain ⟨pm, hpm⟩ : ∃ b, b = txt (putN (s.talks.length : Int) 2) := ⟨_, rfl⟩
          have Hpm := Lib.hid hpm
          have hpz : pm.size = 2 := by rw [hpm]; exact putN_size _
          have ns1 : ¬ 9223372036854775807 < b.size + 2 := by omega
          clear hpm hkn hb1
          have hc := spec_putNum (s.talks.length : Int) 2 (by omega) (by omega) wr
          rw [← Hpm.out] at hc
          have fA0 := tcr KA 0
          have fA1 := tcr KA 1
          go_wp2_with (go_at_call 68; refine hc.mono ?_; rintro e w7 ⟨rfl, hb⟩; refine Hid.out ?_)
          refine Lib.hid ?_
          clear fA0 fA1
          replace KA := tkb hb LA KA
          replace LA := tlz LA hb.size
          replace BB := tbt BB hb
          replace SA := Lib.hid (SA.out.later hb hb.size)
          clear hc hb
          have fA0 := tcr KA 0
          have fA1 := tcr KA 1
          go_wp2_with fail
          clear fA0 fA1
          obtain ⟨e1, he1⟩ : ∃ x : ByteArray, x = b ++ pm := ⟨_, rfl⟩
          have E1 : Hid (e1.data.toList = e0.data.toList ++ s.items.flatMap encIt ++ be8 s.talks.length 2) := Lib.hid (by rw [he1, ByteArray.data_append, Array.toList_append, B1.out, Hpm.out, putN_list])
          have E1z : Hid (e1.size ≤ 5286) := Lib.hid (by have := B1z.out; rw [he1, ByteArray.size_append, hpz]; omega)
          rw [← he1]
          clear he1 hpz ns1
          go_loopw [5, 7] (fun o i wr => ∃ k : Nat, k ≤ s.talks.length ∧ i = .int .i64 k ∧ (∃ b : ByteArray, o = .string b ∧ Hid (b.data.toList = e1.data.toList ++ (s.talks.take k).flatMap encTk) ∧ Hid (b.size ≤ 5286 + k * 136)) ∧ Hid (Below w7.heap.size w7 wr)) (fun _ i _ => s.talks.length - (intOf i).toNat)
          case atStart => exact ⟨0, Nat.zero_le _, rfl, ⟨e1, rfl, Lib.hid (by simp), Lib.hid (by have := E1z.out; omega)⟩, Lib.hid (Below.refl _ _)⟩
          case round =>
            skip
            obtain ⟨k2, hk2, rfl, ⟨b2, rfl, hbl2, hbz2⟩, hbw2⟩ := hrel
            skip
            replace KA := Lib.hid ((hbw2.out.block _ LA.out).trans KA.out)
            replace LA := Lib.hid (Nat.lt_of_lt_of_le LA.out hbw2.out.size)
            replace BB := Lib.hid (BB.out.trans (hbw2.out.mono BB.out.size))
            replace SA := Lib.hid (SA.out.later hbw2.out hbw2.out.size)
            by_cases hlt2 : k2 < s.talks.length
            · obtain ⟨g, o, ha, hg, hat⟩ := st_talkE SA.out hlt2
              subst ha
              obtain ⟨y, hy⟩ : ∃ y, y = s.talks[k2] := ⟨_, rfl⟩
              rw [← hy] at hat
              have hyz := S2.out y (by rw [hy]; exact List.getElem_mem hlt2)
              have hyq := HQ.out y (by rw [hy]; exact List.getElem_mem hlt2)
              have HEL := Lib.hid hat
              have Hy := Lib.hid hy
              have Hyz := Lib.hid hyz
              have Hyq := Lib.hid hyq
              obtain ⟨p1, hp1⟩ : ∃ b, b = putTextB y.c := ⟨_, rfl⟩
              obtain ⟨p2, hp2⟩ : ∃ b, b = txt (putN y.q 4) := ⟨_, rfl⟩
              obtain ⟨p3, hp3⟩ : ∃ b, b = putTextB y.r := ⟨_, rfl⟩
              have z1 : p1.size ≤ 66 := by rw [hp1]; exact putText_size (by omega)
              have z2 : p2.size = 4 := by rw [hp2]; exact putQ_size (by omega)
              have z3 : p3.size ≤ 66 := by rw [hp3]; exact putText_size (by omega)
              have hbz' := hbz2.out
              have ns1 : ¬ 9223372036854775807 < b2.size + p1.size := by omega
              have ns2 : ¬ 9223372036854775807 < b2.size + p1.size + 4 := by omega
              have ns3 : ¬ 9223372036854775807 < b2.size + p1.size + 4 + p3.size := by omega
              have Z1 := Lib.hid z1
              have Z3 := Lib.hid z3
              have Hp1 := Lib.hid hp1
              have Hp2 := Lib.hid hp2
              have Hp3 := Lib.hid hp3
              have hlt' : (k2 : Int) < (s.talks.length : Int) := by omega
              have B6 : Hid (Below wr.heap.size wr wr) := Lib.hid (Below.refl _ _)
              clear hat hy hyz hyq hp1 hp2 hp3 z1 z3 hbz'
              have fA0 := tcr KA 0
              have fA1 := tcr KA 1
              go_wp2_with fail
              clear fA0 fA1
              obtain ⟨zD, hzD⟩ : ∃ z, z = wr.drew := ⟨_, rfl⟩
              have bzD : Below wr.heap.size wr zD := by rw [hzD]; exact (Below.refl _ _).drew
              replace B6 := tbt B6 bzD
              replace KA := tkb bzD LA KA
              replace LA := tlz LA bzD.size
              replace BB := tbt BB bzD
              replace SA := Lib.hid (SA.out.later bzD bzD.size)
              refine wp_region_held_drew (S := (fun w' => w'.cell? ⟨w.heap.size, 0, none⟩ = some (.slice sa s.items.length sc) ∧ w'.cell? ⟨w.heap.size, 1, none⟩ = some (.slice (some ⟨g, o, none⟩) s.talks.length tc) ∧ w'.cell? ⟨g, o + k2 * 3, none⟩ = some (.string y.c) ∧ w'.cell? ⟨g, o + k2 * 3 + 1, none⟩ = some (.int .i64 y.q) ∧ w'.cell? ⟨g, o + k2 * 3 + 2, none⟩ = some (.string y.r))) (by kernel_rfl) (by rw [← hzD]; exact ⟨(by simpa using cell_of_row zD _ 0 _ _ _ KA.out), (by simpa using cell_of_row zD _ 1 _ _ _ KA.out), (HEL.out _ B6.out).1, (HEL.out _ B6.out).2.1, (HEL.out _ B6.out).2.2⟩) (fun hHeld => ?_)
              rw [← hzD] at hHeld ⊢
              have bzE := Lib.hid bzD
              clear bzD hzD
              refine tk0 0 ?_
              refine tk0 1 ?_
              refine tk 2 (v := ?_) ?_ ?_; rotate_left
              · refine Or.inl ⟨by rfl, ?_⟩; intro w hSw; obtain ⟨hS0, hS1, hS2, hS3, hS4⟩ := hSw; go_simp; first | done | with_reducible rfl
              refine tk0 3 ?_
              refine tk0 4 ?_
              refine tk0 5 ?_
              refine tk 6 (v := ?_) ?_ ?_; rotate_left
              · refine Or.inl ⟨by rfl, ?_⟩; intro w hSw; obtain ⟨hS0, hS1, hS2, hS3, hS4⟩ := hSw; go_simp; first | done | with_reducible rfl
              refine tk0 9 ?_
              refine tk 10 (v := ?_) ?_ ?_; rotate_left
              · refine Or.inl ⟨by rfl, ?_⟩; intro w hSw; obtain ⟨hS0, hS1, hS2, hS3, hS4⟩ := hSw; go_simp; first | done | with_reducible rfl
              refine tk0 11 ?_
              refine tk0 12 ?_
              refine tk0 13 ?_
              refine tk 14 (v := ?_) ?_ ?_; rotate_left
              · refine Or.inl ⟨by rfl, ?_⟩; intro w hSw; obtain ⟨hS0, hS1, hS2, hS3, hS4⟩ := hSw; go_simp; first | done | with_reducible rfl
              refine tk0 17 ?_
              refine tk 18 (v := ?_) ?_ ?_; rotate_left
              · refine Or.inl ⟨by rfl, ?_⟩; intro w hSw; obtain ⟨hS0, hS1, hS2, hS3, hS4⟩ := hSw; go_simp; first | done | with_reducible rfl
              refine tk0 19 ?_
              refine tk0 20 ?_
              refine tk0 21 ?_
              refine tk 22 (v := ?_) ?_ ?_; rotate_left
              · refine Or.inl ⟨by rfl, ?_⟩; intro w hSw; obtain ⟨hS0, hS1, hS2, hS3, hS4⟩ := hSw; go_simp; first | done | with_reducible rfl
              refine rd1 7 (fun K hK => ?_)
              go_simp
              have hc := spec_putText y.c zD (by have := Hyz.out; unfold maxLen; omega)
              rw [← Hp1.out] at hc
              go_at_call 69
              refine hc.mono ?_
              rintro e w8 ⟨rfl, hb⟩
              replace B6 := tbt B6 hb
              replace KA := tkb hb LA KA
              replace LA := tlz LA hb.size
              replace BB := tbt BB hb
              replace SA := Lib.hid (SA.out.later hb hb.size)
              clear hb hc
              go_wp2_with fail
              refine hK.out _ _ ⟨(by simpa using cell_of_row w8 _ 0 _ _ _ KA.out), (by simpa using cell_of_row w8 _ 1 _ _ _ KA.out), (HEL.out _ B6.out).1, (HEL.out _ B6.out).2.1, (HEL.out _ B6.out).2.2⟩ (fun hHeld => ?_)
              clear hK K
              refine tk0 8 ?_
              refine rd1 15 (fun K hK => ?_)
              go_simp
              have hc := spec_putNum y.q 4 (by have := Hyq.out; omega) (by omega) w8
              rw [← Hp2.out] at hc
              go_at_call 68
              refine hc.mono ?_
              rintro e w9 ⟨rfl, hb⟩
              replace B6 := tbt B6 hb
              replace KA := tkb hb LA KA
              replace LA := tlz LA hb.size
              replace BB := tbt BB hb
              replace SA := Lib.hid (SA.out.later hb hb.size)
              clear hb hc
              go_wp2_with fail
              refine hK.out _ _ ⟨(by simpa using cell_of_row w9 _ 0 _ _ _ KA.out), (by simpa using cell_of_row w9 _ 1 _ _ _ KA.out), (HEL.out _ B6.out).1, (HEL.out _ B6.out).2.1, (HEL.out _ B6.out).2.2⟩ (fun hHeld => ?_)
              clear hK K
              refine tk0 16 ?_
              refine rd1 23 (fun K hK => ?_)
              go_simp
              have hc := spec_putText y.r w9 (by have := Hyz.out; unfold maxLen; omega)
              rw [← Hp3.out] at hc
              go_at_call 69
              refine hc.mono ?_
              rintro e w10 ⟨rfl, hb⟩
              replace B6 := tbt B6 hb
              replace KA := tkb hb LA KA
              replace LA := tlz LA hb.size
              replace BB := tbt BB hb
              replace SA := Lib.hid (SA.out.later hb hb.size)
              clear hb hc
              go_wp2_with fail
              refine hK.out _ _ ⟨(by simpa using cell_of_row w10 _ 0 _ _ _ KA.out), (by simpa using cell_of_row w10 _ 1 _ _ _ KA.out), (HEL.out _ B6.out).1, (HEL.out _ B6.out).2.1, (HEL.out _ B6.out).2.2⟩ (fun hHeld => ?_)
              clear hK K
              refine tk0 24 ?_
              refine tk0 25 ?_
              refine wpAnyH_done (by kernel_rfl) ?_ _
              clear hHeld
              go_wp2_with fail
              go_roundw
              case rel => exact ⟨k2 + 1, by omega, by go_num, ⟨b2 ++ p1 ++ p2 ++ p3, rfl, Lib.hid (by
                have hyz := Hyz.out
                have hyq := Hyq.out
                rw [ByteArray.data_append, ByteArray.data_append, ByteArray.data_append, Array.toList_append, Array.toList_append, Array.toList_append, hbl2.out, Hp1.out, Hp2.out, Hp3.out, putText_list (by omega), putText_list (by omega), putQ_list hyq.1, List.take_succ_eq_append_getElem hlt2, List.flatMap_append, ← Hy.out]
                simp [encTk, List.append_assoc]), Lib.hid (by have := Z1.out; have := Z3.out; have := hbz2.out; rw [ByteArray.size_append, ByteArray.size_append, ByteArray.size_append]; omega)⟩, Lib.hid (hbw2.out.trans (B6.out.mono hbw2.out.size))⟩
              case measure => simp [intOf]; omega
            · have hge2 : ¬ (k2 : Int) < (s.talks.length : Int) := by omega
              have hkn : k2 = s.talks.length := by omega
              have FIN : Hid (b2 = bodyB n s) := Lib.hid (by
                apply ByteArray.ext
                apply Array.toList_inj.mp
                rw [hbl2.out, E1.out, E0.out, hkn, List.take_length]
                simp [bodyB, bodyL, H1.out, List.append_assoc])
              have B2z : b2.size ≤ 1099511627776 := by have := hbz2.out; omega
              clear hkn
              by_cases h3 : n = 3
              · have hq3 : ((n : Int) == 3) = true := by simp [h3]
                have FX : Hid (sealB b2 = fmtS s n) := Lib.hid (by rw [FIN.out, h3]; exact (fmtS_seal Hok.out).symm)
                have hc := spec_sealed b2 wr B2z
                clear h3
                have fA0 := tcr KA 0
                have fA1 := tcr KA 1
                go_wp2_with (go_at_call 70; refine hc.mono ?_; rintro e w11 ⟨rfl, hb⟩)
                go_ret
                exact ⟨ret_txt FX.out, BB.out.trans (hb.mono BB.out.size)⟩
              · have hq3 : ((n : Int) == 3) = false := by rw [beq_eq_false_iff_ne]; omega
                have FX : Hid (b2 = fmtS s n) := Lib.hid (by rw [FIN.out, fmtS_low Hok.out (by have := Hn.out; rcases this with rfl | rfl | rfl <;> rfl) (by omega)]; rfl)
                clear h3
                have fA0 := tcr KA 0
                have fA1 := tcr KA 1
                go_wp2_with fail
                go_ret
                exact ⟨ret_txt FX.out, BB.out⟩
/-- At every state and every number. -/
theorem spec_encode (s : St) (v : Value) (n : Int) (B : Nat) (w : World) (hs : StV w B v s) (hB : B ≤ w.heap.size) (hfit : Fits s) :
    Calls Tryz.prog 33 #[v, .int .i64 n] w fun e w' => e = .returned (.string (fmtS s n)) ∧ Below w.heap.size w w' := by
  by_cases hgood : stOk s = true ∧ inB n 1 3 = true
  · obtain ⟨h1, h2⟩ := hgood
    have hb := inB_true h2
    obtain ⟨m, rfl⟩ := Int.eq_ofNat_of_zero_le (show 0 ≤ n by omega)
    exact spec_encode_ok s v m B w hs hB hfit h1 (by omega)
  · have hv : Hid ((⟨#[]⟩ : ByteArray) = fmtS s n) := Lib.hid (by unfold fmtS; rw [if_neg hgood])
    obtain ⟨vi, vt, rfl, hri, hrt⟩ := hs.rd
    obtain ⟨W, hW⟩ : ∃ W, W = w.alloc (.cells #[vi, vt] 27) := ⟨_, rfl⟩
    have bW : Below w.heap.size w W := by rw [hW]; exact (Below.refl _ _).alloc (Nat.le_refl _) _
    have KS : Hid (W.heap[w.heap.size]? = some (.cells #[vi, vt] 27 (0, 0))) := Lib.hid (by rw [hW]; exact heap_new _ _)
    have hc0 := spec_stateOk s _ B W (hs.later (bW.mono hB) (Nat.le_refl _)) (Nat.le_trans hB bW.size) hfit
    have f0 := tcr KS 0
    have f1 := tcr KS 1
    rw [hW] at hc0 f0 f1
    have BB := Lib.hid bW
    clear hs hri hrt bW KS
    cases hok : stOk s
    · rw [hok] at hc0
      clear hok hgood
      go_enter Tryz.func33, Tryz.ntmps33
      go_wp2_with (go_at_call 14; refine hc0.mono ?_; rintro e w1 ⟨rfl, hb1⟩)
      rw [← hW] at hb1
      go_ret
      exact ⟨ret_txt hv.out, BB.out.trans (hb1.mono BB.out.size)⟩
    · rw [hok] at hc0
      have hin : inB n 1 3 = false := by cases h : inB n 1 3 with | false => rfl | true => exact absurd ⟨hok, h⟩ hgood
      have Hin := Lib.hid hin
      clear hok hgood hin
      go_enter Tryz.func33, Tryz.ntmps33
      go_wp2_with (first | (go_at_call 14; refine hc0.mono ?_; rintro e w1 ⟨rfl, hb1⟩; refine Hid.out ?_))
      refine Lib.hid ?_
      rw [← hW] at hb1
      clear hc0 hW f0 f1
      go_wp2_with (go_at_call 66; refine (in_any _ _ _ _).mono ?_; rintro e w' ⟨rfl, rfl⟩; rw [Hin.out])
      go_ret
      exact ⟨ret_txt hv.out, BB.out.trans (hb1.mono BB.out.size)⟩

end Go.Proofs.YtdpjdjkfedcojaaGreat
