/- Rows of states: how they are told; the exact laws' measure, copy and comparison of them. Condition: none. -/
import Derived.Test.YtebmaplflpfjbaaBaseA
import Derived.Test.YtebmaplflpfjbaaAppendNil
namespace Go.Proofs.Ytebmaplflpfjbaa
open Go.RowKit List
set_option linter.unusedVariables false
set_option linter.unusedSimpArgs false

/-- A state in a row: its two slices, the blocks where they lie (if the call owns them), the state. -/
structure Sq where
  vi : Value
  vt : Value
  gi : Nat
  ci : Nat
  gt : Nat
  ct : Nat
  s : St
instance : Inhabited Sq := ⟨⟨undef, undef, 0, 0, 0, 0, ⟨[], []⟩⟩⟩
def sqC (q : Sq) : List Value := [q.vi, q.vt]
def Sq.v (q : Sq) : Value := .agg #[q.vi, q.vt]
theorem sqC_len (qs : List Sq) : (qs.flatMap sqC).length = qs.length * 2 := by
  induction qs with
  | nil => rfl
  | cons x xs ih => rw [List.flatMap_cons, List.length_append, ih, List.length_cons]; simp [sqC]; omega
theorem At.sq {w : World} {g o : Nat} {xs : List Sq} (h : At w g o (xs.flatMap sqC)) (i : Nat) (hi : i < xs.length) :
    w.cell? ⟨g, o + i * 2, none⟩ = some xs[i].vi ∧ w.cell? ⟨g, o + i * 2 + 1, none⟩ = some xs[i].vt := by
  induction xs generalizing o i with
  | nil => simp at hi
  | cons x xs ih =>
    rw [List.flatMap_cons, At.append] at h
    cases i with
    | zero =>
      have h1 := h.1
      simp only [sqC, At.cons] at h1
      exact ⟨by simpa using h1.1, by simpa using h1.2.1⟩
    | succ i =>
      have := ih h.2 i (by simpa using hi)
      simp only [sqC, List.length_cons, List.length_nil] at this
      rw [show o + (0 + 1 + 1) + i * 2 = o + (i + 1) * 2 by omega] at this
      exact this
/-- A row of states that may be read. -/
def RdL (w : World) (B : Nat) (v : Value) (qs : List Sq) : Prop := Raw w B v qs.length (qs.flatMap sqC) ∧ ∀ q ∈ qs, Rd w B q.v q.s
theorem RdL.later {w w' : World} {B B' : Nat} {v : Value} {qs : List Sq} (h : RdL w B v qs) (hb : Below B w w') (hB : B ≤ B') : RdL w' B' v qs := ⟨h.1.later hb hB, fun q hq => (h.2 q hq).later hb hB⟩
/-- A row of states that came in. -/
def RawL (w : World) (B : Nat) (v : Value) (qs : List Sq) : Prop := Raw w B v qs.length (qs.flatMap sqC) ∧ ∀ q ∈ qs, RawS w B q.v q.s
theorem RawL.later {w w' : World} {B B' : Nat} {v : Value} {qs : List Sq} (h : RawL w B v qs) (hb : Below B w w') (hB : B ≤ B') : RawL w' B' v qs := ⟨h.1.later hb hB, fun q hq => (h.2 q hq).later hb hB⟩
theorem RawS.rd {w : World} {B : Nat} {v : Value} {s : St} (h : RawS w B v s) : Rd w B v s := by
  obtain ⟨vi, vt, h0, h1, h2, _⟩ := h
  exact ⟨vi, vt, h0, h1, h2⟩
theorem RawL.rd {w : World} {B : Nat} {v : Value} {qs : List Sq} (h : RawL w B v qs) : RdL w B v qs := ⟨h.1, fun q hq => (h.2 q hq).rd⟩
/-- A state of a row whose rows are the call's own. -/
def SqOwn (w : World) (base : Nat) (q : Sq) : Prop := SlN q.vi q.gi q.s.items.length q.ci ∧ SlN q.vt q.gt q.s.talks.length q.ct ∧
  Got w base 74 2 q.gi q.s.items.length q.ci (q.s.items.flatMap itC) ∧ Got w base 45 3 q.gt q.s.talks.length q.ct (q.s.talks.flatMap tkC)
theorem SqOwn.later {w w' : World} {base : Nat} {q : Sq} (h : SqOwn w base q) (hb : Below w.heap.size w w') : SqOwn w' base q := ⟨h.1, h.2.1, h.2.2.1.later hb, h.2.2.2.later hb⟩
theorem SqOwn.grown {w w' : World} {base g : Nat} {q : Sq} (h : SqOwn w base q) (hg : w.grownBy w' (some g)) (h1 : q.gi ≠ g) (h2 : q.gt ≠ g) : SqOwn w' base q := ⟨h.1, h.2.1, h.2.2.1.grown hg h1, h.2.2.2.grown hg h2⟩
theorem SqOwn.base {w : World} {base base' : Nat} {q : Sq} (h : SqOwn w base q) (hb : base' ≤ base) : SqOwn w base' q := ⟨h.1, h.2.1, h.2.2.1.base hb, h.2.2.2.base hb⟩
theorem SqOwn.rd {w : World} {base : Nat} {q : Sq} (h : SqOwn w base q) : Rd w w.heap.size q.v q.s :=
  ⟨_, _, rfl, raw_of_row (row_of_gotN h.2.2.1 h.1), raw_of_row (row_of_gotN h.2.2.2 h.2.1)⟩
theorem SqOwn.st {w : World} {base : Nat} {q : Sq} (h : SqOwn w base q) : StV w w.heap.size q.v q.s :=
  ⟨_, _, rfl, row_of_gotN h.2.2.1 h.1, row_of_gotN h.2.2.2 h.2.1⟩
/-- The blocks of a row's states. -/
def sqB (qs : List Sq) : List Nat := qs.flatMap fun q => [q.gi, q.gt]
/-- A row of states of the call's own: the row in the block g; each state in blocks of its own. -/
structure OwnL (w : World) (base g n cap : Nat) (qs : List Sq) : Prop where
  row : w.ownsRow base 31 2 (.slice (some ⟨g, 0, none⟩) n cap) n (qs.flatMap sqC)
  capl : n ≤ cap ∧ cap ≤ maxLen
  len : qs.length = n
  own : ∀ q ∈ qs, SqOwn w base q
  apart : (sqB qs).Nodup
  notg : g ∉ sqB qs
theorem sqB_mem {qs : List Sq} {q : Sq} (h : q ∈ qs) : q.gi ∈ sqB qs ∧ q.gt ∈ sqB qs :=
  ⟨List.mem_flatMap.2 ⟨q, h, by simp⟩, List.mem_flatMap.2 ⟨q, h, by simp⟩⟩
theorem sqB_lt {w : World} {base : Nat} {qs : List Sq} (h : ∀ q ∈ qs, SqOwn w base q) : ∀ b ∈ sqB qs, base ≤ b ∧ b < w.heap.size := by
  intro b hb
  obtain ⟨q, hq, hb⟩ := List.mem_flatMap.1 hb
  have h1 := h q hq
  simp at hb
  rcases hb with rfl | rfl
  · exact ⟨h1.2.2.1.2.2.2.1, h1.2.2.1.2.2.2.2.1⟩
  · exact ⟨h1.2.2.2.2.2.2.1, h1.2.2.2.2.2.2.2.1⟩
theorem sqB_append (a b : List Sq) : sqB (a ++ b) = sqB a ++ sqB b := by unfold sqB; rw [List.flatMap_append]
theorem sqB_one (q : Sq) : sqB [q] = [q.gi, q.gt] := rfl
theorem OwnL.later {w w' : World} {base g n cap : Nat} {qs : List Sq} (h : OwnL w base g n cap qs) (hb : Below w.heap.size w w') : OwnL w' base g n cap qs :=
  ⟨World.ownsRow.kept h.row (grown_of_below hb none) (.inr (by simp [Value.ownBlock])), h.capl, h.len, fun q hq => (h.own q hq).later hb, h.apart, h.notg⟩
theorem OwnL.base {w : World} {base base' g n cap : Nat} {qs : List Sq} (h : OwnL w base g n cap qs) (hb : base' ≤ base) : OwnL w base' g n cap qs :=
  ⟨owns_base h.row hb, h.capl, h.len, fun q hq => (h.own q hq).base hb, h.apart, h.notg⟩
theorem OwnL.glt {w : World} {base g n cap : Nat} {qs : List Sq} (h : OwnL w base g n cap qs) : base ≤ g ∧ g < w.heap.size := World.ownsRow.lt h.row g rfl
theorem OwnL.rd {w : World} {base g n cap : Nat} {qs : List Sq} (h : OwnL w base g n cap qs) : RdL w w.heap.size (.slice (some ⟨g, 0, none⟩) n cap) qs := by
  refine ⟨⟨_, cap, by rw [h.len], by rw [h.len]; exact h.capl.1, h.capl.2, (fun e => by cases e), fun h0 => ⟨g, 0, rfl, h.glt.2, fun j u hu => ?_⟩⟩, fun q hq => (h.own q hq).rd⟩
  have := h.row.cells (g := g) rfl j u hu
  rwa [add_flat] at this

set_option maxHeartbeats 1000000 in
theorem sz_states (qs : List Sq) (v : Value) (B : Nat) (l : Int) (w : World) (hr : RawL w B v qs) (hB : B ≤ w.heap.size) (hl : 0 ≤ l ∧ l ≤ 1048576) :
    Calls Try.prog 38 #[v, .int .i64 l] w fun e w' => ∃ r : Int, e = .returned (.int .i64 r) ∧ -1 ≤ r ∧ r ≤ l ∧ (0 ≤ r → (qs.length : Int) ≤ l ∧ ∀ q ∈ qs, Small q.s l) ∧ Below w.heap.size w w' := by
  obtain ⟨⟨a, cap, rfl, hn, hcap, _, hat⟩, hf⟩ := hr
  obtain ⟨n, hN⟩ : ∃ n, n = qs.length := ⟨_, rfl⟩
  rw [← hN] at hn hat ⊢
  have HN := Lib.hid hN
  have Hat := Lib.hid hat
  unfold maxLen at hcap
  clear hN hat
  by_cases h1 : l - (n : Int) < 0
  · go_enter Try.func38, Try.ntmps38
    go_wp2
    go_ret
    exact ⟨-1, ret_int rfl, by omega, by omega, fun h => by omega, Below.refl _ _⟩
  · go_enter Try.func38, Try.ntmps38
    go_wp2
    go_loopw [1, 5] (fun lv i wr => ∃ (k : Nat) (q : Int), k ≤ n ∧ i = .int .i64 k ∧ lv = .int .i64 q ∧ 0 ≤ q ∧ q ≤ l ∧ Hid (∀ j (hj : j < qs.length), j < k → Small qs[j].s l) ∧ Hid (Below w.heap.size w wr)) (fun _ i _ => n - (intOf i).toNat)
    case atStart => exact ⟨0, l - n, by omega, rfl, rfl, by omega, by omega, Lib.hid (fun j hj h => by omega), Lib.hid (Below.refl _ _)⟩
    case round =>
      obtain ⟨k, q, hk, rfl, rfl, hq0, hq1, hsm, hbw⟩ := hrel
      by_cases hlt : k < n
      · obtain ⟨g, o, ha, hg, hAt⟩ := Hat.out (by omega)
        subst ha
        have hkl : k < qs.length := by have := HN.out; omega
        obtain ⟨x, hx⟩ : ∃ x, x = qs[k] := ⟨_, rfl⟩
        have hfx := hf x (by rw [hx]; exact List.getElem_mem _)
        have hgw : g < w.heap.size := by omega
        have hc := hAt.sq k hkl
        rw [← hx] at hc
        simp only [← hbw.out.cell (p := ⟨g, o + k * 2, none⟩) hgw, ← hbw.out.cell (p := ⟨g, o + k * 2 + 1, none⟩) hgw] at hc
        have hcall := sz_state x.s x.v B q wr (hfx.later (hbw.out.mono hB) (Nat.le_refl _)) (Nat.le_trans hB hbw.out.size) ⟨hq0, by omega⟩
        have HX := Lib.hid hx
        have Hat' := Lib.hid hAt
        unfold Sq.v at hcall
        obtain ⟨hc0, hc1⟩ := hc
        have hb0 := hbw.out
        have hsz := hb0.size
        have Hf := Lib.hid hf
        clear hx hAt hfx Hat hf
        go_wp2_with (go_at_call 31; refine hcall.mono ?_; rintro e w1 ⟨r, rfl, hr0, hr1, hr2, hb1⟩; refine Hid.out ?_)
        refine Lib.hid ?_
        have hb2 := hb0.trans (hb1.mono hsz)
        by_cases hneg : r < 0
        · clear hr2
          go_wp2_with fail
          go_ret
          exact ⟨-1, ret_int rfl, by omega, by omega, fun h => by omega, hb2⟩
        · have hr2 := hr2 (by omega)
          have hsm' : Hid (∀ j (hj : j < qs.length), j < k + 1 → Small qs[j].s l) := Lib.hid (fun j hj h => by
            by_cases he : j = k
            · subst he
              have h2 := HX.out
              rw [← h2]; exact hr2.mono (by omega)
            · exact hsm.out j hj (by omega))
          clear hr2
          go_wp2_with fail
          go_roundw
          case rel => exact ⟨k + 1, r, by omega, by go_num, rfl, by omega, by omega, hsm', Lib.hid hb2⟩
          case measure => simp [intOf]; omega
      · go_wp2
        go_ret
        exact ⟨q, ret_int rfl, by omega, by omega, fun h => ⟨by omega, fun x hx => by
          obtain ⟨j, hj, rfl⟩ := List.getElem_of_mem hx
          exact hsm.out j hj (by have := HN.out; omega)⟩, hbw.out⟩

set_option maxHeartbeats 4000000 in
theorem to_states (qs : List Sq) (v : Value) (B : Nat) (w : World) (hr : RawL w B v qs) (hB : B ≤ w.heap.size) (hl : qs.length ≤ 1048576) (hs : ∀ q ∈ qs, Small q.s 1048576) :
    Calls Try.prog 39 #[v] w fun e w' => ∃ g rs, e = .returned (.slice (some ⟨g, 0, none⟩) qs.length qs.length) ∧ OwnL w' w.heap.size g qs.length qs.length rs ∧ rs.map Sq.s = qs.map Sq.s ∧ Below w.heap.size w w' := by
  obtain ⟨i0, hi, hz0, hz1, hz2⟩ := info_parts infoSt
  obtain ⟨⟨a, cap, rfl, hn, hcap, _, hat⟩, hf⟩ := hr
  obtain ⟨n, hN⟩ : ∃ n, n = qs.length := ⟨_, rfl⟩
  rw [← hN] at hn hat hl ⊢
  have HN := Lib.hid hN
  have Hat := Lib.hid hat
  have Hf := Lib.hid hf
  have Hs := Lib.hid hs
  unfold maxLen at hcap
  clear hN hat hf hs
  obtain ⟨w1, hmk, hown, hgr⟩ := run_make_full (P := Try.prog) w w.heap.size 34 31 i0 _ 2 Try.underlying34 hi hz0 hz1 .i64 .i64 n (by rw [hz2]; omega) (by unfold maxLen; omega) (Nat.le_refl _)
  have hb1 : Below w.heap.size w w1 := (Below.refl _ _).grown hgr (Nat.le_refl _) (fun k hk => by cases hk)
  have Hsz1 : Hid (w.heap.size < w1.heap.size) := Lib.hid (World.ownsRow.lt hown _ rfl).2
  obtain ⟨G, hG⟩ : ∃ G, G = w.heap.size := ⟨_, rfl⟩
  have Hown := Lib.hid hown
  have Hb1 := Lib.hid hb1
  rw [← hG] at hmk
  clear hown hgr hb1 hi hz0 hz1 hz2
  go_enter Try.func39, Try.ntmps39
  go_wp2
  go_loopw [4] (fun i wr => ∃ (k : Nat) (R : List Value) (rs : List Sq), k ≤ n ∧ i = .int .i64 k ∧ Hid (wr.ownsRow w.heap.size 31 2 (.slice (some ⟨w.heap.size, 0, none⟩) n n) n (rs.flatMap sqC ++ R)) ∧ Hid (rs.length = k ∧ rs.map Sq.s = (qs.map Sq.s).take k) ∧ Hid (∀ q ∈ rs, SqOwn wr (w.heap.size + 1) q) ∧ Hid ((sqB rs).Nodup) ∧ Hid (Below w.heap.size w wr) ∧ Hid (w.heap.size < wr.heap.size)) (fun i _ => n - (intOf i).toNat)
  case atStart => exact ⟨0, _, [], Nat.zero_le _, rfl, Lib.hid (by simpa using Hown.out), Lib.hid ⟨rfl, by simp⟩, Lib.hid (fun q hq => by simp at hq), Lib.hid List.nodup_nil, Hb1, Hsz1⟩
  case round =>
    obtain ⟨k, R, rs, hk, rfl, hrow, hrs, hso, hnd, hbw, hlw⟩ := hrel
    by_cases hlt : k < n
    · obtain ⟨g, o, ha, hg, hAt⟩ := Hat.out (by omega)
      subst ha
      have hkl : k < qs.length := by have := HN.out; omega
      obtain ⟨x, hx⟩ : ∃ x, x = qs[k] := ⟨_, rfl⟩
      have hxm : x ∈ qs := by rw [hx]; exact List.getElem_mem _
      have hgw : g < w.heap.size := by omega
      have hc := hAt.sq k hkl
      rw [← hx] at hc
      simp only [← hbw.out.cell (p := ⟨g, o + k * 2, none⟩) hgw, ← hbw.out.cell (p := ⟨g, o + k * 2 + 1, none⟩) hgw] at hc
      have hlenL : (rs.flatMap sqC ++ R).length = n * 2 := hrow.out.1
      have hlenk : (rs.flatMap sqC).length = k * 2 := by rw [sqC_len, hrs.out.1]
      obtain ⟨r0, r1, R', rfl⟩ : ∃ r0 r1 R', R = r0 :: r1 :: R' := by
        rw [List.length_append, hlenk] at hlenL
        match R, hlenL with
        | r0 :: r1 :: R', _ => exact ⟨r0, r1, R', rfl⟩
        | [], h => simp at h; omega
        | [_], h => simp at h; omega
      have Htake : Hid ((qs.map Sq.s).take (k + 1) = (qs.map Sq.s).take k ++ [x.s]) := Lib.hid (by
        rw [List.take_succ_eq_append_getElem (by simpa using hkl)]; simp [hx])
      have Hlenk := Lib.hid hlenk
      have HlenL := Lib.hid hlenL
      have Hat' := Lib.hid hAt
      have hcall := to_state x.s x.v B wr ((Hf.out x hxm).later (hbw.out.mono hB) (Nat.le_refl _)) (Nat.le_trans hB hbw.out.size) (Hs.out x hxm)
      have Hxs := Lib.hid (Hs.out x hxm)
      unfold Sq.v at hcall
      clear hx hxm hAt Hat hlenk hlenL
      obtain ⟨hc0, hc1⟩ := hc
      have hsz := hbw.out.size
      go_wp2_with (go_at_call 32; refine hcall.mono ?_; rintro e w2 ⟨v2, rfl, ho2, hb2⟩; refine Hid.out ?_)
      refine Lib.hid ?_
      obtain ⟨gi, gt, rfl, hne, gI, gT⟩ := ho2.c (by have := Hxs.out.1; unfold maxLen; omega) (by have := Hxs.out.2.2.1; unfold maxLen; omega)
      have hrow2 := hrow.out.kept (w' := w2) (row := none) ⟨hb2.os, hb2.tape, hb2.output, hb2.size, fun j hj _ => hb2.block j hj⟩ (Or.inr (by simp [Value.ownBlock]))
      have hb3 := hbw.out.trans (hb2.mono hsz)
      have hL := HlenL.out
      have hK := Hlenk.out
      have c0 : w2.cell? ⟨w.heap.size, k * 2, none⟩ = some r0 := by
        rw [World.ownsRow.cellAt hrow2 (k * 2) (by omega), List.getElem?_append_right (by omega), hK]; simp
      have c1 : w2.cell? ⟨w.heap.size, k * 2 + 1, none⟩ = some r1 := by
        rw [World.ownsRow.cellAt hrow2 (k * 2 + 1) (by omega), List.getElem?_append_right (by omega), hK, show k * 2 + 1 - k * 2 = 1 by omega]; rfl
      have z0 := World.ownsRow.frozenAt hrow2 (k * 2)
      have z1 := World.ownsRow.frozenAt hrow2 (k * 2 + 1)
      have Hrow2 := Lib.hid hrow2
      have Hb3 := Lib.hid hb3
      have GI := Lib.hid gI
      have GT := Lib.hid gT
      have Hne := Lib.hid hne
      have Hgb : Hid (wr.heap.size ≤ gi ∧ wr.heap.size ≤ gt) := Lib.hid ⟨gI.2.2.2.1, gT.2.2.2.1⟩
      have Hb2 := Lib.hid hb2
      clear hrow2 hb3 hL hK gI gT hne ho2 hb2 hcall
      go_wp2_with fail
      go_roundw
      case rel =>
        obtain ⟨Q, hQ⟩ : ∃ Q : Sq, Q = ⟨.slice (some ⟨gi, 0, none⟩) x.s.items.length x.s.items.length, .slice (some ⟨gt, 0, none⟩) x.s.talks.length x.s.talks.length, gi, x.s.items.length, gt, x.s.talks.length, x.s⟩ := ⟨_, rfl⟩
        refine ⟨k + 1, R', rs ++ [Q], by omega, by go_num, Lib.hid ?_, Lib.hid ⟨?_, ?_⟩, Lib.hid ?_, Lib.hid ?_, Lib.hid ?_, Lib.hid ?_⟩
        · rw [List.flatMap_append, List.append_assoc]
          have h := ((Hrow2.out.stored (k * 2) (.slice (some ⟨gi, 0, none⟩) x.s.items.length x.s.items.length)).1.stored (k * 2 + 1) (.slice (some ⟨gt, 0, none⟩) x.s.talks.length x.s.talks.length)).1
          rw [set_two _ _ _ _ _ Hlenk.out] at h
          rw [hQ]; exact h
        · rw [List.length_append, hrs.out.1]; rfl
        · rw [List.map_append, hrs.out.2, Htake.out, hQ]; rfl
        · intro q hq
          have hG1 : ∀ (i : Nat) (u : Value), (w2.setCell ⟨w.heap.size, i, none⟩ u).heap.size = w2.heap.size := fun i u => World.size_setCell _ _ _
          have hlift : ∀ {q : Sq}, SqOwn w2 (w.heap.size + 1) q → SqOwn ((w2.setCell ⟨w.heap.size, k * 2, none⟩ (.slice (some ⟨gi, 0, none⟩) x.s.items.length x.s.items.length)).setCell ⟨w.heap.size, k * 2 + 1, none⟩ (.slice (some ⟨gt, 0, none⟩) x.s.talks.length x.s.talks.length)) (w.heap.size + 1) q := fun {q} h => by
            have b1 := h.2.2.1.2.2.2.1
            have b2 := h.2.2.2.2.2.2.1
            exact (h.grown (grown_set _ ⟨w.heap.size, k * 2, none⟩ _) (by show _ ≠ w.heap.size; omega) (by show _ ≠ w.heap.size; omega)).grown (grown_set _ ⟨w.heap.size, k * 2 + 1, none⟩ _) (by show _ ≠ w.heap.size; omega) (by show _ ≠ w.heap.size; omega)
          rcases List.mem_append.1 hq with hq | hq
          · exact hlift ((hso.out q hq).later Hb2.out)
          · obtain rfl := List.mem_singleton.1 hq
            subst hQ
            exact hlift (q := ⟨_, _, gi, x.s.items.length, gt, x.s.talks.length, x.s⟩) ⟨⟨_, rfl, .inl rfl⟩, ⟨_, rfl, .inl rfl⟩, GI.out.base (by have := hlw.out; omega), GT.out.base (by have := hlw.out; omega)⟩
        · rw [sqB_append, List.nodup_append]
          refine ⟨hnd.out, ?_, fun a ha b hb => ?_⟩
          · rw [hQ]; simpa [sqB_one] using Hne.out
          · have h1 := (sqB_lt hso.out a ha).2
            rw [hQ] at hb
            have := Hgb.out
            simp [sqB_one] at hb
            omega
        · exact (Hb3.out.setCell (p := ⟨w.heap.size, k * 2, none⟩) (Nat.le_refl _) _).setCell (p := ⟨w.heap.size, k * 2 + 1, none⟩) (Nat.le_refl _) _
        · rw [World.size_setCell, World.size_setCell]; have := Hb2.out.size; have := hlw.out; omega
      case measure => simp [intOf]; omega
    · have hR : R = [] := by
        have h1 := hrow.out.1
        rw [List.length_append, sqC_len, hrs.out.1] at h1
        exact List.eq_nil_of_length_eq_zero (by omega)
      have Hout : Hid (OwnL wr w.heap.size w.heap.size n n rs) := Lib.hid (by
        have h1 := hrow.out
        rw [hR, List.append_nil] at h1
        refine ⟨h1, ⟨Nat.le_refl _, by unfold maxLen; omega⟩, by rw [hrs.out.1]; omega, fun q hq => (hso.out q hq).base (by omega), hnd.out, fun hm => ?_⟩
        have := (sqB_lt hso.out _ hm).1
        omega)
      have Hm : Hid (rs.map Sq.s = qs.map Sq.s) := Lib.hid (by rw [hrs.out.2]; exact List.take_of_length_le (by simp; have := HN.out; omega))
      clear hR hrow hso hnd
      go_wp2
      go_ret
      exact ⟨_, rs, rfl, Hout.out, Hm.out, hbw.out⟩

set_option maxHeartbeats 2000000 in
theorem eq_states (ps qs : List Sq) (va vb : Value) (B : Nat) (w : World) (ha : RdL w B va ps) (hb : RdL w B vb qs) (hB : B ≤ w.heap.size) (he : ps.map Sq.s = qs.map Sq.s) :
    Calls Try.prog 33 #[va, vb] w fun e w' => e = .returned (.bool true) ∧ Below w.heap.size w w' := by
  have hlen : ps.length = qs.length := by simpa using congrArg List.length he
  obtain ⟨⟨a, ca, rfl, hna, hca, _, hata⟩, hra⟩ := ha
  obtain ⟨⟨b, cb, rfl, hnb, hcb, _, hatb⟩, hrb⟩ := hb
  obtain ⟨n, hN⟩ : ∃ n, n = qs.length := ⟨_, rfl⟩
  rw [hlen] at hna hata ⊢
  rw [← hN] at hna hnb hata hatb ⊢
  have HN := Lib.hid hN
  have HL := Lib.hid hlen
  have Hata := Lib.hid hata
  have Hatb := Lib.hid hatb
  have Hra := Lib.hid hra
  have Hrb := Lib.hid hrb
  have He := Lib.hid he
  unfold maxLen at hca hcb
  clear hN hata hatb hlen hra hrb he
  go_enter Try.func33, Try.ntmps33
  go_wp2
  go_loopw [5] (fun i wr => ∃ k : Nat, k ≤ n ∧ i = .int .i64 k ∧ Hid (Below w.heap.size w wr)) (fun i _ => n - (intOf i).toNat)
  case atStart => exact ⟨0, Nat.zero_le _, rfl, Lib.hid (Below.refl _ _)⟩
  case round =>
    obtain ⟨k, hk, rfl, hbw⟩ := hrel
    by_cases hlt : k < n
    · obtain ⟨g, o, ha, hg, hAt⟩ := Hata.out (by omega)
      obtain ⟨g', o', ha', hg', hAt'⟩ := Hatb.out (by omega)
      subst ha; subst ha'
      have hkp : k < ps.length := by have := HN.out; have := HL.out; omega
      have hkq : k < qs.length := by have := HN.out; omega
      obtain ⟨x, hx⟩ : ∃ x, x = ps[k] := ⟨_, rfl⟩
      obtain ⟨y, hy⟩ : ∃ y, y = qs[k] := ⟨_, rfl⟩
      have Hxy : Hid (y.s = x.s) := Lib.hid (by
        have h := congrArg (fun l => l[k]?) He.out
        simp only [List.getElem?_map, List.getElem?_eq_getElem hkp, List.getElem?_eq_getElem hkq, Option.map_some, ← hx, ← hy] at h
        exact (Option.some.inj h).symm)
      have Hrx := Lib.hid (Hra.out x (by rw [hx]; exact List.getElem_mem _))
      have Hry := Lib.hid (Hrb.out y (by rw [hy]; exact List.getElem_mem _))
      have HA : Hid (∀ w', Below w.heap.size w w' → w'.cell? ⟨g, o + k * 2, none⟩ = some x.vi ∧ w'.cell? ⟨g, o + k * 2 + 1, none⟩ = some x.vt) := Lib.hid (fun w' h => by
        have hgw : g < w.heap.size := by omega
        have hc := hAt.sq k hkp
        rw [← hx] at hc
        rw [h.cell hgw, h.cell hgw]; exact hc)
      have HB : Hid (∀ w', Below w.heap.size w w' → w'.cell? ⟨g', o' + k * 2, none⟩ = some y.vi ∧ w'.cell? ⟨g', o' + k * 2 + 1, none⟩ = some y.vt) := Lib.hid (fun w' h => by
        have hgw : g' < w.heap.size := by omega
        have hc := hAt'.sq k hkq
        rw [← hy] at hc
        rw [h.cell hgw, h.cell hgw]; exact hc)
      have hlt' : (k : Int) < (n : Int) := by omega
      clear hx hy hAt hAt' Hata Hatb
      go_wp2_with fail
      refine wp_region_held_drew (S := (fun w' => Below w.heap.size w w')) (by kernel_rfl) ((show Below w.heap.size w wr from hbw.out).drew) (fun hHeld => ?_)
      refine tk0 0 ?_
      refine tk0 1 ?_
      refine tk0 2 ?_
      refine tk 3 (v := ?_) ?_ ?_; rotate_left
      · refine Or.inl ⟨by rfl, ?_⟩; intro w hSw; have f0 := HA.out w hSw; have f1 := HB.out w hSw; go_simp; first | done | with_reducible rfl
      refine tk0 4 ?_
      refine tk0 5 ?_
      refine tk0 6 ?_
      refine tk 7 (v := ?_) ?_ ?_; rotate_left
      · refine Or.inl ⟨by rfl, ?_⟩; intro w hSw; have f0 := HA.out w hSw; have f1 := HB.out w hSw; go_simp; first | done | with_reducible rfl
      refine rd1 8 (fun K hK => ?_)
      go_simp
      (go_at_call 34; refine (eq_state x.s x.v y.v B _ (Hrx.out.later (hHeld.mono hB) (Nat.le_refl _)) (Hxy.out ▸ Hry.out.later (hHeld.mono hB) (Nat.le_refl _)) (Nat.le_trans hB hHeld.size)).mono ?_; rintro e w' ⟨rfl, hbc⟩)
      go_wp2_with fail
      refine hK.out _ _ (hHeld.trans (hbc.mono hHeld.size)) (fun hHeld => ?_)
      clear hK K
      refine tk0 9 ?_
      refine wpAnyH_done (by kernel_rfl) ?_ _
      go_wp2_with fail
      go_roundw
      case rel => exact ⟨k + 1, by omega, by go_num, Lib.hid hHeld⟩
      case measure => simp [intOf]; omega
    · go_wp2
      go_ret
      exact ⟨rfl, hbw.out⟩

end Go.Proofs.Ytebmaplflpfjbaa
