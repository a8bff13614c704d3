/- container/heap's Push over the program's heap of codes: the greatest lies first. Condition: at most fifty codes. -/
import Derived.Test.YtdpjdjkfedcojaaHeap
namespace Go.Proofs.Ytdpjdjkfedcojaa
open Go.RowKit
set_option linter.unusedVariables false
set_option linter.unusedSimpArgs false

theorem m_push (a : Addr) (w : World) : (method 273 65 (.pointer (some a)) "Push").run Try.prog w = .ok (148, .pointer (some a)) w := by kernel_rfl
theorem m_pop (a : Addr) (w : World) : (method 273 65 (.pointer (some a)) "Pop").run Try.prog w = .ok (147, .pointer (some a)) w := by kernel_rfl
theorem m_val {P : Program} {t el : TypeId} {i : TypeInfo} {m : Method} {f : FuncId} {name : String} (n : Nat) (hi : P.info? t = some i) (hm : i.methods.find? (·.name == name) = some m) (hp : m.path = #[]) (hf : m.func = some (f, false)) (hu : P.underlying t = some (.pointer el)) (a : Addr) (v : Value) (w : World)
    (hl : (loadVar el a).run P w = .ok v w) : (method (n + 1) t (.pointer (some a)) name).run P w = .ok (f, v) w := by
  have h1 : (typeInfo t).run P w = .ok i w := by simp [typeInfo, hi]
  have h2 : ∀ nm, (Builtin.ssaWrapNilChk_ #[t] t #[.pointer (some a), strVal "", strVal nm]).run P w = .ok (.pointer (some a)) w := fun nm => rfl
  simp [method, h1, hm, hp, hf, follow, receiverAt, run_underlying hu, Place.get, h2, asAddr, hl]
theorem m_row {name : String} {f : FuncId} (q : (Try.prog.info? 65).bind (fun i => (i.methods.find? (·.name == name)).map (fun m => (m.path, m.func))) = some (#[], some (f, false))) (h : Nat) (v : Value) (w : World) (hv : w.cell? ⟨h, 0, none⟩ = some v) :
    (method 273 65 (.pointer (some ⟨h, 0, none⟩)) name).run Try.prog w = .ok (f, v) w := by
  obtain ⟨i, hi, q⟩ := Option.bind_eq_some_iff.1 q
  obtain ⟨m, hm, q⟩ := Option.map_eq_some_iff.1 q
  simp only [Prod.mk.injEq] at q
  exact m_val _ hi hm q.1 q.2 Try.underlying65 _ v w (by go_simp)
theorem m_len (h : Nat) (v : Value) (w : World) (hv : w.cell? ⟨h, 0, none⟩ = some v) : (method 273 65 (.pointer (some ⟨h, 0, none⟩)) "Len").run Try.prog w = .ok (145, v) w := m_row (by kernel_rfl) h v w hv
theorem m_less (h : Nat) (v : Value) (w : World) (hv : w.cell? ⟨h, 0, none⟩ = some v) : (method 273 65 (.pointer (some ⟨h, 0, none⟩)) "Less").run Try.prog w = .ok (146, v) w := m_row (by kernel_rfl) h v w hv
theorem m_swap (h : Nat) (v : Value) (w : World) (hv : w.cell? ⟨h, 0, none⟩ = some v) : (method 273 65 (.pointer (some ⟨h, 0, none⟩)) "Swap").run Try.prog w = .ok (149, v) w := m_row (by kernel_rfl) h v w hv
/-- On its way up: only the code at j may be greater than the first one. -/
def OnUp (zs : List Int) (j : Nat) (T : Int) : Prop := j < zs.length ∧ (∀ k, k < zs.length → k ≠ j → zs.getD k 0 ≤ zs.getD 0 0) ∧ T = if zs.getD 0 0 < zs.getD j 0 then zs.getD j 0 else zs.getD 0 0
/-- The first one is the greatest. -/
def Top (zs : List Int) (T : Int) : Prop := zs.getD 0 0 = T ∧ ∀ k, k < zs.length → zs.getD k 0 ≤ T
theorem swp_at {zs : List Int} {i j : Nat} (hi : i < zs.length) (hj : j < zs.length) (k : Nat) : (swp zs i j).getD k 0 = if k = j then zs.getD i 0 else if k = i then zs.getD j 0 else zs.getD k 0 := by
  unfold swp
  simp only [List.getD_eq_getElem?_getD, List.getElem?_set, List.length_set]
  by_cases h1 : k = j
  · subst h1; simp [hj]
  · rw [if_neg (fun h => h1 h.symm), if_neg h1]
    by_cases h2 : k = i
    · subst h2; simp [hi]
    · rw [if_neg (fun h => h2 h.symm), if_neg h2]
theorem up_zero {zs : List Int} {T : Int} (h : OnUp zs 0 T) : Top zs T := by
  obtain ⟨h1, h2, h3⟩ := h
  rw [if_neg (by omega)] at h3
  refine ⟨h3.symm, fun k hk => ?_⟩
  by_cases hk0 : k = 0
  · subst hk0; omega
  · have := h2 k hk hk0; omega
theorem up_stop {zs : List Int} {i j : Nat} {T : Int} (h : OnUp zs j T) (hne : i ≠ j) (hi : i < zs.length) (hle : ¬ zs.getD i 0 < zs.getD j 0) : Top zs T := by
  obtain ⟨h1, h2, h3⟩ := h
  have hi0 := h2 i hi hne
  rw [if_neg (by omega)] at h3
  refine ⟨h3.symm, fun k hk => ?_⟩
  by_cases hk0 : k = j
  · subst hk0; omega
  · have := h2 k hk hk0; omega
theorem up_swap {zs : List Int} {i j : Nat} {T : Int} (h : OnUp zs j T) (hij : i < j) (hlt : zs.getD i 0 < zs.getD j 0) : OnUp (swp zs i j) i T := by
  obtain ⟨h1, h2, h3⟩ := h
  have hi : i < zs.length := by omega
  have hi0 := h2 i hi (by omega)
  have e := swp_at hi h1
  have e0 : (swp zs i j).getD 0 0 = if i = 0 then zs.getD j 0 else zs.getD 0 0 := by
    rw [e, if_neg (by omega)]
    by_cases q : i = 0
    · rw [if_pos q.symm, if_pos q]
    · rw [if_neg (fun h => q h.symm), if_neg q]
  have ei : (swp zs i j).getD i 0 = zs.getD j 0 := by rw [e, if_neg (by omega), if_pos rfl]
  refine ⟨by rw [swp_len]; exact hi, fun k hk hne => ?_, ?_⟩
  · rw [swp_len] at hk
    rw [e0, e k]
    by_cases q : i = 0
    · rw [if_pos q]
      subst q
      by_cases k1 : k = j
      · rw [if_pos k1]; omega
      · rw [if_neg k1, if_neg hne]; have := h2 k hk k1; omega
    · rw [if_neg q]
      by_cases k1 : k = j
      · rw [if_pos k1]; omega
      · rw [if_neg k1, if_neg hne]; exact h2 k hk k1
  · rw [e0, ei]
    by_cases q : i = 0
    · subst q; rw [if_pos rfl, if_neg (by omega), h3, if_pos hlt]
    · rw [if_neg q]; exact h3
set_option maxRecDepth 100000 in
set_option maxHeartbeats 4000000 in
theorem heap_up (zs0 : List Int) (T : Int) (B h g cap j0 : Nat) (w : World) (hp : Hp w B h g cap zs0) (hl : zs0.length ≤ 50) (hB : B ≤ w.heap.size) (hup : OnUp zs0 j0 T) :
    Calls Try.prog 107 #[.iface 65 (.pointer (some ⟨h, 0, none⟩)), .int .i64 j0] w fun e w' => e = .returned (.tuple #[]) ∧ (∃ zs, Hp w' B h g cap zs ∧ zs.length = zs0.length ∧ Top zs T) ∧ Below B w w' := by
  go_enter Try.func107, Try.ntmps107
  go_wp2_with fail
  go_loopw [1] (fun jv wr => ∃ (j : Nat) (zs : List Int), jv = .int .i64 j ∧ Hid (Hp wr B h g cap zs) ∧ Hid (zs.length = zs0.length) ∧ Hid (OnUp zs j T) ∧ Hid (Below B w wr)) (fun jv _ => (intOf jv).toNat)
  case atStart => exact ⟨j0, zs0, rfl, Lib.hid hp, Lib.hid rfl, Lib.hid hup, Lib.hid (Below.refl _ _)⟩
  case round =>
    obtain ⟨j, zs, rfl, HP, HL, HU, BW⟩ := hrel
    have hlj := HU.out.1
    have hlen := HL.out
    obtain ⟨k1, k2, k3, k4⟩ := HP.out
    have KH := Lib.hid k1
    clear k1
    have f0 := tcr KH 0
    have hms := m_less h _ wr f0
    by_cases hj : j = 0
    · subst hj
      have HT := Lib.hid (up_zero HU.out)
      clear hms f0 k4 hlj hlen
      go_wp2_with fail
      go_end0
      exact ⟨rfl, ⟨zs, HP.out, HL.out, HT.out⟩, BW.out⟩
    · obtain ⟨p, hp1⟩ : ∃ p, p = j - 1 := ⟨_, rfl⟩
      obtain ⟨i, hi⟩ : ∃ i, i = p / 2 := ⟨_, rfl⟩
      have hw : IntKind.i64.wrap ((j : Int) - 1) = (p : Int) := by rw [IntKind.wrap_i64]; omega
      have hq : (p : Int).tdiv 2 = (i : Int) := by rw [hi]; exact (Int.ofNat_tdiv p 2).symm
      have hil : i < j := by omega
      have hne : ((i : Int) == (j : Int)) = false := by rw [beq_eq_false_iff_ne]; omega
      have hne2 : ¬ (i : Int) = (j : Int) := by omega
      have hwi : IntKind.i64.wrap (i : Int) = (i : Int) := by rw [IntKind.wrap_i64]; omega
      have hc := codes_less zs B g cap j i wr k4 hlj (by omega) (by omega)
      have HLE := Lib.hid hlen
      have HLJ := Lib.hid hlj
      clear hi hp1 hlen hlj
      by_cases hlt : zs.getD i 0 < zs.getD j 0
      · rw [decide_eq_true hlt] at hc
        have HU2 := Lib.hid (up_swap HU.out hil hlt)
        have HL2 := Lib.hid (show (swp zs i j).length = zs0.length by rw [swp_len]; exact HLE.out)
        have LH : Hid (h < wr.heap.size) := Lib.hid (Array.getElem?_eq_some_iff.1 KH.out).1
        have GT := Lib.hid k4
        have hsw := fun (w1 : World) (hb1 : Below wr.heap.size wr w1) => codes_swap zs B g cap i j w1 (GT.out.later hb1) (by have := HLJ.out; omega) HLJ.out (by have := HLE.out; omega)
        clear hlt k4
        obtain ⟨n, hn⟩ : ∃ n, n = zs.length := ⟨_, rfl⟩
        rw [← hn] at hc hms f0 hsw KH
        have HN := Lib.hid hn
        clear hn
        go_wp2_with (go_at_call 146; refine hc.mono ?_; rintro e w1 ⟨rfl, hb1⟩; refine Hid.out ?_)
        refine Lib.hid ?_
        replace hsw := hsw w1 hb1
        have KH1 := tkb hb1 LH KH
        have LH1 := tlz LH hb1.size
        have BW1 := Lib.hid (BW.out.trans (hb1.mono (Nat.le_trans hB BW.out.size)))
        have GT1 := Lib.hid (GT.out.later hb1)
        clear hc hms f0 hb1 KH LH GT
        have f0 := tcr KH1 0
        have hms := m_swap h _ w1 f0
        go_wp2_with (go_at_call 149; refine hsw.mono ?_; rintro e w2 ⟨rfl, got2, gr2⟩; refine Hid.out ?_)
        refine Lib.hid ?_
        have KH2 := tkg gr2 LH1 KH1 (by simp; omega)
        have BW2 := Lib.hid (BW1.out.grown gr2 (Nat.le_trans hB BW1.out.size) (fun k ek => by cases ek; exact GT1.out.2.2.2.1))
        have HP2 : Hid (Hp w2 B h g cap (swp zs i j)) := Lib.hid (by
          unfold Hp
          rw [swp_len, ← HN.out]
          exact ⟨KH2.out, k2, k3, got2⟩)
        clear hsw hms f0 got2 gr2 KH2 KH1 LH1 BW1 GT1
        go_wp2_with fail
        go_roundw
        case rel => exact ⟨i, _, by go_num, HP2, HL2, HU2, BW2⟩
        case measure => simp [intOf]; omega
      · rw [decide_eq_false hlt] at hc
        have HT := Lib.hid (up_stop HU.out (by omega) (by have := HLJ.out; omega) hlt)
        clear hlt k4
        obtain ⟨n, hn⟩ : ∃ n, n = zs.length := ⟨_, rfl⟩
        rw [← hn] at hc hms f0
        clear hn
        go_wp2_with (go_at_call 146; refine hc.mono ?_; rintro e w1 ⟨rfl, hb1⟩; refine Hid.out ?_)
        refine Lib.hid ?_
        go_wp2_with fail
        go_end0
        exact ⟨rfl, ⟨zs, HP.out.later hb1, HL.out, HT.out⟩, BW.out.trans (hb1.mono (Nat.le_trans hB BW.out.size))⟩
/-- A code more, ahead of the way up. -/
theorem on_up {zs : List Int} {T x : Int} (h : zs = [] ∨ Top zs T) : OnUp (zs ++ [x]) zs.length (if zs = [] then x else if T < x then x else T) := by
  refine ⟨by simp, fun k hk hne => ?_, ?_⟩
  · have hk2 : k < zs.length := by simp at hk; omega
    have h0 : 0 < zs.length := by omega
    have hT : Top zs T := by
      rcases h with h | h
      · subst h; simp at h0
      · exact h
    have e1 : (zs ++ [x]).getD k 0 = zs.getD k 0 := by rw [List.getD_eq_getElem?_getD, List.getD_eq_getElem?_getD, List.getElem?_append_left hk2]
    have e2 : (zs ++ [x]).getD 0 0 = zs.getD 0 0 := by rw [List.getD_eq_getElem?_getD, List.getD_eq_getElem?_getD, List.getElem?_append_left h0]
    rw [e1, e2, hT.1]
    exact hT.2 k hk2
  · have ex : (zs ++ [x]).getD zs.length 0 = x := by simp [List.getD_eq_getElem?_getD]
    rcases h with h | h
    · subst h; simp
    · by_cases h0 : zs = []
      · subst h0; simp
      · have hp : 0 < zs.length := List.length_pos_iff.2 h0
        have e2 : (zs ++ [x]).getD 0 0 = zs.getD 0 0 := by rw [List.getD_eq_getElem?_getD, List.getD_eq_getElem?_getD, List.getElem?_append_left hp]
        rw [if_neg h0, ex, e2, h.1]
set_option maxRecDepth 100000 in
set_option maxHeartbeats 4000000 in
theorem heap_push (zs : List Int) (x T : Int) (B h g cap : Nat) (w : World) (hp : Hp w B h g cap zs) (hl : zs.length ≤ 40) (hB : B ≤ w.heap.size) (ht : zs = [] ∨ Top zs T) :
    Calls Try.prog 75 #[.iface 65 (.pointer (some ⟨h, 0, none⟩)), .iface 3 (.int .i64 x)] w fun e w' => e = .returned (.tuple #[]) ∧
      (∃ g' cap' zs', Hp w' B h g' cap' zs' ∧ zs'.length = zs.length + 1 ∧ Top zs' (if zs = [] then x else if T < x then x else T)) ∧ Below B w w' := by
  have hpush := codes_push zs x B h g cap w hp (by omega) hB
  have HUP := Lib.hid (on_up (x := x) ht)
  have hmp := m_push ⟨h, 0, none⟩ w
  obtain ⟨M, hM⟩ : ∃ M, M = (if zs = [] then x else if T < x then x else T) := ⟨_, rfl⟩
  rw [← hM] at HUP ⊢
  clear hM ht hp
  go_enter Try.func75, Try.ntmps75
  go_wp2_with (go_at_call 148; refine hpush.mono ?_; rintro e w1 ⟨rfl, ⟨g1, c1, hp1⟩, hb1⟩; refine Hid.out ?_)
  refine Lib.hid ?_
  clear hpush hmp
  have HP1 := Lib.hid hp1
  have KH := Lib.hid hp1.1
  have LS : Hid (B ≤ w1.heap.size) := Lib.hid (Nat.le_trans hB hb1.size)
  have HB1 := Lib.hid hb1
  have hlen : (zs ++ [x]).length = zs.length + 1 := by simp
  have HLN := Lib.hid hlen
  rw [hlen] at KH
  obtain ⟨n, hn⟩ : ∃ n, n = zs.length := ⟨_, rfl⟩
  have hup := heap_up (zs ++ [x]) M B h g1 c1 n w1 hp1 (by rw [hlen]; omega) LS.out (by rw [hn]; exact HUP.out)
  rw [← hn] at KH hl HLN
  have HNN := Lib.hid hn
  clear hp1 hb1 hlen hn
  have f0 := tcr KH 0
  have hml := m_len h _ w1 f0
  have hcl := codes_len (some ⟨g1, 0, none⟩) (n + 1) c1 w1 (by omega)
  have hw1 : IntKind.i64.wrap (((n + 1 : Nat) : Int) - 1) = (n : Int) := by rw [IntKind.wrap_i64]; omega
  obtain ⟨m, hm⟩ : ∃ m : Int, m = ((n + 1 : Nat) : Int) := ⟨_, rfl⟩
  rw [← hm] at hcl hw1
  clear hm
  go_wp2_with (go_at_call 145; refine hcl.mono ?_; rintro e w2 ⟨rfl, rfl⟩; refine Hid.out ?_)
  refine Lib.hid ?_
  clear hcl hml f0
  go_wp2_with (go_at_call 107; refine hup.mono ?_; rintro e w3 ⟨rfl, ⟨zs3, hp3, hl3, ht3⟩, hb3⟩; refine Hid.out ?_)
  refine Lib.hid ?_
  have R3 := Lib.hid (show zs3.length = n + 1 by rw [hl3]; exact HLN.out)
  have HP3 := Lib.hid hp3
  have HT3 := Lib.hid ht3
  clear hl3 hp3 ht3
  go_wp2_with fail
  go_end0
  exact ⟨rfl, ⟨g1, c1, zs3, HP3.out, by rw [R3.out, HNN.out], HT3.out⟩, HB1.out.trans hb3⟩
end Go.Proofs.Ytdpjdjkfedcojaa
