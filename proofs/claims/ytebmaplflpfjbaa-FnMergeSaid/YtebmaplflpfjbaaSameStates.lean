/- The laws' sameStates: rows of the same states are the same. The rows that Split answers, to be handed on. Condition: none. -/
import Derived.Test.YtebmaplflpfjbaaBaseA
import Derived.Test.YtebmaplflpfjbaaMarkV
import Derived.Test.YtebmaplflpfjbaaStL
import Derived.Test.YtebmaplflpfjbaaSpecSame
import Derived.Test.YtebmaplflpfjbaaMergeBack
import Derived.Test.YtebmaplflpfjbaaApart
namespace Go.Proofs.Ytebmaplflpfjbaa
open Go.RowKit List
set_option linter.unusedVariables false
set_option linter.unusedSimpArgs false

theorem OwnLN.stl {w : World} {base : Nat} {v : Value} {qs : List Sq} (h : OwnLN w base v qs) : StL w w.heap.size v qs := by
  refine ⟨h.rd.1, fun q hq => ?_⟩
  rcases h with ⟨rfl, rfl⟩ | ⟨g, cap, rfl, h⟩
  · cases hq
  · exact (h.own q hq).st
theorem GotL.stl {w : World} {base g cap : Nat} {qs : List Sq} (h : GotL w base g cap qs) : StL w w.heap.size (.slice (some ⟨g, 0, none⟩) qs.length cap) qs :=
  ⟨h.rd.1, fun q hq => (h.2.1 q hq).st⟩
theorem OwnLN.slice {w : World} {base : Nat} {v : Value} {qs : List Sq} (h : OwnLN w base v qs) : ∃ a cap, v = .slice a qs.length cap := by
  rcases h with ⟨rfl, rfl⟩ | ⟨g, cap, rfl, h⟩
  · exact ⟨none, 0, rfl⟩
  · exact ⟨_, cap, rfl⟩
theorem split_len {s : St} {n : Int} {qs : List Sq} (h : qs.map Sq.s = splitS s n) (h1 : stOk s = true) (h2 : inB n 1 8 = true) : (qs.length : Int) = n := by
  have hl := congrArg List.length h
  rw [splitS_ok h1 h2] at hl
  have := inB_true h2
  simp at hl
  omega
theorem split_none {s : St} {n : Int} {qs : List Sq} (h : qs.map Sq.s = splitS s n) (hb : stOk s = false ∨ inB n 1 8 = false) : qs = [] := by
  rw [splitS_bad hb] at h
  exact List.map_eq_nil_iff.1 h
theorem apart_split {s : St} {n : Int} (h1 : stOk s = true) (h2 : inB n 1 8 = true) : apartB (splitS s n) = true := by
  rw [apart_iff]
  have hb := inB_true h2
  intro k hk x hx
  have hl : (splitS s n).length = n.toNat := by rw [splitS_ok h1 h2]; simp
  have e : (splitS s n)[k] = partS s n k := by
    have : (splitS s n)[k]? = some (partS s n k) := by
      rw [splitS_ok h1 h2, List.getElem?_map, List.getElem?_range (by omega)]; rfl
    rw [List.getElem?_eq_getElem hk] at this
    exact Option.some.inj this
  rw [e] at hx
  have := (List.mem_filter.1 hx).2
  rw [hl, show ((n.toNat : Nat) : Int) = n by omega]
  simpa using this
theorem split_fits {s : St} {n : Int} {qs : List Sq} (h : qs.map Sq.s = splitS s n) : (∀ q ∈ qs, Fits q.s) ∧ ∀ q ∈ qs, ∀ x ∈ q.s.items, x.k.size ≤ maxLen := by
  have hq : ∀ q ∈ qs, Fits q.s := by
    intro q hq
    have hm : q.s ∈ qs.map Sq.s := List.mem_map_of_mem hq
    rw [h] at hm
    unfold splitS at hm
    split at hm
    · rename_i hc
      obtain ⟨k, _, e⟩ := List.mem_map.1 hm
      rw [← e]; exact ok_fits (part_ok hc.1 n k)
    · cases hm
  exact ⟨hq, fun q h x hx => ((hq q h).1 x hx).1⟩
theorem split_few {s : St} {n : Int} {qs : List Sq} (h : qs.map Sq.s = splitS s n) : qs.length ≤ 8 := by
  have hl := congrArg List.length h
  rw [List.length_map] at hl
  rw [hl]
  unfold splitS
  split
  · rename_i hc
    have := inB_true hc.2
    simp; omega
  · simp

set_option maxHeartbeats 2000000 in
theorem same_states (ps qs : List Sq) (va vb : Value) (B : Nat) (w : World) (ha : RdL w B va ps) (hb : RdL w B vb qs) (hB : B ≤ w.heap.size) (he : ps.map Sq.s = qs.map Sq.s) :
    Calls Try.prog 18 #[va, vb] w fun e w' => e = .returned (.bool true) ∧ Below w.heap.size w w' := by
  have hlen : ps.length = qs.length := by simpa using congrArg List.length he
  obtain ⟨⟨a, ca, rfl, hna, hca, _, hata⟩, hra⟩ := ha
  obtain ⟨⟨b, cb, rfl, hnb, hcb, _, hatb⟩, hrb⟩ := hb
  obtain ⟨n, hN⟩ : ∃ n, n = qs.length := ⟨_, rfl⟩
  rw [hlen] at hna hata ⊢
  rw [← hN] at hna hnb hata hatb ⊢
  have HN := Lib.hid hN
  have HL := Lib.hid hlen
  have Hata := Lib.hid hata
  have Hatb := Lib.hid hatb
  have Hra := Lib.hid hra
  have Hrb := Lib.hid hrb
  have He := Lib.hid he
  unfold maxLen at hca hcb
  clear hN hata hatb hlen hra hrb he
  go_enter Try.func18, Try.ntmps18
  go_wp2
  go_loopw [5] (fun i wr => ∃ k : Nat, k ≤ n ∧ i = .int .i64 k ∧ Hid (Below w.heap.size w wr)) (fun i _ => n - (intOf i).toNat)
  case atStart => exact ⟨0, Nat.zero_le _, rfl, Lib.hid (Below.refl _ _)⟩
  case round =>
    obtain ⟨k, hk, rfl, hbw⟩ := hrel
    by_cases hlt : k < n
    · obtain ⟨g, o, ha, hg, hAt⟩ := Hata.out (by omega)
      obtain ⟨g', o', ha', hg', hAt'⟩ := Hatb.out (by omega)
      subst ha; subst ha'
      have hkp : k < ps.length := by have := HN.out; have := HL.out; omega
      have hkq : k < qs.length := by have := HN.out; omega
      obtain ⟨x, hx⟩ : ∃ x, x = ps[k] := ⟨_, rfl⟩
      obtain ⟨y, hy⟩ : ∃ y, y = qs[k] := ⟨_, rfl⟩
      have Hxy : Hid (y.s = x.s) := Lib.hid (by
        have h := congrArg (fun l => l[k]?) He.out
        simp only [List.getElem?_map, List.getElem?_eq_getElem hkp, List.getElem?_eq_getElem hkq, Option.map_some, ← hx, ← hy] at h
        exact (Option.some.inj h).symm)
      have Hrx := Lib.hid (Hra.out x (by rw [hx]; exact List.getElem_mem _))
      have Hry := Lib.hid (Hrb.out y (by rw [hy]; exact List.getElem_mem _))
      have HA : Hid (∀ w', Below w.heap.size w w' → w'.cell? ⟨g, o + k * 2, none⟩ = some x.vi ∧ w'.cell? ⟨g, o + k * 2 + 1, none⟩ = some x.vt) := Lib.hid (fun w' h => by
        have hgw : g < w.heap.size := by omega
        have hc := hAt.sq k hkp
        rw [← hx] at hc
        rw [h.cell hgw, h.cell hgw]; exact hc)
      have HB : Hid (∀ w', Below w.heap.size w w' → w'.cell? ⟨g', o' + k * 2, none⟩ = some y.vi ∧ w'.cell? ⟨g', o' + k * 2 + 1, none⟩ = some y.vt) := Lib.hid (fun w' h => by
        have hgw : g' < w.heap.size := by omega
        have hc := hAt'.sq k hkq
        rw [← hy] at hc
        rw [h.cell hgw, h.cell hgw]; exact hc)
      have hlt' : (k : Int) < (n : Int) := by omega
      clear hx hy hAt hAt' Hata Hatb
      go_wp2_with fail
      refine wp_region_held_drew (S := (fun w' => Below w.heap.size w w')) (by kernel_rfl) ((show Below w.heap.size w wr from hbw.out).drew) (fun hHeld => ?_)
      refine tk0 0 ?_
      refine tk0 1 ?_
      refine tk0 2 ?_
      refine tk 3 (v := ?_) ?_ ?_; rotate_left
      · refine Or.inl ⟨by rfl, ?_⟩; intro w hSw; have f0 := HA.out w hSw; have f1 := HB.out w hSw; go_simp; first | done | with_reducible rfl
      refine tk0 4 ?_
      refine tk0 5 ?_
      refine tk0 6 ?_
      refine tk 7 (v := ?_) ?_ ?_; rotate_left
      · refine Or.inl ⟨by rfl, ?_⟩; intro w hSw; have f0 := HA.out w hSw; have f1 := HB.out w hSw; go_simp; first | done | with_reducible rfl
      refine rd1 8 (fun K hK => ?_)
      go_simp
      (go_at_call 23; refine (spec_same x.s x.s x.v y.v B _ (Hrx.out.later (hHeld.mono hB) (Nat.le_refl _)) (Hxy.out ▸ Hry.out.later (hHeld.mono hB) (Nat.le_refl _)) (Nat.le_trans hB hHeld.size)).mono ?_; rintro e w' ⟨bb, rfl, hbe, hbc⟩; obtain rfl : bb = true := hbe.2 rfl)
      go_wp2_with fail
      refine hK.out _ _ (hHeld.trans (hbc.mono hHeld.size)) (fun hHeld => ?_)
      clear hK K
      refine tk0 9 ?_
      refine wpAnyH_done (by kernel_rfl) ?_ _
      go_wp2_with fail
      go_roundw
      case rel => exact ⟨k + 1, by omega, by go_num, Lib.hid hHeld⟩
      case measure => simp [intOf]; omega
    · go_wp2
      go_ret
      exact ⟨rfl, hbw.out⟩

end Go.Proofs.Ytebmaplflpfjbaa
