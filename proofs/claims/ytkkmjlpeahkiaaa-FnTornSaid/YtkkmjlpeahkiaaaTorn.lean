/- A disk that is filled, synced once, cut by a crash and recovered, as data; how a list begins. Condition: none. -/
import Derived.Test.YtkkmjlpeahkiaaaSameD
namespace Go.Proofs.Ytkkmjlpeahkiaaa
open Go.RowKit
set_option linter.unusedVariables false
set_option linter.unusedSimpArgs false

/-- Of these texts the first c are synced. -/
def torD (ts : List ByteArray) (c : Nat) : Dsk := ⟨4000, ⟨#[]⟩, catB (ts.take c), catB (ts.drop c)⟩
theorem cat_le {xs : List ByteArray} (h : ∀ x ∈ xs, x.size ≤ 21) : (catL xs).length ≤ 27 * xs.length := by
  induction xs with
  | nil => exact Nat.zero_le _
  | cons x xs ih =>
    have h1 := h x (by simp)
    have h2 := ih (fun y hy => h y (by simp [hy]))
    rw [catL_cons, List.length_append, List.length_cons, bytes_len, ent_size, if_neg (by omega)]
    omega
theorem tor_parts (ts : List ByteArray) (c : Nat) : catL (ts.take c) ++ catL (ts.drop c) = catL ts := by rw [← catL_append, List.take_append_drop]
theorem tor_used (ts : List ByteArray) (c : Nat) : usedD (torD ts c) = (catL ts).length := by
  have h := congrArg List.length (tor_parts ts c)
  rw [List.length_append] at h
  unfold usedD torD
  dsimp only
  rw [catB_size, catB_size, show (ByteArray.mk #[]).size = 0 from rfl]
  omega
theorem tor_ok {ts : List ByteArray} (c : Nat) (h : ∀ x ∈ ts, x.size ≤ 21) (hl : ts.length ≤ 20) : dskOk (torD ts c) = true := by
  have h1 := cat_le h
  have h2 := tor_used ts c
  refine dsk_mk ⟨by show (0 : Int) ≤ 4000; decide, by show (4000 : Int) ≤ 4000; decide⟩ ?_
  rw [h2]
  show ((catL ts).length : Int) ≤ 4000
  omega
theorem tor_app {ts : List ByteArray} {c : Nat} {s : ByteArray} (h : ∀ x ∈ ts, x.size ≤ 21) (hl : ts.length ≤ 19) (hs : s.size ≤ 21) (hc : c ≤ ts.length) : appS (torD ts c) s = (torD (ts ++ [s]) c, true) := by
  have h1 := cat_le h
  have h2 := tor_used ts c
  have h3 : (entB s).size = s.size + 6 := by rw [ent_size, if_neg (by omega)]
  unfold appS
  rw [if_pos ⟨tor_ok c h (by omega), by omega, by rw [h2, h3]; show (((catL ts).length + (s.size + 6) : Nat) : Int) ≤ 4000; omega⟩]
  unfold torD
  rw [List.take_append_of_le_length hc, List.drop_append_of_le_length hc, catB_snoc]
theorem tor_sync {ts : List ByteArray} {c : Nat} (h : ∀ x ∈ ts, x.size ≤ 21) (hl : ts.length ≤ 20) : syncS (torD ts c) = torD ts ts.length := by
  unfold syncS
  rw [if_pos (tor_ok c h hl)]
  unfold torD
  dsimp only
  rw [← catB_append, List.take_append_drop, List.take_length, List.drop_length]
  rfl
theorem take_keep (a b : List UInt8) (q : Nat) : a ++ b.take q = (a ++ b).take (a.length + q) := by
  conv => rhs; rw [List.take_append]
  rw [List.take_of_length_le (show a.length ≤ a.length + q by omega), Nat.add_sub_cancel_left]
theorem ext_whole (v : ByteArray) : v.extract 0 v.size = v := by simp
/-- What a crash leaves is recovered: the synced texts, and some more of them. -/
theorem tor_end {ts : List ByteArray} {c : Nat} (y : Int) (h : ∀ x ∈ ts, x.size ≤ 21) (hl : ts.length ≤ 20) (hc : c ≤ ts.length) :
    ∃ (j : Nat) (F : Dsk), c ≤ j ∧ j ≤ ts.length ∧ recS (crashS (torD ts c) y) = (F, ts.take j) ∧ recS F = (F, ts.take j) ∧ SmD F ∧ SmD (crashS (torD ts c) y) := by
  have hok := tor_ok c h hl
  have hco := crash_ok y hok
  obtain ⟨K, hK⟩ : ∃ K, K = crashS (torD ts c) y := ⟨_, rfl⟩
  have hkp : K.kp.data.toList = (catL ts).take ((catL (ts.take c)).length + keepN (torD ts c).ls.size y) := by
    rw [hK]
    unfold crashS
    rw [if_pos hok]
    show (catB (ts.take c) ++ (catB (ts.drop c)).extract 0 (keepN (torD ts c).ls.size y)).data.toList = _
    rw [ByteArray.data_append, Array.toList_append, ByteArray.data_extract, Array.toList_extract, List.extract_eq_take_drop, List.drop_zero, Nat.sub_zero]
    show catL (ts.take c) ++ (catL (ts.drop c)).take _ = _
    rw [take_keep, tor_parts]
  rw [← hK] at hco ⊢
  obtain ⟨j, j1, j2, j3⟩ := scan_torn (t := K.kp) (p := 0) (fun x hx => by have := h x hx; omega) (Nat.zero_le _) (by rw [List.drop_zero]; exact hkp)
  have hs : scanS K.kp = (ts.take j, (catL (ts.take j)).length) := by unfold scanS; rw [j2, Nat.zero_add]
  have hr : recS K = ((⟨K.rm, K.sn, K.kp.extract 0 (catL (ts.take j)).length, ⟨#[]⟩⟩ : Dsk), ts.take j) := by
    unfold recS
    rw [if_pos hco, hs]
  have hFo := rec_ok hco
  rw [hr] at hFo
  have ha := scan_again K.kp
  rw [hs] at ha
  refine ⟨j, _, j3 c hc (Nat.le_add_right _ _), j1, hr, ?_, dsk_sm hFo, dsk_sm hco⟩
  have hle := (scan_le (t := K.kp) 0 (Nat.zero_le _)).2
  have hs2 : (scanA K.kp 0).2 = (catL (ts.take j)).length := congrArg Prod.snd hs
  unfold recS
  rw [if_pos hFo]
  dsimp only
  rw [ha]
  dsimp only
  rw [show ((K.kp.extract 0 (catL (ts.take j)).length).extract 0 (catL (ts.take j)).length) = K.kp.extract 0 (catL (ts.take j)).length by
    have hz : (K.kp.extract 0 (catL (ts.take j)).length).size = (catL (ts.take j)).length := by rw [ByteArray.size_extract]; omega
    have hw := ext_whole (K.kp.extract 0 (catL (ts.take j)).length)
    rw [hz] at hw
    exact hw]
set_option maxHeartbeats 2000000 in
theorem begins_at (xs : List ByteArray) (j : Nat) (hj : j ≤ xs.length) (va vb : Value) (B : Nat) (w : World) (ha : TxAt w B va xs) (hb : TxAt w B vb (xs.take j)) (hB : B ≤ w.heap.size) :
    Calls Try.prog 50 #[va, vb] w fun e w' => e = .returned (.bool true) ∧ Below w.heap.size w w' := by
  have hjl : (xs.take j).length = j := by rw [List.length_take]; omega
  obtain ⟨hm, a, ca, rfl, hata⟩ := ha
  obtain ⟨_, b, cb, rfl, hatb⟩ := hb
  have Hget : Hid (∀ k (h1 : k < (xs.take j).length) (h2 : k < xs.length), (xs.take j)[k] = xs[k]) := Lib.hid (fun k h1 h2 => by rw [List.getElem_take])
  obtain ⟨n, hN⟩ : ∃ n, n = xs.length := ⟨_, rfl⟩
  rw [← hN] at hm hj ⊢
  have HN := Lib.hid hN
  have Hata := Lib.hid hata
  have Hatb := Lib.hid hatb
  rw [hjl]
  have Hjl := Lib.hid hjl
  unfold maxLen at hm
  clear hN hata hatb hjl
  go_enter Try.func50, Try.ntmps50
  go_wp2_with fail
  go_loopw [5] (fun i wr => ∃ k : Nat, k ≤ j ∧ i = .int .i64 k ∧ Hid (Below w.heap.size w wr)) (fun i _ => j - (intOf i).toNat)
  case atStart => exact ⟨0, Nat.zero_le _, rfl, Lib.hid (Below.refl _ _)⟩
  case round =>
    obtain ⟨k, hk, rfl, hbw⟩ := hrel
    by_cases hlt : k < j
    · have hkx : k < xs.length := by have := HN.out; omega
      have hkt : k < (xs.take j).length := by have := Hjl.out; omega
      obtain ⟨g, o, ha, hg, hAt⟩ := Hata.out (by omega)
      obtain ⟨g', o', ha', hg', hAt'⟩ := Hatb.out (by omega)
      subst ha; subst ha'
      have hA1 := hAt k hkx
      have hB1 := hAt' k hkt
      rw [Hget.out k hkt hkx] at hB1
      obtain ⟨x, hx⟩ : ∃ x, x = xs[k] := ⟨_, rfl⟩
      rw [← hx] at hA1 hB1
      have HA : Hid (∀ w', Below w.heap.size w w' → w'.cell? ⟨g, o + k, none⟩ = some (.string x)) := Lib.hid (fun w' h => by rw [h.cell (show g < w.heap.size by omega)]; exact hA1)
      have HB : Hid (∀ w', Below w.heap.size w w' → w'.cell? ⟨g', o' + k, none⟩ = some (.string x)) := Lib.hid (fun w' h => by rw [h.cell (show g' < w.heap.size by omega)]; exact hB1)
      have hlt' : (k : Int) < (j : Int) := by omega
      have hlt2 : (k : Int) < (n : Int) := by omega
      have hge : decide ((n : Int) ≤ (k : Int)) = false := by simp; omega
      have hge2 : decide (n ≤ k) = false := by simp; omega
      have hxx : (x.toList != x.toList) = false := by simp
      clear hx hA1 hB1 hAt hAt' Hata Hatb Hget hkx hkt
      go_wp2_with fail
      refine wp_region_held_drew (S := (fun w' => Below w.heap.size w w')) (by kernel_rfl) ((show Below w.heap.size w wr from hbw.out).drew) (fun hHeld => ?_)
      refine tk0 0 ?_
      refine tk0 1 ?_
      refine tk0 2 ?_
      refine tk0 3 ?_
      refine tk0 4 ?_
      refine tk0 5 ?_
      refine tk0 6 ?_
      refine tk0 7 ?_
      refine tk 8 (v := ?_) ?_ ?_; rotate_left
      · refine Or.inl ⟨by rfl, ?_⟩; intro w hSw; have f0 := HA.out w hSw; go_simp; first | done | with_reducible rfl
      refine tk0 9 ?_
      refine tk0 10 ?_
      refine tk0 11 ?_
      refine tk 12 (v := ?_) ?_ ?_; rotate_left
      · refine Or.inl ⟨by rfl, ?_⟩; intro w hSw; have f1 := HB.out w hSw; go_simp; first | done | with_reducible rfl
      refine tk0 13 ?_
      refine tk0 14 ?_
      refine wpAnyH_done (by kernel_rfl) ?_ _
      go_wp2_with fail
      go_roundw
      case rel => exact ⟨k + 1, by omega, by go_num, Lib.hid hHeld⟩
      case measure => simp [intOf]; omega
    · have hlt' : ¬ (k : Int) < (j : Int) := by omega
      clear Hata Hatb Hget
      go_wp2_with fail
      go_ret
      exact ⟨rfl, hbw.out⟩
end Go.Proofs.Ytkkmjlpeahkiaaa
