/- The law FnScan: entries come back, as far as they are whole. Condition: none. -/
import Derived.Test.YtkkmjlpeahkiaaaDrawD9b
import Derived.Test.YtkkmjlpeahkiaaaImplDsk
import Derived.Test.YtkkmjlpeahkiaaaImplScan2
import Derived.Test.YtkkmjlpeahkiaaaSameD
import Derived.Test.YtkkmjlpeahkiaaaBig
import Derived.Test.YtkkmjlpeahkiaaaTk
namespace Go.Proofs.Ytkkmjlpeahkiaaa
open Go.RowKit
set_option linter.unusedVariables false
set_option linter.unusedSimpArgs false

theorem cat_le9 (l : List ByteArray) (k : Nat) (h : l.length ≤ 200) (hs : ∀ x ∈ l, x.size ≤ 65531) : (catB (l.take k)).size ≤ 13107400 := by
  have H : ∀ xs : List ByteArray, (∀ x ∈ xs, x.size ≤ 65531) → (catL xs).length ≤ xs.length * 65537 := by
    intro xs
    induction xs with
    | nil => intro _; exact Nat.zero_le _
    | cons x xs ih =>
      intro hx
      have h1 := hx x (by simp)
      have h2 := ih (fun y hy => hx y (by simp [hy]))
      rw [catL_cons, List.length_append, List.length_cons, bytes_len, ent_size, if_neg (by omega)]
      omega
  have h1 := H (l.take k) (fun x hx => hs x (List.mem_of_mem_take hx))
  have h2 : (l.take k).length ≤ 200 := by rw [List.length_take]; omega
  rw [catB_size]
  omega
theorem texts_one9 {w : World} {B : Nat} {v : Value} {x : ByteArray} (h : Texts w B v [x]) : ∃ g cap, v = .slice (some ⟨g, 0, none⟩) 1 cap ∧ g < w.heap.size ∧ w.cell? ⟨g, 0, none⟩ = some (.string x) := by
  rcases h.form with ⟨_, h0⟩ | ⟨g, cap, rfl, hg, hgl, hm, hc, _⟩
  · cases h0
  · exact ⟨g, cap, rfl, hgl, hc 0 (by simp)⟩
set_option maxRecDepth 100000 in
set_option maxHeartbeats 8000000 in
theorem law_scan9 (a : Option Addr) (len cap : Nat) (zs : List Int) (w : World) (hr : IsRow .u8 w a len cap zs) :
    Calls Try.prog 14 #[.slice a len cap] w fun e w' => e = .returned (.bool true) ∧ Below w.heap.size w w' := by
  have hr := row8_of hr
  by_cases hbig : 1048576 < len
  · have hd : decide (1048576 < len) = true := by simpa using hbig
    go_enter Try.func14, Try.ntmps14
    go_wp2_with (go_at_call 41; refine (big_any _ _ _ _).mono ?_; rintro e w' ⟨rfl, rfl⟩)
    go_ret
    exact ⟨rfl, Below.refl _ _⟩
  have hd : decide (1048576 < len) = false := by simpa using hbig
  have hlen : len ≤ 1048576 := by omega
  have Hr8 := Lib.hid hr
  have BB : Hid (Below w.heap.size w w) := Lib.hid (Below.refl _ _)
  go_enter Try.func14, Try.ntmps14
  go_wp2_with (go_at_call 41; refine (big_any _ _ _ _).mono ?_; rintro e w' ⟨rfl, rfl⟩; refine Hid.out ?_)
  refine Lib.hid ?_
  clear hd hbig hr
  have hc := d9DrawScan a len cap zs w Hr8.out hlen
  go_wp2_with (go_at_call 46; refine hc.mono ?_; rintro e w1 ⟨y, rfl, hy, hb⟩; refine Hid.out ?_)
  refine Lib.hid ?_
  replace BB := tbt BB hb
  clear hc hb 
  have k1 := fun w => impl_scan y w (by omega)
  have k2 := fun w => spec_scan y w (by omega)
  have hle := (scan_le (t := y) 0 (Nat.zero_le _)).2
  change (scanS y).2 ≤ _ at hle
  have hln := scan_len (t := y) 0
  change 6 * (scanS y).1.length ≤ _ at hln
  have hsml := scan_small (t := y) 0
  change ∀ x ∈ (scanS y).1, _ at hsml
  have htx := scan_text (t := y)
  obtain ⟨n, hn⟩ : ∃ n, n = (scanS y).2 := ⟨_, rfl⟩
  obtain ⟨l, hl⟩ : ∃ n, n = (scanS y).1 := ⟨_, rfl⟩
  rw [← hn, ← hl] at k1 k2 htx
  rw [← hn] at hle
  rw [← hl] at hln hsml
  clear hn hl
  have hl2 : l.length ≤ 200 := by omega
  have HSM := Lib.hid hsml
  have HTX := Lib.hid htx
  clear hln hsml htx
  have hc := k1 w1
  go_wp2_with (go_at_call 33; refine hc.mono ?_; rintro e w2 ⟨v1, rfl, ht1, hb⟩; refine Hid.out ?_)
  refine Lib.hid ?_
  replace BB := tbt BB hb
  clear hc hb 
  have T1 := Lib.hid ht1
  obtain ⟨a1, c1, rfl⟩ := texts_shape ht1
  clear ht1
  have hc := k2 w2
  go_wp2_with (go_at_call 32; refine hc.mono ?_; rintro e w3 ⟨v2, rfl, ht2, hb⟩; refine Hid.out ?_)
  refine Lib.hid ?_
  replace T1 := Lib.hid (T1.out.later hb)
  replace BB := tbt BB hb
  clear hc hb 
  have T2 := Lib.hid ht2
  obtain ⟨a2, c2, rfl⟩ := texts_shape ht2
  clear ht2
  have hnn : ((n : Int) != (n : Int)) = false := by simp
  have hd1 : decide ((n : Int) < 0) = false := by simp
  have hd2 : decide ((y.size : Int) < (n : Int)) = false := by simp; omega
  have hd3 : decide (y.size < n) = false := by simp; omega
  have hny : ¬ y.size < n := by omega
  have hc := same_tx l _ _ _ _ w3 T1.out T2.out
  go_wp2_with (go_at_call 47; refine hc.mono ?_; rintro e w4 ⟨rfl, hb⟩; refine Hid.out ?_)
  refine Lib.hid ?_
  replace T1 := Lib.hid (T1.out.later hb)
  replace T2 := Lib.hid (T2.out.later hb)
  replace BB := tbt BB hb
  clear hc hb 
  go_wp2_with fail
  have AT := Lib.hid (texts_at T1.out)
  clear T1 T2 k1 k2 hd1 hd2 hd3
  have hw4 := Lib.hid BB.out.size
  go_loopw [8, 9] (fun sv i wr => ∃ k : Nat, k ≤ l.length ∧ i = .int .i64 k ∧ sv = .string (catB (l.take k)) ∧ Hid (Below w4.heap.size w4 wr)) (fun _ i _ => l.length - (intOf i).toNat)
  case atStart => exact ⟨0, Nat.zero_le _, rfl, rfl, Lib.hid (Below.refl _ _)⟩
  case round =>
    obtain ⟨k, hk, rfl, rfl, BW⟩ := hrel
    by_cases hlt : k < l.length
    · obtain ⟨_, aa, cc, e, hA⟩ := AT.out
      obtain ⟨rfl, rfl⟩ : a1 = aa ∧ c1 = cc := by injection e with e1 _ e2; exact ⟨e1, e2⟩
      obtain ⟨g, o, ha, hg, hc⟩ := hA (by omega)
      subst ha
      have hcx := hc k hlt
      have hmem := HSM.out _ (List.getElem_mem hlt)
      have htk : catB (l.take (k + 1)) = catB (l.take k) ++ entB l[k] := by rw [← catB_snoc, List.take_add_one, List.getElem?_eq_getElem hlt]; rfl
      have hsz : (catB (l.take k)).size ≤ 13107400 := cat_le9 l k hl2 HSM.out
      obtain ⟨x, hx⟩ : ∃ x, x = l[k] := ⟨_, rfl⟩
      rw [← hx] at hcx hmem htk
      have fx : wr.cell? ⟨g, o + k, none⟩ = some (.string x) := by rw [BW.out.cell (show g < w4.heap.size from hg)]; exact hcx
      have kE := impl_entry x wr (by omega)
      have hez : (entB x).size ≤ 65537 := by rw [ent_size]; split <;> omega
      obtain ⟨E, hE⟩ : ∃ E, E = entB x := ⟨_, rfl⟩
      rw [← hE] at kE htk hez
      obtain ⟨c, hc2⟩ : ∃ c, c = catB (l.take k) := ⟨_, rfl⟩
      rw [← hc2] at hsz htk ⊢
      have HTK := Lib.hid htk
      have hlt' : (k : Int) < (l.length : Int) := by omega
      have ns : ¬ 9223372036854775807 < c.size + E.size := by omega
      clear hx hE hc hA e hcx hc2 htk
      go_wp2_with (go_at_call 24; refine kE.mono ?_; rintro e w5 ⟨rfl, hb⟩; refine Hid.out ?_)
      refine Lib.hid ?_
      replace BW := tbt BW hb
      clear kE hb fx
      go_wp2_with fail
      go_roundw
      case rel => exact ⟨k + 1, by omega, by go_num, by rw [HTK.out], BW⟩
      case measure => simp [intOf]; omega
    · have hlt' : ¬ (k : Int) < (l.length : Int) := by omega
      obtain rfl : k = l.length := by omega
      have hall : catB (l.take l.length) = y.extract 0 n := by rw [List.take_length]; exact HTX.out
      obtain ⟨c, hc2⟩ : ∃ c, c = catB (l.take l.length) := ⟨_, rfl⟩
      rw [← hc2] at hall ⊢
      have hcc : y.extract 0 n = c := hall.symm
      clear hc2 hall
      replace BB := Lib.hid (BB.out.trans (BW.out.mono BB.out.size))
      clear BW AT hw4 HSM HTX
      have hc := d9DrawEntry a len cap zs wr (Hr8.out.later BB.out) hlen
      go_wp2_with (go_at_call 48; refine hc.mono ?_; rintro e w5 ⟨v, rfl, hvz, hb⟩; refine Hid.out ?_)
      refine Lib.hid ?_
      replace BB := tbt BB hb
      clear hc hb 
      have kE := fun w => impl_entry v w (by omega)
      have kS := fun w => spec_entry v w (by omega)
      by_cases hbv : v.size ≤ 65531
      · have hez : (entB v).size = v.size + 6 := by rw [ent_size, if_neg (by omega)]
        have hsc := scan_one (x := v) hbv
        have k5 := fun w => impl_scan (entB v) w (by omega)
        rw [hsc] at k5
        obtain ⟨E, hE⟩ : ∃ z, z = entB v := ⟨_, rfl⟩
        rw [← hE] at kE kS k5
        clear hE hsc hez
        have d1 : decide (65531 < v.size) = false := by simp; omega
        have d2 : decide (v.size ≤ 65531) = true := by simp; omega
        have n1 : ¬ 65531 < v.size := by omega
        have hc := kE w5
        go_wp2_with (go_at_call 24; refine hc.mono ?_; rintro e w6 ⟨rfl, hb⟩; refine Hid.out ?_)
        refine Lib.hid ?_
        replace BB := tbt BB hb
        clear hc hb 
        have hc := k5 w6
        go_wp2_with (go_at_call 33; refine hc.mono ?_; rintro e w7 ⟨v3, rfl, ht, hb⟩; refine Hid.out ?_)
        refine Lib.hid ?_
        replace BB := tbt BB hb
        clear hc hb 
        obtain ⟨gl, cl, rfl, hgl, hcl⟩ := texts_one9 ht
        clear ht
        have HC9 := Lib.hid hcl
        have HGL := Lib.hid hgl
        clear hcl hgl
        have hc := kE w7
        go_wp2_with (go_at_call 24; refine hc.mono ?_; rintro e w8 ⟨rfl, hb⟩; refine Hid.out ?_)
        refine Lib.hid ?_
        replace HC9 := Lib.hid ((hb.cell HGL.out).trans HC9.out)
        replace HGL := tlz HGL hb.size
        replace BB := tbt BB hb
        clear hc hb 
        have hc := kS w8
        go_wp2_with (go_at_call 23; refine hc.mono ?_; rintro e w9 ⟨rfl, hb⟩; refine Hid.out ?_)
        refine Lib.hid ?_
        replace HC9 := Lib.hid ((hb.cell HGL.out).trans HC9.out)
        replace HGL := tlz HGL hb.size
        replace BB := tbt BB hb
        clear hc hb 
        have fl := HC9.out
        go_wp2_with fail
        go_ret
        exact ⟨rfl, BB.out⟩
      have hez : entB v = ⟨#[]⟩ := ByteArray.ext (Array.eq_empty_of_size_eq_zero (by show (entB v).size = 0; rw [ent_size, if_pos (by omega)]))
      have k5 := fun w => impl_scan ⟨#[]⟩ w (by decide)
      rw [scan_nil] at k5
      rw [hez] at kE kS
      clear hez
      have d1 : decide (65531 < v.size) = true := by simp; omega
      have n1 : 65531 < v.size := by omega
      have hc := kE w5
      go_wp2_with (go_at_call 24; refine hc.mono ?_; rintro e w6 ⟨rfl, hb⟩; refine Hid.out ?_)
      refine Lib.hid ?_
      replace BB := tbt BB hb
      clear hc hb 
      have hc := k5 w6
      go_wp2_with (go_at_call 33; refine hc.mono ?_; rintro e w7 ⟨v3, rfl, ht, hb⟩; refine Hid.out ?_)
      refine Lib.hid ?_
      replace BB := tbt BB hb
      clear hc hb 
      obtain ⟨a3, c3, rfl⟩ := texts_shape ht
      clear ht
      have hc := kE w7
      go_wp2_with (go_at_call 24; refine hc.mono ?_; rintro e w8 ⟨rfl, hb⟩; refine Hid.out ?_)
      refine Lib.hid ?_
      replace BB := tbt BB hb
      clear hc hb 
      have hc := kS w8
      go_wp2_with (go_at_call 23; refine hc.mono ?_; rintro e w9 ⟨rfl, hb⟩; refine Hid.out ?_)
      refine Lib.hid ?_
      replace BB := tbt BB hb
      clear hc hb 
      go_wp2_with fail
      go_ret
      exact ⟨rfl, BB.out⟩
end Go.Proofs.Ytkkmjlpeahkiaaa
