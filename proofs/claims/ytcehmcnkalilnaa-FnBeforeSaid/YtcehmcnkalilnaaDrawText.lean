/- The draws of chapter 1's texts: texts of at most thirty bytes. Condition: none. -/
import Derived.Test.YtcehmcnkalilnaaCur
import Derived.Test.YtcehmcnkalilnaaDecPlain
namespace Go.Proofs.Ytcehmcnkalilnaa
open Go.RowKit
set_option linter.unusedVariables false

set_option maxHeartbeats 1000000 in
theorem drawLines_any (a : Option Addr) (len cap : Nat) (zs : List Int) (w : World) (hr : Row8 w w.heap.size a len cap zs) (hl : len ≤ 1048576) :
    Calls Try.prog 10 #[.slice a len cap] w (DrawnText 30 w) := by
  go_enter Try.func10, Try.ntmps10
  go_wp2_with (go_at_call 26; refine (new_any a len cap zs _ hr hl).mono ?_; rintro e w1 ⟨rfl, hc, hb⟩; refine Hid.out ?_)
  refine Lib.hid ?_
  have hsz := hb.size
  go_wp2_with (go_at_call 27; refine (below_any _ (by omega) _ _ _ hc).mono ?_; rintro e w2 ⟨n, ⟨hn0, hn1, _⟩, rfl, hc2, hg2⟩; refine Hid.out ?_)
  refine Lib.hid ?_
  have hn1 := hn1 (by omega)
  obtain ⟨n, rfl⟩ := Int.eq_ofNat_of_zero_le hn0
  have hb2 := below_grown hb hg2 (Nat.le_refl _) hsz
  clear hc hb hg2 hsz
  go_wp2_with fail
  go_loopw [4, 6] (fun sv i wr => ∃ (k : Nat) (t : ByteArray), k ≤ n ∧ i = .int .i64 k ∧ sv = .string t ∧ Hid (t.size ≤ 2 * k) ∧ Hid (Cu TC wr w.heap.size w.heap.size) ∧ Below w.heap.size w wr) (fun _ i _ => n - (intOf i).toNat)
  case atStart => exact ⟨0, _, Nat.zero_le _, rfl, rfl, Lib.hid (Nat.le_refl _), Lib.hid hc2, hb2⟩
  case round =>
    obtain ⟨k, t, hk, rfl, rfl, ht, hc, hB⟩ := hrel
    have hsz := hB.size
    have ht' := ht.out
    by_cases hlt : k < n
    · have hc := hc.out
      go_wp2_with (go_at_call 28; refine (pick_lit 2 _ _ 5 5 wr _ _ hc rfl (by decide) (by decide) rfl).mono ?_; rintro e w3 ⟨t', ht2, rfl, hc3, hg3⟩; refine Hid.out ?_)
      refine Lib.hid ?_
      have hB3 := below_grown hB hg3 (Nat.le_refl _) hsz
      have hc3 := Lib.hid hc3
      clear hc hg3
      go_wp2_with fail
      go_roundw
      case rel => exact ⟨k + 1, _, by omega, by go_num, rfl, Lib.hid (by rw [ByteArray.size_append]; omega), hc3, hB3⟩
      case measure => simp [intOf]; omega
    · go_wp2_with fail
      go_ret
      exact ⟨t, rfl, by omega, hB⟩

set_option maxHeartbeats 1000000 in
theorem drawWords_any (a : Option Addr) (len cap : Nat) (zs : List Int) (w : World) (hr : Row8 w w.heap.size a len cap zs) (hl : len ≤ 1048576) :
    Calls Try.prog 13 #[.slice a len cap] w (DrawnText 30 w) := by
  go_enter Try.func13, Try.ntmps13
  go_wp2_with (go_at_call 26; refine (new_any a len cap zs _ hr hl).mono ?_; rintro e w1 ⟨rfl, hc, hb⟩; refine Hid.out ?_)
  refine Lib.hid ?_
  have hsz := hb.size
  go_wp2_with (go_at_call 27; refine (below_any _ (by omega) _ _ _ hc).mono ?_; rintro e w2 ⟨n, ⟨hn0, hn1, _⟩, rfl, hc2, hg2⟩; refine Hid.out ?_)
  refine Lib.hid ?_
  have hn1 := hn1 (by omega)
  obtain ⟨n, rfl⟩ := Int.eq_ofNat_of_zero_le hn0
  have hb2 := below_grown hb hg2 (Nat.le_refl _) hsz
  clear hc hb hg2 hsz
  go_wp2_with fail
  go_loopw [4, 6] (fun sv i wr => ∃ (k : Nat) (t : ByteArray), k ≤ n ∧ i = .int .i64 k ∧ sv = .string t ∧ Hid (t.size ≤ 2 * k) ∧ Hid (Cu TC wr w.heap.size w.heap.size) ∧ Below w.heap.size w wr) (fun _ i _ => n - (intOf i).toNat)
  case atStart => exact ⟨0, _, Nat.zero_le _, rfl, rfl, Lib.hid (Nat.le_refl _), Lib.hid hc2, hb2⟩
  case round =>
    obtain ⟨k, t, hk, rfl, rfl, ht, hc, hB⟩ := hrel
    have hsz := hB.size
    have ht' := ht.out
    by_cases hlt : k < n
    · have hc := hc.out
      go_wp2_with (go_at_call 28; refine (pick_lit 2 _ _ 6 6 wr _ _ hc rfl (by decide) (by decide) rfl).mono ?_; rintro e w3 ⟨t', ht2, rfl, hc3, hg3⟩; refine Hid.out ?_)
      refine Lib.hid ?_
      have hB3 := below_grown hB hg3 (Nat.le_refl _) hsz
      have hc3 := Lib.hid hc3
      clear hc hg3
      go_wp2_with fail
      go_roundw
      case rel => exact ⟨k + 1, _, by omega, by go_num, rfl, Lib.hid (by rw [ByteArray.size_append]; omega), hc3, hB3⟩
      case measure => simp [intOf]; omega
    · go_wp2_with fail
      go_ret
      exact ⟨t, rfl, by omega, hB⟩

set_option maxHeartbeats 400000 in
theorem drawNameOk_any (a : Option Addr) (len cap : Nat) (zs : List Int) (w : World) (hr : Row8 w w.heap.size a len cap zs) (hl : len ≤ 1048576) :
    Calls Try.prog 19 #[.slice a len cap] w (DrawnText 30 w) := by
  go_enter Try.func19, Try.ntmps19
  go_wp2_with (go_at_call 26; refine (new_any a len cap zs _ hr hl).mono ?_; rintro e w1 ⟨rfl, hc, hb⟩; refine Hid.out ?_)
  refine Lib.hid ?_
  have hsz := hb.size
  go_wp2_with (go_at_call 28; refine (pick_lit 30 _ _ 9 9 w1 _ _ hc rfl (by decide) (by decide) rfl).mono ?_; rintro e w3 ⟨s, hs, rfl, hc3, hg3⟩)
  go_ret
  exact ⟨s, rfl, hs, below_grown hb hg3 (Nat.le_refl _) hsz⟩

/-- The texts that DrawWords picks from. -/
def pickW : Nat → ByteArray
  | 0 => ⟨#[97]⟩ | 1 => ⟨#[32]⟩ | 2 => ⟨#[98, 99]⟩ | 3 => ⟨#[9]⟩ | 4 => ⟨#[]⟩ | _ => ⟨#[10]⟩
theorem pickW_le (j : Nat) : (pickW j).size ≤ 2 := by
  unfold pickW; split <;> decide
def wordsLoop (zs : List Int) (len : Nat) : Nat → Nat → Int → ByteArray → ByteArray
  | 0, _, _, t => t
  | k + 1, i, h, t => wordsLoop zs len k (nextI len i) (lcg h) (t ++ pickW (nextB zs len i h % 6).toNat)
theorem wordsLoop_le (zs : List Int) (len k i : Nat) (h : Int) (t : ByteArray) : (wordsLoop zs len k i h t).size ≤ t.size + 2 * k := by
  induction k generalizing i h t with
  | zero => simp [wordsLoop]
  | succ k ih =>
    have := ih (nextI len i) (lcg h) (t ++ pickW (nextB zs len i h % 6).toNat)
    have h2 := pickW_le (nextB zs len i h % 6).toNat
    rw [ByteArray.size_append] at this
    simp only [wordsLoop]; omega
/-- The very text that DrawWords draws. -/
def wordsDraw (zs : List Int) (len : Nat) : ByteArray := wordsLoop zs len (nextB zs len 0 (newHAt zs len (min len 4000)) % 7).toNat (nextI len 0) (lcg (newHAt zs len (min len 4000))) ⟨#[]⟩
theorem wordsDraw_le (zs : List Int) (len : Nat) : (wordsDraw zs len).size ≤ 30 := by
  have := wordsLoop_le zs len (nextB zs len 0 (newHAt zs len (min len 4000)) % 7).toNat (nextI len 0) (lcg (newHAt zs len (min len 4000))) ⟨#[]⟩
  have h7 : nextB zs len 0 (newHAt zs len (min len 4000)) % 7 < 7 := Int.emod_lt_of_pos _ (by decide)
  have h0 : (⟨#[]⟩ : ByteArray).size = 0 := rfl
  unfold wordsDraw; omega
theorem wordsLoop_step (zs : List Int) (len n k i : Nat) (h : Int) (t : ByteArray) (hk : k < n) : wordsLoop zs len (n - k) i h t = wordsLoop zs len (n - (k + 1)) (nextI len i) (lcg h) (t ++ pickW (nextB zs len i h % 6).toNat) := by
  rw [show n - k = (n - (k + 1)) + 1 by omega]; rfl

set_option maxHeartbeats 1000000 in
theorem drawWords_at (a : Option Addr) (len cap : Nat) (zs : List Int) (w : World) (hr : Row8 w w.heap.size a len cap zs) (hl : len ≤ 1048576) :
    Calls Try.prog 13 #[.slice a len cap] w fun e w' => e = .returned (.string (wordsDraw zs len)) ∧ Below w.heap.size w w' := by
  have hx0 : 0 ≤ nextB zs len 0 (newHAt zs len (min len 4000)) % 7 := Int.emod_nonneg _ (by decide)
  have hx1 : nextB zs len 0 (newHAt zs len (min len 4000)) % 7 < 7 := Int.emod_lt_of_pos _ (by decide)
  have hw : Hid (wordsDraw zs len = wordsLoop zs len (nextB zs len 0 (newHAt zs len (min len 4000)) % 7).toNat (nextI len 0) (lcg (newHAt zs len (min len 4000))) ⟨#[]⟩) := Lib.hid rfl
  obtain ⟨n, hn⟩ := Int.eq_ofNat_of_zero_le hx0
  have hn7 : n < 7 := by omega
  have hbel := fun blk w c => below_at 7 (by decide) (by decide) w.heap.size blk a len cap 0 zs (newHAt zs len (min len 4000)) w c
  have hw : Hid (wordsLoop zs len n (nextI len 0) (lcg (newHAt zs len (min len 4000))) ⟨#[]⟩ = wordsDraw zs len) := Lib.hid (by rw [hw.out, hn]; rfl)
  have HN := Lib.hid hn
  clear hn hx0 hx1 hbel
  go_enter Try.func13, Try.ntmps13
  go_wp2_with (go_at_call 26; refine (new_at a len cap zs _ hr hl).mono ?_; rintro e w1 ⟨rfl, hc, hb⟩; refine Hid.out ?_)
  refine Lib.hid ?_
  have hsz := hb.size
  go_wp2_with (go_at_call 27; refine (below_at 7 (by decide) (by decide) _ _ _ _ _ _ _ _ _ hc).mono ?_; rintro e w2 ⟨rfl, hc2, hg2⟩; refine Hid.out ?_)
  refine Lib.hid ?_
  have hb2 := below_grown hb hg2 (Nat.le_refl _) hsz
  clear hc hb hg2 hsz
  have hn := HN.out
  rw [hn]
  clear hn
  go_wp2_with fail
  go_loopw [4, 6] (fun sv i wr => ∃ (k j : Nat) (h : Int) (t : ByteArray), k ≤ n ∧ i = .int .i64 k ∧ sv = .string t ∧ Hid (t.size ≤ 2 * k) ∧ Hid (wordsLoop zs len (n - k) j h t = wordsDraw zs len) ∧ Hid (Cur TC wr w.heap.size w.heap.size a len cap zs j h) ∧ Below w.heap.size w wr) (fun _ i _ => n - (intOf i).toNat)
  case atStart => exact ⟨0, _, _, _, Nat.zero_le _, rfl, rfl, Lib.hid (Nat.le_refl _), hw, Lib.hid hc2, hb2⟩
  case round =>
    obtain ⟨k, j, h, t, hk, rfl, rfl, ht, hwl, hc, hB⟩ := hrel
    have hsz := hB.size
    have ht' := ht.out
    by_cases hlt : k < n
    · have hlt2 := hc.out.lt
      have hc := Lib.hid (hc.out.alloc (.cells #[.string ⟨#[97]⟩, .string ⟨#[32]⟩, .string ⟨#[98, 99]⟩, .string ⟨#[9]⟩, .string ⟨#[]⟩, .string ⟨#[10]⟩] 9))
      have hl : ∀ q, q < 6 → (wr.alloc (.cells #[.string ⟨#[97]⟩, .string ⟨#[32]⟩, .string ⟨#[98, 99]⟩, .string ⟨#[9]⟩, .string ⟨#[]⟩, .string ⟨#[10]⟩] 9)).cell? ⟨wr.heap.size, q, none⟩ = some (.string (pickW q)) := by
        intro q hq
        rw [World.cell?_alloc_new]
        match q, hq with
        | 0, _ | 1, _ | 2, _ | 3, _ | 4, _ | 5, _ => rfl
      have hl := Lib.hid hl
      have hst := Lib.hid (wordsLoop_step zs len n k j h t hlt)
      have hple := Lib.hid (pickW_le (nextB zs len j h % 6).toNat)
      go_wp2_with (go_at_call 28; refine (pick_at pickW wr.heap.size 6 6 (by decide) (by decide) _ _ _ _ _ _ _ _ _ (by omega) hl.out hc.out).mono ?_; rintro e w3 ⟨rfl, hc3, hg3⟩; refine Hid.out ?_)
      refine Lib.hid ?_
      have hB3 := below_grown (hB.alloc hsz (.cells #[.string ⟨#[97]⟩, .string ⟨#[32]⟩, .string ⟨#[98, 99]⟩, .string ⟨#[9]⟩, .string ⟨#[]⟩, .string ⟨#[10]⟩] 9)) hg3 (Nat.le_refl _) (by simp; omega)
      have hc3 := Lib.hid hc3
      clear hc hg3
      have hple' := hple.out
      generalize pickW (nextB zs len j h % 6).toNat = p at *
      go_wp2_with fail
      go_roundw
      case rel => exact ⟨k + 1, _, _, _, by omega, by go_num, rfl, Lib.hid (by rw [ByteArray.size_append]; omega), Lib.hid (hst.out.symm.trans hwl.out), hc3, hB3⟩
      case measure => simp [intOf]; omega
    · obtain rfl : k = n := by omega
      have hfin : Hid (t = wordsDraw zs len) := Lib.hid (by have := hwl.out; rw [Nat.sub_self] at this; exact this)
      go_wp2_with fail
      go_ret
      exact ⟨ret_str hfin.out, hB⟩
end Go.Proofs.Ytcehmcnkalilnaa
