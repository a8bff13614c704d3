/- A disk and its entries, as data: what is appended, synced, kept behind a crash, scanned, recovered, installed. Condition: none. -/
import Derived.Test.YtkkmjlpeahkiaaaTextBack
import Derived.Test.YtkkmjlpeahkiaaaSealBack
namespace Go.Proofs.Ytkkmjlpeahkiaaa
open Go.RowKit
set_option linter.unusedVariables false
set_option linter.unusedSimpArgs false

def ptD (s : ByteArray) : List UInt8 := be8 s.size 2 ++ s.data.toList
/-- The text s holds the bytes x at the place p. -/
def HoldsD (s : ByteArray) (p : Nat) (x : List UInt8) : Prop := ∃ A Z, s.data.toList = A ++ (x ++ Z) ∧ A.length = p
theorem HoldsD.left {s : ByteArray} {p : Nat} {x y : List UInt8} (h : HoldsD s p (x ++ y)) : HoldsD s p x := by
  obtain ⟨A, Z, h1, h2⟩ := h
  exact ⟨A, y ++ Z, by rw [h1, List.append_assoc], h2⟩
theorem HoldsD.right {s : ByteArray} {p : Nat} {x y : List UInt8} (h : HoldsD s p (x ++ y)) : HoldsD s (p + x.length) y := by
  obtain ⟨A, Z, h1, h2⟩ := h
  exact ⟨A ++ x, Z, by rw [h1]; simp [List.append_assoc], by rw [List.length_append, h2]⟩
theorem HoldsD.size {s : ByteArray} {p : Nat} {x : List UInt8} (h : HoldsD s p x) : p + x.length ≤ s.size := by
  obtain ⟨A, Z, h1, h2⟩ := h
  have := congrArg List.length h1
  simp at this
  omega
/-- A number that is held is read. -/
theorem numD_back {s : ByteArray} {p n k : Nat} (h : HoldsD s p (be8 n k)) (hk : 1 ≤ k ∧ k ≤ 4) (hn : n < 256 ^ k) : getN s p k = n := by
  have hs := h.size
  rw [be8_len] at hs
  obtain ⟨A, Z, h1, h2⟩ := h
  unfold getN
  rw [if_neg (by omega)]
  have e : (s.data.toList.drop (p : Int).toNat).take (k : Int).toNat = be8 n k := by
    rw [h1, Int.toNat_natCast, Int.toNat_natCast, ← h2, List.drop_left, List.take_append_of_le_length (by rw [be8_len]; omega)]
    exact List.take_of_length_le (by rw [be8_len]; omega)
  rw [e, beN_be8, Nat.mod_eq_of_lt hn]
/-- A text that is held is read. -/
theorem textD_back {s t : ByteArray} {p : Nat} (h : HoldsD s p (ptD t)) (ht : t.size ≤ 65535) : getTextB s p = (t, ((p + (ptD t).length : Nat) : Int)) := by
  have hl : (ptD t).length = 2 + t.size := by unfold ptD; rw [List.length_append, be8_len]; simp
  have hs := h.size
  have hn : getN s p 2 = (t.size : Nat) := numD_back (k := 2) h.left (by omega) (by omega)
  have hr := h.right
  rw [be8_len] at hr
  obtain ⟨A, Z, h1, h2⟩ := hr
  unfold getTextB
  rw [hn, if_neg (by rw [hl] at hs; omega)]
  have e : s.extract ((p : Int) + 2).toNat ((p : Int) + 2 + (t.size : Nat)).toNat = t := by
    apply ByteArray.ext
    apply Array.toList_inj.mp
    have e1 : ((p : Int) + 2).toNat = p + 2 := by omega
    have e2 : ((p : Int) + 2 + (t.size : Nat)).toNat = p + 2 + t.size := by omega
    rw [e1, e2, ByteArray.data_extract, Array.toList_extract, List.extract_eq_take_drop, h1, ← h2, List.drop_left]
    rw [show A.length + t.size - A.length = t.size by omega, List.take_append_of_le_length (by simp)]
    exact List.take_of_length_le (by simp)
  rw [e, hl]
  refine Prod.ext rfl ?_
  show (p : Int) + 2 + (t.size : Nat) = _
  omega
structure Dsk where
  rm : Int
  sn : ByteArray
  kp : ByteArray
  ls : ByteArray
def usedD (d : Dsk) : Nat := d.sn.size + d.kp.size + d.ls.size
def dskOk (d : Dsk) : Bool := inB d.rm 0 4000 && decide ((usedD d : Int) ≤ d.rm)
def entB (s : ByteArray) : ByteArray := putTextB (sealB s)
def appS (d : Dsk) (s : ByteArray) : Dsk × Bool :=
  if dskOk d = true ∧ (entB s).size ≠ 0 ∧ ((usedD d + (entB s).size : Nat) : Int) ≤ d.rm then (⟨d.rm, d.sn, d.kp, d.ls ++ entB s⟩, true) else (d, false)
def keepN (n : Nat) (k : Int) : Nat := if k < 0 then 0 else if (n : Int) < k then n else k.toNat
def crashS (d : Dsk) (k : Int) : Dsk := if dskOk d = true then ⟨d.rm, d.sn, d.kp ++ d.ls.extract 0 (keepN d.ls.size k), ⟨#[]⟩⟩ else d
def syncS (d : Dsk) : Dsk := if dskOk d = true then ⟨d.rm, d.sn, d.kp ++ d.ls, ⟨#[]⟩⟩ else d
/-- Whether an entry stands at a place, and its text. -/
def entOk (t : ByteArray) (p : Nat) : Bool := (openB (getTextB t p).1).2
def entAt (t : ByteArray) (p : Nat) : ByteArray := (openB (getTextB t p).1).1
def entEnd (t : ByteArray) (p : Nat) : Nat := (getTextB t p).2.toNat
def scanF : Nat → ByteArray → Nat → List ByteArray × Nat
  | 0, _, p => ([], p)
  | f + 1, t, p => if entOk t p = true then (entAt t p :: (scanF f t (entEnd t p)).1, (scanF f t (entEnd t p)).2) else ([], p)
/-- The entries from a place on, and where they end. -/
def scanA (t : ByteArray) (p : Nat) : List ByteArray × Nat := scanF (t.size - p) t p
def scanS (t : ByteArray) : List ByteArray × Nat := scanA t 0
def recS (d : Dsk) : Dsk × List ByteArray :=
  if dskOk d = true then (⟨d.rm, d.sn, d.kp.extract 0 (scanS d.kp).2, ⟨#[]⟩⟩, (scanS d.kp).1) else (d, [])
def insS (d : Dsk) (s : ByteArray) : Dsk × Bool :=
  if dskOk d = true ∧ ((usedD d + s.size : Nat) : Int) ≤ d.rm then (⟨d.rm, s, ⟨#[]⟩, ⟨#[]⟩⟩, true) else (d, false)

theorem seal_size4 (s : ByteArray) : (sealB s).size = s.size + 4 := by unfold sealB; rw [ByteArray.size_append, leB_size]
theorem ent_size (s : ByteArray) : (entB s).size = if 65531 < s.size then 0 else s.size + 6 := by
  unfold entB putTextB
  rw [seal_size4]
  by_cases h : 65535 < s.size + 4
  · rw [if_pos h, if_pos (by omega)]; rfl
  · rw [if_neg h, if_neg (by omega), ByteArray.size_append, putN_size, seal_size4]; omega
theorem ent_pt {s : ByteArray} (h : s.size ≤ 65531) : (entB s).data.toList = ptD (sealB s) := by
  have hz := seal_size4 s
  have hpn : putN ((sealB s).size : Int) 2 = beB (sealB s).size 2 := by unfold putN; rw [if_neg (by omega)]; rfl
  unfold entB putTextB
  rw [if_neg (by omega), hpn, txt_beB]
  unfold ptD
  rw [ByteArray.data_append, Array.toList_append]
/-- Where an entry is, it ends within the text. -/
theorem ent_end {t : ByteArray} {p : Nat} (h : entOk t p = true) : (getTextB t p).2 = (entEnd t p : Nat) ∧ p + 6 ≤ entEnd t p ∧ entEnd t p ≤ t.size ∧ (entAt t p).size ≤ 65531 ∧ entB (entAt t p) = t.extract p (entEnd t p) := by
  unfold entOk at h
  unfold entAt entEnd
  by_cases hn : 0 ≤ (getTextB t p).2
  · have hpg := put_getText hn
    obtain ⟨P, L, hP, hL, h1, h2, h3⟩ := getText_parts hn
    have hPp : P = p := by omega
    subst hPp
    have hs := seal_opened _ h
    have hz := congrArg ByteArray.size hs
    rw [seal_size4] at hz
    have hz2 : (getTextB t P).1.size = L := by rw [h3]; show (t.extract (P + 2) (P + 2 + L)).size = L; rw [ByteArray.size_extract]; omega
    have h4 : (getTextB t P).2 = ((P + 2 + L : Nat) : Int) := by rw [h3]
    refine ⟨by omega, by omega, by omega, by omega, ?_⟩
    unfold entB
    rw [hs]
    exact hpg
  · have he : (getTextB t p).1 = ⟨#[]⟩ := by
      unfold getTextB at hn ⊢
      split
      · rfl
      · rename_i hc
        rw [if_neg hc] at hn
        exfalso
        have := getN_lo t p 2
        apply hn
        show 0 ≤ (p : Int) + 2 + getN t p 2
        omega
    rw [he] at h
    unfold openB at h
    rw [if_pos (by show (0 : Nat) < 4; decide)] at h
    cases h
theorem ent_none {t : ByteArray} {p : Nat} (h : (getTextB t p).2 < 0) : entOk t p = false := by
  rw [Bool.eq_false_iff]
  intro hq
  have := (ent_end hq).1
  omega
theorem scanF_more (t : ByteArray) : ∀ (f p : Nat), t.size - p ≤ f → scanF (f + 1) t p = scanF f t p := by
  intro f
  induction f with
  | zero =>
    intro p h
    by_cases hq : entOk t p = true
    · have := ent_end hq; omega
    · show (if entOk t p = true then (entAt t p :: (scanF 0 t (entEnd t p)).1, (scanF 0 t (entEnd t p)).2) else ([], p)) = _
      rw [if_neg hq]; rfl
  | succ f ih =>
    intro p h
    rw [scanF]
    conv => rhs; rw [scanF]
    by_cases hq : entOk t p = true
    · have := ent_end hq
      rw [if_pos hq, if_pos hq, ih _ (by omega)]
    · rw [if_neg hq, if_neg hq]
theorem scanF_any (t : ByteArray) (p k : Nat) : scanF (t.size - p + k) t p = scanA t p := by
  induction k with
  | zero => rfl
  | succ k ih => rw [← Nat.add_assoc, scanF_more t _ p (by omega), ih]
theorem scan_yes {t : ByteArray} {p : Nat} (h : entOk t p = true) : scanA t p = (entAt t p :: (scanA t (entEnd t p)).1, (scanA t (entEnd t p)).2) := by
  have he := ent_end h
  have e := scanF_any t (entEnd t p) (t.size - p - (t.size - entEnd t p))
  rw [show t.size - entEnd t p + (t.size - p - (t.size - entEnd t p)) = t.size - p by omega] at e
  rw [← scanF_any t p 1, scanF, if_pos h, e]
theorem scan_no {t : ByteArray} {p : Nat} (h : entOk t p = false) : scanA t p = ([], p) := by
  rw [← scanF_any t p 1, scanF, if_neg (by rw [h]; decide)]
theorem scan_ind {t : ByteArray} {M : Nat → Prop} (h0 : ∀ p, entOk t p = false → M p) (h1 : ∀ p, entOk t p = true → M (entEnd t p) → M p) : ∀ p, M p := by
  have H : ∀ f p, t.size - p ≤ f → M p := by
    intro f
    induction f with
    | zero =>
      intro p h
      refine h0 p ?_
      rw [Bool.eq_false_iff]
      intro hq
      have := ent_end hq
      omega
    | succ f ih =>
      intro p h
      by_cases hq : entOk t p = true
      · have := ent_end hq
        exact h1 p hq (ih _ (by omega))
      · exact h0 p (Bool.eq_false_iff.2 hq)
  exact fun p => H _ p (Nat.le_refl _)
theorem scan_le {t : ByteArray} (p : Nat) (hp : p ≤ t.size) : p ≤ (scanA t p).2 ∧ (scanA t p).2 ≤ t.size := by
  refine scan_ind (t := t) (M := fun p => p ≤ t.size → p ≤ (scanA t p).2 ∧ (scanA t p).2 ≤ t.size) ?_ ?_ p hp
  · intro p h hp; rw [scan_no h]; exact ⟨Nat.le_refl _, hp⟩
  · intro p h ih hp
    have he := ent_end h
    have := ih he.2.2.1
    rw [scan_yes h]
    dsimp only
    omega
theorem scan_small {t : ByteArray} (p : Nat) : ∀ x ∈ (scanA t p).1, x.size ≤ 65531 := by
  refine scan_ind (t := t) (M := fun p => ∀ x ∈ (scanA t p).1, x.size ≤ 65531) ?_ ?_ p
  · intro p h x hx; rw [scan_no h] at hx; cases hx
  · intro p h ih x hx
    rw [scan_yes h] at hx
    rcases List.mem_cons.1 hx with rfl | hx
    · exact (ent_end h).2.2.2.1
    · exact ih x hx
theorem scan_len {t : ByteArray} (p : Nat) : 6 * (scanA t p).1.length ≤ t.size - p := by
  refine scan_ind (t := t) (M := fun p => 6 * (scanA t p).1.length ≤ t.size - p) ?_ ?_ p
  · intro p h; rw [scan_no h]; exact Nat.zero_le _
  · intro p h ih
    have he := ent_end h
    rw [scan_yes h]
    dsimp only
    rw [List.length_cons]
    omega
/-- Entries one behind the other. -/
def catL (xs : List ByteArray) : List UInt8 := xs.flatMap fun x => (entB x).data.toList
def catB (xs : List ByteArray) : ByteArray := ⟨(catL xs).toArray⟩
theorem catB_nil : catB [] = ⟨#[]⟩ := rfl
theorem catL_append (xs ys : List ByteArray) : catL (xs ++ ys) = catL xs ++ catL ys := by unfold catL; rw [List.flatMap_append]
theorem catL_cons (x : ByteArray) (xs : List ByteArray) : catL (x :: xs) = (entB x).data.toList ++ catL xs := by unfold catL; rw [List.flatMap_cons]
theorem catB_append (xs ys : List ByteArray) : catB (xs ++ ys) = catB xs ++ catB ys := by
  apply ByteArray.ext
  apply Array.toList_inj.mp
  rw [ByteArray.data_append, Array.toList_append]
  exact catL_append xs ys
theorem catB_one (x : ByteArray) : catB [x] = entB x := by
  apply ByteArray.ext
  apply Array.toList_inj.mp
  show catL [x] = _
  rw [catL_cons]
  exact List.append_nil _
theorem catB_snoc (xs : List ByteArray) (x : ByteArray) : catB (xs ++ [x]) = catB xs ++ entB x := by rw [catB_append, catB_one]
theorem catB_size (xs : List ByteArray) : (catB xs).size = (catL xs).length := by show (catL xs).toArray.size = _; simp
theorem bytes_len (s : ByteArray) : s.data.toList.length = s.size := by simp
/-- What was scanned is the text so far. -/
theorem scan_cat {t : ByteArray} (p : Nat) (hp : p ≤ t.size) : t.data.toList.drop p = catL (scanA t p).1 ++ t.data.toList.drop (scanA t p).2 ∧ (catL (scanA t p).1).length = (scanA t p).2 - p := by
  refine scan_ind (t := t) (M := fun p => p ≤ t.size → t.data.toList.drop p = catL (scanA t p).1 ++ t.data.toList.drop (scanA t p).2 ∧ (catL (scanA t p).1).length = (scanA t p).2 - p) ?_ ?_ p hp
  · intro p h hp
    rw [scan_no h]
    exact ⟨rfl, by show 0 = p - p; omega⟩
  · intro p h ih hp
    obtain ⟨_, h1, h2, _, h3⟩ := ent_end h
    obtain ⟨i1, i2⟩ := ih h2
    have hl := scan_le (t := t) (entEnd t p) h2
    rw [scan_yes h]
    dsimp only
    rw [catL_cons, h3, List.append_assoc, ← i1, List.length_append, i2]
    constructor
    · rw [ByteArray.data_extract, Array.toList_extract, List.extract_eq_take_drop]
      have e : t.data.toList.drop (entEnd t p) = (t.data.toList.drop p).drop (entEnd t p - p) := by rw [List.drop_drop]; congr 1; omega
      rw [e, List.take_append_drop]
    · rw [bytes_len, ByteArray.size_extract]
      omega
theorem scan_text {t : ByteArray} : catB (scanS t).1 = t.extract 0 (scanS t).2 := by
  have h := scan_cat (t := t) 0 (Nat.zero_le _)
  have hl := scan_le (t := t) 0 (Nat.zero_le _)
  apply ByteArray.ext
  apply Array.toList_inj.mp
  rw [ByteArray.data_extract, Array.toList_extract, List.extract_eq_take_drop]
  show catL (scanA t 0).1 = (t.data.toList.drop 0).take ((scanA t 0).2 - 0)
  rw [h.1, List.take_append_of_le_length (by omega), List.take_of_length_le (by omega)]
/-- Entries that are held are scanned. -/
theorem ent_held {t x : ByteArray} {p : Nat} (hx : x.size ≤ 65531) (h : HoldsD t p (entB x).data.toList) : entOk t p = true ∧ entAt t p = x ∧ entEnd t p = p + (entB x).data.toList.length := by
  rw [ent_pt hx] at h ⊢
  have hz := seal_size4 x
  have hb := textD_back h (by omega)
  unfold entOk entAt entEnd
  rw [hb]
  dsimp only
  rw [open_sealed]
  exact ⟨rfl, rfl, by omega⟩
theorem scan_of {t : ByteArray} : ∀ {xs : List ByteArray} {p : Nat}, (∀ x ∈ xs, x.size ≤ 65531) → HoldsD t p (catL xs) → scanA t p = (xs ++ (scanA t (p + (catL xs).length)).1, (scanA t (p + (catL xs).length)).2) := by
  intro xs
  induction xs with
  | nil => intro p _ _; rfl
  | cons x xs ih =>
    intro p hx h
    rw [catL_cons] at h ⊢
    obtain ⟨h1, h2, h3⟩ := ent_held (hx x (by simp)) h.left
    have hr := ih (fun y hy => hx y (by simp [hy])) h.right
    rw [scan_yes h1, h2, h3, hr, List.length_append, Nat.add_assoc]
    rfl
theorem scan_past {t : ByteArray} {p : Nat} (h : t.size ≤ p) : scanA t p = ([], p) := by
  refine scan_no ?_
  rw [Bool.eq_false_iff]
  intro hq
  have := ent_end hq
  omega
theorem scan_whole {xs : List ByteArray} (hx : ∀ x ∈ xs, x.size ≤ 65531) : scanS (catB xs) = (xs, (catB xs).size) := by
  have h := scan_of (t := catB xs) (p := 0) hx ⟨[], [], by simp [catB], rfl⟩
  rw [scan_past (p := 0 + (catL xs).length) (by rw [catB_size]; omega)] at h
  unfold scanS
  rw [h, catB_size, List.append_nil, Nat.zero_add]
theorem scan_one {x : ByteArray} (hx : x.size ≤ 65531) : scanS (entB x) = ([x], x.size + 6) := by
  have h := scan_whole (xs := [x]) (by intro y hy; rw [List.mem_singleton.1 hy]; exact hx)
  rw [catB_one, ent_size, if_neg (by omega)] at h
  exact h
theorem scan_nil : scanS ⟨#[]⟩ = ([], 0) := scan_past (Nat.zero_le _)
/-- What has been scanned scans again. -/
theorem scan_again (t : ByteArray) : scanS (t.extract 0 (scanS t).2) = scanS t := by
  rw [← scan_text, scan_whole (xs := (scanS t).1) (scan_small 0), scan_text, ByteArray.size_extract]
  have := scan_le (t := t) 0 (Nat.zero_le _)
  refine Prod.ext rfl ?_
  show min (scanA t 0).2 t.size - 0 = (scanA t 0).2
  omega
/-- An entry that is cut is none. -/
theorem ent_short {t x : ByteArray} {p k : Nat} (hx : x.size ≤ 65531) (h : t.data.toList.drop p = (entB x).data.toList.take k) (hk : k < (entB x).data.toList.length) : entOk t p = false := by
  rw [Bool.eq_false_iff]
  intro hq
  obtain ⟨h1, h2, h3, h4, h5⟩ := ent_end hq
  have hz := seal_size4 x
  rw [ent_pt hx] at h hk
  have hl := congrArg List.length h
  rw [List.length_drop, List.length_take, bytes_len] at hl
  obtain ⟨P, L, hP, hL, g1, g2, g3⟩ := getText_parts (t := t) (p := (p : Int)) (by omega)
  have hPp : P = p := by omega
  subst hPp
  have hlen : (ptD (sealB x)).length = 2 + (sealB x).size := by unfold ptD; rw [List.length_append, be8_len]; simp
  have hh : HoldsD t P (be8 (sealB x).size 2) := by
    refine ⟨t.data.toList.take P, (t.data.toList.drop P).drop 2, ?_, ?_⟩
    · have e : (t.data.toList.drop P).take 2 = be8 (sealB x).size 2 := by
        rw [h, List.take_take, show min 2 k = 2 by omega]
        unfold ptD
        rw [List.take_append_of_le_length (by rw [be8_len]; omega), List.take_of_length_le (by rw [be8_len]; omega)]
      rw [← e, List.take_append_drop, List.take_append_drop]
    · rw [List.length_take, bytes_len]; omega
  have hn := numD_back (k := 2) hh (by omega) (by omega)
  have : ((sealB x).size : Int) = L := by rw [← hn]; exact hL
  omega
/-- Whatever is left of entries behind a place, the first ones come back, and no others. -/
theorem scan_torn {t : ByteArray} : ∀ {xs : List ByteArray} {p k : Nat}, (∀ x ∈ xs, x.size ≤ 65531) → p ≤ t.size → t.data.toList.drop p = (catL xs).take k →
    ∃ j, j ≤ xs.length ∧ scanA t p = (xs.take j, p + (catL (xs.take j)).length) ∧ ∀ i, i ≤ xs.length → (catL (xs.take i)).length ≤ k → i ≤ j := by
  intro xs
  induction xs with
  | nil =>
    intro p k _ hp h
    have hl := congrArg List.length h
    rw [List.length_drop, bytes_len] at hl
    refine ⟨0, Nat.le_refl _, ?_, fun i hi _ => hi⟩
    rw [scan_past (by simp [catL] at hl; omega)]
    rfl
  | cons x xs ih =>
    intro p k hx hp h
    have hx0 := hx x (by simp)
    rw [catL_cons] at h
    by_cases hk : k < (entB x).data.toList.length
    · rw [List.take_append_of_le_length (by omega)] at h
      refine ⟨0, Nat.zero_le _, ?_, fun i hi hc => ?_⟩
      · rw [scan_no (ent_short hx0 h hk)]; rfl
      · cases i with
        | zero => exact Nat.le_refl _
        | succ i =>
          rw [List.take_succ_cons, catL_cons, List.length_append] at hc
          omega
    · have hh : HoldsD t p (entB x).data.toList := by
        refine ⟨t.data.toList.take p, (catL xs).take (k - (entB x).data.toList.length), ?_, by rw [List.length_take, bytes_len]; omega⟩
        rw [show (entB x).data.toList ++ (catL xs).take (k - (entB x).data.toList.length) = t.data.toList.drop p by rw [h, List.take_append, List.take_of_length_le (Nat.le_of_not_lt hk)], List.take_append_drop]
      obtain ⟨h1, h2, h3⟩ := ent_held hx0 hh
      have hd : t.data.toList.drop (entEnd t p) = (catL xs).take (k - (entB x).data.toList.length) := by
        rw [h3, ← List.drop_drop, h, List.take_append, List.take_of_length_le (Nat.le_of_not_lt hk), List.drop_left]
      obtain ⟨j, j1, j2, j3⟩ := ih (fun y hy => hx y (by simp [hy])) (ent_end h1).2.2.1 hd
      refine ⟨j + 1, by rw [List.length_cons]; omega, ?_, fun i hi hc => ?_⟩
      · rw [h3] at j2
        rw [scan_yes h1, h2, h3, j2, List.take_succ_cons, catL_cons, List.length_append, Nat.add_assoc]
      · cases i with
        | zero => exact Nat.zero_le _
        | succ i =>
          rw [List.take_succ_cons, catL_cons, List.length_append] at hc
          have := j3 i (by rw [List.length_cons] at hi; omega) (by omega)
          omega
end Go.Proofs.Ytkkmjlpeahkiaaa
