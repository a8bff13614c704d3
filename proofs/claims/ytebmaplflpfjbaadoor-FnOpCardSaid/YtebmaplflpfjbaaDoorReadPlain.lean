/- Plain facts on numerals that are read: no program is named here. Condition: none. -/
import Derived.Test.YtebmaplflpfjbaaDoorBaseA
import Derived.Lib.AtoiTie
namespace Go.Proofs.YtebmaplflpfjbaaDoor
open Go.RowKit

theorem decFrom_append (l r : List UInt8) (acc : Nat) : Lib.decFrom acc (l ++ r) = (Lib.decFrom acc l).bind fun m => Lib.decFrom m r := by
  induction l generalizing acc with
  | nil => rfl
  | cons b l ih =>
    simp only [List.cons_append, Lib.decFrom]
    cases Lib.digitVal b with
    | none => rfl
    | some d => exact ih _
theorem digitVal_of (d : Nat) (h : d < 10) : Lib.digitVal (UInt8.ofNat (48 + d)) = some d := by
  match d, h with
  | 0, _ | 1, _ | 2, _ | 3, _ | 4, _ | 5, _ | 6, _ | 7, _ | 8, _ | 9, _ => rfl
theorem decFrom_dec (n : Nat) : Lib.decFrom 0 (Lib.decDigits n) = some n := by
  induction n using Nat.strongRecOn with
  | _ n ih =>
    rw [Lib.decDigits]
    by_cases h : n < 10
    · rw [dif_pos h]; simp only [Lib.decFrom, digitVal_of n h]; simp
    · rw [dif_neg h, decFrom_append, ih (n / 10) (by omega)]
      simp only [Option.bind_some, Lib.decFrom, digitVal_of (n % 10) (by omega)]
      congr 1; omega
theorem dec_ne (n : Nat) : Lib.decDigits n ≠ [] := by
  intro h; have := congrArg List.length h
  rw [Lib.decDigits_length] at this
  have := Lib.nDigits_pos n
  simp at *; omega
theorem nDigits_le (k u : Nat) (hk : 1 ≤ k) (h : u < 10 ^ k) : Lib.nDigits u ≤ k := by
  induction k generalizing u with
  | zero => omega
  | succ k ih =>
    by_cases h' : u < 10
    · rw [Lib.nDigits_small h']; omega
    · rw [Lib.nDigits_big h']
      have hp : 10 ^ (k + 1) = 10 ^ k * 10 := Nat.pow_succ ..
      have : 1 ≤ k := by
        cases k with
        | zero => simp at h; omega
        | succ k => omega
      have := ih (u / 10) this (by omega)
      omega

/-- The number whose numeral a text is, up to nine digits; -1 where it is none. -/
def rd (l : List UInt8) : Int := match Lib.decNat l with
  | some m => if m ≤ 999999999 ∧ Lib.decDigits m = l then m else -1
  | none => -1
theorem decNat_dec (m : Nat) : Lib.decNat (Lib.decDigits m) = some m := by
  unfold Lib.decNat
  rw [if_neg (by simpa using dec_ne m)]; exact decFrom_dec m
theorem rd_of (m : Nat) (h : m ≤ 999999999) : rd (Lib.decDigits m) = m := by
  unfold rd; rw [decNat_dec]; simp [h]
theorem rd_no (l : List UInt8) (h : ∀ m, m ≤ 999999999 → l ≠ Lib.decDigits m) : rd l = -1 := by
  unfold rd
  cases hd : Lib.decNat l with
  | none => rfl
  | some m =>
    simp only
    by_cases hc : m ≤ 999999999 ∧ Lib.decDigits m = l
    · exact absurd hc.2.symm (h m hc.1)
    · rw [if_neg hc]
theorem rd_long (l : List UInt8) (h : 9 < l.length) : rd l = -1 := rd_no l fun m hm e => by
  subst e; rw [Lib.decDigits_length] at h
  have := nDigits_le 9 m (by omega) (by omega)
  omega
theorem rd_bad (l : List UInt8) (k : Nat) (hk : k < l.length) (h : Lib.digitVal l[k] = none) : rd l = -1 := rd_no l fun m hm e => by
  obtain ⟨d, hd⟩ := Lib.digit_of_decFrom l 0 m (by rw [e]; exact decFrom_dec m) k l[k] (by simp [hk])
  rw [h] at hd; cases hd
theorem rd_nil : rd [] = -1 := rd_no [] fun m _ e => dec_ne m e.symm
theorem rd_val (l : List UInt8) (n : Nat) (hl : l.length ≤ 9) (hn : Lib.decFrom 0 l = some n) : rd l = if Lib.decDigits n = l then (n : Int) else -1 := by
  by_cases e : Lib.decDigits n = l
  · rw [if_pos e]
    have hlt := Lib.decFrom_lt l 0 n hn
    have : 10 ^ l.length ≤ 10 ^ 9 := Nat.pow_le_pow_right (by omega) hl
    rw [← e]; exact rd_of n (by omega)
  · rw [if_neg e]
    exact rd_no l fun m _ h => by
      subst h; rw [decFrom_dec] at hn; injection hn with hn; exact e (by rw [hn])

theorem decFrom_bound (l : List UInt8) (k n : Nat) (hl : l.length ≤ 9) (h : Lib.decFrom 0 (l.take k) = some n) : n < 1000000000 := by
  have hlt := Lib.decFrom_lt _ 0 n h
  have : 10 ^ (l.take k).length ≤ 10 ^ 9 := Nat.pow_le_pow_right (by omega) (by simp; omega)
  omega

/-! ## The reader's steps, on a text's bytes -/
theorem read_step (s : ByteArray) (k n : Nat) (hk : k < s.size) (hl : s.size ≤ 9) (hv : Lib.decFrom 0 (s.data.toList.take k) = some n) (hd : inB s[k].toNat 48 57 = true) :
    ∃ m : Nat, m < 1000000000 ∧ 10 * (n : Int) + s[k].toNat - 48 = (m : Int) ∧ Lib.decFrom 0 (s.data.toList.take (k + 1)) = some m := by
  have hb := inB_true hd
  have hd' : Lib.digitVal s[k] = some (s[k].toNat - 48) := by
    unfold Lib.digitVal; rw [if_pos (by omega)]
  have h := Lib.decFrom_take s.data.toList k 0 n s[k] _ hv (by rw [List.getElem?_eq_getElem (by simpa using hk)]; rfl) hd'
  exact ⟨_, decFrom_bound _ _ _ (by simpa using hl) h, by omega, h⟩
theorem read_bad (s : ByteArray) (k : Nat) (hk : k < s.size) (hd : inB s[k].toNat 48 57 = false) : rd s.data.toList = -1 := by
  have hb := inB_false hd
  refine rd_bad _ k (by simpa using hk) ?_
  show Lib.digitVal s[k] = none
  unfold Lib.digitVal; rw [if_neg (by omega)]
theorem read_end (s : ByteArray) (k n : Nat) (hk : k = s.size) (hl : k = 0 ∨ s.size ≤ 9) (hv : Lib.decFrom 0 (s.data.toList.take k) = some n) :
    (s.toList = [] → rd s.data.toList = -1) ∧ (¬ s.toList = [] → (Lib.itoa n == s.toList) = true → rd s.data.toList = n) ∧ (¬ s.toList = [] → (Lib.itoa n == s.toList) = false → rd s.data.toList = -1) := by
  rw [ByteArray.toList_eq, itoa_pos]
  rw [List.take_of_length_le (by simp; omega)] at hv
  have hr := rd_val s.data.toList n (by simp; omega) hv
  refine ⟨fun h => by rw [h]; exact rd_nil, fun _ h => ?_, fun _ h => ?_⟩
  · rw [hr, if_pos (by simpa using h)]
  · rw [hr, if_neg (by simpa using h)]

/-! ## Atoi's answer -/
theorem atoi_dec (m : Nat) (h : m ≤ 999999999) : Lib.atoiAll (Lib.decDigits m) = .ok (m : Int) := by
  have hl : (Lib.decDigits m).length ≤ 9 := by rw [Lib.decDigits_length]; exact nDigits_le 9 m (by omega) (by omega)
  rw [Lib.atoiAll_short _ (by omega)]
  have hd := decFrom_dec m
  have hnat := decNat_dec m
  cases e : Lib.decDigits m with
  | nil => exact absurd e (dec_ne m)
  | cons b r =>
    obtain ⟨d, hdv⟩ := Lib.digit_of_decFrom _ 0 m hd 0 b (by rw [e]; rfl)
    have := Lib.digitVal_eq hdv
    have h45 : (b == 45) = false := by simp only [beq_eq_false_iff_ne, ne_eq]; rintro rfl; simp at this
    have h43 : (b == 43) = false := by simp only [beq_eq_false_iff_ne, ne_eq]; rintro rfl; simp at this
    simp only [Lib.atoi, h45, h43]
    rw [← e, hnat]; rfl
theorem rd_fail (l : List UInt8) (h : ∀ v, Lib.atoiAll l ≠ .ok v) : rd l = -1 := rd_no l fun m hm e => h m (by rw [e]; exact atoi_dec m hm)
theorem rd_ok_out (l : List UInt8) (v : Int) (h : Lib.atoiAll l = .ok v) (hv : v < 0 ∨ 999999999 < v) : rd l = -1 := rd_no l fun m hm e => by
  rw [e, atoi_dec m hm] at h; injection h with h; omega
theorem rd_ok_in (l : List UInt8) (v : Int) (h : Lib.atoiAll l = .ok v) (h0 : 0 ≤ v) (h1 : v ≤ 999999999) : rd l = if Lib.itoa v = l then v else -1 := by
  obtain ⟨n, rfl⟩ := Int.eq_ofNat_of_zero_le h0
  rw [itoa_pos n]
  by_cases e : Lib.decDigits n = l
  · rw [if_pos e, ← e]; exact rd_of n (by omega)
  · rw [if_neg e]
    exact rd_no l fun m hm h' => by
      rw [h', atoi_dec m hm] at h; injection h with h
      have : m = n := by omega
      exact e (by rw [← this, h'])
theorem rd_itoa_in (n : Int) (h0 : 0 ≤ n) (h1 : n ≤ 999999999) : rd (Lib.itoa n) = n := by
  obtain ⟨m, rfl⟩ := Int.eq_ofNat_of_zero_le h0
  rw [itoa_pos]; exact rd_of m (by omega)
theorem dec_inj {a b : Nat} (h : Lib.decDigits a = Lib.decDigits b) : a = b := by
  have h1 := decFrom_dec a
  rw [h, decFrom_dec b] at h1; injection h1 with h1; exact h1.symm
theorem rd_itoa_out (n : Int) (h : n < 0 ∨ 999999999 < n) : rd (Lib.itoa n) = -1 := rd_no _ fun m hm e => by
  rcases h with h | h
  · obtain ⟨k, rfl⟩ : ∃ k : Nat, n = -(k : Int) := ⟨n.natAbs, by omega⟩
    rw [itoa_neg k (by omega)] at e
    obtain ⟨d, hd⟩ := Lib.digit_of_decFrom _ 0 m (decFrom_dec m) 0 45 (by rw [← e]; rfl)
    have := Lib.digitVal_eq hd
    simp at this
  · obtain ⟨k, rfl⟩ := Int.eq_ofNat_of_zero_le (show 0 ≤ n by omega)
    rw [itoa_pos] at e
    have := dec_inj e
    omega
end Go.Proofs.YtebmaplflpfjbaaDoor
