/- The draws' generator visits every state: a plain fact on numbers (a linear congruence modulo 2^64 with multiplier 1 mod 4 and odd increment). Condition: none. -/
import Derived.Test.YtkkmjlpeahkiaaaCurPlain
namespace Go.Proofs.Ytkkmjlpeahkiaaa
open Go.RowKit

def gA : Nat → Nat
  | 0 => 6364136223846793005
  | k + 1 => gA k * gA k
def gC : Nat → Nat
  | 0 => 1442695040888963407
  | k + 1 => gA k * gC k + gC k
def gN : Nat → Nat → Nat
  | 0, x => x
  | n + 1, x => gN n (6364136223846793005 * x + 1442695040888963407)
theorem gN_add (m n x : Nat) : gN (m + n) x = gN n (gN m x) := by
  induction m generalizing x with
  | zero => simp [gN]
  | succ m ih => rw [show m + 1 + n = (m + n) + 1 by omega]; simp only [gN]; exact ih _
theorem gN_pow (k x : Nat) : gN (2 ^ k) x = gA k * x + gC k := by
  induction k generalizing x with
  | zero => simp [gN, gA, gC]
  | succ k ih =>
    rw [Nat.pow_succ, Nat.mul_two, gN_add, ih, ih]
    simp only [gA, gC, Nat.mul_add, Nat.mul_assoc]
    omega
theorem gA_form (k : Nat) : ∃ q, gA k = 1 + 2 ^ (k + 2) * q := by
  induction k with
  | zero => exact ⟨1591034055961698251, by decide⟩
  | succ k ih =>
    obtain ⟨q, hq⟩ := ih
    refine ⟨q + 2 ^ (k + 1) * q * q, ?_⟩
    have h2 : 2 ^ (k + 2) = 2 ^ k * 4 := by rw [Nat.pow_add]
    have h3 : 2 ^ (k + 1 + 2) = 2 ^ k * 8 := by rw [show k + 1 + 2 = k + 3 by omega, Nat.pow_add]
    have h1 : 2 ^ (k + 1) = 2 ^ k * 2 := Nat.pow_succ ..
    simp only [gA, hq]
    rw [h2, h3, h1]
    generalize 2 ^ k = p
    have e1 : p * 4 * q * (p * 4 * q) = p * 8 * (p * 2 * q * q) := by
      rw [show p * 8 * (p * 2 * q * q) = 16 * (p * p * q * q) by simp only [Nat.mul_assoc, Nat.mul_left_comm, Nat.mul_comm]]
      rw [show p * 4 * q * (p * 4 * q) = 16 * (p * p * q * q) by simp only [Nat.mul_assoc, Nat.mul_left_comm, Nat.mul_comm]]
    have e2 : p * 8 * q = p * 4 * q + p * 4 * q := by
      rw [← Nat.add_mul, ← Nat.mul_add]
    rw [Nat.add_mul, Nat.one_mul, Nat.mul_add, Nat.mul_one, Nat.mul_add, e1, e2]; omega
theorem gC_form (k : Nat) : ∃ r, gC k = 2 ^ k * (2 * r + 1) := by
  induction k with
  | zero => exact ⟨721347520444481703, by decide⟩
  | succ k ih =>
    obtain ⟨r, hr⟩ := ih
    obtain ⟨q, hq⟩ := gA_form k
    have e : gC (k + 1) = (gA k + 1) * gC k := by simp only [gC]; rw [Nat.add_mul, Nat.one_mul]
    have e1 : gA k + 1 = 2 * (1 + 2 ^ (k + 1) * q) := by
      rw [hq, show k + 2 = (k + 1) + 1 by omega, Nat.pow_succ, Nat.mul_assoc, Nat.mul_left_comm, Nat.mul_add]; omega
    refine ⟨r + 2 ^ k * q * (2 * r + 1), ?_⟩
    rw [e, e1, hr, Nat.pow_succ]
    generalize 2 ^ k = p
    have e3 : 2 * (1 + p * 2 * q) * (p * (2 * r + 1)) = p * 2 * ((1 + p * 2 * q) * (2 * r + 1)) := by
      simp only [Nat.mul_assoc, Nat.mul_left_comm, Nat.mul_comm]
    rw [e3]
    congr 1
    rw [Nat.add_mul, Nat.one_mul, Nat.mul_add 2 r]
    have e4 : p * 2 * q * (2 * r + 1) = 2 * (p * q * (2 * r + 1)) := by
      simp only [Nat.mul_assoc, Nat.mul_left_comm, Nat.mul_comm]
    rw [e4]; omega
theorem gN_turn (k z : Nat) : gN (2 ^ k) z % 2 ^ (k + 1) = (z + 2 ^ k) % 2 ^ (k + 1) := by
  obtain ⟨q, hq⟩ := gA_form k
  obtain ⟨r, hr⟩ := gC_form k
  rw [gN_pow, hq, hr]
  have e : (1 + 2 ^ (k + 2) * q) * z + 2 ^ k * (2 * r + 1) = (z + 2 ^ k) + 2 ^ (k + 1) * (2 * q * z + r) := by
    rw [show k + 2 = (k + 1) + 1 by omega, Nat.pow_succ, Nat.pow_succ]
    generalize 2 ^ k = p
    simp only [Nat.mul_add, Nat.add_mul, Nat.one_mul, Nat.mul_one]
    have e1 : p * 2 * 2 * q * z = p * 2 * (2 * q * z) := by simp only [Nat.mul_assoc]
    have e2 : p * (2 * r) = p * 2 * r := by simp only [Nat.mul_assoc]
    rw [e1, e2]; omega
  rw [e, Nat.add_mul_mod_self_left]
/-- Every residue is reached. -/
theorem gN_reach (k x y : Nat) : ∃ n, n < 2 ^ k ∧ gN n x % 2 ^ k = y % 2 ^ k := by
  induction k with
  | zero => exact ⟨0, by simp, by simp [Nat.mod_one]⟩
  | succ k ih =>
    obtain ⟨n, hn, he⟩ := ih
    have hp : 2 ^ (k + 1) = 2 ^ k * 2 := Nat.pow_succ ..
    have hpos : 0 < 2 ^ k := Nat.two_pow_pos k
    by_cases h : gN n x % 2 ^ (k + 1) = y % 2 ^ (k + 1)
    · exact ⟨n, by omega, h⟩
    · refine ⟨n + 2 ^ k, by omega, ?_⟩
      rw [gN_add, gN_turn]
      generalize gN n x = z at *
      rw [hp] at *
      generalize 2 ^ k = p at *
      have hz := Nat.div_add_mod z (p * 2)
      have hy := Nat.div_add_mod y (p * 2)
      have z1 : z % (p * 2) < p * 2 := Nat.mod_lt _ (by omega)
      have y1 : y % (p * 2) < p * 2 := Nat.mod_lt _ (by omega)
      have z2 : z % (p * 2) % p = z % p := Nat.mod_mod_of_dvd _ ⟨2, rfl⟩
      have y2 : y % (p * 2) % p = y % p := Nat.mod_mod_of_dvd _ ⟨2, rfl⟩
      have hzz : (z + p) % (p * 2) = (z % (p * 2) + p) % (p * 2) := by rw [Nat.add_mod, Nat.mod_eq_of_lt (show p < p * 2 by omega)]
      rw [hzz]
      generalize z % (p * 2) = a at *
      generalize y % (p * 2) = b at *
      have hab : a % p = b % p := by omega
      rcases Nat.lt_or_ge a p with ha | ha
      · rcases Nat.lt_or_ge b p with hb | hb
        · rw [Nat.mod_eq_of_lt ha, Nat.mod_eq_of_lt hb] at hab; omega
        · rw [Nat.mod_eq_of_lt ha, Nat.mod_eq_sub_mod hb, Nat.mod_eq_of_lt (by omega)] at hab
          rw [Nat.mod_eq_of_lt (by omega)]; omega
      · rcases Nat.lt_or_ge b p with hb | hb
        · rw [Nat.mod_eq_sub_mod ha, Nat.mod_eq_of_lt (show a - p < p by omega), Nat.mod_eq_of_lt hb] at hab
          rw [Nat.mod_eq_sub_mod (by omega), Nat.mod_eq_of_lt (by omega)]; omega
        · rw [Nat.mod_eq_sub_mod ha, Nat.mod_eq_of_lt (show a - p < p by omega), Nat.mod_eq_sub_mod hb, Nat.mod_eq_of_lt (show b - p < p by omega)] at hab
          omega

/-! ## The generator itself -/
def R (h : Int) : Nat := (h % 18446744073709551616).toNat
def lcgN : Nat → Int → Int
  | 0, h => h
  | n + 1, h => lcgN n (lcg h)
theorem wrap_mod (n : Int) : wrap64 n % 18446744073709551616 = n % 18446744073709551616 := by unfold wrap64; omega
theorem lcg_mod (h : Int) : lcg h % 18446744073709551616 = (h % 18446744073709551616 * 6364136223846793005 + 1442695040888963407) % 18446744073709551616 := by
  have c1 : (6364136223846793005 : Int) % 18446744073709551616 % 18446744073709551616 = 6364136223846793005 := by decide
  unfold lcg
  rw [wrap_mod, Int.add_emod, wrap_mod, Int.mul_emod, Int.add_emod (h % 18446744073709551616 * 6364136223846793005), Int.mul_emod (h % 18446744073709551616), Int.emod_emod_of_dvd h (Int.dvd_refl _), c1]
theorem R_lcg (h : Int) : R (lcg h) = (6364136223846793005 * R h + 1442695040888963407) % 18446744073709551616 := by
  have h0 : 0 ≤ h % 18446744073709551616 := Int.emod_nonneg _ (by decide)
  unfold R
  rw [lcg_mod]
  obtain ⟨r, hr⟩ := Int.eq_ofNat_of_zero_le h0
  rw [hr, Int.toNat_natCast]
  have e : ((r : Int) * 6364136223846793005 + 1442695040888963407) % 18446744073709551616 = (((6364136223846793005 * r + 1442695040888963407) % 18446744073709551616 : Nat) : Int) := by
    rw [Int.natCast_emod, Int.natCast_add, Int.natCast_mul, Int.mul_comm]; rfl
  rw [e, Int.toNat_natCast]
theorem gN_mod (n x M : Nat) : gN n (x % M) % M = gN n x % M := by
  induction n generalizing x with
  | zero => simp [gN]
  | succ n ih =>
    simp only [gN]
    rw [← ih (6364136223846793005 * (x % M) + 1442695040888963407), ← ih (6364136223846793005 * x + 1442695040888963407)]
    congr 2
    rw [Nat.add_mod, Nat.mul_mod, Nat.mod_mod, ← Nat.mul_mod, ← Nat.add_mod]
theorem R_lcgN (n : Nat) (h : Int) : R (lcgN n h) = gN n (R h) % 18446744073709551616 := by
  induction n generalizing h with
  | zero => simp only [lcgN, gN]; unfold R; omega
  | succ n ih => simp only [lcgN, gN]; rw [ih, R_lcg, gN_mod]
theorem lcgN_in (n : Nat) (h : Int) (hh : InR h) : InR (lcgN n h) := by
  induction n generalizing h with
  | zero => exact hh
  | succ n ih => exact ih _ (lcg_in h)
theorem lcgN_add (m n : Nat) (h : Int) : lcgN (m + n) h = lcgN n (lcgN m h) := by
  induction m generalizing h with
  | zero => simp [lcgN]
  | succ m ih => rw [show m + 1 + n = (m + n) + 1 by omega]; simp only [lcgN]; exact ih _
theorem R_inj {h y : Int} (hh : InR h) (hy : InR y) (e : R h = R y) : h = y := by
  unfold InR R at *; omega
theorem reach (h : Int) (hh : InR h) : ∃ n, n < 18446744073709551616 ∧ lcgN n h = 33 := by
  obtain ⟨n, hn, he⟩ := gN_reach 64 (R h) 33
  have hp : (2 : Nat) ^ 64 = 18446744073709551616 := by decide
  rw [hp] at hn he
  refine ⟨n, hn, R_inj (lcgN_in n h hh) (by unfold InR; omega) ?_⟩
  rw [R_lcgN, he]; unfold R; omega
theorem least {P : Nat → Prop} (h : ∃ n, P n) : ∃ m, P m ∧ ∀ k, k < m → ¬ P k := by
  obtain ⟨n, hn⟩ := h
  induction n using Nat.strongRecOn with
  | _ n ih =>
    by_cases hk : ∃ k, k < n ∧ P k
    · obtain ⟨k, h1, h2⟩ := hk; exact ih k h1 h2
    · exact ⟨n, hn, fun k hk' hp => hk ⟨k, hk', hp⟩⟩
open Classical in
/-- How many steps to the state 33. -/
noncomputable def toGo (h : Int) : Nat := if ex : ∃ n, lcgN n h = 33 then Classical.choose (least ex) else 0
theorem toGo_at (h : Int) (hh : InR h) : lcgN (toGo h) h = 33 ∧ (∀ k, k < toGo h → ¬ lcgN k h = 33) ∧ toGo h < 18446744073709551616 := by
  obtain ⟨n, hn, he⟩ := reach h hh
  have ex : ∃ n, lcgN n h = 33 := ⟨n, he⟩
  have hs := Classical.choose_spec (least ex)
  unfold toGo
  rw [dif_pos ex]
  refine ⟨hs.1, hs.2, ?_⟩
  rcases Nat.lt_or_ge n (Classical.choose (least ex)) with h1 | h1
  · exact absurd he (hs.2 n h1)
  · omega
/-- A state behind which no round stands still. -/
def Good (h : Int) : Prop := ∃ j, j ≤ 5 ∧ h = lcgN j 33
open Classical in
noncomputable def left (h : Int) : Nat := if Good h then 0 else toGo h
theorem left_lt (h : Int) (hh : InR h) (hg : ¬ Good h) (p : Nat) (h1 : 1 ≤ p) (h6 : p ≤ 6) : left (lcgN p h) < left h := by
  obtain ⟨ha, hm, _⟩ := toGo_at h hh
  have e : left h = toGo h := by unfold left; rw [if_neg hg]
  have hpos : 1 ≤ toGo h := by
    rcases Nat.eq_zero_or_pos (toGo h) with h0 | h0
    · rw [h0] at ha; exact absurd ⟨0, by omega, ha⟩ hg
    · exact h0
  rw [e]
  rcases Nat.lt_or_ge p (toGo h) with hp | hp
  · have hin := lcgN_in p h hh
    obtain ⟨_, hm', _⟩ := toGo_at _ hin
    have : lcgN (toGo h - p) (lcgN p h) = 33 := by rw [← lcgN_add, show p + (toGo h - p) = toGo h by omega]; exact ha
    have : toGo (lcgN p h) ≤ toGo h - p := by
      rcases Nat.lt_or_ge (toGo h - p) (toGo (lcgN p h)) with h' | h'
      · exact absurd this (hm' _ h')
      · exact h'
    unfold left; split <;> omega
  · have : Good (lcgN p h) := ⟨p - toGo h, by omega, by rw [show p = toGo h + (p - toGo h) by omega, lcgN_add, ha]; congr 1; omega⟩
    unfold left; rw [if_pos this]; omega
theorem left_le (h : Int) (hh : InR h) : left h < 18446744073709551616 := by
  have := (toGo_at h hh).2.2
  unfold left; split <;> omega
theorem good_byte (h : Int) (hg : Good h) : rawByte (lcg h) % 5 ≠ 1 ∧ rawByte (lcg h) % 5 ≠ 2 := by
  obtain ⟨j, hj, rfl⟩ := hg
  match j, hj with
  | 0, _ => decide +kernel
  | 1, _ => decide +kernel
  | 2, _ => decide +kernel
  | 3, _ => decide +kernel
  | 4, _ => decide +kernel
  | 5, _ => decide +kernel
/-- Where the reader stands behind p bytes. -/
def nextIN (len : Nat) : Nat → Nat → Nat
  | 0, i => i
  | p + 1, i => nextIN len p (nextI len i)
theorem nextI_le (len i : Nat) (h : i ≤ len) : nextI len i ≤ len := by unfold nextI; split <;> omega
theorem nextIN_le (len p i : Nat) (h : i ≤ len) : i ≤ nextIN len p i ∧ nextIN len p i ≤ len := by
  induction p generalizing i with
  | zero => exact ⟨Nat.le_refl _, h⟩
  | succ p ih =>
    have h1 := ih (nextI len i) (nextI_le len i h)
    have h2 : i ≤ nextI len i := by unfold nextI; split <;> omega
    simp only [nextIN]; omega
theorem nextIN_add (len m n i : Nat) : nextIN len (m + n) i = nextIN len n (nextIN len m i) := by
  induction m generalizing i with
  | zero => simp [nextIN]
  | succ m ih => rw [show m + 1 + n = (m + n) + 1 by omega]; simp only [nextIN]; exact ih _
theorem nextIN_gt (len p i : Nat) (h : i < len) (hp : 1 ≤ p) : i < nextIN len p i := by
  obtain ⟨q, rfl⟩ : ∃ q, p = q + 1 := ⟨p - 1, by omega⟩
  have h1 := (nextIN_le len q (nextI len i) (nextI_le len i (by omega))).1
  have h2 : nextI len i = i + 1 := by unfold nextI; rw [if_pos h]
  simp only [nextIN]; omega
/-- The measure of what a cursor has still to give before a round must bring something. -/
noncomputable def curM (len i : Nat) (h : Int) : Nat := (len - i) * 36893488147419103232 + left h
theorem curM_lt (len i : Nat) (h : Int) (hh : InR h) (hi : i ≤ len) (hg : i < len ∨ ¬ Good h) (p : Nat) (h1 : 1 ≤ p) (h6 : p ≤ 6) : curM len (nextIN len p i) (lcgN p h) < curM len i h := by
  have hl := left_le _ (lcgN_in p h hh)
  obtain ⟨ha, hb⟩ := nextIN_le len p i hi
  unfold curM
  by_cases hlt : i < len
  · have := nextIN_gt len p i hlt h1
    have e : (len - nextIN len p i) + 1 ≤ len - i := by omega
    have := Nat.mul_le_mul_right 36893488147419103232 e
    rw [Nat.add_mul] at this
    omega
  · have hng : ¬ Good h := by rcases hg with h' | h'; exact absurd h' hlt; exact h'
    have := left_lt h hh hng p h1 h6
    have e : len - nextIN len p i = len - i := by omega
    rw [e]; omega
theorem curM_le (len i : Nat) (h : Int) (hh : InR h) : curM len i h < (len + 1) * 36893488147419103232 := by
  have hl := left_le h hh
  have : len - i ≤ len := by omega
  have := Nat.mul_le_mul_right 36893488147419103232 this
  unfold curM; rw [Nat.add_mul]; omega
end Go.Proofs.Ytkkmjlpeahkiaaa
