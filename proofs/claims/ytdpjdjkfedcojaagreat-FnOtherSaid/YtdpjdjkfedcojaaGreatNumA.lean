/- What the proofs of this seat have in common: plain facts, rows in memory, the laws' own helpers, the small functions' contracts. Condition: none. -/
import Derived.WalkKit
import Derived.Laws.BitsAllLaws
import Derived.Lib.Hide
import Derived.Test.YtdpjdjkfedcojaaGreatRows
import Derived.Test.YtdpjdjkfedcojaaGreatBaseA
import Derived.WalkSpells
import Derived.WalkLawsBesides
import Derived.LoopTactic
import Derived.Deep.QuietTactic
import Derived.BigQuiet
import Derived.Laws.IdiomStrings
import Derived.Deep.WholeRow
namespace Go.Proofs.YtdpjdjkfedcojaaGreat
open Go.RowKit

/-! ## FNV-1a -/
def hashOn (x : Nat) (b : UInt8) : Nat := (x ^^^ b.toNat) * 16777619 % 4294967296
def hashN (l : List UInt8) : Nat := l.foldl hashOn 2166136261
theorem hashOn_lt (x : Nat) (b : UInt8) : hashOn x b < 4294967296 := by unfold hashOn; omega
theorem foldl_lt {f : Nat → UInt8 → Nat} (hf : ∀ x b, x < 4294967296 → f x b < 4294967296) (l : List UInt8) : ∀ x, x < 4294967296 → l.foldl f x < 4294967296 := by
  induction l with
  | nil => intro x h; exact h
  | cons b l ih => intro x h; exact ih _ (hf x b h)
theorem hashN_lt (l : List UInt8) : hashN l < 4294967296 := foldl_lt (fun x b _ => hashOn_lt x b) l _ (by decide)
theorem fold_snoc {α : Type} (f : α → UInt8 → α) (x : α) (s : ByteArray) (k : Nat) (h : k < s.size) : (s.data.toList.take (k + 1)).foldl f x = f ((s.data.toList.take k).foldl f x) s[k] := by
  rw [List.take_succ_eq_append_getElem (by simpa using h), List.foldl_append]; rfl
theorem take_end (s : ByteArray) (k : Nat) (h : s.size ≤ k) : s.data.toList.take k = s.data.toList := List.take_of_length_le (by simpa using h)
theorem xor_lt32 {a b : Nat} (ha : a < 4294967296) (hb : b < 4294967296) : a ^^^ b < 4294967296 := Nat.xor_lt_two_pow (n := 32) ha hb
theorem xor_lt8 {a b : Nat} (ha : a < 256) (hb : b < 256) : a ^^^ b < 256 := Nat.xor_lt_two_pow (n := 8) ha hb
theorem hash_u32 (x : Nat) (b : UInt8) (hx : x < 4294967296) : bits .xor .u32 (x : Int) (b.toNat : Int) * 16777619 % 4294967296 = (hashOn x b : Int) := by
  have hb : b.toNat < 256 := b.toNat_lt
  rw [u32_xor_nat _ _ hx (by omega)]
  unfold hashOn
  omega

/-! ## CRC-32C -/
def bit1 (x : Nat) : Nat := if x % 2 = 1 then x / 2 ^^^ 2197175160 else x / 2
def bitsN : Nat → Nat → Nat
  | 0, x => x
  | k + 1, x => bit1 (bitsN k x)
def crcOn (x : Nat) (b : UInt8) : Nat := bitsN 8 (x ^^^ b.toNat)
def crcRow (l : List UInt8) : Nat := l.foldl crcOn 4294967295
def crcN (l : List UInt8) : Nat := 4294967295 ^^^ crcRow l
theorem bit1_lt (x : Nat) (h : x < 4294967296) : bit1 x < 4294967296 := by
  unfold bit1
  split
  · exact xor_lt32 (by omega) (by decide)
  · omega
theorem bitsN_lt (k x : Nat) (h : x < 4294967296) : bitsN k x < 4294967296 := by
  induction k with
  | zero => exact h
  | succ k ih => exact bit1_lt _ ih
theorem crcOn_lt (x : Nat) (b : UInt8) (h : x < 4294967296) : crcOn x b < 4294967296 := by
  have hb : b.toNat < 256 := b.toNat_lt
  exact bitsN_lt _ _ (xor_lt32 h (by omega))
theorem crcRow_lt (l : List UInt8) : crcRow l < 4294967296 := foldl_lt crcOn_lt l _ (by decide)
theorem crcN_lt (l : List UInt8) : crcN l < 4294967296 := xor_lt32 (by decide) (crcRow_lt l)
theorem bit1_xor (a b : Nat) : bit1 (a ^^^ b) = bit1 a ^^^ bit1 b := by
  have h2 : (a ^^^ b) % 2 = (a + b) % 2 := by
    have h0 := Nat.xor_mod_two_pow (a := a) (b := b) (n := 1)
    rw [Nat.pow_one] at h0
    rw [h0, Nat.add_mod]
    rcases Nat.mod_two_eq_zero_or_one a with ha | ha <;> rcases Nat.mod_two_eq_zero_or_one b with hb | hb <;> simp [ha, hb]
  have hd : (a ^^^ b) / 2 = a / 2 ^^^ b / 2 := Nat.xor_div_two
  unfold bit1
  rw [h2, hd]
  rcases Nat.mod_two_eq_zero_or_one a with ha | ha <;> rcases Nat.mod_two_eq_zero_or_one b with hb | hb
  · rw [if_neg (by omega), if_neg (by omega), if_neg (by omega)]
  · rw [if_pos (by omega), if_neg (by omega), if_pos (by omega), Nat.xor_assoc]
  · rw [if_pos (by omega), if_pos (by omega), if_neg (by omega), Nat.xor_assoc, Nat.xor_assoc, Nat.xor_comm (b / 2)]
  · rw [if_neg (by omega), if_pos (by omega), if_pos (by omega), Nat.xor_assoc, Nat.xor_comm _ (b / 2 ^^^ _), Nat.xor_assoc (b / 2), Nat.xor_self, Nat.xor_zero]
theorem bitsN_xor (k a b : Nat) : bitsN k (a ^^^ b) = bitsN k a ^^^ bitsN k b := by
  induction k with
  | zero => rfl
  | succ k ih => show bit1 _ = _; rw [ih, bit1_xor]; rfl
theorem bit1_two (x : Nat) : bit1 (2 * x) = x := by unfold bit1; rw [if_neg (by omega)]; omega
theorem bitsN_in (k x : Nat) : bitsN (k + 1) x = bitsN k (bit1 x) := by
  induction k with
  | zero => rfl
  | succ k ih => show bit1 _ = bit1 _; rw [ih]
theorem bitsN_pow (k x : Nat) : bitsN k (2 ^ k * x) = x := by
  induction k with
  | zero => simp [bitsN]
  | succ k ih => rw [bitsN_in, Nat.pow_succ, Nat.mul_comm (2 ^ k) 2, Nat.mul_assoc, bit1_two, ih]
theorem split_byte (x : Nat) : x = x % 256 ^^^ 2 ^ 8 * (x / 256) := by
  apply Nat.eq_of_testBit_eq
  intro i
  rw [Nat.testBit_xor, show x % 256 = x % 2 ^ 8 from rfl, Nat.testBit_mod_two_pow, Nat.testBit_two_pow_mul, show x / 256 = x / 2 ^ 8 from rfl, Nat.testBit_div_two_pow]
  by_cases h : i < 8
  · simp [h, show ¬ 8 ≤ i by omega]
  · simp [h, show 8 ≤ i by omega]
/-- By a table of 256 numbers: the low byte's eight bits, and the rest a byte lower. -/
theorem bits8_table (x : Nat) : bitsN 8 x = bitsN 8 (x % 256) ^^^ x / 256 := by
  conv => lhs; rw [split_byte x, bitsN_xor, bitsN_pow]
theorem crcOn_table (x : Nat) (b : UInt8) : crcOn x b = bitsN 8 (x % 256 ^^^ b.toNat) ^^^ x / 256 := by
  have hb : b.toNat < 256 := b.toNat_lt
  unfold crcOn
  rw [bits8_table]
  have h1 : (x ^^^ b.toNat) % 256 = x % 256 ^^^ b.toNat := by
    rw [show (256 : Nat) = 2 ^ 8 from rfl, Nat.xor_mod_two_pow, Nat.mod_eq_of_lt (a := b.toNat) hb]
  have h2 : (x ^^^ b.toNat) / 256 = x / 256 := by
    rw [show (256 : Nat) = 2 ^ 8 from rfl, Nat.xor_div_two_pow, Nat.div_eq_of_lt (a := b.toNat) hb, Nat.xor_zero]
  rw [h1, h2]
theorem crcN_sub (l : List UInt8) : (crcN l : Int) = 4294967295 - crcRow l := by
  have h := crcRow_lt l
  unfold crcN
  have : 4294967295 ^^^ crcRow l = 4294967295 - crcRow l := by
    apply Nat.eq_of_testBit_eq
    intro i
    rw [Nat.testBit_xor, show (4294967295 : Nat) = 2 ^ 32 - 1 from rfl, Nat.testBit_two_pow_sub_one]
    rw [show 2 ^ 32 - 1 - crcRow l = 2 ^ 32 - (crcRow l + 1) by omega, Nat.testBit_two_pow_sub_succ h]
    by_cases h : i < 32
    · simp [h]
    · simp [h]
      apply Nat.testBit_lt_two_pow
      have hp : 2 ^ 32 ≤ 2 ^ i := Nat.pow_le_pow_right (by decide) (by omega)
      have := crcRow_lt l
      omega
  omega
end Go.Proofs.YtdpjdjkfedcojaaGreat

namespace Go.Proofs.YtdpjdjkfedcojaaGreat
open Go.RowKit

/-- The last k bytes of n, the highest first. -/
def beB : Nat → Nat → List Int
  | _, 0 => []
  | n, k + 1 => beB (n / 256) k ++ [((n % 256 : Nat) : Int)]
theorem beB_len (n k : Nat) : (beB n k).length = k := by
  induction k generalizing n with
  | zero => rfl
  | succ k ih => simp [beB, ih]
/-- One byte more. -/
theorem beB_step (n k i : Nat) (x : Int) (h : x = ((n / 256 ^ i % 256 : Nat) : Int)) : beB (n / 256 ^ (i + 1)) k ++ [x] = beB (n / 256 ^ i) (k + 1) := by
  rw [beB, h, Nat.pow_succ, Nat.div_div_eq_div_mul]
/-- What PutNum writes. -/
def putN (n bytes : Int) : List Int := if n < 0 ∨ bytes < 1 ∨ 4 < bytes then [] else beB n.toNat bytes.toNat
/-- The number that stands at a place. -/
def beN (l : List UInt8) : Nat := l.foldl (fun x b => x * 256 + b.toNat) 0
def getN (s : ByteArray) (at_ bytes : Int) : Int := if bytes < 1 ∨ 4 < bytes ∨ at_ < 0 ∨ (s.size : Int) - bytes < at_ then -1 else beN ((s.data.toList.drop at_.toNat).take bytes.toNat)
theorem beN_snoc (l : List UInt8) (b : UInt8) : beN (l ++ [b]) = beN l * 256 + b.toNat := by unfold beN; rw [List.foldl_append]; rfl
theorem beN_lt_from (l : List UInt8) : ∀ x, l.foldl (fun x b => x * 256 + b.toNat) x < (x + 1) * 256 ^ l.length := by
  induction l with
  | nil => intro x; simp
  | cons b l ih =>
    intro x
    have hb : b.toNat < 256 := b.toNat_lt
    refine Nat.lt_of_lt_of_le (ih _) ?_
    rw [List.length_cons, Nat.pow_succ, Nat.mul_comm (256 ^ l.length), ← Nat.mul_assoc]
    refine Nat.mul_le_mul_right _ ?_
    show x * 256 + b.toNat + 1 ≤ (x + 1) * 256
    omega
theorem beN_lt (l : List UInt8) : beN l < 256 ^ l.length := by simpa [beN] using beN_lt_from l 0
theorem beN_lt4 (l : List UInt8) (h : l.length ≤ 4) : beN l < 4294967296 :=
  Nat.lt_of_lt_of_le (beN_lt l) (Nat.pow_le_pow_right (n := 256) (by decide) h)
theorem drop_snoc (s : ByteArray) (a k : Nat) (h : a + k < s.size) : (s.data.toList.drop a).take (k + 1) = (s.data.toList.drop a).take k ++ [s[a + k]] := by
  rw [List.take_succ_eq_append_getElem (by simp; omega)]
  simp; rfl
end Go.Proofs.YtdpjdjkfedcojaaGreat

namespace Go.Proofs.YtdpjdjkfedcojaaGreat
open Go.RowKit
set_option linter.unusedVariables false

theorem infoB : (Tryz.prog.info? 5).map (fun i => (i.zero, i.size, i.bytes)) = some (some (.int .u8 0), 1, 1) := by kernel_rfl

/-- A row of bytes that the call owns. -/
def Bytes8 (w : World) (B : Nat) (v : Value) (xs : List Int) : Prop := w.ownsRow B 5 1 v xs.length (xs.map (Value.int .u8)) ∧ ∀ x ∈ xs, 0 ≤ x ∧ x ≤ 255
theorem Bytes8.snoc {w : World} {B : Nat} {v v0 : Value} {w0 : World} {xs : List Int} {x : Int} (h0 : Bytes8 w0 B v0 xs) (h : w.ownsRow B 5 1 v (xs.length + 1) (xs.map (Value.int .u8) ++ [.int .u8 x])) (hx : 0 ≤ x ∧ x ≤ 255) : Bytes8 w B v (xs ++ [x]) := by
  refine ⟨by simpa using h, fun y hy => ?_⟩
  rcases List.mem_append.1 hy with h1 | h1
  · exact h0.2 y h1
  · rw [List.mem_singleton.1 h1]; exact hx
theorem Bytes8.own {w : World} {B : Nat} {v : Value} {xs : List Int} (h : Bytes8 w B v xs) : ∀ k, v.ownBlock = some k → B ≤ k := fun k hk => (World.ownsRow.lt h.1 k hk).1
theorem Bytes8.form {w : World} {B : Nat} {v : Value} {xs : List Int} (h : Bytes8 w B v xs) : (v = .slice none 0 0 ∧ xs = []) ∨
    ∃ g cap, v = .slice (some ⟨g, 0, none⟩) xs.length cap ∧ B ≤ g ∧ xs.length ≤ cap ∧ cap ≤ maxLen ∧ (∀ i (hi : i < xs.length), w.cell? ⟨g, i, none⟩ = some (.int .u8 xs[i])) := by
  have h' := h.1
  obtain ⟨hl, ⟨rfl, h0⟩ | ⟨g, cap, cur, rfl, hg, hh, hc, hm, hs, ht⟩⟩ := id h'
  · exact .inl ⟨rfl, List.eq_nil_of_length_eq_zero h0⟩
  · refine .inr ⟨g, cap, rfl, hg, hc, hm, fun i hi => ?_⟩
    rw [World.ownsRow.cellAt h' i (by omega)]
    simp [hi]
theorem Bytes8.kept {w w' : World} {B blk : Nat} {v : Value} {xs : List Int} (h : Bytes8 w B v xs) (hg : w.grownBy w' (some blk)) (hb : blk < B) : Bytes8 w' B v xs := by
  refine ⟨World.ownsRow.kept h.1 hg ?_, h.2⟩
  cases hv : v.ownBlock with
  | none => exact .inl rfl
  | some k => exact .inr (fun e => by have := h.own k hv; simp at e; omega)
theorem Bytes8.grown {w wr w1 : World} {B : Nat} {v : Value} {xs : List Int} {o : Obj} (h : Bytes8 wr B v xs) (hB : Below B w wr) (hB' : B ≤ wr.heap.size) (hg : (wr.alloc o).grownBy w1 v.ownBlock) : Below B w w1 :=
  (hB.alloc hB' o).grown hg (by simp; omega) h.own
def lenOf : Value → Nat
  | .slice _ l _ => l
  | _ => 0
theorem Bytes8.len {w : World} {B : Nat} {v : Value} {xs : List Int} (h : Bytes8 w B v xs) : lenOf v = xs.length := by
  rcases h.form with ⟨rfl, rfl⟩ | ⟨g, cap, rfl, _⟩ <;> rfl
theorem Bytes8.shape {w : World} {B : Nat} {v : Value} {xs : List Int} (h : Bytes8 w B v xs) : ∃ a c, v = .slice a xs.length c := by
  rcases h.form with ⟨rfl, rfl⟩ | ⟨g, cap, rfl, _⟩
  · exact ⟨_, _, rfl⟩
  · exact ⟨_, _, rfl⟩
/-- The first n bytes as a text. -/
theorem Bytes8.text {w : World} {B : Nat} {v : Value} {xs : List Int} (h : Bytes8 w B v xs) (n : Nat) (hn : n ≤ xs.length) (hpos : 0 < xs.length) : ∃ g cap, v = .slice (some ⟨g, 0, none⟩) xs.length cap ∧ xs.length ≤ cap ∧ cap ≤ maxLen ∧ ∃ s : ByteArray, s.size = n ∧ ∀ c2, (convert 22 9 (.slice (some ⟨g, 0, none⟩) n c2)).run Tryz.prog w = .ok (.string s) w := by
  rcases h.form with ⟨rfl, rfl⟩ | ⟨g, cap, rfl, hg, hlc, hm, hc⟩
  · simp at hpos
  · refine ⟨g, cap, rfl, hlc, hm, ⟨((xs.take n).map fun z => UInt8.ofNat z.toNat).toArray⟩, by show (List.toArray _).size = n; simp; omega, fun c2 => ?_⟩
    have hl : ((xs.take n).map fun z => UInt8.ofNat z.toNat).length = n := by simp; omega
    have := run_convert_bytes_back (P := Tryz.prog) w 22 9 5 ⟨g, 0, none⟩ c2 ((xs.take n).map fun z => UInt8.ofNat z.toNat) Tryz.underlying22 Tryz.underlying5 Tryz.underlying9 (fun j hj => by
      rw [hl] at hj
      rw [add_flat, Nat.zero_add, hc j (by omega)]
      have hz := h.2 xs[j] (List.getElem_mem _)
      simp only [List.getElem_map, List.getElem_take]
      congr 2
      generalize xs[j] = z at *
      obtain ⟨m, rfl⟩ := Int.eq_ofNat_of_zero_le hz.1
      simp; omega)
    rw [hl] at this
    exact this

/-- The whole row as a text. -/
def txt (xs : List Int) : ByteArray := ⟨(xs.map fun z => UInt8.ofNat z.toNat).toArray⟩
theorem txt_size (xs : List Int) : (txt xs).size = xs.length := by
  show (List.toArray _).size = _; simp
theorem Bytes8.str {w : World} {B : Nat} {v : Value} {xs : List Int} (h : Bytes8 w B v xs) (hpos : 0 < xs.length) : ∃ g cap, v = .slice (some ⟨g, 0, none⟩) xs.length cap ∧ xs.length ≤ cap ∧ cap ≤ maxLen ∧ (convert 22 9 v).run Tryz.prog w = .ok (.string (txt xs)) w := by
  rcases h.form with ⟨rfl, rfl⟩ | ⟨g, cap, rfl, hg, hlc, hm, hc⟩
  · simp at hpos
  · refine ⟨g, cap, rfl, hlc, hm, ?_⟩
    have hl : (xs.map fun z => UInt8.ofNat z.toNat).length = xs.length := by simp
    have := run_convert_bytes_back (P := Tryz.prog) w 22 9 5 ⟨g, 0, none⟩ cap (xs.map fun z => UInt8.ofNat z.toNat) Tryz.underlying22 Tryz.underlying5 Tryz.underlying9 (fun j hj => by
      rw [hl] at hj
      rw [add_flat, Nat.zero_add, hc j (by omega)]
      have hz := h.2 xs[j] (List.getElem_mem _)
      simp only [List.getElem_map]
      congr 2
      generalize xs[j] = z at *
      obtain ⟨m, rfl⟩ := Int.eq_ofNat_of_zero_le hz.1
      simp; omega)
    rw [hl] at this
    exact this
/-- A literal row of bytes as a text. -/
theorem conv_lit (w : World) (xs : List Int) (h : ∀ x ∈ xs, 0 ≤ x ∧ x ≤ 255) (n cap : Nat) (hn : n = xs.length) : (convert 22 9 (.slice (some ⟨w.heap.size, 0, none⟩) n cap)).run Tryz.prog (w.alloc (.cells (xs.map (Value.int .u8)).toArray 5)) = .ok (.string (txt xs)) (w.alloc (.cells (xs.map (Value.int .u8)).toArray 5)) := by
  subst hn
  have hl : (xs.map fun z => UInt8.ofNat z.toNat).length = xs.length := by simp
  have := run_convert_bytes_back (P := Tryz.prog) (w.alloc (.cells (xs.map (Value.int .u8)).toArray 5)) 22 9 5 ⟨w.heap.size, 0, none⟩ cap (xs.map fun z => UInt8.ofNat z.toNat) Tryz.underlying22 Tryz.underlying5 Tryz.underlying9 (fun j hj => by
    rw [hl] at hj
    have hz := h xs[j] (List.getElem_mem _)
    rw [add_flat, Nat.zero_add, World.cell?_alloc_new]
    simp only [List.getElem_map, List.getElem?_toArray, List.getElem?_map, List.getElem?_eq_getElem hj, Option.map_some]
    congr 2
    generalize xs[j] = z at *
    obtain ⟨m, rfl⟩ := Int.eq_ofNat_of_zero_le hz.1
    simp; omega)
  rw [hl] at this
  exact this
end Go.Proofs.YtdpjdjkfedcojaaGreat

namespace Go.Proofs.YtdpjdjkfedcojaaGreat
open Go.RowKit

def be8 (n k : Nat) : List UInt8 := (beB n k).map fun z => UInt8.ofNat z.toNat
theorem be8_len (n k : Nat) : (be8 n k).length = k := by unfold be8; rw [List.length_map, beB_len]
theorem be8_succ (n k : Nat) : be8 n (k + 1) = be8 (n / 256) k ++ [UInt8.ofNat (n % 256)] := by
  show List.map _ (beB (n / 256) k ++ [((n % 256 : Nat) : Int)]) = _
  rw [List.map_append]
  rfl
theorem beN_be8 (n k : Nat) : beN (be8 n k) = n % 256 ^ k := by
  induction k generalizing n with
  | zero => simp [be8, beB, beN, Nat.mod_one]
  | succ k ih =>
    rw [be8_succ, beN_snoc, ih]
    have h : (UInt8.ofNat (n % 256)).toNat = n % 256 := by simp
    rw [h, Nat.pow_succ, Nat.mul_comm (256 ^ k) 256, Nat.mod_mul]
    omega
theorem be8_beN_rev (l : List UInt8) : be8 (beN l.reverse) l.length = l.reverse := by
  induction l with
  | nil => rfl
  | cons b l ih =>
    rw [List.reverse_cons, beN_snoc, List.length_cons, be8_succ]
    have hb : b.toNat < 256 := b.toNat_lt
    have h1 : (beN l.reverse * 256 + b.toNat) / 256 = beN l.reverse := by omega
    have h2 : (beN l.reverse * 256 + b.toNat) % 256 = b.toNat := by omega
    rw [h1, h2, ih]
    simp
theorem be8_beN (l : List UInt8) : be8 (beN l) l.length = l := by
  have := be8_beN_rev l.reverse
  simpa using this
theorem txt_beB (n k : Nat) : txt (beB n k) = ⟨(be8 n k).toArray⟩ := rfl
/-- What GetNum answers is what PutNum writes there. -/
theorem put_get (t : ByteArray) (p b : Int) (h : 0 ≤ getN t p b) : txt (putN (getN t p b) b) = t.extract p.toNat (p.toNat + b.toNat) := by
  have hne : ¬ (b < 1 ∨ 4 < b ∨ p < 0 ∨ (t.size : Int) - b < p) := fun hc => by unfold getN at h; rw [if_pos hc] at h; omega
  have hv : getN t p b = beN ((t.data.toList.drop p.toNat).take b.toNat) := by unfold getN; rw [if_neg hne]
  have hl : ((t.data.toList.drop p.toNat).take b.toNat).length = b.toNat := by simp; omega
  unfold putN
  rw [if_neg (by omega), hv]
  have e : ((beN ((t.data.toList.drop p.toNat).take b.toNat) : Nat) : Int).toNat = beN ((t.data.toList.drop p.toNat).take b.toNat) := by simp
  rw [e, txt_beB]
  have hb := be8_beN ((t.data.toList.drop p.toNat).take b.toNat)
  rw [hl] at hb
  rw [hb]
  apply ByteArray.ext
  rw [ByteArray.data_extract]
  apply Array.ext'
  simp
/-- What PutNum writes reads back as the number's lowest bytes, behind one byte more. -/
theorem get_put (n b : Int) (hn : 0 ≤ n) (hb : 1 ≤ b ∧ b ≤ 4) (c : UInt8) : getN ((⟨#[c]⟩ : ByteArray) ++ txt (putN n b)) 1 b = ((n.toNat % 256 ^ b.toNat : Nat) : Int) := by
  have hp : putN n b = beB n.toNat b.toNat := by unfold putN; rw [if_neg (by omega)]
  have hz : ((⟨#[c]⟩ : ByteArray) ++ txt (putN n b)).size = 1 + b.toNat := by
    rw [ByteArray.size_append, txt_size, hp, beB_len]; rfl
  unfold getN
  rw [if_neg (by omega), hp, txt_beB]
  have e : (((⟨#[c]⟩ : ByteArray) ++ (⟨(be8 n.toNat b.toNat).toArray⟩ : ByteArray)).data.toList.drop (1 : Int).toNat).take b.toNat = be8 n.toNat b.toNat := by
    simp [ByteArray.data_append]
    exact List.take_of_length_le (by rw [be8_len]; omega)
  rw [e, beN_be8]
theorem putN_len (n b : Int) (hn : 0 ≤ n) (hb : 1 ≤ b ∧ b ≤ 4) : (txt (putN n b)).size = b.toNat := by
  unfold putN; rw [if_neg (by omega), txt_size, beB_len]
end Go.Proofs.YtdpjdjkfedcojaaGreat

namespace Go.Proofs.YtdpjdjkfedcojaaGreat
open Go.RowKit
set_option linter.unusedVariables false

theorem ret_txt {a b : ByteArray} (h : a = b) : Ending.returned (.string a) = .returned (.string b) := by rw [h]
theorem ret_empty {s : ByteArray} (h : txt [] = s) : Ending.returned (.string ⟨#[]⟩) = .returned (.string s) := by rw [← h]; rfl

set_option maxHeartbeats 1000000 in
theorem spec_putNum (n b : Int) (hn : -9223372036854775808 ≤ n ∧ n ≤ 9223372036854775807) (hb : -9223372036854775808 ≤ b ∧ b ≤ 9223372036854775807) (w : World) :
    Calls Tryz.prog 68 #[.int .i64 n, .int .i64 b] w fun e w' => e = .returned (.string (txt (putN n b))) ∧ Below w.heap.size w w' := by
  obtain ⟨i0, hi, hz0, hz1, hz2⟩ := info_parts infoB
  by_cases hn0 : n < 0
  · have hv : Hid (txt [] = txt (putN n b)) := Lib.hid (by unfold putN; rw [if_pos (by omega)])
    go_enter Tryz.func68, Tryz.ntmps68
    go_wp2_with fail
    go_ret
    exact ⟨ret_empty hv.out, Below.refl _ _⟩
  · by_cases hout : b < 1 ∨ 4 < b
    · have hin : inB b 1 4 = false := by simp [inB]; omega
      have hv : Hid (txt [] = txt (putN n b)) := Lib.hid (by unfold putN; rw [if_pos (by omega)])
      go_enter Tryz.func68, Tryz.ntmps68
      go_wp2_with (go_at_call 66; refine (in_any _ _ _ _).mono ?_; rintro e w' ⟨rfl, rfl⟩)
      go_ret
      exact ⟨ret_empty hv.out, Below.refl _ _⟩
    · have hin : inB b 1 4 = true := by simp [inB]; omega
      obtain ⟨N, rfl⟩ := Int.eq_ofNat_of_zero_le (show 0 ≤ n by omega)
      obtain ⟨B, rfl⟩ := Int.eq_ofNat_of_zero_le (show 0 ≤ b by omega)
      have hv : Hid (beB N B = putN N B) := Lib.hid (by unfold putN; rw [if_neg (by omega)]; rfl)
      go_enter Tryz.func68, Tryz.ntmps68
      go_wp2_with (go_at_call 66; refine (in_any _ _ _ _).mono ?_; rintro e w' ⟨rfl, rfl⟩)
      go_loopw [5, 6] (fun out i wr => ∃ k : Nat, k ≤ B ∧ i = .int .i64 ((k : Int) - 1) ∧ Hid (Bytes8 wr w.heap.size out (beB (N / 256 ^ k) (B - k))) ∧ Hid (Below w.heap.size w wr)) (fun _ i _ => (intOf i + 1).toNat)
      case atStart => exact ⟨B, Nat.le_refl _, rfl, Lib.hid ⟨by rw [Nat.sub_self]; exact World.ownsRow_made w #[] 0 (Nat.le_refl _) (Nat.zero_le _) rfl, by simp [beB]⟩, Lib.hid ((Below.refl _ _).alloc (Nat.le_refl _) _)⟩
      case round =>
        obtain ⟨k, hk, rfl, hrow, hbel⟩ := hrel
        have hsz := hbel.out.size
        have hB4 : B ≤ 4 := by omega
        obtain ⟨xs, hxs⟩ : ∃ xs, xs = beB (N / 256 ^ k) (B - k) := ⟨_, rfl⟩
        have hlen : xs.length = B - k := by rw [hxs]; exact beB_len _ _
        rw [← hxs] at hrow
        have HX := Lib.hid hxs
        clear hxs
        rcases (show k = 0 ∨ k = 1 ∨ k = 2 ∨ k = 3 ∨ k = 4 by omega) with hk0 | hk0 | hk0 | hk0 | hk0
        · have hk1 : ((k : Int) - 1) = -1 := by omega
          rw [hk1]
          obtain ⟨g, oc, hov, hlc, hm, hconv⟩ := hrow.out.str (by omega)
          subst hov
          rw [show xs.length = B by omega] at hconv
          unfold maxLen at hm
          have hfin : Hid (txt xs = txt (putN N B)) := Lib.hid (by rw [HX.out, ← hv.out, hk0, Nat.pow_zero, Nat.div_one, Nat.sub_zero])
          clear hk1 hv
          go_wp2_with fail
          go_ret
          exact ⟨ret_txt hfin.out, hbel.out⟩
        · have hk1 : ((k : Int) - 1) = 0 := by omega
          rw [hk1]
          have hst : Hid (xs ++ [(N : Int) % 256] = beB (N / 256 ^ 0) (B - 0)) := Lib.hid (by
            rw [HX.out, hk0, beB_step N (B - 1) 0 _ (by omega), show B - 1 + 1 = B - 0 by omega])
          obtain ⟨oa, oc, hov⟩ := hrow.out.shape
          subst hov
          have hx0 : 0 ≤ (N : Int) % 256 := by omega
          have hx1 : (N : Int) % 256 ≤ 255 := by omega
          clear hk1
          go_wp2_with (at_builtin; refine wpList_append_own _ rfl _ _ 22 rfl w.heap.size 5 i0 (.int .u8 0) 1 1 Tryz.underlying22 hi hz0 hz1 hz2 rfl (by decide) _ _ _ rfl (World.ownsRow.alloc hrow.out.1 _) ⟨_, 0, none⟩ 1 1 [.int .u8 ((N : Int) % 256)] rfl rfl (cell_one_new _ _ _) (by simp [Value.oneCell']) (by unfold maxLen; omega) (by omega) (by simp; omega) ?_; intro v' w9 hown' hgrow _)
          have hr9 := hrow.out.snoc hown' ⟨hx0, hx1⟩
          have hb9 := hrow.out.grown hbel.out hsz hgrow
          go_roundw
          case rel => exact ⟨0, by omega, by go_num, by rw [← hst.out]; exact Lib.hid hr9, Lib.hid hb9⟩
          case measure => simp [intOf]
        · have hk1 : ((k : Int) - 1) = 1 := by omega
          rw [hk1]
          have hst : Hid (xs ++ [(N : Int) / 256 % 256] = beB (N / 256 ^ 1) (B - 1)) := Lib.hid (by
            rw [HX.out, hk0, beB_step N (B - 2) 1 _ (by omega), show B - 2 + 1 = B - 1 by omega])
          obtain ⟨oa, oc, hov⟩ := hrow.out.shape
          subst hov
          have hx0 : 0 ≤ (N : Int) / 256 % 256 := by omega
          have hx1 : (N : Int) / 256 % 256 ≤ 255 := by omega
          clear hk1
          go_wp2_with (at_builtin; refine wpList_append_own _ rfl _ _ 22 rfl w.heap.size 5 i0 (.int .u8 0) 1 1 Tryz.underlying22 hi hz0 hz1 hz2 rfl (by decide) _ _ _ rfl (World.ownsRow.alloc hrow.out.1 _) ⟨_, 0, none⟩ 1 1 [.int .u8 ((N : Int) / 256 % 256)] rfl rfl (cell_one_new _ _ _) (by simp [Value.oneCell']) (by unfold maxLen; omega) (by omega) (by simp; omega) ?_; intro v' w9 hown' hgrow _)
          have hr9 := hrow.out.snoc hown' ⟨hx0, hx1⟩
          have hb9 := hrow.out.grown hbel.out hsz hgrow
          go_roundw
          case rel => exact ⟨1, by omega, by go_num, by rw [← hst.out]; exact Lib.hid hr9, Lib.hid hb9⟩
          case measure => simp [intOf]
        · have hk1 : ((k : Int) - 1) = 2 := by omega
          rw [hk1]
          have hst : Hid (xs ++ [(N : Int) / 65536 % 256] = beB (N / 256 ^ 2) (B - 2)) := Lib.hid (by
            rw [HX.out, hk0, beB_step N (B - 3) 2 _ (by omega), show B - 3 + 1 = B - 2 by omega])
          obtain ⟨oa, oc, hov⟩ := hrow.out.shape
          subst hov
          have hx0 : 0 ≤ (N : Int) / 65536 % 256 := by omega
          have hx1 : (N : Int) / 65536 % 256 ≤ 255 := by omega
          clear hk1
          go_wp2_with (at_builtin; refine wpList_append_own _ rfl _ _ 22 rfl w.heap.size 5 i0 (.int .u8 0) 1 1 Tryz.underlying22 hi hz0 hz1 hz2 rfl (by decide) _ _ _ rfl (World.ownsRow.alloc hrow.out.1 _) ⟨_, 0, none⟩ 1 1 [.int .u8 ((N : Int) / 65536 % 256)] rfl rfl (cell_one_new _ _ _) (by simp [Value.oneCell']) (by unfold maxLen; omega) (by omega) (by simp; omega) ?_; intro v' w9 hown' hgrow _)
          have hr9 := hrow.out.snoc hown' ⟨hx0, hx1⟩
          have hb9 := hrow.out.grown hbel.out hsz hgrow
          go_roundw
          case rel => exact ⟨2, by omega, by go_num, by rw [← hst.out]; exact Lib.hid hr9, Lib.hid hb9⟩
          case measure => simp [intOf]
        · have hk1 : ((k : Int) - 1) = 3 := by omega
          rw [hk1]
          have hst : Hid (xs ++ [(N : Int) / 16777216 % 256] = beB (N / 256 ^ 3) (B - 3)) := Lib.hid (by
            rw [HX.out, hk0, beB_step N (B - 4) 3 _ (by omega), show B - 4 + 1 = B - 3 by omega])
          obtain ⟨oa, oc, hov⟩ := hrow.out.shape
          subst hov
          have hx0 : 0 ≤ (N : Int) / 16777216 % 256 := by omega
          have hx1 : (N : Int) / 16777216 % 256 ≤ 255 := by omega
          clear hk1
          go_wp2_with (at_builtin; refine wpList_append_own _ rfl _ _ 22 rfl w.heap.size 5 i0 (.int .u8 0) 1 1 Tryz.underlying22 hi hz0 hz1 hz2 rfl (by decide) _ _ _ rfl (World.ownsRow.alloc hrow.out.1 _) ⟨_, 0, none⟩ 1 1 [.int .u8 ((N : Int) / 16777216 % 256)] rfl rfl (cell_one_new _ _ _) (by simp [Value.oneCell']) (by unfold maxLen; omega) (by omega) (by simp; omega) ?_; intro v' w9 hown' hgrow _)
          have hr9 := hrow.out.snoc hown' ⟨hx0, hx1⟩
          have hb9 := hrow.out.grown hbel.out hsz hgrow
          go_roundw
          case rel => exact ⟨3, by omega, by go_num, by rw [← hst.out]; exact Lib.hid hr9, Lib.hid hb9⟩
          case measure => simp [intOf]
end Go.Proofs.YtdpjdjkfedcojaaGreat

namespace Go.Proofs.YtdpjdjkfedcojaaGreat
open Go.RowKit
set_option linter.unusedVariables false

def putTextB (s : ByteArray) : ByteArray := if 65535 < s.size then ⟨#[]⟩ else txt (putN s.size 2) ++ s
theorem txt_beB_size (n k : Nat) : (txt (beB n k)).size = k := by rw [txt_size, beB_len]
theorem putN_size (n : Nat) : (txt (putN n 2)).size = 2 := by
  unfold putN; rw [if_neg (by omega)]; exact txt_beB_size _ _

theorem spec_putText (s : ByteArray) (w : World) (hs : s.size ≤ maxLen) :
    Calls Tryz.prog 69 #[.string s] w fun e w' => e = .returned (.string (putTextB s)) ∧ Below w.heap.size w w' := by
  unfold maxLen at hs
  by_cases h : 65535 < (s.size : Int)
  · have hv : Hid ((⟨#[]⟩ : ByteArray) = putTextB s) := Lib.hid (by unfold putTextB; rw [if_pos (by omega)])
    go_enter Tryz.func69, Tryz.ntmps69
    go_wp2_with fail
    go_ret
    exact ⟨ret_txt hv.out, Below.refl _ _⟩
  · have hv : Hid (txt (putN s.size 2) ++ s = putTextB s) := Lib.hid (by unfold putTextB; rw [if_neg (by omega)])
    have hz := putN_size s.size
    go_enter Tryz.func69, Tryz.ntmps69
    go_wp2_with (go_at_call 68; refine (spec_putNum _ _ (by omega) (by omega) _).mono ?_; rintro e w1 ⟨rfl, hb⟩)
    go_ret
    exact ⟨ret_txt hv.out, hb⟩

def getTextB (s : ByteArray) (p : Int) : ByteArray × Int :=
  if getN s p 2 < 0 ∨ (s.size : Int) < p + 2 + getN s p 2 then (⟨#[]⟩, -1) else (s.extract (p + 2).toNat (p + 2 + getN s p 2).toNat, p + 2 + getN s p 2)
theorem getN_lo (s : ByteArray) (p b : Int) : -1 ≤ getN s p b := by unfold getN; split <;> omega
theorem getN_hi (s : ByteArray) (p b : Int) : getN s p b ≤ 4294967295 := by
  unfold getN
  split
  · omega
  · have := beN_lt4 ((s.data.toList.drop p.toNat).take b.toNat) (by rw [List.length_take]; omega)
    omega
theorem getN_in {s : ByteArray} {p b : Int} (h : ¬ getN s p b < 0) : 0 ≤ p ∧ p ≤ s.size - b ∧ 1 ≤ b ∧ b ≤ 4 := by
  unfold getN at h
  split at h <;> omega
theorem ret_txtint {a b : ByteArray} {x y : Int} (h : (a, x) = (b, y)) : Ending.returned (.tuple #[.string a, .int .i64 x]) = .returned (.tuple #[.string b, .int .i64 y]) := by cases h; rfl
end Go.Proofs.YtdpjdjkfedcojaaGreat

namespace Go.Proofs.YtdpjdjkfedcojaaGreat
open Go.RowKit
set_option linter.unusedVariables false

set_option maxHeartbeats 400000 in
theorem spec_getNum (s : ByteArray) (p b : Int) (hp : -9223372036854775808 ≤ p ∧ p ≤ 9223372036854775807) (hb : -9223372036854775808 ≤ b ∧ b ≤ 9223372036854775807) (w : World) (hs : s.size ≤ maxLen) :
    Calls Tryz.prog 79 #[.string s, .int .i64 p, .int .i64 b] w fun e w' => e = .returned (.int .i64 (getN s p b)) ∧ w = w' := by
  unfold maxLen at hs
  by_cases hout : b < 1 ∨ 4 < b
  · have hin : inB b 1 4 = false := by simp [inB]; omega
    have hv : Hid (getN s p b = -1) := Lib.hid (by unfold getN; rw [if_pos (by omega)])
    go_enter Tryz.func79, Tryz.ntmps79
    go_wp2_with (go_at_call 66; refine (in_any _ _ _ _).mono ?_; rintro e w' ⟨rfl, rfl⟩)
    go_ret
    exact ⟨ret_int (by rw [hv.out]), rfl⟩
  · have hin : inB b 1 4 = true := by simp [inB]; omega
    by_cases hpn : p < 0
    · have hv : Hid (getN s p b = -1) := Lib.hid (by unfold getN; rw [if_pos (by omega)])
      go_enter Tryz.func79, Tryz.ntmps79
      go_wp2_with (go_at_call 66; refine (in_any _ _ _ _).mono ?_; rintro e w' ⟨rfl, rfl⟩)
      go_ret
      exact ⟨ret_int (by rw [hv.out]), rfl⟩
    · by_cases hend : (s.size : Int) - b < p
      · have hv : Hid (getN s p b = -1) := Lib.hid (by unfold getN; rw [if_pos (by omega)])
        go_enter Tryz.func79, Tryz.ntmps79
        go_wp2_with (go_at_call 66; refine (in_any _ _ _ _).mono ?_; rintro e w' ⟨rfl, rfl⟩)
        go_ret
        exact ⟨ret_int (by rw [hv.out]), rfl⟩
      · obtain ⟨P, rfl⟩ := Int.eq_ofNat_of_zero_le (show 0 ≤ p by omega)
        obtain ⟨B, rfl⟩ := Int.eq_ofNat_of_zero_le (show 0 ≤ b by omega)
        have hv : Hid (getN s P B = beN ((s.data.toList.drop P).take B)) := Lib.hid (by unfold getN; rw [if_neg (by omega)]; rfl)
        go_enter Tryz.func79, Tryz.ntmps79
        go_wp2_with (go_at_call 66; refine (in_any _ _ _ _).mono ?_; rintro e w' ⟨rfl, rfl⟩)
        go_loop [7, 8] (fun n i => ∃ k X : Nat, k ≤ B ∧ i = .int .i64 k ∧ n = .int .i64 X ∧ X < 256 ^ k ∧ Hid (X = beN ((s.data.toList.drop P).take k))) (fun _ i => B - (intOf i).toNat)
        case atStart => exact ⟨0, 0, Nat.zero_le _, rfl, rfl, by omega, Lib.hid (by simp [beN])⟩
        case round =>
          obtain ⟨k, X, hk, rfl, rfl, hX, HX⟩ := hrel
          by_cases hlt : k < B
          · have hk4 : X < 16777216 := by
              have h3 : 256 ^ k ≤ 256 ^ 3 := Nat.pow_le_pow_right (by decide) (by omega)
              omega
            have hc : s[P + k].toNat < 256 := s[P + k].toNat_lt
            have hX' : X * 256 + s[P + k].toNat < 256 ^ (k + 1) := by rw [Nat.pow_succ]; omega
            have hst : Hid (X * 256 + s[P + k].toNat = beN ((s.data.toList.drop P).take (k + 1))) := Lib.hid (by rw [drop_snoc s P k (by omega), beN_snoc, ← HX.out])
            go_wp2
            go_round
            case rel => exact ⟨k + 1, X * 256 + s[P + k].toNat, by omega, by go_num, by go_num, hX', hst⟩
            case measure => simp [intOf]; omega
          · obtain rfl : k = B := by omega
            go_wp2
            go_ret
            exact ⟨ret_int (by rw [hv.out, HX.out]), rfl⟩
end Go.Proofs.YtdpjdjkfedcojaaGreat

namespace Go.Proofs.YtdpjdjkfedcojaaGreat
open Go.RowKit
set_option linter.unusedVariables false

set_option maxHeartbeats 400000 in
theorem spec_getText (s : ByteArray) (p : Int) (hp : -9223372036854775808 ≤ p ∧ p ≤ 9223372036854775807) (w : World) (hs : s.size ≤ 1099511627776) :
    Calls Tryz.prog 78 #[.string s, .int .i64 p] w fun e w' => e = .returned (.tuple #[.string (getTextB s p).1, .int .i64 (getTextB s p).2]) ∧ w = w' := by
  have h0 := getN_lo s p 2
  have h1 := getN_hi s p 2
  by_cases hn : getN s p 2 < 0
  · have hv : Hid (((⟨#[]⟩ : ByteArray), (-1 : Int)) = getTextB s p) := Lib.hid (by unfold getTextB; rw [if_pos (by omega)])
    go_enter Tryz.func78, Tryz.ntmps78
    go_wp2_with (go_at_call 79; refine (spec_getNum _ _ _ (by omega) (by omega) _ (by unfold maxLen; omega)).mono ?_; rintro e w1 ⟨rfl, rfl⟩)
    go_ret2
    exact ⟨ret_txtint hv.out, rfl⟩
  · obtain ⟨hp0, hp1, _, _⟩ := getN_in hn
    by_cases hl : (s.size : Int) < p + 2 + getN s p 2
    · have hv : Hid (((⟨#[]⟩ : ByteArray), (-1 : Int)) = getTextB s p) := Lib.hid (by unfold getTextB; rw [if_pos (by omega)])
      go_enter Tryz.func78, Tryz.ntmps78
      go_wp2_with (go_at_call 79; refine (spec_getNum _ _ _ (by omega) (by omega) _ (by unfold maxLen; omega)).mono ?_; rintro e w1 ⟨rfl, rfl⟩)
      go_ret2
      exact ⟨ret_txtint hv.out, rfl⟩
    · have hv : Hid ((s.extract (p + 2).toNat (p + 2 + getN s p 2).toNat, p + 2 + getN s p 2) = getTextB s p) := Lib.hid (by unfold getTextB; rw [if_neg (by omega)])
      go_enter Tryz.func78, Tryz.ntmps78
      go_wp2_with (go_at_call 79; refine (spec_getNum _ _ _ (by omega) (by omega) _ (by unfold maxLen; omega)).mono ?_; rintro e w1 ⟨rfl, rfl⟩)
      go_ret2
      exact ⟨ret_txtint hv.out, rfl⟩
end Go.Proofs.YtdpjdjkfedcojaaGreat

namespace Go.Proofs.YtdpjdjkfedcojaaGreat
open Go.RowKit
set_option linter.unusedVariables false

theorem spec_hash (s : ByteArray) (w : World) (hs : s.size ≤ maxLen) :
    Calls Tryz.prog 30 #[.string s] w fun e w' => e = .returned (.int .i64 (hashN s.data.toList)) ∧ w = w' := by
  unfold maxLen at hs
  go_enter Tryz.func30, Tryz.ntmps30
  go_wp2
  go_loop [3, 4] (fun x i => ∃ (k X : Nat), k ≤ s.size ∧ i = .int .i64 k ∧ x = .int .u32 X ∧ X < 4294967296 ∧ Hid (X = (s.data.toList.take k).foldl hashOn 2166136261)) (fun _ i => s.size - (intOf i).toNat)
  case atStart => exact ⟨0, 2166136261, Nat.zero_le _, rfl, rfl, by omega, Lib.hid (by simp)⟩
  case round =>
    obtain ⟨k, X, hk, rfl, rfl, hX1, HX⟩ := hrel
    by_cases hlt : k < s.size
    · have hc : s[k].toNat < 256 := s[k].toNat_lt
      have hh := Lib.hid (hash_u32 X s[k] hX1)
      have hst : Hid (hashOn X s[k] = (s.data.toList.take (k + 1)).foldl hashOn 2166136261) := Lib.hid (by rw [fold_snoc _ _ _ _ hlt, ← HX.out])
      go_wp2
      go_round
      case rel => exact ⟨k + 1, hashOn X s[k], by omega, by go_num, by rw [hh.out], hashOn_lt _ _, hst⟩
      case measure => simp [intOf]; omega
    · have he : Hid (X = hashN s.data.toList) := Lib.hid (by rw [HX.out, take_end s k (by omega)]; rfl)
      go_wp2
      go_ret
      exact ⟨ret_int (by rw [he.out]), rfl⟩

theorem bit_odd (X : Nat) (hX : X < 4294967296) (h : X % 2 = 1) : bits .xor .u32 ((X : Int) / 2) 2197175160 = (bit1 X : Int) := by
  unfold bit1
  rw [if_pos h]
  exact u32_xor_nat (X / 2) 2197175160 (by omega) (by decide)
theorem bit_even (X : Nat) (h : ¬ X % 2 = 1) : (X : Int) / 2 = (bit1 X : Int) := by
  unfold bit1
  rw [if_neg h]; omega
theorem and_one_u32 (X : Nat) (hX : X < 4294967296) : bits .and .u32 (X : Int) 1 = ((X % 2 : Nat) : Int) :=
  (u32_and_nat X 1 hX (by decide)).trans (by rw [Nat.and_one_is_mod])
theorem not_u32 (X : Nat) (hX : X < 4294967296) : bits .xor .u32 IntKind.u32.max (X : Int) = ((4294967295 ^^^ X : Nat) : Int) :=
  u32_xor_nat 4294967295 X (by decide) hX

set_option maxHeartbeats 400000 in
theorem spec_crc (s : ByteArray) (w : World) (hs : s.size ≤ maxLen) :
    Calls Tryz.prog 104 #[.string s] w fun e w' => e = .returned (.int .i64 (crcN s.data.toList)) ∧ w = w' := by
  unfold maxLen at hs
  go_enter Tryz.func104, Tryz.ntmps104
  go_wp2
  go_loop [3, 4] (fun x i => ∃ (k X : Nat), k ≤ s.size ∧ i = .int .i64 k ∧ x = .int .u32 X ∧ X < 4294967296 ∧ Hid (X = (s.data.toList.take k).foldl crcOn 4294967295)) (fun _ i => s.size - (intOf i).toNat)
  case atStart => exact ⟨0, 4294967295, Nat.zero_le _, rfl, rfl, by omega, Lib.hid (by simp)⟩
  case round =>
    obtain ⟨k, X, hk, rfl, rfl, hX1, HX⟩ := hrel
    by_cases hlt : k < s.size
    · have hc : s[k].toNat < 256 := s[k].toNat_lt
      have hx0 := Lib.hid (u32_xor_nat X s[k].toNat hX1 (by omega))
      have hst : Hid (crcOn X s[k] = (s.data.toList.take (k + 1)).foldl crcOn 4294967295) := Lib.hid (by rw [fold_snoc _ _ _ _ hlt, ← HX.out])
      go_wp2
      go_loop [3, 5] (fun x i => ∃ (j Y : Nat), j ≤ 8 ∧ i = .int .i64 j ∧ x = .int .u32 Y ∧ Y < 4294967296 ∧ Hid (Y = bitsN j (X ^^^ s[k].toNat))) (fun _ i => 8 - (intOf i).toNat)
      case atStart => exact ⟨0, X ^^^ s[k].toNat, Nat.zero_le _, rfl, by rw [hx0.out], xor_lt32 hX1 (by omega), Lib.hid rfl⟩
      case round =>
        obtain ⟨j, Y, hj, rfl, rfl, hY1, HY⟩ := hrel
        by_cases hj8 : j < 8
        · have ha := Lib.hid (and_one_u32 Y hY1)
          have hlt2 := bit1_lt Y hY1
          have hst2 : Hid (bit1 Y = bitsN (j + 1) (X ^^^ s[k].toNat)) := Lib.hid (by rw [HY.out]; rfl)
          have hand := and_one_u32 Y hY1
          by_cases ho : Y % 2 = 1
          · have hb := Lib.hid (bit_odd Y hY1 ho)
            have hp : (bits BinOp.and IntKind.u32 (Y : Int) 1 == 1) = true := by rw [hand, ho]; rfl
            clear hand
            go_wp2
            go_round
            case rel => exact ⟨j + 1, bit1 Y, by omega, by go_num, by rw [hb.out], hlt2, hst2⟩
            case measure => simp [intOf]; omega
          · have hb := Lib.hid (bit_even Y ho)
            have hp : (bits BinOp.and IntKind.u32 (Y : Int) 1 == 1) = false := by rw [hand, show Y % 2 = 0 by omega]; rfl
            clear hand
            go_wp2
            go_round
            case rel => exact ⟨j + 1, bit1 Y, by omega, by go_num, by rw [hb.out], hlt2, hst2⟩
            case measure => simp [intOf]; omega
        · obtain rfl : j = 8 := by omega
          have hst3 : Hid (Y = (s.data.toList.take (k + 1)).foldl crcOn 4294967295) := Lib.hid (by rw [HY.out, ← hst.out]; rfl)
          go_wp2
          go_round
          case rel => exact ⟨k + 1, Y, by omega, by go_num, rfl, hY1, hst3⟩
          case measure => simp [intOf]; omega
    · have he : Hid (4294967295 ^^^ X = crcN s.data.toList) := Lib.hid (by rw [HX.out, take_end s k (by omega)]; rfl)
      have hn := Lib.hid (not_u32 X hX1)
      have hl := Lib.hid (xor_lt32 (a := 4294967295) (by decide) hX1)
      go_wp2
      go_ret
      exact ⟨ret_int (by have := crcN_lt s.data.toList; rw [hn.out, he.out]; exact IntWalk.wrap64_in _ ⟨by omega, by omega⟩), rfl⟩
end Go.Proofs.YtdpjdjkfedcojaaGreat

namespace Go.Proofs.YtdpjdjkfedcojaaGreat
open Go.RowKit
set_option linter.unusedVariables false

/-- The four bytes of a number, the lowest first. -/
def leB (n : Nat) : List Int := [(n : Int) % 256, (n : Int) / 256 % 256, (n : Int) / 65536 % 256, (n : Int) / 16777216 % 256]
def sealB (s : ByteArray) : ByteArray := s ++ txt (leB (crcN s.data.toList))
theorem leB_size (n : Nat) : (txt (leB n)).size = 4 := by rw [txt_size]; rfl

theorem spec_sealed (s : ByteArray) (w : World) (hs : s.size ≤ 1099511627776) :
    Calls Tryz.prog 70 #[.string s] w fun e w' => e = .returned (.string (sealB s)) ∧ Below w.heap.size w w' := by
  have hn := crcN_lt s.data.toList
  have hv : Hid (s ++ txt (leB (crcN s.data.toList)) = sealB s) := Lib.hid rfl
  have hz := leB_size (crcN s.data.toList)
  have htop : (crcN s.data.toList : Int) / 16777216 % 256 = (crcN s.data.toList : Int) / 16777216 := by omega
  have hconv := conv_lit w (leB (crcN s.data.toList)) (by unfold leB; intro x hx; simp at hx; omega) 4 4 rfl
  simp only [leB, htop, List.map] at hconv
  rw [← show txt (leB (crcN s.data.toList)) = txt [(crcN s.data.toList : Int) % 256, (crcN s.data.toList : Int) / 256 % 256, (crcN s.data.toList : Int) / 65536 % 256, (crcN s.data.toList : Int) / 16777216] by rw [← htop]; rfl] at hconv
  clear htop
  go_enter Tryz.func70, Tryz.ntmps70
  go_wp2_with (go_at_call 104; refine (spec_crc _ _ (by unfold maxLen; omega)).mono ?_; rintro e w1 ⟨rfl, rfl⟩)
  go_ret
  exact ⟨ret_txt hv.out, (Below.refl _ _).alloc (Nat.le_refl _) _⟩

def openB (s : ByteArray) : ByteArray × Bool := if s.size < 4 then (⟨#[]⟩, false) else if sealB (s.extract 0 (s.size - 4)) = s then (s.extract 0 (s.size - 4), true) else (⟨#[]⟩, false)
theorem str_eq {a b : ByteArray} (h : a = b) : (a.toList == b.toList) = true := by rw [h]; simp
theorem str_ne {a b : ByteArray} (h : ¬ a = b) : (a.toList == b.toList) = false := by
  rw [Bool.eq_false_iff]; intro hc; apply h
  simp only [ByteArray.toList_eq, beq_iff_eq] at hc
  exact ByteArray.ext (Array.toList_inj.mp hc)
theorem ret_txtbool {a b : ByteArray} {x y : Bool} (h : (a, x) = (b, y)) : Ending.returned (.tuple #[.string a, .bool x]) = .returned (.tuple #[.string b, .bool y]) := by cases h; rfl

end Go.Proofs.YtdpjdjkfedcojaaGreat

namespace Go.Proofs.YtdpjdjkfedcojaaGreat
open Go.RowKit

theorem i64_or_nat (a b : Nat) (ha : a < 9223372036854775808) (hb : b < 9223372036854775808) : bits .or .i64 (a : Int) (b : Int) = ((a ||| b : Nat) : Int) := by
  have hx : a ||| b < 2 ^ 63 := Nat.or_lt_two_pow (by omega) (by omega)
  show IntKind.i64.wrap ((BitVec.ofInt 64 (a : Int) ||| BitVec.ofInt 64 (b : Int)).toNat : Int) = _
  rw [BitVec.toNat_or, ofInt_u64 a (by omega), ofInt_u64 b (by omega), IntKind.wrap_i64]
  omega
theorem i64_xor_nat (a b : Nat) (ha : a < 9223372036854775808) (hb : b < 9223372036854775808) : bits .xor .i64 (a : Int) (b : Int) = ((a ^^^ b : Nat) : Int) := by
  have hx : a ^^^ b < 2 ^ 63 := Nat.xor_lt_two_pow (by omega) (by omega)
  show IntKind.i64.wrap ((BitVec.ofInt 64 (a : Int) ^^^ BitVec.ofInt 64 (b : Int)).toNat : Int) = _
  rw [BitVec.toNat_xor, ofInt_u64 a (by omega), ofInt_u64 b (by omega), IntKind.wrap_i64]
  omega
theorem i64_and_nat (a b : Nat) (ha : a < 9223372036854775808) (hb : b < 9223372036854775808) : bits .and .i64 (a : Int) (b : Int) = ((a &&& b : Nat) : Int) := by
  have hx : a &&& b < 2 ^ 63 := Nat.and_lt_two_pow _ (by omega)
  show IntKind.i64.wrap ((BitVec.ofInt 64 (a : Int) &&& BitVec.ofInt 64 (b : Int)).toNat : Int) = _
  rw [BitVec.toNat_and, ofInt_u64 a (by omega), ofInt_u64 b (by omega), IntKind.wrap_i64]
  omega
/-- A byte behind a number. -/
theorem i64_join8 (x b : Nat) (hx : x < 36028797018963967) (hb : b < 256) : bits .or .i64 ((x : Int) * 256) (b : Int) = ((x * 256 + b : Nat) : Int) := by
  have := i64_or_nat (x * 256) b (by omega) (by omega)
  rw [nat_join 8 (x * 256) b (by omega) (by omega)] at this
  simpa using this
end Go.Proofs.YtdpjdjkfedcojaaGreat

namespace Go.Proofs.YtdpjdjkfedcojaaGreat
open Go.RowKit
set_option linter.unusedVariables false

theorem info49 : (Tryz.prog.info? 121).map (fun i => (i.zero, i.size)) = some (some (.agg #[.int .u8 0, .int .u8 0, .int .u8 0, .int .u8 0]), 4) := by kernel_rfl

theorem impl_lowest (n : Nat) (hn : (n : Int) ≤ 9223372036854775807) (w : World) :
    Calls Tryz.prog 98 #[.int .i64 n] w fun e w' => e = .returned (.agg #[.int .u8 ((n : Int) / 16777216 % 256), .int .u8 ((n : Int) / 65536 % 256), .int .u8 ((n : Int) / 256 % 256), .int .u8 ((n : Int) % 256)]) ∧ Below w.heap.size w w' := by
  obtain ⟨hz, hs⟩ := zero_of_info info49
  go_enter Tryz.func98, Tryz.ntmps98
  go_wp2
  exact bodyPost_ret (results_cell_row rfl _ _ w.heap.size _ _ _ _ rfl (heap_alloc_last _ _) Tryz.underlying121 rfl (by simpa using hs)) rfl ⟨rfl, (Below.refl _ _).alloc (Nat.le_refl _) _⟩

/-- The end of a row that the call made last, as a text. -/
theorem conv_tail (w : World) (t : TypeId) (xs : List Int) (h : ∀ x ∈ xs, 0 ≤ x ∧ x ≤ 255) (off n cap : Nat) (hn : off + n = xs.length) : (convert 22 9 (.slice (some ⟨w.heap.size, off, none⟩) n cap)).run Tryz.prog (w.alloc (.cells (xs.map (Value.int .u8)).toArray t)) = .ok (.string (txt (xs.drop off))) (w.alloc (.cells (xs.map (Value.int .u8)).toArray t)) := by
  have hl : ((xs.drop off).map fun z => UInt8.ofNat z.toNat).length = n := by simp; omega
  have := run_convert_bytes_back (P := Tryz.prog) (w.alloc (.cells (xs.map (Value.int .u8)).toArray t)) 22 9 5 ⟨w.heap.size, off, none⟩ cap ((xs.drop off).map fun z => UInt8.ofNat z.toNat) Tryz.underlying22 Tryz.underlying5 Tryz.underlying9 (fun j hj => by
    rw [hl] at hj
    have hj' : off + j < xs.length := by omega
    have hz := h xs[off + j] (List.getElem_mem _)
    rw [add_flat, World.cell?_alloc_new]
    simp only [List.getElem_map, List.getElem_drop, List.getElem?_toArray, List.getElem?_map, List.getElem?_eq_getElem hj', Option.map_some]
    congr 2
    generalize xs[off + j] = z at *
    obtain ⟨m, rfl⟩ := Int.eq_ofNat_of_zero_le hz.1
    simp; omega)
  rw [hl] at this
  exact this

/-- Is a number of bytes one of 1..4? -/
theorem impl_bytesOk (b : Int) (hb : -9223372036854775808 ≤ b ∧ b ≤ 9223372036854775807) (w : World) :
    Calls Tryz.prog 97 #[.int .i64 b] w fun e w' => e = .returned (.bool (inB b 1 4)) ∧ w = w' := by
  by_cases h1 : 1 ≤ b
  · have hv : Hid (decide (b ≤ 4) = inB b 1 4) := Lib.hid (by simp [inB]; omega)
    go_enter Tryz.func97, Tryz.ntmps97
    go_wp2_with fail
    go_ret
    exact ⟨by rw [← hv.out]; rfl, rfl⟩
  · have hv : Hid (false = inB b 1 4) := Lib.hid (by simp [inB]; omega)
    go_enter Tryz.func97, Tryz.ntmps97
    go_wp2_with fail
    go_ret
    exact ⟨by rw [← hv.out]; rfl, rfl⟩

set_option maxHeartbeats 1000000 in
theorem impl_putNum (n b : Int) (hn : -9223372036854775808 ≤ n ∧ n ≤ 9223372036854775807) (hb : -9223372036854775808 ≤ b ∧ b ≤ 9223372036854775807) (w : World) :
    Calls Tryz.prog 61 #[.int .i64 n, .int .i64 b] w fun e w' => e = .returned (.string (txt (putN n b))) ∧ Below w.heap.size w w' := by
  by_cases hn0 : n < 0
  · have hv : Hid (txt [] = txt (putN n b)) := Lib.hid (by unfold putN; rw [if_pos (by omega)])
    go_enter Tryz.func61, Tryz.ntmps61
    go_wp2_with fail
    go_ret
    exact ⟨ret_empty hv.out, Below.refl _ _⟩
  · by_cases hout : b < 1 ∨ 4 < b
    · have hin : inB b 1 4 = false := by simp [inB]; omega
      have hv : Hid (txt [] = txt (putN n b)) := Lib.hid (by unfold putN; rw [if_pos (by omega)])
      go_enter Tryz.func61, Tryz.ntmps61
      go_wp2_with (go_at_call 97; refine (impl_bytesOk _ (by omega) _).mono ?_; rintro e w' ⟨rfl, rfl⟩)
      go_ret
      exact ⟨ret_empty hv.out, Below.refl _ _⟩
    · have hin : inB b 1 4 = true := by simp [inB]; omega
      obtain ⟨N, rfl⟩ := Int.eq_ofNat_of_zero_le (show 0 ≤ n by omega)
      have e2 : (N : Int) / 256 / 256 = (N : Int) / 65536 := by omega
      have e3 : (N : Int) / 65536 / 256 = (N : Int) / 16777216 := by omega
      obtain ⟨hz, hs⟩ := zero_of_info info49
      have hcl := fun (w1 : World) (off n cap : Nat) (h : off + n = 4) => conv_tail w1 121 [(N : Int) / 16777216 % 256, (N : Int) / 65536 % 256, (N : Int) / 256 % 256, (N : Int) % 256] (by intro x hx; simp at hx; omega) off n cap h
      simp only [List.map] at hcl
      rcases (show b = 1 ∨ b = 2 ∨ b = 3 ∨ b = 4 by omega) with hb0 | hb0 | hb0 | hb0
      · subst hb0
        have hv : Hid (txt [(N : Int) % 256] = txt (putN N 1)) := Lib.hid (by unfold putN; rw [if_neg (by omega)]; simp [beB])
        clear e2 e3
        go_enter Tryz.func61, Tryz.ntmps61
        go_wp2_with (first | (go_at_call 97; refine (impl_bytesOk _ (by omega) _).mono ?_; rintro e w' ⟨rfl, rfl⟩) | (go_at_call 98; refine (impl_lowest _ (by omega) _).mono ?_; rintro e w1 ⟨rfl, hb1⟩))
        go_ret
        exact ⟨ret_txt hv.out, hb1.alloc hb1.size _⟩
      · subst hb0
        have hv : Hid (txt [(N : Int) / 256 % 256, (N : Int) % 256] = txt (putN N 2)) := Lib.hid (by unfold putN; rw [if_neg (by omega)]; simp [beB])
        clear e2 e3
        go_enter Tryz.func61, Tryz.ntmps61
        go_wp2_with (first | (go_at_call 97; refine (impl_bytesOk _ (by omega) _).mono ?_; rintro e w' ⟨rfl, rfl⟩) | (go_at_call 98; refine (impl_lowest _ (by omega) _).mono ?_; rintro e w1 ⟨rfl, hb1⟩))
        go_ret
        exact ⟨ret_txt hv.out, hb1.alloc hb1.size _⟩
      · subst hb0
        have hv : Hid (txt [(N : Int) / 65536 % 256, (N : Int) / 256 % 256, (N : Int) % 256] = txt (putN N 3)) := Lib.hid (by unfold putN; rw [if_neg (by omega)]; simp [beB, e2])
        clear e2 e3
        go_enter Tryz.func61, Tryz.ntmps61
        go_wp2_with (first | (go_at_call 97; refine (impl_bytesOk _ (by omega) _).mono ?_; rintro e w' ⟨rfl, rfl⟩) | (go_at_call 98; refine (impl_lowest _ (by omega) _).mono ?_; rintro e w1 ⟨rfl, hb1⟩))
        go_ret
        exact ⟨ret_txt hv.out, hb1.alloc hb1.size _⟩
      · subst hb0
        have hv : Hid (txt [(N : Int) / 16777216 % 256, (N : Int) / 65536 % 256, (N : Int) / 256 % 256, (N : Int) % 256] = txt (putN N 4)) := Lib.hid (by unfold putN; rw [if_neg (by omega)]; simp [beB, e2, e3])
        clear e2 e3
        go_enter Tryz.func61, Tryz.ntmps61
        go_wp2_with (first | (go_at_call 97; refine (impl_bytesOk _ (by omega) _).mono ?_; rintro e w' ⟨rfl, rfl⟩) | (go_at_call 98; refine (impl_lowest _ (by omega) _).mono ?_; rintro e w1 ⟨rfl, hb1⟩))
        go_ret
        exact ⟨ret_txt hv.out, hb1.alloc hb1.size _⟩
end Go.Proofs.YtdpjdjkfedcojaaGreat

namespace Go.Proofs.YtdpjdjkfedcojaaGreat
open Go.RowKit
set_option linter.unusedVariables false

set_option maxHeartbeats 400000 in
theorem impl_getNum (s : ByteArray) (p b : Int) (hp : -9223372036854775808 ≤ p ∧ p ≤ 9223372036854775807) (hb : -9223372036854775808 ≤ b ∧ b ≤ 9223372036854775807) (w : World) (hs : s.size ≤ maxLen) :
    Calls Tryz.prog 81 #[.string s, .int .i64 p, .int .i64 b] w fun e w' => e = .returned (.int .i64 (getN s p b)) ∧ w = w' := by
  unfold maxLen at hs
  by_cases hout : b < 1 ∨ 4 < b
  · have hin : inB b 1 4 = false := by simp [inB]; omega
    have hv : Hid (getN s p b = -1) := Lib.hid (by unfold getN; rw [if_pos (by omega)])
    go_enter Tryz.func81, Tryz.ntmps81
    go_wp2_with (go_at_call 97; refine (impl_bytesOk _ (by omega) _).mono ?_; rintro e w' ⟨rfl, rfl⟩)
    go_ret
    exact ⟨ret_int (by rw [hv.out]), rfl⟩
  · have hin : inB b 1 4 = true := by simp [inB]; omega
    by_cases hpn : p < 0
    · have hv : Hid (getN s p b = -1) := Lib.hid (by unfold getN; rw [if_pos (by omega)])
      go_enter Tryz.func81, Tryz.ntmps81
      go_wp2_with (go_at_call 97; refine (impl_bytesOk _ (by omega) _).mono ?_; rintro e w' ⟨rfl, rfl⟩)
      go_ret
      exact ⟨ret_int (by rw [hv.out]), rfl⟩
    · by_cases hend : (s.size : Int) - b < p
      · have hv : Hid (getN s p b = -1) := Lib.hid (by unfold getN; rw [if_pos (by omega)])
        go_enter Tryz.func81, Tryz.ntmps81
        go_wp2_with (go_at_call 97; refine (impl_bytesOk _ (by omega) _).mono ?_; rintro e w' ⟨rfl, rfl⟩)
        go_ret
        exact ⟨ret_int (by rw [hv.out]), rfl⟩
      · obtain ⟨P, rfl⟩ := Int.eq_ofNat_of_zero_le (show 0 ≤ p by omega)
        obtain ⟨B, rfl⟩ := Int.eq_ofNat_of_zero_le (show 0 ≤ b by omega)
        have hv : Hid (getN s P B = beN ((s.data.toList.drop P).take B)) := Lib.hid (by unfold getN; rw [if_neg (by omega)]; rfl)
        go_enter Tryz.func81, Tryz.ntmps81
        go_wp2_with (go_at_call 97; refine (impl_bytesOk _ (by omega) _).mono ?_; rintro e w' ⟨rfl, rfl⟩)
        go_loop [7, 25] (fun n i => ∃ k X : Nat, k ≤ B ∧ i = .int .i64 k ∧ n = .int .i64 X ∧ X < 256 ^ k ∧ Hid (X = beN ((s.data.toList.drop P).take k))) (fun _ i => B - (intOf i).toNat)
        case atStart => exact ⟨0, 0, Nat.zero_le _, rfl, rfl, by omega, Lib.hid (by simp [beN])⟩
        case round =>
          obtain ⟨k, X, hk, rfl, rfl, hX, HX⟩ := hrel
          by_cases hlt : k < B
          · have hk4 : X < 16777216 := by
              have h3 : 256 ^ k ≤ 256 ^ 3 := Nat.pow_le_pow_right (by decide) (by omega)
              omega
            have hc : s[P + k].toNat < 256 := s[P + k].toNat_lt
            have hX' : X * 256 + s[P + k].toNat < 256 ^ (k + 1) := by rw [Nat.pow_succ]; omega
            have hst : Hid (X * 256 + s[P + k].toNat = beN ((s.data.toList.drop P).take (k + 1))) := Lib.hid (by rw [drop_snoc s P k (by omega), beN_snoc, ← HX.out])
            have hor := Lib.hid (i64_join8 X s[P + k].toNat (by omega) hc)
            go_wp2
            go_round
            case rel => exact ⟨k + 1, X * 256 + s[P + k].toNat, by omega, by go_num, by rw [hor.out], hX', hst⟩
            case measure => simp [intOf]; omega
          · obtain rfl : k = B := by omega
            go_wp2
            go_ret
            exact ⟨ret_int (by rw [hv.out, ← HX.out]), rfl⟩
end Go.Proofs.YtdpjdjkfedcojaaGreat

namespace Go.Proofs.YtdpjdjkfedcojaaGreat
open Go.RowKit
set_option linter.unusedVariables false

theorem impl_putText (s : ByteArray) (w : World) (hs : s.size ≤ 1099511627776) :
    Calls Tryz.prog 96 #[.string s] w fun e w' => e = .returned (.string (putTextB s)) ∧ Below w.heap.size w w' := by
  by_cases h : 65535 < (s.size : Int)
  · have hv : Hid ((⟨#[]⟩ : ByteArray) = putTextB s) := Lib.hid (by unfold putTextB; rw [if_pos (by omega)])
    go_enter Tryz.func96, Tryz.ntmps96
    go_wp2_with fail
    go_ret
    exact ⟨ret_txt hv.out, Below.refl _ _⟩
  · have hv : Hid (txt (putN s.size 2) ++ s = putTextB s) := Lib.hid (by unfold putTextB; rw [if_neg (by omega)])
    have hz := putN_size s.size
    go_enter Tryz.func96, Tryz.ntmps96
    go_wp2_with (go_at_call 61; refine (impl_putNum _ _ (by omega) (by omega) _).mono ?_; rintro e w1 ⟨rfl, hb⟩)
    go_ret
    exact ⟨ret_txt hv.out, hb⟩

theorem extract_tail (s : ByteArray) (a n : Nat) (h : a + n ≤ s.size) : (s.extract a s.size).extract 0 n = s.extract a (a + n) := by
  apply ByteArray.ext
  simp [ByteArray.data_extract, Array.extract_extract]
  rw [Nat.min_eq_left h]

set_option maxHeartbeats 400000 in
theorem impl_getText (s : ByteArray) (p : Int) (hp : -9223372036854775808 ≤ p ∧ p ≤ 9223372036854775807) (w : World) (hs : s.size ≤ 1099511627776) :
    Calls Tryz.prog 107 #[.string s, .int .i64 p] w fun e w' => e = .returned (.tuple #[.string (getTextB s p).1, .int .i64 (getTextB s p).2]) ∧ w = w' := by
  have h0 := getN_lo s p 2
  have h1 := getN_hi s p 2
  by_cases hn : getN s p 2 < 0
  · have hv : Hid (((⟨#[]⟩ : ByteArray), (-1 : Int)) = getTextB s p) := Lib.hid (by unfold getTextB; rw [if_pos (by omega)])
    go_enter Tryz.func107, Tryz.ntmps107
    go_wp2_with (go_at_call 81; refine (impl_getNum _ _ _ (by omega) (by omega) _ (by unfold maxLen; omega)).mono ?_; rintro e w1 ⟨rfl, rfl⟩)
    go_ret2
    exact ⟨ret_txtint hv.out, rfl⟩
  · obtain ⟨hp0, hp1, _, _⟩ := getN_in hn
    obtain ⟨L, hL⟩ := Int.eq_ofNat_of_zero_le (show 0 ≤ getN s p 2 by omega)
    obtain ⟨P, rfl⟩ := Int.eq_ofNat_of_zero_le hp0
    have hsz : (s.extract (P + 2) s.size).size = s.size - (P + 2) := by simp
    by_cases hl : (s.size : Int) < P + 2 + L
    · have hv : Hid (((⟨#[]⟩ : ByteArray), (-1 : Int)) = getTextB s P) := Lib.hid (by unfold getTextB; rw [if_pos (by omega)])
      go_enter Tryz.func107, Tryz.ntmps107
      go_wp2_with (go_at_call 81; refine (impl_getNum _ _ _ (by omega) (by omega) _ (by unfold maxLen; omega)).mono ?_; rintro e w1 ⟨rfl, rfl⟩)
      go_ret2
      exact ⟨ret_txtint hv.out, rfl⟩
    · have hv : Hid (((s.extract (P + 2) s.size).extract 0 L, ((P + 2 + L : Nat) : Int)) = getTextB s P) := Lib.hid (by
        rw [extract_tail _ _ _ (by omega)]
        unfold getTextB; rw [if_neg (by omega), hL]
        have e1 : ((P : Int) + 2).toNat = P + 2 := by omega
        have e2 : ((P : Int) + 2 + (L : Int)).toNat = P + 2 + L := by omega
        have e3 : ((P + 2 + L : Nat) : Int) = (P : Int) + 2 + (L : Int) := by omega
        rw [e1, e2, e3])
      go_enter Tryz.func107, Tryz.ntmps107
      go_wp2_with (go_at_call 81; refine (impl_getNum _ _ _ (by omega) (by omega) _ (by unfold maxLen; omega)).mono ?_; rintro e w1 ⟨rfl, rfl⟩)
      go_ret2
      exact ⟨ret_txtint hv.out, rfl⟩
end Go.Proofs.YtdpjdjkfedcojaaGreat
