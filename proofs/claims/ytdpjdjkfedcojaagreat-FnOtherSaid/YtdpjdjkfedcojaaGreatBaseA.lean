/- What the proofs of this seat have in common: plain facts, rows in memory, the laws' own helpers, the small functions' contracts. Condition: none. -/
import Derived.WalkKit
import Derived.Deep.QuietTactic
import Derived.Lib.Hide
import Derived.OneCell
import Derived.OpenShut
import Derived.Maps.AppendAt
import Derived.Test.YtdpjdjkfedcojaaGreatRows
import Derived.WalkSpells
import Derived.WalkLawsBesides
import Derived.LoopTactic
import Derived.BigQuiet
import Derived.ProofKit
import Derived.OwnWalk
import Derived.Laws.OwnMore
import Derived.Deep.RegionHeld
import Derived.Laws.Rows
import Derived.Laws.AppendOwn
import Derived.Below
import Derived.Deep.RegionHeld3
import Derived.ArgAppend
import Derived.Deep.RegionHeldLaw
import Derived.Lib.ItoaNum
import Derived.Lib.ItoaLen
import Derived.Lib.Strings
namespace Go.Proofs.YtdpjdjkfedcojaaGreat
open Go.RowKit

theorem ret_int {k : IntKind} {a b : Int} (h : a = b) : Ending.returned (.int k a) = .returned (.int k b) := by rw [h]
theorem ret_bool {a b : Bool} (h : a = b) : Ending.returned (.bool a) = .returned (.bool b) := by rw [h]

theorem below_draws (B : Nat) (w : World) (n : Nat) : Below B w (w.drewN n) := ⟨rfl, rfl, rfl, Nat.le_refl _, fun _ _ => rfl⟩

/-- What a law's walk is told of a row of integers that came in (the frame of the proof gives it): nil; or the cells. -/
def IsRow (k : IntKind) (w : World) (a : Option Addr) (len cap : Nat) (zs : List Int) : Prop :=
  (a = none ∧ len = 0 ∧ cap = 0 ∧ zs = []) ∨
  ∃ x, a = some x ∧ len ≤ cap ∧ cap ≤ maxLen ∧ zs.length = cap ∧ (∀ i, i < zs.length → w.cell? (x.add i) = some (.int k (zs.getD i 0))) ∧ ∀ n ∈ zs, (Lit.int k n).wf = true

/-- A byte that a name may hold. -/
def inB (x a b : Int) : Bool := decide (a ≤ x ∧ x ≤ b)
def nameByte (c : UInt8) : Bool := inB c.toNat 97 122 || inB c.toNat 48 57
/-- How many bytes at the front of a text a name may hold. -/
def nameRun (l : List UInt8) : Nat := (l.takeWhile nameByte).length
def nameOkB (l : List UInt8) : Bool := l.all nameByte && inB l.length 1 12

theorem take_snoc (s : ByteArray) (k : Nat) (h : k < s.size) : s.data.toList.take (k + 1) = s.data.toList.take k ++ [s[k]] := by
  rw [List.take_succ_eq_append_getElem (by simpa using h)]; rfl

theorem inB_true {x a b : Int} (h : inB x a b = true) : a ≤ x ∧ x ≤ b := of_decide_eq_true h
theorem inB_false {x a b : Int} (h : inB x a b = false) : x < a ∨ b < x := by
  have := of_decide_eq_false h; omega

theorem nameRun_le (l : List UInt8) : nameRun l ≤ l.length := by
  unfold nameRun; exact (List.takeWhile_prefix _).length_le

theorem all_take_run (l : List UInt8) (k : Nat) (hk : k ≤ l.length) (h : (l.take k).all nameByte = true) (he : k = l.length ∨ ∃ h : k < l.length, nameByte l[k] = false) : nameRun l = k := by
  unfold nameRun
  induction l generalizing k with
  | nil => simp at hk; simp [hk]
  | cons c l ih =>
    cases k with
    | zero =>
      rcases he with he | ⟨h1, h2⟩
      · simp at he
      · simp at h2; simp [h2]
    | succ k =>
      simp at h
      simp only [List.takeWhile_cons, h.1, if_true, List.length_cons]
      rw [ih k (by simpa using hk) (by simpa using h.2)]
      rcases he with he | ⟨h1, h2⟩
      · left; simpa using he
      · right; exact ⟨by simpa using h1, by simpa using h2⟩

theorem run_all (l : List UInt8) : (nameRun l = l.length) ↔ l.all nameByte = true := by
  unfold nameRun
  induction l with
  | nil => simp
  | cons c l ih =>
    by_cases h : nameByte c = true
    · simp only [List.takeWhile_cons, h, if_true, List.length_cons, List.all_cons, Bool.true_and]
      rw [← ih]; omega
    · simp [h]

theorem all_take_all (l : List UInt8) (k : Nat) (h : l.length ≤ k) (ha : (l.take k).all nameByte = true) : l.all nameByte = true := by
  rwa [List.take_of_length_le h] at ha

theorem not_all_of (l : List UInt8) (k : Nat) (h : k < l.length) (hb : nameByte l[k] = false) : l.all nameByte = false := by
  rw [List.all_eq_false]; exact ⟨l[k], List.getElem_mem h, by simp [hb]⟩
theorem nameByte_1 {c : UInt8} (h : inB c.toNat 97 122 = true) : nameByte c = true := by simp [nameByte, h]
theorem nameByte_2 {c : UInt8} (h : inB c.toNat 48 57 = true) : nameByte c = true := by simp [nameByte, h]
theorem nameByte_0 {c : UInt8} (h : inB c.toNat 97 122 = false) (h' : inB c.toNat 48 57 = false) : nameByte c = false := by simp [nameByte, h, h']
theorem all_snoc (s : ByteArray) (k : Nat) (h : k < s.size) (ha : (s.data.toList.take k).all nameByte = true) (hb : nameByte s[k] = true) : (s.data.toList.take (k + 1)).all nameByte = true := by
  rw [take_snoc s k h, List.all_append, ha]; simp [hb]
theorem nameOk_no (s : ByteArray) (k : Nat) (h : k < s.size) (hb : nameByte s[k] = false) : nameOkB s.data.toList = false := by
  have := not_all_of s.data.toList k (by simpa using h) hb
  simp [nameOkB, this]
theorem nameOk_in (s : ByteArray) (k : Nat) (h : s.size ≤ k) (ha : (s.data.toList.take k).all nameByte = true) : nameOkB s.data.toList = inB s.size 1 12 := by
  have := all_take_all _ _ (by simpa using h) ha
  simp [nameOkB, this]
theorem nameByte_az {c : UInt8} (h : (97 : Int) ≤ (c.toNat : Int)) (h' : (c.toNat : Int) ≤ 122) : nameByte c = true := nameByte_1 (decide_eq_true ⟨h, h'⟩)
theorem nameByte_09 {c : UInt8} (h : (48 : Int) ≤ (c.toNat : Int)) (h' : (c.toNat : Int) ≤ 57) : nameByte c = true := nameByte_2 (decide_eq_true ⟨h, h'⟩)
theorem nameByte_no {c : UInt8} (h : (c.toNat : Int) < 97 ∨ 122 < (c.toNat : Int)) (h' : (c.toNat : Int) < 48 ∨ 57 < (c.toNat : Int)) : nameByte c = false :=
  nameByte_0 (decide_eq_false (by omega)) (decide_eq_false (by omega))
theorem run_here (s : ByteArray) (k : Nat) (h : k < s.size) (ha : (s.data.toList.take k).all nameByte = true) (hb : nameByte s[k] = false) : nameRun s.data.toList = k :=
  all_take_run _ k (by simp; omega) ha (.inr ⟨by simpa using h, hb⟩)
theorem run_end (s : ByteArray) (k : Nat) (h : k = s.size) (ha : (s.data.toList.take k).all nameByte = true) : nameRun s.data.toList = k :=
  all_take_run _ k (by simp; omega) ha (.inl (by simp; omega))
theorem nameOk_run (s : ByteArray) (h1 : (1 : Int) ≤ s.size) (h2 : (s.size : Int) ≤ 12) (b : Bool) (h : ((nameRun s.data.toList : Int) == (s.size : Int)) = b) : nameOkB s.data.toList = b := by
  have hr := run_all s.data.toList
  have : inB s.data.toList.length 1 12 = true := by simp [inB]; omega
  unfold nameOkB; rw [this, Bool.and_true]
  cases b
  · simp at h; rw [Bool.eq_false_iff]; intro hc; rw [← hr] at hc; simp at hc; omega
  · simp at h; rw [← hr]; simp; omega
theorem nameOk_out (s : ByteArray) (h : (s.size : Int) < 1 ∨ 12 < (s.size : Int)) : nameOkB s.data.toList = false := by
  have : inB s.data.toList.length 1 12 = false := by simp [inB]; omega
  unfold nameOkB; rw [this, Bool.and_false]

/-! ## The order of texts -/
theorem less_ne (x y : List UInt8) (k : Nat) (hx : k < x.length) (hy : k < y.length) (hp : x.take k = y.take k) (hn : x[k] ≠ y[k]) : Op.bytesLess x y = decide ((x[k].toNat : Int) < (y[k].toNat : Int)) := by
  induction k generalizing x y with
  | zero =>
    match x, y, hx, hy with
    | a :: x, b :: y, _, _ =>
      simp at hn
      simp [Op.bytesLess, hn, UInt8.lt_iff_toNat_lt]
  | succ k ih =>
    match x, y, hx, hy with
    | a :: x, b :: y, hx, hy =>
      simp at hp hn
      obtain ⟨rfl, hp⟩ := hp
      have := ih x y (by simpa using hx) (by simpa using hy) hp (by simpa using hn)
      simp only [Op.bytesLess, List.getElem_cons_succ]
      rw [this]; simp [UInt8.lt_irrefl]
theorem less_end (x y : List UInt8) (k : Nat) (hx : k ≤ x.length) (hy : k ≤ y.length) (hp : x.take k = y.take k) (he : k = x.length ∨ k = y.length) : Op.bytesLess x y = decide (x.length < y.length) := by
  induction k generalizing x y with
  | zero =>
    match x, y with
    | [], [] => simp [Op.bytesLess]
    | [], b :: y => simp [Op.bytesLess]
    | a :: x, [] => simp [Op.bytesLess]
    | a :: x, b :: y => simp at he
  | succ k ih =>
    match x, y, hx, hy with
    | a :: x, b :: y, hx, hy =>
      simp at hp
      obtain ⟨rfl, hp⟩ := hp
      have := ih x y (by simpa using hx) (by simpa using hy) hp (by simpa using he)
      simp only [Op.bytesLess]
      rw [this]; simp [UInt8.lt_irrefl]
def lessB (a b : ByteArray) : Bool := Op.bytesLess a.data.toList b.data.toList
theorem lessB_ne (a b : ByteArray) (k : Nat) (hx : k < a.size) (hy : k < b.size) (hp : a.data.toList.take k = b.data.toList.take k) (hn : ¬ (a[k].toNat : Int) = b[k].toNat) : lessB a b = decide (a[k].toNat < b[k].toNat) := by
  refine (less_ne _ _ k (by simpa using hx) (by simpa using hy) hp ?_).trans (by simp; rfl)
  intro h; apply hn
  have h' : a[k] = b[k] := by simp at h; exact h
  rw [h']
theorem lessB_end (a b : ByteArray) (k : Nat) (hx : k ≤ a.size) (hy : k ≤ b.size) (hp : a.data.toList.take k = b.data.toList.take k) (he : k = a.size ∨ k = b.size) : lessB a b = decide (a.size < b.size) := by
  exact less_end _ _ k (by simpa using hx) (by simpa using hy) hp (by simpa using he)
theorem take_both (a b : ByteArray) (k : Nat) (hx : k < a.size) (hy : k < b.size) (hp : a.data.toList.take k = b.data.toList.take k) (hn : (a[k].toNat : Int) = b[k].toNat) : a.data.toList.take (k + 1) = b.data.toList.take (k + 1) := by
  have : a[k] = b[k] := by apply UInt8.toNat_inj.mp; omega
  rw [take_snoc a k hx, take_snoc b k hy, hp, this]
end Go.Proofs.YtdpjdjkfedcojaaGreat

namespace Go.Proofs.YtdpjdjkfedcojaaGreat
open Go.RowKit

theorem i64_and255 (n : Int) : bits .and .i64 n 255 = n % 256 := by
  have h127 : (BitVec.ofInt 64 255).toNat = 2 ^ 8 - 1 := by decide
  have key : (BitVec.ofInt 64 n &&& BitVec.ofInt 64 255).toNat = (n % ((2 ^ 64 : Nat) : Int)).toNat % 2 ^ 8 := by
    rw [BitVec.toNat_and, BitVec.toNat_ofInt, h127, Nat.and_two_pow_sub_one_eq_mod]
  show IntKind.i64.wrap ((BitVec.ofInt 64 n &&& BitVec.ofInt 64 255).toNat : Nat) = n % 256
  rw [key, IntKind.wrap_i64]
  omega
theorem i64_and30 (n : Int) : bits .and .i64 n 1073741823 = n % 1073741824 := by
  have h127 : (BitVec.ofInt 64 1073741823).toNat = 2 ^ 30 - 1 := by decide
  have key : (BitVec.ofInt 64 n &&& BitVec.ofInt 64 1073741823).toNat = (n % ((2 ^ 64 : Nat) : Int)).toNat % 2 ^ 30 := by
    rw [BitVec.toNat_and, BitVec.toNat_ofInt, h127, Nat.and_two_pow_sub_one_eq_mod]
  show IntKind.i64.wrap ((BitVec.ofInt 64 n &&& BitVec.ofInt 64 1073741823).toNat : Nat) = n % 1073741824
  rw [key, IntKind.wrap_i64]
  omega

/-- The generator's step, and the byte that it gives. -/
def lcg (h : Int) : Int := wrap64 (wrap64 (h * 6364136223846793005) + 1442695040888963407)
def rawByte (h : Int) : Int := bits BinOp.xor IntKind.i64 (h / 8589934592) (h / 35184372088832) % 256
theorem raw_lo (h : Int) : 0 ≤ rawByte h := by unfold rawByte; omega
theorem raw_hi (h : Int) : rawByte h ≤ 255 := by unfold rawByte; omega

theorem heap_new (w : World) (o : Obj) : (w.alloc o).heap[w.heap.size]? = some o := by
  show (w.heap.push o)[w.heap.size]? = _; simp
/-- The byte that comes next: the code's own mixed in while there is one. -/
def nextB (zs : List Int) (len i : Nat) (h : Int) : Int := if i < len then (rawByte (lcg h) + zs.getD i 0) % 256 else rawByte (lcg h)
/-- The generator's first state, over a code's bytes. -/
def newHAt (zs : List Int) (len : Nat) : Nat → Int
  | 0 => 772772 + len
  | k + 1 => (newHAt zs len k * 131 + zs.getD k 0 + 7) % 1073741824
theorem newH_lo (zs : List Int) (len k : Nat) : 0 ≤ newHAt zs len k := by cases k <;> simp only [newHAt] <;> omega
theorem newH_hi (zs : List Int) (len k : Nat) (hl : len ≤ 1048576) : newHAt zs len k ≤ 1073741823 := by cases k <;> simp only [newHAt] <;> omega
theorem newH_step {zs : List Int} {len k : Nat} {H z : Int} (hH : H = newHAt zs len k) (hz : z = zs.getD k 0) : bits .and .i64 (H * 131 + z + 7) 1073741823 = newHAt zs len (k + 1) := by
  rw [i64_and30, hH, hz]; rfl
theorem grown_set (w : World) (p : Addr) (v : Value) : w.grownBy (w.setCell p v) (some p.block) :=
  ⟨rfl, rfl, rfl, by simp [World.setCell], fun k _ hn => Below.heap_setCell _ _ _ _ (fun e => hn (by rw [e]))⟩
theorem grown_draws (w : World) (n : Nat) (row : Option Nat) : w.grownBy (w.drewN n) row := ⟨rfl, rfl, rfl, Nat.le_refl _, fun _ _ _ => rfl⟩
theorem grown_drew (w : World) (row : Option Nat) : w.grownBy w.drew row := ⟨rfl, rfl, rfl, Nat.le_refl _, fun _ _ _ => rfl⟩

theorem add_block (x : Addr) (i : Nat) : (x.add i).block = x.block := by unfold Addr.add; split <;> rfl
theorem add_flat (b off i : Nat) : (⟨b, off, none⟩ : Addr).add i = ⟨b, off + i, none⟩ := by
  unfold Addr.add; split
  · rename_i h; subst h; rfl
  · rfl

/-- The code's row: it lies below block B. -/
def Row8 (w : World) (B : Nat) (a : Option Addr) (len cap : Nat) (zs : List Int) : Prop := IsRow .u8 w a len cap zs ∧ ∀ x, a = some x → 0 < zs.length → x.block < B
theorem row8_of {w : World} {a : Option Addr} {len cap : Nat} {zs : List Int} (h : IsRow .u8 w a len cap zs) : Row8 w w.heap.size a len cap zs := by
  refine ⟨h, fun x hx hz => ?_⟩
  rcases h with ⟨rfl, _⟩ | ⟨y, rfl, _, _, _, hc, _⟩
  · cases hx
  · cases hx
    have := World.block_lt_of_cell? w _ (hc 0 hz)
    simpa [Addr.add] using this
theorem Row8.len_le {w : World} {B : Nat} {a : Option Addr} {len cap : Nat} {zs : List Int} (h : Row8 w B a len cap zs) : len ≤ maxLen := by
  rcases h.1 with ⟨_, rfl, _, _⟩ | ⟨x, _, h1, h2, _⟩
  · exact Nat.zero_le _
  · omega
theorem Row8.byte {w : World} {B : Nat} {a : Option Addr} {len cap : Nat} {zs : List Int} (h : Row8 w B a len cap zs) (i : Nat) (hi : i < len) :
    ∃ b off z, a = some ⟨b, off, none⟩ ∧ b < B ∧ w.cell? ⟨b, off + i, none⟩ = some (.int .u8 z) ∧ 0 ≤ z ∧ z ≤ 255 ∧ z = zs.getD i 0 := by
  rcases h.1 with ⟨_, rfl, _, _⟩ | ⟨⟨b, off, spot⟩, rfl, h1, h2, h3, hc, hw⟩
  · omega
  · have hb := h.2 _ rfl (by omega)
    have hc0 := hc 0 (by omega)
    have hsp : spot = none := by simpa [Addr.add] using World.cell?_spot hc0
    subst hsp
    have hci := hc i (by omega)
    rw [add_flat] at hci
    have hz : zs.getD i 0 ∈ zs := by
      rw [List.getD_eq_getElem?_getD, List.getElem?_eq_getElem (by omega)]; simp
    have := bounds_u8 (hw _ hz)
    exact ⟨b, off, zs.getD i 0, rfl, hb, hci, this.1, this.2, rfl⟩
theorem Row8.kept {w w' : World} {B blk : Nat} {a : Option Addr} {len cap : Nat} {zs : List Int} (h : Row8 w B a len cap zs) (hg : w.grownBy w' (some blk)) (hB : B ≤ blk) : Row8 w' B a len cap zs := by
  refine ⟨?_, h.2⟩
  rcases h.1 with h0 | ⟨x, rfl, h1, h2, h3, hc, hw⟩
  · exact .inl h0
  · refine .inr ⟨x, rfl, h1, h2, h3, fun i hi => ?_, hw⟩
    have hb := h.2 _ rfl (by omega)
    exact hg.cell (hc i hi) (by rw [add_block]; simp; omega)
theorem Row8.below {w w' : World} {B : Nat} {a : Option Addr} {len cap : Nat} {zs : List Int} (h : Row8 w B a len cap zs) (hg : Below B w w') : Row8 w' B a len cap zs := by
  refine ⟨?_, h.2⟩
  rcases h.1 with h0 | ⟨x, rfl, h1, h2, h3, hc, hw⟩
  · exact .inl h0
  · refine .inr ⟨x, rfl, h1, h2, h3, fun i hi => ?_, hw⟩
    have hb := h.2 _ rfl (by omega)
    rw [hg.cell (by rw [add_block]; exact hb)]; exact hc i hi

theorem Row8.later {w w' : World} {a : Option Addr} {len cap : Nat} {zs : List Int} (h : Row8 w w.heap.size a len cap zs) (hb : Below w.heap.size w w') : Row8 w' w'.heap.size a len cap zs :=
  row8_of (h.below hb).1

/-- A number that an int holds. -/
def InR (h : Int) : Prop := -9223372036854775808 ≤ h ∧ h ≤ 9223372036854775807
theorem wrap_in (n : Int) : InR (wrap64 n) := by unfold InR wrap64; omega
theorem lcg_in (h : Int) : InR (lcg h) := wrap_in _

theorem newH_in (zs : List Int) (len k : Nat) (hl : len ≤ 1048576) : InR (newHAt zs len k) := by
  have h1 := newH_lo zs len k
  have h2 := newH_hi zs len k hl
  unfold InR; omega

/-- The cursor in block blk: over the row of bytes at a (below block B), i of them read, the generator at h. -/
structure Cur (T : TypeId) (w : World) (B blk : Nat) (a : Option Addr) (len cap : Nat) (zs : List Int) (i : Nat) (h : Int) : Prop where
  cells : w.heap[blk]? = some (.cells #[.slice a len cap, .int .i64 i, .int .i64 h] T (0, 0))
  row : Row8 w B a len cap zs
  le : B ≤ blk
  at_ : i ≤ len
  rng : InR h

section
variable {T : TypeId} {w : World} {B blk : Nat} {a : Option Addr} {len cap i : Nat} {zs : List Int} {h : Int}
theorem Cur.c0 (c : Cur T w B blk a len cap zs i h) : w.cell? ⟨blk, 0, none⟩ = some (.slice a len cap) := by simp [World.cell?, c.cells]
theorem Cur.c1 (c : Cur T w B blk a len cap zs i h) : w.cell? ⟨blk, 1, none⟩ = some (.int .i64 i) := by simp [World.cell?, c.cells]
theorem Cur.c2 (c : Cur T w B blk a len cap zs i h) : w.cell? ⟨blk, 2, none⟩ = some (.int .i64 h) := by simp [World.cell?, c.cells]
theorem Cur.f (c : Cur T w B blk a len cap zs i h) (j : Nat) : w.frozen? ⟨blk, j, none⟩ = false := by simp [World.frozen?, c.cells]
theorem Cur.lt (c : Cur T w B blk a len cap zs i h) : blk < w.heap.size := lt_of_block c.cells
theorem modify_at {w : World} {b : Nat} {o o' : Obj} {f : Obj → Obj} (h : w.heap[b]? = some o) (e : f o = o') : (w.heap.modify b f)[b]? = some o' := by
  have hlt := lt_of_block h
  have h' : w.heap[b] = o := by simpa [Array.getElem?_eq_getElem hlt] using h
  rw [Array.getElem?_eq_getElem (by simpa using hlt), Array.getElem_modify_self, h', e]
theorem Cur.set2 (c : Cur T w B blk a len cap zs i h) (h' : Int) (hr : InR h') : Cur T (w.setCell ⟨blk, 2, none⟩ (.int .i64 h')) B blk a len cap zs i h' :=
  ⟨modify_at c.cells rfl, c.row.kept (grown_set w _ _) c.le, c.le, c.at_, hr⟩
theorem Cur.set1 (c : Cur T w B blk a len cap zs i h) (i' : Nat) (hi : i' ≤ len) : Cur T (w.setCell ⟨blk, 1, none⟩ (.int .i64 i')) B blk a len cap zs i' h :=
  ⟨modify_at c.cells rfl, c.row.kept (grown_set w _ _) c.le, c.le, hi, c.rng⟩
theorem Cur.drewN (c : Cur T w B blk a len cap zs i h) (n : Nat) : Cur T (w.drewN n) B blk a len cap zs i h := ⟨c.cells, c.row.kept (blk := blk) (grown_draws _ _ _) c.le, c.le, c.at_, c.rng⟩
theorem Cur.drew (c : Cur T w B blk a len cap zs i h) : Cur T w.drew B blk a len cap zs i h := ⟨c.cells, c.row.kept (blk := blk) (grown_drew _ _) c.le, c.le, c.at_, c.rng⟩
/-- Whatever leaves the cursor's block and the blocks below B alone. -/
theorem Cur.kept {w' : World} (c : Cur T w B blk a len cap zs i h) (hg : Below B w w') (hb : w'.heap[blk]? = w.heap[blk]?) : Cur T w' B blk a len cap zs i h :=
  ⟨hb.trans c.cells, c.row.below hg, c.le, c.at_, c.rng⟩
theorem Cur.alloc (c : Cur T w B blk a len cap zs i h) (o : Obj) : Cur T (w.alloc o) B blk a len cap zs i h :=
  c.kept ((Below.refl _ _).alloc (by have := c.lt; have := c.le; omega) _) (Below.heap_alloc _ _ _ c.lt)
end

/-- The cursor, wherever it stands. -/
def Cu (T : TypeId) (w : World) (B blk : Nat) : Prop := ∃ a len cap zs i h, Cur T w B blk a len cap zs i h
theorem Cu.lt {T : TypeId} {w : World} {B blk : Nat} (c : Cu T w B blk) : blk < w.heap.size := by
  obtain ⟨_, _, _, _, _, _, c⟩ := c; exact c.lt
theorem Cu.le {T : TypeId} {w : World} {B blk : Nat} (c : Cu T w B blk) : B ≤ blk := by
  obtain ⟨_, _, _, _, _, _, c⟩ := c; exact c.le
theorem Cu.kept {T : TypeId} {w w' : World} {B blk : Nat} (c : Cu T w B blk) (hg : Below B w w') (hb : w'.heap[blk]? = w.heap[blk]?) : Cu T w' B blk := by
  obtain ⟨a, len, cap, zs, i, h, c⟩ := c; exact ⟨a, len, cap, zs, i, h, c.kept hg hb⟩
theorem Cu.alloc {T : TypeId} {w : World} {B blk : Nat} (c : Cu T w B blk) (o : Obj) : Cu T (w.alloc o) B blk := by
  obtain ⟨a, len, cap, zs, i, h, c⟩ := c; exact ⟨a, len, cap, zs, i, h, c.alloc o⟩
theorem Cu.drewN {T : TypeId} {w : World} {B blk : Nat} (c : Cu T w B blk) (n : Nat) : Cu T (w.drewN n) B blk := by
  obtain ⟨a, len, cap, zs, i, h, c⟩ := c; exact ⟨a, len, cap, zs, i, h, c.drewN n⟩
theorem Cu.drew {T : TypeId} {w : World} {B blk : Nat} (c : Cu T w B blk) : Cu T w.drew B blk := by
  obtain ⟨a, len, cap, zs, i, h, c⟩ := c; exact ⟨a, len, cap, zs, i, h, c.drew⟩

/-- What a draw of a number in 0 .. n-1 leaves. -/
def DrewInt (T : TypeId) (w : World) (B blk : Nat) (P : Int → Prop) (e : Ending) (w' : World) : Prop := ∃ x : Int, P x ∧ e = .returned (.int .i64 x) ∧ Cu T w' B blk ∧ w.grownBy w' (some blk)
/-- The same, told exactly: how far the code has been read, how the generator stands, what it gave. -/
def DrewByte (T : TypeId) (w : World) (B blk : Nat) (a : Option Addr) (len cap : Nat) (zs : List Int) (i : Nat) (h : Int) (e : Ending) (w' : World) : Prop :=
  ∃ (x : Int) (i' : Nat), 0 ≤ x ∧ x ≤ 255 ∧ Hid (x = nextB zs len i h) ∧ Hid (i' = (if i < len then i + 1 else i)) ∧ e = .returned (.int .i64 x) ∧ Cur T w' B blk a len cap zs i' (lcg h) ∧ w.grownBy w' (some blk)
/-- What a draw of a bool, of a text leaves. -/
def DrewBool (T : TypeId) (w : World) (B blk : Nat) (e : Ending) (w' : World) : Prop := ∃ b : Bool, e = .returned (.bool b) ∧ Cu T w' B blk ∧ w.grownBy w' (some blk)
def DrewVal (T : TypeId) (w : World) (B blk : Nat) (Q : Value → Prop) (e : Ending) (w' : World) : Prop := ∃ v, Q v ∧ e = .returned v ∧ Cu T w' B blk ∧ w.grownBy w' (some blk)
/-- A number in 0 .. n-1; 0 where n is not above 0. -/
def Under (n x : Int) : Prop := 0 ≤ x ∧ (0 < n → x < n) ∧ (n ≤ 0 → x = 0)
/-- A row of texts that the walk has just laid: what each of its cells is. -/
def Short (k : Nat) (v : Value) : Prop := ∃ s : ByteArray, v = .string s ∧ s.size ≤ k
theorem Short.mono {k m : Nat} {v : Value} (h : Short k v) (hm : k ≤ m) : Short m v := by
  obtain ⟨s, h1, h2⟩ := h; exact ⟨s, h1, by omega⟩
def shortB (k : Nat) : Value → Bool
  | .string s => decide (s.size ≤ k)
  | _ => false
theorem short_of {k : Nat} {v : Value} (h : shortB k v = true) : Short k v := by
  cases v <;> simp [shortB] at h
  exact ⟨_, rfl, h⟩
theorem lit_texts (w : World) (l : List Value) (t : TypeId) (k : Nat) (h : ∀ v ∈ l, Short k v) : ∀ j, j < l.length → ∃ s, (w.alloc (.cells l.toArray t)).cell? ⟨w.heap.size, j, none⟩ = some (.string s) ∧ Short k (.string s) := by
  intro j hj
  obtain ⟨s, hs, hk⟩ := h l[j] (List.getElem_mem hj)
  exact ⟨s, by rw [World.cell?_alloc_new, ← hs]; simp [hj], s, rfl, hk⟩
theorem lit_ints (w : World) (l : List Value) (t : TypeId) (Q : Value → Prop) (h : ∀ v ∈ l, ∃ n : Int, v = .int .i64 n ∧ Q v) : ∀ j, j < l.length → ∃ n : Int, (w.alloc (.cells l.toArray t)).cell? ⟨w.heap.size, j, none⟩ = some (.int .i64 n) ∧ Q (.int .i64 n) := by
  intro j hj
  obtain ⟨n, hn, hq⟩ := h l[j] (List.getElem_mem hj)
  exact ⟨n, by rw [World.cell?_alloc_new, ← hn]; simp [hj], hn ▸ hq⟩
/-- A draw of a text of at most k bytes. -/
def DrewText (T : TypeId) (w : World) (B blk k : Nat) (e : Ending) (w' : World) : Prop := ∃ s : ByteArray, s.size ≤ k ∧ e = .returned (.string s) ∧ Cu T w' B blk ∧ w.grownBy w' (some blk)
/-- What a drawing function leaves: a number; a text of at most k bytes; two texts. -/
def DrawnInt (w : World) (e : Ending) (w' : World) : Prop := ∃ n : Int, e = .returned (.int .i64 n) ∧ -9223372036854775808 ≤ n ∧ n ≤ 9223372036854775807 ∧ Below w.heap.size w w'
def DrawnText (k : Nat) (w : World) (e : Ending) (w' : World) : Prop := ∃ s : ByteArray, e = .returned (.string s) ∧ s.size ≤ k ∧ Below w.heap.size w w'
def DrawnText2 (k : Nat) (w : World) (e : Ending) (w' : World) : Prop := ∃ s t : ByteArray, e = .returned (.tuple #[.string s, .string t]) ∧ s.size ≤ k ∧ t.size ≤ k ∧ Below w.heap.size w w'
/-- What is written to the cursor alone, which lies beyond B, leaves what lies below B. -/
theorem below_grown {B blk : Nat} {w w1 w2 : World} (h : Below B w w1) (hg : w1.grownBy w2 (some blk)) (hB : B ≤ blk) (hB' : B ≤ w1.heap.size) : Below B w w2 :=
  h.grown hg hB' (fun k e => by cases e; exact hB)
/-- Where the code's reader stands behind one byte. -/
def nextI (len i : Nat) : Nat := if i < len then i + 1 else i
/-- What a draw leaves, told exactly. -/
def DrewAt (T : TypeId) (w : World) (B blk : Nat) (a : Option Addr) (len cap : Nat) (zs : List Int) (i : Nat) (h : Int) (v : Value) (e : Ending) (w' : World) : Prop :=
  e = .returned v ∧ Cur T w' B blk a len cap zs (nextI len i) (lcg h) ∧ w.grownBy w' (some blk)
end Go.Proofs.YtdpjdjkfedcojaaGreat

namespace Go.Proofs.YtdpjdjkfedcojaaGreat
open Go.RowKit
set_option linter.unusedVariables false

structure It where
  k : ByteArray
  v : ByteArray
structure Tk where
  c : ByteArray
  q : Int
  r : ByteArray
structure St where
  items : List It
  talks : List Tk
instance : Inhabited It := ⟨⟨⟨#[]⟩, ⟨#[]⟩⟩⟩
instance : Inhabited Tk := ⟨⟨⟨#[]⟩, 0, ⟨#[]⟩⟩⟩
def itC (x : It) : List Value := [.string x.k, .string x.v]
def tkC (x : Tk) : List Value := [.string x.c, .int .i64 x.q, .string x.r]
def itA (x : It) : Value := .agg #[.string x.k, .string x.v]
def tkA (x : Tk) : Value := .agg #[.string x.c, .int .i64 x.q, .string x.r]

/-- Cells one behind the other. -/
def At (w : World) (g o : Nat) (cs : List Value) : Prop := ∀ j u, cs[j]? = some u → w.cell? ⟨g, o + j, none⟩ = some u
theorem At.nil (w : World) (g o : Nat) : At w g o [] := fun j u h => by simp at h
theorem At.cons {w : World} {g o : Nat} {v : Value} {cs : List Value} : At w g o (v :: cs) ↔ w.cell? ⟨g, o, none⟩ = some v ∧ At w g (o + 1) cs := by
  constructor
  · intro h
    refine ⟨h 0 v rfl, fun j u hu => ?_⟩
    have := h (j + 1) u (by simpa using hu)
    rwa [show o + (j + 1) = o + 1 + j by omega] at this
  · rintro ⟨h0, h1⟩ j u hu
    cases j with
    | zero => simp at hu; subst hu; simpa using h0
    | succ j =>
      have := h1 j u (by simpa using hu)
      rwa [show o + 1 + j = o + (j + 1) by omega] at this
theorem At.append {w : World} {g o : Nat} {a b : List Value} : At w g o (a ++ b) ↔ At w g o a ∧ At w g (o + a.length) b := by
  induction a generalizing o with
  | nil => simp [At.nil]
  | cons v a ih =>
    rw [List.cons_append, At.cons, At.cons, ih, and_assoc, List.length_cons, show o + 1 + a.length = o + (a.length + 1) by omega]
theorem At.below {w w' : World} {g o B : Nat} {cs : List Value} (h : At w g o cs) (hb : Below B w w') (hg : g < B) : At w' g o cs := fun j u hu => by
  rw [hb.cell hg]; exact h j u hu

/-- A slice of n elements of k cells each: nil; or cells in a block below B. -/
def Row (w : World) (B k : Nat) (v : Value) (n : Nat) (cs : List Value) : Prop :=
  cs.length = n * k ∧ ((v = .slice none 0 0 ∧ n = 0) ∨ ∃ g o cap, v = .slice (some ⟨g, o, none⟩) n cap ∧ n ≤ cap ∧ cap ≤ maxLen ∧ (n = 0 ∨ g < B) ∧ At w g o cs)
def RowI (w : World) (B : Nat) (v : Value) (xs : List It) : Prop := Row w B 2 v xs.length (xs.flatMap itC)
def RowT (w : World) (B : Nat) (v : Value) (xs : List Tk) : Prop := Row w B 3 v xs.length (xs.flatMap tkC)
/-- A state by value. -/
def StV (w : World) (B : Nat) (v : Value) (s : St) : Prop := ∃ vi vt, v = .agg #[vi, vt] ∧ RowI w B vi s.items ∧ RowT w B vt s.talks
theorem Row.later {w w' : World} {B B' k n : Nat} {v : Value} {cs : List Value} (h : Row w B k v n cs) (hk : 0 < k) (hb : Below B w w') (hB : B ≤ B') : Row w' B' k v n cs := by
  obtain ⟨hl, h⟩ := h
  refine ⟨hl, ?_⟩
  rcases h with h | ⟨g, o, cap, rfl, h1, h2, h3, h4⟩
  · exact .inl h
  · rcases h3 with rfl | h3
    · have : cs = [] := List.eq_nil_of_length_eq_zero (by simpa using hl)
      subst this
      exact .inr ⟨g, o, cap, rfl, h1, h2, .inl rfl, At.nil _ _ _⟩
    · exact .inr ⟨g, o, cap, rfl, h1, h2, .inr (Nat.lt_of_lt_of_le h3 hB), h4.below hb h3⟩
theorem StV.later {w w' : World} {B B' : Nat} {v : Value} {s : St} (h : StV w B v s) (hb : Below B w w') (hB : B ≤ B') : StV w' B' v s := by
  obtain ⟨vi, vt, rfl, h1, h2⟩ := h
  exact ⟨vi, vt, rfl, h1.later (by decide) hb hB, h2.later (by decide) hb hB⟩
theorem flat_len_it (xs : List It) : (xs.flatMap itC).length = xs.length * 2 := by
  induction xs with
  | nil => rfl
  | cons x xs ih => rw [List.flatMap_cons, List.length_append, ih, List.length_cons]; simp [itC]; omega
theorem flat_len_tk (xs : List Tk) : (xs.flatMap tkC).length = xs.length * 3 := by
  induction xs with
  | nil => rfl
  | cons x xs ih => rw [List.flatMap_cons, List.length_append, ih, List.length_cons]; simp [tkC]; omega
/-- An item's two cells. -/
theorem At.item {w : World} {g o : Nat} {xs : List It} (h : At w g o (xs.flatMap itC)) (i : Nat) (hi : i < xs.length) :
    w.cell? ⟨g, o + i * 2, none⟩ = some (.string xs[i].k) ∧ w.cell? ⟨g, o + i * 2 + 1, none⟩ = some (.string xs[i].v) := by
  induction xs generalizing o i with
  | nil => simp at hi
  | cons x xs ih =>
    rw [List.flatMap_cons, At.append] at h
    cases i with
    | zero =>
      have h1 := h.1
      simp only [itC, At.cons] at h1
      exact ⟨by simpa using h1.1, by simpa using h1.2.1⟩
    | succ i =>
      have := ih h.2 i (by simpa using hi)
      simp only [itC, List.length_cons, List.length_nil] at this
      rw [show o + (0 + 1 + 1) + i * 2 = o + (i + 1) * 2 by omega] at this
      exact this
theorem At.talk {w : World} {g o : Nat} {xs : List Tk} (h : At w g o (xs.flatMap tkC)) (i : Nat) (hi : i < xs.length) :
    w.cell? ⟨g, o + i * 3, none⟩ = some (.string xs[i].c) ∧ w.cell? ⟨g, o + i * 3 + 1, none⟩ = some (.int .i64 xs[i].q) ∧ w.cell? ⟨g, o + i * 3 + 2, none⟩ = some (.string xs[i].r) := by
  induction xs generalizing o i with
  | nil => simp at hi
  | cons x xs ih =>
    rw [List.flatMap_cons, At.append] at h
    cases i with
    | zero =>
      have h1 := h.1
      simp only [tkC, At.cons] at h1
      exact ⟨by simpa using h1.1, by simpa using h1.2.1, by simpa using h1.2.2.1⟩
    | succ i =>
      have := ih h.2 i (by simpa using hi)
      simp only [tkC, List.length_cons, List.length_nil] at this
      rw [show o + (0 + 1 + 1 + 1) + i * 3 = o + (i + 1) * 3 by omega] at this
      exact this
/-- Two texts compared, as the walk spells it. -/
theorem teq {a b : ByteArray} (h : a = b) : (a.toList == b.toList) = true := by rw [h]; simp
theorem tne {a b : ByteArray} (h : ¬ a = b) : (a.toList == b.toList) = false := by
  rw [Bool.eq_false_iff]; intro hc; apply h
  simp only [ByteArray.toList_eq, beq_iff_eq] at hc
  exact ByteArray.ext (Array.toList_inj.mp hc)
/-- The first item with a key. -/
def itemAt (xs : List It) (key : ByteArray) : Int := match xs.findIdx? (fun x => decide (x.k = key)) with | some i => (i : Int) | none => -1
def talkAt (xs : List Tk) (c : ByteArray) : Int := match xs.findIdx? (fun x => decide (x.c = c)) with | some i => (i : Int) | none => -1
theorem itemAt_found {xs : List It} {key : ByteArray} {k : Nat} (hk : k < xs.length) (h : xs[k].k = key) (hb : ∀ i (hi : i < k), ¬ xs[i].k = key) : itemAt xs key = k := by
  have : xs.findIdx? (fun x => decide (x.k = key)) = some k := List.findIdx?_eq_some_iff_getElem.2 ⟨hk, by simpa using h, fun j hj => by simpa using hb j hj⟩
  unfold itemAt; rw [this]
theorem itemAt_none {xs : List It} {key : ByteArray} (hb : ∀ i (hi : i < xs.length), ¬ xs[i].k = key) : itemAt xs key = -1 := by
  have : xs.findIdx? (fun x => decide (x.k = key)) = none := by
    rw [List.findIdx?_eq_none_iff]
    intro x hx
    obtain ⟨i, hi, rfl⟩ := List.getElem_of_mem hx
    simpa using hb i hi
  unfold itemAt; rw [this]
theorem talkAt_found {xs : List Tk} {key : ByteArray} {k : Nat} (hk : k < xs.length) (h : xs[k].c = key) (hb : ∀ i (hi : i < k), ¬ xs[i].c = key) : talkAt xs key = k := by
  have : xs.findIdx? (fun x => decide (x.c = key)) = some k := List.findIdx?_eq_some_iff_getElem.2 ⟨hk, by simpa using h, fun j hj => by simpa using hb j hj⟩
  unfold talkAt; rw [this]
theorem talkAt_none {xs : List Tk} {key : ByteArray} (hb : ∀ i (hi : i < xs.length), ¬ xs[i].c = key) : talkAt xs key = -1 := by
  have : xs.findIdx? (fun x => decide (x.c = key)) = none := by
    rw [List.findIdx?_eq_none_iff]
    intro x hx
    obtain ⟨i, hi, rfl⟩ := List.getElem_of_mem hx
    simpa using hb i hi
  unfold talkAt; rw [this]
theorem itemAt_lo (xs : List It) (key : ByteArray) : -1 ≤ itemAt xs key := by unfold itemAt; split <;> omega
theorem talkAt_lo (xs : List Tk) (key : ByteArray) : -1 ≤ talkAt xs key := by unfold talkAt; split <;> omega
theorem itemAt_hi (xs : List It) (key : ByteArray) : itemAt xs key < xs.length ∨ itemAt xs key = -1 := by
  unfold itemAt
  split
  · rename_i i h; have := (List.findIdx?_eq_some_iff_getElem.1 h).1; left; omega
  · right; rfl
end Go.Proofs.YtdpjdjkfedcojaaGreat

namespace Go.Proofs.YtdpjdjkfedcojaaGreat
open Go.RowKit
set_option linter.unusedVariables false

theorem in_any (x a b : Int) (w : World) : Calls Tryz.prog 66 #[.int .i64 x, .int .i64 a, .int .i64 b] w fun e w' => e = .returned (.bool (inB x a b)) ∧ w = w' := by
  by_cases h1 : a ≤ x
  · by_cases h2 : x ≤ b
    all_goals
      have h : Hid (inB x a b = decide (a ≤ x ∧ x ≤ b)) := Lib.hid rfl
      go_enter Tryz.func66, Tryz.ntmps66
      go_wp2
      go_ret
      exact ⟨by simp [h.out, *], rfl⟩
  · have h : inB x a b = false := by simp [inB]; omega
    go_enter Tryz.func66, Tryz.ntmps66
    go_wp2
    go_ret
    exact ⟨rfl, rfl⟩
end Go.Proofs.YtdpjdjkfedcojaaGreat

namespace Go.Proofs.YtdpjdjkfedcojaaGreat
open Go.RowKit
set_option linter.unusedVariables false

theorem digit_any (c : Nat) (hc : c < 256) (w : World) : Calls Tryz.prog 105 #[.int .u8 c] w fun e w' => e = .returned (.bool (inB c 48 57)) ∧ w = w' := by
  go_enter Tryz.func105, Tryz.ntmps105
  go_wp2_with (go_at_call 66; refine (in_any _ _ _ _).mono ?_; rintro e w' ⟨rfl, rfl⟩)
  go_ret
  exact ⟨rfl, rfl⟩


set_option maxHeartbeats 400000 in
theorem spec_nameOk (s : ByteArray) (w : World) (hs : s.size ≤ maxLen) :
    Calls Tryz.prog 71 #[.string s] w fun e w' => e = .returned (.bool (nameOkB s.data.toList)) ∧ w = w' := by
  unfold maxLen at hs
  go_enter Tryz.func71, Tryz.ntmps71
  go_wp2
  go_loop [3] (fun i => ∃ k : Nat, k ≤ s.size ∧ i = .int .i64 k ∧ Hid ((s.data.toList.take k).all nameByte = true)) (fun i => s.size - (intOf i).toNat)
  case atStart => exact ⟨0, Nat.zero_le _, rfl, Lib.hid (by simp)⟩
  case round =>
    obtain ⟨k, hk, rfl, hall⟩ := hrel
    by_cases hlt : k < s.size
    · have hc : s[k].toNat < 256 := s[k].toNat_lt
      by_cases ha : inB s[k].toNat 97 122 = true
      · have hn := Lib.hid (nameByte_1 ha)
        go_wp2_with (go_at_call 66; refine (in_any _ _ _ _).mono ?_; rintro e w' ⟨rfl, rfl⟩)
        go_round
        case rel => exact ⟨k + 1, by omega, by go_num, Lib.hid (all_snoc s k hlt hall.out hn.out)⟩
        case measure => simp [intOf]; omega
      · have ha : inB s[k].toNat 97 122 = false := by simpa using ha
        by_cases hd : inB s[k].toNat 48 57 = true
        · have hn := Lib.hid (nameByte_2 hd)
          go_wp2_with (first | (go_at_call 66; refine (in_any _ _ _ _).mono ?_; rintro e w' ⟨rfl, rfl⟩) | (go_at_call 105; refine (digit_any _ hc _).mono ?_; rintro e w' ⟨rfl, rfl⟩))
          go_round
          case rel => exact ⟨k + 1, by omega, by go_num, Lib.hid (all_snoc s k hlt hall.out hn.out)⟩
          case measure => simp [intOf]; omega
        · have hd : inB s[k].toNat 48 57 = false := by simpa using hd
          have hn := Lib.hid (nameOk_no s k hlt (nameByte_0 ha hd))
          go_wp2_with (first | (go_at_call 66; refine (in_any _ _ _ _).mono ?_; rintro e w' ⟨rfl, rfl⟩) | (go_at_call 105; refine (digit_any _ hc _).mono ?_; rintro e w' ⟨rfl, rfl⟩))
          go_ret
          exact ⟨ret_bool (by rw [hn.out]), rfl⟩
    · have hn := Lib.hid (nameOk_in s k (by omega) hall.out)
      go_wp2_with (go_at_call 66; refine (in_any _ _ _ _).mono ?_; rintro e w' ⟨rfl, rfl⟩)
      go_ret
      exact ⟨ret_bool (by rw [hn.out]), rfl⟩

set_option maxHeartbeats 400000 in
theorem nameBytes_any (s : ByteArray) (w : World) (hs : s.size ≤ maxLen) :
    Calls Tryz.prog 139 #[.string s] w fun e w' => e = .returned (.int .i64 (nameRun s.data.toList)) ∧ w = w' := by
  unfold maxLen at hs
  go_enter Tryz.func139, Tryz.ntmps139
  go_wp2
  go_step3
  go_wp2
  go_step3
  go_wp2
  go_loop [3] (fun i => ∃ k : Nat, k ≤ s.size ∧ i = .int .i64 k ∧ Hid ((s.data.toList.take k).all nameByte = true)) (fun i => s.size - (intOf i).toNat)
  case atStart => exact ⟨0, Nat.zero_le _, rfl, Lib.hid (by simp)⟩
  case round =>
    obtain ⟨k, hk, rfl, hall⟩ := hrel
    by_cases hlt : k < s.size
    · have hc : s[k].toNat < 256 := s[k].toNat_lt
      have hno : Hid ((s[k].toNat : Int) < 97 ∨ 122 < (s[k].toNat : Int) → (s[k].toNat : Int) < 48 ∨ 57 < (s[k].toNat : Int) → nameRun s.data.toList = k) := Lib.hid fun a b => run_here s k hlt hall.out (nameByte_no a b)
      by_cases h1 : (97 : Int) ≤ (s[k].toNat : Int)
      · by_cases h2 : (s[k].toNat : Int) ≤ 122
        · have hn := Lib.hid (all_snoc s k hlt hall.out (nameByte_az h1 h2))
          go_wp2
          go_round
          case rel => exact ⟨k + 1, by omega, by go_num, hn⟩
          case measure => simp [intOf]; omega
        · have hn := Lib.hid (hno.out (by omega) (by omega))
          go_wp2
          try rw [Exit.noGoto_ret]
          go_ret
          exact ⟨ret_int (by rw [hn.out]), rfl⟩
      · by_cases h3 : (48 : Int) ≤ (s[k].toNat : Int)
        · by_cases h4 : (s[k].toNat : Int) ≤ 57
          · have hn := Lib.hid (all_snoc s k hlt hall.out (nameByte_09 h3 h4))
            go_wp2
            go_round
            case rel => exact ⟨k + 1, by omega, by go_num, hn⟩
            case measure => simp [intOf]; omega
          · have hn := Lib.hid (hno.out (by omega) (by omega))
            go_wp2
            try rw [Exit.noGoto_ret]
            go_ret
            exact ⟨ret_int (by rw [hn.out]), rfl⟩
        · have hn := Lib.hid (hno.out (by omega) (by omega))
          go_wp2
          try rw [Exit.noGoto_ret]
          go_ret
          exact ⟨ret_int (by rw [hn.out]), rfl⟩
    · have hn := Lib.hid (run_end s k (by omega) hall.out)
      go_wp2
      try rw [Exit.noGoto_ret]
      go_ret
      exact ⟨ret_int (by rw [hn.out]), rfl⟩

theorem impl_nameOk (s : ByteArray) (w : World) (hs : s.size ≤ maxLen) :
    Calls Tryz.prog 137 #[.string s] w fun e w' => e = .returned (.bool (nameOkB s.data.toList)) ∧ w = w' := by
  have hr := nameRun_le s.data.toList
  simp at hr
  unfold maxLen at hs
  by_cases h1 : (1 : Int) ≤ (s.size : Int)
  · by_cases h2 : (s.size : Int) ≤ 12
    · have hn : Hid (∀ b, ((nameRun s.data.toList : Int) == (s.size : Int)) = b → nameOkB s.data.toList = b) := Lib.hid fun b h => nameOk_run s h1 h2 b h
      by_cases h3 : ((nameRun s.data.toList : Int) == (s.size : Int)) = true
      · have hn := Lib.hid (hn.out _ h3)
        go_enter Tryz.func137, Tryz.ntmps137
        go_wp2_with (go_at_call 139; refine (nameBytes_any _ _ (by unfold maxLen; omega)).mono ?_; rintro e w' ⟨rfl, rfl⟩)
        go_ret
        exact ⟨ret_bool (by rw [hn.out]), rfl⟩
      · have h3 : ((nameRun s.data.toList : Int) == (s.size : Int)) = false := by simpa using h3
        have hn := Lib.hid (hn.out _ h3)
        go_enter Tryz.func137, Tryz.ntmps137
        go_wp2_with (go_at_call 139; refine (nameBytes_any _ _ (by unfold maxLen; omega)).mono ?_; rintro e w' ⟨rfl, rfl⟩)
        go_ret
        exact ⟨ret_bool (by rw [hn.out]), rfl⟩
    · have hn := Lib.hid (nameOk_out s (by omega))
      go_enter Tryz.func137, Tryz.ntmps137
      go_wp2_with fail
      go_ret
      exact ⟨ret_bool (by rw [hn.out]), rfl⟩
  · have hn := Lib.hid (nameOk_out s (by omega))
    go_enter Tryz.func137, Tryz.ntmps137
    go_wp2_with fail
    go_ret
    exact ⟨ret_bool (by rw [hn.out]), rfl⟩

end Go.Proofs.YtdpjdjkfedcojaaGreat

namespace Go.Proofs.YtdpjdjkfedcojaaGreat
open Go.RowKit
set_option linter.unusedVariables false

theorem less_any (a b : ByteArray) (w : World) : Calls Tryz.prog 87 #[.string a, .string b] w fun e w' => e = .returned (.bool (lessB a b)) ∧ w = w' := by
  have h : Hid (lessB a b = Op.bytesLess a.toList b.toList) := Lib.hid (by rw [ByteArray.toList_eq, ByteArray.toList_eq]; rfl)
  go_enter Tryz.func87, Tryz.ntmps87
  go_wp2
  go_ret
  exact ⟨ret_bool h.out.symm, rfl⟩

set_option maxHeartbeats 400000 in
theorem spec_before (a b : ByteArray) (w : World) (ha : a.size ≤ maxLen) (hb : b.size ≤ maxLen) :
    Calls Tryz.prog 35 #[.string a, .string b] w fun e w' => e = .returned (.bool (lessB a b)) ∧ ∃ n, w' = w.drewN n := by
  unfold maxLen at ha hb
  go_enter Tryz.func35, Tryz.ntmps35
  go_wp2
  go_loopw [5] (fun i wr => (∃ n, wr = w.drewN n) ∧ ∃ k : Nat, k ≤ a.size ∧ k ≤ b.size ∧ i = .int .i64 k ∧ Hid (a.data.toList.take k = b.data.toList.take k)) (fun i _ => a.size - (intOf i).toNat)
  case atStart => exact ⟨⟨0, rfl⟩, 0, Nat.zero_le _, Nat.zero_le _, rfl, Lib.hid (by simp)⟩
  case round =>
    obtain ⟨⟨n, rfl⟩, k, hka, hkb, rfl, hall⟩ := hrel
    by_cases hla : k < a.size
    · by_cases hlb : k < b.size
      · by_cases he : (a[k].toNat : Int) = b[k].toNat
        · have hn := Lib.hid (take_both a b k hla hlb hall.out he)
          have he1 : ((a[k].toNat : Int) != b[k].toNat) = false := by simpa using he
          clear he
          go_wp2
          go_quiet (fail)
          go_wp2
          go_roundw
          case rel => exact ⟨⟨_, rfl⟩, k + 1, by omega, by omega, by go_num, hn⟩
          case measure => simp [intOf]; omega
        · have hn := Lib.hid (lessB_ne a b k hla hlb hall.out he)
          have he1 : ((a[k].toNat : Int) != b[k].toNat) = true := by simpa using he
          clear he
          go_wp2
          go_quiet (fail)
          go_wp2
          go_quiet (fail)
          go_wp2
          go_ret
          exact ⟨ret_bool (by rw [hn.out]), _, by rw [World.drewN_drewN, World.drewN_drewN]⟩
      · have hn := Lib.hid (lessB_end a b k hka hkb hall.out (by omega))
        go_wp2
        go_ret
        exact ⟨ret_bool (by rw [hn.out]), n, rfl⟩
    · have hn := Lib.hid (lessB_end a b k hka hkb hall.out (by omega))
      go_wp2
      go_ret
      exact ⟨ret_bool (by rw [hn.out]), n, rfl⟩

end Go.Proofs.YtdpjdjkfedcojaaGreat

namespace Go.Proofs.YtdpjdjkfedcojaaGreat
open Go.RowKit
set_option linter.unusedVariables false

def itOk (x : It) : Bool := nameOkB x.k.data.toList && decide ((x.v.size : Int) ≤ 60)
def tkOk (x : Tk) : Bool := (nameOkB x.c.data.toList && inB x.q 1 1000000000) && decide ((x.r.size : Int) ≤ 60)

theorem spec_item (x : It) (w : World) (hk : x.k.size ≤ maxLen) :
    Calls Tryz.prog 34 #[itA x] w fun e w' => e = .returned (.bool (itOk x)) ∧ Below w.heap.size w w' := by
  unfold itA itOk
  generalize hn : nameOkB x.k.data.toList = n
  have hc := fun w => spec_nameOk x.k w hk
  rw [hn] at hc
  clear hn
  cases n
  all_goals
    go_enter Tryz.func34, Tryz.ntmps34
    go_wp2_with (go_at_call 71; refine (hc _).mono ?_; rintro e w' ⟨rfl, rfl⟩)
    go_ret
    exact ⟨rfl, (Below.refl _ _).alloc (Nat.le_refl _) _⟩

theorem spec_talk (x : Tk) (w : World) (hk : x.c.size ≤ maxLen) (hq : -9223372036854775808 ≤ x.q ∧ x.q ≤ 9223372036854775807) :
    Calls Tryz.prog 36 #[tkA x] w fun e w' => e = .returned (.bool (tkOk x)) ∧ Below w.heap.size w w' := by
  unfold tkA tkOk
  generalize hn : nameOkB x.c.data.toList = n
  have hc := fun w => spec_nameOk x.c w hk
  rw [hn] at hc
  clear hn
  generalize hm : inB x.q 1 1000000000 = m
  have hc2 := fun w => in_any x.q 1 1000000000 w
  rw [hm] at hc2
  clear hm
  cases n <;> cases m
  all_goals
    go_enter Tryz.func36, Tryz.ntmps36
    go_wp2_with (first | (go_at_call 71; refine (hc _).mono ?_; rintro e w' ⟨rfl, rfl⟩) | (go_at_call 66; refine (hc2 _).mono ?_; rintro e w' ⟨rfl, rfl⟩))
    go_ret
    exact ⟨rfl, (Below.refl _ _).alloc (Nat.le_refl _) _⟩

end Go.Proofs.YtdpjdjkfedcojaaGreat

namespace Go.Proofs.YtdpjdjkfedcojaaGreat
open Go.RowKit
set_option linter.unusedVariables false

/-- What is read of a text or a number. -/
def FitIt (x : It) : Prop := x.k.size ≤ maxLen ∧ x.v.size ≤ maxLen
def FitTk (x : Tk) : Prop := x.c.size ≤ maxLen ∧ x.r.size ≤ maxLen ∧ -9223372036854775808 ≤ x.q ∧ x.q ≤ 9223372036854775807
/-- A slice that came in: of its address nothing is known where it is empty. -/
def Raw (w : World) (B : Nat) (v : Value) (n : Nat) (cs : List Value) : Prop :=
  ∃ a cap, v = .slice a n cap ∧ n ≤ cap ∧ cap ≤ maxLen ∧ (a = none → cap = 0) ∧ (0 < n → ∃ g o, a = some ⟨g, o, none⟩ ∧ g < B ∧ At w g o cs)
/-- A state that came in. -/
def RawS (w : World) (B : Nat) (v : Value) (s : St) : Prop := ∃ vi vt, v = .agg #[vi, vt] ∧ Raw w B vi s.items.length (s.items.flatMap itC) ∧ Raw w B vt s.talks.length (s.talks.flatMap tkC) ∧ (∀ x ∈ s.items, FitIt x) ∧ ∀ x ∈ s.talks, FitTk x
theorem Raw.later {w w' : World} {B B' n : Nat} {v : Value} {cs : List Value} (h : Raw w B v n cs) (hb : Below B w w') (hB : B ≤ B') : Raw w' B' v n cs := by
  obtain ⟨a, cap, h0, h1, h2, h3, h4⟩ := h
  exact ⟨a, cap, h0, h1, h2, h3, fun h => by
    obtain ⟨g, o, ha, hg, hAt⟩ := h4 h
    exact ⟨g, o, ha, Nat.lt_of_lt_of_le hg hB, hAt.below hb hg⟩⟩
theorem RawS.later {w w' : World} {B B' : Nat} {v : Value} {s : St} (h : RawS w B v s) (hb : Below B w w') (hB : B ≤ B') : RawS w' B' v s := by
  obtain ⟨vi, vt, h0, h1, h2, h3, h4⟩ := h
  exact ⟨vi, vt, h0, h1.later hb hB, h2.later hb hB, h3, h4⟩
/-- A state of few and small things. -/
def Small (s : St) (l : Int) : Prop := (s.items.length : Int) ≤ l ∧ (∀ x ∈ s.items, (x.k.size : Int) ≤ l ∧ (x.v.size : Int) ≤ l) ∧ (s.talks.length : Int) ≤ l ∧ ∀ x ∈ s.talks, (x.c.size : Int) ≤ l ∧ (x.r.size : Int) ≤ l
theorem Small.mono {s : St} {l m : Int} (h : Small s l) (hm : l ≤ m) : Small s m := by
  obtain ⟨h1, h2, h3, h4⟩ := h
  exact ⟨by omega, fun x hx => by have := h2 x hx; omega, by omega, fun x hx => by have := h4 x hx; omega⟩
theorem infoIt : (Tryz.prog.info? 45).map (fun i => (i.zero, i.size, i.bytes)) = some (some (.agg #[.string ⟨#[]⟩, .string ⟨#[]⟩]), 2, 32) := by kernel_rfl
theorem infoTk : (Tryz.prog.info? 65).map (fun i => (i.zero, i.size, i.bytes)) = some (some (.agg #[.string ⟨#[]⟩, .int .i64 0, .string ⟨#[]⟩]), 3, 40) := by kernel_rfl
theorem infoSt : (Tryz.prog.info? 27).map (fun i => (i.zero, i.size, i.bytes)) = some (some (.agg #[.slice none 0 0, .slice none 0 0]), 2, 48) := by kernel_rfl
theorem set_two {α : Type} (A R : List α) (r0 r1 u0 : α) {k : Nat} (h : A.length = k) {u1 : α} : ((A ++ r0 :: r1 :: R).set k u0).set (k + 1) u1 = A ++ u0 :: u1 :: R := by
  subst h
  rw [List.set_append_right _ _ (Nat.le_refl _), Nat.sub_self, List.set_cons_zero, List.set_append_right _ _ (by omega), show A.length + 1 - A.length = 1 by omega]
  rfl
theorem set_three {α : Type} (A R : List α) (r0 r1 r2 : α) {k : Nat} (h : A.length = k) {u0 u1 u2 : α} : (((A ++ r0 :: r1 :: r2 :: R).set k u0).set (k + 1) u1).set (k + 2) u2 = A ++ u0 :: u1 :: u2 :: R := by
  subst h
  rw [List.set_append_right _ _ (Nat.le_refl _), Nat.sub_self, List.set_cons_zero, List.set_append_right _ _ (by omega), show A.length + 1 - A.length = 1 by omega, List.set_append_right _ _ (by omega), show A.length + 2 - A.length = 2 by omega]
  rfl
/-- A state whose rows the call owns: two blocks of their own. -/
def OwnS (w : World) (lo : Nat) (v : Value) (s : St) : Prop := ∃ g h, v = .agg #[.slice (some ⟨g, 0, none⟩) s.items.length s.items.length, .slice (some ⟨h, 0, none⟩) s.talks.length s.talks.length] ∧ g ≠ h ∧
  w.ownsRow lo 45 2 (.slice (some ⟨g, 0, none⟩) s.items.length s.items.length) s.items.length (s.items.flatMap itC) ∧ w.ownsRow lo 65 3 (.slice (some ⟨h, 0, none⟩) s.talks.length s.talks.length) s.talks.length (s.talks.flatMap tkC)
theorem owns_base {w : World} {lo lo' e sz n : Nat} {v : Value} {cs : List Value} (h : w.ownsRow lo e sz v n cs) (hl : lo' ≤ lo) : w.ownsRow lo' e sz v n cs := by
  obtain ⟨h1, h2⟩ := h
  refine ⟨h1, ?_⟩
  rcases h2 with h2 | ⟨g, cap, cur, h3, h4, h5⟩
  · exact .inl h2
  · exact .inr ⟨g, cap, cur, h3, Nat.le_trans hl h4, h5⟩
theorem owns_later {w w' : World} {lo e sz n : Nat} {v : Value} {cs : List Value} (h : w.ownsRow lo e sz v n cs) (hb : Below w.heap.size w w') : w'.ownsRow lo e sz v n cs :=
  h.kept (row := none) ⟨hb.os, hb.tape, hb.output, hb.size, fun j hj _ => hb.block j hj⟩ (by cases hv : v.ownBlock <;> simp)
theorem OwnS.later {w w' : World} {lo : Nat} {v : Value} {s : St} (h : OwnS w lo v s) (hb : Below w.heap.size w w') : OwnS w' lo v s := by
  obtain ⟨g, k, h0, h1, h2, h3⟩ := h
  exact ⟨g, k, h0, h1, owns_later h2 hb, owns_later h3 hb⟩
theorem row_of_owns {w : World} {lo e sz n g : Nat} {cs : List Value} (h : w.ownsRow lo e sz (.slice (some ⟨g, 0, none⟩) n n) n cs) (hn : n ≤ maxLen) : Row w w.heap.size sz (.slice (some ⟨g, 0, none⟩) n n) n cs :=
  ⟨h.1, .inr ⟨g, 0, n, rfl, Nat.le_refl _, hn, .inr (h.lt g rfl).2, fun j u hu => by
    have := h.cells (g := g) rfl j u hu
    rwa [add_flat] at this⟩⟩
theorem OwnS.st {w : World} {lo : Nat} {v : Value} {s : St} (h : OwnS w lo v s) (hi : s.items.length ≤ maxLen) (ht : s.talks.length ≤ maxLen) : StV w w.heap.size v s := by
  obtain ⟨g, k, rfl, _, h2, h3⟩ := h
  exact ⟨_, _, rfl, row_of_owns h2 hi, row_of_owns h3 ht⟩
/-- A state that may be read. -/
def Rd (w : World) (B : Nat) (v : Value) (s : St) : Prop := ∃ vi vt, v = .agg #[vi, vt] ∧ Raw w B vi s.items.length (s.items.flatMap itC) ∧ Raw w B vt s.talks.length (s.talks.flatMap tkC)
theorem Rd.later {w w' : World} {B B' : Nat} {v : Value} {s : St} (h : Rd w B v s) (hb : Below B w w') (hB : B ≤ B') : Rd w' B' v s := by
  obtain ⟨vi, vt, h0, h1, h2⟩ := h
  exact ⟨vi, vt, h0, h1.later hb hB, h2.later hb hB⟩
theorem raw_of_row {w : World} {B k n : Nat} {v : Value} {cs : List Value} (h : Row w B k v n cs) : Raw w B v n cs := by
  obtain ⟨_, h⟩ := h
  rcases h with ⟨rfl, rfl⟩ | ⟨g, o, cap, rfl, h1, h2, h3, h4⟩
  · exact ⟨none, 0, rfl, Nat.le_refl _, Nat.zero_le _, fun _ => rfl, fun h => absurd h (Nat.lt_irrefl _)⟩
  · exact ⟨_, cap, rfl, h1, h2, (fun h => by cases h), fun hn => ⟨g, o, rfl, by omega, h4⟩⟩
theorem StV.rd {w : World} {B : Nat} {v : Value} {s : St} (h : StV w B v s) : Rd w B v s := by
  obtain ⟨vi, vt, h0, h1, h2⟩ := h
  exact ⟨vi, vt, h0, raw_of_row h1, raw_of_row h2⟩
end Go.Proofs.YtdpjdjkfedcojaaGreat

namespace Go.Proofs.YtdpjdjkfedcojaaGreat
open Go.RowKit
set_option linter.unusedVariables false

end Go.Proofs.YtdpjdjkfedcojaaGreat

namespace Go.Proofs.YtdpjdjkfedcojaaGreat
open Go.RowKit
set_option linter.unusedVariables false

end Go.Proofs.YtdpjdjkfedcojaaGreat

namespace Go.Proofs.YtdpjdjkfedcojaaGreat
open Go.RowKit
set_option linter.unusedVariables false

end Go.Proofs.YtdpjdjkfedcojaaGreat

namespace Go.Proofs.YtdpjdjkfedcojaaGreat
open Go.RowKit
set_option linter.unusedVariables false

/-- An operation that leaves the world alone comes up. -/
theorem tk {P : Program} {ops : Array Oper} {Q : Exit → Act → World → Prop} {md : Region.Mode} {S : World → Prop} (i : Nat) {oi : Oper} {v : Value} {fuel : Nat} {listed l2 : Array Bool} {a a2 : Act} {w : World}
    (hy : YieldsIf P ops S oi v a) (h : wpAnyH P md ops Q S fuel l2 a2 w)
    (hi : ops[i]? = some oi := by rfl) (hs : Region.noSelect ops = true := by kernel_rfl) (hf : Region.free md ops listed i = true := by kernel_rfl) (hr : (Region.ready md ops listed).contains i = true := by kernel_rfl)
    (hl : listed.setIfInBounds i true = l2 := by ((try simp only [List.getElem_toArray, List.getElem_cons_zero, List.getElem_cons_succ, Act.put, List.setIfInBounds_toArray, List.set_cons_zero, List.set_cons_succ]); rfl)) (ha : a.put oi.dst v = a2 := by ((try simp only [List.getElem_toArray, List.getElem_cons_zero, List.getElem_cons_succ, Act.put, List.setIfInBounds_toArray, List.set_cons_zero, List.set_cons_succ]); rfl))
    (hQ : ∀ c a w, Q (.panic c) (a.put oi.dst v) w → Q (.panic c) a w := by exact fun _ _ _ h => h) (hS : S w := by assumption) : wpAnyH P md ops Q S (fuel + 1) listed a w :=
  wpAnyH_take hi hs hf hr hQ hy hS (hl ▸ ha ▸ h)
/-- The same, of an operation that reads no memory. -/
theorem tk0 {P : Program} {ops : Array Oper} {Q : Exit → Act → World → Prop} {md : Region.Mode} {S : World → Prop} (i : Nat) {oi : Oper} {v : Value} {fuel : Nat} {listed l2 : Array Bool} {a a2 : Act} {w : World}
    (h : wpAnyH P md ops Q S fuel l2 a2 w)
    (hi : ops[i]? = some oi := by rfl) (hy : YieldsIf P ops S oi v a := by (refine Or.inl ⟨by rfl, ?_⟩; intro w hSw; go_simp; first | done | with_reducible rfl)) (hs : Region.noSelect ops = true := by kernel_rfl) (hf : Region.free md ops listed i = true := by kernel_rfl) (hr : (Region.ready md ops listed).contains i = true := by kernel_rfl)
    (hl : listed.setIfInBounds i true = l2 := by ((try simp only [List.getElem_toArray, List.getElem_cons_zero, List.getElem_cons_succ, Act.put, List.setIfInBounds_toArray, List.set_cons_zero, List.set_cons_succ]); rfl)) (ha : a.put oi.dst v = a2 := by ((try simp only [List.getElem_toArray, List.getElem_cons_zero, List.getElem_cons_succ, Act.put, List.setIfInBounds_toArray, List.set_cons_zero, List.set_cons_succ]); rfl))
    (hQ : ∀ c a w, Q (.panic c) (a.put oi.dst v) w → Q (.panic c) a w := by exact fun _ _ _ h => h) (hS : S w := by assumption) : wpAnyH P md ops Q S (fuel + 1) listed a w :=
  wpAnyH_take hi hs hf hr hQ hy hS (hl ▸ ha ▸ h)
/-- An operation that its guard shuts out. -/
theorem tku {P : Program} {ops : Array Oper} {Q : Exit → Act → World → Prop} {md : Region.Mode} {S : World → Prop} (i : Nat) {oi : Oper} {fuel : Nat} {listed l2 : Array Bool} {a a2 : Act} {w : World}
    (h : wpAnyH P md ops Q S fuel l2 a2 w)
    (hi : ops[i]? = some oi := by rfl) (hy : YieldsIf P ops S oi undef a := by exact Or.inr ⟨by rfl, rfl⟩) (hs : Region.noSelect ops = true := by kernel_rfl) (hf : Region.free md ops listed i = true := by kernel_rfl) (hr : (Region.ready md ops listed).contains i = true := by kernel_rfl)
    (hl : listed.setIfInBounds i true = l2 := by ((try simp only [List.getElem_toArray, List.getElem_cons_zero, List.getElem_cons_succ, Act.put, List.setIfInBounds_toArray, List.set_cons_zero, List.set_cons_succ]); rfl)) (ha : a.put oi.dst undef = a2 := by ((try simp only [List.getElem_toArray, List.getElem_cons_zero, List.getElem_cons_succ, Act.put, List.setIfInBounds_toArray, List.set_cons_zero, List.set_cons_succ]); rfl))
    (hQ : ∀ c a w, Q (.panic c) (a.put oi.dst undef) w → Q (.panic c) a w := by exact fun _ _ _ h => h) (hS : S w := by assumption) : wpAnyH P md ops Q S (fuel + 1) listed a w :=
  wpAnyH_take hi hs hf hr hQ hy hS (hl ▸ ha ▸ h)
/-- One operation alone, or one of two, comes up. -/
theorem rd1 {P : Program} {ops : Array Oper} {Q : Exit → Act → World → Prop} {md : Region.Mode} {S : World → Prop} (i : Nat) {o : Oper} {fuel : Nat} {listed : Array Bool} {a : Act} {w : World}
    (h : ∀ K' : Act → World → Prop, Shut (∀ a w, S w → (S w → wpAnyH P md ops Q S fuel (listed.setIfInBounds i true) a w) → K' a w) → if Region.wanted o (yielded ops a.tmps) = true then Oper.wp P o a w K' Q else K' (a.put o.dst undef) w)
    (hr : Region.ready md ops listed = [i] := by kernel_rfl) (ho : ops[i]? = some o := by rfl) : wpAnyH P md ops Q S (fuel + 1) listed a w :=
  wpAnyH_ready hr (by simp) (AllReadyH.cons ho h AllReadyH.nil)
theorem rd2 {P : Program} {ops : Array Oper} {Q : Exit → Act → World → Prop} {md : Region.Mode} {S : World → Prop} (i j : Nat) {o o' : Oper} {fuel : Nat} {listed : Array Bool} {a : Act} {w : World}
    (h : ∀ K' : Act → World → Prop, Shut (∀ a w, S w → (S w → wpAnyH P md ops Q S fuel (listed.setIfInBounds i true) a w) → K' a w) → if Region.wanted o (yielded ops a.tmps) = true then Oper.wp P o a w K' Q else K' (a.put o.dst undef) w)
    (h' : ∀ K' : Act → World → Prop, Shut (∀ a w, S w → (S w → wpAnyH P md ops Q S fuel (listed.setIfInBounds j true) a w) → K' a w) → if Region.wanted o' (yielded ops a.tmps) = true then Oper.wp P o' a w K' Q else K' (a.put o'.dst undef) w)
    (hr : Region.ready md ops listed = [i, j] := by kernel_rfl) (ho : ops[i]? = some o := by rfl) (ho' : ops[j]? = some o' := by rfl) : wpAnyH P md ops Q S (fuel + 1) listed a w :=
  wpAnyH_ready hr (by simp) (AllReadyH.cons ho h (AllReadyH.cons ho' h' AllReadyH.nil))
/-- Facts told on from a world to the next. -/
theorem tkb {w w' : World} {g : Nat} {o : Option Obj} (b : Below w.heap.size w w') (L : Hid (g < w.heap.size)) (K : Hid (w.heap[g]? = o)) : Hid (w'.heap[g]? = o) := Lib.hid ((b.block _ L.out).trans K.out)
theorem tkg {w w' : World} {g : Nat} {o : Option Obj} {r : Option Nat} (b : w.grownBy w' r) (L : Hid (g < w.heap.size)) (K : Hid (w.heap[g]? = o)) (h : some g ≠ r) : Hid (w'.heap[g]? = o) := Lib.hid ((b.block _ L.out h).trans K.out)
theorem tlz {g n m : Nat} (L : Hid (g < n)) (h : n ≤ m) : Hid (g < m) := Lib.hid (Nat.lt_of_lt_of_le L.out h)
theorem tbt {w w1 w2 : World} (b : Hid (Below w.heap.size w w1)) (h : Below w1.heap.size w1 w2) : Hid (Below w.heap.size w w2) := Lib.hid (b.out.trans (h.mono b.out.size))
theorem tcr {w : World} {g : Nat} {cs : Array Value} {t : TypeId} {fr : Nat × Nat} {v : Value} (K : Hid (w.heap[g]? = some (.cells cs t fr))) (i : Nat) (h : cs[i]? = some v := by (simp only [List.getElem?_toArray, List.getElem?_cons_zero, List.getElem?_cons_succ]; first | done | rfl)) : w.cell? ⟨g, i, none⟩ = some v := (cell_of_row w g i cs t fr K.out).trans h
theorem tfr {w : World} {g : Nat} {cs : Array Value} {t : TypeId} (K : Hid (w.heap[g]? = some (.cells cs t (0, 0)))) (i : Nat) : w.frozen? ⟨g, i, none⟩ = false := frozen_of_row w g i cs t K.out
end Go.Proofs.YtdpjdjkfedcojaaGreat

namespace Go.Proofs.YtdpjdjkfedcojaaGreat
open Go.RowKit List
set_option linter.unusedVariables false

end Go.Proofs.YtdpjdjkfedcojaaGreat

namespace Go.Proofs.YtdpjdjkfedcojaaGreat
open Go.RowKit
set_option linter.unusedVariables false

end Go.Proofs.YtdpjdjkfedcojaaGreat

namespace Go.Proofs.YtdpjdjkfedcojaaGreat
open Go.RowKit
set_option linter.unusedVariables false

/-- What lies at block g: nothing, or a row of the call's own. -/
def Got (w : World) (base e size g n cap : Nat) (cs : List Value) : Prop :=
  cs.length = n * size ∧ n ≤ cap ∧ cap ≤ maxLen ∧ base ≤ g ∧ g < w.heap.size ∧ ((n = 0 ∧ cap = 0) ∨ w.ownsRow base e size (.slice (some ⟨g, 0, none⟩) n cap) n cs)

theorem below_of_grown {w w' : World} (h : w.grownBy w' none) : Below w.heap.size w w' :=
  ⟨h.os, h.tape, h.output, h.size, fun j hj => h.block j hj (by simp)⟩

theorem run_app0 {P : Program} (w : World) (t ty e : TypeId) (i : TypeInfo) (z : Value) (size bytes : Nat) (ht : P.underlying t = some (.slice e)) (hi : P.info? e = some i) (hz : i.zero = some z)
    (hsize : i.size = size) (hby : i.bytes = bytes) (hzs : z.cells.size = size) (hsz : 0 < size) (X base : Nat) (hX : base ≤ X) (hXl : X < w.heap.size)
    (x : Value) (B m : Nat) (news : List Value) (hr : Raw w B x m news) (hl : news.length = m * size) (h1 : ∀ u ∈ news, u.oneCell' = true) (h63 : m ≤ maxLen) (hb : m * bytes ≤ 140737488355328) :
    ∃ v' w', (Builtin.append_ #[t, t] ty #[.slice (some ⟨X, 0, none⟩) 0 0, x]).run P w = .ok v' w' ∧ Below w.heap.size w w' ∧ ∃ g cap, v' = .slice (some ⟨g, 0, none⟩) m cap ∧ (g = X ∨ w.heap.size ≤ g) ∧ Got w' base e size g m cap news := by
  obtain ⟨a, cap, rfl, hc, _, hn, hA⟩ := hr
  by_cases hm : 0 < m
  · obtain ⟨g, o, rfl, _, hAt⟩ := hA hm
    obtain ⟨v', w', hrun, r1, r2⟩ := run_append_arg_grows (P := P) w t ty e i z size bytes ht hi hz hsize hby hzs hsz ⟨X, 0, none⟩ 0 0 [] (by simp) (fun j u hu => by simp at hu) ⟨g, o, none⟩ m cap news hl
      (fun j u hu => by rw [add_flat]; exact hAt j u hu) (by omega) (by omega) (by simpa using hb)
    have r1 : w'.ownsRow w.heap.size e size v' m news := by simpa using r1
    rcases id r1.2 with ⟨_, h0⟩ | ⟨g', cap', cur, h0, h2, h3, h4, h5, _⟩
    · omega
    · subst h0
      have hlt := (r1.lt g' rfl).2
      refine ⟨_, w', hrun, below_of_grown r2, g', cap', rfl, .inr h2, hl, h4, h5, by omega, hlt, .inr ⟨hl, ?_⟩⟩
      rcases r1.2 with ⟨_, h0⟩ | ⟨g'', cap'', cur', h0', k2, k3⟩
      · omega
      · exact .inr ⟨g'', cap'', cur', h0', by omega, k3⟩
  · obtain rfl : m = 0 := by omega
    obtain rfl : news = [] := List.eq_nil_of_length_eq_zero (by simpa using hl)
    refine ⟨_, w, ?_, Below.refl _ _, X, 0, rfl, .inl rfl, by simp, Nat.le_refl _, Nat.zero_le _, hX, hXl, .inl ⟨rfl, rfl⟩⟩
    cases a with
    | none => simp [Builtin.append_, run_underlying ht, sizeOf, typeInfo, hi, Builtin.lenOf, Builtin.firstCells, storeCells]
    | some ad =>
      have := run_append_room_cells (P := P) w t ty e i ht hi X 0 0 0 ad 0 cap [] (by simp) (fun j u hu => by simp at hu) (fun u hu => by simp at hu) (by simp) (fun j hj => by simp at hj) (fun j hj => by simp at hj)
      simpa [World.setCells] using this

theorem step_app0 {P : Program} {ops : Array Oper} {o : Oper} {a : Act} {w : World} {K : Act → World → Prop} {Q : Exit → Act → World → Prop} {E : Prop} (hg : o.guard = none) (s x : Operand) (t : TypeId)
    (hop : o.op = Op.call { callee := Callee.builtin Builtin.append, args := #[s, x], argTypes := #[t, t] })
    (e : TypeId) (i : TypeInfo) (z : Value) (size bytes : Nat) (ht : P.underlying t = some (.slice e)) (hi : P.info? e = some i) (hz : i.zero = some z)
    (hsize : i.size = size) (hby : i.bytes = bytes) (hzs : z.cells.size = size) (hsz : 0 < size) (X base : Nat) (hX : base ≤ X) (hXl : X < w.heap.size) (hs : a.eval s = .slice (some ⟨X, 0, none⟩) 0 0)
    (xv : Value) (hx : a.eval x = xv) (B m : Nat) (news : List Value) (hr : Raw w B xv m news) (hl : news.length = m * size) (h1 : ∀ u ∈ news, u.oneCell' = true) (h63 : m ≤ maxLen) (hb : m * bytes ≤ 140737488355328)
    (hK : ∀ g cap w', Below w.heap.size w w' → (g = X ∨ w.heap.size ≤ g) → Got w' base e size g m cap news → K (a.put o.dst (.slice (some ⟨g, 0, none⟩) m cap)) w') :
    if Region.wanted o (yielded ops a.tmps) = true then Oper.wp P o a w K Q else E := by
  have hw : Region.wanted o (yielded ops a.tmps) = true := by simp [Region.wanted, hg]
  rw [if_pos hw]
  obtain ⟨v', w', hrun, h2, g, cap, rfl, h3, h4⟩ := run_app0 (P := P) w t o.type e i z size bytes ht hi hz hsize hby hzs hsz X base hX hXl xv B m news hr hl h1 h63 hb
  unfold Oper.wp
  simp [execOp, hop, resolve, invoke, builtin, hs, hx, hrun, Result.andThen]
  exact hK g cap w' h2 h3 h4
end Go.Proofs.YtdpjdjkfedcojaaGreat

namespace Go.Proofs.YtdpjdjkfedcojaaGreat
open Go.RowKit List
set_option linter.unusedVariables false

/-- Few enough for a row of their own. -/
def Few (s : St) : Prop := s.items.length ≤ 4398046511104 ∧ s.talks.length ≤ 3518437208883
/-- A state whose rows are the call's own. -/
def OwnC (w : World) (base : Nat) (v : Value) (s : St) : Prop := ∃ gi ci gt ct, v = .agg #[.slice (some ⟨gi, 0, none⟩) s.items.length ci, .slice (some ⟨gt, 0, none⟩) s.talks.length ct] ∧ gi ≠ gt ∧
  Got w base 45 2 gi s.items.length ci (s.items.flatMap itC) ∧ Got w base 65 3 gt s.talks.length ct (s.talks.flatMap tkC)

theorem Got.later {w w' : World} {base e size g n cap : Nat} {cs : List Value} (h : Got w base e size g n cap cs) (hb : Below w.heap.size w w') : Got w' base e size g n cap cs := by
  obtain ⟨h1, h2, h3, h4, h5, h6⟩ := h
  exact ⟨h1, h2, h3, h4, Nat.lt_of_lt_of_le h5 hb.size, h6.imp id (fun h => owns_later h hb)⟩
theorem Got.base {w : World} {base base' e size g n cap : Nat} {cs : List Value} (h : Got w base e size g n cap cs) (hb : base' ≤ base) : Got w base' e size g n cap cs := by
  obtain ⟨h1, h2, h3, h4, h5, h6⟩ := h
  exact ⟨h1, h2, h3, Nat.le_trans hb h4, h5, h6.imp id (fun h => owns_base h hb)⟩
theorem Got.set {w : World} {base e size g n cap b o : Nat} {cs : List Value} (h : Got w base e size g n cap cs) (hb : b ≠ g) (v : Value) : Got (w.setCell ⟨b, o, none⟩ v) base e size g n cap cs := by
  obtain ⟨h1, h2, h3, h4, h5, h6⟩ := h
  exact ⟨h1, h2, h3, h4, by simpa using h5, h6.imp id (fun h => h.kept (grown_set w ⟨b, o, none⟩ v) (Or.inr (by simp [Value.ownBlock]; omega)))⟩
theorem one_it (xs : List It) : ∀ u ∈ xs.flatMap itC, u.oneCell' = true := by
  intro u hu
  obtain ⟨x, _, hx⟩ := List.mem_flatMap.1 hu
  simp only [itC, List.mem_cons, List.not_mem_nil, or_false] at hx
  rcases hx with rfl | rfl <;> rfl
theorem one_tk (xs : List Tk) : ∀ u ∈ xs.flatMap tkC, u.oneCell' = true := by
  intro u hu
  obtain ⟨x, _, hx⟩ := List.mem_flatMap.1 hu
  simp only [tkC, List.mem_cons, List.not_mem_nil, or_false] at hx
  rcases hx with rfl | rfl | rfl <;> rfl

set_option linter.unusedSimpArgs false
set_option maxRecDepth 100000 in
set_option maxHeartbeats 4000000 in
theorem spec_copy (s : St) (v : Value) (B : Nat) (w : World) (hs : Rd w B v s) (hB : B ≤ w.heap.size) (hf : Few s) :
    Calls Tryz.prog 113 #[v] w fun e w' => ∃ v', e = .returned v' ∧ OwnC w' w.heap.size v' s ∧ Below w.heap.size w w' := by
  obtain ⟨vi, vt, rfl, hri, hrt⟩ := hs
  obtain ⟨W, hW⟩ : ∃ W, W = (w.alloc (.cells #[vi, vt] 27)).alloc (.cells #[.slice none 0 0, .slice none 0 0] 27) := ⟨_, rfl⟩
  have hbW : Below w.heap.size w W := by rw [hW]; exact ((Below.refl _ _).alloc (Nat.le_refl _) _).alloc (by simp) _
  have hWs : W.heap.size = w.heap.size + 2 := by rw [hW]; simp
  have k0 : W.heap[w.heap.size]? = some (.cells #[vi, vt] 27 (0, 0)) := by
    rw [hW, Below.heap_alloc _ _ _ (by simp)]; exact heap_new _ _
  have k1 : W.heap[w.heap.size + 1]? = some (.cells #[.slice none 0 0, .slice none 0 0] 27 (0, 0)) := by
    rw [hW]; simpa using heap_new (w.alloc (.cells #[vi, vt] 27)) (.cells #[.slice none 0 0, .slice none 0 0] 27)
  have HV : Hid (∀ w', Below W.heap.size W w' → w'.cell? ⟨w.heap.size, 0, none⟩ = some vi ∧ w'.cell? ⟨w.heap.size, 1, none⟩ = some vt) := Lib.hid (fun w' h => by
    have j0 := (h.block _ (show w.heap.size < W.heap.size by omega)).trans k0
    exact ⟨by simpa using cell_of_row w' _ 0 _ _ _ j0, by simpa using cell_of_row w' _ 1 _ _ _ j0⟩)
  have HB0 : Hid (∀ w', Below W.heap.size W w' → w'.heap[w.heap.size]? = some (.cells #[vi, vt] 27 (0, 0))) := Lib.hid (fun w' h => (h.block _ (by omega)).trans k0)
  have HR : Hid (∀ w', Below W.heap.size W w' → w'.heap[w.heap.size + 1]? = some (.cells #[.slice none 0 0, .slice none 0 0] 27 (0, 0))) := Lib.hid (fun w' h => (h.block _ (by omega)).trans k1)
  have Hri := Lib.hid (fun w' (h : Below W.heap.size W w') => hri.later (B' := w.heap.size) ((hbW.trans (h.mono hbW.size)).mono hB) hB)
  have Hrt := Lib.hid (fun w' (h : Below W.heap.size W w') => hrt.later (B' := w.heap.size) ((hbW.trans (h.mono hbW.size)).mono hB) hB)
  have HbW := Lib.hid hbW
  have Hf := Lib.hid hf
  clear hri hrt k0 k1 hbW hf
  go_enter Tryz.func113, Tryz.ntmps113
  go_wp2_with fail
  rw [← hW]
  clear hW
  have BW : Below W.heap.size W W := Below.refl _ _
  refine wp_region_held_drew (S := (fun w' => w'.cell? ⟨w.heap.size, 0, none⟩ = some vi ∧ w'.cell? ⟨w.heap.size, 1, none⟩ = some vt)) (by kernel_rfl) (HV.out _ (Below.refl W.heap.size W).drew) (fun hHeld => ?_)
  refine tk 1 (v := ?_) ?_ ?_; rotate_left
  · refine Or.inl ⟨by rfl, ?_⟩; intro w hSw; obtain ⟨f0, f1⟩ := hSw; go_simp; first | done | with_reducible rfl
  refine tk 2 (v := ?_) ?_ ?_; rotate_left
  · refine Or.inl ⟨by rfl, ?_⟩; intro w hSw; obtain ⟨f0, f1⟩ := hSw; go_simp; first | done | with_reducible rfl
  refine tk 5 (v := ?_) ?_ ?_; rotate_left
  · refine Or.inl ⟨by rfl, ?_⟩; intro w hSw; obtain ⟨f0, f1⟩ := hSw; go_simp; first | done | with_reducible rfl
  refine tk 6 (v := ?_) ?_ ?_; rotate_left
  · refine Or.inl ⟨by rfl, ?_⟩; intro w hSw; obtain ⟨f0, f1⟩ := hSw; go_simp; first | done | with_reducible rfl
  refine rd2 0 4 (fun K hK => ?_) (fun K hK => ?_)
  · go_simp
    obtain ⟨w1, hw1⟩ : ∃ x, x = (W.alloc (.cells #[] 45)).drew := ⟨_, rfl⟩
    rw [← hw1]
    have bw1 : Below W.heap.size W w1 := by rw [hw1]; exact ((Below.refl W.heap.size W).alloc (Nat.le_refl _) _).drew
    have zw1 : w1.heap.size = W.heap.size + 1 := by rw [hw1]; simp
    have xi : Hid (W.heap.size < w1.heap.size ∧ W.heap.size ≤ W.heap.size) := Lib.hid ⟨by omega, BW.size⟩
    have yi : Hid (W.heap.size = W.heap.size) := Lib.hid rfl
    have Zw1 := Lib.hid zw1
    clear hw1 zw1
    have Bw1 := BW.trans (bw1.mono BW.size)
    refine hK.out _ _ (HV.out _ Bw1) (fun hHeld => ?_)
    clear hK K
    try simp only [getElem_toArray, getElem_cons_zero, getElem_cons_succ, Act.put, setIfInBounds_toArray, set_cons_zero, set_cons_succ]
    have hXi : Hid (W.heap.size ≤ W.heap.size ∧ W.heap.size < w1.heap.size) := Lib.hid ⟨xi.out.2, xi.out.1⟩
    refine rd2 3 4 (fun K hK => ?_) (fun K hK => ?_)
    · have hXl := hXi.out
      obtain ⟨ii, p1, p2, p3, p4⟩ := info_parts infoIt
      refine step_app0 rfl (.tmp 3) (.tmp 5) 24 rfl 45 ii _ 2 32 Tryz.underlying24 p1 p2 p3 p4 rfl (by decide) W.heap.size W.heap.size hXl.1 hXl.2 (by simp [Act.eval]) _ (by simp [Act.eval]) w.heap.size s.items.length (s.items.flatMap itC) (Hri.out w1 Bw1) (flat_len_it s.items) (one_it s.items) (by have := Hf.out; unfold Few at this; unfold maxLen; omega) (by have := Hf.out; unfold Few at this; omega) ?_
      intro gi ci w2 bw2 ei goti
      have Bw2 := Bw1.trans (bw2.mono Bw1.size)
      refine hK.out _ _ (HV.out _ Bw2) (fun hHeld => ?_)
      clear hK K
      try simp only [getElem_toArray, getElem_cons_zero, getElem_cons_succ, Act.put, setIfInBounds_toArray, set_cons_zero, set_cons_succ]
      refine rd1 4 (fun K hK => ?_)
      · go_simp
        obtain ⟨w3, hw3⟩ : ∃ x, x = w2.alloc (.cells #[] 65) := ⟨_, rfl⟩
        rw [← hw3]
        have bw3 : Below w2.heap.size w2 w3 := by rw [hw3]; exact ((Below.refl w2.heap.size w2).alloc (Nat.le_refl _) _)
        have zw3 : w3.heap.size = w2.heap.size + 1 := by rw [hw3]; simp
        have xt : Hid (w2.heap.size < w3.heap.size ∧ W.heap.size ≤ w2.heap.size) := Lib.hid ⟨by omega, Bw2.size⟩
        have yt : Hid (w2.heap.size = w2.heap.size) := Lib.hid rfl
        have Zw3 := Lib.hid zw3
        clear hw3 zw3
        have Bw3 := Bw2.trans (bw3.mono Bw2.size)
        refine hK.out _ _ (HV.out _ Bw3) (fun hHeld => ?_)
        clear hK K
        try simp only [getElem_toArray, getElem_cons_zero, getElem_cons_succ, Act.put, setIfInBounds_toArray, set_cons_zero, set_cons_succ]
        have hXt : Hid (W.heap.size ≤ w2.heap.size ∧ w2.heap.size < w3.heap.size) := Lib.hid ⟨xt.out.2, xt.out.1⟩
        refine rd1 7 (fun K hK => ?_)
        · have hXl := hXt.out
          obtain ⟨it, p1, p2, p3, p4⟩ := info_parts infoTk
          refine step_app0 rfl (.tmp 7) (.tmp 9) 25 rfl 65 it _ 3 40 Tryz.underlying25 p1 p2 p3 p4 rfl (by decide) w2.heap.size W.heap.size hXl.1 hXl.2 (by simp [Act.eval]) _ (by simp [Act.eval]) w.heap.size s.talks.length (s.talks.flatMap tkC) (Hrt.out w3 Bw3) (flat_len_tk s.talks) (one_tk s.talks) (by have := Hf.out; unfold Few at this; unfold maxLen; omega) (by have := Hf.out; unfold Few at this; omega) ?_
          intro gt ct w4 bw4 et gott
          have Bw4 := Bw3.trans (bw4.mono Bw3.size)
          refine hK.out _ _ (HV.out _ Bw4) (fun hHeld => ?_)
          clear hK K
          refine tk 8 (v := ?_) ?_ ?_; rotate_left
          · refine Or.inl ⟨by rfl, ?_⟩; intro w hSw; obtain ⟨f0, f1⟩ := hSw; go_simp; first | done | with_reducible rfl
          have r1 := HR.out w4 Bw4
          have d0 := cell_of_row w4 _ 0 _ _ _ r1
          have d1 := cell_of_row w4 _ 1 _ _ _ r1
          have d2 := frozen_of_row w4 _ 0 _ _ r1
          have d3 := frozen_of_row w4 _ 1 _ _ r1
          simp only [List.getElem?_toArray, List.getElem?_cons_zero, List.getElem?_cons_succ] at d0 d1
          refine rd1 9 (fun K hK => ?_)
          have r0 := HB0.out w4 Bw4
          have R0 := Lib.hid r0
          have R1 := Lib.hid r1
          clear r0 r1
          go_simp
          have f1 := heap_setCell_same _ (w.heap.size + 1) 0 _ _ (Value.slice (some ⟨gi, 0, none⟩) s.items.length ci) R1.out
          have f2 := heap_setCell_same _ (w.heap.size + 1) 1 _ _ (Value.slice (some ⟨gt, 0, none⟩) s.talks.length ct) f1
          have m0 : ((w4.setCell ⟨w.heap.size + 1, 0, none⟩ (Value.slice (some ⟨gi, 0, none⟩) s.items.length ci)).setCell ⟨w.heap.size + 1, 1, none⟩ (Value.slice (some ⟨gt, 0, none⟩) s.talks.length ct)).heap[w.heap.size]? = some (.cells #[vi, vt] 27 (0, 0)) := by rw [Below.heap_setCell _ _ _ _ (by simp), Below.heap_setCell _ _ _ _ (by simp)]; exact R0.out
          refine hK.out _ _ ⟨by simpa using cell_of_row _ _ 0 _ _ _ m0, by simpa using cell_of_row _ _ 1 _ _ _ m0⟩ (fun hHeld => ?_)
          clear hK K
          try simp only [getElem_toArray, getElem_cons_zero, getElem_cons_succ, Act.put, setIfInBounds_toArray, set_cons_zero, set_cons_succ]
          refine wpAnyH_done (by kernel_rfl) ?_ _
          clear hHeld d0 d1 d2 d3
          go_wp2_with fail
          obtain ⟨j0, q1, q2, q3, q4⟩ := info_parts infoSt
          have lI := goti.2.2.2.2.1
          have lT := gott.2.2.2.2.1
          have bI := goti.2.2.2.1
          have bT := gott.2.2.2.1
          have sz1 := bw1.size
          have sz2 := bw2.size
          have sz3 := bw3.size
          have sz4 := bw4.size
          have xi' := xi.out
          have xt' := xt.out
          refine bodyPost_ret (results_cell_row (P := Tryz.prog) rfl _ _ (w.heap.size + 1) _ _ (0, 0) _ rfl f2 Tryz.underlying27 rfl (by rw [q1]; simp [q3])) rfl ⟨_, rfl, ⟨gi, ci, gt, ct, rfl, by omega, ?_, ?_⟩, ?_⟩
          · exact ((((goti.later bw3).later bw4).base (by omega : w.heap.size ≤ W.heap.size)).set (by omega) _).set (by omega) _
          · exact ((gott.base (by omega : w.heap.size ≤ W.heap.size)).set (by omega) _).set (by omega) _
          · exact ((HbW.out.trans (Bw4.mono HbW.out.size)).setCell (p := ⟨w.heap.size + 1, 0, none⟩) (by simp) _).setCell (p := ⟨w.heap.size + 1, 1, none⟩) (by simp) _
    · go_simp
      obtain ⟨w2, hw2⟩ : ∃ x, x = w1.alloc (.cells #[] 65) := ⟨_, rfl⟩
      rw [← hw2]
      have bw2 : Below w1.heap.size w1 w2 := by rw [hw2]; exact ((Below.refl w1.heap.size w1).alloc (Nat.le_refl _) _)
      have zw2 : w2.heap.size = w1.heap.size + 1 := by rw [hw2]; simp
      have xt : Hid (w1.heap.size < w2.heap.size ∧ W.heap.size ≤ w1.heap.size) := Lib.hid ⟨by omega, Bw1.size⟩
      have yt : Hid (w1.heap.size = w1.heap.size) := Lib.hid rfl
      have Zw2 := Lib.hid zw2
      clear hw2 zw2
      have Bw2 := Bw1.trans (bw2.mono Bw1.size)
      refine hK.out _ _ (HV.out _ Bw2) (fun hHeld => ?_)
      clear hK K
      try simp only [getElem_toArray, getElem_cons_zero, getElem_cons_succ, Act.put, setIfInBounds_toArray, set_cons_zero, set_cons_succ]
      have hXt : Hid (W.heap.size ≤ w1.heap.size ∧ w1.heap.size < w2.heap.size) := Lib.hid ⟨xt.out.2, xt.out.1⟩
      have hXi := Lib.hid (And.intro hXi.out.1 (Nat.lt_of_lt_of_le hXi.out.2 bw2.size))
      refine rd1 3 (fun K hK => ?_)
      · have hXl := hXi.out
        obtain ⟨ii, p1, p2, p3, p4⟩ := info_parts infoIt
        refine step_app0 rfl (.tmp 3) (.tmp 5) 24 rfl 45 ii _ 2 32 Tryz.underlying24 p1 p2 p3 p4 rfl (by decide) W.heap.size W.heap.size hXl.1 hXl.2 (by simp [Act.eval]) _ (by simp [Act.eval]) w.heap.size s.items.length (s.items.flatMap itC) (Hri.out w2 Bw2) (flat_len_it s.items) (one_it s.items) (by have := Hf.out; unfold Few at this; unfold maxLen; omega) (by have := Hf.out; unfold Few at this; omega) ?_
        intro gi ci w3 bw3 ei goti
        have Bw3 := Bw2.trans (bw3.mono Bw2.size)
        refine hK.out _ _ (HV.out _ Bw3) (fun hHeld => ?_)
        clear hK K
        try simp only [getElem_toArray, getElem_cons_zero, getElem_cons_succ, Act.put, setIfInBounds_toArray, set_cons_zero, set_cons_succ]
        have hXt := Lib.hid (And.intro hXt.out.1 (Nat.lt_of_lt_of_le hXt.out.2 bw3.size))
        refine rd1 7 (fun K hK => ?_)
        · have hXl := hXt.out
          obtain ⟨it, p1, p2, p3, p4⟩ := info_parts infoTk
          refine step_app0 rfl (.tmp 7) (.tmp 9) 25 rfl 65 it _ 3 40 Tryz.underlying25 p1 p2 p3 p4 rfl (by decide) w1.heap.size W.heap.size hXl.1 hXl.2 (by simp [Act.eval]) _ (by simp [Act.eval]) w.heap.size s.talks.length (s.talks.flatMap tkC) (Hrt.out w3 Bw3) (flat_len_tk s.talks) (one_tk s.talks) (by have := Hf.out; unfold Few at this; unfold maxLen; omega) (by have := Hf.out; unfold Few at this; omega) ?_
          intro gt ct w4 bw4 et gott
          have Bw4 := Bw3.trans (bw4.mono Bw3.size)
          refine hK.out _ _ (HV.out _ Bw4) (fun hHeld => ?_)
          clear hK K
          refine tk 8 (v := ?_) ?_ ?_; rotate_left
          · refine Or.inl ⟨by rfl, ?_⟩; intro w hSw; obtain ⟨f0, f1⟩ := hSw; go_simp; first | done | with_reducible rfl
          have r1 := HR.out w4 Bw4
          have d0 := cell_of_row w4 _ 0 _ _ _ r1
          have d1 := cell_of_row w4 _ 1 _ _ _ r1
          have d2 := frozen_of_row w4 _ 0 _ _ r1
          have d3 := frozen_of_row w4 _ 1 _ _ r1
          simp only [List.getElem?_toArray, List.getElem?_cons_zero, List.getElem?_cons_succ] at d0 d1
          refine rd1 9 (fun K hK => ?_)
          have r0 := HB0.out w4 Bw4
          have R0 := Lib.hid r0
          have R1 := Lib.hid r1
          clear r0 r1
          go_simp
          have f1 := heap_setCell_same _ (w.heap.size + 1) 0 _ _ (Value.slice (some ⟨gi, 0, none⟩) s.items.length ci) R1.out
          have f2 := heap_setCell_same _ (w.heap.size + 1) 1 _ _ (Value.slice (some ⟨gt, 0, none⟩) s.talks.length ct) f1
          have m0 : ((w4.setCell ⟨w.heap.size + 1, 0, none⟩ (Value.slice (some ⟨gi, 0, none⟩) s.items.length ci)).setCell ⟨w.heap.size + 1, 1, none⟩ (Value.slice (some ⟨gt, 0, none⟩) s.talks.length ct)).heap[w.heap.size]? = some (.cells #[vi, vt] 27 (0, 0)) := by rw [Below.heap_setCell _ _ _ _ (by simp), Below.heap_setCell _ _ _ _ (by simp)]; exact R0.out
          refine hK.out _ _ ⟨by simpa using cell_of_row _ _ 0 _ _ _ m0, by simpa using cell_of_row _ _ 1 _ _ _ m0⟩ (fun hHeld => ?_)
          clear hK K
          try simp only [getElem_toArray, getElem_cons_zero, getElem_cons_succ, Act.put, setIfInBounds_toArray, set_cons_zero, set_cons_succ]
          refine wpAnyH_done (by kernel_rfl) ?_ _
          clear hHeld d0 d1 d2 d3
          go_wp2_with fail
          obtain ⟨j0, q1, q2, q3, q4⟩ := info_parts infoSt
          have lI := goti.2.2.2.2.1
          have lT := gott.2.2.2.2.1
          have bI := goti.2.2.2.1
          have bT := gott.2.2.2.1
          have sz1 := bw1.size
          have sz2 := bw2.size
          have sz3 := bw3.size
          have sz4 := bw4.size
          have xi' := xi.out
          have xt' := xt.out
          refine bodyPost_ret (results_cell_row (P := Tryz.prog) rfl _ _ (w.heap.size + 1) _ _ (0, 0) _ rfl f2 Tryz.underlying27 rfl (by rw [q1]; simp [q3])) rfl ⟨_, rfl, ⟨gi, ci, gt, ct, rfl, by omega, ?_, ?_⟩, ?_⟩
          · exact (((goti.later bw4).base (by omega : w.heap.size ≤ W.heap.size)).set (by omega) _).set (by omega) _
          · exact ((gott.base (by omega : w.heap.size ≤ W.heap.size)).set (by omega) _).set (by omega) _
          · exact ((HbW.out.trans (Bw4.mono HbW.out.size)).setCell (p := ⟨w.heap.size + 1, 0, none⟩) (by simp) _).setCell (p := ⟨w.heap.size + 1, 1, none⟩) (by simp) _
  · go_simp
    obtain ⟨w1, hw1⟩ : ∃ x, x = (W.alloc (.cells #[] 65)).drew := ⟨_, rfl⟩
    rw [← hw1]
    have bw1 : Below W.heap.size W w1 := by rw [hw1]; exact ((Below.refl W.heap.size W).alloc (Nat.le_refl _) _).drew
    have zw1 : w1.heap.size = W.heap.size + 1 := by rw [hw1]; simp
    have xt : Hid (W.heap.size < w1.heap.size ∧ W.heap.size ≤ W.heap.size) := Lib.hid ⟨by omega, BW.size⟩
    have yt : Hid (W.heap.size = W.heap.size) := Lib.hid rfl
    have Zw1 := Lib.hid zw1
    clear hw1 zw1
    have Bw1 := BW.trans (bw1.mono BW.size)
    refine hK.out _ _ (HV.out _ Bw1) (fun hHeld => ?_)
    clear hK K
    try simp only [getElem_toArray, getElem_cons_zero, getElem_cons_succ, Act.put, setIfInBounds_toArray, set_cons_zero, set_cons_succ]
    have hXt : Hid (W.heap.size ≤ W.heap.size ∧ W.heap.size < w1.heap.size) := Lib.hid ⟨xt.out.2, xt.out.1⟩
    refine rd1 0 (fun K hK => ?_)
    · go_simp
      obtain ⟨w2, hw2⟩ : ∃ x, x = w1.alloc (.cells #[] 45) := ⟨_, rfl⟩
      rw [← hw2]
      have bw2 : Below w1.heap.size w1 w2 := by rw [hw2]; exact ((Below.refl w1.heap.size w1).alloc (Nat.le_refl _) _)
      have zw2 : w2.heap.size = w1.heap.size + 1 := by rw [hw2]; simp
      have xi : Hid (w1.heap.size < w2.heap.size ∧ W.heap.size ≤ w1.heap.size) := Lib.hid ⟨by omega, Bw1.size⟩
      have yi : Hid (w1.heap.size = w1.heap.size) := Lib.hid rfl
      have Zw2 := Lib.hid zw2
      clear hw2 zw2
      have Bw2 := Bw1.trans (bw2.mono Bw1.size)
      refine hK.out _ _ (HV.out _ Bw2) (fun hHeld => ?_)
      clear hK K
      try simp only [getElem_toArray, getElem_cons_zero, getElem_cons_succ, Act.put, setIfInBounds_toArray, set_cons_zero, set_cons_succ]
      have hXi : Hid (W.heap.size ≤ w1.heap.size ∧ w1.heap.size < w2.heap.size) := Lib.hid ⟨xi.out.2, xi.out.1⟩
      have hXt := Lib.hid (And.intro hXt.out.1 (Nat.lt_of_lt_of_le hXt.out.2 bw2.size))
      refine rd1 3 (fun K hK => ?_)
      · have hXl := hXi.out
        obtain ⟨ii, p1, p2, p3, p4⟩ := info_parts infoIt
        refine step_app0 rfl (.tmp 3) (.tmp 5) 24 rfl 45 ii _ 2 32 Tryz.underlying24 p1 p2 p3 p4 rfl (by decide) w1.heap.size W.heap.size hXl.1 hXl.2 (by simp [Act.eval]) _ (by simp [Act.eval]) w.heap.size s.items.length (s.items.flatMap itC) (Hri.out w2 Bw2) (flat_len_it s.items) (one_it s.items) (by have := Hf.out; unfold Few at this; unfold maxLen; omega) (by have := Hf.out; unfold Few at this; omega) ?_
        intro gi ci w3 bw3 ei goti
        have Bw3 := Bw2.trans (bw3.mono Bw2.size)
        refine hK.out _ _ (HV.out _ Bw3) (fun hHeld => ?_)
        clear hK K
        try simp only [getElem_toArray, getElem_cons_zero, getElem_cons_succ, Act.put, setIfInBounds_toArray, set_cons_zero, set_cons_succ]
        have hXt := Lib.hid (And.intro hXt.out.1 (Nat.lt_of_lt_of_le hXt.out.2 bw3.size))
        refine rd1 7 (fun K hK => ?_)
        · have hXl := hXt.out
          obtain ⟨it, p1, p2, p3, p4⟩ := info_parts infoTk
          refine step_app0 rfl (.tmp 7) (.tmp 9) 25 rfl 65 it _ 3 40 Tryz.underlying25 p1 p2 p3 p4 rfl (by decide) W.heap.size W.heap.size hXl.1 hXl.2 (by simp [Act.eval]) _ (by simp [Act.eval]) w.heap.size s.talks.length (s.talks.flatMap tkC) (Hrt.out w3 Bw3) (flat_len_tk s.talks) (one_tk s.talks) (by have := Hf.out; unfold Few at this; unfold maxLen; omega) (by have := Hf.out; unfold Few at this; omega) ?_
          intro gt ct w4 bw4 et gott
          have Bw4 := Bw3.trans (bw4.mono Bw3.size)
          refine hK.out _ _ (HV.out _ Bw4) (fun hHeld => ?_)
          clear hK K
          refine tk 8 (v := ?_) ?_ ?_; rotate_left
          · refine Or.inl ⟨by rfl, ?_⟩; intro w hSw; obtain ⟨f0, f1⟩ := hSw; go_simp; first | done | with_reducible rfl
          have r1 := HR.out w4 Bw4
          have d0 := cell_of_row w4 _ 0 _ _ _ r1
          have d1 := cell_of_row w4 _ 1 _ _ _ r1
          have d2 := frozen_of_row w4 _ 0 _ _ r1
          have d3 := frozen_of_row w4 _ 1 _ _ r1
          simp only [List.getElem?_toArray, List.getElem?_cons_zero, List.getElem?_cons_succ] at d0 d1
          refine rd1 9 (fun K hK => ?_)
          have r0 := HB0.out w4 Bw4
          have R0 := Lib.hid r0
          have R1 := Lib.hid r1
          clear r0 r1
          go_simp
          have f1 := heap_setCell_same _ (w.heap.size + 1) 0 _ _ (Value.slice (some ⟨gi, 0, none⟩) s.items.length ci) R1.out
          have f2 := heap_setCell_same _ (w.heap.size + 1) 1 _ _ (Value.slice (some ⟨gt, 0, none⟩) s.talks.length ct) f1
          have m0 : ((w4.setCell ⟨w.heap.size + 1, 0, none⟩ (Value.slice (some ⟨gi, 0, none⟩) s.items.length ci)).setCell ⟨w.heap.size + 1, 1, none⟩ (Value.slice (some ⟨gt, 0, none⟩) s.talks.length ct)).heap[w.heap.size]? = some (.cells #[vi, vt] 27 (0, 0)) := by rw [Below.heap_setCell _ _ _ _ (by simp), Below.heap_setCell _ _ _ _ (by simp)]; exact R0.out
          refine hK.out _ _ ⟨by simpa using cell_of_row _ _ 0 _ _ _ m0, by simpa using cell_of_row _ _ 1 _ _ _ m0⟩ (fun hHeld => ?_)
          clear hK K
          try simp only [getElem_toArray, getElem_cons_zero, getElem_cons_succ, Act.put, setIfInBounds_toArray, set_cons_zero, set_cons_succ]
          refine wpAnyH_done (by kernel_rfl) ?_ _
          clear hHeld d0 d1 d2 d3
          go_wp2_with fail
          obtain ⟨j0, q1, q2, q3, q4⟩ := info_parts infoSt
          have lI := goti.2.2.2.2.1
          have lT := gott.2.2.2.2.1
          have bI := goti.2.2.2.1
          have bT := gott.2.2.2.1
          have sz1 := bw1.size
          have sz2 := bw2.size
          have sz3 := bw3.size
          have sz4 := bw4.size
          have xi' := xi.out
          have xt' := xt.out
          refine bodyPost_ret (results_cell_row (P := Tryz.prog) rfl _ _ (w.heap.size + 1) _ _ (0, 0) _ rfl f2 Tryz.underlying27 rfl (by rw [q1]; simp [q3])) rfl ⟨_, rfl, ⟨gi, ci, gt, ct, rfl, by omega, ?_, ?_⟩, ?_⟩
          · exact (((goti.later bw4).base (by omega : w.heap.size ≤ W.heap.size)).set (by omega) _).set (by omega) _
          · exact ((gott.base (by omega : w.heap.size ≤ W.heap.size)).set (by omega) _).set (by omega) _
          · exact ((HbW.out.trans (Bw4.mono HbW.out.size)).setCell (p := ⟨w.heap.size + 1, 0, none⟩) (by simp) _).setCell (p := ⟨w.heap.size + 1, 1, none⟩) (by simp) _
end Go.Proofs.YtdpjdjkfedcojaaGreat

namespace Go.Proofs.YtdpjdjkfedcojaaGreat
open Go.RowKit
set_option linter.unusedVariables false

theorem run_app {P : Program} (w : World) (t ty e : TypeId) (i : TypeInfo) (z : Value) (size bytes : Nat) (ht : P.underlying t = some (.slice e)) (hi : P.info? e = some i) (hz : i.zero = some z)
    (hsize : i.size = size) (hby : i.bytes = bytes) (hzs : z.cells.size = size) (hsz : 0 < size) (g n cap base : Nat) (cs : List Value) (hg : Got w base e size g n cap cs)
    (x : Value) (B m : Nat) (news : List Value) (hr : Raw w B x m news) (hl : news.length = m * size) (h1 : ∀ u ∈ news, u.oneCell' = true) (h63 : n + m ≤ maxLen) (hb : (n + m) * bytes ≤ 140737488355328) :
    ∃ g' cap' w', (Builtin.append_ #[t, t] ty #[.slice (some ⟨g, 0, none⟩) n cap, x]).run P w = .ok (.slice (some ⟨g', 0, none⟩) (n + m) cap') w' ∧ w.grownBy w' (some g) ∧ (g' = g ∨ w.heap.size ≤ g') ∧ Got w' base e size g' (n + m) cap' (cs ++ news) := by
  obtain ⟨q1, q2, q3, q4, q5, q6⟩ := hg
  rcases q6 with ⟨rfl, rfl⟩ | hown
  · obtain rfl : cs = [] := List.eq_nil_of_length_eq_zero (by simpa using q1)
    obtain ⟨v', w', hrun, hbel, g', cap', rfl, hg', hgot⟩ := run_app0 (P := P) w t ty e i z size bytes ht hi hz hsize hby hzs hsz g base q4 q5 x B m news hr hl h1 (by omega) (by simpa using hb)
    exact ⟨g', cap', w', by simpa using hrun, ⟨hbel.os, hbel.tape, hbel.output, hbel.size, fun k hk _ => hbel.block k hk⟩, hg', by simpa using hgot⟩
  · obtain ⟨a, c, rfl, hc, _, hn, hA⟩ := hr
    cases a with
    | none =>
      obtain rfl : m = 0 := by have := hn rfl; omega
      obtain rfl : news = [] := List.eq_nil_of_length_eq_zero (by simpa using hl)
      obtain rfl : c = 0 := hn rfl
      refine ⟨g, cap, w, ?_, World.grownBy.refl _ _, .inl rfl, q1 |> fun h => by simpa using h, by omega, q3, q4, q5, .inr (by simpa using hown)⟩
      simp [Builtin.append_, run_underlying ht, sizeOf, typeInfo, hi, Builtin.lenOf, Builtin.firstCells, storeCells, q2]
    | some ad =>
      obtain ⟨v', w', hrun, h2, h3, _, h5⟩ := run_append_own_at (P := P) w base t ty e i z size bytes ht hi hz hsize hby hzs hsz _ n cs hown ad m c news hl (fun j u hu => by
          have hm : 0 < m := by
            rcases Nat.eq_zero_or_pos m with h | h
            · subst h
              have : news = [] := List.eq_nil_of_length_eq_zero (by simpa using hl)
              subst this; simp at hu
            · exact h
          obtain ⟨g0, o, hgo, _, hAt⟩ := hA hm
          cases hgo
          rw [add_flat]; exact hAt j u hu) h1 h63 hb (by omega)
      rcases id h2.2 with ⟨rfl, h0⟩ | ⟨g', cap', cur, rfl, k2, k3, k4, k5, _⟩
      · rcases h5 with h5 | h5 <;> simp [Value.ownBlock] at h5
      · have hlt := (h2.lt g' rfl).2
        refine ⟨g', cap', w', hrun, by simpa [Value.ownBlock] using h3, ?_, h2.1, k4, k5, k2, hlt, .inr h2⟩
        simp [Value.ownBlock] at h5
        omega

theorem step_app {P : Program} {ops : Array Oper} {o : Oper} {a : Act} {w : World} {K : Act → World → Prop} {Q : Exit → Act → World → Prop} {E : Prop} (hgd : o.guard = none) (s x : Operand) (t : TypeId)
    (hop : o.op = Op.call { callee := Callee.builtin Builtin.append, args := #[s, x], argTypes := #[t, t] })
    (e : TypeId) (i : TypeInfo) (z : Value) (size bytes : Nat) (ht : P.underlying t = some (.slice e)) (hi : P.info? e = some i) (hz : i.zero = some z)
    (hsize : i.size = size) (hby : i.bytes = bytes) (hzs : z.cells.size = size) (hsz : 0 < size) (g n cap base : Nat) (cs : List Value) (hg : Got w base e size g n cap cs) (hs : a.eval s = .slice (some ⟨g, 0, none⟩) n cap)
    (xv : Value) (hx : a.eval x = xv) (B m : Nat) (news : List Value) (hr : Raw w B xv m news) (hl : news.length = m * size) (h1 : ∀ u ∈ news, u.oneCell' = true) (h63 : n + m ≤ maxLen) (hb : (n + m) * bytes ≤ 140737488355328)
    (hK : ∀ g' cap' w', w.grownBy w' (some g) → (g' = g ∨ w.heap.size ≤ g') → Got w' base e size g' (n + m) cap' (cs ++ news) → K (a.put o.dst (.slice (some ⟨g', 0, none⟩) (n + m) cap')) w') :
    if Region.wanted o (yielded ops a.tmps) = true then Oper.wp P o a w K Q else E := by
  have hw : Region.wanted o (yielded ops a.tmps) = true := by simp [Region.wanted, hgd]
  rw [if_pos hw]
  obtain ⟨g', cap', w', hrun, h2, h3, h4⟩ := run_app (P := P) w t o.type e i z size bytes ht hi hz hsize hby hzs hsz g n cap base cs hg xv B m news hr hl h1 h63 hb
  unfold Oper.wp
  simp [execOp, hop, resolve, invoke, builtin, hs, hx, hrun, Result.andThen]
  exact hK g' cap' w' h2 h3 h4
end Go.Proofs.YtdpjdjkfedcojaaGreat

namespace Go.Proofs.YtdpjdjkfedcojaaGreat
open Go.RowKit
set_option linter.unusedVariables false

/-- At most the blocks g and h of what was there have turned. -/
def Off (w w' : World) (g h : Nat) : Prop := ∃ w1, w.grownBy w1 (some g) ∧ w1.grownBy w' (some h)
theorem Off.below {w w' : World} {g h B : Nat} (ho : Off w w' g h) (hg : B ≤ g) (hh : B ≤ h) (hB : B ≤ w.heap.size) : Below B w w' := by
  obtain ⟨w1, a, b⟩ := ho
  exact (((Below.refl B w).grown a hB (fun k hk => by cases hk; exact hg))).grown b (Nat.le_trans hB a.size) (fun k hk => by cases hk; exact hh)
theorem Got.grown {w w' : World} {base e size x n cap g : Nat} {cs : List Value} (h : Got w base e size x n cap cs) (hg : w.grownBy w' (some g)) (hne : x ≠ g) : Got w' base e size x n cap cs := by
  obtain ⟨h1, h2, h3, h4, h5, h6⟩ := h
  exact ⟨h1, h2, h3, h4, Nat.lt_of_lt_of_le h5 hg.size, h6.imp id (fun h => h.kept hg (Or.inr (by simp [Value.ownBlock]; omega)))⟩
theorem Got.off {w w' : World} {base e size x n cap g k : Nat} {cs : List Value} (h : Got w base e size x n cap cs) (ho : Off w w' g k) (hg : x ≠ g) (hk : x ≠ k) : Got w' base e size x n cap cs := by
  obtain ⟨w1, a, b⟩ := ho
  exact (h.grown a hg).grown b hk
theorem grown_of_below {w w' : World} (h : Below w.heap.size w w') (g : Option Nat) : w.grownBy w' g := ⟨h.os, h.tape, h.output, h.size, fun k hk _ => h.block k hk⟩

/-- A slice's address, or none where it has no element. -/
def NilOr (a : Option Addr) (g n cap : Nat) : Prop := a = some ⟨g, 0, none⟩ ∨ (a = none ∧ n = 0 ∧ cap = 0)
theorem Off.size {w w' : World} {g h : Nat} (ho : Off w w' g h) : w.heap.size ≤ w'.heap.size := by
  obtain ⟨w1, a, b⟩ := ho
  exact Nat.le_trans a.size b.size
theorem Off.block {w w' : World} {g h : Nat} (ho : Off w w' g h) {j : Nat} (hj : j < w.heap.size) (hg : j ≠ g) (hh : j ≠ h) : w'.heap[j]? = w.heap[j]? := by
  obtain ⟨w1, a, b⟩ := ho
  exact (b.block j (Nat.lt_of_lt_of_le hj a.size) (by simp; omega)).trans (a.block j hj (by simp; omega))
end Go.Proofs.YtdpjdjkfedcojaaGreat

namespace Go.Proofs.YtdpjdjkfedcojaaGreat
open Go.RowKit
set_option linter.unusedVariables false

/-- The slice at a row's head, or nil where it has no element. -/
def SlN (v : Value) (g n cap : Nat) : Prop := ∃ a, v = .slice a n cap ∧ (a = some ⟨g, 0, none⟩ ∨ (a = none ∧ n = 0 ∧ cap = 0))
/-- A state whose rows are the call's own, or nil. -/
def OwnN (w : World) (base : Nat) (v : Value) (s : St) : Prop := ∃ vi vt gi ci gt ct, v = .agg #[vi, vt] ∧ gi ≠ gt ∧ SlN vi gi s.items.length ci ∧ SlN vt gt s.talks.length ct ∧
  Got w base 45 2 gi s.items.length ci (s.items.flatMap itC) ∧ Got w base 65 3 gt s.talks.length ct (s.talks.flatMap tkC)
theorem OwnC.n {w : World} {base : Nat} {v : Value} {s : St} (h : OwnC w base v s) : OwnN w base v s := by
  obtain ⟨gi, ci, gt, ct, h0, h1, h2, h3⟩ := h
  exact ⟨_, _, gi, ci, gt, ct, h0, h1, ⟨_, rfl, .inl rfl⟩, ⟨_, rfl, .inl rfl⟩, h2, h3⟩
theorem OwnN.later {w w' : World} {base : Nat} {v : Value} {s : St} (h : OwnN w base v s) (hb : Below w.heap.size w w') : OwnN w' base v s := by
  obtain ⟨vi, vt, gi, ci, gt, ct, h0, h1, h2, h3, h4, h5⟩ := h
  exact ⟨vi, vt, gi, ci, gt, ct, h0, h1, h2, h3, h4.later hb, h5.later hb⟩
theorem OwnN.base {w : World} {base base' : Nat} {v : Value} {s : St} (h : OwnN w base v s) (hb : base' ≤ base) : OwnN w base' v s := by
  obtain ⟨vi, vt, gi, ci, gt, ct, h0, h1, h2, h3, h4, h5⟩ := h
  exact ⟨vi, vt, gi, ci, gt, ct, h0, h1, h2, h3, h4.base hb, h5.base hb⟩
theorem raw_of_got {w : World} {base e size g n cap : Nat} {v : Value} {cs : List Value} (h : Got w base e size g n cap cs) (hv : SlN v g n cap) : Raw w w.heap.size v n cs := by
  obtain ⟨h1, h2, h3, h4, h5, h6⟩ := h
  obtain ⟨a, rfl, hv⟩ := hv
  rcases hv with rfl | ⟨rfl, rfl, rfl⟩
  · refine ⟨_, cap, rfl, h2, h3, (fun h => by cases h), fun hn => ⟨g, 0, rfl, h5, fun j u hu => ?_⟩⟩
    have := (h6.resolve_left (by omega)).cells (g := g) rfl j u hu
    rwa [add_flat] at this
  · exact ⟨none, 0, rfl, Nat.le_refl _, Nat.zero_le _, fun _ => rfl, fun h => absurd h (Nat.lt_irrefl _)⟩
theorem OwnN.rd {w : World} {base : Nat} {v : Value} {s : St} (h : OwnN w base v s) : Rd w w.heap.size v s := by
  obtain ⟨vi, vt, gi, ci, gt, ct, h0, h1, h2, h3, h4, h5⟩ := h
  exact ⟨vi, vt, h0, raw_of_got h4 h2, raw_of_got h5 h3⟩

/-- A block's cells, some of them in a row written. -/
theorem heap_setCells (g : Nat) (e : TypeId) : ∀ (vs : List Value) (o : Nat) (w : World) (cur : Array Value), w.heap[g]? = some (.cells cur e (0, 0)) → o + vs.length ≤ cur.size →
    ∃ cur', (w.setCells g o vs).heap[g]? = some (.cells cur' e (0, 0)) ∧ cur'.size = cur.size ∧ cur'.toList = cur.toList.take o ++ vs ++ cur.toList.drop (o + vs.length)
  | [], o, w, cur, h, _ => ⟨cur, h, rfl, by simp⟩
  | v :: vs, o, w, cur, h, hl => by
    have h1 := heap_setCell_same w g o _ _ v h
    simp only [List.length_cons] at hl
    obtain ⟨cur', k0, k1, k2⟩ := heap_setCells g e vs (o + 1) (w.setCell ⟨g, o, none⟩ v) _ h1 (by simp only [Array.size_setIfInBounds]; omega)
    refine ⟨cur', k0, by simpa using k1, ?_⟩
    rw [k2]
    have ho : o < cur.toList.length := by rw [Array.length_toList]; omega
    have e1 : (cur.setIfInBounds o v).toList = cur.toList.set o v := by simp
    rw [e1, List.take_set, List.drop_set]
    have e2 : (cur.toList.take (o + 1)).set o v = cur.toList.take o ++ [v] := by
      have hl2 : (cur.toList.take o).length = o := by rw [List.length_take]; omega
      rw [List.take_succ_eq_append_getElem ho, List.set_append_right _ _ (by omega), hl2, Nat.sub_self]
      rfl
    rw [e2, if_pos (by omega)]
    simp [List.append_assoc, Nat.add_assoc, Nat.add_comm 1]
theorem grown_setCells (g : Nat) : ∀ (vs : List Value) (o : Nat) (w : World), w.grownBy (w.setCells g o vs) (some g)
  | [], o, w => World.grownBy.refl _ _
  | v :: vs, o, w => (grown_set w ⟨g, o, none⟩ v).trans (grown_setCells g vs (o + 1) _)

/-- 'append' whose run is known, in a list of operations, and in a region that draws. -/
theorem wpList_app {P : Program} {ops : Array Oper} {rest : List Oper} {o : Oper} {a : Act} {w w' : World} {Q : Exit → Act → World → Prop} (hg : o.guard = none) (s x : Operand) (t : TypeId)
    (hop : o.op = Op.call { callee := Callee.builtin Builtin.append, args := #[s, x], argTypes := #[t, t] }) (sv xv v : Value) (hs : a.eval s = sv) (hx : a.eval x = xv)
    (hrun : (Builtin.append_ #[t, t] o.type #[sv, xv]).run P w = .ok v w') (h : wpList P ops Q rest (a.put o.dst v) w') : wpList P ops Q (o :: rest) a w := by
  refine wpList_plain hg fun K hK' => ?_
  unfold Oper.wp
  simp [execOp, hop, resolve, invoke, builtin, hs, hx, hrun, Result.andThen]
  exact hK' _ _ h
theorem step_run {P : Program} {ops : Array Oper} {o : Oper} {a : Act} {w w' : World} {K : Act → World → Prop} {Q : Exit → Act → World → Prop} {E : Prop} (hgd : o.guard = none) (s x : Operand) (t : TypeId)
    (hop : o.op = Op.call { callee := Callee.builtin Builtin.append, args := #[s, x], argTypes := #[t, t] }) (sv xv v : Value) (hs : a.eval s = sv) (hx : a.eval x = xv)
    (hrun : (Builtin.append_ #[t, t] o.type #[sv, xv]).run P w = .ok v w') (hK : K (a.put o.dst v) w') : if Region.wanted o (yielded ops a.tmps) = true then Oper.wp P o a w K Q else E := by
  have hw : Region.wanted o (yielded ops a.tmps) = true := by simp [Region.wanted, hgd]
  rw [if_pos hw]
  unfold Oper.wp
  simp [execOp, hop, resolve, invoke, builtin, hs, hx, hrun, Result.andThen]
  exact hK
end Go.Proofs.YtdpjdjkfedcojaaGreat

namespace Go.Proofs.YtdpjdjkfedcojaaGreat
open Go.RowKit

def digs (u : Nat) : List UInt8 := if u = 0 then [] else Lib.decDigits u
theorem digs_step (m : Nat) (h : 0 < m) : digs m = digs (m / 10) ++ [UInt8.ofNat (48 + m % 10)] := by
  unfold digs
  rw [if_neg (by omega), Lib.decDigits]
  by_cases h' : m < 10
  · rw [dif_pos h', if_pos (by omega), show m % 10 = m by omega]; rfl
  · rw [dif_neg h', if_neg (by omega)]

/-- What is left of a number's digits stands ahead of those that were written. -/
def Left (n m : Nat) (s : ByteArray) : Prop := digs m ++ s.data.toList = Lib.decDigits n
theorem Left.start (n : Nat) (h : 0 < n) : Left n n ⟨#[]⟩ := by
  unfold Left digs; rw [if_neg (by omega)]; simp
theorem Left.bound {n m : Nat} {s : ByteArray} (h : Left n m s) (hn : n < 18446744073709551616) : s.size ≤ 20 := by
  have := congrArg List.length h
  rw [List.length_append, Lib.decDigits_length] at this
  have h20 := Lib.nDigits_le20 n hn
  have : s.data.toList.length = s.size := by simp
  omega
theorem Left.step {n m : Nat} {s : ByteArray} (h : Left n m s) (hm : 0 < m) : Left n (m / 10) ((⟨#[48, 49, 50, 51, 52, 53, 54, 55, 56, 57]⟩ : ByteArray).extract (m % 10) (m % 10 + 1) ++ s) := by
  unfold Left at *
  rw [← h, digs_step m hm, ByteArray.data_append, Array.toList_append, Lib.extract_data, ← List.append_assoc]
  congr 2
  have : m % 10 < 10 := by omega
  generalize m % 10 = d at this
  match d, this with
  | 0, _ | 1, _ | 2, _ | 3, _ | 4, _ | 5, _ | 6, _ | 7, _ | 8, _ | 9, _ => rfl
theorem Left.step1 {n m : Nat} {s : ByteArray} (h : Left n m s) (hm : 0 < m) : Left n (m / 10) ((⟨#[UInt8.ofNat (48 + m % 10)]⟩ : ByteArray) ++ s) := by
  unfold Left at *
  rw [← h, digs_step m hm, ByteArray.data_append, Array.toList_append, ← List.append_assoc]
theorem Left.fin {n : Nat} {s : ByteArray} (h : Left n 0 s) : s = ⟨(Lib.decDigits n).toArray⟩ := by
  unfold Left digs at h
  rw [if_pos rfl, List.nil_append] at h
  rw [← h]
theorem itoa_pos (n : Nat) : Lib.itoa n = Lib.decDigits n := by
  unfold Lib.itoa; rw [if_neg (by omega)]; simp
theorem itoa_neg (n : Nat) (h : 0 < n) : Lib.itoa (-(n : Int)) = 45 :: Lib.decDigits n := by
  unfold Lib.itoa; rw [if_pos (by omega)]; simp
theorem ret_str {a b : ByteArray} (h : a = b) : Ending.returned (.string a) = .returned (.string b) := by rw [h]
theorem Left.fin_neg {n : Nat} {s : ByteArray} (h : Left n 0 s) : (⟨#[45]⟩ : ByteArray) ++ s = ⟨((45 : UInt8) :: Lib.decDigits n).toArray⟩ := by
  rw [h.fin]; apply ByteArray.ext; simp
end Go.Proofs.YtdpjdjkfedcojaaGreat

namespace Go.Proofs.YtdpjdjkfedcojaaGreat
open Go.RowKit

/-- Of the first k bytes: the pieces that are closed, and where the open one begins. -/
def cutAt (sep : UInt8 → Bool) (s : ByteArray) : Nat → List ByteArray × Nat
  | 0 => ([], 0)
  | k + 1 => if sep (s.get! k) then ((cutAt sep s k).1 ++ [s.extract (cutAt sep s k).2 k], k + 1) else cutAt sep s k
/-- All pieces: one more than there are separators. -/
def pieces (sep : UInt8 → Bool) (s : ByteArray) : List ByteArray := (cutAt sep s s.size).1 ++ [s.extract (cutAt sep s s.size).2 s.size]
def isNl (c : UInt8) : Bool := c == 10
def isBl (c : UInt8) : Bool := c == 32 || c == 9
def linesOf (s : ByteArray) : List ByteArray := if s.size = 0 then [] else pieces isNl s
def full (b : ByteArray) : Bool := decide (0 < b.size)
def wordsOf (s : ByteArray) : List ByteArray := (pieces isBl s).filter full

theorem get_at (s : ByteArray) (k : Nat) (h : k < s.size) : s.get! k = s[k] := by
  simp [ByteArray.get!, h, getElem!_pos]; rfl
theorem cut_yes {sep : UInt8 → Bool} {s : ByteArray} {k : Nat} (h : k < s.size) (hs : sep s[k] = true) : cutAt sep s (k + 1) = ((cutAt sep s k).1 ++ [s.extract (cutAt sep s k).2 k], k + 1) := by
  simp only [cutAt, get_at s k h, hs, if_true]
theorem cut_no {sep : UInt8 → Bool} {s : ByteArray} {k : Nat} (h : k < s.size) (hs : sep s[k] = false) : cutAt sep s (k + 1) = cutAt sep s k := by
  simp only [cutAt, get_at s k h, hs]; simp
theorem cut_le (sep : UInt8 → Bool) (s : ByteArray) (k : Nat) : (cutAt sep s k).2 ≤ k := by
  induction k with
  | zero => simp [cutAt]
  | succ k ih => simp only [cutAt]; split <;> (try simp) <;> omega
theorem cut_len (sep : UInt8 → Bool) (s : ByteArray) (k : Nat) : (cutAt sep s k).1.length ≤ k := by
  induction k with
  | zero => simp [cutAt]
  | succ k ih => simp only [cutAt]; split <;> (try simp) <;> omega
theorem pieces_len (sep : UInt8 → Bool) (s : ByteArray) : (pieces sep s).length ≤ s.size + 1 := by
  have := cut_len sep s s.size
  simp [pieces]; omega

/-- A row of texts that a call owns (from block B on). -/
def Texts (w : World) (B : Nat) (v : Value) (xs : List ByteArray) : Prop := w.ownsRow B 9 1 v xs.length (xs.map Value.string)
/-- One text more behind the row, as append leaves it. -/
theorem Texts.snoc {w : World} {B : Nat} {v : Value} {xs : List ByteArray} {x : ByteArray} (h : w.ownsRow B 9 1 v (xs.length + 1) (xs.map Value.string ++ [.string x])) : Texts w B v (xs ++ [x]) := by
  unfold Texts; simpa using h
theorem Texts.nil (w : World) (B : Nat) : Texts w B (.slice none 0 0) [] := World.ownsRow_nil _ _ _ _
theorem Texts.empty (w : World) (B : Nat) (hB : B ≤ w.heap.size) : Texts (w.alloc (.cells #[] 9)) B (.slice (some ⟨w.heap.size, 0, none⟩) 0 0) [] :=
  ⟨rfl, .inr ⟨w.heap.size, 0, #[], rfl, hB, by show (w.heap.push _)[w.heap.size]? = _; simp, Nat.le_refl _, Nat.zero_le _, rfl, rfl⟩⟩
theorem Texts.own {w : World} {B : Nat} {v : Value} {xs : List ByteArray} (h : Texts w B v xs) : ∀ k, v.ownBlock = some k → B ≤ k := by
  rintro k hk
  obtain ⟨_, ⟨rfl, _⟩ | ⟨g, cap, cur, rfl, hg, _⟩⟩ := h
  · cases hk
  · simp [Value.ownBlock] at hk; omega
theorem Texts.grown {w wr w1 : World} {B : Nat} {v : Value} {xs : List ByteArray} {o : Obj} (h : Texts wr B v xs) (hB : Below B w wr) (hB' : B ≤ wr.heap.size) (hg : (wr.alloc o).grownBy w1 v.ownBlock) : Below B w w1 :=
  (hB.alloc hB' o).grown hg (by simp; omega) h.own
/-- The row's two shapes. -/
theorem Texts.form {w : World} {B : Nat} {v : Value} {xs : List ByteArray} (h : Texts w B v xs) : (v = .slice none 0 0 ∧ xs = []) ∨
    ∃ g cap, v = .slice (some ⟨g, 0, none⟩) xs.length cap ∧ B ≤ g ∧ g < w.heap.size ∧ xs.length ≤ maxLen ∧ (∀ i (hi : i < xs.length), w.cell? ⟨g, i, none⟩ = some (.string xs[i])) ∧ (∀ i, w.frozen? ⟨g, i, none⟩ = false) := by
  have hlt := World.ownsRow.lt h
  obtain ⟨hl, ⟨rfl, h0⟩ | ⟨g, cap, cur, rfl, hg, hh, hc, hm, hs, ht⟩⟩ := id h
  · exact .inl ⟨rfl, List.eq_nil_of_length_eq_zero h0⟩
  · refine .inr ⟨g, cap, rfl, hg, (hlt g rfl).2, by omega, fun i hi => ?_, fun i => by simp [World.frozen?, hh]⟩
    rw [World.ownsRow.cellAt h i (by omega)]
    simp [hi]
theorem Texts.later {w w' : World} {B : Nat} {v : Value} {xs : List ByteArray} (h : Texts w B v xs) (hb : Below w.heap.size w w') : Texts w' B v xs := by
  refine World.ownsRow.kept (row := none) h ⟨hb.os, hb.tape, hb.output, hb.size, fun k hk _ => hb.block k hk⟩ ?_
  cases v.ownBlock <;> simp
theorem Texts.set {w : World} {B g cap i : Nat} {xs : List ByteArray} (h : Texts w B (.slice (some ⟨g, 0, none⟩) xs.length cap) xs) (x : ByteArray) :
    Texts (w.setCell ⟨g, i, none⟩ (.string x)) B (.slice (some ⟨g, 0, none⟩) xs.length cap) (xs.set i x) := by
  have := (World.ownsRow.stored h i (.string x)).1
  unfold Texts; rw [List.length_set]; rw [List.map_set]; exact this
/-- The marks. -/
def markOf (k : Nat) : ByteArray := ⟨((109 : UInt8) :: Lib.decDigits k).toArray⟩
def marks (k n : Nat) : List ByteArray := (List.range n).map fun i => markOf (k + i)
theorem marks_at (k n i : Nat) (hi : i < n) : (marks k n)[i]'(by simp [marks, hi]) = markOf (k + i) := by simp [marks]
/-- The first i texts marked. -/
def markUpto (k : Nat) (xs : List ByteArray) (i : Nat) : List ByteArray := marks k i ++ xs.drop i
theorem markUpto_len (k : Nat) (xs : List ByteArray) (i : Nat) (hi : i ≤ xs.length) : (markUpto k xs i).length = xs.length := by
  simp [markUpto, marks]; omega
theorem markUpto_set {w : World} {B g cap k i : Nat} {xs : List ByteArray} (hi : i < xs.length) (h : Texts w B (.slice (some ⟨g, 0, none⟩) xs.length cap) (markUpto k xs i)) :
    Texts (w.setCell ⟨g, i, none⟩ (.string (markOf (k + i)))) B (.slice (some ⟨g, 0, none⟩) xs.length cap) ((markUpto k xs i).set i (markOf (k + i))) := by
  have hl := markUpto_len k xs i (by omega)
  rw [← hl] at h ⊢
  exact h.set _
theorem markUpto_zero (k : Nat) (xs : List ByteArray) : markUpto k xs 0 = xs := by simp [markUpto, marks]
theorem markUpto_all (k : Nat) (xs : List ByteArray) : markUpto k xs xs.length = marks k xs.length := by simp [markUpto]
theorem markUpto_step (k : Nat) (xs : List ByteArray) (i : Nat) (hi : i < xs.length) : (markUpto k xs i).set i (markOf (k + i)) = markUpto k xs (i + 1) := by
  unfold markUpto
  have hl : (marks k i).length = i := by simp [marks]
  rw [List.set_append_right _ _ (by omega), hl, Nat.sub_self, List.drop_eq_getElem_cons hi, List.set_cons_zero]
  simp [marks, List.range_succ]
/-- A row at a known place: its cell i, whose mark is off. -/
theorem Texts.at {w : World} {B g cap n : Nat} {xs : List ByteArray} (h : Texts w B (.slice (some ⟨g, 0, none⟩) n cap) xs) (hn : xs.length = n) (i : Nat) (hi : i < n) :
    (∃ x, xs[i]? = some x ∧ w.cell? ⟨g, i, none⟩ = some (.string x)) ∧ w.frozen? ⟨g, i, none⟩ = false := by
  subst hn
  rcases h.form with ⟨h0, _⟩ | ⟨g', cap', h0, _, _, _, hc, hf⟩
  · cases h0
  · cases h0
    exact ⟨⟨xs[i], by simp [hi], hc i hi⟩, hf i⟩
theorem lines_ne (s : ByteArray) (h : ¬ s.toList = []) : linesOf s = pieces isNl s := by
  unfold linesOf; rw [if_neg]; intro h'; apply h
  rw [ByteArray.toList_eq]
  exact List.eq_nil_of_length_eq_zero (by simpa using h')
theorem lines_eq (s : ByteArray) (h : s.toList = []) : linesOf s = [] := by
  unfold linesOf; rw [if_pos]
  rw [ByteArray.toList_eq] at h
  have := congrArg List.length h
  simpa using this
theorem isNl_yes {c : UInt8} (h : ((c.toNat : Int) == 10) = true) : isNl c = true := by
  unfold isNl; simp at h; simp; apply UInt8.toNat_inj.mp; simp; omega
theorem isNl_no {c : UInt8} (h : ((c.toNat : Int) == 10) = false) : isNl c = false := by
  unfold isNl; simp at h; simp; rintro rfl; simp at h
theorem isBl_1 {c : UInt8} (h : ((c.toNat : Int) == 32) = true) : isBl c = true := by
  unfold isBl; simp at h; simp; left; apply UInt8.toNat_inj.mp; simp; omega
theorem isBl_2 {c : UInt8} (h : ((c.toNat : Int) == 9) = true) : isBl c = true := by
  unfold isBl; simp at h; simp; right; apply UInt8.toNat_inj.mp; simp; omega
theorem isBl_0 {c : UInt8} (h : ((c.toNat : Int) == 32) = false) (h' : ((c.toNat : Int) == 9) = false) : isBl c = false := by
  unfold isBl; simp at h h'; simp; constructor <;> (rintro rfl; simp at h h')
theorem full_yes (pre : List ByteArray) (x : ByteArray) (h : ¬ x.toList = []) : (pre ++ [x]).filter full = pre.filter full ++ [x] := by
  have : full x = true := by
    rw [ByteArray.toList_eq] at h
    unfold full; simp
    rcases Nat.eq_zero_or_pos x.size with h' | h'
    · exact absurd (List.eq_nil_of_length_eq_zero (by simpa using h')) h
    · exact h'
  simp [this]
theorem full_no (pre : List ByteArray) (x : ByteArray) (h : x.toList = []) : (pre ++ [x]).filter full = pre.filter full := by
  have : full x = false := by
    rw [ByteArray.toList_eq] at h
    have := congrArg List.length h
    unfold full; simp at this ⊢; omega
  simp [this]

/-! ## Words, as the reader that goes from word to word has them -/
/-- The words that have come when k bytes are read: the closed ones, and the open one. -/
def wordsAt (s : ByteArray) (k : Nat) : List ByteArray := (cutAt isBl s k).1.filter full ++ (if (cutAt isBl s k).2 < k then [s.extract (cutAt isBl s k).2 k] else [])
theorem wordsAt_zero (s : ByteArray) : wordsAt s 0 = [] := by simp [wordsAt, cutAt]
theorem extract_size' (s : ByteArray) (a b : Nat) (h : a ≤ b) (hb : b ≤ s.size) : (s.extract a b).size = b - a := by
  rw [ByteArray.size_extract]; omega
theorem full_extract (s : ByteArray) (a b : Nat) (h : a ≤ b) (hb : b ≤ s.size) : full (s.extract a b) = decide (a < b) := by
  unfold full; rw [extract_size' s a b h hb]; by_cases hlt : a < b <;> simp [hlt] <;> omega
theorem wordsAt_blank (s : ByteArray) (k : Nat) (h : k < s.size) (hb : isBl s[k] = true) : wordsAt s (k + 1) = wordsAt s k := by
  have hle := cut_le isBl s k
  unfold wordsAt; rw [cut_yes h hb]
  have hf := full_extract s (cutAt isBl s k).2 k hle (by omega)
  by_cases hlt : (cutAt isBl s k).2 < k
  · simp [List.filter_append, hf, hlt]
  · simp [List.filter_append, hf, hlt]
theorem cut_blank (s : ByteArray) (k : Nat) (h : k < s.size) (hb : isBl s[k] = true) : (cutAt isBl s (k + 1)).2 = k + 1 := by rw [cut_yes h hb]
theorem wordsAt_word (s : ByteArray) (k m : Nat) (hkm : k < m) (hc : (cutAt isBl s k).2 = k) (he : cutAt isBl s m = cutAt isBl s k) : wordsAt s m = wordsAt s k ++ [s.extract k m] := by
  unfold wordsAt; rw [he, hc]; simp [hkm]
theorem wordsAt_end (s : ByteArray) : wordsAt s s.size = wordsOf s := by
  have hle := cut_le isBl s s.size
  have hf := full_extract s (cutAt isBl s s.size).2 s.size hle (Nat.le_refl _)
  unfold wordsAt wordsOf pieces
  by_cases hlt : (cutAt isBl s s.size).2 < s.size
  · simp [List.filter_append, hf, hlt]
  · simp [List.filter_append, hf, hlt]
theorem wordsAt_len (s : ByteArray) (k : Nat) : (wordsAt s k).length ≤ k + 1 := by
  have h1 := cut_len isBl s k
  have h2 := List.length_filter_le full (cutAt isBl s k).1
  unfold wordsAt; split <;> simp <;> omega
end Go.Proofs.YtdpjdjkfedcojaaGreat

namespace Go.Proofs.YtdpjdjkfedcojaaGreat
open Go.RowKit
set_option linter.unusedVariables false

end Go.Proofs.YtdpjdjkfedcojaaGreat

namespace Go.Proofs.YtdpjdjkfedcojaaGreat
open Go.RowKit
set_option linter.unusedVariables false

def markI (k n : Nat) : List Value := (List.range n).flatMap fun j => [.string (markOf (k + 2 * j)), .string (markOf (k + 2 * j + 1))]
theorem markI_succ (k n : Nat) : markI k (n + 1) = markI k n ++ [.string (markOf (k + 2 * n)), .string (markOf (k + 2 * n + 1))] := by
  unfold markI; rw [List.range_succ, List.flatMap_append]; simp
theorem markI_len (k n : Nat) : (markI k n).length = n * 2 := by
  induction n with
  | zero => rfl
  | succ n ih => rw [markI_succ, List.length_append, ih]; simp; omega

def markT (k n : Nat) : List Value := (List.range n).flatMap fun j => [.string (markOf (k + 3 * j)), .int .i64 ((k + 3 * j + 1 : Nat) : Int), .string (markOf (k + 3 * j + 2))]
theorem markT_succ (k n : Nat) : markT k (n + 1) = markT k n ++ [.string (markOf (k + 3 * n)), .int .i64 ((k + 3 * n + 1 : Nat) : Int), .string (markOf (k + 3 * n + 2))] := by
  unfold markT; rw [List.range_succ, List.flatMap_append]; simp
theorem markT_len (k n : Nat) : (markT k n).length = n * 3 := by
  induction n with
  | zero => rfl
  | succ n ih => rw [markT_succ, List.length_append, ih]; simp; omega

end Go.Proofs.YtdpjdjkfedcojaaGreat

namespace Go.Proofs.YtdpjdjkfedcojaaGreat
open Go.RowKit
set_option linter.unusedVariables false

theorem markI_at (k n j : Nat) (hj : j < n) : (markI k n)[j * 2]? = some (.string (markOf (k + 2 * j))) ∧ (markI k n)[j * 2 + 1]? = some (.string (markOf (k + 2 * j + 1))) := by
  induction n with
  | zero => omega
  | succ n ih =>
    rw [markI_succ]
    by_cases h : j = n
    · subst h
      rw [List.getElem?_append_right (by rw [markI_len]; omega), List.getElem?_append_right (by rw [markI_len]; omega), markI_len, show j * 2 - j * 2 = 0 by omega, show j * 2 + 1 - j * 2 = 1 by omega]
      exact ⟨rfl, rfl⟩
    · rw [List.getElem?_append_left (by rw [markI_len]; omega), List.getElem?_append_left (by rw [markI_len]; omega)]
      exact ih (by omega)
theorem markT_at (k n j : Nat) (hj : j < n) : (markT k n)[j * 3]? = some (.string (markOf (k + 3 * j))) ∧ (markT k n)[j * 3 + 1]? = some (.int .i64 ((k + 3 * j + 1 : Nat) : Int)) ∧ (markT k n)[j * 3 + 2]? = some (.string (markOf (k + 3 * j + 2))) := by
  induction n with
  | zero => omega
  | succ n ih =>
    rw [markT_succ]
    by_cases h : j = n
    · subst h
      rw [List.getElem?_append_right (by rw [markT_len]; omega), List.getElem?_append_right (by rw [markT_len]; omega), List.getElem?_append_right (by rw [markT_len]; omega), markT_len, show j * 3 - j * 3 = 0 by omega, show j * 3 + 1 - j * 3 = 1 by omega, show j * 3 + 2 - j * 3 = 2 by omega]
      exact ⟨rfl, rfl, rfl⟩
    · rw [List.getElem?_append_left (by rw [markT_len]; omega), List.getElem?_append_left (by rw [markT_len]; omega), List.getElem?_append_left (by rw [markT_len]; omega)]
      exact ih (by omega)

theorem mark_self (k : Nat) : ((markOf k).toList == (109 : UInt8) :: Lib.decDigits k) = true := by rw [ByteArray.toList_eq]; simp [markOf]

end Go.Proofs.YtdpjdjkfedcojaaGreat

namespace Go.Proofs.YtdpjdjkfedcojaaGreat
open Go.RowKit
set_option linter.unusedVariables false

end Go.Proofs.YtdpjdjkfedcojaaGreat

namespace Go.Proofs.YtdpjdjkfedcojaaGreat
open Go.RowKit
set_option linter.unusedVariables false

end Go.Proofs.YtdpjdjkfedcojaaGreat

namespace Go.Proofs.YtdpjdjkfedcojaaGreat
open Go.RowKit
set_option linter.unusedVariables false

theorem impl_valueOk (s : ByteArray) (w : World) (hs : s.size ≤ maxLen) : Calls Tryz.prog 138 #[.string s] w fun e w' => e = .returned (.bool (decide ((s.size : Int) ≤ 60))) ∧ w = w' := by
  unfold maxLen at hs
  go_enter Tryz.func138, Tryz.ntmps138
  go_wp2
  go_ret
  exact ⟨rfl, rfl⟩
theorem impl_seqOk (q : Int) (w : World) : Calls Tryz.prog 142 #[.int .i64 q] w fun e w' => e = .returned (.bool (inB q 1 1000000000)) ∧ w = w' := by
  rcases (show q < 1 ∨ 1000000000 < q ∨ (1 ≤ q ∧ q ≤ 1000000000) by omega) with h | h | ⟨h, h'⟩
  · have hb : Hid (inB q 1 1000000000 = false) := Lib.hid (by unfold inB; simp; omega)
    go_enter Tryz.func142, Tryz.ntmps142
    go_wp2
    go_ret
    exact ⟨ret_bool hb.out.symm, rfl⟩
  · have hb : Hid (inB q 1 1000000000 = false) := Lib.hid (by unfold inB; simp; omega)
    have h1 : 1 ≤ q := by omega
    have h2 : decide (q ≤ 1000000000) = false := by simpa using h
    go_enter Tryz.func142, Tryz.ntmps142
    go_wp2
    go_ret
    exact ⟨ret_bool hb.out.symm, rfl⟩
  · have hb : Hid (inB q 1 1000000000 = true) := Lib.hid (by unfold inB; simp; omega)
    go_enter Tryz.func142, Tryz.ntmps142
    go_wp2
    go_ret
    exact ⟨ret_bool hb.out.symm, rfl⟩
end Go.Proofs.YtdpjdjkfedcojaaGreat

namespace Go.Proofs.YtdpjdjkfedcojaaGreat
open Go.RowKit
set_option linter.unusedVariables false

structure Rq where
  c : ByteArray
  q : Int
  n : Int
  k : ByteArray
  v : ByteArray
instance : Inhabited Rq := ⟨⟨⟨#[]⟩, 0, 0, ⟨#[]⟩, ⟨#[]⟩⟩⟩
def rqC (x : Rq) : List Value := [.string x.c, .int .i64 x.q, .int .i64 x.n, .string x.k, .string x.v]
def rqA (x : Rq) : Value := .agg #[.string x.c, .int .i64 x.q, .int .i64 x.n, .string x.k, .string x.v]
/-- What is read of an operation. -/
def FitRq (x : Rq) : Prop := x.c.size ≤ maxLen ∧ x.k.size ≤ maxLen ∧ x.v.size ≤ maxLen ∧ (-9223372036854775808 ≤ x.q ∧ x.q ≤ 9223372036854775807) ∧ -9223372036854775808 ≤ x.n ∧ x.n ≤ 9223372036854775807
def rqOk (x : Rq) : Bool := inB x.n 0 2 && nameOkB x.c.data.toList && nameOkB x.k.data.toList && inB x.q 1 1000000000 && decide ((x.v.size : Int) ≤ 60) && (decide (x.n = 1) || decide (x.v = ⟨#[]⟩))

theorem name_size {a : ByteArray} (h : nameOkB a.data.toList = true) : (a.size : Int) ≤ 12 := by
  unfold nameOkB at h
  rw [Bool.and_eq_true] at h
  have h1 := inB_true h.2
  have h2 : a.data.toList.length = a.size := by simp
  omega
theorem rqOk_parts {x : Rq} (h : rqOk x = true) : (0 ≤ x.n ∧ x.n ≤ 2) ∧ nameOkB x.c.data.toList = true ∧ nameOkB x.k.data.toList = true ∧ (1 ≤ x.q ∧ x.q ≤ 1000000000) ∧ (x.v.size : Int) ≤ 60 ∧ (x.n = 1 ∨ x.v = ⟨#[]⟩) := by
  unfold rqOk at h
  simp only [Bool.and_eq_true, Bool.or_eq_true, decide_eq_true_eq] at h
  obtain ⟨⟨⟨⟨⟨h1, h2⟩, h3⟩, h4⟩, h5⟩, h6⟩ := h
  exact ⟨inB_true h1, h2, h3, inB_true h4, h5, h6⟩
end Go.Proofs.YtdpjdjkfedcojaaGreat

namespace Go.Proofs.YtdpjdjkfedcojaaGreat
open Go.RowKit
set_option linter.unusedVariables false

theorem results_cell_row3 {P : Program} {fn : Func} {p q r : Tmp} {ty : TypeId} (h : fn.results = #[.cell p ty, .tmp q, .tmp r]) (tmps : Array Value) (w : World) (g : Nat) (t : TypeId) (cs : Array Value) (fr : Nat × Nat) (d : TypeDesc) (v u : Value)
    (hp : tmps.getD p undef = .pointer (some ⟨g, 0, none⟩)) (hq : tmps.getD q undef = v) (hr : tmps.getD r undef = u) (hg : w.heap[g]? = some (.cells cs t fr))
    (hu : P.underlying ty = some d) (hd : (match d with | .struct _ | .array _ _ => true | _ => false) = true) (hi : (P.info? ty).map (·.size) = some cs.size) :
    (results fn tmps).run P w = .ok (.tuple #[.agg cs, v, u]) w := by
  have hp' : tmps[p]?.getD undef = .pointer (some ⟨g, 0, none⟩) := by simpa using hp
  have hq' : tmps[q]?.getD undef = v := by simpa using hq
  have hr' : tmps[r]?.getD undef = u := by simpa using hr
  simp [results, h, hp', hq', hr', asAddr, run_loadVar_row w g t ty cs fr d hg hu hd hi]
end Go.Proofs.YtdpjdjkfedcojaaGreat

namespace Go.Proofs.YtdpjdjkfedcojaaGreat
open Go.RowKit
set_option linter.unusedVariables false

theorem rd_parts {w : World} {b1 b2 gi gt ci ct : Nat} {ai at_ : Option Addr} {s : St} (hi : NilOr ai gi s.items.length ci) (ht : NilOr at_ gt s.talks.length ct)
    (gI : Got w b1 45 2 gi s.items.length ci (s.items.flatMap itC)) (gT : Got w b2 65 3 gt s.talks.length ct (s.talks.flatMap tkC)) :
    Rd w w.heap.size (.agg #[.slice ai s.items.length ci, .slice at_ s.talks.length ct]) s :=
  ⟨_, _, rfl, raw_of_got gI ⟨ai, rfl, hi⟩, raw_of_got gT ⟨at_, rfl, ht⟩⟩
theorem row_of_got {w : World} {b e sz g n cap : Nat} {cs : List Value} (h : Got w b e sz g n cap cs) : Row w w.heap.size sz (.slice (some ⟨g, 0, none⟩) n cap) n cs := by
  obtain ⟨h1, h2, h3, h4, h5, h6⟩ := h
  refine ⟨h1, .inr ⟨g, 0, cap, rfl, h2, h3, ?_, fun j u hu => ?_⟩⟩
  · exact .inr h5
  · have hn : 0 < cs.length := by
      rcases Nat.eq_zero_or_pos cs.length with h | h
      · have : cs = [] := List.eq_nil_of_length_eq_zero h
        subst this; simp at hu
      · exact h
    rcases h6 with ⟨rfl, _⟩ | h6
    · rw [h1] at hn; omega
    · have := h6.cells (g := g) rfl j u hu
      rwa [add_flat] at this
theorem st_parts {w : World} {b1 b2 gi gt ci ct : Nat} {s : St} (gI : Got w b1 45 2 gi s.items.length ci (s.items.flatMap itC)) (gT : Got w b2 65 3 gt s.talks.length ct (s.talks.flatMap tkC)) :
    StV w w.heap.size (.agg #[.slice (some ⟨gi, 0, none⟩) s.items.length ci, .slice (some ⟨gt, 0, none⟩) s.talks.length ct]) s :=
  ⟨_, _, rfl, row_of_got gI, row_of_got gT⟩
theorem got_of_owns {w : World} {lo e sz n g : Nat} {cs : List Value} (h : w.ownsRow lo e sz (.slice (some ⟨g, 0, none⟩) n n) n cs) (hn : n ≤ maxLen) : Got w lo e sz g n n cs :=
  ⟨h.1, Nat.le_refl _, hn, (h.lt g rfl).1, (h.lt g rfl).2, .inr h⟩
theorem OwnS.c {w : World} {lo : Nat} {v : Value} {s : St} (h : OwnS w lo v s) (hi : s.items.length ≤ maxLen) (ht : s.talks.length ≤ maxLen) :
    ∃ g k, v = .agg #[.slice (some ⟨g, 0, none⟩) s.items.length s.items.length, .slice (some ⟨k, 0, none⟩) s.talks.length s.talks.length] ∧ g ≠ k ∧
      Got w lo 45 2 g s.items.length s.items.length (s.items.flatMap itC) ∧ Got w lo 65 3 k s.talks.length s.talks.length (s.talks.flatMap tkC) := by
  obtain ⟨g, k, h0, h1, h2, h3⟩ := h
  exact ⟨g, k, h0, h1, got_of_owns h2 hi, got_of_owns h3 ht⟩
theorem slice_of_row {w : World} {B sz n : Nat} {v : Value} {cs : List Value} (h : Row w B sz v n cs) : ∃ a m c, v = .slice a m c := by
  rcases h with ⟨_, ⟨rfl, _⟩ | ⟨g, o, cap, rfl, _⟩⟩ <;> exact ⟨_, _, _, rfl⟩

end Go.Proofs.YtdpjdjkfedcojaaGreat

namespace Go.Proofs.YtdpjdjkfedcojaaGreat
open Go.RowKit
set_option linter.unusedVariables false

theorem got_put {w : World} {base e size g n cap : Nat} {cs : List Value} (h : Got w base e size g n cap cs) (hn : 0 < n) (o : Nat) (vs : List Value) (m : Nat) (hm : m ≤ cap) (ho : o + vs.length ≤ cap * size) :
    ∃ cur : List Value, cur.length = cap * size ∧ cur.take (n * size) = cs ∧ Got (w.setCells g o vs) base e size g m cap ((cur.take o ++ vs ++ cur.drop (o + vs.length)).take (m * size)) := by
  obtain ⟨h1, h2, h3, h4, h5, h6⟩ := h
  rcases h6 with h6 | ⟨_, h6⟩
  · omega
  rcases h6 with ⟨h6, _⟩ | ⟨g', cap', cur, hv, k1, k2, k3, k4, k5, k6⟩
  · cases h6
  · cases hv
    obtain ⟨cur', j0, j1, j2⟩ := heap_setCells g e vs o w cur k2 (by omega)
    have hgr := grown_setCells g vs o w
    have hl : ((cur.toList.take o ++ vs ++ cur.toList.drop (o + vs.length)).take (m * size)).length = m * size := by
      have hms : m * size ≤ cap * size := Nat.mul_le_mul_right _ hm
      simp only [List.length_take, List.length_append, List.length_drop, Array.length_toList]
      omega
    refine ⟨cur.toList, by simpa using k5, k6, hl, hm, h3, h4, Nat.lt_of_lt_of_le h5 hgr.size, .inr ⟨hl, .inr ⟨g, cap, cur', rfl, h4, j0, hm, h3, by omega, ?_⟩⟩⟩
    rw [j2]

/-- What lies in a row's block: its cells, none frozen. -/
theorem got_cells {w : World} {base e size g n cap : Nat} {cs : List Value} (h : Got w base e size g n cap cs) (hn : 0 < n) :
    ∃ cur : Array Value, w.heap[g]? = some (.cells cur e (0, 0)) ∧ cur.size = cap * size ∧ cur.toList.take (n * size) = cs := by
  obtain ⟨h1, h2, h3, h4, h5, h6⟩ := h
  rcases h6 with h6 | ⟨_, h6⟩
  · omega
  rcases h6 with ⟨h6, _⟩ | ⟨g', cap', cur, hv, k1, k2, k3, k4, k5, k6⟩
  · cases h6
  · cases hv
    exact ⟨cur, k2, k5, k6⟩

theorem run_clear1 {P : Program} (w : World) (t e ty : TypeId) (z : Value) (zs : List Value) (ht : P.underlying t = some (.slice e)) (hv : ∀ w, (zeroValue e).run P w = .ok z w) (hz : (Builtin.zeroCells z.cells 1).toList = zs)
    (h1 : ∀ v ∈ zs, v.oneCell' = true) (b o c : Nat) (hc : ∀ j, j < zs.length → (w.cell? ⟨b, o + j, none⟩).isSome = true) (hf : ∀ j, j < zs.length → w.frozen? ⟨b, o + j, none⟩ = false) :
    (Builtin.clear_ #[t] ty #[.slice (some ⟨b, o, none⟩) 1 c]).run P w = .ok (.tuple #[]) (w.setCells b o zs) := by
  have hst := run_storeCells_cells (P := P) b o zs 0 w (by simpa using hc) (by simpa using hf) h1
  simp only [Nat.add_zero] at hst
  simp [Builtin.clear_, run_underlying ht, hv, hz, hst]

theorem flat_split_it (xs : List It) (i : Nat) : xs.flatMap itC = (xs.take i).flatMap itC ++ (xs.drop i).flatMap itC := by
  rw [← List.flatMap_append, List.take_append_drop]
theorem flat_take_it (xs : List It) (i : Nat) (hi : i ≤ xs.length) : (xs.take i).flatMap itC = (xs.flatMap itC).take (i * 2) := by
  rw [flat_split_it xs i, List.take_left' (by rw [flat_len_it, List.length_take]; omega)]
theorem flat_drop_it (xs : List It) (i : Nat) (hi : i ≤ xs.length) : (xs.drop i).flatMap itC = (xs.flatMap itC).drop (i * 2) := by
  rw [flat_split_it xs i, List.drop_left' (by rw [flat_len_it, List.length_take]; omega)]
theorem flat_split_tk (xs : List Tk) (i : Nat) : xs.flatMap tkC = (xs.take i).flatMap tkC ++ (xs.drop i).flatMap tkC := by
  rw [← List.flatMap_append, List.take_append_drop]
theorem flat_take_tk (xs : List Tk) (i : Nat) (hi : i ≤ xs.length) : (xs.take i).flatMap tkC = (xs.flatMap tkC).take (i * 3) := by
  rw [flat_split_tk xs i, List.take_left' (by rw [flat_len_tk, List.length_take]; omega)]
theorem flat_drop_tk (xs : List Tk) (i : Nat) (hi : i ≤ xs.length) : (xs.drop i).flatMap tkC = (xs.flatMap tkC).drop (i * 3) := by
  rw [flat_split_tk xs i, List.drop_left' (by rw [flat_len_tk, List.length_take]; omega)]

/-- Cells behind a row's end written: the row stays. -/
theorem got_tail {w : World} {base e size g n cap : Nat} {cs : List Value} (h : Got w base e size g n cap cs) (o : Nat) (vs : List Value) (ho : n * size ≤ o) (hl : o + vs.length ≤ cap * size) : Got (w.setCells g o vs) base e size g n cap cs := by
  obtain ⟨h1, h2, h3, h4, h5, h6⟩ := h
  have hgr := grown_setCells g vs o w
  refine ⟨h1, h2, h3, h4, Nat.lt_of_lt_of_le h5 hgr.size, ?_⟩
  rcases h6 with h6 | h6
  · exact .inl h6
  refine .inr ⟨h1, ?_⟩
  rcases h6.2 with ⟨h6, _⟩ | ⟨g', cap', cur, hv, k1, k2, k3, k4, k5, k6⟩
  · cases h6
  · cases hv
    obtain ⟨cur', j0, j1, j2⟩ := heap_setCells g e vs o w cur k2 (by omega)
    refine .inr ⟨g, cap, cur', rfl, h4, j0, h2, h3, by omega, ?_⟩
    have hol : (cur.toList.take o).length = o := by rw [List.length_take, Array.length_toList]; omega
    rw [j2, List.append_assoc, List.take_append_of_le_length (by omega), List.take_take, Nat.min_eq_left ho]
    exact k6

/-- 'clear' whose run is known, in a list of operations. -/
theorem wpList_clear {P : Program} {ops : Array Oper} {rest : List Oper} {o : Oper} {a : Act} {w w' : World} {Q : Exit → Act → World → Prop} (hg : o.guard = none) (x : Operand) (t : TypeId)
    (hop : o.op = Op.call { callee := Callee.builtin Builtin.clear, args := #[x], argTypes := #[t] }) (xv v : Value) (hx : a.eval x = xv)
    (hrun : (Builtin.clear_ #[t] o.type #[xv]).run P w = .ok v w') (h : wpList P ops Q rest (a.put o.dst v) w') : wpList P ops Q (o :: rest) a w := by
  refine wpList_plain hg fun K hK' => ?_
  unfold Oper.wp
  simp [execOp, hop, resolve, invoke, builtin, hx, hrun, Result.andThen]
  exact hK' _ _ h

/-- An element cut out: what the row's cells are then. -/
theorem cut_list (cur cs : List Value) (sz i p cap : Nat) (zs : List Value) (hz : zs.length = sz) (hl : cur.length = cap * sz) (hc : cur.take ((i + 1 + p) * sz) = cs) (hcap : i + 1 + p ≤ cap) :
    ((cur.take (i * sz) ++ cs.drop ((i + 1) * sz) ++ cur.drop (i * sz + (cs.drop ((i + 1) * sz)).length)).take ((i + p) * sz)) = cs.take (i * sz) ++ cs.drop ((i + 1) * sz) := by
  have e0 : (i + 1 + p) * sz = i * sz + sz + p * sz := by rw [Nat.add_mul, Nat.add_mul, Nat.one_mul]
  have e1 : (i + p) * sz = i * sz + p * sz := Nat.add_mul _ _ _
  have e2 : (i + 1) * sz = i * sz + sz := by rw [Nat.add_mul, Nat.one_mul]
  have e3 : (i + 1 + p) * sz ≤ cap * sz := Nat.mul_le_mul_right _ hcap
  have l1 : cs.length = (i + 1 + p) * sz := by rw [← hc, List.length_take]; omega
  have l2 : (cs.drop ((i + 1) * sz)).length = p * sz := by rw [List.length_drop]; omega
  have l3 : (cur.take (i * sz)).length = i * sz := by rw [List.length_take]; omega
  have l4 : cur.take (i * sz) = cs.take (i * sz) := by rw [← hc, List.take_take, Nat.min_eq_left (by omega)]
  rw [List.take_append_of_le_length (by rw [List.length_append]; omega), List.take_of_length_le (by rw [List.length_append]; omega), l4]
end Go.Proofs.YtdpjdjkfedcojaaGreat
