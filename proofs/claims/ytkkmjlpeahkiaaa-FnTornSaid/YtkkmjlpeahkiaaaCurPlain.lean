/- Plain facts on the draws' generator and its cursor in memory. Condition: none. -/
import Derived.Test.YtkkmjlpeahkiaaaPlain
import Derived.WalkKit
import Derived.Lib.Hide
import Derived.OneCell
import Derived.OpenShut
import Derived.Maps.AppendAt
import Derived.Deep.QuietTactic
namespace Go.Proofs.Ytkkmjlpeahkiaaa
open Go.RowKit

theorem i64_and255 (n : Int) : bits .and .i64 n 255 = n % 256 := by
  have h127 : (BitVec.ofInt 64 255).toNat = 2 ^ 8 - 1 := by decide
  have key : (BitVec.ofInt 64 n &&& BitVec.ofInt 64 255).toNat = (n % ((2 ^ 64 : Nat) : Int)).toNat % 2 ^ 8 := by
    rw [BitVec.toNat_and, BitVec.toNat_ofInt, h127, Nat.and_two_pow_sub_one_eq_mod]
  show IntKind.i64.wrap ((BitVec.ofInt 64 n &&& BitVec.ofInt 64 255).toNat : Nat) = n % 256
  rw [key, IntKind.wrap_i64]
  omega
theorem i64_and30 (n : Int) : bits .and .i64 n 1073741823 = n % 1073741824 := by
  have h127 : (BitVec.ofInt 64 1073741823).toNat = 2 ^ 30 - 1 := by decide
  have key : (BitVec.ofInt 64 n &&& BitVec.ofInt 64 1073741823).toNat = (n % ((2 ^ 64 : Nat) : Int)).toNat % 2 ^ 30 := by
    rw [BitVec.toNat_and, BitVec.toNat_ofInt, h127, Nat.and_two_pow_sub_one_eq_mod]
  show IntKind.i64.wrap ((BitVec.ofInt 64 n &&& BitVec.ofInt 64 1073741823).toNat : Nat) = n % 1073741824
  rw [key, IntKind.wrap_i64]
  omega

/-- The generator's step, and the byte that it gives. -/
def lcg (h : Int) : Int := wrap64 (wrap64 (h * 6364136223846793005) + 1442695040888963407)
def rawByte (h : Int) : Int := bits BinOp.xor IntKind.i64 (h / 8589934592) (h / 35184372088832) % 256
theorem raw_lo (h : Int) : 0 ≤ rawByte h := by unfold rawByte; omega
theorem raw_hi (h : Int) : rawByte h ≤ 255 := by unfold rawByte; omega

theorem heap_new (w : World) (o : Obj) : (w.alloc o).heap[w.heap.size]? = some o := by
  show (w.heap.push o)[w.heap.size]? = _; simp
/-- The byte that comes next: the code's own mixed in while there is one. -/
def nextB (zs : List Int) (len i : Nat) (h : Int) : Int := if i < len then (rawByte (lcg h) + zs.getD i 0) % 256 else rawByte (lcg h)
/-- The generator's first state, over a code's bytes. -/
def newHAt (zs : List Int) (len : Nat) : Nat → Int
  | 0 => 772772 + len
  | k + 1 => (newHAt zs len k * 131 + zs.getD k 0 + 7) % 1073741824
theorem newH_lo (zs : List Int) (len k : Nat) : 0 ≤ newHAt zs len k := by cases k <;> simp only [newHAt] <;> omega
theorem newH_hi (zs : List Int) (len k : Nat) (hl : len ≤ 1048576) : newHAt zs len k ≤ 1073741823 := by cases k <;> simp only [newHAt] <;> omega
theorem newH_step {zs : List Int} {len k : Nat} {H z : Int} (hH : H = newHAt zs len k) (hz : z = zs.getD k 0) : bits .and .i64 (H * 131 + z + 7) 1073741823 = newHAt zs len (k + 1) := by
  rw [i64_and30, hH, hz]; rfl
theorem grown_set (w : World) (p : Addr) (v : Value) : w.grownBy (w.setCell p v) (some p.block) :=
  ⟨rfl, rfl, rfl, by simp [World.setCell], fun k _ hn => Below.heap_setCell _ _ _ _ (fun e => hn (by rw [e]))⟩
theorem grown_draws (w : World) (n : Nat) (row : Option Nat) : w.grownBy (w.drewN n) row := ⟨rfl, rfl, rfl, Nat.le_refl _, fun _ _ _ => rfl⟩
theorem grown_drew (w : World) (row : Option Nat) : w.grownBy w.drew row := ⟨rfl, rfl, rfl, Nat.le_refl _, fun _ _ _ => rfl⟩

theorem add_block (x : Addr) (i : Nat) : (x.add i).block = x.block := by unfold Addr.add; split <;> rfl
theorem add_flat (b off i : Nat) : (⟨b, off, none⟩ : Addr).add i = ⟨b, off + i, none⟩ := by
  unfold Addr.add; split
  · rename_i h; subst h; rfl
  · rfl

/-- The code's row: it lies below block B. -/
def Row8 (w : World) (B : Nat) (a : Option Addr) (len cap : Nat) (zs : List Int) : Prop := IsRow .u8 w a len cap zs ∧ ∀ x, a = some x → 0 < zs.length → x.block < B
theorem row8_of {w : World} {a : Option Addr} {len cap : Nat} {zs : List Int} (h : IsRow .u8 w a len cap zs) : Row8 w w.heap.size a len cap zs := by
  refine ⟨h, fun x hx hz => ?_⟩
  rcases h with ⟨rfl, _⟩ | ⟨y, rfl, _, _, _, hc, _⟩
  · cases hx
  · cases hx
    have := World.block_lt_of_cell? w _ (hc 0 hz)
    simpa [Addr.add] using this
theorem Row8.len_le {w : World} {B : Nat} {a : Option Addr} {len cap : Nat} {zs : List Int} (h : Row8 w B a len cap zs) : len ≤ maxLen := by
  rcases h.1 with ⟨_, rfl, _, _⟩ | ⟨x, _, h1, h2, _⟩
  · exact Nat.zero_le _
  · omega
theorem Row8.byte {w : World} {B : Nat} {a : Option Addr} {len cap : Nat} {zs : List Int} (h : Row8 w B a len cap zs) (i : Nat) (hi : i < len) :
    ∃ b off z, a = some ⟨b, off, none⟩ ∧ b < B ∧ w.cell? ⟨b, off + i, none⟩ = some (.int .u8 z) ∧ 0 ≤ z ∧ z ≤ 255 ∧ z = zs.getD i 0 := by
  rcases h.1 with ⟨_, rfl, _, _⟩ | ⟨⟨b, off, spot⟩, rfl, h1, h2, h3, hc, hw⟩
  · omega
  · have hb := h.2 _ rfl (by omega)
    have hc0 := hc 0 (by omega)
    have hsp : spot = none := by simpa [Addr.add] using World.cell?_spot hc0
    subst hsp
    have hci := hc i (by omega)
    rw [add_flat] at hci
    have hz : zs.getD i 0 ∈ zs := by
      rw [List.getD_eq_getElem?_getD, List.getElem?_eq_getElem (by omega)]; simp
    have := bounds_u8 (hw _ hz)
    exact ⟨b, off, zs.getD i 0, rfl, hb, hci, this.1, this.2, rfl⟩
theorem Row8.kept {w w' : World} {B blk : Nat} {a : Option Addr} {len cap : Nat} {zs : List Int} (h : Row8 w B a len cap zs) (hg : w.grownBy w' (some blk)) (hB : B ≤ blk) : Row8 w' B a len cap zs := by
  refine ⟨?_, h.2⟩
  rcases h.1 with h0 | ⟨x, rfl, h1, h2, h3, hc, hw⟩
  · exact .inl h0
  · refine .inr ⟨x, rfl, h1, h2, h3, fun i hi => ?_, hw⟩
    have hb := h.2 _ rfl (by omega)
    exact hg.cell (hc i hi) (by rw [add_block]; simp; omega)
theorem Row8.below {w w' : World} {B : Nat} {a : Option Addr} {len cap : Nat} {zs : List Int} (h : Row8 w B a len cap zs) (hg : Below B w w') : Row8 w' B a len cap zs := by
  refine ⟨?_, h.2⟩
  rcases h.1 with h0 | ⟨x, rfl, h1, h2, h3, hc, hw⟩
  · exact .inl h0
  · refine .inr ⟨x, rfl, h1, h2, h3, fun i hi => ?_, hw⟩
    have hb := h.2 _ rfl (by omega)
    rw [hg.cell (by rw [add_block]; exact hb)]; exact hc i hi

theorem Row8.later {w w' : World} {a : Option Addr} {len cap : Nat} {zs : List Int} (h : Row8 w w.heap.size a len cap zs) (hb : Below w.heap.size w w') : Row8 w' w'.heap.size a len cap zs :=
  row8_of (h.below hb).1

/-- A number that an int holds. -/
def InR (h : Int) : Prop := -9223372036854775808 ≤ h ∧ h ≤ 9223372036854775807
theorem wrap_in (n : Int) : InR (wrap64 n) := by unfold InR wrap64; omega
theorem lcg_in (h : Int) : InR (lcg h) := wrap_in _

theorem newH_in (zs : List Int) (len k : Nat) (hl : len ≤ 1048576) : InR (newHAt zs len k) := by
  have h1 := newH_lo zs len k
  have h2 := newH_hi zs len k hl
  unfold InR; omega

/-- The cursor in block blk: over the row of bytes at a (below block B), i of them read, the generator at h. -/
structure Cur (T : TypeId) (w : World) (B blk : Nat) (a : Option Addr) (len cap : Nat) (zs : List Int) (i : Nat) (h : Int) : Prop where
  cells : w.heap[blk]? = some (.cells #[.slice a len cap, .int .i64 i, .int .i64 h] T (0, 0))
  row : Row8 w B a len cap zs
  le : B ≤ blk
  at_ : i ≤ len
  rng : InR h

section
variable {T : TypeId} {w : World} {B blk : Nat} {a : Option Addr} {len cap i : Nat} {zs : List Int} {h : Int}
theorem Cur.c0 (c : Cur T w B blk a len cap zs i h) : w.cell? ⟨blk, 0, none⟩ = some (.slice a len cap) := by simp [World.cell?, c.cells]
theorem Cur.c1 (c : Cur T w B blk a len cap zs i h) : w.cell? ⟨blk, 1, none⟩ = some (.int .i64 i) := by simp [World.cell?, c.cells]
theorem Cur.c2 (c : Cur T w B blk a len cap zs i h) : w.cell? ⟨blk, 2, none⟩ = some (.int .i64 h) := by simp [World.cell?, c.cells]
theorem Cur.f (c : Cur T w B blk a len cap zs i h) (j : Nat) : w.frozen? ⟨blk, j, none⟩ = false := by simp [World.frozen?, c.cells]
theorem Cur.lt (c : Cur T w B blk a len cap zs i h) : blk < w.heap.size := lt_of_block c.cells
theorem modify_at {w : World} {b : Nat} {o o' : Obj} {f : Obj → Obj} (h : w.heap[b]? = some o) (e : f o = o') : (w.heap.modify b f)[b]? = some o' := by
  have hlt := lt_of_block h
  have h' : w.heap[b] = o := by simpa [Array.getElem?_eq_getElem hlt] using h
  rw [Array.getElem?_eq_getElem (by simpa using hlt), Array.getElem_modify_self, h', e]
theorem Cur.set2 (c : Cur T w B blk a len cap zs i h) (h' : Int) (hr : InR h') : Cur T (w.setCell ⟨blk, 2, none⟩ (.int .i64 h')) B blk a len cap zs i h' :=
  ⟨modify_at c.cells rfl, c.row.kept (grown_set w _ _) c.le, c.le, c.at_, hr⟩
theorem Cur.set1 (c : Cur T w B blk a len cap zs i h) (i' : Nat) (hi : i' ≤ len) : Cur T (w.setCell ⟨blk, 1, none⟩ (.int .i64 i')) B blk a len cap zs i' h :=
  ⟨modify_at c.cells rfl, c.row.kept (grown_set w _ _) c.le, c.le, hi, c.rng⟩
theorem Cur.drewN (c : Cur T w B blk a len cap zs i h) (n : Nat) : Cur T (w.drewN n) B blk a len cap zs i h := ⟨c.cells, c.row.kept (blk := blk) (grown_draws _ _ _) c.le, c.le, c.at_, c.rng⟩
theorem Cur.drew (c : Cur T w B blk a len cap zs i h) : Cur T w.drew B blk a len cap zs i h := ⟨c.cells, c.row.kept (blk := blk) (grown_drew _ _) c.le, c.le, c.at_, c.rng⟩
/-- Whatever leaves the cursor's block and the blocks below B alone. -/
theorem Cur.kept {w' : World} (c : Cur T w B blk a len cap zs i h) (hg : Below B w w') (hb : w'.heap[blk]? = w.heap[blk]?) : Cur T w' B blk a len cap zs i h :=
  ⟨hb.trans c.cells, c.row.below hg, c.le, c.at_, c.rng⟩
theorem Cur.alloc (c : Cur T w B blk a len cap zs i h) (o : Obj) : Cur T (w.alloc o) B blk a len cap zs i h :=
  c.kept ((Below.refl _ _).alloc (by have := c.lt; have := c.le; omega) _) (Below.heap_alloc _ _ _ c.lt)
end

/-- The cursor, wherever it stands. -/
def Cu (T : TypeId) (w : World) (B blk : Nat) : Prop := ∃ a len cap zs i h, Cur T w B blk a len cap zs i h
theorem Cu.lt {T : TypeId} {w : World} {B blk : Nat} (c : Cu T w B blk) : blk < w.heap.size := by
  obtain ⟨_, _, _, _, _, _, c⟩ := c; exact c.lt
theorem Cu.le {T : TypeId} {w : World} {B blk : Nat} (c : Cu T w B blk) : B ≤ blk := by
  obtain ⟨_, _, _, _, _, _, c⟩ := c; exact c.le
theorem Cu.kept {T : TypeId} {w w' : World} {B blk : Nat} (c : Cu T w B blk) (hg : Below B w w') (hb : w'.heap[blk]? = w.heap[blk]?) : Cu T w' B blk := by
  obtain ⟨a, len, cap, zs, i, h, c⟩ := c; exact ⟨a, len, cap, zs, i, h, c.kept hg hb⟩
theorem Cu.alloc {T : TypeId} {w : World} {B blk : Nat} (c : Cu T w B blk) (o : Obj) : Cu T (w.alloc o) B blk := by
  obtain ⟨a, len, cap, zs, i, h, c⟩ := c; exact ⟨a, len, cap, zs, i, h, c.alloc o⟩
theorem Cu.drewN {T : TypeId} {w : World} {B blk : Nat} (c : Cu T w B blk) (n : Nat) : Cu T (w.drewN n) B blk := by
  obtain ⟨a, len, cap, zs, i, h, c⟩ := c; exact ⟨a, len, cap, zs, i, h, c.drewN n⟩
theorem Cu.drew {T : TypeId} {w : World} {B blk : Nat} (c : Cu T w B blk) : Cu T w.drew B blk := by
  obtain ⟨a, len, cap, zs, i, h, c⟩ := c; exact ⟨a, len, cap, zs, i, h, c.drew⟩

/-- What a draw of a number in 0 .. n-1 leaves. -/
def DrewInt (T : TypeId) (w : World) (B blk : Nat) (P : Int → Prop) (e : Ending) (w' : World) : Prop := ∃ x : Int, P x ∧ e = .returned (.int .i64 x) ∧ Cu T w' B blk ∧ w.grownBy w' (some blk)
/-- The same, told exactly: how far the code has been read, how the generator stands, what it gave. -/
def DrewByte (T : TypeId) (w : World) (B blk : Nat) (a : Option Addr) (len cap : Nat) (zs : List Int) (i : Nat) (h : Int) (e : Ending) (w' : World) : Prop :=
  ∃ (x : Int) (i' : Nat), 0 ≤ x ∧ x ≤ 255 ∧ Hid (x = nextB zs len i h) ∧ Hid (i' = (if i < len then i + 1 else i)) ∧ e = .returned (.int .i64 x) ∧ Cur T w' B blk a len cap zs i' (lcg h) ∧ w.grownBy w' (some blk)
/-- What a draw of a bool, of a text leaves. -/
def DrewBool (T : TypeId) (w : World) (B blk : Nat) (e : Ending) (w' : World) : Prop := ∃ b : Bool, e = .returned (.bool b) ∧ Cu T w' B blk ∧ w.grownBy w' (some blk)
def DrewVal (T : TypeId) (w : World) (B blk : Nat) (Q : Value → Prop) (e : Ending) (w' : World) : Prop := ∃ v, Q v ∧ e = .returned v ∧ Cu T w' B blk ∧ w.grownBy w' (some blk)
/-- A number in 0 .. n-1; 0 where n is not above 0. -/
def Under (n x : Int) : Prop := 0 ≤ x ∧ (0 < n → x < n) ∧ (n ≤ 0 → x = 0)
/-- A row of texts that the walk has just laid: what each of its cells is. -/
def Short (k : Nat) (v : Value) : Prop := ∃ s : ByteArray, v = .string s ∧ s.size ≤ k
theorem Short.mono {k m : Nat} {v : Value} (h : Short k v) (hm : k ≤ m) : Short m v := by
  obtain ⟨s, h1, h2⟩ := h; exact ⟨s, h1, by omega⟩
def shortB (k : Nat) : Value → Bool
  | .string s => decide (s.size ≤ k)
  | _ => false
theorem short_of {k : Nat} {v : Value} (h : shortB k v = true) : Short k v := by
  cases v <;> simp [shortB] at h
  exact ⟨_, rfl, h⟩
theorem lit_texts (w : World) (l : List Value) (t : TypeId) (k : Nat) (h : ∀ v ∈ l, Short k v) : ∀ j, j < l.length → ∃ s, (w.alloc (.cells l.toArray t)).cell? ⟨w.heap.size, j, none⟩ = some (.string s) ∧ Short k (.string s) := by
  intro j hj
  obtain ⟨s, hs, hk⟩ := h l[j] (List.getElem_mem hj)
  exact ⟨s, by rw [World.cell?_alloc_new, ← hs]; simp [hj], s, rfl, hk⟩
theorem lit_ints (w : World) (l : List Value) (t : TypeId) (Q : Value → Prop) (h : ∀ v ∈ l, ∃ n : Int, v = .int .i64 n ∧ Q v) : ∀ j, j < l.length → ∃ n : Int, (w.alloc (.cells l.toArray t)).cell? ⟨w.heap.size, j, none⟩ = some (.int .i64 n) ∧ Q (.int .i64 n) := by
  intro j hj
  obtain ⟨n, hn, hq⟩ := h l[j] (List.getElem_mem hj)
  exact ⟨n, by rw [World.cell?_alloc_new, ← hn]; simp [hj], hn ▸ hq⟩
/-- A draw of a text of at most k bytes. -/
def DrewText (T : TypeId) (w : World) (B blk k : Nat) (e : Ending) (w' : World) : Prop := ∃ s : ByteArray, s.size ≤ k ∧ e = .returned (.string s) ∧ Cu T w' B blk ∧ w.grownBy w' (some blk)
/-- What a drawing function leaves: a number; a text of at most k bytes; two texts. -/
def DrawnInt (w : World) (e : Ending) (w' : World) : Prop := ∃ n : Int, e = .returned (.int .i64 n) ∧ -9223372036854775808 ≤ n ∧ n ≤ 9223372036854775807 ∧ Below w.heap.size w w'
def DrawnText (k : Nat) (w : World) (e : Ending) (w' : World) : Prop := ∃ s : ByteArray, e = .returned (.string s) ∧ s.size ≤ k ∧ Below w.heap.size w w'
def DrawnText2 (k : Nat) (w : World) (e : Ending) (w' : World) : Prop := ∃ s t : ByteArray, e = .returned (.tuple #[.string s, .string t]) ∧ s.size ≤ k ∧ t.size ≤ k ∧ Below w.heap.size w w'
/-- What is written to the cursor alone, which lies beyond B, leaves what lies below B. -/
theorem below_grown {B blk : Nat} {w w1 w2 : World} (h : Below B w w1) (hg : w1.grownBy w2 (some blk)) (hB : B ≤ blk) (hB' : B ≤ w1.heap.size) : Below B w w2 :=
  h.grown hg hB' (fun k e => by cases e; exact hB)
/-- Where the code's reader stands behind one byte. -/
def nextI (len i : Nat) : Nat := if i < len then i + 1 else i
/-- What a draw leaves, told exactly. -/
def DrewAt (T : TypeId) (w : World) (B blk : Nat) (a : Option Addr) (len cap : Nat) (zs : List Int) (i : Nat) (h : Int) (v : Value) (e : Ending) (w' : World) : Prop :=
  e = .returned v ∧ Cur T w' B blk a len cap zs (nextI len i) (lcg h) ∧ w.grownBy w' (some blk)
end Go.Proofs.Ytkkmjlpeahkiaaa
