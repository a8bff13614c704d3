/- Plain facts on the draws' generator and its cursor in memory. Condition: none. -/
import Derived.Test.YtcehmcnkalilnaaPlain
import Derived.WalkKit
import Derived.Lib.Hide
import Derived.OneCell
import Derived.OpenShut
import Derived.Maps.AppendAt
import Derived.Deep.QuietTactic
namespace Go.Proofs.Ytcehmcnkalilnaa
open Go.RowKit

theorem i64_and255 (n : Int) : bits .and .i64 n 255 = n % 256 := by
  have h127 : (BitVec.ofInt 64 255).toNat = 2 ^ 8 - 1 := by decide
  have key : (BitVec.ofInt 64 n &&& BitVec.ofInt 64 255).toNat = (n % ((2 ^ 64 : Nat) : Int)).toNat % 2 ^ 8 := by
    rw [BitVec.toNat_and, BitVec.toNat_ofInt, h127, Nat.and_two_pow_sub_one_eq_mod]
  show IntKind.i64.wrap ((BitVec.ofInt 64 n &&& BitVec.ofInt 64 255).toNat : Nat) = n % 256
  rw [key, IntKind.wrap_i64]
  omega
theorem i64_and30 (n : Int) : bits .and .i64 n 1073741823 = n % 1073741824 := by
  have h127 : (BitVec.ofInt 64 1073741823).toNat = 2 ^ 30 - 1 := by decide
  have key : (BitVec.ofInt 64 n &&& BitVec.ofInt 64 1073741823).toNat = (n % ((2 ^ 64 : Nat) : Int)).toNat % 2 ^ 30 := by
    rw [BitVec.toNat_and, BitVec.toNat_ofInt, h127, Nat.and_two_pow_sub_one_eq_mod]
  show IntKind.i64.wrap ((BitVec.ofInt 64 n &&& BitVec.ofInt 64 1073741823).toNat : Nat) = n % 1073741824
  rw [key, IntKind.wrap_i64]
  omega

/-- The generator's step, and the byte that it gives. -/
def lcg (h : Int) : Int := wrap64 (wrap64 (h * 6364136223846793005) + 1442695040888963407)
def rawByte (h : Int) : Int := bits BinOp.xor IntKind.i64 (h / 8589934592) (h / 35184372088832) % 256
theorem raw_lo (h : Int) : 0 ≤ rawByte h := by unfold rawByte; omega
theorem raw_hi (h : Int) : rawByte h ≤ 255 := by unfold rawByte; omega

theorem heap_new (w : World) (o : Obj) : (w.alloc o).heap[w.heap.size]? = some o := by
  show (w.heap.push o)[w.heap.size]? = _; simp
theorem grown_set (w : World) (p : Addr) (v : Value) : w.grownBy (w.setCell p v) (some p.block) :=
  ⟨rfl, rfl, rfl, by simp [World.setCell], fun k _ hn => Below.heap_setCell _ _ _ _ (fun e => hn (by rw [e]))⟩
theorem grown_draws (w : World) (n : Nat) (row : Option Nat) : w.grownBy (w.drewN n) row := ⟨rfl, rfl, rfl, Nat.le_refl _, fun _ _ _ => rfl⟩
theorem grown_drew (w : World) (row : Option Nat) : w.grownBy w.drew row := ⟨rfl, rfl, rfl, Nat.le_refl _, fun _ _ _ => rfl⟩

theorem add_block (x : Addr) (i : Nat) : (x.add i).block = x.block := by unfold Addr.add; split <;> rfl
theorem add_flat (b off i : Nat) : (⟨b, off, none⟩ : Addr).add i = ⟨b, off + i, none⟩ := by
  unfold Addr.add; split
  · rename_i h; subst h; rfl
  · rfl

/-- The code's row: it lies below block B. -/
def Row8 (w : World) (B : Nat) (a : Option Addr) (len cap : Nat) (zs : List Int) : Prop := IsRow .u8 w a len cap zs ∧ ∀ x, a = some x → x.block < B
theorem Row8.len_le {w : World} {B : Nat} {a : Option Addr} {len cap : Nat} {zs : List Int} (h : Row8 w B a len cap zs) : len ≤ maxLen := by
  rcases h.1 with ⟨_, rfl, _, _⟩ | ⟨x, _, h1, h2, _⟩
  · exact Nat.zero_le _
  · omega
theorem Row8.byte {w : World} {B : Nat} {a : Option Addr} {len cap : Nat} {zs : List Int} (h : Row8 w B a len cap zs) (i : Nat) (hi : i < len) :
    ∃ b off z, a = some ⟨b, off, none⟩ ∧ b < B ∧ w.cell? ⟨b, off + i, none⟩ = some (.int .u8 z) ∧ 0 ≤ z ∧ z ≤ 255 := by
  rcases h.1 with ⟨_, rfl, _, _⟩ | ⟨⟨b, off, spot⟩, rfl, h1, h2, h3, hc, hw⟩
  · omega
  · have hb := h.2 _ rfl
    have hc0 := hc 0 (by omega)
    have hsp : spot = none := by simpa [Addr.add] using World.cell?_spot hc0
    subst hsp
    have hci := hc i (by omega)
    rw [add_flat] at hci
    have hz : zs.getD i 0 ∈ zs := by
      rw [List.getD_eq_getElem?_getD, List.getElem?_eq_getElem (by omega)]; simp
    have := bounds_u8 (hw _ hz)
    exact ⟨b, off, zs.getD i 0, rfl, hb, hci, this.1, this.2⟩
theorem Row8.kept {w w' : World} {B blk : Nat} {a : Option Addr} {len cap : Nat} {zs : List Int} (h : Row8 w B a len cap zs) (hg : w.grownBy w' (some blk)) (hB : B ≤ blk) : Row8 w' B a len cap zs := by
  refine ⟨?_, h.2⟩
  rcases h.1 with h0 | ⟨x, rfl, h1, h2, h3, hc, hw⟩
  · exact .inl h0
  · refine .inr ⟨x, rfl, h1, h2, h3, fun i hi => ?_, hw⟩
    have hb := h.2 _ rfl
    exact hg.cell (hc i hi) (by rw [add_block]; simp; omega)
theorem Row8.below {w w' : World} {B : Nat} {a : Option Addr} {len cap : Nat} {zs : List Int} (h : Row8 w B a len cap zs) (hg : Below B w w') : Row8 w' B a len cap zs := by
  refine ⟨?_, h.2⟩
  rcases h.1 with h0 | ⟨x, rfl, h1, h2, h3, hc, hw⟩
  · exact .inl h0
  · refine .inr ⟨x, rfl, h1, h2, h3, fun i hi => ?_, hw⟩
    have hb := h.2 _ rfl
    rw [hg.cell (by rw [add_block]; exact hb)]; exact hc i hi

/-- The cursor in block blk: over the row of bytes at a (below block B), i of them read, the generator at h. -/
structure Cur (T : TypeId) (w : World) (B blk : Nat) (a : Option Addr) (len cap : Nat) (zs : List Int) (i : Nat) (h : Int) : Prop where
  cells : w.heap[blk]? = some (.cells #[.slice a len cap, .int .i64 i, .int .i64 h] T (0, 0))
  row : Row8 w B a len cap zs
  le : B ≤ blk
  at_ : i ≤ len

section
variable {T : TypeId} {w : World} {B blk : Nat} {a : Option Addr} {len cap i : Nat} {zs : List Int} {h : Int}
theorem Cur.c0 (c : Cur T w B blk a len cap zs i h) : w.cell? ⟨blk, 0, none⟩ = some (.slice a len cap) := by simp [World.cell?, c.cells]
theorem Cur.c1 (c : Cur T w B blk a len cap zs i h) : w.cell? ⟨blk, 1, none⟩ = some (.int .i64 i) := by simp [World.cell?, c.cells]
theorem Cur.c2 (c : Cur T w B blk a len cap zs i h) : w.cell? ⟨blk, 2, none⟩ = some (.int .i64 h) := by simp [World.cell?, c.cells]
theorem Cur.f (c : Cur T w B blk a len cap zs i h) (j : Nat) : w.frozen? ⟨blk, j, none⟩ = false := by simp [World.frozen?, c.cells]
theorem Cur.lt (c : Cur T w B blk a len cap zs i h) : blk < w.heap.size := lt_of_block c.cells
theorem modify_at {w : World} {b : Nat} {o o' : Obj} {f : Obj → Obj} (h : w.heap[b]? = some o) (e : f o = o') : (w.heap.modify b f)[b]? = some o' := by
  have hlt := lt_of_block h
  have h' : w.heap[b] = o := by simpa [Array.getElem?_eq_getElem hlt] using h
  rw [Array.getElem?_eq_getElem (by simpa using hlt), Array.getElem_modify_self, h', e]
theorem Cur.set2 (c : Cur T w B blk a len cap zs i h) (h' : Int) : Cur T (w.setCell ⟨blk, 2, none⟩ (.int .i64 h')) B blk a len cap zs i h' :=
  ⟨modify_at c.cells rfl, c.row.kept (grown_set w _ _) c.le, c.le, c.at_⟩
theorem Cur.set1 (c : Cur T w B blk a len cap zs i h) (i' : Nat) (hi : i' ≤ len) : Cur T (w.setCell ⟨blk, 1, none⟩ (.int .i64 i')) B blk a len cap zs i' h :=
  ⟨modify_at c.cells rfl, c.row.kept (grown_set w _ _) c.le, c.le, hi⟩
theorem Cur.drewN (c : Cur T w B blk a len cap zs i h) (n : Nat) : Cur T (w.drewN n) B blk a len cap zs i h := ⟨c.cells, c.row.kept (blk := blk) (grown_draws _ _ _) c.le, c.le, c.at_⟩
theorem Cur.drew (c : Cur T w B blk a len cap zs i h) : Cur T w.drew B blk a len cap zs i h := ⟨c.cells, c.row.kept (blk := blk) (grown_drew _ _) c.le, c.le, c.at_⟩
/-- Whatever leaves the cursor's block and the blocks below B alone. -/
theorem Cur.kept {w' : World} (c : Cur T w B blk a len cap zs i h) (hg : Below B w w') (hb : w'.heap[blk]? = w.heap[blk]?) : Cur T w' B blk a len cap zs i h :=
  ⟨hb.trans c.cells, c.row.below hg, c.le, c.at_⟩
theorem Cur.alloc (c : Cur T w B blk a len cap zs i h) (o : Obj) : Cur T (w.alloc o) B blk a len cap zs i h :=
  c.kept ((Below.refl _ _).alloc (by have := c.lt; have := c.le; omega) _) (Below.heap_alloc _ _ _ c.lt)
end

/-- The cursor, wherever it stands. -/
def Cu (T : TypeId) (w : World) (B blk : Nat) : Prop := ∃ a len cap zs i h, Cur T w B blk a len cap zs i h
theorem Cu.lt {T : TypeId} {w : World} {B blk : Nat} (c : Cu T w B blk) : blk < w.heap.size := by
  obtain ⟨_, _, _, _, _, _, c⟩ := c; exact c.lt
theorem Cu.le {T : TypeId} {w : World} {B blk : Nat} (c : Cu T w B blk) : B ≤ blk := by
  obtain ⟨_, _, _, _, _, _, c⟩ := c; exact c.le
theorem Cu.kept {T : TypeId} {w w' : World} {B blk : Nat} (c : Cu T w B blk) (hg : Below B w w') (hb : w'.heap[blk]? = w.heap[blk]?) : Cu T w' B blk := by
  obtain ⟨a, len, cap, zs, i, h, c⟩ := c; exact ⟨a, len, cap, zs, i, h, c.kept hg hb⟩
theorem Cu.alloc {T : TypeId} {w : World} {B blk : Nat} (c : Cu T w B blk) (o : Obj) : Cu T (w.alloc o) B blk := by
  obtain ⟨a, len, cap, zs, i, h, c⟩ := c; exact ⟨a, len, cap, zs, i, h, c.alloc o⟩
theorem Cu.drewN {T : TypeId} {w : World} {B blk : Nat} (c : Cu T w B blk) (n : Nat) : Cu T (w.drewN n) B blk := by
  obtain ⟨a, len, cap, zs, i, h, c⟩ := c; exact ⟨a, len, cap, zs, i, h, c.drewN n⟩
theorem Cu.drew {T : TypeId} {w : World} {B blk : Nat} (c : Cu T w B blk) : Cu T w.drew B blk := by
  obtain ⟨a, len, cap, zs, i, h, c⟩ := c; exact ⟨a, len, cap, zs, i, h, c.drew⟩

/-- What a draw of a number in 0 .. n-1 leaves. -/
def DrewInt (T : TypeId) (w : World) (B blk : Nat) (P : Int → Prop) (e : Ending) (w' : World) : Prop := ∃ x : Int, P x ∧ e = .returned (.int .i64 x) ∧ Cu T w' B blk ∧ w.grownBy w' (some blk)
/-- The same, told exactly: how far the code has been read, how the generator stands, what it gave. -/
def DrewByte (T : TypeId) (w : World) (B blk : Nat) (a : Option Addr) (len cap : Nat) (zs : List Int) (i : Nat) (h : Int) (e : Ending) (w' : World) : Prop :=
  ∃ (x : Int) (i' : Nat), 0 ≤ x ∧ x ≤ 255 ∧ (i = len → x = rawByte (lcg h)) ∧ i' = (if i < len then i + 1 else i) ∧ e = .returned (.int .i64 x) ∧ Cur T w' B blk a len cap zs i' (lcg h) ∧ w.grownBy w' (some blk)
/-- What a draw of a bool, of a text leaves. -/
def DrewBool (T : TypeId) (w : World) (B blk : Nat) (e : Ending) (w' : World) : Prop := ∃ b : Bool, e = .returned (.bool b) ∧ Cu T w' B blk ∧ w.grownBy w' (some blk)
def DrewVal (T : TypeId) (w : World) (B blk : Nat) (Q : Value → Prop) (e : Ending) (w' : World) : Prop := ∃ v, Q v ∧ e = .returned v ∧ Cu T w' B blk ∧ w.grownBy w' (some blk)
/-- A number in 0 .. n-1; 0 where n is not above 0. -/
def Under (n x : Int) : Prop := 0 ≤ x ∧ (0 < n → x < n) ∧ (n ≤ 0 → x = 0)
end Go.Proofs.Ytcehmcnkalilnaa
