/- A row of bytes that the call owns: what it reads as, how it is appended to, and the text that it becomes. Condition: none. -/
import Derived.Test.YtkkmjlpeahkiaaaRows
import Derived.Test.YtkkmjlpeahkiaaaCurPlain
import Derived.WalkKit
import Derived.WalkSpells
import Derived.WalkLawsBesides
import Derived.LoopTactic
import Derived.Lib.Hide
import Derived.Deep.QuietTactic
import Derived.BigQuiet
import Derived.Laws.IdiomStrings
namespace Go.Proofs.Ytkkmjlpeahkiaaa
open Go.RowKit
set_option linter.unusedVariables false

theorem infoB : (Try.prog.info? 5).map (fun i => (i.zero, i.size, i.bytes)) = some (some (.int .u8 0), 1, 1) := by kernel_rfl

/-- A row of bytes that the call owns. -/
def Bytes8 (w : World) (B : Nat) (v : Value) (xs : List Int) : Prop := w.ownsRow B 5 1 v xs.length (xs.map (Value.int .u8)) ∧ ∀ x ∈ xs, 0 ≤ x ∧ x ≤ 255
theorem Bytes8.snoc {w : World} {B : Nat} {v v0 : Value} {w0 : World} {xs : List Int} {x : Int} (h0 : Bytes8 w0 B v0 xs) (h : w.ownsRow B 5 1 v (xs.length + 1) (xs.map (Value.int .u8) ++ [.int .u8 x])) (hx : 0 ≤ x ∧ x ≤ 255) : Bytes8 w B v (xs ++ [x]) := by
  refine ⟨by simpa using h, fun y hy => ?_⟩
  rcases List.mem_append.1 hy with h1 | h1
  · exact h0.2 y h1
  · rw [List.mem_singleton.1 h1]; exact hx
theorem Bytes8.own {w : World} {B : Nat} {v : Value} {xs : List Int} (h : Bytes8 w B v xs) : ∀ k, v.ownBlock = some k → B ≤ k := fun k hk => (World.ownsRow.lt h.1 k hk).1
theorem Bytes8.form {w : World} {B : Nat} {v : Value} {xs : List Int} (h : Bytes8 w B v xs) : (v = .slice none 0 0 ∧ xs = []) ∨
    ∃ g cap, v = .slice (some ⟨g, 0, none⟩) xs.length cap ∧ B ≤ g ∧ xs.length ≤ cap ∧ cap ≤ maxLen ∧ (∀ i (hi : i < xs.length), w.cell? ⟨g, i, none⟩ = some (.int .u8 xs[i])) := by
  have h' := h.1
  obtain ⟨hl, ⟨rfl, h0⟩ | ⟨g, cap, cur, rfl, hg, hh, hc, hm, hs, ht⟩⟩ := id h'
  · exact .inl ⟨rfl, List.eq_nil_of_length_eq_zero h0⟩
  · refine .inr ⟨g, cap, rfl, hg, hc, hm, fun i hi => ?_⟩
    rw [World.ownsRow.cellAt h' i (by omega)]
    simp [hi]
theorem Bytes8.kept {w w' : World} {B blk : Nat} {v : Value} {xs : List Int} (h : Bytes8 w B v xs) (hg : w.grownBy w' (some blk)) (hb : blk < B) : Bytes8 w' B v xs := by
  refine ⟨World.ownsRow.kept h.1 hg ?_, h.2⟩
  cases hv : v.ownBlock with
  | none => exact .inl rfl
  | some k => exact .inr (fun e => by have := h.own k hv; simp at e; omega)
theorem Bytes8.grown {w wr w1 : World} {B : Nat} {v : Value} {xs : List Int} {o : Obj} (h : Bytes8 wr B v xs) (hB : Below B w wr) (hB' : B ≤ wr.heap.size) (hg : (wr.alloc o).grownBy w1 v.ownBlock) : Below B w w1 :=
  (hB.alloc hB' o).grown hg (by simp; omega) h.own
def lenOf : Value → Nat
  | .slice _ l _ => l
  | _ => 0
theorem Bytes8.len {w : World} {B : Nat} {v : Value} {xs : List Int} (h : Bytes8 w B v xs) : lenOf v = xs.length := by
  rcases h.form with ⟨rfl, rfl⟩ | ⟨g, cap, rfl, _⟩ <;> rfl
theorem Bytes8.shape {w : World} {B : Nat} {v : Value} {xs : List Int} (h : Bytes8 w B v xs) : ∃ a c, v = .slice a xs.length c := by
  rcases h.form with ⟨rfl, rfl⟩ | ⟨g, cap, rfl, _⟩
  · exact ⟨_, _, rfl⟩
  · exact ⟨_, _, rfl⟩
/-- The first n bytes as a text. -/
theorem Bytes8.text {w : World} {B : Nat} {v : Value} {xs : List Int} (h : Bytes8 w B v xs) (n : Nat) (hn : n ≤ xs.length) (hpos : 0 < xs.length) : ∃ g cap, v = .slice (some ⟨g, 0, none⟩) xs.length cap ∧ xs.length ≤ cap ∧ cap ≤ maxLen ∧ ∃ s : ByteArray, s.size = n ∧ ∀ c2, (convert 45 9 (.slice (some ⟨g, 0, none⟩) n c2)).run Try.prog w = .ok (.string s) w := by
  rcases h.form with ⟨rfl, rfl⟩ | ⟨g, cap, rfl, hg, hlc, hm, hc⟩
  · simp at hpos
  · refine ⟨g, cap, rfl, hlc, hm, ⟨((xs.take n).map fun z => UInt8.ofNat z.toNat).toArray⟩, by show (List.toArray _).size = n; simp; omega, fun c2 => ?_⟩
    have hl : ((xs.take n).map fun z => UInt8.ofNat z.toNat).length = n := by simp; omega
    have := run_convert_bytes_back (P := Try.prog) w 45 9 5 ⟨g, 0, none⟩ c2 ((xs.take n).map fun z => UInt8.ofNat z.toNat) Try.underlying45 Try.underlying5 Try.underlying9 (fun j hj => by
      rw [hl] at hj
      rw [add_flat, Nat.zero_add, hc j (by omega)]
      have hz := h.2 xs[j] (List.getElem_mem _)
      simp only [List.getElem_map, List.getElem_take]
      congr 2
      generalize xs[j] = z at *
      obtain ⟨m, rfl⟩ := Int.eq_ofNat_of_zero_le hz.1
      simp; omega)
    rw [hl] at this
    exact this

/-- The whole row as a text. -/
def txt (xs : List Int) : ByteArray := ⟨(xs.map fun z => UInt8.ofNat z.toNat).toArray⟩
theorem txt_size (xs : List Int) : (txt xs).size = xs.length := by
  show (List.toArray _).size = _; simp
theorem Bytes8.str {w : World} {B : Nat} {v : Value} {xs : List Int} (h : Bytes8 w B v xs) (hpos : 0 < xs.length) : ∃ g cap, v = .slice (some ⟨g, 0, none⟩) xs.length cap ∧ xs.length ≤ cap ∧ cap ≤ maxLen ∧ (convert 45 9 v).run Try.prog w = .ok (.string (txt xs)) w := by
  rcases h.form with ⟨rfl, rfl⟩ | ⟨g, cap, rfl, hg, hlc, hm, hc⟩
  · simp at hpos
  · refine ⟨g, cap, rfl, hlc, hm, ?_⟩
    have hl : (xs.map fun z => UInt8.ofNat z.toNat).length = xs.length := by simp
    have := run_convert_bytes_back (P := Try.prog) w 45 9 5 ⟨g, 0, none⟩ cap (xs.map fun z => UInt8.ofNat z.toNat) Try.underlying45 Try.underlying5 Try.underlying9 (fun j hj => by
      rw [hl] at hj
      rw [add_flat, Nat.zero_add, hc j (by omega)]
      have hz := h.2 xs[j] (List.getElem_mem _)
      simp only [List.getElem_map]
      congr 2
      generalize xs[j] = z at *
      obtain ⟨m, rfl⟩ := Int.eq_ofNat_of_zero_le hz.1
      simp; omega)
    rw [hl] at this
    exact this
/-- A literal row of bytes as a text. -/
theorem conv_lit (w : World) (xs : List Int) (h : ∀ x ∈ xs, 0 ≤ x ∧ x ≤ 255) (n cap : Nat) (hn : n = xs.length) : (convert 45 9 (.slice (some ⟨w.heap.size, 0, none⟩) n cap)).run Try.prog (w.alloc (.cells (xs.map (Value.int .u8)).toArray 5)) = .ok (.string (txt xs)) (w.alloc (.cells (xs.map (Value.int .u8)).toArray 5)) := by
  subst hn
  have hl : (xs.map fun z => UInt8.ofNat z.toNat).length = xs.length := by simp
  have := run_convert_bytes_back (P := Try.prog) (w.alloc (.cells (xs.map (Value.int .u8)).toArray 5)) 45 9 5 ⟨w.heap.size, 0, none⟩ cap (xs.map fun z => UInt8.ofNat z.toNat) Try.underlying45 Try.underlying5 Try.underlying9 (fun j hj => by
    rw [hl] at hj
    have hz := h xs[j] (List.getElem_mem _)
    rw [add_flat, Nat.zero_add, World.cell?_alloc_new]
    simp only [List.getElem_map, List.getElem?_toArray, List.getElem?_map, List.getElem?_eq_getElem hj, Option.map_some]
    congr 2
    generalize xs[j] = z at *
    obtain ⟨m, rfl⟩ := Int.eq_ofNat_of_zero_le hz.1
    simp; omega)
  rw [hl] at this
  exact this
end Go.Proofs.Ytkkmjlpeahkiaaa
