/- Rows of words, as both sides of ReadOp meet them. Condition: none. -/
import Derived.Test.YtebmaplflpfjbaaDoorReadOpPlain
import Derived.Test.YtebmaplflpfjbaaDoorRow2
namespace Go.Proofs.YtebmaplflpfjbaaDoor
open Go.RowKit
set_option linter.unusedVariables false

theorem infoOp : (Tryd.prog.info? 29).map (fun i => (i.zero, i.size, i.bytes)) = some (some (.agg #[.string ⟨#[]⟩, .int .i64 0, .int .i64 0, .string ⟨#[]⟩, .string ⟨#[]⟩]), 5, 64) := by kernel_rfl
/-- A row of words. -/
def WordsAt (w : World) (g : Nat) (ws : List ByteArray) : Prop := g < w.heap.size ∧ ∀ j, j < ws.length → w.cell? ⟨g, j, none⟩ = some (.string (wd ws j))
theorem WordsAt.later {w w' : World} {g : Nat} {ws : List ByteArray} (h : WordsAt w g ws) (hb : Below w.heap.size w w') : WordsAt w' g ws :=
  ⟨Nat.lt_of_lt_of_le h.1 hb.size, fun j hj => by rw [hb.cell h.1]; exact h.2 j hj⟩
theorem WordsAt.grown {w w' : World} {g b : Nat} {ws : List ByteArray} (h : WordsAt w g ws) (hg : w.grownBy w' (some b)) (hne : g ≠ b) : WordsAt w' g ws := by
  have e := hg.block g h.1 (by simpa using hne)
  exact ⟨Nat.lt_of_lt_of_le h.1 hg.size, fun j hj => by rw [World.cell?_of_block (w := w) (a := ⟨g, j, none⟩) e]; exact h.2 j hj⟩
theorem words_form {W w1 : World} {n : Nat} {vw : Value} {ws : List ByteArray} (h : Texts w1 W.heap.size vw ws) (hb : Below W.heap.size W w1) (hn : n < W.heap.size) :
    ∃ (cap : Nat) (g : Nat) (a : Option Addr), vw = .slice a ws.length cap ∧ Hid (0 < ws.length → a = some ⟨g, 0, none⟩ ∧ WordsAt w1 g ws) ∧ Hid (n < g) := by
  rcases h.form with ⟨rfl, rfl⟩ | ⟨g, cap, rfl, hg, hgl, hm, hc, _⟩
  · exact ⟨0, n + 1, none, rfl, Lib.hid (fun h => absurd h (by simp)), Lib.hid (Nat.lt_succ_self _)⟩
  · refine ⟨cap, g, _, rfl, Lib.hid (fun _ => ⟨rfl, hgl, fun j hj => ?_⟩), Lib.hid (by omega)⟩
    rw [hc j hj]
    simp [wd, hj]
theorem wd_size {s : ByteArray} {ws : List ByteArray} (h : ∀ x ∈ ws, x.size ≤ s.size) (j : Nat) : (wd ws j).size ≤ s.size := by
  unfold wd
  rw [List.getD_eq_getElem?_getD]
  cases hj : ws[j]? with
  | none => exact Nat.zero_le _
  | some x => exact h x (List.mem_of_getElem? hj)
theorem kd_range (b : ByteArray) : -1 ≤ kd b ∧ kd b ≤ 2 := by
  unfold kd
  split
  · omega
  · split
    · omega
    · split <;> omega
theorem fit_rqW {s : ByteArray} {ws : List ByteArray} {q : Int} (h : ∀ j, (wd ws j).size ≤ s.size) (hs : s.size ≤ 1048576) (hq : -9223372036854775808 ≤ q ∧ q ≤ 9223372036854775807) : FitRq (rqW ws q) := by
  have h0 := h 0
  have h3 := h 3
  have h4 := h 4
  have hk := kd_range (wd ws 2)
  unfold FitRq maxLen rqW
  refine ⟨by simp only; omega, by simp only; omega, ?_, hq, by simp only; omega, by simp only; omega⟩
  split
  · simp only; omega
  · show ((0 : Nat)) ≤ _; omega
end Go.Proofs.YtebmaplflpfjbaaDoor
