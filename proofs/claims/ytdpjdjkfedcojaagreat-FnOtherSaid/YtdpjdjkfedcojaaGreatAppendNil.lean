/- 'append(row, s..)' onto a row of the call's own, or nil: what is handed back, and which block has turned. States whose rows are the call's own, or nil: told as rows that can be read; kept where one other block turns. Condition: a source with an element. -/
import Derived.Test.YtdpjdjkfedcojaaGreatBaseA
import Derived.Test.YtdpjdjkfedcojaaGreatPutPlain
namespace Go.Proofs.YtdpjdjkfedcojaaGreat
open Go.RowKit
set_option linter.unusedVariables false

theorem run_appN {P : Program} (w : World) (t ty e : TypeId) (i : TypeInfo) (z : Value) (size bytes : Nat) (ht : P.underlying t = some (.slice e)) (hi : P.info? e = some i) (hz : i.zero = some z)
    (hsize : i.size = size) (hby : i.bytes = bytes) (hzs : z.cells.size = size) (hsz : 0 < size) (g n cap base : Nat) (cs : List Value) (hg : Got w base e size g n cap cs) (sv : Value) (hv : SlN sv g n cap)
    (x : Value) (B m : Nat) (news : List Value) (hr : Raw w B x m news) (hm : 0 < m) (hl : news.length = m * size) (h1 : ∀ u ∈ news, u.oneCell' = true) (h63 : n + m ≤ maxLen) (hb : (n + m) * bytes ≤ 140737488355328) (hB : base ≤ w.heap.size) :
    ∃ g' cap' w', (Builtin.append_ #[t, t] ty #[sv, x]).run P w = .ok (.slice (some ⟨g', 0, none⟩) (n + m) cap') w' ∧ w.grownBy w' (some g) ∧ (g' = g ∨ w.heap.size ≤ g') ∧ Got w' base e size g' (n + m) cap' (cs ++ news) := by
  obtain ⟨a, rfl, hv⟩ := hv
  rcases hv with rfl | ⟨rfl, rfl, rfl⟩
  · exact run_app (P := P) w t ty e i z size bytes ht hi hz hsize hby hzs hsz g n cap base cs hg x B m news hr hl h1 h63 hb
  · obtain rfl : cs = [] := List.eq_nil_of_length_eq_zero (by simpa using hg.1)
    obtain ⟨a, c, rfl, hc, _, hn, hA⟩ := hr
    obtain ⟨g0, o, rfl, _, hAt⟩ := hA hm
    obtain ⟨v', w', hrun, h2, h3, _, h5⟩ := run_append_own_at (P := P) w base t ty e i z size bytes ht hi hz hsize hby hzs hsz (.slice none 0 0) 0 [] ⟨by simp, .inl ⟨rfl, rfl⟩⟩ ⟨g0, o, none⟩ m c news hl (fun j u hu => by
      rw [add_flat]; exact hAt j u hu) h1 h63 hb hB
    rcases id h2.2 with ⟨rfl, h0⟩ | ⟨g', cap', cur, rfl, k2, k3, k4, k5, _⟩
    · omega
    · have hlt := (h2.lt g' rfl).2
      refine ⟨g', cap', w', hrun, ⟨h3.os, h3.tape, h3.output, h3.size, fun k hk _ => h3.block k hk (by simp [Value.ownBlock])⟩, ?_, h2.1, k4, k5, k2, hlt, .inr h2⟩
      simp [Value.ownBlock] at h5
      omega

theorem step_appN {P : Program} {ops : Array Oper} {o : Oper} {a : Act} {w : World} {K : Act → World → Prop} {Q : Exit → Act → World → Prop} {E : Prop} (hgd : o.guard = none) (s x : Operand) (t : TypeId)
    (hop : o.op = Op.call { callee := Callee.builtin Builtin.append, args := #[s, x], argTypes := #[t, t] })
    (e : TypeId) (i : TypeInfo) (z : Value) (size bytes : Nat) (ht : P.underlying t = some (.slice e)) (hi : P.info? e = some i) (hz : i.zero = some z)
    (hsize : i.size = size) (hby : i.bytes = bytes) (hzs : z.cells.size = size) (hsz : 0 < size) (g n cap base : Nat) (cs : List Value) (hg : Got w base e size g n cap cs) (sv : Value) (hv : SlN sv g n cap) (hs : a.eval s = sv)
    (xv : Value) (hx : a.eval x = xv) (B m : Nat) (news : List Value) (hr : Raw w B xv m news) (hm : 0 < m) (hl : news.length = m * size) (h1 : ∀ u ∈ news, u.oneCell' = true) (h63 : n + m ≤ maxLen) (hb : (n + m) * bytes ≤ 140737488355328) (hB : base ≤ w.heap.size)
    (hK : ∀ g' cap' w', w.grownBy w' (some g) → (g' = g ∨ w.heap.size ≤ g') → Got w' base e size g' (n + m) cap' (cs ++ news) → K (a.put o.dst (.slice (some ⟨g', 0, none⟩) (n + m) cap')) w') :
    if Region.wanted o (yielded ops a.tmps) = true then Oper.wp P o a w K Q else E := by
  have hw : Region.wanted o (yielded ops a.tmps) = true := by simp [Region.wanted, hgd]
  rw [if_pos hw]
  obtain ⟨g', cap', w', hrun, h2, h3, h4⟩ := run_appN (P := P) w t o.type e i z size bytes ht hi hz hsize hby hzs hsz g n cap base cs hg sv hv xv B m news hr hm hl h1 h63 hb hB
  unfold Oper.wp
  simp [execOp, hop, resolve, invoke, builtin, hs, hx, hrun, Result.andThen]
  exact hK g' cap' w' h2 h3 h4

theorem row_of_gotN {w : World} {b e sz g n cap : Nat} {v : Value} {cs : List Value} (h : Got w b e sz g n cap cs) (hv : SlN v g n cap) : Row w w.heap.size sz v n cs := by
  obtain ⟨a, rfl, rfl | ⟨rfl, rfl, rfl⟩⟩ := hv
  · exact row_of_got h
  · exact ⟨h.1, .inl ⟨rfl, rfl⟩⟩
theorem OwnN.st {w : World} {base : Nat} {v : Value} {s : St} (h : OwnN w base v s) : StV w w.heap.size v s := by
  obtain ⟨vi, vt, gi, ci, gt, ct, rfl, _, h2, h3, h4, h5⟩ := h
  exact ⟨vi, vt, rfl, row_of_gotN h4 h2, row_of_gotN h5 h3⟩
theorem OwnN.kept {w w' : World} {base b : Nat} {v : Value} {s : St} (h : OwnN w base v s) (hg : w.grownBy w' (some b)) (hb : b < base) : OwnN w' base v s := by
  obtain ⟨vi, vt, gi, ci, gt, ct, h0, h1, h2, h3, h4, h5⟩ := h
  exact ⟨vi, vt, gi, ci, gt, ct, h0, h1, h2, h3, h4.grown hg (by have := h4.2.2.2.1; omega), h5.grown hg (by have := h5.2.2.2.1; omega)⟩
theorem OwnN.nil {w : World} {base g h : Nat} (hg : base ≤ g ∧ g < w.heap.size) (hh : base ≤ h ∧ h < w.heap.size) (hne : g ≠ h) : OwnN w base (.agg #[.slice none 0 0, .slice none 0 0]) ⟨[], []⟩ :=
  ⟨_, _, g, 0, h, 0, rfl, hne, ⟨none, rfl, .inr ⟨rfl, rfl, rfl⟩⟩, ⟨none, rfl, .inr ⟨rfl, rfl, rfl⟩⟩, ⟨rfl, Nat.le_refl _, Nat.zero_le _, hg.1, hg.2, .inl ⟨rfl, rfl⟩⟩, ⟨rfl, Nat.le_refl _, Nat.zero_le _, hh.1, hh.2, .inl ⟨rfl, rfl⟩⟩⟩
theorem grown_far {w w1 w2 : World} {b g : Nat} (h : w.grownBy w1 (some b)) (hg : w1.grownBy w2 (some g)) (hn : w.heap.size ≤ g) : w.grownBy w2 (some b) :=
  ⟨hg.os.trans h.os, hg.tape.trans h.tape, hg.output.trans h.output, Nat.le_trans h.size hg.size, fun k hk hne => (hg.block k (Nat.lt_of_lt_of_le hk h.size) (by simp; omega)).trans (h.block k hk hne)⟩

/-- A drawn state: small in each of its parts. -/
def Sm (s : St) (a b : Nat) : Prop := s.items.length ≤ a ∧ s.talks.length ≤ b ∧ (∀ x ∈ s.items, x.k.size ≤ 64 ∧ x.v.size ≤ 64) ∧ ∀ x ∈ s.talks, x.c.size ≤ 64 ∧ x.r.size ≤ 64 ∧ -9223372036854775808 ≤ x.q ∧ x.q ≤ 9223372036854775807
theorem Sm.nil (a b : Nat) : Sm ⟨[], []⟩ a b := ⟨Nat.zero_le _, Nat.zero_le _, fun _ h => by simp at h, fun _ h => by simp at h⟩
theorem Sm.mono {s : St} {a b a' b' : Nat} (h : Sm s a b) (ha : a ≤ a') (hb : b ≤ b') : Sm s a' b' := ⟨Nat.le_trans h.1 ha, Nat.le_trans h.2.1 hb, h.2.2⟩
theorem Sm.fits {s : St} {a b : Nat} (h : Sm s a b) : Fits s := ⟨fun x hx => by have := h.2.2.1 x hx; exact ⟨by unfold maxLen; omega, by unfold maxLen; omega⟩, fun x hx => by have := h.2.2.2 x hx; exact ⟨by unfold maxLen; omega, by unfold maxLen; omega, by omega⟩⟩
theorem Sm.few {s : St} {a b : Nat} (h : Sm s a b) (ha : a ≤ 1000000) (hb : b ≤ 1000000) : Few s := by unfold Few; have := h.1; have := h.2.1; omega
theorem Sm.small {s : St} {a b : Nat} (h : Sm s a b) (ha : a ≤ 1000000) (hb : b ≤ 1000000) : Small s 2097152 :=
  ⟨by have := h.1; omega, fun x hx => by have := h.2.2.1 x hx; omega, by have := h.2.1; omega, fun x hx => by have := h.2.2.2 x hx; omega⟩
theorem Sm.putI {s : St} {a b : Nat} {x : It} (h : Sm s a b) (hx : x.k.size ≤ 64 ∧ x.v.size ≤ 64) : Sm (chg s (putSI s x)) (a + 1) b := by
  unfold chg
  split
  · have := putI_len s.items x
    have := h.1
    refine ⟨by unfold putSI; simp only; omega, h.2.1, fun y hy => ?_, h.2.2.2⟩
    rcases putI_mem hy with h1 | h1
    · exact h.2.2.1 y h1
    · rw [h1]; exact hx
  · exact h.mono (by omega) (Nat.le_refl _)
theorem Sm.putT {s : St} {a b : Nat} {x : Tk} (h : Sm s a b) (hx : x.c.size ≤ 64 ∧ x.r.size ≤ 64 ∧ -9223372036854775808 ≤ x.q ∧ x.q ≤ 9223372036854775807) : Sm (chg s (putST s x)) a (b + 1) := by
  unfold chg
  split
  · have := putT_len s.talks x
    have := h.2.1
    refine ⟨h.1, by unfold putST; simp only; omega, h.2.2.1, fun y hy => ?_⟩
    rcases putT_mem hy with h1 | h1
    · exact h.2.2.2 y h1
    · rw [h1]; exact hx
  · exact h.mono (Nat.le_refl _) (by omega)
/-- What a draw of a state leaves. -/
def DrewSt (T : TypeId) (w : World) (B blk a b : Nat) (e : Ending) (w' : World) : Prop := ∃ v s, e = .returned v ∧ OwnN w' w.heap.size v s ∧ Sm s a b ∧ Cu T w' B blk ∧ w.grownBy w' (some blk)
end Go.Proofs.YtdpjdjkfedcojaaGreat
