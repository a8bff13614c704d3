/- Maps of rows by name that the call makes: what such a map holds, as a function of the name; what its operations make of it. Condition: none beyond what a name may be. -/
import Derived.Test.YtebmaplflpfjbaaBaseA
import Derived.Maps.OwnSet
import Derived.Maps.RangeWalk
import Derived.Maps.Ext
namespace Go.Proofs.Ytebmaplflpfjbaa
open Go.RowKit Go.Maps Go.ChangeMaps Go.MapKept
set_option linter.unusedVariables false
set_option linter.unusedSimpArgs false

theorem ba_inj {a b : ByteArray} (h : a.data.toList = b.data.toList) : a = b := ByteArray.ext (Array.toList_inj.mp h)
/-- A name as a key. -/
def kl (k : ByteArray) : Lit := .string k.data.toList
theorem kl_inj {a b : ByteArray} (h : kl a = kl b) : a = b := ba_inj (by simpa [kl] using h)
theorem kl_of {k : ByteArray} (hk : k.size ≤ maxLen) : keyOf Try.prog 9 (.string k) = some (kl k) := WideMaps.keyOf_string_mk Try.underlying9 hk
theorem kl_key {k : ByteArray} (hk : k.size ≤ maxLen) : WideAt.IsKeyLit (kl k) := (string_keyed Try.underlying9).key (kl_of hk)
def upd {α : Type} (m : ByteArray → Option α) (k : ByteArray) (x : Option α) : ByteArray → Option α := fun j => if j = k then x else m j
theorem upd_same {α : Type} (m : ByteArray → Option α) (k : ByteArray) (x : Option α) : upd m k x k = x := if_pos rfl
theorem upd_other {α : Type} (m : ByteArray → Option α) {k j : ByteArray} (x : Option α) (h : j ≠ k) : upd m k x j = m j := if_neg h

theorem zeroIt (w : World) : (zeroValue 74).run Try.prog w = .ok (itA ⟨⟨#[]⟩, ⟨#[]⟩⟩) w := by kernel_rfl
/-- How a row reads as an element. -/
def itD (x : It) : DataW Unit := .agg [.lit (.string x.k.data.toList), .lit (.string x.v.data.toList)]
def itR (v : Value) : Option (DataW Unit × List MemPlace) := match v with
  | .agg cs => match cs.toList with
    | [.string k, .string v] => some (itD ⟨k, v⟩, [])
    | _ => none
  | _ => none
theorem itR_mk (x : It) : itR (itA x) = some (itD x, []) := rfl
theorem itD_inj {x y : It} (h : itD x = itD y) : x = y := by
  obtain ⟨k, v⟩ := x; obtain ⟨k2, v2⟩ := y
  simp only [itD, DataW.agg.injEq, List.cons.injEq, DataW.lit.injEq, Lit.string.injEq, Lit.int.injEq, and_true, true_and] at h
  rw [ba_inj h.1, ba_inj h.2]
theorem itR_inv {v : Value} {z : DataW Unit × List MemPlace} (h : itR v = some z) : ∃ x, v = itA x ∧ z = (itD x, []) := by
  unfold itR at h
  split at h
  · rename_i cs
    split at h
    · rename_i e
      refine ⟨_, ?_, (Option.some.inj h).symm⟩
      unfold itA
      congr 1
      exact Array.toList_inj.mp e
    · cases h
  · cases h
/-- A map of at most n rows: m. -/
def MapI (w : World) (b n : Nat) (m : ByteArray → Option It) : Prop :=
  ∃ D : DataW Unit, w.ownsMap Try.prog 9 itR b n D ∧ (∀ k, Maps.has D (kl k) = (m k).isSome) ∧ ∀ k x, m k = some x → ∀ z, D.atKey (kl k) z = itD x
theorem MapI.lt {w : World} {b n : Nat} {m : ByteArray → Option It} (h : MapI w b n m) : b < w.heap.size := by obtain ⟨D, h, _⟩ := h; exact h.lt
theorem MapI.kept {w w' : World} {b n : Nat} {m : ByteArray → Option It} {r : Option Nat} (h : MapI w b n m) (hg : w.grownBy w' r) (hne : some b ≠ r) : MapI w' b n m := by obtain ⟨D, h, h1⟩ := h; exact ⟨D, h.kept hg hne, h1⟩
theorem MapI.later {w w' : World} {b n : Nat} {m : ByteArray → Option It} (h : MapI w b n m) (hb : Below w.heap.size w w') : MapI w' b n m := h.kept (r := none) ⟨hb.os, hb.tape, hb.output, hb.size, fun k hk _ => hb.block k hk⟩ (by simp)
theorem MapI.mono {w : World} {b n n' : Nat} {m : ByteArray → Option It} (h : MapI w b n m) (hn : n ≤ n') : MapI w b n' m := by obtain ⟨D, h, h1⟩ := h; exact ⟨D, h.mono hn, h1⟩
theorem MapI.made (w : World) : MapI (w.alloc (.map #[] 0)) w.heap.size 0 (fun _ => none) := ⟨.map [], World.ownsMap_made _ _ _ _, fun k => rfl, fun k x h => by cases h⟩
theorem MapI.put {w : World} {b n : Nat} {m : ByteArray → Option It} (h : MapI w b n m) (hn : n < maxLen) (k : ByteArray) (x : It) (hk : k.size ≤ maxLen) :
    ∃ w', (Instr.mapUpdate 71 (.map (some b)) (.string k) (itA x)).run Try.prog w = .ok () w' ∧ MapI w' b (n + 1) (upd m k (some x)) ∧ w.grownBy w' (some b) := by
  obtain ⟨D, h, h1, h2⟩ := h
  obtain ⟨w', e, h3, h4⟩ := h.update (string_keyed Try.underlying9) Try.underlying71 hn (kl_of hk) (itR_mk x)
  refine ⟨w', e, ⟨_, h3, fun j => ?_, fun j y hj z => ?_⟩, h4⟩
  · by_cases e2 : j = k
    · subst e2; rw [upd_same, Maps.has_put_same h.isMap (kl_key hk)]; rfl
    · rw [upd_other _ _ e2, Maps.has_put_other (fun e3 => e2 (kl_inj e3)), h1]
  · by_cases e2 : j = k
    · subst e2; rw [upd_same] at hj; rw [Maps.atKey_put_same h.isMap (kl_key hk), Option.some.inj hj]
    · rw [upd_other _ _ e2] at hj; rw [Maps.atKey_put_other (fun e3 => e2 (kl_inj e3)), h2 j y hj]
theorem MapI.look {w : World} {b n : Nat} {m : ByteArray → Option It} (h : MapI w b n m) (k : ByteArray) (hk : k.size ≤ maxLen) :
    (Instr.lookup 71 (.map (some b)) (.string k) true).run Try.prog w = .ok (.tuple #[itA ((m k).getD ⟨⟨#[]⟩, ⟨#[]⟩⟩), .bool (m k).isSome]) w := by
  obtain ⟨D, h, h1, h2⟩ := h
  obtain ⟨v, ps, e, hv⟩ := h.look_ok (string_keyed Try.underlying9) Try.underlying71 (zeroIt w) (itR_mk ⟨⟨#[]⟩, ⟨#[]⟩⟩) (kl_of hk)
  obtain ⟨x, rfl, hx⟩ := itR_inv hv
  rw [e, h1 k]
  have hx := congrArg Prod.fst hx
  cases hm : m k with
  | none =>
    have hh := h1 k
    rw [hm] at hh
    rw [Maps.atKey_of_not_has hh] at hx
    rw [← itD_inj hx]; rfl
  | some y =>
    rw [h2 k y hm] at hx
    rw [← itD_inj hx]; rfl
theorem MapI.look1 {w : World} {b n : Nat} {m : ByteArray → Option It} (h : MapI w b n m) (k : ByteArray) (hk : k.size ≤ maxLen) {x : It} (hm : m k = some x) :
    (Instr.lookup 71 (.map (some b)) (.string k) false).run Try.prog w = .ok (itA x) w := by
  obtain ⟨D, h, h1, h2⟩ := h
  obtain ⟨v, ps, e, hv⟩ := h.lookup (string_keyed Try.underlying9) Try.underlying71 (zeroIt w) (itR_mk ⟨⟨#[]⟩, ⟨#[]⟩⟩) (kl_of hk)
  obtain ⟨y, rfl, hy⟩ := itR_inv hv
  have hy := congrArg Prod.fst hy
  rw [h2 k x hm] at hy
  rw [e, itD_inj hy]
theorem MapI.len {w : World} {b n : Nat} {m : ByteArray → Option It} (h : MapI w b n m) : ∃ c : Nat, c ≤ n ∧ ∀ ty, (Builtin.len_ #[71] ty #[.map (some b)]).run Try.prog w = .ok (.int .i64 c) w := by
  obtain ⟨D, h, _⟩ := h
  exact ⟨Maps.size D, h.size_le, fun ty => h.len Try.underlying71 ty⟩
theorem MapI.clear {w : World} {b n : Nat} {m : ByteArray → Option It} (h : MapI w b n m) (ty : TypeId) :
    ∃ w', (Builtin.clear_ #[71] ty #[.map (some b)]).run Try.prog w = .ok (.tuple #[]) w' ∧ MapI w' b 0 (fun _ => none) ∧ w.grownBy w' (some b) := by
  obtain ⟨D, ⟨es, clock, hb, F, hs, rfl⟩, _⟩ := h
  refine ⟨setBlock w b (.map #[] clock), by simp [Builtin.clear_, run_underlying Try.underlying71, MapKept.run_getObj_map hb, MapKept.run_setObj_map _ hb, Result.andThen]; rfl, ⟨.map [], ⟨#[], clock, heap_setBlock_same hb _, ⟨by simp, ?_, by simp⟩, Nat.le_refl _, rfl⟩, fun k => rfl, fun k x h => by cases h⟩, ⟨rfl, rfl, rfl, by simp [setBlock], fun i _ hi => heap_setBlock_other hb _ (fun e => hi (by rw [e]))⟩⟩
  exact stamped_empty clock
end Go.Proofs.Ytebmaplflpfjbaa
