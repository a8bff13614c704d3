/- Maps of rows by name that the call makes: what such a map holds, as a function of the name; what its operations make of it. Condition: none beyond what a name may be. -/
import Derived.Test.YtebmaplflpfjbaaMapI
namespace Go.Proofs.Ytebmaplflpfjbaa
open Go.RowKit Go.Maps Go.ChangeMaps Go.MapKept
set_option linter.unusedVariables false
set_option linter.unusedSimpArgs false

theorem zeroTk (w : World) : (zeroValue 45).run Try.prog w = .ok (tkA ⟨⟨#[]⟩, 0, ⟨#[]⟩⟩) w := by kernel_rfl
/-- How a row reads as an element. -/
def tkD (x : Tk) : DataW Unit := .agg [.lit (.string x.c.data.toList), .lit (.int .i64 x.q), .lit (.string x.r.data.toList)]
def tkR (v : Value) : Option (DataW Unit × List MemPlace) := match v with
  | .agg cs => match cs.toList with
    | [.string c, .int .i64 q, .string r] => some (tkD ⟨c, q, r⟩, [])
    | _ => none
  | _ => none
theorem tkR_mk (x : Tk) : tkR (tkA x) = some (tkD x, []) := rfl
theorem tkD_inj {x y : Tk} (h : tkD x = tkD y) : x = y := by
  obtain ⟨c, q, r⟩ := x; obtain ⟨c2, q2, r2⟩ := y
  simp only [tkD, DataW.agg.injEq, List.cons.injEq, DataW.lit.injEq, Lit.string.injEq, Lit.int.injEq, and_true, true_and] at h
  rw [ba_inj h.1, h.2.1, ba_inj h.2.2]
theorem tkR_inv {v : Value} {z : DataW Unit × List MemPlace} (h : tkR v = some z) : ∃ x, v = tkA x ∧ z = (tkD x, []) := by
  unfold tkR at h
  split at h
  · rename_i cs
    split at h
    · rename_i e
      refine ⟨_, ?_, (Option.some.inj h).symm⟩
      unfold tkA
      congr 1
      exact Array.toList_inj.mp e
    · cases h
  · cases h
/-- A map of at most n rows: m. -/
def MapT (w : World) (b n : Nat) (m : ByteArray → Option Tk) : Prop :=
  ∃ D : DataW Unit, w.ownsMap Try.prog 9 tkR b n D ∧ (∀ k, Maps.has D (kl k) = (m k).isSome) ∧ ∀ k x, m k = some x → ∀ z, D.atKey (kl k) z = tkD x
theorem MapT.lt {w : World} {b n : Nat} {m : ByteArray → Option Tk} (h : MapT w b n m) : b < w.heap.size := by obtain ⟨D, h, _⟩ := h; exact h.lt
theorem MapT.kept {w w' : World} {b n : Nat} {m : ByteArray → Option Tk} {r : Option Nat} (h : MapT w b n m) (hg : w.grownBy w' r) (hne : some b ≠ r) : MapT w' b n m := by obtain ⟨D, h, h1⟩ := h; exact ⟨D, h.kept hg hne, h1⟩
theorem MapT.later {w w' : World} {b n : Nat} {m : ByteArray → Option Tk} (h : MapT w b n m) (hb : Below w.heap.size w w') : MapT w' b n m := h.kept (r := none) ⟨hb.os, hb.tape, hb.output, hb.size, fun k hk _ => hb.block k hk⟩ (by simp)
theorem MapT.mono {w : World} {b n n' : Nat} {m : ByteArray → Option Tk} (h : MapT w b n m) (hn : n ≤ n') : MapT w b n' m := by obtain ⟨D, h, h1⟩ := h; exact ⟨D, h.mono hn, h1⟩
theorem MapT.made (w : World) : MapT (w.alloc (.map #[] 0)) w.heap.size 0 (fun _ => none) := ⟨.map [], World.ownsMap_made _ _ _ _, fun k => rfl, fun k x h => by cases h⟩
theorem MapT.put {w : World} {b n : Nat} {m : ByteArray → Option Tk} (h : MapT w b n m) (hn : n < maxLen) (k : ByteArray) (x : Tk) (hk : k.size ≤ maxLen) :
    ∃ w', (Instr.mapUpdate 82 (.map (some b)) (.string k) (tkA x)).run Try.prog w = .ok () w' ∧ MapT w' b (n + 1) (upd m k (some x)) ∧ w.grownBy w' (some b) := by
  obtain ⟨D, h, h1, h2⟩ := h
  obtain ⟨w', e, h3, h4⟩ := h.update (string_keyed Try.underlying9) Try.underlying82 hn (kl_of hk) (tkR_mk x)
  refine ⟨w', e, ⟨_, h3, fun j => ?_, fun j y hj z => ?_⟩, h4⟩
  · by_cases e2 : j = k
    · subst e2; rw [upd_same, Maps.has_put_same h.isMap (kl_key hk)]; rfl
    · rw [upd_other _ _ e2, Maps.has_put_other (fun e3 => e2 (kl_inj e3)), h1]
  · by_cases e2 : j = k
    · subst e2; rw [upd_same] at hj; rw [Maps.atKey_put_same h.isMap (kl_key hk), Option.some.inj hj]
    · rw [upd_other _ _ e2] at hj; rw [Maps.atKey_put_other (fun e3 => e2 (kl_inj e3)), h2 j y hj]
theorem MapT.look {w : World} {b n : Nat} {m : ByteArray → Option Tk} (h : MapT w b n m) (k : ByteArray) (hk : k.size ≤ maxLen) :
    (Instr.lookup 82 (.map (some b)) (.string k) true).run Try.prog w = .ok (.tuple #[tkA ((m k).getD ⟨⟨#[]⟩, 0, ⟨#[]⟩⟩), .bool (m k).isSome]) w := by
  obtain ⟨D, h, h1, h2⟩ := h
  obtain ⟨v, ps, e, hv⟩ := h.look_ok (string_keyed Try.underlying9) Try.underlying82 (zeroTk w) (tkR_mk ⟨⟨#[]⟩, 0, ⟨#[]⟩⟩) (kl_of hk)
  obtain ⟨x, rfl, hx⟩ := tkR_inv hv
  rw [e, h1 k]
  have hx := congrArg Prod.fst hx
  cases hm : m k with
  | none =>
    have hh := h1 k
    rw [hm] at hh
    rw [Maps.atKey_of_not_has hh] at hx
    rw [← tkD_inj hx]; rfl
  | some y =>
    rw [h2 k y hm] at hx
    rw [← tkD_inj hx]; rfl
theorem MapT.look1 {w : World} {b n : Nat} {m : ByteArray → Option Tk} (h : MapT w b n m) (k : ByteArray) (hk : k.size ≤ maxLen) {x : Tk} (hm : m k = some x) :
    (Instr.lookup 82 (.map (some b)) (.string k) false).run Try.prog w = .ok (tkA x) w := by
  obtain ⟨D, h, h1, h2⟩ := h
  obtain ⟨v, ps, e, hv⟩ := h.lookup (string_keyed Try.underlying9) Try.underlying82 (zeroTk w) (tkR_mk ⟨⟨#[]⟩, 0, ⟨#[]⟩⟩) (kl_of hk)
  obtain ⟨y, rfl, hy⟩ := tkR_inv hv
  have hy := congrArg Prod.fst hy
  rw [h2 k x hm] at hy
  rw [e, tkD_inj hy]
theorem MapT.len {w : World} {b n : Nat} {m : ByteArray → Option Tk} (h : MapT w b n m) : ∃ c : Nat, c ≤ n ∧ ∀ ty, (Builtin.len_ #[82] ty #[.map (some b)]).run Try.prog w = .ok (.int .i64 c) w := by
  obtain ⟨D, h, _⟩ := h
  exact ⟨Maps.size D, h.size_le, fun ty => h.len Try.underlying82 ty⟩
theorem MapT.clear {w : World} {b n : Nat} {m : ByteArray → Option Tk} (h : MapT w b n m) (ty : TypeId) :
    ∃ w', (Builtin.clear_ #[82] ty #[.map (some b)]).run Try.prog w = .ok (.tuple #[]) w' ∧ MapT w' b 0 (fun _ => none) ∧ w.grownBy w' (some b) := by
  obtain ⟨D, ⟨es, clock, hb, F, hs, rfl⟩, _⟩ := h
  refine ⟨setBlock w b (.map #[] clock), by simp [Builtin.clear_, run_underlying Try.underlying82, MapKept.run_getObj_map hb, MapKept.run_setObj_map _ hb, Result.andThen]; rfl, ⟨.map [], ⟨#[], clock, heap_setBlock_same hb _, ⟨by simp, ?_, by simp⟩, Nat.le_refl _, rfl⟩, fun k => rfl, fun k x h => by cases h⟩, ⟨rfl, rfl, rfl, by simp [setBlock], fun i _ hi => heap_setBlock_other hb _ (fun e => hi (by rw [e]))⟩⟩
  exact stamped_empty clock
end Go.Proofs.Ytebmaplflpfjbaa
