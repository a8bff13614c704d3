/- What the rows' lists of package-level variables give the walks of OpText and ReadOp: the words of the kinds, the table of powers of ten, the two errors of strconv. Condition: the lists. -/
import Derived.Test.YtebmaplflpfjbaaDoorLaidTab
import Derived.Test.YtebmaplflpfjbaaDoorImplOpText
import Derived.OpenShut
namespace Go.Proofs.YtebmaplflpfjbaaDoor
open Go.RowKit Go.ChangeShapes
set_option linter.unusedVariables false

theorem gKind : Tryd.prog.globalNamed "loop.example/g00772/impl.kindWords" = some 0 := by kernel_rfl
theorem gKindT : (Tryd.prog.globals[0]?).map (·.type) = some 77 := by kernel_rfl
theorem cStr1 : Tryd.prog.cellsOf 9 = 1 := by kernel_rfl
theorem bytes_of {s : ByteArray} {l : List UInt8} (h : s.data.toList = l) : s = ⟨l.toArray⟩ := by subst h; rfl
theorem kinds_of {W : World} {rest : List (String × DataW Unit)} (h : laidMet Tryd.prog (("loop.example/g00772/impl.kindWords", Rows.laid_loop_example_g00772_impl_kindWords) :: rest) W) : Kinds W := by
  obtain ⟨ps, ⟨g', t', cs, fuel, p, q, hg', ht', hvar, hd, _, _⟩, _⟩ := h
  obtain rfl := Option.some.inj (gKind.symm.trans hg')
  obtain rfl := Option.some.inj (gKindT.symm.trans ht')
  obtain ⟨xs, m, _, hx, hlen, hn, hi⟩ := DataW.trod_array Tryd.underlying77 hd
  match xs, hn with
  | [y0, y1, y2], _ =>
    have u0 := hi 0 (by omega)
    have u1 := hi 1 (by omega)
    have u2 := hi 2 (by omega)
    simp only [cStr1, List.getElem?_cons_zero, List.getElem?_cons_succ] at u0 u1 u2
    obtain ⟨s0, e0, d0, _⟩ := DataW.trod_string Tryd.underlying9 u0
    obtain ⟨s1, e1, d1, _⟩ := DataW.trod_string Tryd.underlying9 u1
    obtain ⟨s2, e2, d2, _⟩ := DataW.trod_string Tryd.underlying9 u2
    subst d0; subst d1; subst d2
    have hx1 := congrArg Prod.fst hx
    simp only [Rows.laid_loop_example_g00772_impl_kindWords, List.map_cons, List.map_nil, DataW.agg.injEq, List.cons.injEq, DataW.lit.injEq, Lit.string.injEq, and_true] at hx1
    obtain ⟨b0, b1, b2⟩ := hx1
    obtain rfl := bytes_of b0.symm
    obtain rfl := bytes_of b1.symm
    obtain rfl := bytes_of b2.symm
    have c : ∀ (i : Nat) (v : Value), (cs.toList.drop (i * 1)).take 1 = [v] → W.cell? ⟨0, i, none⟩ = some v := by
      intro i v e
      rw [World.var?_cell gKind hvar i]
      have := congrArg (·[0]?) e
      simpa [List.getElem?_take, List.getElem?_drop] using this
    have c0 := c 0 _ e0
    refine ⟨?_, c0, c 1 _ e1, c 2 _ e2⟩
    rcases Nat.lt_or_ge 0 W.heap.size with h' | h'
    · exact h'
    · simp [World.cell?, Array.getElem?_eq_none h'] at c0
/-- The list of OpText. -/
theorem doors4 {W : World} (h : laidMetH Tryd.prog [("math/bits.deBruijn32tab", Rows.laid_math_bits_deBruijn32tab), ("math/bits.deBruijn64tab", Rows.laid_math_bits_deBruijn64tab), ("internal/strconv.uint64pow10", Rows.laid_internal_strconv_uint64pow10), ("loop.example/g00772/impl.kindWords", Rows.laid_loop_example_g00772_impl_kindWords)] W) : Doors W := by
  rw [MakeChecks.laidMetH_plain _ _ _ (by kernel_rfl)] at h
  have h2 := laidMet.tail (laidMet.tail h)
  exact ⟨kinds_of (laidMet.tail h2), pow_of h2⟩
/-- The list of ReadOp. -/
theorem doors6 {W : World} (h : laidMetH Tryd.prog [("math/bits.deBruijn32tab", Rows.laid_math_bits_deBruijn32tab), ("math/bits.deBruijn64tab", Rows.laid_math_bits_deBruijn64tab), ("internal/strconv.uint64pow10", Rows.laid_internal_strconv_uint64pow10), ("strconv.ErrRange", Rows.laid_strconv_ErrRange), ("strconv.ErrSyntax", Rows.laid_strconv_ErrSyntax), ("loop.example/g00772/impl.kindWords", Rows.laid_loop_example_g00772_impl_kindWords)] W) : Doors W ∧ Errs W := by
  rw [MakeChecks.laidMetH_plain _ _ _ (by kernel_rfl)] at h
  have h2 := laidMet.tail (laidMet.tail h)
  have h3 := laidMet.tail h2
  exact ⟨⟨kinds_of (laidMet.tail (laidMet.tail h3)), pow_of h2⟩, errs_of h3⟩
end Go.Proofs.YtebmaplflpfjbaaDoor
