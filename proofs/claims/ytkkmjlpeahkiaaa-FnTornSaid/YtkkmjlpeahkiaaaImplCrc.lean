/- What impl.crcTable, impl.crcOf and impl.Crc answer: CRC-32C, a byte at a time by a table of 256 numbers. Condition: none beyond what the arguments may be. -/
import Derived.Test.YtkkmjlpeahkiaaaSum
import Derived.Deep.WholeRow
namespace Go.Proofs.Ytkkmjlpeahkiaaa
open Go.RowKit
set_option linter.unusedVariables false
def crcTab : List Nat := (List.range 256).map fun i => bitsN 8 i
def tabC : Array Value := (crcTab.map fun i => Value.int .u32 (i : Nat)).toArray
def zeroC : Array Value := (List.replicate 256 (Value.int .u32 0)).toArray
def tabVals : Array (Nat × Value) := ((List.range 256).map fun i => (i, Value.int .u32 (bitsN 8 i : Nat))).toArray
def tabParts : Array (Nat × Operand) := ((List.range 256).map fun i => (i, Operand.const (Value.int .u32 (bitsN 8 i : Nat)))).toArray
theorem info66 : (Try.prog.info? 92).map (fun i => (i.zero, i.size)) = some (some (.agg zeroC), 256) := by kernel_rfl
def tabF : Func := { name := "loop.example/g00772/impl.crcTable", origin := "", params := #[], resultTypes := #[92], nfree := 0, ntmps := 2, results := #[.cell 0 92], norace := false, file := "loop.example/g00772/impl/l02_bytes.go", endLine := 149, tmpNames := #["", ""], body := some ((Code.region 0
            #[{ dst := some 0, op := .alloc 92, type := 0, pos := "l02_bytes.go:114", after := #[], guard := none }] false).seq
        ((Code.region 1 #[{ dst := some 1, op := .build 92 tabParts, type := 92, pos := "l02_bytes.go:115", after := #[], guard := none },
                { dst := none, op := .store 92 (.tmp 0) (.tmp 1), type := 0, pos := "l02_bytes.go:115", after := #[{ on := 0, ground := .data }, { on := 0, ground := .phase }], guard := none }] false).seq Code.ret)) }
theorem tabF_eq : Try.f87 = tabF := by kernel_rfl
theorem tabFunc : Try.prog.funcs[87]? = some tabF := tabF_eq ▸ Try.func87
theorem tabTmps : tabF.ntmps = 2 := rfl
theorem fill66 : Instr.fill (fun i => some (i, 1)) zeroC tabVals.toList = some tabC := by kernel_rfl
theorem tabC_size : tabC.size = 256 := by kernel_rfl
theorem zeroC_size : zeroC.size = tabC.size := by kernel_rfl
theorem tabC_one : tabC.all (·.oneCell') = true := by kernel_rfl
theorem size66 : (Try.prog.info? 92).map (·.size) = some tabC.size := by rw [tabC_size]; exact (zero_of_info info66).2
theorem tab_eval (a : Act) : (tabParts.map fun (i, x) => (i, a.eval x)) = tabVals := by
  unfold tabParts tabVals
  simp only [List.map_toArray, List.map_map]
  rfl
theorem table_walk (parts : Array (Nat × Operand)) (vals : Array (Nat × Value)) (tab zero : Array Value) (hz : ∀ w : World, (zeroValue 92).run Try.prog w = .ok (.agg zero) w)
    (hp : ∀ a : Act, (parts.map fun (i, x) => (i, a.eval x)) = vals) (hf : Instr.fill (fun i => some (i, 1)) zero vals.toList = some tab)
    (hi : (Try.prog.info? 92).map (·.size) = some tab.size) (ho : zero.size = tab.size) (h1 : tab.all (·.oneCell') = true) (ht : tab.size = 256) (w : World) (Q : Exit → Act → World → Prop)
    (hQ : Q .ret { tmps := #[.pointer (some ⟨w.heap.size, 0, none⟩), .agg tab], defers := [] } (w.alloc (.cells tab 92))) : Code.wp Try.prog ((Code.region 0
            #[{ dst := some 0, op := .alloc 92, type := 0, pos := "l02_bytes.go:114", after := #[], guard := none }] false).seq
        ((Code.region 1 #[{ dst := some 1, op := .build 92 parts, type := 92, pos := "l02_bytes.go:115", after := #[], guard := none },
                { dst := none, op := .store 92 (.tmp 0) (.tmp 1), type := 0, pos := "l02_bytes.go:115", after := #[{ on := 0, ground := .data }, { on := 0, ground := .phase }], guard := none }] false).seq Code.ret)) Q { tmps := #[undef, undef], defers := [] } w := by
  have hst := run_storeCells_new (P := Try.prog) w 92 zero tab hi ho h1
  clear hi ho h1
  go_wp2
  exact hQ
set_option maxRecDepth 100000 in
theorem impl_crcTable (w : World) : Calls Try.prog 87 #[] w fun e w' => e = .returned (.agg tabC) ∧ Below w.heap.size w w' := by
  obtain ⟨hz, hs⟩ := zero_of_info info66
  go_enter tabFunc, tabTmps
  refine table_walk tabParts tabVals tabC zeroC hz tab_eval fill66 size66 zeroC_size tabC_one tabC_size w _ ?_
  exact bodyPost_ret (results_cell_row rfl _ _ w.heap.size _ _ _ _ rfl (heap_alloc_last _ _) Try.underlying92 rfl size66) rfl ⟨rfl, (Below.refl _ _).alloc (Nat.le_refl _) _⟩

theorem tab_at (k : Nat) (h : k < 256) : tabC[k]? = some (.int .u32 (bitsN 8 k : Nat)) := by
  unfold tabC crcTab
  simp [h]
/-- A row of bytes in a block of its own. -/
def RowAt (w : World) (g : Nat) (l : List UInt8) : Prop := ∀ j (h : j < l.length), w.cell? ⟨g, j, none⟩ = some (.int .u8 (l[j].toNat : Int))
theorem fold_snocL {α : Type} (f : α → UInt8 → α) (x : α) (l : List UInt8) (k : Nat) (h : k < l.length) : (l.take (k + 1)).foldl f x = f ((l.take k).foldl f x) l[k] := by
  rw [List.take_succ_eq_append_getElem h, List.foldl_append]; rfl

set_option maxRecDepth 100000 in
set_option maxHeartbeats 400000 in
theorem impl_crcOf (l : List UInt8) (g cap : Nat) (w : World) (hr : RowAt w g l) (hg : g < w.heap.size) (hl : l.length ≤ 1099511627780) (hcap : l.length ≤ cap) :
    Calls Try.prog 84 #[.slice (some ⟨g, 0, none⟩) l.length cap] w fun e w' => e = .returned (.int .u32 (crcN l)) ∧ Below w.heap.size w w' := by
  obtain ⟨hz', _⟩ := zero_of_info info66
  have htab := impl_crcTable
  have hst' := fun w1 : World => run_storeCells_new (P := Try.prog) w1 92 zeroC tabC size66 zeroC_size tabC_one
  have hat := tab_at
  have hsz := tabC_size
  generalize tabC = tab at htab hst' hat hsz
  generalize zeroC = zero at hz' hst'
  go_enter Try.func84, Try.ntmps84
  go_wp2_with (go_at_call 87; refine (htab _).mono ?_; rintro e w1 ⟨rfl, hb1⟩)
  have hrow : ∀ k (h : k < l.length), (w1.alloc (.cells tab 92)).cell? ⟨g, k, none⟩ = some (.int .u8 (l[k].toNat : Int)) := fun k h => by
    rw [((Below.refl _ _).alloc (Nat.le_refl _) _ : Below w1.heap.size w1 (w1.alloc (.cells tab 92))).cell (show g < w1.heap.size from Nat.lt_of_lt_of_le hg hb1.size), hb1.cell hg]
    exact hr k h
  have hct : ∀ k, k < 256 → (w1.alloc (.cells tab 92)).cell? ⟨w1.heap.size, k, none⟩ = some (.int .u32 (bitsN 8 k : Nat)) := fun k h => by
    rw [World.cell?_alloc_new]; exact hat k h
  clear hst' hz' htab hat
  go_loop [4, 10] (fun x i => ∃ (k X : Nat), k ≤ l.length ∧ i = .int .i64 k ∧ x = .int .u32 X ∧ X < 4294967296 ∧ Hid (X = (l.take k).foldl crcOn 4294967295)) (fun _ i => l.length - (intOf i).toNat)
  case atStart => exact ⟨0, 4294967295, Nat.zero_le _, rfl, rfl, by omega, Lib.hid (by simp)⟩
  case round =>
    obtain ⟨k, X, hk, rfl, rfl, hX1, HX⟩ := hrel
    by_cases hlt : k < l.length
    · have hc : l[k].toNat < 256 := l[k].toNat_lt
      obtain ⟨J, hJ⟩ : ∃ J, J = X % 256 ^^^ l[k].toNat := ⟨_, rfl⟩
      have hJ1 : J < 256 := by rw [hJ]; exact xor_lt8 (Nat.mod_lt _ (by decide)) hc
      have hx8 : bits .xor .u8 ((X : Int) % 256) (l[k].toNat : Int) = (J : Int) := by
        rw [hJ]; exact u8_xor_nat (X % 256) l[k].toNat (Nat.mod_lt _ (by decide)) hc
      obtain ⟨Y, hY⟩ : ∃ Y, Y = bitsN 8 J := ⟨_, rfl⟩
      have hY1 : Y < 4294967296 := by rw [hY]; exact bitsN_lt _ _ (by omega)
      have hlo := hct J hJ1
      rw [← hY] at hlo
      have hcell := hrow k hlt
      have hx32 := Lib.hid (u32_xor_nat (X / 256) Y (by omega) hY1)
      have hst : Hid (crcOn X l[k] = (l.take (k + 1)).foldl crcOn 4294967295) := Lib.hid (by rw [fold_snocL _ _ _ _ hlt, ← HX.out])
      have hon : Hid (X / 256 ^^^ Y = crcOn X l[k]) := Lib.hid (by rw [crcOn_table, ← hJ, ← hY, Nat.xor_comm])
      have hlt2 : Hid (crcOn X l[k] < 4294967296) := Lib.hid (crcOn_lt _ _ hX1)
      have e4 : (J : Int).toNat = J := rfl
      clear hrow hct hJ hY
      go_wp2
      go_round
      case rel => exact ⟨k + 1, crcOn X l[k], by omega, by go_num, by rw [← hon.out, ← hx32.out]; rfl, hlt2.out, hst⟩
      case measure => simp [intOf]; omega
    · have he : Hid (4294967295 ^^^ X = crcN l) := Lib.hid (by rw [HX.out, List.take_of_length_le (by omega)]; rfl)
      have hn := Lib.hid (not_u32 X hX1)
      go_wp2
      go_ret
      exact ⟨by rw [hn.out, he.out]; rfl, hb1.alloc hb1.size _⟩
end Go.Proofs.Ytkkmjlpeahkiaaa
