/- What the program's putRow and putRows answer. Condition: rows of a right state. -/
import Derived.Test.YtlklhmdpkicpnaaBld
import Derived.Test.YtlklhmdpkicpnaaFmtBack
import Derived.Test.YtlklhmdpkicpnaaNumA
import Derived.Test.YtlklhmdpkicpnaaBaseA
namespace Go.Proofs.Ytlklhmdpkicpnaa
open Go.RowKit
set_option linter.unusedVariables false
set_option linter.unusedSimpArgs false

theorem put_list {s : ByteArray} (h : s.size ≤ 65535) : (putTextB s).data.toList = pt s := by
  unfold putTextB pt
  rw [if_neg (by omega), ByteArray.data_append, Array.toList_append]
  unfold putN; rw [if_neg (by omega)]; simp [txt, be8]
theorem put_size {s : ByteArray} (h : s.size ≤ 64) : (putTextB s).size ≤ 66 := by
  unfold putTextB
  rw [if_neg (by omega), ByteArray.size_append, putN_size]; omega
theorem seq_size {q : Int} (h : 0 ≤ q) : (txt (putN q 4)).size = 4 := by
  unfold putN; rw [if_neg (by omega)]; exact txt_beB_size _ _
theorem seq_list {q : Int} (h : 0 ≤ q) : (txt (putN q 4)).data.toList = be8 q.toNat 4 := by
  unfold putN; rw [if_neg (by omega)]; simp [txt, be8]
theorem cnt_list (n : Nat) : (txt (putN (n : Int) 2)).data.toList = be8 n 2 := by
  unfold putN; rw [if_neg (by omega)]; simp [txt, be8]
def rowIB (x : It) : ByteArray := putTextB x.k ++ putTextB x.v
def rowTB (x : Tk) : ByteArray := putTextB x.c ++ txt (putN x.q 4) ++ putTextB x.r
theorem rowI_list {x : It} (h : SmI x) : (rowIB x).data.toList = encIt x := by
  unfold SmI at h
  unfold rowIB encIt
  rw [ByteArray.data_append, Array.toList_append, put_list (by omega), put_list (by omega)]
theorem rowT_list {x : Tk} (h : SmT x) : (rowTB x).data.toList = encTk x := by
  unfold SmT at h
  unfold rowTB encTk
  rw [ByteArray.data_append, Array.toList_append, ByteArray.data_append, Array.toList_append, put_list (by omega), put_list (by omega), seq_list (by omega)]
theorem rowI_size {x : It} (h : SmI x) : (rowIB x).size ≤ 132 := by
  unfold SmI at h
  have h1 := put_size h.1
  have h2 := put_size h.2
  unfold rowIB; rw [ByteArray.size_append]; omega
theorem rowT_size {x : Tk} (h : SmT x) : (rowTB x).size ≤ 136 := by
  unfold SmT at h
  have h1 := put_size h.1
  have h2 := put_size h.2.1
  have h3 := seq_size h.2.2.1
  unfold rowTB; rw [ByteArray.size_append, ByteArray.size_append]; omega
theorem encI_len {x : It} (h : SmI x) : (encIt x).length ≤ 132 := by rw [← rowI_list h]; simpa using rowI_size h
theorem encT_len {x : Tk} (h : SmT x) : (encTk x).length ≤ 136 := by rw [← rowT_list h]; simpa using rowT_size h

theorem ta_it (v : Value) (w : World) : (Instr.typeAssert (.iface 114 v) 171 114 true).run Try.prog w = .ok (.tuple #[v, .bool true]) w := by
  simp [Instr.typeAssert, run_underlying Try.underlying114]
theorem ta_tk (v : Value) (w : World) : (Instr.typeAssert (.iface 116 v) 171 116 true).run Try.prog w = .ok (.tuple #[v, .bool true]) w := by
  simp [Instr.typeAssert, run_underlying Try.underlying116]
theorem ta_no (v : Value) (w : World) : (Instr.typeAssert (.iface 116 v) 171 114 true).run Try.prog w = .ok (.tuple #[.agg #[.string ⟨#[]⟩, .string ⟨#[]⟩], .bool false]) w := by
  simp [Instr.typeAssert, run_underlying Try.underlying114, Try.zeroValue114]
set_option maxRecDepth 100000 in
set_option maxHeartbeats 4000000 in
theorem impl_putRowI (x : It) (w : World) (hx : SmI x) :
    Calls Try.prog 145 #[.iface 114 (itA x)] w fun e w' => e = .returned (.string (rowIB x)) ∧ Below w.heap.size w w' := by
  unfold SmI at hx
  unfold itA
  have hv : Hid (putTextB x.k ++ putTextB x.v = rowIB x) := Lib.hid rfl
  have h1 := put_size hx.1
  have h2 := put_size hx.2
  have ns1 : ¬ 9223372036854775807 < (putTextB x.k).size + (putTextB x.v).size := by omega
  obtain ⟨X, hX⟩ : ∃ X, X = w.alloc (.cells #[.string x.k, .string x.v] 114) := ⟨_, rfl⟩
  have bX : Below w.heap.size w X := by rw [hX]; exact (Below.refl _ _).alloc (Nat.le_refl _) _
  have KX : Hid (X.heap[w.heap.size]? = some (.cells #[.string x.k, .string x.v] 114 (0, 0))) := Lib.hid (by rw [hX]; exact heap_new _ _)
  have LX : Hid (w.heap.size < X.heap.size) := Lib.hid (by rw [hX]; simp)
  have FX : Hid (∀ w', Below X.heap.size X w' → w'.cell? ⟨w.heap.size, 0, none⟩ = some (.string x.k) ∧ w'.cell? ⟨w.heap.size, 1, none⟩ = some (.string x.v)) := Lib.hid (fun w' h => by have K := tkb h LX KX; exact ⟨tcr K 0, tcr K 1⟩)
  have BB := Lib.hid bX
  have Hx := Lib.hid hx
  clear bX hx h1 h2 KX LX
  have hta := fun w => ta_it (.agg #[.string x.k, .string x.v]) w
  go_enter Try.func145, Try.ntmps145
  go_wp2_with fail
  rw [← hX]
  clear hX
  refine wp_region_held_drew (S := (fun w' => Below X.heap.size X w')) (by kernel_rfl) (Below.refl _ _).drew (fun hHeld => ?_)
  obtain ⟨zD, hzD⟩ : ∃ zz, zz = X.drew := ⟨_, rfl⟩
  rw [← hzD] at hHeld ⊢
  clear hzD
  have BD := Lib.hid hHeld
  refine tk0 0 ?_
  refine tk 1 (v := ?_) ?_ ?_; rotate_left
  · refine Or.inl ⟨by rfl, ?_⟩; intro w hSw; obtain ⟨f0, f1⟩ := FX.out w hSw; go_simp; first | done | with_reducible rfl
  refine tk0 3 ?_
  refine tk 4 (v := ?_) ?_ ?_; rotate_left
  · refine Or.inl ⟨by rfl, ?_⟩; intro w hSw; obtain ⟨f0, f1⟩ := FX.out w hSw; go_simp; first | done | with_reducible rfl
  refine rd1 2 (fun K hK => ?_)
  go_simp
  go_at_call 61
  refine (impl_putText x.k zD (by have := Hx.out; omega)).mono ?_
  rintro e w2 ⟨rfl, hb⟩
  replace BD := tbt BD hb
  clear hb
  go_wp2_with fail
  refine hK.out _ _ BD.out (fun hHeld => ?_)
  clear hK K
  refine rd1 5 (fun K hK => ?_)
  go_simp
  go_at_call 61
  refine (impl_putText x.v w2 (by have := Hx.out; omega)).mono ?_
  rintro e w3 ⟨rfl, hb⟩
  replace BD := tbt BD hb
  clear hb
  go_wp2_with fail
  refine hK.out _ _ BD.out (fun hHeld => ?_)
  clear hK K
  refine tk0 6 ?_
  refine tk0 7 ?_
  refine wpAnyH_done (by kernel_rfl) ?_ _
  clear hHeld
  go_wp2_with fail
  go_ret
  exact ⟨ret_txt hv.out, BB.out.trans (BD.out.mono BB.out.size)⟩

set_option maxRecDepth 100000 in
set_option maxHeartbeats 4000000 in
theorem impl_putRowT (x : Tk) (w : World) (hx : SmT x) :
    Calls Try.prog 145 #[.iface 116 (tkA x)] w fun e w' => e = .returned (.string (rowTB x)) ∧ Below w.heap.size w w' := by
  unfold SmT at hx
  unfold tkA
  have hv : Hid (putTextB x.c ++ txt (putN x.q 4) ++ putTextB x.r = rowTB x) := Lib.hid rfl
  have h1 := put_size hx.1
  have h2 := put_size hx.2.1
  have h3 := seq_size hx.2.2.1
  obtain ⟨p1, hp1⟩ : ∃ p, p = putTextB x.c := ⟨_, rfl⟩
  obtain ⟨p2, hp2⟩ : ∃ p, p = txt (putN x.q 4) := ⟨_, rfl⟩
  obtain ⟨p3, hp3⟩ : ∃ p, p = putTextB x.r := ⟨_, rfl⟩
  rw [← hp1] at h1 hv
  rw [← hp3] at h2 hv
  rw [← hp2] at h3 hv
  have H1 := Lib.hid hp1
  have H2 := Lib.hid hp2
  have H3 := Lib.hid hp3
  have ns1 : ¬ 9223372036854775807 < p1.size + p2.size := by omega
  have ns2 : ¬ 9223372036854775807 < p1.size + 4 := by omega
  have ns3 : ¬ 9223372036854775807 < p1.size + p2.size + p3.size := by omega
  have ns4 : ¬ 9223372036854775807 < p1.size + 4 + p3.size := by omega
  obtain ⟨X, hX⟩ : ∃ X, X = w.alloc (.cells #[.string x.c, .int .i64 x.q, .string x.r] 116) := ⟨_, rfl⟩
  have bX : Below w.heap.size w X := by rw [hX]; exact (Below.refl _ _).alloc (Nat.le_refl _) _
  have KX : Hid (X.heap[w.heap.size]? = some (.cells #[.string x.c, .int .i64 x.q, .string x.r] 116 (0, 0))) := Lib.hid (by rw [hX]; exact heap_new _ _)
  have LX : Hid (w.heap.size < X.heap.size) := Lib.hid (by rw [hX]; simp)
  have FX : Hid (∀ w', Below X.heap.size X w' → w'.cell? ⟨w.heap.size, 0, none⟩ = some (.string x.c) ∧ w'.cell? ⟨w.heap.size, 1, none⟩ = some (.int .i64 x.q) ∧ w'.cell? ⟨w.heap.size, 2, none⟩ = some (.string x.r)) := Lib.hid (fun w' h => by have K := tkb h LX KX; exact ⟨tcr K 0, tcr K 1, tcr K 2⟩)
  have BB := Lib.hid bX
  have Hx := Lib.hid hx
  clear bX hx h1 h2 KX LX hp1 hp2 hp3
  have hta := fun w => ta_tk (.agg #[.string x.c, .int .i64 x.q, .string x.r]) w
  have htn := fun w => ta_no (.agg #[.string x.c, .int .i64 x.q, .string x.r]) w
  go_enter Try.func145, Try.ntmps145
  go_wp2_with fail
  rw [← hX]
  clear hX
  refine wp_region_held_drew (S := (fun w' => Below X.heap.size X w')) (by kernel_rfl) (Below.refl _ _).drew (fun hHeld => ?_)
  obtain ⟨zD, hzD⟩ : ∃ zz, zz = X.drew := ⟨_, rfl⟩
  rw [← hzD] at hHeld ⊢
  clear hzD
  have BD := Lib.hid hHeld
  refine tk0 0 ?_
  refine tk 1 (v := ?_) ?_ ?_; rotate_left
  · refine Or.inl ⟨by rfl, ?_⟩; intro w hSw; obtain ⟨f0, f1, f2⟩ := FX.out w hSw; go_simp; first | done | with_reducible rfl
  refine tk0 3 ?_
  refine tk 4 (v := ?_) ?_ ?_; rotate_left
  · refine Or.inl ⟨by rfl, ?_⟩; intro w hSw; obtain ⟨f0, f1, f2⟩ := FX.out w hSw; go_simp; first | done | with_reducible rfl
  refine tk0 7 ?_
  refine tk 8 (v := ?_) ?_ ?_; rotate_left
  · refine Or.inl ⟨by rfl, ?_⟩; intro w hSw; obtain ⟨f0, f1, f2⟩ := FX.out w hSw; go_simp; first | done | with_reducible rfl
  refine rd1 2 (fun K hK => ?_)
  go_simp
  have hc := impl_putText x.c zD (by have := Hx.out; omega)
  rw [← H1.out] at hc
  go_at_call 61
  refine hc.mono ?_
  rintro e w2 ⟨rfl, hb⟩
  replace BD := tbt BD hb
  clear hb hc
  go_wp2_with fail
  refine hK.out _ _ BD.out (fun hHeld => ?_)
  clear hK K
  refine rd1 5 (fun K hK => ?_)
  go_simp
  have hc := impl_putNum x.q 4 (by have := Hx.out; omega) (by omega) w2
  rw [← H2.out] at hc
  go_at_call 59
  refine hc.mono ?_
  rintro e w3 ⟨rfl, hb⟩
  replace BD := tbt BD hb
  clear hb hc
  go_wp2_with fail
  refine hK.out _ _ BD.out (fun hHeld => ?_)
  clear hK K
  refine tk0 6 ?_
  refine rd1 9 (fun K hK => ?_)
  go_simp
  have hc := impl_putText x.r w3 (by have := Hx.out; omega)
  rw [← H3.out] at hc
  go_at_call 61
  refine hc.mono ?_
  rintro e w4 ⟨rfl, hb⟩
  replace BD := tbt BD hb
  clear hb hc
  go_wp2_with fail
  refine hK.out _ _ BD.out (fun hHeld => ?_)
  clear hK K
  refine tk0 10 ?_
  refine tk0 11 ?_
  refine wpAnyH_done (by kernel_rfl) ?_ _
  clear hHeld
  go_wp2_with fail
  go_ret
  exact ⟨ret_txt hv.out, BB.out.trans (BD.out.mono BB.out.size)⟩
end Go.Proofs.Ytlklhmdpkicpnaa
