/- The draws of a chain with a text, and of a text with a size. Condition: a code of at most 2^20 bytes. -/
import Derived.Test.YtlklhmdpkicpnaaBaseA
import Derived.Test.YtlklhmdpkicpnaaDrawPc
namespace Go.Proofs.Ytlklhmdpkicpnaa
open Go.RowKit
set_option linter.unusedVariables false
set_option linter.unusedSimpArgs false

set_option maxRecDepth 100000 in
set_option maxHeartbeats 4000000 in
theorem drawLink_any (a : Option Addr) (len cap : Nat) (zs : List Int) (w : World) (hr : Row8 w w.heap.size a len cap zs) (hl : len ≤ 1048576) :
    Calls Try.prog 32 #[.slice a len cap] w fun e w' => ∃ n s, e = .returned (.tuple #[.int .i64 n, .string s]) ∧ (-9223372036854775808 ≤ n ∧ n ≤ 9223372036854775807) ∧ s.size ≤ 6 ∧ Below w.heap.size w w' := by
  go_enter Try.func32, Try.ntmps32
  go_wp2_with (go_at_call 57; refine (new_any a len cap zs _ hr hl).mono ?_; rintro e w1 ⟨rfl, cu, hb⟩; refine Hid.out ?_)
  refine Lib.hid ?_
  have HN : Hid (w.heap.size < w1.heap.size) := Lib.hid cu.lt
  have BB := Lib.hid hb
  have CU := Lib.hid cu
  clear hb cu
  have hc := int_any _ _ _ CU.out
  go_wp2_with (go_at_call 82; refine hc.mono ?_; rintro e w2 ⟨n, hn, rfl, cu, gr⟩; refine Hid.out ?_)
  refine Lib.hid ?_
  obtain ⟨n', hn', hnb⟩ := hn
  obtain rfl : n = n' := by simpa using hn'
  have Hnb := Lib.hid hnb
  clear hn' hnb
  replace BB := Lib.hid (BB.out.grown gr BB.out.size (fun j e => by have := HN.out; cases e; omega))
  replace CU := Lib.hid cu
  clear gr cu hc  
  have hc := below_any 6 (by omega) _ _ _ CU.out
  go_wp2_with (go_at_call 63; refine hc.mono ?_; rintro e w3 ⟨x, ⟨hx0, hx1, _⟩, rfl, cu, gr⟩; refine Hid.out ?_)
  refine Lib.hid ?_
  have hx1 := hx1 (by omega)
  have Hx : Hid (0 ≤ x ∧ x < 6) := Lib.hid ⟨hx0, hx1⟩
  clear hx0 hx1
  replace BB := Lib.hid (BB.out.grown gr BB.out.size (fun j e => by have := HN.out; cases e; omega))
  replace CU := Lib.hid cu
  clear gr cu hc  
  have hx := Hx.out
  obtain ⟨m, rfl⟩ := Int.eq_ofNat_of_zero_le hx.1
  have hm : m < 6 := by omega
  have hc := text_any m (by omega) _ _ _ CU.out
  go_wp2_with (go_at_call 83; refine hc.mono ?_; rintro e w4 ⟨t, ht, rfl, cu, gr⟩; refine Hid.out ?_)
  refine Lib.hid ?_
  replace BB := Lib.hid (BB.out.grown gr BB.out.size (fun j e => by have := HN.out; cases e; omega))
  replace CU := Lib.hid cu
  clear gr cu hc  
  go_wp2_with fail
  go_ret2
  exact ⟨n, t, rfl, Hnb.out, by omega, BB.out⟩
set_option maxRecDepth 100000 in
set_option maxHeartbeats 4000000 in
theorem drawCut_any (a : Option Addr) (len cap : Nat) (zs : List Int) (w : World) (hr : Row8 w w.heap.size a len cap zs) (hl : len ≤ 1048576) :
    Calls Try.prog 26 #[.slice a len cap] w fun e w' => ∃ s n, e = .returned (.tuple #[.string s, .int .i64 n]) ∧ s.size ≤ 8193 ∧ (0 ≤ n ∧ n ≤ 201) ∧ Below w.heap.size w w' := by
  go_enter Try.func26, Try.ntmps26
  go_wp2_with (go_at_call 57; refine (new_any a len cap zs _ hr hl).mono ?_; rintro e w1 ⟨rfl, cu, hb⟩; refine Hid.out ?_)
  refine Lib.hid ?_
  have HN : Hid (w.heap.size < w1.heap.size) := Lib.hid cu.lt
  have BB := Lib.hid hb
  have CU := Lib.hid cu
  clear hb cu
  have hc := text6_any _ _ _ CU.out
  go_wp2_with (go_at_call 77; refine hc.mono ?_; rintro e w2 ⟨u, hu, rfl, cu, gr⟩; refine Hid.out ?_)
  refine Lib.hid ?_
  replace BB := Lib.hid (BB.out.grown gr BB.out.size (fun j e => by have := HN.out; cases e; omega))
  replace CU := Lib.hid cu
  clear gr cu hc  
  have hc := once_any 20 (by omega) _ _ _ CU.out
  go_wp2_with (go_at_call 78; refine hc.mono ?_; rintro e w3 ⟨b, rfl, cu, gr⟩; refine Hid.out ?_)
  refine Lib.hid ?_
  replace BB := Lib.hid (BB.out.grown gr BB.out.size (fun j e => by have := HN.out; cases e; omega))
  replace CU := Lib.hid cu
  clear gr cu hc  
  cases b
  · have hbg := CU.out.lt
    obtain ⟨XIw4, hXIw4⟩ : ∃ z, z = w3.alloc (.cells #[.int .i64 8, .int .i64 8, .int .i64 20, .int .i64 200, .int .i64 7, .int .i64 201, .int .i64 0] 3) := ⟨_, rfl⟩
    have hb : Below w3.heap.size w3 XIw4 := by rw [hXIw4]; exact (Below.refl _ _).alloc (Nat.le_refl _) _
    replace BB := tbt BB hb
    replace CU := Lib.hid (CU.out.kept (hb.mono (by have := CU.out.le; have := CU.out.lt; omega)) (hb.block _ CU.out.lt))
    have KI : Hid (XIw4.heap[w3.heap.size]? = some (.cells #[.int .i64 8, .int .i64 8, .int .i64 20, .int .i64 200, .int .i64 7, .int .i64 201, .int .i64 0] 3 (0, 0))) := Lib.hid (by rw [hXIw4]; exact heap_new _ _)
    have LI : Hid (w3.heap.size < XIw4.heap.size) := Lib.hid (by rw [hXIw4]; simp)
    clear hb
    have hc := pickInt_any (QF (fun n => decide ((0) ≤ n ∧ n ≤ (201)))) (w3.heap.size) 7 7 (by omega) (by omega) _ _ _ (by omega) (ints_f _ KI.out (by decide) _ rfl) CU.out
    rw [hXIw4] at hc  
    go_wp2_with (go_at_call 65; refine hc.mono ?_; rintro e w4 ⟨y, hq, rfl, cu, gr⟩; refine Hid.out ?_)
    refine Lib.hid ?_
    rw [← hXIw4] at gr
    have Hy : Hid ((0) ≤ y ∧ y ≤ (201)) := Lib.hid (qf_of hq)
    clear hq
    replace KI := tkg gr LI KI (by have h1 := HN.out; simp; omega)
    replace LI := tlz LI gr.size
    replace BB := Lib.hid (BB.out.grown gr BB.out.size (fun j e => by have := HN.out; cases e; omega))
    replace CU := Lib.hid cu
    clear gr cu hc  
    clear hXIw4
    clear KI LI
    clear hbg
    have hy := Hy.out
    go_wp2_with fail
    go_ret2
    exact ⟨_, y, rfl, by omega, by omega, BB.out⟩
  · have hc := below_any 2 (by omega) _ _ _ CU.out
    go_wp2_with (go_at_call 63; refine hc.mono ?_; rintro e w4 ⟨x, ⟨hx0, hx1, _⟩, rfl, cu, gr⟩; refine Hid.out ?_)
    refine Lib.hid ?_
    have hx1 := hx1 (by omega)
    have Hx : Hid (0 ≤ x ∧ x < 2) := Lib.hid ⟨hx0, hx1⟩
    clear hx0 hx1
    replace BB := Lib.hid (BB.out.grown gr BB.out.size (fun j e => by have := HN.out; cases e; omega))
    replace CU := Lib.hid cu
    clear gr cu hc  
    have hx := Hx.out
    obtain ⟨w5, s, k, hmk, hcv, hss, hb⟩ := make_text w4 (4800 + x) (by omega) (by omega)
    replace BB := tbt BB hb
    replace CU := Lib.hid (CU.out.kept (hb.mono (by have := CU.out.le; have := CU.out.lt; omega)) (hb.block _ CU.out.lt))
    clear hb
    have hbg := CU.out.lt
    obtain ⟨XIw6, hXIw6⟩ : ∃ z, z = w5.alloc (.cells #[.int .i64 8, .int .i64 8, .int .i64 20, .int .i64 200, .int .i64 7, .int .i64 201, .int .i64 0] 3) := ⟨_, rfl⟩
    have hb : Below w5.heap.size w5 XIw6 := by rw [hXIw6]; exact (Below.refl _ _).alloc (Nat.le_refl _) _
    replace BB := tbt BB hb
    replace CU := Lib.hid (CU.out.kept (hb.mono (by have := CU.out.le; have := CU.out.lt; omega)) (hb.block _ CU.out.lt))
    have KI : Hid (XIw6.heap[w5.heap.size]? = some (.cells #[.int .i64 8, .int .i64 8, .int .i64 20, .int .i64 200, .int .i64 7, .int .i64 201, .int .i64 0] 3 (0, 0))) := Lib.hid (by rw [hXIw6]; exact heap_new _ _)
    have LI : Hid (w5.heap.size < XIw6.heap.size) := Lib.hid (by rw [hXIw6]; simp)
    clear hb
    have hc := pickInt_any (QF (fun n => decide ((0) ≤ n ∧ n ≤ (201)))) (w5.heap.size) 7 7 (by omega) (by omega) _ _ _ (by omega) (ints_f _ KI.out (by decide) _ rfl) CU.out
    rw [hXIw6] at hc  
    go_wp2_with (go_at_call 65; refine hc.mono ?_; rintro e w6 ⟨y, hq, rfl, cu, gr⟩; refine Hid.out ?_)
    refine Lib.hid ?_
    rw [← hXIw6] at gr
    have Hy : Hid ((0) ≤ y ∧ y ≤ (201)) := Lib.hid (qf_of hq)
    clear hq
    replace KI := tkg gr LI KI (by have h1 := HN.out; simp; omega)
    replace LI := tlz LI gr.size
    replace BB := Lib.hid (BB.out.grown gr BB.out.size (fun j e => by have := HN.out; cases e; omega))
    replace CU := Lib.hid cu
    clear gr cu hc  
    clear hXIw6
    clear KI LI
    clear hbg
    have hy := Hy.out
    go_wp2_with fail
    go_ret2
    exact ⟨_, y, rfl, by omega, by omega, BB.out⟩
end Go.Proofs.Ytlklhmdpkicpnaa
