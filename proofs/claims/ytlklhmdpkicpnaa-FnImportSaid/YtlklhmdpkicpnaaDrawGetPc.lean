/- The draw of a piece's text, bent or with a byte changed and sealed anew. Condition: a code of at most 2^20 bytes. -/
import Derived.Test.YtlklhmdpkicpnaaBaseA
import Derived.Test.YtlklhmdpkicpnaaDrawPc
import Derived.Test.YtlklhmdpkicpnaaImplSeal
namespace Go.Proofs.Ytlklhmdpkicpnaa
open Go.RowKit
set_option linter.unusedVariables false
set_option linter.unusedSimpArgs false

/-- A text as a row of bytes that may be written. -/
theorem conv_free (s : ByteArray) (w : World) : ∃ cap w1, (convert 9 22 (.string s)).run Try.prog w = .ok (.slice (some ⟨w.heap.size, 0, none⟩) s.size cap) w1 ∧
    RowAt w1 w.heap.size s.data.toList ∧ Below w.heap.size w w1 ∧ w.heap.size < w1.heap.size ∧ s.size ≤ cap ∧ ∀ j, j < s.size → w1.frozen? ⟨w.heap.size, j, none⟩ = false := by
  have hge := grownCap_ge w s.size 0 5
  refine ⟨_, _, run_bytes_of_string w 9 22 5 s Try.underlying9 Try.underlying22 Try.underlying5, fun j h => ?_, ((Below.refl _ _).drew).alloc (Nat.le_refl _) _, by simp, hge, fun j h1 => ?_⟩
  · have hj : j < s.size := by simpa using h
    rw [World.cell?, heap_drew_alloc]
    simp [bytesRow, Array.getElem?_append, hj]
  · rw [World.frozen?, heap_drew_alloc]
    simp [bytesRow]
    omega
theorem row_set {w : World} {g : Nat} {l : List UInt8} (h : RowAt w g l) (j : Nat) (hj : j < l.length) (v : Value) (c : Nat) (hc : c < 256) (hv : v = .int .u8 (c : Int)) : RowAt (w.setCell ⟨g, j, none⟩ v) g (l.set j (UInt8.ofNat c)) := fun i hi => by
  rw [List.length_set] at hi
  by_cases he : j = i
  · subst he
    rw [World.cell?_setCell_same _ _ _ (h j hj), hv]
    simp
    omega
  · rw [World.cell?_setCell_other _ _ _ _ (fun e => he (congrArg Addr.off e)), h i hi]
    simp [he]
theorem row_move {w w' : World} {g : Nat} {l : List UInt8} (h : RowAt w g l) (hb : w'.heap[g]? = w.heap[g]?) : RowAt w' g l := fun j hj => (World.cell?_of_block hb).trans (h j hj)
theorem frozen_move {w w' : World} {g j : Nat} (h : w.frozen? ⟨g, j, none⟩ = false) (hb : w'.heap[g]? = w.heap[g]?) : w'.frozen? ⟨g, j, none⟩ = false := by
  unfold World.frozen? at h ⊢
  simp only [hb]
  exact h
theorem ok_fit' {p : Pc} (h : pcOk p = true) : FitPc p := by
  obtain ⟨h1, h2, h3, h4⟩ := pc_in h
  exact ⟨by omega, by omega, by unfold maxLen; omega, by omega⟩
set_option maxRecDepth 100000 in
set_option maxHeartbeats 4000000 in
theorem drawGetPiece_any (a : Option Addr) (len cap : Nat) (zs : List Int) (w : World) (hr : Row8 w w.heap.size a len cap zs) (hl : len ≤ 1048576) :
    Calls Try.prog 20 #[.slice a len cap] w (DrawnText 216 w) := by
  go_enter Try.func20, Try.ntmps20
  go_wp2_with (go_at_call 57; refine (new_any a len cap zs _ hr hl).mono ?_; rintro e w1 ⟨rfl, cu, hb⟩; refine Hid.out ?_)
  refine Lib.hid ?_
  have HN : Hid (w.heap.size < w1.heap.size) := Lib.hid cu.lt
  have BB := Lib.hid hb
  have CU := Lib.hid cu
  clear hb cu
  have hc := piece_lit _ _ _ CU.out
  go_wp2_with (go_at_call 62; refine hc.mono ?_; rintro e w2 ⟨no, of, pb, pch, hok, rfl, cu, gr⟩; refine Hid.out ?_)
  refine Lib.hid ?_
  have hin := pc_in hok
  have hsz := pc_size hok
  dsimp only at hsz
  have hfit := ok_fit' hok
  clear hok
  replace BB := Lib.hid (BB.out.grown gr BB.out.size (fun j e => by have := HN.out; cases e; omega))
  replace CU := Lib.hid cu
  clear gr cu hc  
  obtain ⟨⟨o1, o2⟩, ⟨n1, n2⟩, ⟨b1, b2⟩, ⟨c1, c2⟩⟩ := hin
  have kp := fun w => spec_putPiece ⟨no, of, pb, pch⟩ w hfit
  obtain ⟨s, hs⟩ : ∃ s, s = pcB ⟨no, of, pb, pch⟩ := ⟨_, rfl⟩
  rw [← hs] at hsz kp
  unfold pcV at kp
  dsimp only at b1 b2 kp
  clear hs hfit o1 o2 n1 n2 c1 c2
  have hc := kp w2
  go_wp2_with (go_at_call 23; refine hc.mono ?_; rintro e w3 ⟨rfl, hb⟩; refine Hid.out ?_)
  refine Lib.hid ?_
  replace BB := tbt BB hb
  replace CU := Lib.hid (CU.out.kept (hb.mono (by have := CU.out.le; have := CU.out.lt; omega)) (hb.block _ CU.out.lt))
  clear hb hc  
  clear kp
  have hc := below_any 4 (by omega) _ _ _ CU.out
  go_wp2_with (go_at_call 63; refine hc.mono ?_; rintro e w4 ⟨x, ⟨hx0, hx1, _⟩, rfl, cu, gr⟩; refine Hid.out ?_)
  refine Lib.hid ?_
  have hx1 := hx1 (by omega)
  have Hx : Hid (0 ≤ x ∧ x < 4) := Lib.hid ⟨hx0, hx1⟩
  clear hx0 hx1
  replace BB := Lib.hid (BB.out.grown gr BB.out.size (fun j e => by have := HN.out; cases e; omega))
  replace CU := Lib.hid cu
  clear gr cu hc  
  have hx := Hx.out
  clear Hx
  have hn4 : w.heap.size < w4.heap.size := CU.out.lt
  rcases (show x = 0 ∨ x = 1 ∨ 2 ≤ x by omega) with rfl | rfl | hx2
  · have hc := bent_any s 215 (by omega) (by omega) _ _ _ CU.out
    go_wp2_with (go_at_call 64; refine hc.mono ?_; rintro e w5 ⟨u, hu, rfl, cu, gr⟩; refine Hid.out ?_)
    refine Lib.hid ?_
    replace BB := Lib.hid (BB.out.grown gr BB.out.size (fun j e => by have := HN.out; cases e; omega))
    replace CU := Lib.hid cu
    clear gr cu hc  
    go_wp2_with fail
    go_ret
    exact ⟨u, rfl, by omega, BB.out⟩
  · obtain ⟨j, hj⟩ : ∃ j, s.size = j + 4 := ⟨11 + pb.size, by omega⟩
    have hj11 : 11 ≤ j := by omega
    have hj215 : j ≤ 211 := by omega
    clear hsz b1 b2
    have hTs : (s.extract 0 j).size = j := by rw [ByteArray.size_extract]; omega
    obtain ⟨cap, w5, hcv, hrow, hb, hlt, hcap, hfz⟩ := conv_free (s.extract 0 j) w4
    rw [hTs] at hcv hfz
    have HROW := Lib.hid hrow
    have HFZ := Lib.hid hfz
    have LB : Hid (w4.heap.size < w5.heap.size) := Lib.hid hlt
    obtain ⟨oB, hoB⟩ : ∃ o, o = w5.heap[w4.heap.size]? := ⟨_, rfl⟩
    have KB : Hid (w5.heap[w4.heap.size]? = oB) := Lib.hid hoB.symm
    have HoB := Lib.hid hoB
    clear hrow hfz hlt hcap hoB
    replace BB := tbt BB hb
    replace CU := Lib.hid (CU.out.kept (hb.mono (by have := CU.out.le; have := CU.out.lt; omega)) (hb.block _ CU.out.lt))
    have n45 : Hid (w.heap.size < w4.heap.size) := Lib.hid hn4
    clear hb
    have hc := below_any (j : Int) ⟨by omega, by omega⟩ _ _ _ CU.out
    go_wp2_with (go_at_call 63; refine hc.mono ?_; rintro e w6 ⟨i, ⟨hx0, hx1, _⟩, rfl, cu, gr⟩; refine Hid.out ?_)
    refine Lib.hid ?_
    have hx1 := hx1 (by omega)
    have Hi : Hid (0 ≤ i ∧ i < (j : Int)) := Lib.hid ⟨hx0, hx1⟩
    clear hx0 hx1
    replace KB := tkg gr LB KB (by have h1 := HN.out; have h9 := n45.out; simp; omega)
    replace LB := tlz LB gr.size
    replace BB := Lib.hid (BB.out.grown gr BB.out.size (fun j e => by have := HN.out; cases e; omega))
    replace CU := Lib.hid cu
    clear gr cu hc  
    have hi := Hi.out
    obtain ⟨k, rfl⟩ := Int.eq_ofNat_of_zero_le hi.1
    have hkj : k < j := by omega
    clear hcv Hi hTs
    have hbg := CU.out.lt
    obtain ⟨XIw7, hXIw7⟩ : ∃ z, z = w6.alloc (.cells #[.int .i64 0, .int .i64 1, .int .i64 2, .int .i64 80, .int .i64 255] 3) := ⟨_, rfl⟩
    have hb : Below w6.heap.size w6 XIw7 := by rw [hXIw7]; exact (Below.refl _ _).alloc (Nat.le_refl _) _
    replace KB := tkb hb LB KB
    replace LB := tlz LB hb.size
    replace BB := tbt BB hb
    replace CU := Lib.hid (CU.out.kept (hb.mono (by have := CU.out.le; have := CU.out.lt; omega)) (hb.block _ CU.out.lt))
    have KI : Hid (XIw7.heap[w6.heap.size]? = some (.cells #[.int .i64 0, .int .i64 1, .int .i64 2, .int .i64 80, .int .i64 255] 3 (0, 0))) := Lib.hid (by rw [hXIw7]; exact heap_new _ _)
    have LI : Hid (w6.heap.size < XIw7.heap.size) := Lib.hid (by rw [hXIw7]; simp)
    clear hb
    have hc := pickInt_any (QF (fun n => decide ((0) ≤ n ∧ n ≤ (255)))) (w6.heap.size) 5 5 (by omega) (by omega) _ _ _ (by omega) (ints_f _ KI.out (by decide) _ rfl) CU.out
    rw [hXIw7] at hc  
    go_wp2_with (go_at_call 65; refine hc.mono ?_; rintro e w7 ⟨y, hq, rfl, cu, gr⟩; refine Hid.out ?_)
    refine Lib.hid ?_
    rw [← hXIw7] at gr
    have Hy : Hid ((0) ≤ y ∧ y ≤ (255)) := Lib.hid (qf_of hq)
    clear hq
    replace KB := tkg gr LB KB (by have h1 := HN.out; have h9 := n45.out; simp; omega)
    replace LB := tlz LB gr.size
    replace KI := tkg gr LI KI (by have h1 := HN.out; have h9 := n45.out; simp; omega)
    replace LI := tlz LI gr.size
    replace BB := Lib.hid (BB.out.grown gr BB.out.size (fun j e => by have := HN.out; cases e; omega))
    replace CU := Lib.hid cu
    clear gr cu hc  
    clear hXIw7
    clear KI LI
    clear hbg
    have hy := Hy.out
    obtain ⟨c, rfl⟩ := Int.eq_ofNat_of_zero_le hy.1
    have hc8 : c < 256 := by omega
    have hmod : ((c : Int)) % 256 = (c : Int) := by omega
    have hbk : w7.heap[w4.heap.size]? = w5.heap[w4.heap.size]? := KB.out.trans HoB.out
    have hrow7 := row_move HROW.out hbk
    have hlen : (s.extract 0 j).data.toList.length = j := by rw [Array.length_toList]; show (s.extract 0 j).size = j; rw [ByteArray.size_extract]; omega
    obtain ⟨uc, hcell⟩ : ∃ u, w7.cell? ⟨w4.heap.size, k, none⟩ = some u := ⟨_, hrow7 k (by omega)⟩
    have hfz7 := frozen_move (HFZ.out k hkj) hbk
    have hrowY := row_set hrow7 k (by omega) (.int .u8 (c : Int)) c hc8 rfl
    obtain ⟨L, hL⟩ : ∃ L, L = (s.extract 0 j).data.toList.set k (UInt8.ofNat c) := ⟨_, rfl⟩
    have hLl : L.length = j := by rw [hL, List.length_set]; exact hlen
    rw [← hL] at hrowY
    have hback := conv_row _ _ L j cap hLl.symm hrowY
    clear hrowY hL hlen hrow7 hbk HROW HFZ HoB
    have hLs : (⟨L.toArray⟩ : ByteArray).size = j := by show (List.toArray L).size = j; rw [List.size_toArray, hLl]
    have ks := fun w => spec_sealed ⟨L.toArray⟩ w (by omega)
    have hzs : (sealB ⟨L.toArray⟩).size = j + 4 := by unfold sealB; rw [ByteArray.size_append, leB_size, hLs]
    obtain ⟨z, hz⟩ : ∃ z, z = sealB ⟨L.toArray⟩ := ⟨_, rfl⟩
    rw [← hz] at ks hzs
    clear hz hLs hLl
    go_wp2_with (go_at_call 66; refine (ks _).mono ?_; rintro e w8 ⟨rfl, hb8⟩; refine Hid.out ?_)
    refine Lib.hid ?_
    obtain ⟨Y, hY⟩ : ∃ Y, Y = w7.setCell ⟨w4.heap.size, k, none⟩ (.int .u8 (c : Int)) := ⟨_, rfl⟩
    rw [← hY] at hb8
    have BY : Below w.heap.size w Y := by rw [hY]; exact BB.out.setCell (p := ⟨w4.heap.size, k, none⟩) (by have := n45.out; show w.heap.size ≤ w4.heap.size; omega) _
    clear hY hback
    go_wp2_with fail
    go_ret
    exact ⟨z, rfl, by omega, BY.trans (hb8.mono BY.size)⟩
  · have d0 : ¬ x = 0 := by omega
    have d1 : ¬ x = 1 := by omega
    go_wp2_with fail
    go_ret
    exact ⟨s, rfl, by omega, BB.out⟩
end Go.Proofs.Ytlklhmdpkicpnaa
