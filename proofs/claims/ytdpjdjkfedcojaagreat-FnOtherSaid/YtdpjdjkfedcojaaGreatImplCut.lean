/- What the program's Cut answers. Condition: a text of at most 2^40 bytes. -/
import Derived.Test.YtdpjdjkfedcojaaGreatCutB
import Derived.Test.YtdpjdjkfedcojaaGreatImplPut
import Derived.Test.YtdpjdjkfedcojaaGreatStrA
namespace Go.Proofs.YtdpjdjkfedcojaaGreat
open Go.RowKit Go.Shelf
set_option linter.unusedVariables false
set_option linter.unusedSimpArgs false
attribute [local go_sem] Oper.semAt_some
attribute [local simp] wide_fn

theorem chunks_stops (n : Nat) (hn : 3 ≤ n) (Bs : Nat) (s : ByteArray) (hs : s.size ≤ 1099511627776) (m : Nat) (hm : 0 < m) (hm2 : m ≤ 200) (M : Nat) (hM : manyN s m = M) (hM2 : M ≤ 600) (w : World) (hlt : Bs + 1 < w.heap.size) (hB0 : w.cell? ⟨Bs, 0, none⟩ = some (.string s)) (hB1 : w.cell? ⟨Bs + 1, 0, none⟩ = some (.int .i64 m)) :
    SeqStopsK Fence.wide n Tryz.prog 95 #[.pointer (some ⟨Bs, 0, none⟩), .pointer (some ⟨Bs + 1, 0, none⟩)] (fun x : Fin M => partV s m x.val) (Two Bs) (fun ys => ys.map Fin.val = List.range M) (fun _ => True) M w := fun l J Jx W hW hJ hJx hY h0 =>
  chunks1 n hn l Bs s hs m hm hm2 M hM hM2 J Jx hY (fun pre A k h => hJ pre A _ none h (grown_draws _ _ _) (fun r e => by cases e)) W ((hW.cell (p := ⟨Bs, 0, none⟩) (by simp; omega)).trans hB0) ((hW.cell (p := ⟨Bs + 1, 0, none⟩) (by simp; omega)).trans hB1) h0
theorem impl_first (w : World) : Calls Tryz.prog 29 #[] w fun e w' => e = .returned (.int .i64 (hashN [] : Nat)) ∧ w = w' := by
  have hc := fun w => impl_hash ⟨#[]⟩ w (by unfold maxLen; exact Nat.zero_le _)
  obtain ⟨h0, hh⟩ : ∃ z, z = hashN [] := ⟨_, rfl⟩
  change ∀ w, Calls Tryz.prog 65 #[.string ⟨#[]⟩] w fun e w' => e = .returned (.int .i64 ((hashN [] : Nat) : Int)) ∧ w = w' at hc
  rw [← hh] at hc ⊢
  clear hh
  go_enter Tryz.func29, Tryz.ntmps29
  go_wp2_with (go_at_call 65; refine (hc _).mono ?_; rintro e w1 ⟨rfl, rfl⟩)
  go_ret
  exact ⟨rfl, rfl⟩
theorem ownsRow_lower {w : World} {B B' : Nat} {e : TypeId} {size : Nat} {v : Value} {n : Nat} {xs : List Value} (h : w.ownsRow B e size v n xs) (hB : B' ≤ B) : w.ownsRow B' e size v n xs := by
  obtain ⟨h1, h2 | ⟨g, cap, cur, hv, hg, r⟩⟩ := h
  · exact ⟨h1, .inl h2⟩
  · exact ⟨h1, .inr ⟨g, cap, cur, hv, by omega, r⟩⟩
theorem ownFrom_below' {β : Type} {n₀ B : Nat} {w₀ : World} (hB : n₀ ≤ B ∧ n₀ ≤ w₀.heap.size := by omega) : OwnFrom B (fun (_ : β) W => Below n₀ w₀ W) := ownFrom_below hB.2 hB.1
theorem ko_below {w w' : World} (h : Below w.heap.size w w') : KeepsOthers w w' := KeepsOthers.of_grownBy (row := none) ⟨h.os, h.tape, h.output, h.size, fun k hk _ => h.block k hk⟩ (fun _ _ e => by cases e)
theorem got_of_row {w : World} {base e size g n cap : Nat} {cs : List Value} (h : w.ownsRow base e size (.slice (some ⟨g, 0, none⟩) n cap) n cs) : Got w base e size g n cap cs := by
  have hl := World.ownsRow.lt h g rfl
  obtain ⟨h1, h2 | ⟨g', cap', cur, hv, hg, hh, hc, hm, r⟩⟩ := id h
  · cases h2.1
  · cases hv
    exact ⟨h1, hc, hm, hg, hl.2, .inr h⟩
theorem row_of_gotS {w : World} {base e size g n cap : Nat} {cs : List Value} (h : Got w base e size g n cap cs) (hn : 0 < n) : w.ownsRow base e size (.slice (some ⟨g, 0, none⟩) n cap) n cs := by
  rcases h.2.2.2.2.2 with ⟨h0, _⟩ | h
  · omega
  · exact h
theorem one_rawS {w : World} {g : Nat} {cs : List Value} {t : TypeId} (h : w.heap[g]? = some (.cells cs.toArray t (0, 0))) (hg : g < w.heap.size) : Raw w w.heap.size (.slice (some ⟨g, 0, none⟩) 1 1) 1 cs :=
  ⟨_, 1, rfl, Nat.le_refl _, by unfold maxLen; omega, (fun h => by cases h), fun _ => ⟨g, 0, rfl, hg, fun j u hu => by rw [Nat.zero_add, cell_of_row w _ j _ _ _ h]; simpa using hu⟩⟩
theorem cut_even {s : ByteArray} {n : Nat} (h1 : inB (n : Int) 8 200 = true) (h : ¬ 600 < manyN s n) : cutS s (n : Int) = cutUp s n (manyN s n) := by
  by_cases h0 : s = ⟨#[]⟩
  · subst h0
    rw [cut_none]
    have h2 := inB_true h1
    have : manyN ⟨#[]⟩ n = 0 := by
      unfold manyN
      exact Nat.div_eq_of_lt (by show 0 + n - 1 < n; omega)
    rw [this]; rfl
  · exact cut_ok h0 h1 h
theorem made_row (w : World) (B M : Nat) (hB : B ≤ w.heap.size) (hM : M ≤ 600) : ∃ cs : Array Value, (Instr.makeSlice 30 (.int .i64 0) (.int .i64 (M : Int))).run Tryz.prog w = .ok (.slice (some ⟨w.heap.size, 0, none⟩) 0 M) (w.alloc (.cells cs 9)) ∧ (w.alloc (.cells cs 9)).ownsRow B 9 1 (.slice (some ⟨w.heap.size, 0, none⟩) 0 M) 0 [] := by
  obtain ⟨i0, hi, hz0, hz1, hz2⟩ := info_parts infoS7
  have h := run_make (P := Tryz.prog) w 30 9 i0 _ Tryz.underlying30 hi hz0 .i64 .i64 0 (M : Int) (by omega) (by omega) (by rw [hz2]; omega) (by omega)
  simp only [Int.toNat_natCast, Int.toNat_zero, hz1, Nat.mul_one] at h
  refine ⟨_, h, rfl, .inr ⟨w.heap.size, M, _, rfl, hB, heap_new _ _, Nat.zero_le _, by unfold maxLen; omega, ?_, rfl⟩⟩
  simp [madeCells, Value.cells]

set_option maxRecDepth 100000 in
set_option maxHeartbeats 8000000 in
theorem impl_cut_in (d : Nat) (hd : 5 ≤ d) (s : ByteArray) (hs : s.size ≤ 1099511627776) (m : Nat) (hm : 8 ≤ m) (hm2 : m ≤ 200) (M : Nat) (hM : M = manyN s m) (hM2 : M ≤ 600) (w : World) :
    CallsIn Fence.wide d Tryz.prog 27 #[.string s, .int .i64 m] w fun e w' => ∃ v, e = .returned v ∧ Texts w' w.heap.size v (cutUp s m M) ∧ Below w.heap.size w w' := by
  have h1 : 1 ≤ d := by omega
  have hquo : Int.tdiv ((s.size : Int) + (m : Int) - 1) (m : Int) = (M : Int) := by
    rw [hM]; unfold manyN
    rw [show ((s.size : Int) + (m : Int) - 1) = ((s.size + m - 1 : Nat) : Int) by omega, Int.tdiv_eq_ediv_of_nonneg (by omega)]
    exact (Int.natCast_ediv _ _).symm
  have hwM : wrap64 (M : Int) = (M : Int) := IntWalk.wrap64_in _ ⟨by omega, by omega⟩
  have hn0 : ¬ (m : Int) = 0 := by omega
  have hn1 : ((m : Int) == 0) = false := by simp; omega
  have HM := Lib.hid hM
  clear hM
  obtain ⟨W1, hW1⟩ : ∃ z, z = w.alloc (.cells #[.int .i64 M] 3) := ⟨_, rfl⟩
  have s1 : W1.heap.size = w.heap.size + 1 := by rw [hW1]; simp
  obtain ⟨cs, hmk, hrow0⟩ := made_row W1 (w.heap.size + 1) M (by omega) hM2
  rw [s1] at hmk hrow0
  obtain ⟨W2, hW2⟩ : ∃ z, z = W1.alloc (.cells cs 9) := ⟨_, rfl⟩
  rw [← hW2] at hmk hrow0
  have s2 : W2.heap.size = w.heap.size + 2 := by rw [hW2]; simp; omega
  obtain ⟨W3, hW3⟩ : ∃ z, z = W2.alloc (.cells #[.slice (some ⟨w.heap.size + 1, 0, none⟩) 0 M] 30) := ⟨_, rfl⟩
  have s3 : W3.heap.size = w.heap.size + 3 := by rw [hW3]; simp; omega
  obtain ⟨W4, hW4⟩ : ∃ z, z = W3.alloc (.cells #[.int .i64 (hashN [] : Nat)] 3) := ⟨_, rfl⟩
  have s4 : W4.heap.size = w.heap.size + 4 := by rw [hW4]; simp; omega
  have hch := chunks_in (d - 1) s (m : Int) W4
  obtain ⟨W5, hW5⟩ : ∃ z, z = W4.alloc (.cells #[.string s] 9) := ⟨_, rfl⟩
  have s5 : W5.heap.size = w.heap.size + 5 := by rw [hW5]; simp; omega
  obtain ⟨W6, hW6⟩ : ∃ z, z = W5.alloc (.cells #[.int .i64 (m : Nat)] 3) := ⟨_, rfl⟩
  have s6 : W6.heap.size = w.heap.size + 6 := by rw [hW6]; simp; omega
  rw [← hW5, ← hW6, s4] at hch
  have b1 : Below w.heap.size w W1 := by rw [hW1]; exact (Below.refl _ _).alloc (Nat.le_refl _) _
  have b2 : Below W1.heap.size W1 W2 := by rw [hW2]; exact (Below.refl _ _).alloc (Nat.le_refl _) _
  have b3 : Below W2.heap.size W2 W3 := by rw [hW3]; exact (Below.refl _ _).alloc (Nat.le_refl _) _
  have b4 : Below W3.heap.size W3 W4 := by rw [hW4]; exact (Below.refl _ _).alloc (Nat.le_refl _) _
  have b5 : Below W4.heap.size W4 W5 := by rw [hW5]; exact (Below.refl _ _).alloc (Nat.le_refl _) _
  have b6 : Below W5.heap.size W5 W6 := by rw [hW6]; exact (Below.refl _ _).alloc (Nat.le_refl _) _
  have b36 : Below W3.heap.size W3 W6 := (b4.trans (b5.mono (by omega))).trans (b6.mono (by omega))
  have b46 : Below W4.heap.size W4 W6 := b5.trans (b6.mono (by omega))
  have b26 : Below W2.heap.size W2 W6 := b3.trans (b36.mono (by omega))
  have b16 : Below W1.heap.size W1 W6 := b2.trans (b26.mono (by omega))
  have b06 : Below w.heap.size w W6 := b1.trans (b16.mono (by omega))
  have kO : W6.heap[w.heap.size]? = some (.cells #[.int .i64 M] 3 (0, 0)) := (b16.block _ (by omega)).trans (by rw [hW1]; exact heap_new _ _)
  have kL : W6.heap[w.heap.size + 2]? = some (.cells #[.slice (some ⟨w.heap.size + 1, 0, none⟩) 0 M] 30 (0, 0)) := (b36.block _ (by omega)).trans (by rw [hW3, ← s2]; exact heap_new _ _)
  have kC : W6.heap[w.heap.size + 3]? = some (.cells #[.int .i64 (hashN [] : Nat)] 3 (0, 0)) := (b46.block _ (by omega)).trans (by rw [hW4, ← s3]; exact heap_new _ _)
  have kS : W6.heap[w.heap.size + 4]? = some (.cells #[.string s] 9 (0, 0)) := (b6.block _ (by omega)).trans (by rw [hW5, ← s4]; exact heap_new _ _)
  have kT : W6.heap[w.heap.size + 5]? = some (.cells #[.int .i64 (m : Nat)] 3 (0, 0)) := by rw [hW6, ← s5]; exact heap_new _ _
  have hrow6 := (World.ownsRow.kept hrow0 (show W2.grownBy W6 none from ⟨b26.os, b26.tape, b26.output, b26.size, fun k hk _ => b26.block k hk⟩) (.inr (by simp [Value.ownBlock])))
  have kf := fun w => impl_first w
  obtain ⟨h00, hh00⟩ : ∃ z, z = hashN [] := ⟨_, rfl⟩
  rw [← hh00] at kf hW4 kC
  have HH := Lib.hid hh00
  clear hh00
  refine callsIn_of_wp_marks Tryz.func27 rfl trivial ?_ rfl
  simp only [Tryz.ntmps27, List.size_toArray, List.length_cons, List.length_nil, Nat.reduceAdd, Nat.reduceSub, Array.replicate_succ, Array.replicate_zero, List.push_toArray, List.append_toArray, List.nil_append, List.cons_append]
  have hb46 := Lib.hid b06
  clear b1 b2 b3 b4 b5 b6 b36 b46 b26 b16 b06 hrow0
  rw [hW2, hW1] at hmk
  rw [hW4, hW3, hW2, hW1] at hch
  clear hW1 hW2 hW3 hW4 hW5 hW6 s1 s2 s3 s4 s5
  gi_wp2_with (first | (gi_at_call 29; refine (callsIn_wide.2 (kf _)).mono ?_; rintro e w' ⟨rfl, rfl⟩) | (gi_at_call 57; refine hch.mono ?_; rintro e w' ⟨rfl, hw'⟩; cases hw'))
  simp only [Nat.add_assoc, Nat.reduceAdd]
  clear hmk hch kf
  refine wpIn_rangeFunc_ownG rfl h1 (gf := 95) (lb := #[.pointer (some ⟨w.heap.size + 4, 0, none⟩), .pointer (some ⟨w.heap.size + 5, 0, none⟩)]) rfl trivial (enters_of Tryz.func95 (by kernel_rfl) rfl)
    (chunks_stops (d - 1) (by omega) (w.heap.size + 4) s hs m (by omega) hm2 M HM.out.symm hM2 _ (by omega) (tcr (Lib.hid kS) 0) (tcr (Lib.hid kT) 0)) Two.trans (Two.put (by omega)) (Below.refl _ _) (fun _ => rfl)
    (fun pre W => (∃ v, Boxed W (w.heap.size + 2) 30 v ∧ W.ownsRow (w.heap.size + 1) 9 1 v pre.length ((cutL s m M (pre.map Fin.val)).2.map Value.string) ∧ (∃ g cap, v = .slice (some ⟨g, 0, none⟩) pre.length cap ∧ (g = w.heap.size + 1 ∨ w.heap.size + 6 ≤ g))) ∧ (Boxed W (w.heap.size + 3) 3 (.int .i64 ((cutL s m M (pre.map Fin.val)).1 : Nat)) ∧ (Boxed W w.heap.size 3 (.int .i64 M) ∧ Below w.heap.size W6 W)))
    (fun _ _ _ => False)
    (OwnFrom.and (Own.from (holdsRow_own (w.heap.size + 1) (w.heap.size + 2) 30 9 1 (fun pre : List (Fin M) => pre.length) (fun pre => (cutL s m M (pre.map Fin.val)).2.map Value.string) (fun pre v => ∃ g cap, v = .slice (some ⟨g, 0, none⟩) pre.length cap ∧ (g = w.heap.size + 1 ∨ w.heap.size + 6 ≤ g))) _) (OwnFrom.and (Own.from (boxed_own _ _ (fun pre : List (Fin M) => .int .i64 ((cutL s m M (pre.map Fin.val)).1 : Nat))) _) (OwnFrom.and (Own.from (boxed_own _ _ (fun _ : List (Fin M) => .int .i64 M)) _) (ownFrom_below' ⟨by omega, by omega⟩))))
    (fun _ _ _ _ _ hs _ _ => hs)
    ⟨⟨_, kL, hrow6, _, _, rfl, .inl rfl⟩, by rw [HH.out] at kC; exact kC, kO, Below.refl _ _⟩
    ?a1 ?assign ?body ?done ?stop
  case assign =>
    intro l x W K hK
    unfold partV
    gi_wp2
    exact hK
  case body =>
    rintro l pre x W ⟨⟨v, hv, hrow, g, cap, rfl, hg⟩, hC, hO, hB⟩ hlt
    have hsz := hB.size
    rw [s6] at hsz
    obtain ⟨cur, KG0⟩ : ∃ cur, W.heap[g]? = some (.cells cur 9 (0, 0)) := by
      rcases hrow.2 with ⟨h, _⟩ | ⟨g', cap', cur, hv', _, hh, _⟩
      · cases h
      · cases hv'; exact ⟨cur, hh⟩
    have KG := Lib.hid KG0
    have LG : Hid (g < W.heap.size) := Lib.hid (Array.getElem?_eq_some_iff.1 KG0).1
    have GT := Lib.hid (got_of_row hrow)
    have KL : Hid (W.heap[w.heap.size + 2]? = some (.cells #[.slice (some ⟨g, 0, none⟩) pre.length cap] 30 (0, 0))) := Lib.hid hv
    have LL : Hid (w.heap.size + 2 < W.heap.size) := Lib.hid (by omega)
    have LC : Hid (w.heap.size + 3 < W.heap.size) := Lib.hid (by omega)
    have LO : Hid (w.heap.size < W.heap.size) := Lib.hid (by omega)
    have LS : Hid (w.heap.size + 4 < W.heap.size) := Lib.hid (by omega)
    have LT : Hid (w.heap.size + 4 + 1 < W.heap.size) := Lib.hid (by omega)
    have KO : Hid (W.heap[w.heap.size]? = some (.cells #[.int .i64 M] 3 (0, 0))) := Lib.hid hO
    obtain ⟨oS, hoS⟩ : ∃ o, o = W.heap[w.heap.size + 4]? := ⟨_, rfl⟩
    obtain ⟨oT, hoT⟩ : ∃ o, o = W.heap[w.heap.size + 4 + 1]? := ⟨_, rfl⟩
    have KS : Hid (W.heap[w.heap.size + 4]? = oS) := Lib.hid hoS.symm
    have KT : Hid (W.heap[w.heap.size + 4 + 1]? = oT) := Lib.hid hoT.symm
    have HoS := Lib.hid hoS
    have HoT := Lib.hid hoT
    clear hoS hoT
    have BW := Lib.hid hB
    have KK : Hid (KeepsOthers W W) := Lib.hid (KeepsOthers.refl W)
    have BS : Hid (w.heap.size + 6 ≤ W.heap.size) := Lib.hid (by omega)
    have hcl := cutL_lt s m M (pre.map Fin.val)
    obtain ⟨c, hcc⟩ : ∃ c, c = (cutL s m M (pre.map Fin.val)).1 := ⟨_, rfl⟩
    rw [← hcc] at hcl hC
    have HC := Lib.hid hcc
    have KC : Hid (W.heap[w.heap.size + 3]? = some (.cells #[.int .i64 (c : Nat)] 3 (0, 0))) := Lib.hid hC
    have hps := part_size (s := s) (n := m) (k := x.val) (by omega) (by rw [← HM.out]; exact x.isLt)
    obtain ⟨pt, hpt⟩ : ∃ p, p = partB s m x.val := ⟨_, rfl⟩
    rw [← hpt] at hps
    have HPT := Lib.hid hpt
    have hll := link_lt (c : Int) pt
    have klink := fun w => impl_link (c : Int) pt w (by omega) (by omega)
    obtain ⟨lk, hlk⟩ : ∃ z, z = linkN (c : Int) pt := ⟨_, rfl⟩
    rw [← hlk] at hll klink
    have HLK := Lib.hid hlk
    have hxl := x.isLt
    obtain ⟨pc, hpc⟩ : ∃ p : Pc, p = ⟨(x.val : Int) + 1, (M : Int), pt, (lk : Nat)⟩ := ⟨_, rfl⟩
    have kput := fun w => impl_putPiece pc w (by rw [hpc]; exact ⟨⟨by show _ ≤ (x.val : Int) + 1; omega, by show (x.val : Int) + 1 ≤ _; omega⟩, ⟨by show _ ≤ (M : Int); omega, by show (M : Int) ≤ _; omega⟩, by show pt.size ≤ _; unfold maxLen; omega, ⟨by show _ ≤ ((lk : Nat) : Int); omega, by show ((lk : Nat) : Int) ≤ _; omega⟩⟩)
    have HPC := Lib.hid hpc
    have hpv : pcV pc = .agg #[.int .i64 ((x.val : Int) + 1), .int .i64 M, .string pt, .int .i64 (lk : Nat)] := by rw [hpc]; rfl
    rw [hpv] at kput
    have hgw : w.heap.size + 1 ≤ g := by omega
    have hgne : g ≠ w.heap.size + 2 ∧ g ≠ w.heap.size + 3 ∧ g ≠ w.heap.size ∧ g ≠ w.heap.size + 4 ∧ g ≠ w.heap.size + 4 + 1 := by omega
    rw [← hpt]
    clear hv hrow hC hO hB hsz KG0 hcc hpt hlk hpc hpv
    have fC := tcr KC 0
    gi_wp2_with (refine ⟨fun _ => (by omega), ?_⟩; gi_at_call 58; refine (CallsIn.inRound l (callsIn_wide.2 (klink _))).mono ?_; rintro e w1 ⟨rfl, hb⟩; refine Hid.out ?_)
    refine Lib.hid ?_
    clear fC klink
    replace KG := tkb hb LG KG
    replace LG := tlz LG hb.size
    replace KK := Lib.hid (KK.out.trans (ko_below hb))
    replace BS := Lib.hid (Nat.le_trans BS.out hb.size)
    replace KL := tkb hb LL KL
    replace KC := tkb hb LC KC
    replace KO := tkb hb LO KO
    replace KS := tkb hb LS KS
    replace KT := tkb hb LT KT
    replace LL := tlz LL hb.size
    replace LC := tlz LC hb.size
    replace LO := tlz LO hb.size
    replace LS := tlz LS hb.size
    replace LT := tlz LT hb.size
    replace GT := Lib.hid (GT.out.later hb)
    have BW2 := Lib.hid (BW.out.trans (hb.mono (by have := BW.out.size; omega)))
    clear BW hb
    have fC := tcr KC 0
    have zC := tfr KC 0
    gi_wp2
    clear fC zC
    obtain ⟨z0, hz0⟩ : ∃ z, z = (w1.setCell ⟨w.heap.size + 3, 0, none⟩ (.int .i64 (lk : Nat))).drew := ⟨_, rfl⟩
    have zs : z0.heap.size = w1.heap.size := by rw [hz0]; exact World.size_setCell _ _ _
    replace KC : Hid (z0.heap[w.heap.size + 3]? = some (.cells #[.int .i64 (lk : Nat)] 3 (0, 0))) := Lib.hid (by rw [hz0]; exact heap_setCell_same w1 (w.heap.size + 3) 0 _ _ _ KC.out)
    replace KL := Lib.hid ((show z0.heap[w.heap.size + 2]? = _ by rw [hz0]; exact Below.heap_setCell w1 _ _ _ (by simp)).trans KL.out)
    replace KO := Lib.hid ((show z0.heap[w.heap.size]? = _ by rw [hz0]; exact Below.heap_setCell w1 _ _ _ (by simp)).trans KO.out)
    replace KS := Lib.hid ((show z0.heap[w.heap.size + 4]? = _ by rw [hz0]; exact Below.heap_setCell w1 _ _ _ (by simp)).trans KS.out)
    replace KT := Lib.hid ((show z0.heap[w.heap.size + 4 + 1]? = _ by rw [hz0]; exact Below.heap_setCell w1 _ _ _ (by simp)).trans KT.out)
    replace KG := Lib.hid ((show z0.heap[g]? = _ by rw [hz0]; exact Below.heap_setCell w1 _ _ _ (by simpa using hgne.2.1)).trans KG.out)
    replace GT : Hid (Got z0 (w.heap.size + 1) 9 1 g pre.length cap ((cutL s m M (pre.map Fin.val)).2.map Value.string)) := Lib.hid (by rw [hz0]; exact GT.out.set (b := w.heap.size + 3) (o := 0) (by omega) (.int .i64 (lk : Nat)))
    replace KK : Hid (KeepsOthers W z0) := Lib.hid (by rw [hz0]; exact (KK.out.trans (KeepsOthers.setCell _ _ _)).trans (KeepsOthers.drew _))
    have BW : Hid (Below w.heap.size W6 z0) := Lib.hid (by rw [hz0]; exact (BW2.out.setCell (p := ⟨w.heap.size + 3, 0, none⟩) (Nat.le_add_right _ _) _).drew)
    replace LL := tlz LL (Nat.le_of_eq zs.symm)
    replace LC := tlz LC (Nat.le_of_eq zs.symm)
    replace LO := tlz LO (Nat.le_of_eq zs.symm)
    replace LS := tlz LS (Nat.le_of_eq zs.symm)
    replace LT := tlz LT (Nat.le_of_eq zs.symm)
    replace LG := tlz LG (Nat.le_of_eq zs.symm)
    replace BS : Hid (w.heap.size + 6 ≤ z0.heap.size) := Lib.hid (by rw [zs]; exact BS.out)
    clear BW2 zs
    refine region_round (by kernel_rfl) (fun ⟨_, _, h⟩ => h) (by kernel_rfl) (S := (fun w' => w'.cell? ⟨w.heap.size, 0, none⟩ = some (.int .i64 M) ∧ w'.cell? ⟨w.heap.size + 3, 0, none⟩ = some (.int .i64 (lk : Nat)))) (by rw [← hz0]; exact ⟨tcr KO 0, tcr KC 0⟩) (fun hHeld => ?_)
    rw [← hz0] at hHeld ⊢
    clear hz0
    refine tk0 1 ?_
    refine tk0 3 ?_
    refine tk 2 (v := ?_) ?_ ?_; rotate_left
    · refine Or.inl ⟨by rfl, ?_⟩; intro w hSw; obtain ⟨hO, hC⟩ := hSw; go_simp; first | done | with_reducible rfl
    refine tk 4 (v := ?_) ?_ ?_; rotate_left
    · refine Or.inl ⟨by rfl, ?_⟩; intro w hSw; obtain ⟨hO, hC⟩ := hSw; go_simp; first | done | with_reducible rfl
    refine tk0 5 ?_
    refine rd2 0 6 (fun K hK => ?_) (fun K hK => ?_)
    · have fL := tcr KL 0
      go_simp
      clear fL
      refine hK.out _ _ ⟨tcr KO 0, tcr KC 0⟩ (fun hHeld => ?_)
      clear hK K
      refine rd1 6 (fun K hK => ?_)
      go_simp
      go_at_call 59
      refine (kput _).mono ?_
      rintro e z1 ⟨rfl, hb⟩
      replace KL := tkb hb LL KL
      replace LL := tlz LL hb.size
      replace KC := tkb hb LC KC
      replace LC := tlz LC hb.size
      replace KO := tkb hb LO KO
      replace LO := tlz LO hb.size
      replace KS := tkb hb LS KS
      replace LS := tlz LS hb.size
      replace KT := tkb hb LT KT
      replace LT := tlz LT hb.size
      replace KG := tkb hb LG KG
      replace LG := tlz LG hb.size
      replace GT := Lib.hid (GT.out.later hb)
      have BW2 := Lib.hid (BW.out.trans (hb.mono (by have := BW.out.size; omega)))
      clear BW
      have BW := BW2
      clear BW2
      replace KK := Lib.hid (KK.out.trans (ko_below hb))
      replace BS := Lib.hid (Nat.le_trans BS.out hb.size)
      clear hb
      go_wp2_with fail
      refine hK.out _ _ ⟨tcr KO 0, tcr KC 0⟩ (fun hHeld => ?_)
      clear hK K
      refine rd1 7 (fun K hK => ?_)
      go_simp
      obtain ⟨zB, hzB⟩ : ∃ z, z = z1.alloc (.cells #[.string (pcB pc)] 9) := ⟨_, rfl⟩
      have bB : Below z1.heap.size z1 zB := by rw [hzB]; exact (Below.refl _ _).alloc (Nat.le_refl _) _
      have KE : Hid (zB.heap[z1.heap.size]? = some (.cells #[.string (pcB pc)] 9 (0, 0))) := Lib.hid (by rw [hzB]; exact heap_new _ _)
      have LE : Hid (z1.heap.size < zB.heap.size) := Lib.hid (by rw [hzB]; simp)
      rw [← hzB]
      clear hzB
      replace KL := tkb bB LL KL
      replace LL := tlz LL bB.size
      replace KC := tkb bB LC KC
      replace LC := tlz LC bB.size
      replace KO := tkb bB LO KO
      replace LO := tlz LO bB.size
      replace KS := tkb bB LS KS
      replace LS := tlz LS bB.size
      replace KT := tkb bB LT KT
      replace LT := tlz LT bB.size
      replace KG := tkb bB LG KG
      replace LG := tlz LG bB.size
      replace GT := Lib.hid (GT.out.later bB)
      have BW2 := Lib.hid (BW.out.trans (bB.mono (by have := BW.out.size; omega)))
      clear BW
      have BW := BW2
      clear BW2
      replace KK := Lib.hid (KK.out.trans (ko_below bB))
      replace BS := Lib.hid (Nat.le_trans BS.out bB.size)
      clear bB
      refine hK.out _ _ ⟨tcr KO 0, tcr KC 0⟩ (fun hHeld => ?_)
      clear hK K
      refine rd1 8 (fun K hK => ?_)
      obtain ⟨i0, p1, p2, p3, p4⟩ := info_parts infoS7
      refine step_app rfl (.tmp 36) (.tmp 43) 30 rfl 9 i0 _ 1 16 Tryz.underlying30 p1 p2 p3 p4 rfl (by decide) g pre.length cap (w.heap.size + 1) _ GT.out (by simp [Act.eval]) _ (by simp [Act.eval]) zB.heap.size 1 [.string (pcB pc)] (one_rawS (cs := [.string (pcB pc)]) KE.out LE.out) (by simp) (by simp [Value.oneCell']) (by unfold maxLen; omega) (by omega) ?_
      intro g1 c1 z4 r1 e1 got1
      replace KK := Lib.hid (KK.out.trans (KeepsOthers.of_grownBy r1 (fun j o ej hj => by cases ej; rw [KG.out] at hj; cases hj; rfl)))
      replace KL := tkg r1 LL KL (by simp; omega)
      replace KC := tkg r1 LC KC (by simp; omega)
      replace KO := tkg r1 LO KO (by simp; omega)
      replace KS := tkg r1 LS KS (by simp; omega)
      replace KT := tkg r1 LT KT (by simp; omega)
      replace BW := Lib.hid (BW.out.grown r1 (by have := BW.out.size; omega) (fun j ej => by cases ej; omega))
      have GT1 := Lib.hid got1
      have hg1 : g1 = w.heap.size + 1 ∨ w.heap.size + 6 ≤ g1 := (by
        rcases e1 with rfl | e1
        · exact hg
        · right; have := BS.out; omega)
      clear r1 e1 got1 GT KG p1 p2 p3 p4
      refine hK.out _ _ ⟨tcr KO 0, tcr KC 0⟩ (fun hHeld => ?_)
      clear hK K
      refine rd1 9 (fun K hK => ?_)
      have fL := tcr KL 0
      have zL := tfr KL 0
      go_simp
      clear fL zL
      refine hK.out _ _ ⟨tcr (Lib.hid ((Below.heap_setCell _ _ _ _ (by simp)).trans KO.out)) 0, tcr (Lib.hid ((Below.heap_setCell _ _ _ _ (by simp)).trans KC.out)) 0⟩ (fun hHeld => ?_)
      clear hK K
      refine wpAnyH_done (by kernel_rfl) ?_ _
      clear hHeld
      have hlen1 : (pre ++ [x]).length = pre.length + 1 := by simp
      have hmap1 : cutL s m M ((pre ++ [x]).map Fin.val) = (lk, (cutL s m M (pre.map Fin.val)).2 ++ [pcB pc]) := by
        rw [List.map_append, show [x].map Fin.val = [x.val] from rfl, cutL_snoc]
        unfold stepC
        rw [← HC.out, ← HPT.out, ← HLK.out, ← HPC.out]
      refine ⟨(KK.out.trans (KeepsOthers.setCell _ _ _)).from _, ⟨(Below.heap_setCell _ _ _ _ (by simp)).trans (KS.out.trans HoS.out), (Below.heap_setCell _ _ _ _ (by simp)).trans (KT.out.trans HoT.out)⟩, ⟨_, heap_setCell_same _ _ 0 _ _ _ KL.out, ?_, g1, c1, by rw [hlen1], hg1⟩, by rw [hmap1]; exact (Below.heap_setCell _ _ _ _ (by simp)).trans KC.out, (Below.heap_setCell _ _ _ _ (by simp)).trans KO.out, BW.out.setCell (p := ⟨w.heap.size + 2, 0, none⟩) (Nat.le_add_right _ _) _⟩
      rw [hmap1, hlen1, List.map_append]
      exact (row_of_gotS GT1.out (by omega)).kept (grown_set _ ⟨w.heap.size + 2, 0, none⟩ _) (.inr (by simp [Value.ownBlock]; omega))
    · go_simp
      go_at_call 59
      refine (kput _).mono ?_
      rintro e z1 ⟨rfl, hb⟩
      replace KL := tkb hb LL KL
      replace LL := tlz LL hb.size
      replace KC := tkb hb LC KC
      replace LC := tlz LC hb.size
      replace KO := tkb hb LO KO
      replace LO := tlz LO hb.size
      replace KS := tkb hb LS KS
      replace LS := tlz LS hb.size
      replace KT := tkb hb LT KT
      replace LT := tlz LT hb.size
      replace KG := tkb hb LG KG
      replace LG := tlz LG hb.size
      replace GT := Lib.hid (GT.out.later hb)
      have BW2 := Lib.hid (BW.out.trans (hb.mono (by have := BW.out.size; omega)))
      clear BW
      have BW := BW2
      clear BW2
      replace KK := Lib.hid (KK.out.trans (ko_below hb))
      replace BS := Lib.hid (Nat.le_trans BS.out hb.size)
      clear hb
      go_wp2_with fail
      refine hK.out _ _ ⟨tcr KO 0, tcr KC 0⟩ (fun hHeld => ?_)
      clear hK K
      refine rd2 0 7 (fun K hK => ?_) (fun K hK => ?_)
      · have fL := tcr KL 0
        go_simp
        clear fL
        refine hK.out _ _ ⟨tcr KO 0, tcr KC 0⟩ (fun hHeld => ?_)
        clear hK K
        refine rd1 7 (fun K hK => ?_)
        go_simp
        obtain ⟨zB, hzB⟩ : ∃ z, z = z1.alloc (.cells #[.string (pcB pc)] 9) := ⟨_, rfl⟩
        have bB : Below z1.heap.size z1 zB := by rw [hzB]; exact (Below.refl _ _).alloc (Nat.le_refl _) _
        have KE : Hid (zB.heap[z1.heap.size]? = some (.cells #[.string (pcB pc)] 9 (0, 0))) := Lib.hid (by rw [hzB]; exact heap_new _ _)
        have LE : Hid (z1.heap.size < zB.heap.size) := Lib.hid (by rw [hzB]; simp)
        rw [← hzB]
        clear hzB
        replace KL := tkb bB LL KL
        replace LL := tlz LL bB.size
        replace KC := tkb bB LC KC
        replace LC := tlz LC bB.size
        replace KO := tkb bB LO KO
        replace LO := tlz LO bB.size
        replace KS := tkb bB LS KS
        replace LS := tlz LS bB.size
        replace KT := tkb bB LT KT
        replace LT := tlz LT bB.size
        replace KG := tkb bB LG KG
        replace LG := tlz LG bB.size
        replace GT := Lib.hid (GT.out.later bB)
        have BW2 := Lib.hid (BW.out.trans (bB.mono (by have := BW.out.size; omega)))
        clear BW
        have BW := BW2
        clear BW2
        replace KK := Lib.hid (KK.out.trans (ko_below bB))
        replace BS := Lib.hid (Nat.le_trans BS.out bB.size)
        clear bB
        refine hK.out _ _ ⟨tcr KO 0, tcr KC 0⟩ (fun hHeld => ?_)
        clear hK K
        refine rd1 8 (fun K hK => ?_)
        obtain ⟨i0, p1, p2, p3, p4⟩ := info_parts infoS7
        refine step_app rfl (.tmp 36) (.tmp 43) 30 rfl 9 i0 _ 1 16 Tryz.underlying30 p1 p2 p3 p4 rfl (by decide) g pre.length cap (w.heap.size + 1) _ GT.out (by simp [Act.eval]) _ (by simp [Act.eval]) zB.heap.size 1 [.string (pcB pc)] (one_rawS (cs := [.string (pcB pc)]) KE.out LE.out) (by simp) (by simp [Value.oneCell']) (by unfold maxLen; omega) (by omega) ?_
        intro g1 c1 z4 r1 e1 got1
        replace KK := Lib.hid (KK.out.trans (KeepsOthers.of_grownBy r1 (fun j o ej hj => by cases ej; rw [KG.out] at hj; cases hj; rfl)))
        replace KL := tkg r1 LL KL (by simp; omega)
        replace KC := tkg r1 LC KC (by simp; omega)
        replace KO := tkg r1 LO KO (by simp; omega)
        replace KS := tkg r1 LS KS (by simp; omega)
        replace KT := tkg r1 LT KT (by simp; omega)
        replace BW := Lib.hid (BW.out.grown r1 (by have := BW.out.size; omega) (fun j ej => by cases ej; omega))
        have GT1 := Lib.hid got1
        have hg1 : g1 = w.heap.size + 1 ∨ w.heap.size + 6 ≤ g1 := (by
          rcases e1 with rfl | e1
          · exact hg
          · right; have := BS.out; omega)
        clear r1 e1 got1 GT KG p1 p2 p3 p4
        refine hK.out _ _ ⟨tcr KO 0, tcr KC 0⟩ (fun hHeld => ?_)
        clear hK K
        refine rd1 9 (fun K hK => ?_)
        have fL := tcr KL 0
        have zL := tfr KL 0
        go_simp
        clear fL zL
        refine hK.out _ _ ⟨tcr (Lib.hid ((Below.heap_setCell _ _ _ _ (by simp)).trans KO.out)) 0, tcr (Lib.hid ((Below.heap_setCell _ _ _ _ (by simp)).trans KC.out)) 0⟩ (fun hHeld => ?_)
        clear hK K
        refine wpAnyH_done (by kernel_rfl) ?_ _
        clear hHeld
        have hlen1 : (pre ++ [x]).length = pre.length + 1 := by simp
        have hmap1 : cutL s m M ((pre ++ [x]).map Fin.val) = (lk, (cutL s m M (pre.map Fin.val)).2 ++ [pcB pc]) := by
          rw [List.map_append, show [x].map Fin.val = [x.val] from rfl, cutL_snoc]
          unfold stepC
          rw [← HC.out, ← HPT.out, ← HLK.out, ← HPC.out]
        refine ⟨(KK.out.trans (KeepsOthers.setCell _ _ _)).from _, ⟨(Below.heap_setCell _ _ _ _ (by simp)).trans (KS.out.trans HoS.out), (Below.heap_setCell _ _ _ _ (by simp)).trans (KT.out.trans HoT.out)⟩, ⟨_, heap_setCell_same _ _ 0 _ _ _ KL.out, ?_, g1, c1, by rw [hlen1], hg1⟩, by rw [hmap1]; exact (Below.heap_setCell _ _ _ _ (by simp)).trans KC.out, (Below.heap_setCell _ _ _ _ (by simp)).trans KO.out, BW.out.setCell (p := ⟨w.heap.size + 2, 0, none⟩) (Nat.le_add_right _ _) _⟩
        rw [hmap1, hlen1, List.map_append]
        exact (row_of_gotS GT1.out (by omega)).kept (grown_set _ ⟨w.heap.size + 2, 0, none⟩ _) (.inr (by simp [Value.ownBlock]; omega))
      · go_simp
        obtain ⟨zB, hzB⟩ : ∃ z, z = z1.alloc (.cells #[.string (pcB pc)] 9) := ⟨_, rfl⟩
        have bB : Below z1.heap.size z1 zB := by rw [hzB]; exact (Below.refl _ _).alloc (Nat.le_refl _) _
        have KE : Hid (zB.heap[z1.heap.size]? = some (.cells #[.string (pcB pc)] 9 (0, 0))) := Lib.hid (by rw [hzB]; exact heap_new _ _)
        have LE : Hid (z1.heap.size < zB.heap.size) := Lib.hid (by rw [hzB]; simp)
        rw [← hzB]
        clear hzB
        replace KL := tkb bB LL KL
        replace LL := tlz LL bB.size
        replace KC := tkb bB LC KC
        replace LC := tlz LC bB.size
        replace KO := tkb bB LO KO
        replace LO := tlz LO bB.size
        replace KS := tkb bB LS KS
        replace LS := tlz LS bB.size
        replace KT := tkb bB LT KT
        replace LT := tlz LT bB.size
        replace KG := tkb bB LG KG
        replace LG := tlz LG bB.size
        replace GT := Lib.hid (GT.out.later bB)
        have BW2 := Lib.hid (BW.out.trans (bB.mono (by have := BW.out.size; omega)))
        clear BW
        have BW := BW2
        clear BW2
        replace KK := Lib.hid (KK.out.trans (ko_below bB))
        replace BS := Lib.hid (Nat.le_trans BS.out bB.size)
        clear bB
        refine hK.out _ _ ⟨tcr KO 0, tcr KC 0⟩ (fun hHeld => ?_)
        clear hK K
        refine rd1 0 (fun K hK => ?_)
        have fL := tcr KL 0
        go_simp
        clear fL
        refine hK.out _ _ ⟨tcr KO 0, tcr KC 0⟩ (fun hHeld => ?_)
        clear hK K
        refine rd1 8 (fun K hK => ?_)
        obtain ⟨i0, p1, p2, p3, p4⟩ := info_parts infoS7
        refine step_app rfl (.tmp 36) (.tmp 43) 30 rfl 9 i0 _ 1 16 Tryz.underlying30 p1 p2 p3 p4 rfl (by decide) g pre.length cap (w.heap.size + 1) _ GT.out (by simp [Act.eval]) _ (by simp [Act.eval]) zB.heap.size 1 [.string (pcB pc)] (one_rawS (cs := [.string (pcB pc)]) KE.out LE.out) (by simp) (by simp [Value.oneCell']) (by unfold maxLen; omega) (by omega) ?_
        intro g1 c1 z4 r1 e1 got1
        replace KK := Lib.hid (KK.out.trans (KeepsOthers.of_grownBy r1 (fun j o ej hj => by cases ej; rw [KG.out] at hj; cases hj; rfl)))
        replace KL := tkg r1 LL KL (by simp; omega)
        replace KC := tkg r1 LC KC (by simp; omega)
        replace KO := tkg r1 LO KO (by simp; omega)
        replace KS := tkg r1 LS KS (by simp; omega)
        replace KT := tkg r1 LT KT (by simp; omega)
        replace BW := Lib.hid (BW.out.grown r1 (by have := BW.out.size; omega) (fun j ej => by cases ej; omega))
        have GT1 := Lib.hid got1
        have hg1 : g1 = w.heap.size + 1 ∨ w.heap.size + 6 ≤ g1 := (by
          rcases e1 with rfl | e1
          · exact hg
          · right; have := BS.out; omega)
        clear r1 e1 got1 GT KG p1 p2 p3 p4
        refine hK.out _ _ ⟨tcr KO 0, tcr KC 0⟩ (fun hHeld => ?_)
        clear hK K
        refine rd1 9 (fun K hK => ?_)
        have fL := tcr KL 0
        have zL := tfr KL 0
        go_simp
        clear fL zL
        refine hK.out _ _ ⟨tcr (Lib.hid ((Below.heap_setCell _ _ _ _ (by simp)).trans KO.out)) 0, tcr (Lib.hid ((Below.heap_setCell _ _ _ _ (by simp)).trans KC.out)) 0⟩ (fun hHeld => ?_)
        clear hK K
        refine wpAnyH_done (by kernel_rfl) ?_ _
        clear hHeld
        have hlen1 : (pre ++ [x]).length = pre.length + 1 := by simp
        have hmap1 : cutL s m M ((pre ++ [x]).map Fin.val) = (lk, (cutL s m M (pre.map Fin.val)).2 ++ [pcB pc]) := by
          rw [List.map_append, show [x].map Fin.val = [x.val] from rfl, cutL_snoc]
          unfold stepC
          rw [← HC.out, ← HPT.out, ← HLK.out, ← HPC.out]
        refine ⟨(KK.out.trans (KeepsOthers.setCell _ _ _)).from _, ⟨(Below.heap_setCell _ _ _ _ (by simp)).trans (KS.out.trans HoS.out), (Below.heap_setCell _ _ _ _ (by simp)).trans (KT.out.trans HoT.out)⟩, ⟨_, heap_setCell_same _ _ 0 _ _ _ KL.out, ?_, g1, c1, by rw [hlen1], hg1⟩, by rw [hmap1]; exact (Below.heap_setCell _ _ _ _ (by simp)).trans KC.out, (Below.heap_setCell _ _ _ _ (by simp)).trans KO.out, BW.out.setCell (p := ⟨w.heap.size + 2, 0, none⟩) (Nat.le_add_right _ _) _⟩
        rw [hmap1, hlen1, List.map_append]
        exact (row_of_gotS GT1.out (by omega)).kept (grown_set _ ⟨w.heap.size + 2, 0, none⟩ _) (.inr (by simp [Value.ownBlock]; omega))
  case done =>
    rintro D ys W hD hys ⟨⟨v, hv, hrow, g, cap, rfl, hg⟩, hC, hO, hB⟩ hK
    have hc := hv.cell
    rw [hys] at hrow
    have hcl : (cutL s m M (List.range M)).2 = cutUp s m M := by rw [HM.out, cutL_range]
    have hyl : ys.length = (cutUp s m M).length := by have := congrArg List.length hys; rw [cutUp_len]; simpa using this
    gi_wp2
    refine ⟨by simp, .inl ⟨_, _, rfl, run_takeDeferred hK, ?_⟩⟩
    refine ⟨_, results_tmp rfl _ _ _, _, rfl, ?_, (hb46.out.trans hB).trans (belowK_b (w := w) (Nat.le_refl _) W D _ _ (by omega) hK rfl rfl)⟩
    rw [hcl, hyl] at hrow
    exact ownsRow_lower (ownsRow_putObj hrow _ hK rfl) (by omega)
  case stop =>
    rintro D c pre W _ _ h _
    exact h.elim
theorem impl_cut (s : ByteArray) (size : Int) (w : World) (hs : s.size ≤ 1099511627776) :
    Calls Tryz.prog 27 #[.string s, .int .i64 size] w fun e w' => ∃ v, e = .returned v ∧ Texts w' w.heap.size v (cutS s size) ∧ Below w.heap.size w w' := by
  cases hin : inB size 8 200
  · have HR := Lib.hid (cut_size (s := s) hin)
    have hor : size < 8 ∨ (¬ size < 8 ∧ 200 < size) := by
      rcases (show size < 8 ∨ 200 < size ∨ (8 ≤ size ∧ size ≤ 200) by omega) with h | h | h
      · exact .inl h
      · exact .inr ⟨by omega, h⟩
      · exfalso; unfold inB at hin; simp at hin; omega
    clear hin
    rcases hor with h | ⟨h, h'⟩
    · go_enter Tryz.func27, Tryz.ntmps27
      go_wp2_with fail
      go_ret
      exact ⟨_, rfl, by rw [HR.out]; exact Texts.nil _ _, Below.refl _ _⟩
    · go_enter Tryz.func27, Tryz.ntmps27
      go_wp2_with fail
      go_ret
      exact ⟨_, rfl, by rw [HR.out]; exact Texts.nil _ _, Below.refl _ _⟩
  · have hb := inB_true hin
    obtain ⟨m, rfl⟩ := Int.eq_ofNat_of_zero_le (show 0 ≤ size by omega)
    by_cases hmany : 600 < manyN s m
    · have HR := Lib.hid (cut_many (s := s) hmany)
      obtain ⟨M, hM⟩ : ∃ z, z = manyN s m := ⟨_, rfl⟩
      have hquo : Int.tdiv ((s.size : Int) + (m : Int) - 1) (m : Int) = (M : Int) := by
        rw [hM]; unfold manyN
        rw [show ((s.size : Int) + (m : Int) - 1) = ((s.size + m - 1 : Nat) : Int) by omega, Int.tdiv_eq_ediv_of_nonneg (by omega)]
        exact (Int.natCast_ediv _ _).symm
      have hMle : M ≤ s.size + m := by rw [hM]; unfold manyN; exact Nat.le_trans (Nat.div_le_self _ _) (by omega)
      have hwM : wrap64 (M : Int) = (M : Int) := IntWalk.wrap64_in _ ⟨by omega, by omega⟩
      have hn0 : ¬ (m : Int) = 0 := by omega
      have hn1 : ((m : Int) == 0) = false := by simp; omega
      rw [← hM] at hmany
      clear hM hin
      go_enter Tryz.func27, Tryz.ntmps27
      go_wp2_with fail
      go_ret
      exact ⟨_, rfl, by rw [HR.out]; exact Texts.nil _ _, (Below.refl _ _).alloc (Nat.le_refl _) _⟩
    · rw [cut_even hin hmany]
      exact callsIn_wide.1 (impl_cut_in 5 (Nat.le_refl _) s hs m (by omega) (by omega) (manyN s m) rfl (by omega) w)
end Go.Proofs.YtdpjdjkfedcojaaGreat
