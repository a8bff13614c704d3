/- What impl.Crc, impl.seal, impl.Sealed and impl.Opened answer. Condition: a text of at most 2^40 bytes. -/
import Derived.Test.YtkkmjlpeahkiaaaImplCrc
import Derived.Test.YtkkmjlpeahkiaaaSeal
import Derived.ArgAppend
namespace Go.Proofs.Ytkkmjlpeahkiaaa
open Go.RowKit
set_option linter.unusedVariables false

/-- The places behind a row's end, up to its capacity, may be written. -/
def Spare (w : World) (g n cap : Nat) : Prop := ∀ j, n ≤ j → j < cap → (w.cell? ⟨g, j, none⟩).isSome = true ∧ w.frozen? ⟨g, j, none⟩ = false
theorem heap_drew_alloc (w : World) (o : Obj) : (w.drew.alloc o).heap[w.heap.size]? = some o := by
  show (w.heap.push o)[w.heap.size]? = some o
  simp
/-- A text as a row of bytes. -/
theorem conv_bytes (s : ByteArray) (w : World) : ∃ cap w1, (convert 9 45 (.string s)).run Try.prog w = .ok (.slice (some ⟨w.heap.size, 0, none⟩) s.size cap) w1 ∧
    RowAt w1 w.heap.size s.data.toList ∧ Below w.heap.size w w1 ∧ w.heap.size < w1.heap.size ∧ s.size ≤ cap ∧ Spare w1 w.heap.size s.size cap := by
  have hge := grownCap_ge w s.size 0 5
  refine ⟨_, _, run_bytes_of_string w 9 45 5 s Try.underlying9 Try.underlying45 Try.underlying5, fun j h => ?_, ((Below.refl _ _).drew).alloc (Nat.le_refl _) _, by simp, hge, fun j h1 h2 => ⟨?_, ?_⟩⟩
  · have hj : j < s.size := by simpa using h
    rw [World.cell?, heap_drew_alloc]
    simp [bytesRow, Array.getElem?_append, hj]
  · rw [World.cell?, heap_drew_alloc]
    have h3 : ¬ j < s.size := by omega
    simp [bytesRow, Array.getElem?_append, h3]
    omega
  · rw [World.frozen?, heap_drew_alloc]
    simp [bytesRow]
    omega
/-- A row of bytes as a text. -/
theorem conv_row (w : World) (g : Nat) (L : List UInt8) (m cap : Nat) (hm : m = L.length) (h : RowAt w g L) : (convert 45 9 (.slice (some ⟨g, 0, none⟩) m cap)).run Try.prog w = .ok (.string ⟨L.toArray⟩) w := by
  subst hm
  exact run_convert_bytes_back (P := Try.prog) w 45 9 5 ⟨g, 0, none⟩ cap L Try.underlying45 Try.underlying5 Try.underlying9 (fun j hj => by rw [add_flat, Nat.zero_add]; exact h j hj)

theorem RowAt.below {w w' : World} {g B : Nat} {l : List UInt8} (h : RowAt w g l) (hb : Below B w w') (hg : g < B) : RowAt w' g l := fun j hj => by
  rw [hb.cell hg]; exact h j hj

/-- The four bytes of a number, the lowest first, as bytes. -/
def le4 (x : Nat) : List UInt8 := (leB x).map fun z => UInt8.ofNat z.toNat
theorem le4_len (x : Nat) : (le4 x).length = 4 := rfl
theorem le4_vals (x : Nat) : (le4 x).map (fun b => Value.int .u8 (b.toNat : Int)) = (leB x).map (Value.int .u8) := by
  unfold le4 leB
  simp only [List.map_cons, List.map_nil]
  have h : ∀ z : Int, 0 ≤ z → z < 256 → ((UInt8.ofNat z.toNat).toNat : Int) = z := fun z h0 h1 => by simp; omega
  rw [h _ (by omega) (by omega), h _ (by omega) (by omega), h _ (by omega) (by omega), h _ (by omega) (by omega)]
theorem sealB_data (s : ByteArray) : (⟨(s.data.toList ++ le4 (crcN s.data.toList)).toArray⟩ : ByteArray) = sealB s := by
  apply ByteArray.ext
  unfold sealB txt le4
  simp [ByteArray.data_append]

/-- The row as the model's list of cells. -/
theorem RowAt.cells {w : World} {g : Nat} {l : List UInt8} (h : RowAt w g l) : ∀ j u, (l.map (fun b => Value.int .u8 (b.toNat : Int)))[j]? = some u → w.cell? ⟨g, 0 + j, none⟩ = some u := by
  intro j u hu
  have hj : j < l.length := by simpa using (List.getElem?_eq_some_iff.1 hu).1
  rw [Nat.zero_add, h j hj]
  simpa [List.getElem?_eq_getElem hj] using hu
theorem RowAt.of_cells {w : World} {g : Nat} {l : List UInt8} (h : ∀ j u, (l.map (fun b => Value.int .u8 (b.toNat : Int)))[j]? = some u → w.cell? ⟨g, j, none⟩ = some u) : RowAt w g l := fun j hj => h j _ (by simp [List.getElem?_eq_getElem hj])

theorem Below.setCells {B : Nat} {a : World} {b : Nat} (hb : B ≤ b) : ∀ (vs : List Value) (o : Nat) (w : World), Below B a w → Below B a (w.setCells b o vs)
  | [], _, _, h => h
  | v :: r, o, w, h => Below.setCells hb r (o + 1) _ (h.setCell (p := ⟨b, o, none⟩) hb v)
/-- What is written behind a row's end makes it longer. -/
theorem setCells_row {w : World} {g n : Nat} {olds news : List Value} (hlen : olds.length = n) (ho : ∀ j u, olds[j]? = some u → w.cell? ⟨g, j, none⟩ = some u) (hs : ∀ j, j < news.length → (w.cell? ⟨g, n + j, none⟩).isSome = true) :
    ∀ j u, (olds ++ news)[j]? = some u → (w.setCells g n news).cell? ⟨g, j, none⟩ = some u := by
  intro j u hu
  by_cases hj : j < n
  · rw [World.cell?_setCells_out g news n w ⟨g, j, none⟩ (fun _ _ => .inl hj)]
    exact ho j u (by rwa [List.getElem?_append_left (by omega)] at hu)
  · rw [List.getElem?_append_right (by omega), hlen] at hu
    have hj2 : j - n < news.length := (List.getElem?_eq_some_iff.1 hu).1
    have := World.cell?_setCells_in g news n w hs (j - n) hj2
    rw [show n + (j - n) = j by omega] at this
    rw [this, ← hu, List.getElem?_eq_getElem hj2]

set_option maxRecDepth 100000 in
set_option maxHeartbeats 1000000 in
theorem impl_seal (l : List UInt8) (n g cap : Nat) (w : World) (hn : n = l.length) (hr : RowAt w g l) (hg : g < w.heap.size) (hsp : Spare w g n cap) (hl : n ≤ 1099511627776) (hcap : n ≤ cap) :
    Calls Try.prog 76 #[.slice (some ⟨g, 0, none⟩) n cap] w fun e w' => ∃ g' cap', e = .returned (.slice (some ⟨g', 0, none⟩) (n + 4) cap') ∧ RowAt w' g' (l ++ le4 (crcN l)) ∧ Below g w w' ∧ (cap < n + 4 → Below w.heap.size w w') := by
  obtain ⟨i0, hi, hz0, hz1, hz2⟩ := info_parts infoB
  have hcall := impl_crcOf l g cap w hr hg (by omega) (by omega)
  rw [← hn] at hcall
  have hC := crcN_lt l
  have hvals := Lib.hid (le4_vals (crcN l))
  obtain ⟨C, hCe⟩ : ∃ C, C = crcN l := ⟨_, rfl⟩
  rw [← hCe] at hcall hC hvals ⊢
  obtain ⟨olds, hol⟩ : ∃ olds, olds = l.map (fun b => Value.int .u8 (b.toNat : Int)) := ⟨_, rfl⟩
  have holen : olds.length = n * 1 := by rw [hol, List.length_map]; omega
  obtain ⟨news, hne⟩ : ∃ news : List Value, news = [.int .u8 ((C : Int) % 256), .int .u8 ((C : Int) / 256 % 256), .int .u8 ((C : Int) / 65536 % 256), .int .u8 ((C : Int) / 16777216)] := ⟨_, rfl⟩
  have hnlen : news.length = 4 * 1 := by rw [hne]; rfl
  have hn1 : ∀ u ∈ news, u.oneCell' = true := by rw [hne]; intro u hu; simp at hu; rcases hu with rfl | rfl | rfl | rfl <;> rfl
  have hnews : ∀ (w1 : World) (j : Nat) (u : Value), news[j]? = some u → (w1.alloc (.cells #[.int .u8 ((C : Int) % 256), .int .u8 ((C : Int) / 256 % 256), .int .u8 ((C : Int) / 65536 % 256), .int .u8 ((C : Int) / 16777216)] 5)).cell? ((⟨w1.heap.size, 0, none⟩ : Addr).add j) = some u := fun w1 j u hu => by
    rw [add_flat, Nat.zero_add, World.cell?_alloc_new, ← hu, hne]
    simp
  have holds : ∀ (w1 : World), Below w.heap.size w w1 → ∀ o j u, olds[j]? = some u → (w1.alloc o).cell? ⟨g, 0 + j, none⟩ = some u := fun w1 hb o j u hu => by
    rw [hol] at hu
    exact RowAt.cells (hr.below (hb.alloc hb.size o) hg) j u hu
  have hspare : ∀ (w1 : World), Below w.heap.size w w1 → ∀ o, n + 4 ≤ cap → ∀ j, j < news.length → ((w1.alloc o).cell? ⟨g, 0 + n * 1 + j, none⟩).isSome = true ∧ (w1.alloc o).frozen? ⟨g, 0 + n * 1 + j, none⟩ = false := fun w1 hb o hroom j hj => by
    have hb' := hb.alloc hb.size o
    rw [hb'.cell hg, hb'.frozen hg, Nat.zero_add, Nat.mul_one]
    exact hsp (n + j) (by omega) (by omega)
  have hdone := Lib.hid (show (l ++ le4 C).map (fun b => Value.int .u8 (b.toNat : Int)) = olds ++ news by rw [List.map_append, hvals.out, ← hol, hne]; unfold leB; rw [show (C : Int) / 16777216 % 256 = (C : Int) / 16777216 by omega]; rfl)
  have Hn := Lib.hid hn
  have Holds := Lib.hid holds
  have Hnews := Lib.hid hnews
  have Hspare := Lib.hid hspare
  have Holen := Lib.hid holen
  have Hnlen := Lib.hid hnlen
  have Hn1 := Lib.hid hn1
  clear hol hsp hr hn holds hnews hspare holen hnlen hn1 hne hCe
  go_enter Try.func76, Try.ntmps76
  go_wp2_with (first | (go_at_call 84; refine hcall.mono ?_; rintro e w1 ⟨rfl, hb1⟩) | (at_builtin; go_loud (refine wpList_append_arg _ rfl _ _ 45 rfl 5 i0 (.int .u8 0) 1 1 Try.underlying45 hi hz0 hz1 hz2 rfl (by decide) g 0 n cap olds rfl Holen.out (Holds.out _ hb1 _) _ 4 4 news rfl Hnlen.out (Hnews.out _) Hn1.out (Hspare.out _ hb1 _) (by unfold maxLen; omega) (by omega) ?room ?grow)))
  case room =>
    intro hroom
    have hrow : RowAt ((w1.alloc (.cells #[.int .u8 ((C : Int) % 256), .int .u8 ((C : Int) / 256 % 256), .int .u8 ((C : Int) / 65536 % 256), .int .u8 ((C : Int) / 16777216)] 5)).setCells g n news) g (l ++ le4 C) := RowAt.of_cells (by
      rw [hdone.out]
      exact setCells_row (by have := Holen.out; omega) (fun j u hu => by simpa using Holds.out w1 hb1 _ j u hu) (fun j hj => by simpa using (Hspare.out w1 hb1 _ hroom j hj).1))
    have hbl : Below g w ((w1.alloc (.cells #[.int .u8 ((C : Int) % 256), .int .u8 ((C : Int) / 256 % 256), .int .u8 ((C : Int) / 65536 % 256), .int .u8 ((C : Int) / 16777216)] 5)).setCells g n news) := Below.setCells (Nat.le_refl _) news n _ ((hb1.mono (Nat.le_of_lt hg)).alloc (Nat.le_of_lt (Nat.lt_of_lt_of_le hg hb1.size)) _)
    generalize (w1.alloc (.cells #[.int .u8 ((C : Int) % 256), .int .u8 ((C : Int) / 256 % 256), .int .u8 ((C : Int) / 65536 % 256), .int .u8 ((C : Int) / 16777216)] 5)).setCells g n news = w3 at *
    have Hrow := Lib.hid hrow
    clear hrow
    go_wp2
    go_ret
    exact ⟨g, cap, rfl, Hrow.out, hbl, fun h => by omega⟩
  case grow =>
    intro hlt v' w' hown hgr
    have hbl : Below w.heap.size w w' := (hb1.alloc hb1.size _).grown hgr (Nat.le_trans hb1.size (by simp)) (fun k hk => by cases hk)
    rcases hown.2 with ⟨_, h0⟩ | ⟨g', cap', cur, rfl, hrest⟩
    · omega
    · have hrow : RowAt w' g' (l ++ le4 C) := RowAt.of_cells (by
        rw [hdone.out]
        intro j u hu
        have := hown.cells (g := g') rfl j u hu
        rwa [add_flat, Nat.zero_add] at this)
      have Hrow := Lib.hid hrow
      clear hrow hown hrest hgr
      go_wp2
      go_ret
      exact ⟨g', cap', rfl, Hrow.out, hbl.mono (Nat.le_of_lt hg), fun _ => hbl⟩

set_option maxRecDepth 100000 in
/-- bytes.Equal: are the two rows one? -/
theorem bytes_equal (w : World) (g1 g2 m1 m2 c1 c2 : Nat) (L1 L2 : List UInt8) (h1 : m1 = L1.length) (h2 : m2 = L2.length) (hr1 : RowAt w g1 L1) (hr2 : RowAt w g2 L2) :
    Calls Try.prog 85 #[.slice (some ⟨g1, 0, none⟩) m1 c1, .slice (some ⟨g2, 0, none⟩) m2 c2] w fun e w' => e = .returned (.bool (decide (L1 = L2))) ∧ w = w' := by
  have hc1 := conv_row w g1 L1 m1 c1 h1 hr1
  have hc2 := conv_row w g2 L2 m2 c2 h2 hr2
  by_cases h : L1 = L2
  · have hq : Hid ((⟨L1.toArray⟩ : ByteArray).toList == (⟨L2.toArray⟩ : ByteArray).toList) := Lib.hid (str_eq (by rw [h]))
    have hd : Hid (true = decide (L1 = L2)) := Lib.hid (by simp [h])
    generalize (⟨L1.toArray⟩ : ByteArray) = a at *
    generalize (⟨L2.toArray⟩ : ByteArray) = b at *
    have hq' := hq.out
    clear h hr1 hr2 h1 h2 hq
    go_enter Try.func85, Try.ntmps85
    go_wp2
    go_ret
    exact ⟨by rw [← hd.out]; rfl, rfl⟩
  · have hq : Hid (((⟨L1.toArray⟩ : ByteArray).toList == (⟨L2.toArray⟩ : ByteArray).toList) = false) := Lib.hid (str_ne (by intro e; apply h; have := congrArg (fun x : ByteArray => x.data.toList) e; simpa using this))
    have hd : Hid (false = decide (L1 = L2)) := Lib.hid (by simp [h])
    generalize (⟨L1.toArray⟩ : ByteArray) = a at *
    generalize (⟨L2.toArray⟩ : ByteArray) = b at *
    have hq' := hq.out
    clear h hr1 hr2 h1 h2 hq
    go_enter Try.func85, Try.ntmps85
    go_wp2
    go_ret
    exact ⟨by rw [← hd.out]; rfl, rfl⟩

set_option maxRecDepth 100000 in
theorem impl_sealed (s : ByteArray) (w : World) (hs : s.size ≤ 1099511627776) :
    Calls Try.prog 59 #[.string s] w fun e w' => e = .returned (.string (sealB s)) ∧ Below w.heap.size w w' := by
  obtain ⟨cap, w1, hcv, hrow, hbel, hlt, hcap, hsp⟩ := conv_bytes s w
  have hn : s.size = s.data.toList.length := by simp
  have hcall := impl_seal s.data.toList s.size w.heap.size cap w1 hn hrow hlt hsp hs hcap
  have hback := Lib.hid fun (w2 : World) (g' cap' : Nat) (h : RowAt w2 g' (s.data.toList ++ le4 (crcN s.data.toList))) => conv_row w2 g' _ (s.size + 4) cap' (by rw [List.length_append, le4_len, ← hn]) h
  rw [sealB_data] at hback
  clear hn hrow hsp
  go_enter Try.func59, Try.ntmps59
  go_wp2_with (go_at_call 76; refine hcall.mono ?_; rintro e w2 ⟨g', cap', rfl, hr2, hb2, _⟩; have hb3 := hback.out w2 g' cap' hr2)
  go_ret
  exact ⟨rfl, hbel.trans hb2⟩

theorem RowAt.take {w : World} {g : Nat} {l : List UInt8} (h : RowAt w g l) (k : Nat) : RowAt w g (l.take k) := fun j hj => by
  rw [List.length_take] at hj
  rw [h j (by omega)]
  simp
theorem extract_data (s : ByteArray) (k : Nat) (h : k ≤ s.size) : (⟨(s.data.toList.take k).toArray⟩ : ByteArray) = s.extract 0 k := by
  apply ByteArray.ext
  rw [ByteArray.data_extract]
  apply Array.ext'
  simp

set_option maxRecDepth 100000 in
set_option maxHeartbeats 1000000 in
theorem impl_opened (s : ByteArray) (w : World) (hs : s.size ≤ 1099511627776) :
    Calls Try.prog 78 #[.string s] w fun e w' => e = .returned (.tuple #[.string (openB s).1, .bool (openB s).2]) ∧ Below w.heap.size w w' := by
  by_cases h4 : s.size < 4
  · have hv : Hid (((⟨#[]⟩ : ByteArray), false) = openB s) := Lib.hid (by unfold openB; rw [if_pos h4])
    go_enter Try.func78, Try.ntmps78
    go_wp2_with fail
    go_ret2
    exact ⟨ret_txtbool hv.out, Below.refl _ _⟩
  · obtain ⟨n, hn⟩ : ∃ n, s.size = n + 4 := ⟨s.size - 4, by omega⟩
    obtain ⟨cap, w1, hcv, hrow, hbel, hlt, hcap, hsp⟩ := conv_bytes s w
    have hlen : (s.data.toList.take n).length = n := by simp; omega
    have hcall := impl_seal (s.data.toList.take n) n w.heap.size n w1 hlen.symm (hrow.take n) hlt (fun j h1 h2 => by omega) (by omega) (Nat.le_refl _)
    have hext := extract_data s n (by omega)
    have hcrc : (s.extract 0 n).data.toList = s.data.toList.take n := by rw [← hext]
    have hsd : (⟨(s.data.toList.take n ++ le4 (crcN (s.data.toList.take n))).toArray⟩ : ByteArray) = sealB (s.extract 0 n) := by rw [← hcrc]; exact sealB_data _
    obtain ⟨L, hL⟩ : ∃ L, L = s.data.toList.take n ++ le4 (crcN (s.data.toList.take n)) := ⟨_, rfl⟩
    obtain ⟨S, hS⟩ : ∃ S, S = s.data.toList := ⟨_, rfl⟩
    obtain ⟨T, hT⟩ : ∃ T, T = S.take n := ⟨_, rfl⟩
    have hLlen : n + 4 = L.length := by rw [hL, List.length_append, hlen, le4_len]
    have hSlen : s.size = S.length := by rw [hS]; simp
    rw [← hL] at hcall hsd
    rw [← hS] at hrow hlen hext
    rw [← hT] at hlen hext
    have hTrow : ∀ w2, Below w1.heap.size w1 w2 → RowAt w2 w.heap.size T := fun w2 hb => by rw [hT]; exact (hrow.below hb hlt).take n
    have hSrow : ∀ w2, Below w1.heap.size w1 w2 → RowAt w2 w.heap.size S := fun w2 hb => hrow.below hb hlt
    have hEq := Lib.hid fun (w2 : World) (g' cap' : Nat) (hb : Below w1.heap.size w1 w2) (h : RowAt w2 g' L) => bytes_equal w2 g' w.heap.size (n + 4) (n + 4) cap' cap L S hLlen (by omega) h (hSrow w2 hb)
    have hBack := Lib.hid fun (w2 : World) (hb : Below w1.heap.size w1 w2) => conv_row w2 w.heap.size T n n hlen.symm (hTrow w2 hb)
    rw [hext] at hBack
    have e1 : ((s.size : Int) - 4) = n := by omega
    have hq : (L = S) ↔ (sealB (s.extract 0 n) = s) := by
      rw [← hsd, hS]
      constructor
      · intro h; rw [h]
      · intro h; have := congrArg (fun x : ByteArray => x.data.toList) h; simpa using this
    by_cases h : L = S
    · have hv : Hid ((s.extract 0 n, true) = openB s) := Lib.hid (by unfold openB; rw [if_neg h4, show s.size - 4 = n by omega, if_pos (hq.1 h)])
      have hdec : decide (L = S) = true := by simp [h]
      rw [hdec] at hEq
      have Hn := hn
      clear hq h hTrow hSrow hSlen hLlen hT hS hL hext hlen hrow hsp hcrc hsd hdec
      go_enter Try.func78, Try.ntmps78
      go_wp2_with (first | (go_at_call 76; refine hcall.mono ?_; rintro e w2 ⟨g', cap', rfl, hr2, _, hb2⟩; have hb3 := hb2 (by omega); clear hb2; have hb4 := hBack.out w2 hb3; have hb5 := hEq.out w2 g' cap' hb3 hr2; clear hr2) | (go_at_call 85; refine hb5.mono ?_; rintro e w3 ⟨rfl, rfl⟩))
      go_ret2
      exact ⟨ret_txtbool hv.out, hbel.trans (hb3.mono (Nat.le_of_lt hlt))⟩
    · have hv : Hid (((⟨#[]⟩ : ByteArray), false) = openB s) := Lib.hid (by unfold openB; rw [if_neg h4, show s.size - 4 = n by omega, if_neg (fun hc => h (hq.2 hc))])
      have hdec : decide (L = S) = false := by simp [h]
      rw [hdec] at hEq
      have Hn := hn
      clear hq h hTrow hSrow hSlen hLlen hT hS hL hext hlen hrow hsp hcrc hsd hdec
      go_enter Try.func78, Try.ntmps78
      go_wp2_with (first | (go_at_call 76; refine hcall.mono ?_; rintro e w2 ⟨g', cap', rfl, hr2, _, hb2⟩; have hb3 := hb2 (by omega); clear hb2; have hb4 := hBack.out w2 hb3; have hb5 := hEq.out w2 g' cap' hb3 hr2; clear hr2) | (go_at_call 85; refine hb5.mono ?_; rintro e w3 ⟨rfl, rfl⟩))
      go_ret2
      exact ⟨ret_txtbool hv.out, hbel.trans (hb3.mono (Nat.le_of_lt hlt))⟩
end Go.Proofs.Ytkkmjlpeahkiaaa
