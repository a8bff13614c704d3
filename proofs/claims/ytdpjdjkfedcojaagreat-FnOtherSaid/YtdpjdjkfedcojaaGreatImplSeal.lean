/- What impl.Crc, impl.seal, impl.Sealed and impl.Opened answer. Condition: a text of at most 2^40 bytes. -/
import Derived.Test.YtdpjdjkfedcojaaGreatImplCrc
import Derived.Test.YtdpjdjkfedcojaaGreatNumA
import Derived.ArgAppend
namespace Go.Proofs.YtdpjdjkfedcojaaGreat
open Go.RowKit
set_option linter.unusedVariables false

/-- The places behind a row's end, up to its capacity, may be written. -/
def Spare (w : World) (g n cap : Nat) : Prop := ∀ j, n ≤ j → j < cap → (w.cell? ⟨g, j, none⟩).isSome = true ∧ w.frozen? ⟨g, j, none⟩ = false
theorem heap_drew_alloc (w : World) (o : Obj) : (w.drew.alloc o).heap[w.heap.size]? = some o := by
  show (w.heap.push o)[w.heap.size]? = some o
  simp
/-- A text as a row of bytes. -/
theorem conv_bytes (s : ByteArray) (w : World) : ∃ cap w1, (convert 9 22 (.string s)).run Tryz.prog w = .ok (.slice (some ⟨w.heap.size, 0, none⟩) s.size cap) w1 ∧
    RowAt w1 w.heap.size s.data.toList ∧ Below w.heap.size w w1 ∧ w.heap.size < w1.heap.size ∧ s.size ≤ cap ∧ Spare w1 w.heap.size s.size cap := by
  have hge := grownCap_ge w s.size 0 5
  refine ⟨_, _, run_bytes_of_string w 9 22 5 s Tryz.underlying9 Tryz.underlying22 Tryz.underlying5, fun j h => ?_, ((Below.refl _ _).drew).alloc (Nat.le_refl _) _, by simp, hge, fun j h1 h2 => ⟨?_, ?_⟩⟩
  · have hj : j < s.size := by simpa using h
    rw [World.cell?, heap_drew_alloc]
    simp [bytesRow, Array.getElem?_append, hj]
  · rw [World.cell?, heap_drew_alloc]
    have h3 : ¬ j < s.size := by omega
    simp [bytesRow, Array.getElem?_append, h3]
    omega
  · rw [World.frozen?, heap_drew_alloc]
    simp [bytesRow]
    omega
/-- A row of bytes as a text. -/
theorem conv_row (w : World) (g : Nat) (L : List UInt8) (m cap : Nat) (hm : m = L.length) (h : RowAt w g L) : (convert 22 9 (.slice (some ⟨g, 0, none⟩) m cap)).run Tryz.prog w = .ok (.string ⟨L.toArray⟩) w := by
  subst hm
  exact run_convert_bytes_back (P := Tryz.prog) w 22 9 5 ⟨g, 0, none⟩ cap L Tryz.underlying22 Tryz.underlying5 Tryz.underlying9 (fun j hj => by rw [add_flat, Nat.zero_add]; exact h j hj)

theorem RowAt.below {w w' : World} {g B : Nat} {l : List UInt8} (h : RowAt w g l) (hb : Below B w w') (hg : g < B) : RowAt w' g l := fun j hj => by
  rw [hb.cell hg]; exact h j hj

/-- The four bytes of a number, the lowest first, as bytes. -/
def le4 (x : Nat) : List UInt8 := (leB x).map fun z => UInt8.ofNat z.toNat
theorem le4_len (x : Nat) : (le4 x).length = 4 := rfl
theorem le4_vals (x : Nat) : (le4 x).map (fun b => Value.int .u8 (b.toNat : Int)) = (leB x).map (Value.int .u8) := by
  unfold le4 leB
  simp only [List.map_cons, List.map_nil]
  have h : ∀ z : Int, 0 ≤ z → z < 256 → ((UInt8.ofNat z.toNat).toNat : Int) = z := fun z h0 h1 => by simp; omega
  rw [h _ (by omega) (by omega), h _ (by omega) (by omega), h _ (by omega) (by omega), h _ (by omega) (by omega)]
theorem sealB_data (s : ByteArray) : (⟨(s.data.toList ++ le4 (crcN s.data.toList)).toArray⟩ : ByteArray) = sealB s := by
  apply ByteArray.ext
  unfold sealB txt le4
  simp [ByteArray.data_append]

/-- The row as the model's list of cells. -/
theorem RowAt.cells {w : World} {g : Nat} {l : List UInt8} (h : RowAt w g l) : ∀ j u, (l.map (fun b => Value.int .u8 (b.toNat : Int)))[j]? = some u → w.cell? ⟨g, 0 + j, none⟩ = some u := by
  intro j u hu
  have hj : j < l.length := by simpa using (List.getElem?_eq_some_iff.1 hu).1
  rw [Nat.zero_add, h j hj]
  simpa [List.getElem?_eq_getElem hj] using hu
theorem RowAt.of_cells {w : World} {g : Nat} {l : List UInt8} (h : ∀ j u, (l.map (fun b => Value.int .u8 (b.toNat : Int)))[j]? = some u → w.cell? ⟨g, j, none⟩ = some u) : RowAt w g l := fun j hj => h j _ (by simp [List.getElem?_eq_getElem hj])

theorem Below.setCells {B : Nat} {a : World} {b : Nat} (hb : B ≤ b) : ∀ (vs : List Value) (o : Nat) (w : World), Below B a w → Below B a (w.setCells b o vs)
  | [], _, _, h => h
  | v :: r, o, w, h => Below.setCells hb r (o + 1) _ (h.setCell (p := ⟨b, o, none⟩) hb v)
/-- What is written behind a row's end makes it longer. -/
theorem setCells_row {w : World} {g n : Nat} {olds news : List Value} (hlen : olds.length = n) (ho : ∀ j u, olds[j]? = some u → w.cell? ⟨g, j, none⟩ = some u) (hs : ∀ j, j < news.length → (w.cell? ⟨g, n + j, none⟩).isSome = true) :
    ∀ j u, (olds ++ news)[j]? = some u → (w.setCells g n news).cell? ⟨g, j, none⟩ = some u := by
  intro j u hu
  by_cases hj : j < n
  · rw [World.cell?_setCells_out g news n w ⟨g, j, none⟩ (fun _ _ => .inl hj)]
    exact ho j u (by rwa [List.getElem?_append_left (by omega)] at hu)
  · rw [List.getElem?_append_right (by omega), hlen] at hu
    have hj2 : j - n < news.length := (List.getElem?_eq_some_iff.1 hu).1
    have := World.cell?_setCells_in g news n w hs (j - n) hj2
    rw [show n + (j - n) = j by omega] at this
    rw [this, ← hu, List.getElem?_eq_getElem hj2]

set_option maxRecDepth 100000 in
set_option maxHeartbeats 1000000 in
theorem impl_seal (l : List UInt8) (n g cap : Nat) (w : World) (hn : n = l.length) (hr : RowAt w g l) (hg : g < w.heap.size) (hsp : Spare w g n cap) (hl : n ≤ 1099511627776) (hcap : n ≤ cap) :
    Calls Tryz.prog 102 #[.slice (some ⟨g, 0, none⟩) n cap] w fun e w' => ∃ g' cap', e = .returned (.slice (some ⟨g', 0, none⟩) (n + 4) cap') ∧ RowAt w' g' (l ++ le4 (crcN l)) ∧ Below g w w' ∧ (cap < n + 4 → Below w.heap.size w w') := by
  obtain ⟨i0, hi, hz0, hz1, hz2⟩ := info_parts infoB
  have hcall := impl_crcOf l g cap w hr hg (by omega) (by omega)
  rw [← hn] at hcall
  have hC := crcN_lt l
  have hvals := Lib.hid (le4_vals (crcN l))
  obtain ⟨C, hCe⟩ : ∃ C, C = crcN l := ⟨_, rfl⟩
  rw [← hCe] at hcall hC hvals ⊢
  obtain ⟨olds, hol⟩ : ∃ olds, olds = l.map (fun b => Value.int .u8 (b.toNat : Int)) := ⟨_, rfl⟩
  have holen : olds.length = n * 1 := by rw [hol, List.length_map]; omega
  obtain ⟨news, hne⟩ : ∃ news : List Value, news = [.int .u8 ((C : Int) % 256), .int .u8 ((C : Int) / 256 % 256), .int .u8 ((C : Int) / 65536 % 256), .int .u8 ((C : Int) / 16777216)] := ⟨_, rfl⟩
  have hnlen : news.length = 4 * 1 := by rw [hne]; rfl
  have hn1 : ∀ u ∈ news, u.oneCell' = true := by rw [hne]; intro u hu; simp at hu; rcases hu with rfl | rfl | rfl | rfl <;> rfl
  have hnews : ∀ (w1 : World) (j : Nat) (u : Value), news[j]? = some u → (w1.alloc (.cells #[.int .u8 ((C : Int) % 256), .int .u8 ((C : Int) / 256 % 256), .int .u8 ((C : Int) / 65536 % 256), .int .u8 ((C : Int) / 16777216)] 5)).cell? ((⟨w1.heap.size, 0, none⟩ : Addr).add j) = some u := fun w1 j u hu => by
    rw [add_flat, Nat.zero_add, World.cell?_alloc_new, ← hu, hne]
    simp
  have holds : ∀ (w1 : World), Below w.heap.size w w1 → ∀ o j u, olds[j]? = some u → (w1.alloc o).cell? ⟨g, 0 + j, none⟩ = some u := fun w1 hb o j u hu => by
    rw [hol] at hu
    exact RowAt.cells (hr.below (hb.alloc hb.size o) hg) j u hu
  have hspare : ∀ (w1 : World), Below w.heap.size w w1 → ∀ o, n + 4 ≤ cap → ∀ j, j < news.length → ((w1.alloc o).cell? ⟨g, 0 + n * 1 + j, none⟩).isSome = true ∧ (w1.alloc o).frozen? ⟨g, 0 + n * 1 + j, none⟩ = false := fun w1 hb o hroom j hj => by
    have hb' := hb.alloc hb.size o
    rw [hb'.cell hg, hb'.frozen hg, Nat.zero_add, Nat.mul_one]
    exact hsp (n + j) (by omega) (by omega)
  have hdone := Lib.hid (show (l ++ le4 C).map (fun b => Value.int .u8 (b.toNat : Int)) = olds ++ news by rw [List.map_append, hvals.out, ← hol, hne]; unfold leB; rw [show (C : Int) / 16777216 % 256 = (C : Int) / 16777216 by omega]; rfl)
  have Hn := Lib.hid hn
  have Holds := Lib.hid holds
  have Hnews := Lib.hid hnews
  have Hspare := Lib.hid hspare
  have Holen := Lib.hid holen
  have Hnlen := Lib.hid hnlen
  have Hn1 := Lib.hid hn1
  clear hol hsp hr hn holds hnews hspare holen hnlen hn1 hne hCe
  go_enter Tryz.func102, Tryz.ntmps102
  go_wp2_with (first | (go_at_call 115; refine hcall.mono ?_; rintro e w1 ⟨rfl, hb1⟩) | (at_builtin; go_loud (refine wpList_append_arg _ rfl _ _ 22 rfl 5 i0 (.int .u8 0) 1 1 Tryz.underlying22 hi hz0 hz1 hz2 rfl (by decide) g 0 n cap olds rfl Holen.out (Holds.out _ hb1 _) _ 4 4 news rfl Hnlen.out (Hnews.out _) Hn1.out (Hspare.out _ hb1 _) (by unfold maxLen; omega) (by omega) ?room ?grow)))
  case room =>
    intro hroom
    have hrow : RowAt ((w1.alloc (.cells #[.int .u8 ((C : Int) % 256), .int .u8 ((C : Int) / 256 % 256), .int .u8 ((C : Int) / 65536 % 256), .int .u8 ((C : Int) / 16777216)] 5)).setCells g n news) g (l ++ le4 C) := RowAt.of_cells (by
      rw [hdone.out]
      exact setCells_row (by have := Holen.out; omega) (fun j u hu => by simpa using Holds.out w1 hb1 _ j u hu) (fun j hj => by simpa using (Hspare.out w1 hb1 _ hroom j hj).1))
    have hbl : Below g w ((w1.alloc (.cells #[.int .u8 ((C : Int) % 256), .int .u8 ((C : Int) / 256 % 256), .int .u8 ((C : Int) / 65536 % 256), .int .u8 ((C : Int) / 16777216)] 5)).setCells g n news) := Below.setCells (Nat.le_refl _) news n _ ((hb1.mono (Nat.le_of_lt hg)).alloc (Nat.le_of_lt (Nat.lt_of_lt_of_le hg hb1.size)) _)
    generalize (w1.alloc (.cells #[.int .u8 ((C : Int) % 256), .int .u8 ((C : Int) / 256 % 256), .int .u8 ((C : Int) / 65536 % 256), .int .u8 ((C : Int) / 16777216)] 5)).setCells g n news = w3 at *
    have Hrow := Lib.hid hrow
    clear hrow
    go_wp2
    go_ret
    exact ⟨g, cap, rfl, Hrow.out, hbl, fun h => by omega⟩
  case grow =>
    intro hlt v' w' hown hgr
    have hbl : Below w.heap.size w w' := (hb1.alloc hb1.size _).grown hgr (Nat.le_trans hb1.size (by simp)) (fun k hk => by cases hk)
    rcases hown.2 with ⟨_, h0⟩ | ⟨g', cap', cur, rfl, hrest⟩
    · omega
    · have hrow : RowAt w' g' (l ++ le4 C) := RowAt.of_cells (by
        rw [hdone.out]
        intro j u hu
        have := hown.cells (g := g') rfl j u hu
        rwa [add_flat, Nat.zero_add] at this)
      have Hrow := Lib.hid hrow
      clear hrow hown hrest hgr
      go_wp2
      go_ret
      exact ⟨g', cap', rfl, Hrow.out, hbl.mono (Nat.le_of_lt hg), fun _ => hbl⟩

set_option maxRecDepth 100000 in
theorem impl_sealed (s : ByteArray) (w : World) (hs : s.size ≤ 1099511627776) :
    Calls Tryz.prog 64 #[.string s] w fun e w' => e = .returned (.string (sealB s)) ∧ Below w.heap.size w w' := by
  obtain ⟨cap, w1, hcv, hrow, hbel, hlt, hcap, hsp⟩ := conv_bytes s w
  have hn : s.size = s.data.toList.length := by simp
  have hcall := impl_seal s.data.toList s.size w.heap.size cap w1 hn hrow hlt hsp hs hcap
  have hback := Lib.hid fun (w2 : World) (g' cap' : Nat) (h : RowAt w2 g' (s.data.toList ++ le4 (crcN s.data.toList))) => conv_row w2 g' _ (s.size + 4) cap' (by rw [List.length_append, le4_len, ← hn]) h
  rw [sealB_data] at hback
  clear hn hrow hsp
  go_enter Tryz.func64, Tryz.ntmps64
  go_wp2_with (go_at_call 102; refine hcall.mono ?_; rintro e w2 ⟨g', cap', rfl, hr2, hb2, _⟩; have hb3 := hback.out w2 g' cap' hr2)
  go_ret
  exact ⟨rfl, hbel.trans hb2⟩

theorem RowAt.take {w : World} {g : Nat} {l : List UInt8} (h : RowAt w g l) (k : Nat) : RowAt w g (l.take k) := fun j hj => by
  rw [List.length_take] at hj
  rw [h j (by omega)]
  simp
theorem extract_data (s : ByteArray) (k : Nat) (h : k ≤ s.size) : (⟨(s.data.toList.take k).toArray⟩ : ByteArray) = s.extract 0 k := by
  apply ByteArray.ext
  rw [ByteArray.data_extract]
  apply Array.ext'
  simp

end Go.Proofs.YtdpjdjkfedcojaaGreat
