/- What impl.DecText, impl.ReadDec and spec.ReadDec answer; the laws FnExactDecText and FnExactReadDec. Conditions: the table of powers of ten and the two errors of strconv read as their initialisers lay them. -/
import Derived.Test.YtcehmcnkalilnaaDoorRows
import Derived.Test.YtcehmcnkalilnaaDoorDec
import Derived.Test.YtcehmcnkalilnaaDoorReadPlain
import Derived.Test.YtcehmcnkalilnaaDoorShelf
import Derived.WalkKit
import Derived.WalkSpells
import Derived.WalkLawsBesides
import Derived.LoopTactic
import Derived.Lib.Hide
import Derived.Lib.AppendIntMem
import Derived.OpenShut
import Derived.Shelf.Strconv.ErrVarAll
namespace Go.Proofs.YtcehmcnkalilnaaDoor
open Go.RowKit Go.Shelf
set_option linter.unusedVariables false

abbrev Pow10 (B : Nat) (w : World) : Prop := Lib.TabBelow Tryd.prog B w "internal/strconv.uint64pow10" .u64 Lib.pow10Tab

theorem impl_decText (n : Int) (h0 : -9223372036854775808 ≤ n) (h1 : n ≤ 9223372036854775807) (B : Nat) (w : World) (hB : B ≤ w.heap.size) (hT : Pow10 B w) :
    Calls Tryd.prog 8 #[.int .i64 n] w fun e w' => e = .returned (.string ⟨(Lib.itoa n).toArray⟩) ∧ Below B w w' := by
  go_enter Tryd.func8, Tryd.ntmps8
  go_wp2_with (go_at_call 15; refine (Tryd.strconv_Itoa n h0 h1 _ hT.here).mono ?_; rintro e w' ⟨rfl, k, os, rfl⟩)
  go_ret
  exact ⟨rfl, Lib.below_grow _ _ hB _ _⟩

/-- The law's walk. -/
theorem law_decText (n : Int) (hw : (Lit.int .i64 n).wf = true) (w : World) (hT : Pow10 w.heap.size w) :
    Calls Tryd.prog 4 #[.int .i64 n] w fun e w' => e = .returned (.bool true) ∧ Below w.heap.size w w' := by
  have hb := bounds_i64 hw
  clear hw
  obtain ⟨h0, h1⟩ := hb
  go_enter Tryd.func4, Tryd.ntmps4
  go_wp2_with (first | (go_at_call 10; refine (spec_decText n h0 h1 _).mono ?_; rintro e w' ⟨rfl, rfl⟩) | (go_at_call 8; refine (impl_decText n h0 h1 _ _ (Nat.le_refl _) hT).mono ?_; rintro e w' ⟨rfl, hbel⟩))
  go_ret
  exact ⟨rfl, hbel⟩

theorem in_any (x a b : Int) (w : World) : Calls Tryd.prog 26 #[.int .i64 x, .int .i64 a, .int .i64 b] w fun e w' => e = .returned (.bool (inB x a b)) ∧ w = w' := by
  by_cases h1 : a ≤ x
  · by_cases h2 : x ≤ b
    all_goals
      have h : Hid (inB x a b = decide (a ≤ x ∧ x ≤ b)) := Lib.hid rfl
      go_enter Tryd.func26, Tryd.ntmps26
      go_wp2
      go_ret
      exact ⟨by simp [h.out, *], rfl⟩
  · have h : inB x a b = false := by simp [inB]; omega
    go_enter Tryd.func26, Tryd.ntmps26
    go_wp2
    go_ret
    exact ⟨rfl, rfl⟩
theorem digit_any (c : Nat) (hc : c < 256) (w : World) : Calls Tryd.prog 20 #[.int .u8 c] w fun e w' => e = .returned (.bool (inB c 48 57)) ∧ w = w' := by
  go_enter Tryd.func20, Tryd.ntmps20
  go_wp2_with (go_at_call 26; refine (in_any _ _ _ _).mono ?_; rintro e w' ⟨rfl, rfl⟩)
  go_ret
  exact ⟨rfl, rfl⟩

set_option maxHeartbeats 400000 in
theorem spec_readDec (s : ByteArray) (w : World) (hs : s.size ≤ maxLen) :
    Calls Tryd.prog 12 #[.string s] w fun e w' => e = .returned (.int .i64 (rd s.data.toList)) ∧ w = w' := by
  unfold maxLen at hs
  go_enter Tryd.func12, Tryd.ntmps12
  go_wp2
  go_loop [3, 4] (fun v i => ∃ (k n : Nat), k ≤ s.size ∧ (k = 0 ∨ s.size ≤ 9) ∧ n < 1000000000 ∧ i = .int .i64 k ∧ v = .int .i64 n ∧ Hid (Lib.decFrom 0 (s.data.toList.take k) = some n)) (fun _ i => s.size - (intOf i).toNat)
  case atStart => exact ⟨0, 0, Nat.zero_le _, .inl rfl, by omega, rfl, rfl, Lib.hid rfl⟩
  case round =>
    obtain ⟨k, n, hk, hk9, hn, rfl, rfl, hv⟩ := hrel
    by_cases hlt : k < s.size
    · have hc : s[k].toNat < 256 := s[k].toNat_lt
      by_cases hd : inB s[k].toNat 48 57 = true
      · by_cases h9 : (s.size : Int) ≤ 9
        · have hst : Hid (∃ m : Nat, m < 1000000000 ∧ 10 * (n : Int) + s[k].toNat - 48 = (m : Int) ∧ Lib.decFrom 0 (s.data.toList.take (k + 1)) = some m) := Lib.hid (read_step s k n hlt (by omega) hv.out hd)
          go_wp2_with (go_at_call 20; refine (digit_any _ hc _).mono ?_; rintro e w' ⟨rfl, rfl⟩)
          go_round
          case rel => obtain ⟨m, h1, h2, h3⟩ := hst.out; exact ⟨k + 1, m, by omega, by omega, h1, by go_num, by rw [h2], Lib.hid h3⟩
          case measure => simp [intOf]; omega
        · have hn := Lib.hid (rd_long s.data.toList (by simp; omega))
          go_wp2_with (go_at_call 20; refine (digit_any _ hc _).mono ?_; rintro e w' ⟨rfl, rfl⟩)
          go_ret
          exact ⟨ret_int (by rw [hn.out]), rfl⟩
      · have hd : inB s[k].toNat 48 57 = false := by simpa using hd
        have hn := Lib.hid (read_bad s k hlt hd)
        go_wp2_with (go_at_call 20; refine (digit_any _ hc _).mono ?_; rintro e w' ⟨rfl, rfl⟩)
        go_ret
        exact ⟨ret_int (by rw [hn.out]), rfl⟩
    · have hfin := Lib.hid (read_end s k n (by omega) (by omega) hv.out)
      by_cases h0 : s.toList = []
      · have hn := Lib.hid (hfin.out.1 h0)
        have h1 : s.toList.isEmpty = true := by simp [h0]
        go_wp2_with (go_at_call 10; refine (spec_decText n (by omega) (by omega) _).mono ?_; rintro e w' ⟨rfl, rfl⟩)
        go_ret
        exact ⟨ret_int (by rw [hn.out]), rfl⟩
      · have h1 : s.toList.isEmpty = false := by simpa using h0
        by_cases hq : (Lib.itoa n == s.toList) = true
        · have hn := Lib.hid (hfin.out.2.1 h0 hq)
          go_wp2_with (go_at_call 10; refine (spec_decText n (by omega) (by omega) _).mono ?_; rintro e w' ⟨rfl, rfl⟩)
          go_ret
          exact ⟨ret_int (by rw [hn.out]), rfl⟩
        · have hq : (Lib.itoa n == s.toList) = false := by simpa using hq
          have hn := Lib.hid (hfin.out.2.2 h0 hq)
          go_wp2_with (go_at_call 10; refine (spec_decText n (by omega) (by omega) _).mono ?_; rintro e w' ⟨rfl, rfl⟩)
          go_ret
          exact ⟨ret_int (by rw [hn.out]), rfl⟩

/-- What the two errors of strconv are: values of an interface's type. -/
structure Errs (w : World) : Prop where
  syn : ∃ tp p, w.var? Tryd.prog "strconv.ErrSyntax" = some #[.iface tp p]
  ran : ∃ tp p, w.var? Tryd.prog "strconv.ErrRange" = some #[.iface tp p]

theorem pow10_later {w w' : World} (h : Pow10 w.heap.size w) (hb : Below w.heap.size w w') : Pow10 w'.heap.size w' := fun x hx => h x (hb.trans (hx.mono hb.size))
theorem Errs.later {w w' : World} (h : Errs w) (hb : Below w.heap.size w w') : Errs w' := by
  have one : ∀ {n : String} {cs : Array Value}, w.var? Tryd.prog n = some cs → w'.var? Tryd.prog n = some cs := by
    intro n cs h
    unfold World.var? at *
    cases hg : Tryd.prog.globalNamed n with
    | none => simp [hg] at h
    | some g =>
      simp only [hg, Option.bind_some] at h ⊢
      have hlt : g < w.heap.size := by
        rcases Nat.lt_or_ge g w.heap.size with h' | h'
        · exact h'
        · rw [Array.getElem?_eq_none h'] at h; simp at h
      rw [hb.block g hlt]
      exact h
  obtain ⟨⟨tp, p, h1⟩, ⟨tp', p', h2⟩⟩ := h
  exact ⟨⟨tp, p, one h1⟩, ⟨tp', p', one h2⟩⟩

theorem atoi_ok (s : ByteArray) (hs : s.size ≤ 9223372036854775806) (v : Int) (h : Lib.atoiAll s.data.toList = .ok v) (w : World) :
    Calls Tryd.prog 19 #[.string s] w fun e w' => e = .returned (.tuple #[.int .i64 v, .nilIface]) ∧ Below w.heap.size w w' :=
  (Tryd.strconv_Atoi_ok s hs v h w).mono fun e w' ⟨he, hw⟩ => ⟨he, by
    rcases hw with rfl | ⟨t, rfl⟩
    · exact Below.refl _ _
    · exact Lib.bytesWorld_below ..⟩

theorem atoi_fail (s : ByteArray) (hs : s.size ≤ 281474976710656) (h : ∀ v, Lib.atoiAll s.data.toList ≠ .ok v) (w : World) (hE : Errs w) :
    Calls Tryd.prog 19 #[.string s] w fun e w' => ∃ (n : Int) (N : Nat), e = .returned (.tuple #[.int .i64 n, .iface 53 (.pointer (some ⟨N, 0, none⟩))]) ∧ Below w.heap.size w w' := by
  obtain ⟨⟨tp, p, hsyn⟩, ⟨tp', p', hran⟩⟩ := hE
  cases ha : Lib.atoiAll s.data.toList
  · exact absurd ha (h _)
  · exact (Any.strconv_Atoi_syntax_var Tryd.laysC172 s hs ha tp p w hsyn).mono fun e w' ⟨N, he, _, _, hb⟩ => ⟨0, N, he, hb⟩
  · exact (Any.strconv_Atoi_range_var Tryd.laysC172 s hs ha tp' p' w hran).mono fun e w' ⟨N, he, _, _, hb⟩ => ⟨_, N, he, hb⟩

set_option maxHeartbeats 400000 in
theorem impl_readDec (s : ByteArray) (w : World) (hs : s.size ≤ 281474976710656) (hT : Pow10 w.heap.size w) (hE : Errs w) :
    Calls Tryd.prog 11 #[.string s] w fun e w' => e = .returned (.int .i64 (rd s.data.toList)) ∧ Below w.heap.size w w' := by
  by_cases hok : ∃ v, Lib.atoiAll s.data.toList = .ok v
  case neg =>
    have hno : ∀ v, Lib.atoiAll s.data.toList ≠ .ok v := fun v h => hok ⟨v, h⟩
    have hn := Lib.hid (rd_fail s.data.toList hno)
    have hno := Lib.hid hno
    clear hok
    go_enter Tryd.func11, Tryd.ntmps11
    go_wp2_with (go_at_call 19; refine (atoi_fail s hs hno.out _ hE).mono ?_; rintro e w' ⟨n, N, rfl, hbel⟩)
    go_ret
    exact ⟨ret_int (by rw [hn.out]), hbel⟩
  case pos =>
    obtain ⟨v, ha⟩ := hok
    have hout := Lib.hid (rd_ok_out s.data.toList v ha)
    have hin := Lib.hid (rd_ok_in s.data.toList v ha)
    have ha := Lib.hid ha
    by_cases h0 : 0 ≤ v
    · by_cases h1 : v ≤ 999999999
      · by_cases hq : (Lib.itoa v == s.toList) = true
        · have hn : Hid (rd s.data.toList = v) := Lib.hid (by rw [hin.out h0 h1, if_pos (by rw [ByteArray.toList_eq] at hq; simpa using hq)])
          go_enter Tryd.func11, Tryd.ntmps11
          go_wp2_with (first | (go_at_call 19; refine (atoi_ok s (by omega) v ha.out _).mono ?_; rintro e w' ⟨rfl, hbel⟩) | (go_at_call 8; refine (impl_decText v (by omega) (by omega) _ _ hbel.size (hT.on hbel)).mono ?_; rintro e w' ⟨rfl, hbel2⟩))
          go_ret
          exact ⟨ret_int (by rw [hn.out]), hbel.trans hbel2⟩
        · have hq : (Lib.itoa v == s.toList) = false := by simpa using hq
          have hn : Hid (rd s.data.toList = -1) := Lib.hid (by rw [hin.out h0 h1, if_neg (by rw [ByteArray.toList_eq] at hq; simpa using hq)])
          go_enter Tryd.func11, Tryd.ntmps11
          go_wp2_with (first | (go_at_call 19; refine (atoi_ok s (by omega) v ha.out _).mono ?_; rintro e w' ⟨rfl, hbel⟩) | (go_at_call 8; refine (impl_decText v (by omega) (by omega) _ _ hbel.size (hT.on hbel)).mono ?_; rintro e w' ⟨rfl, hbel2⟩))
          go_ret
          exact ⟨ret_int (by rw [hn.out]), hbel.trans hbel2⟩
      · have hn := Lib.hid (hout.out (by omega))
        go_enter Tryd.func11, Tryd.ntmps11
        go_wp2_with (go_at_call 19; refine (atoi_ok s (by omega) v ha.out _).mono ?_; rintro e w' ⟨rfl, hbel⟩)
        go_ret
        exact ⟨ret_int (by rw [hn.out]), hbel⟩
    · have hn := Lib.hid (hout.out (by omega))
      go_enter Tryd.func11, Tryd.ntmps11
      go_wp2_with (go_at_call 19; refine (atoi_ok s (by omega) v ha.out _).mono ?_; rintro e w' ⟨rfl, hbel⟩)
      go_ret
      exact ⟨ret_int (by rw [hn.out]), hbel⟩

/-- The law's walk. -/
theorem law_readDec (s : ByteArray) (hs : s.size ≤ maxLen) (w : World) (hT : Pow10 w.heap.size w) (hE : Errs w) :
    Calls Tryd.prog 5 #[.string s] w fun e w' => e = .returned (.bool true) ∧ Below w.heap.size w w' := by
  have hs' := hs
  unfold maxLen at hs'
  by_cases h1 : (s.size : Int) ≤ 1048576
  · go_enter Tryd.func5, Tryd.ntmps5
    go_wp2_with (first | (go_at_call 12; refine (spec_readDec _ _ hs).mono ?_; rintro e w' ⟨rfl, rfl⟩) | (go_at_call 11; refine (impl_readDec _ _ (by omega) hT hE).mono ?_; rintro e w' ⟨rfl, hbel⟩))
    go_ret
    exact ⟨rfl, hbel⟩
  · go_enter Tryd.func5, Tryd.ntmps5
    go_wp2_with fail
    go_ret
    exact ⟨rfl, Below.refl _ _⟩
end Go.Proofs.YtcehmcnkalilnaaDoor
