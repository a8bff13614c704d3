/- The law FnLines: lines joined are the text, words with blanks behind them are those words, and both sides answer the same. Condition: none. -/
import Derived.Test.YtcehmcnkalilnaaTexts
import Derived.Test.YtcehmcnkalilnaaWords
import Derived.Test.YtcehmcnkalilnaaImplLines
import Derived.Test.YtcehmcnkalilnaaImplWords
import Derived.Test.YtcehmcnkalilnaaExactTexts
import Derived.Test.YtcehmcnkalilnaaJoinPlain
import Derived.Test.YtcehmcnkalilnaaDrawText
namespace Go.Proofs.Ytcehmcnkalilnaa
open Go.RowKit
set_option linter.unusedVariables false

theorem big_any (a : Option Addr) (len cap : Nat) (w : World) : Calls Try.prog 9 #[.slice a len cap] w fun e w' => e = .returned (.bool (decide (1048576 < len))) ∧ w = w' := by
  go_enter Try.func9, Try.ntmps9
  go_wp2
  go_ret
  exact ⟨ret_bool (by simp; omega), rfl⟩

set_option maxHeartbeats 1000000 in
/-- Two rows of the same texts are the same. -/
theorem same_texts (B B' : Nat) (v v' : Value) (xs : List ByteArray) (w : World) (h : Texts w B v xs) (h' : Texts w B' v' xs) :
    Calls Try.prog 14 #[v, v'] w fun e w' => e = .returned (.bool true) ∧ ∃ n, w' = w.drewN n := by
  rcases h.form with ⟨rfl, rfl⟩ | ⟨g, cap, rfl, hg, hgl, hm, hc, _⟩
  · obtain ⟨a, c, rfl⟩ : ∃ a c, v' = .slice a 0 c := by
      rcases h'.form with ⟨rfl, _⟩ | ⟨g', cap', rfl, _⟩
      · exact ⟨_, _, rfl⟩
      · exact ⟨_, _, rfl⟩
    clear h h'
    go_enter Try.func14, Try.ntmps14
    go_wp2
    go_loop [5] (fun i => i = .int .i64 0) (fun _ => 0)
    case atStart => rfl
    case round =>
      subst hrel
      go_wp2
      go_ret
      exact ⟨rfl, 0, rfl⟩
  · rcases h'.form with ⟨rfl, rfl⟩ | ⟨g', cap', rfl, hg', hgl', hm', hc', _⟩
    · have hz : (([] : List ByteArray).length) = 0 := rfl
      clear h h'
      go_enter Try.func14, Try.ntmps14
      go_wp2
      go_loop [5] (fun i => i = .int .i64 0) (fun _ => 0)
      case atStart => rfl
      case round =>
        subst hrel
        go_wp2
        go_ret
        exact ⟨rfl, 0, rfl⟩
    · clear h h'
      have hc := Lib.hid hc
      have hc' := Lib.hid hc'
      unfold maxLen at hm hm'
      go_enter Try.func14, Try.ntmps14
      go_wp2
      go_loopw [5] (fun i wr => (∃ n, wr = w.drewN n) ∧ ∃ k : Nat, k ≤ xs.length ∧ i = .int .i64 k) (fun i _ => xs.length - (intOf i).toNat)
      case atStart => exact ⟨⟨0, rfl⟩, 0, Nat.zero_le _, rfl⟩
      case round =>
        obtain ⟨⟨n, rfl⟩, k, hk, rfl⟩ := hrel
        by_cases hlt : k < xs.length
        · have c1 := hc.out k hlt
          have c2 := hc'.out k hlt
          go_wp2
          go_quiet (fail)
          go_wp2
          go_roundw
          case rel => exact ⟨⟨_, rfl⟩, k + 1, by omega, by go_num⟩
          case measure => simp [intOf]; omega
        · go_wp2
          go_ret
          exact ⟨rfl, n, rfl⟩


/-- A row of texts: its value's length, and its cells. -/
theorem Texts.cellAt {w : World} {B : Nat} {v : Value} {xs : List ByteArray} (h : Texts w B v xs) (k : Nat) (hk : k < xs.length) : ∃ g cap, v = .slice (some ⟨g, 0, none⟩) xs.length cap ∧ w.cell? ⟨g, k, none⟩ = some (.string (xs.getD k ⟨#[]⟩)) := by
  rcases h.form with ⟨_, rfl⟩ | ⟨g, cap, rfl, _, _, _, hc, _⟩
  · simp at hk
  · refine ⟨g, cap, rfl, ?_⟩
    rw [hc k hk, List.getD_eq_getElem?_getD, List.getElem?_eq_getElem hk]; rfl
theorem Texts.slice {w : World} {B : Nat} {v : Value} {xs : List ByteArray} (h : Texts w B v xs) : ∃ a cap, v = .slice a xs.length cap := by
  rcases h.form with ⟨rfl, rfl⟩ | ⟨g, cap, rfl, _⟩
  · exact ⟨_, _, rfl⟩
  · exact ⟨_, _, rfl⟩
theorem joinTo_step (xs : List ByteArray) (k : Nat) : joinTo xs (k + 1) = (if 0 < k then joinTo xs k ++ ⟨#[10]⟩ else joinTo xs k) ++ xs.getD k ⟨#[]⟩ := rfl
theorem spTo_step (xs : List ByteArray) (k : Nat) (hk : k < xs.length) : withSep 32 (xs.take (k + 1)) = withSep 32 (xs.take k) ++ xs.getD k ⟨#[]⟩ ++ ⟨#[32]⟩ := by
  rw [List.take_succ_eq_append_getElem hk, withSep_snoc, List.getD_eq_getElem?_getD, List.getElem?_eq_getElem hk]; rfl

theorem words_eq (s : ByteArray) (ws : List ByteArray) (w : World) (hs : s.size ≤ 1099511627776) (h : wordsOf s = ws) :
    Calls Try.prog 12 #[.string s] w fun e w' => ∃ v, e = .returned v ∧ Texts w' w.heap.size v ws ∧ Below w.heap.size w w' := by
  subst h; exact impl_words s hs w
theorem specWords_eq (s : ByteArray) (ws : List ByteArray) (w : World) (hs : s.size ≤ 1099511627776) (h : wordsOf s = ws) :
    Calls Try.prog 16 #[.string s] w fun e w' => ∃ v, e = .returned v ∧ Texts w' w.heap.size v ws ∧ Below w.heap.size w w' := by
  subst h; exact spec_words s w hs
theorem drawWords_eq (a : Option Addr) (len cap : Nat) (zs : List Int) (T : ByteArray) (w : World) (hr : Row8 w w.heap.size a len cap zs) (hl : len ≤ 1048576) (h : wordsDraw zs len = T) :
    Calls Try.prog 13 #[.slice a len cap] w fun e w' => e = .returned (.string T) ∧ Below w.heap.size w w' := by
  subst h; exact drawWords_at a len cap zs w hr hl

set_option maxHeartbeats 4000000 in
/-- The law's walk. -/
theorem law_lines2 (a : Option Addr) (len cap : Nat) (zs : List Int) (w : World) (hr : IsRow .u8 w a len cap zs) :
    Calls Try.prog 3 #[.slice a len cap] w fun e w' => e = .returned (.bool true) ∧ Below w.heap.size w w' := by
  have hr := row8_of hr
  by_cases hbig : 1048576 < len
  · have hd : decide (1048576 < len) = true := by simpa using hbig
    go_enter Try.func3, Try.ntmps3
    go_wp2_with (go_at_call 9; refine (big_any _ _ _ _).mono ?_; rintro e w' ⟨rfl, rfl⟩)
    go_ret
    exact ⟨rfl, Below.refl _ _⟩
  · have hd : decide (1048576 < len) = false := by simpa using hbig
    have hlen : len ≤ 1048576 := by omega
    go_enter Try.func3, Try.ntmps3
    go_wp2_with (first | (go_at_call 9; refine (big_any _ _ _ _).mono ?_; rintro e w' ⟨rfl, rfl⟩) | (go_at_call 10; refine (drawLines_any a len cap zs _ hr hlen).mono ?_; rintro e w1 ⟨s, rfl, hs, hb1⟩; refine Hid.out ?_))
    refine Lib.hid ?_
    have hr1 := hr.later hb1
    go_wp2_with (go_at_call 11; refine (impl_lines s (by omega) _).mono ?_; rintro e w2 ⟨g0, rfl, hg0, hb2⟩; refine Hid.out ?_)
    refine Lib.hid ?_
    have hb2' := hb1.trans (hb2.mono hb1.size)
    obtain ⟨ga, gc, hgv⟩ := hg0.slice
    have hln := linesOf_len s
    have hcells : Hid (∀ k, k < (linesOf s).length → ∃ g cap, g0 = .slice (some ⟨g, 0, none⟩) (linesOf s).length cap ∧ w2.cell? ⟨g, k, none⟩ = some (.string ((linesOf s).getD k ⟨#[]⟩))) := Lib.hid fun k hk => hg0.cellAt k hk
    have hjs : Hid (∀ k, k ≤ (linesOf s).length → (joinTo (linesOf s) k).size ≤ k * (s.size + 1)) := Lib.hid fun k hk => join_size _ _ _ (lines_sizes s) hk
    subst hgv
    go_wp2_with fail
    go_loop [5, 6] (fun jv i => ∃ k : Nat, k ≤ (linesOf s).length ∧ i = .int .i64 k ∧ Hid (jv = .string (joinTo (linesOf s) k))) (fun _ i => (linesOf s).length - (intOf i).toNat)
    case atStart => exact ⟨0, Nat.zero_le _, rfl, Lib.hid rfl⟩
    case round =>
      obtain ⟨k, hk, rfl, hj⟩ := hrel
      have hj := hj.out
      subst hj
      have hjk := hjs.out k hk
      have hj31 : k * (s.size + 1) ≤ 31 * 31 := Nat.mul_le_mul (by omega) (by omega)
      by_cases hlt : k < (linesOf s).length
      · obtain ⟨g, cap', hgv, hcell⟩ := hcells.out k hlt
        cases hgv
        have hxs : ((linesOf s).getD k ⟨#[]⟩).size ≤ s.size := by
          rw [List.getD_eq_getElem?_getD, List.getElem?_eq_getElem hlt]; exact lines_sizes s _ (List.getElem_mem _)
        have hst := Lib.hid (joinTo_step (linesOf s) k)
        simp only [List.getD_eq_getElem?_getD] at *
        generalize ((linesOf s)[k]?.getD ⟨#[]⟩) = x at *
        generalize joinTo (linesOf s) k = J at *
        have hJ : J.size ≤ 961 := by omega
        clear hjk hj31
        by_cases hk0 : 0 < k
        · rw [if_pos hk0] at hst
          go_wp2_with fail
          go_round
          case rel => exact ⟨k + 1, by omega, by go_num, Lib.hid (by rw [hst.out])⟩
          case measure => simp [intOf]; omega
        · rw [if_neg hk0] at hst
          go_wp2_with fail
          go_round
          case rel => exact ⟨k + 1, by omega, by go_num, Lib.hid (by rw [hst.out])⟩
          case measure => simp [intOf]; omega
      · obtain rfl : k = (linesOf s).length := by omega
        rw [join_lines s]
        clear hcells hjs hjk hj31 hj
        have hr2 := hr.later hb2'
        have hwd := wordsDraw_le zs len
        go_wp2_with (go_at_call 13; refine (drawWords_at a len cap zs _ hr2 hlen).mono ?_; rintro e w3 ⟨rfl, hb3⟩; refine Hid.out ?_)
        refine Lib.hid ?_
        have hg3 := hg0.later hb3
        have hb3' := hb2'.trans (hb3.mono hb2'.size)
        generalize hT : wordsDraw zs len = T at *
        have hT := Lib.hid hT
        go_wp2_with (go_at_call 12; refine (impl_words T (by omega) _).mono ?_; rintro e w4 ⟨v0, rfl, hv0, hb4⟩; refine Hid.out ?_)
        refine Lib.hid ?_
        have hg4 := hg3.later hb4
        have hb4' := hb3'.trans (hb4.mono hb3'.size)
        have hwn := Lib.hid (words_nb T)
        have hwl := wordsOf_len T
        have hwz := Lib.hid (words_sizes T)
        generalize hWS : wordsOf T = ws at *
        have hWS := Lib.hid hWS
        obtain ⟨va, vc, hvv⟩ := hv0.slice
        have hcells : Hid (∀ k, k < ws.length → ∃ g cap, v0 = .slice (some ⟨g, 0, none⟩) ws.length cap ∧ w4.cell? ⟨g, k, none⟩ = some (.string (ws.getD k ⟨#[]⟩))) := Lib.hid fun k hk => hv0.cellAt k hk
        subst hvv
        clear hg0 hg3 hb2 hb3 hb4 hr1 hr2
        go_wp2_with fail
        go_loop [8, 9] (fun jv i => ∃ k : Nat, k ≤ ws.length ∧ i = .int .i64 k ∧ Hid (jv = .string (withSep 32 (ws.take k)))) (fun _ i => ws.length - (intOf i).toNat)
        case atStart => exact ⟨0, Nat.zero_le _, rfl, Lib.hid rfl⟩
        case round =>
          obtain ⟨k, hk, rfl, hj⟩ := hrel
          have hj := hj.out
          subst hj
          have hls := withSep_size 32 (ws.take k) 30 (fun x hx => by have := hwz.out x (List.mem_of_mem_take hx); omega)
          have hlk : (ws.take k).length ≤ 31 := by rw [List.length_take]; omega
          have hls : (withSep 32 (ws.take k)).size ≤ 31 * 31 := by omega
          by_cases hlt : k < ws.length
          · obtain ⟨g, cap', hgv, hcell⟩ := hcells.out k hlt
            cases hgv
            have hxs : (ws.getD k ⟨#[]⟩).size ≤ 30 := by
              rw [List.getD_eq_getElem?_getD, List.getElem?_eq_getElem hlt]; have := hwz.out _ (List.getElem_mem hlt); simp; omega
            have hst := Lib.hid (spTo_step ws k hlt)
            simp only [List.getD_eq_getElem?_getD] at *
            generalize (ws[k]?.getD ⟨#[]⟩) = x at *
            generalize withSep 32 (ws.take k) = J at *
            go_wp2_with fail
            go_round
            case rel => exact ⟨k + 1, by omega, by go_num, Lib.hid (by rw [hst.out])⟩
            case measure => simp [intOf]; omega
          · obtain rfl : k = ws.length := by omega
            rw [List.take_length] at *
            have hback := Lib.hid (words_back ws hwn.out)
            generalize withSep 32 ws = L at *
            go_wp2_with (go_at_call 15; refine (spec_lines s _ (by omega)).mono ?_; rintro e w5 ⟨l1, rfl, hl1, hb5⟩; refine Hid.out ?_)
            refine Lib.hid ?_
            have hb5' := hb4'.trans (hb5.mono hb4'.size)
            have hg5 := hg4.later hb5
            have hv5 := hv0.later hb5
            clear hg4 hv0 hb5 hcells
            go_wp2_with (go_at_call 14; refine (same_texts _ _ _ _ _ _ hg5 hl1).mono ?_; rintro e w6 ⟨rfl, n6, rfl⟩; refine Hid.out ?_)
            refine Lib.hid ?_
            have hv6 := hv5.drewN n6
            have hb6 : Below w.heap.size w (w5.drewN n6) := hb5'.trans (below_draws _ _ _)
            generalize hW6 : w5.drewN n6 = w6 at *
            clear hW6 hg5 hl1 hv5
            have hLs : L.size ≤ 1099511627776 := by omega
            go_wp2_with (go_at_call 12; refine (words_eq _ _ _ hLs hback.out).mono ?_; rintro e w7 ⟨v2, rfl, hv2, hb7⟩; refine Hid.out ?_)
            refine Lib.hid ?_
            have hv7 := hv6.later hb7
            have hb7' := hb6.trans (hb7.mono hb6.size)
            clear hv6 hb7
            go_wp2_with (go_at_call 14; refine (same_texts _ _ _ _ _ _ hv2 hv7).mono ?_; rintro e w8 ⟨rfl, n8, rfl⟩; refine Hid.out ?_)
            refine Lib.hid ?_
            have hv8 := hv7.drewN n8
            have hb8 : Below w.heap.size w (w7.drewN n8) := hb7'.trans (below_draws _ _ _)
            generalize hW8 : w7.drewN n8 = w8 at *
            clear hW8 hv7 hv2
            have hr8 := hr.later hb8
            go_wp2_with (go_at_call 13; refine (drawWords_eq a len cap zs _ _ hr8 hlen hT.out).mono ?_; rintro e w9 ⟨rfl, hb9⟩; refine Hid.out ?_)
            refine Lib.hid ?_
            have hv9 := hv8.later hb9
            have hb9' := hb8.trans (hb9.mono hb8.size)
            clear hv8 hb9 hr8
            have hTs : T.size ≤ 1099511627776 := by omega
            go_wp2_with (go_at_call 16; refine (specWords_eq _ _ _ hTs hWS.out).mono ?_; rintro e w10 ⟨v3, rfl, hv3, hb10⟩; refine Hid.out ?_)
            refine Lib.hid ?_
            have hv10 := hv9.later hb10
            have hb10' := hb9'.trans (hb10.mono hb9'.size)
            clear hv9 hb10
            go_wp2_with (go_at_call 14; refine (same_texts _ _ _ _ _ _ hv10 hv3).mono ?_; rintro e w11 ⟨rfl, n11, rfl⟩)
            go_ret
            exact ⟨rfl, hb10'.trans (below_draws _ _ _)⟩
end Go.Proofs.Ytcehmcnkalilnaa
