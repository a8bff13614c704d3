/- The law FnBefore: of two drawn texts one is ahead or they are one; a name has no great letters; both sides answer the same. Condition: none. -/
import Derived.Test.YtcehmcnkalilnaaText
import Derived.Test.YtcehmcnkalilnaaDrawText
import Derived.Test.YtcehmcnkalilnaaBefore
import Derived.Test.YtcehmcnkalilnaaNameOk
namespace Go.Proofs.Ytcehmcnkalilnaa
open Go.RowKit
set_option linter.unusedVariables false

theorem less_self (x : List UInt8) : Op.bytesLess x x = false := by
  induction x with
  | nil => rfl
  | cons c x ih => simp [Op.bytesLess, ih, UInt8.lt_irrefl]
theorem less_other (x y : List UInt8) (h : x ≠ y) : Op.bytesLess x y = !Op.bytesLess y x := by
  induction x generalizing y with
  | nil =>
    cases y with
    | nil => exact absurd rfl h
    | cons b y => rfl
  | cons a x ih =>
    cases y with
    | nil => rfl
    | cons b y =>
      simp only [Op.bytesLess]
      by_cases hab : a = b
      · subst hab
        rw [ih y (fun e => h (by rw [e]))]
        simp [UInt8.lt_irrefl]
      · have hba : ¬ b = a := fun e => hab e.symm
        by_cases hlt : a < b
        · have : ¬ b < a := fun h' => by simp [UInt8.lt_iff_toNat_lt] at hlt h'; omega
          simp [hba, hlt, this]
        · have : b < a := by
            have hn : a.toNat ≠ b.toNat := fun e => hab (UInt8.toNat_inj.mp e)
            simp [UInt8.lt_iff_toNat_lt] at hlt ⊢; omega
          simp [hab, hlt, this]
theorem great_no (s : ByteArray) : nameOkB (s ++ ⟨#[65]⟩).data.toList = false := by
  have e : (s ++ (⟨#[65]⟩ : ByteArray)).data.toList = s.data.toList ++ [65] := by simp
  have h : (s.data.toList ++ [65]).all nameByte = false := by
    rw [List.all_append]
    have : [(65 : UInt8)].all nameByte = false := by decide
    rw [this, Bool.and_false]
  unfold nameOkB; rw [e, h, Bool.false_and]

theorem big_any (a : Option Addr) (len cap : Nat) (w : World) : Calls Try.prog 9 #[.slice a len cap] w fun e w' => e = .returned (.bool (decide (1048576 < len))) ∧ w = w' := by
  go_enter Try.func9, Try.ntmps9
  go_wp2
  go_ret
  exact ⟨ret_bool (by simp; omega), rfl⟩

set_option maxHeartbeats 1000000 in
theorem drawBefore_any (a : Option Addr) (len cap : Nat) (zs : List Int) (w : World) (hr : Row8 w w.heap.size a len cap zs) (hl : len ≤ 1048576) :
    Calls Try.prog 17 #[.slice a len cap] w (DrawnText2 10 w) := by
  go_enter Try.func17, Try.ntmps17
  go_wp2_with (go_at_call 26; refine (new_any a len cap zs _ hr hl).mono ?_; rintro e w1 ⟨rfl, hc, hb⟩; refine Hid.out ?_)
  refine Lib.hid ?_
  have hsz := hb.size
  go_wp2_with (go_at_call 27; refine (below_any _ (by omega) _ _ _ hc).mono ?_; rintro e w2 ⟨x, ⟨hx0, hx1, _⟩, rfl, hc2, hg2⟩; refine Hid.out ?_)
  refine Lib.hid ?_
  have hx1 := hx1 (by omega)
  obtain ⟨n, rfl⟩ := Int.eq_ofNat_of_zero_le hx0
  have hb2 := below_grown hb hg2 (Nat.le_refl _) hsz
  have hsz2 := hb2.size
  clear hc hg2
  go_wp2_with (go_at_call 33; refine (text_any n (by omega) _ _ _ hc2).mono ?_; rintro e w3 ⟨s, hs, rfl, hc3, hg3⟩; refine Hid.out ?_)
  refine Lib.hid ?_
  have hb3 := below_grown hb2 hg3 (Nat.le_refl _) hsz2
  have hsz3 := hb3.size
  clear hc2 hg3
  go_wp2_with (go_at_call 34; refine (once_any _ (by omega) _ _ _ hc3).mono ?_; rintro e w4 ⟨b, rfl, hc4, hg4⟩; refine Hid.out ?_)
  refine Lib.hid ?_
  have hb4 := below_grown hb3 hg4 (Nat.le_refl _) hsz3
  have hsz4 := hb4.size
  clear hc3 hg4
  cases b
  · go_wp2_with (go_at_call 27; refine (below_any _ (by omega) _ _ _ hc4).mono ?_; rintro e w5 ⟨y, ⟨hy0, hy1, _⟩, rfl, hc5, hg5⟩; refine Hid.out ?_)
    refine Lib.hid ?_
    have hy1 := hy1 (by omega)
    obtain ⟨m, rfl⟩ := Int.eq_ofNat_of_zero_le hy0
    have hb5 := below_grown hb4 hg5 (Nat.le_refl _) hsz4
    have hsz5 := hb5.size
    clear hc4 hg5
    go_wp2_with (go_at_call 33; refine (text_any m (by omega) _ _ _ hc5).mono ?_; rintro e w6 ⟨s', hs', rfl, hc6, hg6⟩)
    go_ret2
    exact ⟨s, s', rfl, by omega, by omega, below_grown hb5 hg6 (Nat.le_refl _) hsz5⟩
  · go_wp2_with (go_at_call 28; refine (pick_lit 2 _ _ 3 3 w4 _ _ hc4 rfl (by decide) (by decide) rfl).mono ?_; rintro e w5 ⟨s', hs', rfl, hc5, hg5⟩; refine Hid.out ?_)
    refine Lib.hid ?_
    have hb5 := below_grown hb4 hg5 (Nat.le_refl _) hsz4
    go_wp2_with fail
    go_ret2
    exact ⟨s, _, rfl, by omega, by rw [ByteArray.size_append]; omega, hb5⟩

set_option maxHeartbeats 2000000 in
/-- The law's walk. -/
theorem law_before2 (a : Option Addr) (len cap : Nat) (zs : List Int) (w : World) (hr : IsRow .u8 w a len cap zs) :
    Calls Try.prog 4 #[.slice a len cap] w fun e w' => e = .returned (.bool true) ∧ Below w.heap.size w w' := by
  have hr := row8_of hr
  by_cases hbig : 1048576 < len
  · have hd : decide (1048576 < len) = true := by simpa using hbig
    go_enter Try.func4, Try.ntmps4
    go_wp2_with (go_at_call 9; refine (big_any _ _ _ _).mono ?_; rintro e w' ⟨rfl, rfl⟩)
    go_ret
    exact ⟨rfl, Below.refl _ _⟩
  · have hd : decide (1048576 < len) = false := by simpa using hbig
    have hlen : len ≤ 1048576 := by omega
    go_enter Try.func4, Try.ntmps4
    go_wp2_with (first | (go_at_call 9; refine (big_any _ _ _ _).mono ?_; rintro e w' ⟨rfl, rfl⟩) | (go_at_call 17; refine (drawBefore_any a len cap zs _ hr hlen).mono ?_; rintro e w1 ⟨x, y, rfl, hx, hy, hb1⟩; refine Hid.out ?_))
    refine Lib.hid ?_
    have hr1 := hr.later hb1
    have hxm : x.size ≤ maxLen := by unfold maxLen; omega
    have hym : y.size ≤ maxLen := by unfold maxLen; omega
    have hxm := Lib.hid hxm
    have hym := Lib.hid hym
    have tri : (x = y ∧ lessB x y = false ∧ lessB y x = false) ∨ ((x.toList == y.toList) = false ∧ ((lessB x y = true ∧ lessB y x = false) ∨ (lessB x y = false ∧ lessB y x = true))) := by
      by_cases h : x = y
      · subst h; exact .inl ⟨rfl, less_self _, less_self _⟩
      · refine .inr ⟨?_, ?_⟩
        · rw [ByteArray.toList_eq, ByteArray.toList_eq]
          simp only [beq_eq_false_iff_ne, ne_eq]
          exact fun e => h (by apply ByteArray.ext; exact Array.toList_inj.mp e)
        · have := less_other x.data.toList y.data.toList (fun e => h (by apply ByteArray.ext; exact Array.toList_inj.mp e))
          unfold lessB; rw [this]
          cases Op.bytesLess y.data.toList x.data.toList <;> simp
    rcases tri with ⟨rfl, h1, h2⟩ | ⟨hne, ⟨h1, h2⟩ | ⟨h1, h2⟩⟩
    all_goals
      go_wp2_with (first | (go_at_call 18; refine (less_any _ _ _).mono ?_; rintro e w' ⟨rfl, rfl⟩) | (go_at_call 19; refine (drawNameOk_any a len cap zs _ hr1 hlen).mono ?_; rintro e w2 ⟨s, rfl, hs, hb2⟩; refine Hid.out ?_))
      refine Lib.hid ?_
      have hsm : s.size ≤ maxLen := by unfold maxLen; omega
      have hsm := Lib.hid hsm
      have hsm2 : (s ++ (⟨#[65]⟩ : ByteArray)).size ≤ maxLen := by
        rw [ByteArray.size_append]; have : (⟨#[65]⟩ : ByteArray).size = 1 := rfl; unfold maxLen; omega
      have hsm2 := Lib.hid hsm2
      have hgr : Hid (nameOkB (s.data.toList ++ [65]) = false) := Lib.hid (by have := great_no s; rwa [show (s ++ (⟨#[65]⟩ : ByteArray)).data.toList = s.data.toList ++ [65] by simp] at this)
      have hb2 := hb1.trans (hb2.mono hb1.size)
      go_wp2_with (first | (go_at_call 18; refine (less_any _ _ _).mono ?_; rintro e w' ⟨rfl, rfl⟩) | (go_at_call 20; refine (spec_before _ _ _ hxm.out (by first | exact hym.out | exact hxm.out)).mono ?_; rintro e w' ⟨rfl, nn, rfl⟩) | (go_at_call 22; refine (spec_nameOk _ _ hsm.out).mono ?_; rintro e w' ⟨rfl, rfl⟩) | (go_at_call 21; refine (impl_nameOk _ _ (by first | exact hsm.out | exact hsm2.out)).mono ?_; rintro e w' ⟨rfl, rfl⟩))
      go_ret
      exact ⟨ret_bool (by rw [hgr.out]; rfl), hb2.trans (below_draws _ _ _)⟩
end Go.Proofs.Ytcehmcnkalilnaa
