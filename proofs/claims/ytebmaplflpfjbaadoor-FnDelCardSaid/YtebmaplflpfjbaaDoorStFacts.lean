/- What the laws ask of put and drop, told plainly. Condition: none. -/
import Derived.Test.YtebmaplflpfjbaaDoorPutFacts
namespace Go.Proofs.YtebmaplflpfjbaaDoor
open Go.RowKit
set_option linter.unusedVariables false
set_option linter.unusedSimpArgs false

theorem cut_left {α : Type} (l m : List α) (x : α) (p : Nat) (h : l.length = p) : (l ++ x :: m).take p ++ (l ++ x :: m).drop (p + 1) = l ++ m := by
  have e1 : (l ++ x :: m).take p = l := List.take_left' h
  have e2 : (l ++ x :: m).drop (p + 1) = m := by
    rw [show l ++ x :: m = (l ++ [x]) ++ m by simp]
    exact List.drop_left' (by simp [h])
  rw [e1, e2]
theorem cut_not {α : Type} {f : α → ByteArray} {xs : List α} (h : Asc f xs) {i : Nat} (hi : i < xs.length) : ∀ z ∈ xs.take i ++ xs.drop (i + 1), f z ≠ f xs[i] := by
  intro z hz e
  rcases List.mem_append.1 hz with hz | hz
  · obtain ⟨j, hj, rfl⟩ := List.getElem_of_mem hz
    rw [List.length_take] at hj
    rw [List.getElem_take] at e
    have := h.uniq (by omega) hi e
    omega
  · obtain ⟨j, hj, rfl⟩ := List.getElem_of_mem hz
    rw [List.length_drop] at hj
    rw [List.getElem_drop] at e
    have := h.uniq (by omega) hi e
    omega
theorem cut_asc {α : Type} {f : α → ByteArray} {xs : List α} (h : Asc f xs) (i : Nat) : Asc f (xs.take i ++ xs.drop (i + 1)) := by
  refine h.sublist ?_
  conv => rhs; rw [← List.take_append_drop i xs]
  refine List.Sublist.append (List.Sublist.refl _) ?_
  rw [show xs.drop (i + 1) = (xs.drop i).drop 1 by rw [List.drop_drop]]
  exact List.drop_sublist _ _
theorem cut_mem {α : Type} {xs : List α} {i : Nat} (hi : i < xs.length) (a : α) : a ∈ xs ↔ a ∈ xs.take i ++ xs.drop (i + 1) ∨ a = xs[i] := by
  conv => lhs; rw [← List.take_append_drop i xs, List.drop_eq_getElem_cons hi]
  simp only [List.mem_append, List.mem_cons]
  constructor
  · rintro (h | h | h)
    · exact .inl (.inl h)
    · exact .inr h
    · exact .inl (.inr h)
  · rintro ((h | h) | h)
    · exact .inl h
    · exact .inr (.inr h)
    · exact .inr (.inl h)
theorem itemAt_not {xs : List It} {key : ByteArray} (h : ∀ z ∈ xs, z.k ≠ key) : itemAt xs key = -1 := itemAt_none (fun i hi => h _ (List.getElem_mem hi))
theorem dropS_hit {s : St} {key : ByteArray} (hok : stOk s = true) {i : Nat} (hi : itemAt s.items key = i) : dropS s key = ⟨s.items.take i ++ s.items.drop (i + 1), s.talks⟩ := by
  unfold dropS
  rw [if_pos ⟨hok, by rw [hi]; omega⟩, hi]
  simp
theorem dropS_miss {s : St} {key : ByteArray} (h : itemAt s.items key = -1) : dropS s key = s := by
  unfold dropS
  rw [if_neg (by rw [h]; omega)]
theorem chgB_both {s r : St} (h : chgB s r = true) : stOk s = true ∧ stOk r = true := by
  unfold chgB at h; simpa using h
theorem chg_of {s r : St} (h : chgB s r = true) : chg s r = r := by
  unfold chg; rw [if_pos (chgB_both h)]
theorem chg_not {s r : St} (h : chgB s r = false) : chg s r = s := by
  unfold chg
  rw [if_neg]
  rintro ⟨h1, h2⟩
  unfold chgB at h
  rw [h1, h2] at h; cases h

theorem item_facts {s : St} {x : It} (h : chgB s (putSI s x) = true) : ∃ (i : Nat) (hi : i < (putSI s x).items.length), itemAt (putSI s x).items x.k = i ∧ (putSI s x).items[i] = x ∧ itemAt (dropS (putSI s x) x.k).items x.k = -1 ∧ dropS (putSI s x) x.k = dropS s x.k := by
  obtain ⟨h1, h2⟩ := chgB_both h
  have a1 := ((stOk_iff s).1 h1).1.2.1
  have a2 := ((stOk_iff _).1 h2).1.2.1
  obtain ⟨i, hi, e1, e2⟩ := putI_at (xs := s.items) (x := x) a2
  refine ⟨i, hi, e1, e2, ?_, ?_⟩
  · rw [dropS_hit h2 e1]
    refine itemAt_not (fun z hz => ?_)
    have := cut_not a2 hi z hz
    have e3 : (putSI s x).items[i] = x := e2
    rw [e3] at this
    exact this
  · rw [dropS_hit h2 e1]
    obtain ⟨p, q, hp, hf, hl, _, hq⟩ := putI_form s.items x
    have hip : i = p := by
      have hpi : p < (putI s.items x).length := by rw [hf]; simp; omega
      have hx : (putI s.items x)[p] = x := by
        have : (putI s.items x)[p]? = some x := by rw [hf, List.getElem?_append_right (by rw [List.length_take]; omega)]; simp [Nat.min_eq_left hp]
        rw [List.getElem?_eq_getElem hpi] at this
        exact Option.some.inj this
      exact a2.uniq hi hpi (by show It.k (putI s.items x)[i] = It.k (putI s.items x)[p]; rw [e2, hx])
    subst hip
    have hcut : (putSI s x).items.take i ++ (putSI s x).items.drop (i + 1) = s.items.take i ++ s.items.drop q := by
      show (putI s.items x).take i ++ (putI s.items x).drop (i + 1) = _
      rw [hf]
      exact cut_left _ _ _ _ (by rw [List.length_take]; omega)
    rw [hcut]
    rcases hq with ⟨rfl, hl2, he⟩ | ⟨hq, hn⟩
    · rw [← he, dropS_hit h1 (ascI_at a1 hl2)]; rfl
    · rw [hq, List.take_append_drop, dropS_miss]
      · rfl
      · refine itemAt_none (fun j hj e => ?_)
        rcases Nat.lt_or_ge j i with hji | hji
        · exact lb_ne (hl j hj hji) e
        · have hi' : i < s.items.length := by omega
          obtain ⟨n1, n2⟩ := hn hi'
          rcases Nat.lt_or_ge i j with hij | hij
          · have := a1.lt hi' hj hij
            rw [e, n1] at this; cases this
          · obtain rfl : j = i := by omega
            exact n2 e

theorem drop_facts {s : St} {key : ByteArray} (h1 : stOk s = true) (hk : 0 ≤ itemAt s.items key) : ∃ (i : Nat) (hi : i < s.items.length), itemAt s.items key = i ∧ stOk (dropS s key) = true ∧ (dropS s key).items.length + 1 = s.items.length ∧
    chgB (dropS s key) (putSI (dropS s key) s.items[i]) = true ∧ putSI (dropS s key) s.items[i] = s := by
  obtain ⟨i, hi, e1, e2⟩ := itemAt_hit hk
  obtain ⟨⟨b1, b2, b3⟩, b4⟩ := (stOk_iff s).1 h1
  have hd := dropS_hit h1 e1
  have hlen : (s.items.take i ++ s.items.drop (i + 1)).length + 1 = s.items.length := by simp only [List.length_append, List.length_take, List.length_drop]; omega
  have hput : putSI (dropS s key) s.items[i] = s := by
    rw [hd]
    unfold putSI
    have : putI (s.items.take i ++ s.items.drop (i + 1)) s.items[i] = s.items := by
      refine Asc.ext (f := It.k) (putI_asc (cut_asc b2 i) _) b2 (fun a => ?_)
      rw [putI_mem_iff (cut_not b2 hi), cut_mem hi]
    simp only [this]
  have hok : stOk (dropS s key) = true := by
    rw [hd, stOk_iff]
    exact ⟨⟨fun x hx => b1 x ((cut_mem hi x).2 (.inl hx)), cut_asc b2 i, by show (s.items.take i ++ s.items.drop (i + 1)).length ≤ 40; omega⟩, b4⟩
  refine ⟨i, hi, e1, hok, by rw [hd]; exact hlen, ?_, hput⟩
  unfold chgB
  rw [hput, hok, h1]; rfl

theorem talk_facts {s : St} {x : Tk} (h : chgB s (putST s x) = true) : ∃ (i : Nat) (hi : i < (putST s x).talks.length), talkAt (putST s x).talks x.c = i ∧ (putST s x).talks[i] = x ∧ (∀ j (hj : j < (putST s x).talks.length), (putST s x).talks[j].c = x.c ↔ j = i) ∧ (putST s x).items = s.items := by
  obtain ⟨h1, h2⟩ := chgB_both h
  have a2 := ((stOk_iff _).1 h2).2.2.1
  obtain ⟨i, hi, e1, e2⟩ := putT_at (xs := s.talks) (x := x) a2
  have e3 : (putST s x).talks[i] = x := e2
  refine ⟨i, hi, e1, e2, fun j hj => ⟨fun e => a2.uniq hj hi (by rw [e3]; exact e), fun e => by subst e; exact congrArg Tk.c e2⟩, rfl⟩
end Go.Proofs.YtebmaplflpfjbaaDoor
