/- What FnOrder asks of put, told plainly. Condition: none. -/
import Derived.Test.YtkoohmibdaomkaaStFacts
import Derived.Test.YtkoohmibdaomkaaDecPlain
namespace Go.Proofs.Ytkoohmibdaomkaa
open Go.RowKit
set_option linter.unusedVariables false
set_option linter.unusedSimpArgs false

def kk (m : Nat) : ByteArray := ⟨#[107]⟩ ++ ⟨(Lib.itoa (m : Int)).toArray⟩
def xi (f : Nat → Nat) (i : Nat) : It := ⟨kk (i * 7 % 13), ⟨(Lib.itoa (f (i + 1) : Int)).toArray⟩⟩
theorem kk_inj : ∀ a : Fin 13, ∀ b : Fin 13, kk a.val = kk b.val → a = b := by decide +kernel
theorem kk_ok : ∀ a : Fin 13, nameOkB (kk a.val).data.toList = true ∧ (kk a.val).size ≤ 3 := by decide +kernel
theorem val_ok : ∀ a : Fin 256, (Lib.itoa (a.val : Int)).length ≤ 3 := by decide +kernel
theorem ix_inj : ∀ a : Fin 12, ∀ b : Fin 12, a.val * 7 % 13 = b.val * 7 % 13 → a = b := by decide
theorem xi_key {f : Nat → Nat} {i j : Nat} (hi : i < 12) (hj : j < 12) (h : (xi f i).k = (xi f j).k) : i = j := by
  have h1 := kk_inj ⟨i * 7 % 13, by omega⟩ ⟨j * 7 % 13, by omega⟩ h
  have h2 := ix_inj ⟨i, hi⟩ ⟨j, hj⟩ (by simpa using h1)
  simpa using h2
theorem xi_size {f : Nat → Nat} (hf : ∀ i, f i < 256) (i : Nat) : (xi f i).k.size ≤ 64 ∧ (xi f i).v.size ≤ 64 := by
  have h1 := (kk_ok ⟨i * 7 % 13, by omega⟩).2
  have h2 := val_ok ⟨f (i + 1), hf _⟩
  refine ⟨by show (kk (i * 7 % 13)).size ≤ 64; simp only at h1; omega, ?_⟩
  show (Lib.itoa (f (i + 1) : Int)).toArray.size ≤ 64
  simp only [List.size_toArray]; simp only at h2; omega
theorem xi_ok {f : Nat → Nat} (hf : ∀ i, f i < 256) (i : Nat) : itOk (xi f i) = true := by
  unfold itOk
  have h1 := (kk_ok ⟨i * 7 % 13, by omega⟩).1
  have h2 := val_ok ⟨f (i + 1), hf _⟩
  rw [Bool.and_eq_true]
  refine ⟨h1, ?_⟩
  have : (xi f i).v.size = (Lib.itoa (f (i + 1) : Int)).length := by show (Lib.itoa (f (i + 1) : Int)).toArray.size = _; simp
  rw [this]; simp only at h2; simp; omega
/-- What is new is put. -/
theorem put_new {s : St} {x : It} (hs : stOk s = true) (hl : s.items.length < 40) (hx : itOk x = true) (hn : ∀ y ∈ s.items, y.k ≠ x.k) : chgB s (putSI s x) = true ∧ stOk (putSI s x) = true ∧ (putSI s x).items.length = s.items.length + 1 ∧ ∀ a, a ∈ (putSI s x).items ↔ a ∈ s.items ∨ a = x := by
  obtain ⟨⟨b1, b2, b3⟩, b4⟩ := (stOk_iff s).1 hs
  have hm := putI_mem_iff hn
  have hlen : (putI s.items x).length = s.items.length + 1 := by
    obtain ⟨p, q, hp, hf, _, _, hq⟩ := putI_form s.items x
    rw [hf]
    simp only [List.length_append, List.length_cons, List.length_take, List.length_drop]
    rcases hq with ⟨_, h1, h2⟩ | ⟨hq, _⟩
    · exact absurd h2 (hn _ (List.getElem_mem h1))
    · omega
  have hok : stOk (putSI s x) = true := by
    rw [stOk_iff]
    refine ⟨⟨fun y hy => ?_, putI_asc b2 x, by show (putI s.items x).length ≤ 40; omega⟩, b4⟩
    rcases (hm y).1 hy with h | h
    · exact b1 y h
    · rw [h]; exact hx
  exact ⟨by unfold chgB; rw [hs, hok]; rfl, hok, hlen, hm⟩
/-- The first k, the last k of n are put. -/
def PutA (f : Nat → Nat) (k : Nat) (s : St) : Prop := stOk s = true ∧ s.talks = [] ∧ s.items.length = k ∧ ∀ a, a ∈ s.items ↔ ∃ i, i < k ∧ a = xi f i
def PutZ (f : Nat → Nat) (n k : Nat) (s : St) : Prop := stOk s = true ∧ s.talks = [] ∧ s.items.length = k ∧ ∀ a, a ∈ s.items ↔ ∃ i, n ≤ i + k ∧ i < n ∧ a = xi f i
theorem stOk_nil : stOk ⟨[], []⟩ = true := by decide
theorem PutA.nil (f : Nat → Nat) : PutA f 0 ⟨[], []⟩ := ⟨stOk_nil, rfl, rfl, fun a => ⟨fun h => by simp at h, fun ⟨i, h, _⟩ => by omega⟩⟩
theorem PutZ.nil (f : Nat → Nat) (n : Nat) : PutZ f n 0 ⟨[], []⟩ := ⟨stOk_nil, rfl, rfl, fun a => ⟨fun h => by simp at h, fun ⟨i, h, h2, _⟩ => by omega⟩⟩
theorem PutA.step {f : Nat → Nat} (hf : ∀ i, f i < 256) {k : Nat} {s : St} (h : PutA f k s) (hk : k < 12) : chgB s (putSI s (xi f k)) = true ∧ PutA f (k + 1) (putSI s (xi f k)) := by
  obtain ⟨h1, h2, h3, h4⟩ := h
  obtain ⟨e1, e2, e3, e4⟩ := put_new h1 (by omega) (xi_ok hf k) (fun y hy e => by
    obtain ⟨i, hi, rfl⟩ := (h4 y).1 hy
    have := xi_key (by omega) hk e
    omega)
  refine ⟨e1, e2, h2, by omega, fun a => ?_⟩
  rw [e4, h4]
  constructor
  · rintro (⟨i, hi, rfl⟩ | rfl)
    · exact ⟨i, by omega, rfl⟩
    · exact ⟨k, by omega, rfl⟩
  · rintro ⟨i, hi, rfl⟩
    by_cases h : i = k
    · exact .inr (by rw [h])
    · exact .inl ⟨i, by omega, rfl⟩
theorem PutZ.step {f : Nat → Nat} (hf : ∀ i, f i < 256) {n k : Nat} {s : St} (h : PutZ f n k s) (hk : k < n) (hn : n < 12) : chgB s (putSI s (xi f (n - 1 - k))) = true ∧ PutZ f n (k + 1) (putSI s (xi f (n - 1 - k))) := by
  obtain ⟨h1, h2, h3, h4⟩ := h
  obtain ⟨e1, e2, e3, e4⟩ := put_new h1 (by omega) (xi_ok hf (n - 1 - k)) (fun y hy e => by
    obtain ⟨i, hi, hi2, rfl⟩ := (h4 y).1 hy
    have := xi_key (by omega) (by omega) e
    omega)
  refine ⟨e1, e2, h2, by omega, fun a => ?_⟩
  rw [e4, h4]
  constructor
  · rintro (⟨i, hi, hi2, rfl⟩ | rfl)
    · exact ⟨i, by omega, hi2, rfl⟩
    · exact ⟨n - 1 - k, by omega, by omega, rfl⟩
  · rintro ⟨i, hi, hi2, rfl⟩
    by_cases h : i = n - 1 - k
    · exact .inr (by rw [h])
    · exact .inl ⟨i, by omega, hi2, rfl⟩
theorem put_both {f : Nat → Nat} {n : Nat} {s r : St} (h : PutA f n s) (h' : PutZ f n n r) : r = s := by
  obtain ⟨h1, h2, h3, h4⟩ := h
  obtain ⟨g1, g2, g3, g4⟩ := h'
  have : r.items = s.items := Asc.ext ((stOk_iff r).1 g1).1.2.1 ((stOk_iff s).1 h1).1.2.1 (fun a => by
    rw [h4, g4]
    exact ⟨fun ⟨i, _, hi, e⟩ => ⟨i, hi, e⟩, fun ⟨i, hi, e⟩ => ⟨i, by omega, hi, e⟩⟩)
  cases r; cases s
  simp only at this h2 g2
  rw [this, h2, g2]
theorem PutA.sm {f : Nat → Nat} (hf : ∀ i, f i < 256) {k : Nat} {s : St} (h : PutA f k s) : (∀ x ∈ s.items, x.k.size ≤ 64 ∧ x.v.size ≤ 64) := fun x hx => by
  obtain ⟨i, _, rfl⟩ := (h.2.2.2 x).1 hx; exact xi_size hf i
theorem PutZ.sm {f : Nat → Nat} (hf : ∀ i, f i < 256) {n k : Nat} {s : St} (h : PutZ f n k s) : (∀ x ∈ s.items, x.k.size ≤ 64 ∧ x.v.size ≤ 64) := fun x hx => by
  obtain ⟨i, _, _, rfl⟩ := (h.2.2.2 x).1 hx; exact xi_size hf i
end Go.Proofs.Ytkoohmibdaomkaa
