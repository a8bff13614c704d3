/- A row of a state put into its list: what becomes of it; a state's results in memory. Condition: none. -/
import Derived.Test.YtdpjdjkfedcojaaGreatStateOk
import Derived.Test.YtdpjdjkfedcojaaGreatBaseA
import Derived.Laws.Rows
namespace Go.Proofs.YtdpjdjkfedcojaaGreat
open Go.RowKit
set_option linter.unusedVariables false

def posI (xs : List It) (k : ByteArray) : Nat := (xs.takeWhile fun y => lessB y.k k).length
def putI (xs : List It) (x : It) : List It :=
  xs.take (posI xs x.k) ++ x :: xs.drop (if (xs[posI xs x.k]?).map (·.k) = some x.k then posI xs x.k + 1 else posI xs x.k)
theorem posI_le (xs : List It) (k : ByteArray) : posI xs k ≤ xs.length := (List.takeWhile_prefix _).length_le
theorem posI_of (xs : List It) (key : ByteArray) (k : Nat) (hk : k ≤ xs.length) (h : ∀ j (hj : j < xs.length), j < k → lessB xs[j].k key = true) (he : k = xs.length ∨ ∃ hk : k < xs.length, lessB xs[k].k key = false) : posI xs key = k := by
  unfold posI
  induction xs generalizing k with
  | nil => simp at hk; subst hk; rfl
  | cons x xs ih =>
    cases k with
    | zero =>
      rcases he with he | ⟨_, he⟩
      · simp at he
      · rw [List.takeWhile_cons_of_neg (by simpa using he)]; rfl
    | succ k =>
      have h0 : lessB x.k key = true := h 0 (by simp) (by omega)
      rw [List.takeWhile_cons_of_pos (p := fun (y : It) => lessB y.k key) h0, List.length_cons, ih k (by simpa using hk) (fun j hj hjk => h (j + 1) (by simpa using hj) (by omega)) ?_]
      rcases he with he | ⟨h1, he⟩
      · exact .inl (by simpa using he)
      · exact .inr ⟨by simpa using h1, he⟩

def posT (xs : List Tk) (k : ByteArray) : Nat := (xs.takeWhile fun y => lessB y.c k).length
def putT (xs : List Tk) (x : Tk) : List Tk :=
  xs.take (posT xs x.c) ++ x :: xs.drop (if (xs[posT xs x.c]?).map (·.c) = some x.c then posT xs x.c + 1 else posT xs x.c)
theorem posT_le (xs : List Tk) (k : ByteArray) : posT xs k ≤ xs.length := (List.takeWhile_prefix _).length_le
theorem posT_of (xs : List Tk) (key : ByteArray) (k : Nat) (hk : k ≤ xs.length) (h : ∀ j (hj : j < xs.length), j < k → lessB xs[j].c key = true) (he : k = xs.length ∨ ∃ hk : k < xs.length, lessB xs[k].c key = false) : posT xs key = k := by
  unfold posT
  induction xs generalizing k with
  | nil => simp at hk; subst hk; rfl
  | cons x xs ih =>
    cases k with
    | zero =>
      rcases he with he | ⟨_, he⟩
      · simp at he
      · rw [List.takeWhile_cons_of_neg (by simpa using he)]; rfl
    | succ k =>
      have h0 : lessB x.c key = true := h 0 (by simp) (by omega)
      rw [List.takeWhile_cons_of_pos (p := fun (y : Tk) => lessB y.c key) h0, List.length_cons, ih k (by simpa using hk) (fun j hj hjk => h (j + 1) (by simpa using hj) (by omega)) ?_]
      rcases he with he | ⟨h1, he⟩
      · exact .inl (by simpa using he)
      · exact .inr ⟨by simpa using h1, he⟩

theorem putI_len (xs : List It) (x : It) : (putI xs x).length ≤ xs.length + 1 ∧ 0 < (putI xs x).length := by
  have hp := posI_le xs x.k
  unfold putI
  simp only [List.length_append, List.length_cons, List.length_take, List.length_drop]
  split <;> omega
theorem putI_mem {xs : List It} {x y : It} (h : y ∈ putI xs x) : y ∈ xs ∨ y = x := by
  unfold putI at h
  rcases List.mem_append.1 h with h | h
  · exact .inl (List.mem_of_mem_take h)
  · rcases List.mem_cons.1 h with h | h
    · exact .inr h
    · exact .inl (List.mem_of_mem_drop h)
def putSI (s : St) (x : It) : St := ⟨putI s.items x, s.talks⟩

theorem putT_len (xs : List Tk) (x : Tk) : (putT xs x).length ≤ xs.length + 1 ∧ 0 < (putT xs x).length := by
  have hp := posT_le xs x.c
  unfold putT
  simp only [List.length_append, List.length_cons, List.length_take, List.length_drop]
  split <;> omega
theorem putT_mem {xs : List Tk} {x y : Tk} (h : y ∈ putT xs x) : y ∈ xs ∨ y = x := by
  unfold putT at h
  rcases List.mem_append.1 h with h | h
  · exact .inl (List.mem_of_mem_take h)
  · rcases List.mem_cons.1 h with h | h
    · exact .inr h
    · exact .inl (List.mem_of_mem_drop h)
def putST (s : St) (x : Tk) : St := ⟨s.items, putT s.talks x⟩
theorem fits_putSI {s : St} {x : It} (hts : Fits s) (hx : FitIt x) : Fits (putSI s x) := ⟨fun y hy => (putI_mem hy).elim (hts.1 y) (fun h => by rw [h]; exact hx), hts.2⟩
theorem fits_putST {s : St} {x : Tk} (hts : Fits s) (hx : FitTk x) : Fits (putST s x) := ⟨hts.1, fun y hy => (putT_mem hy).elim (hts.2 y) (fun h => by rw [h]; exact hx)⟩


theorem results_cell_row2 {P : Program} {fn : Func} {p q : Tmp} {ty : TypeId} (h : fn.results = #[.cell p ty, .tmp q]) (tmps : Array Value) (w : World) (g : Nat) (t : TypeId) (cs : Array Value) (fr : Nat × Nat) (d : TypeDesc) (v : Value)
    (hp : tmps.getD p undef = .pointer (some ⟨g, 0, none⟩)) (hq : tmps.getD q undef = v) (hg : w.heap[g]? = some (.cells cs t fr))
    (hu : P.underlying ty = some d) (hd : (match d with | .struct _ | .array _ _ => true | _ => false) = true) (hi : (P.info? ty).map (·.size) = some cs.size) :
    (results fn tmps).run P w = .ok (.tuple #[.agg cs, v]) w := by
  have hp' : tmps[p]?.getD undef = .pointer (some ⟨g, 0, none⟩) := by simpa using hp
  have hq' : tmps[q]?.getD undef = v := by simpa using hq
  simp [results, h, hp', hq', asAddr, run_loadVar_row w g t ty cs fr d hg hu hd hi]

/-- What the program's changed answers. -/
def chg (s r : St) : St := if stOk s = true ∧ stOk r = true then r else s
def chgB (s r : St) : Bool := stOk s && stOk r

end Go.Proofs.YtdpjdjkfedcojaaGreat
