/- What is put and deleted is not there; what is got changes nothing but the talk: as data. Condition: none. -/
import Derived.Test.YtebmaplflpfjbaaDoorReplyFacts
import Derived.Test.YtebmaplflpfjbaaDoorApplyAllPlain
import Derived.Test.YtebmaplflpfjbaaDoorDrawGood
namespace Go.Proofs.YtebmaplflpfjbaaDoor
open Go.RowKit
set_option linter.unusedVariables false
set_option linter.unusedSimpArgs false

def zed : ByteArray := ⟨#[122, 101, 100]⟩
def bV : ByteArray := ⟨#[118]⟩
def kA : ByteArray := ⟨#[97, 112, 112, 108, 101]⟩
def kN : ByteArray := ⟨#[110, 101, 119]⟩
def d1 (k : ByteArray) : Rq := ⟨zed, 1, 1, k, bV⟩
def d2 (k : ByteArray) : Rq := ⟨zed, 2, 0, k, ⟨#[]⟩⟩
def d3 (k : ByteArray) : Rq := ⟨zed, 5, 2, k, ⟨#[]⟩⟩
def d4 (k : ByteArray) : Rq := ⟨zed, 6, 0, k, ⟨#[]⟩⟩
theorem rq_all {k : ByteArray} (hk : k = kA ∨ k = kN) : rqOk (d1 k) = true ∧ rqOk (d2 k) = true ∧ rqOk (d3 k) = true ∧ rqOk (d4 k) = true ∧ itOk ⟨k, bV⟩ = true := by
  rcases hk with rfl | rfl
  · exact ⟨by kernel_rfl, by kernel_rfl, by kernel_rfl, by kernel_rfl, by kernel_rfl⟩
  · exact ⟨by kernel_rfl, by kernel_rfl, by kernel_rfl, by kernel_rfl, by kernel_rfl⟩
theorem putI_ok {s : St} {x : It} (h : stOk s = true) (hx : itOk x = true) (hl : s.items.length < 40) : stOk (putSI s x) = true := by
  obtain ⟨⟨a, b, _⟩, c⟩ := (stOk_iff s).1 h
  refine (stOk_iff _).2 ⟨⟨fun y hy => (putI_mem hy).elim (a y) (fun e => by rw [e]; exact hx), putI_asc b x, ?_⟩, c⟩
  have := (putI_len s.items x).1
  show (putI s.items x).length ≤ 40
  omega
theorem putT_ok {s : St} {x : Tk} (h : stOk s = true) (hx : tkOk x = true) (hl : s.talks.length < 20) : stOk (putST s x) = true := by
  obtain ⟨a, b, c, _⟩ := (stOk_iff s).1 h
  refine (stOk_iff _).2 ⟨a, fun y hy => (putT_mem hy).elim (b y) (fun e => by rw [e]; exact hx), putT_asc c x, ?_⟩
  have := (putT_len s.talks x).1
  show (putT s.talks x).length ≤ 20
  omega
theorem tk_zed {q : Int} {r : ByteArray} (hq : 1 ≤ q ∧ q ≤ 1000000000) (hr : (r.size : Int) ≤ 60) : tkOk ⟨zed, q, r⟩ = true := by
  have hn : nameOkB zed.data.toList = true := by kernel_rfl
  have hi : inB q 1 1000000000 = true := by unfold inB; simp; omega
  unfold tkOk
  rw [Bool.and_eq_true, Bool.and_eq_true]
  exact ⟨⟨hn, hi⟩, decide_eq_true hr⟩
/-- One step that is new: what it leaves. -/
theorem del_step {s : St} {x : Rq} (hc : x.c = zed) (hok : stOk s = true) (hx : rqOk x = true) (hst : stOk (stepS s x) = true) (ht : (stepS s x).talks.length < 20)
    (hn : ¬ (0 ≤ talkAt s.talks x.c ∧ x.q ≤ (talkOf s x.c).q)) : ap s x = (endS s x, valOf s x.k, 0) ∧ stOk (endS s x) = true ∧ (0 ≤ talkAt (endS s x).talks zed ∧ (talkOf (endS s x) zed).q = x.q) ∧ (endS s x).talks.length ≤ (stepS s x).talks.length + 1 := by
  have hq := (rqOk_parts hx).2.2.2.1
  have htk : tkOk (newT s x) = true := by unfold newT; rw [hc]; exact tk_zed hq (valOf_small hok x.k)
  have hend : stOk (endS s x) = true := putT_ok hst htk ht
  obtain ⟨t1, t2⟩ := talk_there (s := stepS s x) (x := newT s x) (chgB_true hst hend)
  refine ⟨ap_new hok hx hn hst hend, hend, ⟨?_, ?_⟩, (putT_len _ _).1⟩
  · have : (newT s x).c = zed := hc
    rw [this] at t1; exact t1
  · have e : (newT s x).c = zed := hc
    rw [e] at t2
    show (talkOf (putST (stepS s x) (newT s x)) zed).q = x.q
    rw [t2]; rfl
theorem valOf_items {s t : St} (h : s.items = t.items) (k : ByteArray) : valOf s k = valOf t k := by unfold valOf; rw [h]
theorem talk_no {s : St} (h : ∀ x ∈ s.talks, NZ x.c) : ¬ 0 ≤ talkAt s.talks zed := by
  have : talkAt s.talks zed = -1 := talkAt_none (fun i hi e => by
    have := h _ (List.getElem_mem hi)
    rw [e] at this
    exact this rfl)
  omega
theorem drop_items {s t : St} (hs : stOk s = true) (ht : stOk t = true) (h : s.items = t.items) (k : ByteArray) : (dropS s k).items = (dropS t k).items := by
  unfold dropS
  rw [hs, ht, h]
  split <;> simp_all
theorem drop_talks (s : St) (k : ByteArray) : (dropS s k).talks = s.talks := by unfold dropS; split <;> rfl
theorem del_facts {s : St} {k : ByteArray} (hk : k = kA ∨ k = kN) (hok : stOk s = true) (hz : ∀ x ∈ s.talks, NZ x.c) (hi : s.items.length ≤ 6) (ht : s.talks.length ≤ 3) :
    (apA s [d1 k, d2 k, d3 k, d4 k]).1.items = (dropS s k).items ∧ itemAt (apA s [d1 k, d2 k, d3 k, d4 k]).1.items k = -1 ∧ stOk (apA s [d1 k, d2 k, d3 k, d4 k]).1 = true ∧ ∃ r0, (apA s [d1 k, d2 k, d3 k, d4 k]).2 = [r0, bV, bV, ⟨#[]⟩] := by
  obtain ⟨q1, q2, q3, q4, qi⟩ := rq_all hk
  -- put
  have e1 : stepS s (d1 k) = putSI s ⟨k, bV⟩ := by unfold stepS; rw [if_pos (show (d1 k).n = 1 from rfl)]; rfl
  have o1 : stOk (stepS s (d1 k)) = true := by rw [e1]; exact putI_ok hok qi (by omega)
  obtain ⟨a1, k1, t1, l1⟩ := del_step (x := d1 k) rfl hok q1 o1 (by rw [e1]; show s.talks.length < 20; omega) (fun h => talk_no hz h.1)
  have v1 := reply_put (x := d1 k) hok o1 rfl
  obtain ⟨s1, hs1⟩ : ∃ z, z = endS s (d1 k) := ⟨_, rfl⟩
  have i1 : s1.items = (putSI s ⟨k, bV⟩).items := by rw [hs1, endS_items, e1]
  rw [← hs1] at k1 t1 l1 v1 a1
  have l1' : s1.talks.length ≤ 4 := by rw [e1] at l1; have : (putSI s ⟨k, bV⟩).talks.length = s.talks.length := rfl; omega
  -- get
  have e2 : stepS s1 (d2 k) = s1 := by unfold stepS; rw [if_neg (by show ¬ (0 : Int) = 1; omega), if_neg (by show ¬ (0 : Int) = 2; omega)]
  obtain ⟨a2, k2, t2, l2⟩ := del_step (x := d2 k) rfl k1 q2 (by rw [e2]; exact k1) (by rw [e2]; omega) (fun h => by
    have h2 := h.2
    rw [show (d2 k).c = zed from rfl, t1.2] at h2
    have h3 : (2 : Int) ≤ 1 := h2
    omega)
  obtain ⟨s2, hs2⟩ : ∃ z, z = endS s1 (d2 k) := ⟨_, rfl⟩
  have i2 : s2.items = s1.items := by rw [hs2]; exact reply_get (x := d2 k) rfl
  rw [← hs2] at k2 t2 l2 a2
  rw [e2] at l2
  -- delete
  have e3 : stepS s2 (d3 k) = dropS s2 k := by unfold stepS; rw [if_neg (by show ¬ (2 : Int) = 1; omega), if_pos (show (d3 k).n = 2 from rfl)]; rfl
  have o3 : stOk (stepS s2 (d3 k)) = true := by rw [e3]; exact stepS_drop k2
  obtain ⟨a3, k3, t3, l3⟩ := del_step (x := d3 k) rfl k2 q3 o3 (by rw [e3, drop_talks]; omega) (fun h => by
    have h2 := h.2
    rw [show (d3 k).c = zed from rfl, t2.2] at h2
    have h3 : (5 : Int) ≤ 2 := h2
    omega)
  have r3 := reply_del (x := d3 k) k2 rfl
  obtain ⟨s3, hs3⟩ : ∃ z, z = endS s2 (d3 k) := ⟨_, rfl⟩
  have i3 : s3.items = (dropS s2 k).items := by rw [hs3, endS_items, e3]
  rw [← hs3] at k3 t3 l3 a3 r3
  rw [e3, drop_talks] at l3
  -- get
  have e4 : stepS s3 (d4 k) = s3 := by unfold stepS; rw [if_neg (by show ¬ (0 : Int) = 1; omega), if_neg (by show ¬ (0 : Int) = 2; omega)]
  obtain ⟨a4, k4, t4, l4⟩ := del_step (x := d4 k) rfl k3 q4 (by rw [e4]; exact k3) (by rw [e4]; omega) (fun h => by
    have h2 := h.2
    rw [show (d4 k).c = zed from rfl, t3.2] at h2
    have h3 : (6 : Int) ≤ 5 := h2
    omega)
  obtain ⟨s4, hs4⟩ : ∃ z, z = endS s3 (d4 k) := ⟨_, rfl⟩
  have i4 : s4.items = s3.items := by rw [hs4]; exact reply_get (x := d4 k) rfl
  rw [← hs4] at k4 a4
  have hA : apA s [d1 k, d2 k, d3 k, d4 k] = (s4, [valOf s k, valOf s1 k, valOf s2 k, valOf s3 k]) := by
    have e : [d1 k, d2 k, d3 k, d4 k] = [] ++ [d1 k] ++ [d2 k] ++ [d3 k] ++ [d4 k] := rfl
    rw [e, apA_snoc, apA_snoc, apA_snoc, apA_snoc]
    show ((ap (ap (ap (ap s (d1 k)).1 (d2 k)).1 (d3 k)).1 (d4 k)).1, [] ++ [(ap s (d1 k)).2.1] ++ [(ap (ap s (d1 k)).1 (d2 k)).2.1] ++ [(ap (ap (ap s (d1 k)).1 (d2 k)).1 (d3 k)).2.1] ++ [(ap (ap (ap (ap s (d1 k)).1 (d2 k)).1 (d3 k)).1 (d4 k)).2.1]) = _
    rw [a1, a2, a3, a4]; rfl
  have hv1 : valOf s1 k = bV := v1.2
  have hv2 : valOf s2 k = bV := by rw [valOf_items i2]; exact hv1
  have hno : itemAt s3.items k = -1 := r3
  have hv3 : valOf s3 k = ⟨#[]⟩ := by unfold valOf; rw [if_neg (by rw [hno]; omega)]
  rw [hA, hv1, hv2, hv3]
  refine ⟨?_, ?_, k4, _, rfl⟩
  · show s4.items = _
    rw [i4, i3]
    have hp : stOk (putSI s ⟨k, bV⟩) = true := by rw [← e1]; exact o1
    have h1 := drop_items k2 hp (i2.trans i1) k
    obtain ⟨_, _, _, _, _, hd⟩ := item_facts (s := s) (x := ⟨k, bV⟩) (chgB_true hok hp)
    rw [h1]
    exact congrArg St.items hd
  · show itemAt s4.items k = -1
    rw [i4]; exact hno
end Go.Proofs.YtebmaplflpfjbaaDoor
