
/-
  Layer 19 as a machine: a queue's room, its frames, whether the last one has come. No program is named here.
-/
import Derived.Test.YtiappeagdnkedaaFrameList
import Derived.Test.YtiappeagdnkedaaTurn
namespace Go.Proofs.Ytiappeagdnkedaa
open Go.RowKit

structure Q19 where
  room : Int
  l : List Fr
  ended : Bool
def pushQ (q : Q19) (f : Fr) : Q19 := if q.ended = true then q else if q.room ≤ (q.l.length : Int) then q else { q with l := q.l ++ [f] }
def pushQE (q : Q19) : Int := if q.ended = true then 7 else if q.room ≤ (q.l.length : Int) then 4 else 0
def lastQ (q : Q19) (f : Fr) : Q19 := if q.ended = true then q else { q with l := q.l ++ [f], ended := true }
def lastQE (q : Q19) : Int := if q.ended = true then 7 else 0
def popQ (q : Q19) : Q19 := { q with l := q.l.drop 1 }
def popF (q : Q19) : Fr := q.l.headD Fr.zero
def popB (q : Q19) : Bool := !q.l.isEmpty
def sumPay (l : List Fr) : Nat := l.foldr (fun f n => f.pay.length + n) 0
theorem sumPay_append (a b : List Fr) : sumPay (a ++ b) = sumPay a + sumPay b := by
  induction a with
  | nil => simp [sumPay]
  | cons x r ih => simp only [sumPay, List.cons_append, List.foldr_cons] at ih ⊢; omega
theorem pushQ_full {room : Int} {l : List Fr} (F : Fr) (h : room ≤ (l.length : Int)) : pushQE ⟨room, l, false⟩ = 4 ∧ pushQ ⟨room, l, false⟩ F = ⟨room, l, false⟩ := by simp [pushQE, pushQ, h]
theorem pushQ_ok {room : Int} {l : List Fr} (F : Fr) (h : ¬ room ≤ (l.length : Int)) : pushQE ⟨room, l, false⟩ = 0 ∧ pushQ ⟨room, l, false⟩ F = ⟨room, l ++ [F], false⟩ := by simp [pushQE, pushQ, h]
/-- what is turned matters to a slice that is not empty alone -/
theorem Sl.turn0 {k : IntKind} {S : Nat → Prop} {w w' : World} {v : Value} {zs : List Int} (h : Sl k w v zs) (ht : Turn S w w') (hne : zs ≠ [] → ∀ g, v.ownBlock = some g → ¬ S g) : Sl k w' v zs := by
  by_cases hz : zs = []
  · subst hz
    obtain ⟨a, c, rfl, h1, h2, h3, h4⟩ := h
    rcases h4 with ⟨_, h5⟩ | ⟨b, off, rfl, hl, _⟩
    · exact ⟨a, c, rfl, h1, h2, h3, .inl ⟨rfl, h5⟩⟩
    · exact ⟨_, c, rfl, h1, h2, h3, .inl ⟨rfl, fun e => by cases e⟩⟩
  · exact h.turn ht (hne hz)
theorem SlF.turnP {S : Nat → Prop} {w w' : World} {v : Value} {ps : List (Fr × Value)} (h : SlF w v ps) (ht : Turn S w w') (hv : ∀ g, v.ownBlock = some g → ¬ S g) (hp : ∀ p ∈ ps, Sl .u8 w' p.2 p.1.pay) : SlF w' v ps := by
  obtain ⟨h1, a, cap, rfl, h2, h3, h4⟩ := h
  refine ⟨hp, a, cap, rfl, h2, h3, h4.imp_right ?_⟩
  rintro ⟨b, off, rfl, hl, hc⟩
  have hb := ht.2.2.2.2 b hl (hv b rfl)
  have hcell : ∀ j, w'.cell? ⟨b, j, none⟩ = w.cell? ⟨b, j, none⟩ := fun j => by simp [World.cell?, hb]
  refine ⟨b, off, rfl, Nat.lt_of_lt_of_le hl ht.size, fun i p hi => ?_⟩
  obtain ⟨c0, c1, c2, c3⟩ := hc i p hi
  exact ⟨(hcell _).trans c0, (hcell _).trans c1, (hcell _).trans c2, (hcell _).trans c3⟩
theorem SlF.turn {S : Nat → Prop} {w w' : World} {v : Value} {ps : List (Fr × Value)} (h : SlF w v ps) (ht : Turn S w w') (hv : ∀ g, v.ownBlock = some g → ¬ S g) (hp : ∀ p ∈ ps, p.1.pay ≠ [] → ∀ g, p.2.ownBlock = some g → ¬ S g) : SlF w' v ps := h.turnP ht hv (fun p hm => (h.1 p hm).turn0 ht (hp p hm))
/-- where its cells lie -/
theorem SlF.src {w : World} {a : Option Addr} {n c : Nat} {ps : List (Fr × Value)} (h : SlF w (.slice a n c) ps) : ∀ ad, a = some ad → ∀ (j : Nat) (u : Value), (flat ps)[j]? = some u → w.cell? (ad.add j) = some u := by
  rintro ad rfl j u hj
  obtain ⟨_, a', c', e, _, _, h3⟩ := h
  simp only [Value.slice.injEq] at e
  have hjl : j < ps.length * 4 := by rw [← flat_length]; exact (List.getElem?_eq_some_iff.1 hj).1
  rcases h3 with ⟨h3, _⟩ | ⟨b, off, e2, _, hc⟩
  · omega
  · rw [← e.1] at e2
    cases e2
    obtain ⟨p, hp⟩ : ∃ p, ps[j / 4]? = some p := ⟨ps[j / 4]'(by omega), List.getElem?_eq_getElem (by omega)⟩
    obtain ⟨c0, c1, c2, c3⟩ := hc _ p hp
    have hf := flat_at ps _ p hp
    rw [Go.WideShapes.add_plain]
    have h4 : j % 4 < 4 := Nat.mod_lt _ (by decide)
    have hj4 : j = j / 4 * 4 + j % 4 := by omega
    have hfj := hf (j % 4) h4
    rw [← hj4, hj] at hfj
    rw [show off + j = off + j / 4 * 4 + j % 4 by omega]
    generalize j % 4 = r at h4 hfj ⊢
    obtain rfl | rfl | rfl | rfl : r = 0 ∨ r = 1 ∨ r = 2 ∨ r = 3 := by omega
    · simp only [frCells, List.getElem?_cons_zero] at hfj; cases hfj; exact c0
    · simp only [frCells, List.getElem?_cons_zero, List.getElem?_cons_succ] at hfj; cases hfj; exact c1
    · simp only [frCells, List.getElem?_cons_zero, List.getElem?_cons_succ] at hfj; cases hfj; exact c2
    · simp only [frCells, List.getElem?_cons_zero, List.getElem?_cons_succ] at hfj; cases hfj; exact c3
theorem SlF.bare {w : World} {n c : Nat} {a : Option Addr} {ps : List (Fr × Value)} (h : SlF w (.slice a n c) ps) : a = none → n = 0 ∧ c = 0 := by
  rintro rfl
  obtain ⟨_, a', c', e, _, _, h3⟩ := h
  simp only [Value.slice.injEq] at e
  obtain ⟨rfl, rfl, rfl⟩ := e
  rcases h3 with ⟨h3, h4⟩ | ⟨b, off, e, _⟩
  · exact ⟨h3, h4 rfl⟩
  · cases e
theorem Sl.lt0 {k : IntKind} {w : World} {v : Value} {zs : List Int} (h : Sl k w v zs) (hne : zs ≠ []) {g : Nat} (hg : v.ownBlock = some g) : g < w.heap.size := by
  rcases h.parts with ⟨rfl, _⟩ | ⟨_, b, off, cap, rfl, _, _, hb, _⟩
  · exact absurd rfl hne
  · cases hg; exact hb
end Go.Proofs.Ytiappeagdnkedaa
