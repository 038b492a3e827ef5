
/-
  Layer 18 as a machine: a meter's limits and counts, and what each call makes of them. No program is named here.
-/
import Derived.Test.YtcembofjhajpbaaOwn
namespace Go.Proofs.Ytcembofjhajpbaa
open Go.RowKit

structure St18 where
  lim : List Int
  cnt : List Int
def kind6 (n : Int) : Prop := 0 ≤ n ∧ n ≤ 5
instance (n : Int) : Decidable (kind6 n) := by unfold kind6; infer_instance
def limOk (l : List Int) : Prop := l.length = 6 ∧ ∀ x ∈ l, 0 ≤ x ∧ x ≤ 10000
instance (l : List Int) : Decidable (limOk l) := by unfold limOk; infer_instance
/-- what may be: six limits and six counts, no count above its limit by more than one -/
structure Ok18 (s : St18) : Prop where
  l : limOk s.lim
  n : s.cnt.length = 6
  c : ∀ x ∈ s.cnt, 0 ≤ x ∧ x ≤ 10001
def new18 (lim : List Int) : St18 := ⟨lim, [0, 0, 0, 0, 0, 0]⟩
def bumpN (s : St18) (k : Nat) : Int := if at0 s.cnt k ≤ at0 s.lim k then at0 s.cnt k + 1 else at0 s.cnt k
def countS (s : St18) (n : Int) : St18 := if kind6 n then { s with cnt := s.cnt.set n.toNat (bumpN s n.toNat) } else s
def countO (s : St18) (n : Int) : Bool := if kind6 n then decide (at0 s.lim n.toNat < bumpN s n.toNat) else false
def kindE (n : Int) : Int := if kind6 n then 0 else 1
def clearS (s : St18) (n : Int) : St18 := if kind6 n then { s with cnt := s.cnt.set n.toNat 0 } else s
def tickS (s : St18) : St18 := { s with cnt := [0, 0, 0, 0, 0] ++ s.cnt.drop 5 }
theorem new18_ok {lim : List Int} (h : limOk lim) : Ok18 (new18 lim) := ⟨h, rfl, fun x hx => by simp [new18] at hx; omega⟩
theorem bump_rng {s : St18} (h : Ok18 s) {k : Nat} (hk : k < 6) : 0 ≤ bumpN s k ∧ bumpN s k ≤ 10001 := by
  have h1 := h.c (at0 s.cnt k) (at0_mem (by rw [h.n]; exact hk))
  have h2 := h.l.2 (at0 s.lim k) (at0_mem (by rw [h.l.1]; exact hk))
  unfold bumpN
  split <;> omega
theorem set_ok {s : St18} (h : Ok18 s) (k : Nat) {v : Int} (h0 : 0 ≤ v) (h1 : v ≤ 10001) : Ok18 { s with cnt := s.cnt.set k v } :=
  ⟨h.l, by simp [h.n], fun x hx => by
    rcases List.mem_or_eq_of_mem_set hx with hx | hx
    · exact h.c x hx
    · rw [hx]; exact ⟨h0, h1⟩⟩
theorem count_ok {s : St18} (h : Ok18 s) (n : Int) : Ok18 (countS s n) := by
  unfold countS
  split
  · rename_i hk
    have := bump_rng h (k := n.toNat) (by unfold kind6 at hk; omega)
    exact set_ok h _ this.1 this.2
  · exact h
theorem clear_ok {s : St18} (h : Ok18 s) (n : Int) : Ok18 (clearS s n) := by
  unfold clearS
  split
  · exact set_ok h _ (by decide) (by decide)
  · exact h
theorem tick_ok {s : St18} (h : Ok18 s) : Ok18 (tickS s) :=
  ⟨h.l, by simp [tickS, h.n], fun x hx => by
    simp only [tickS] at hx
    rcases List.mem_append.1 hx with hx | hx
    · simp at hx; omega
    · exact h.c x (List.mem_of_mem_drop hx)⟩
theorem six {l : List Int} (h : l.length = 6) : ∃ a b c d e f, l = [a, b, c, d, e, f] := by
  match l, h with
  | [a, b, c, d, e, f], _ => exact ⟨a, b, c, d, e, f, rfl⟩
/-- the cells of such a meter, as they lie -/
def cells18 (s : St18) : Array Value := ((s.lim ++ s.cnt).map (Value.int .i64)).toArray
theorem cells18_lim {s : St18} (h : s.lim.length = 6) {k : Nat} (hk : k < 6) : (cells18 s)[k]? = some (.int .i64 (at0 s.lim k)) := by
  have e : (cells18 s)[k]? = ((s.lim ++ s.cnt).map (Value.int .i64))[k]? := by simp [cells18]
  rw [e, List.getElem?_map, List.getElem?_append_left (by omega), List.getElem?_eq_getElem (by omega)]
  simp [at0, show k < s.lim.length by omega]
theorem cells18_cnt {s : St18} (h : s.lim.length = 6) (hc : s.cnt.length = 6) {k : Nat} (hk : k < 6) : (cells18 s)[6 + k]? = some (.int .i64 (at0 s.cnt k)) := by
  have e : (cells18 s)[6 + k]? = ((s.lim ++ s.cnt).map (Value.int .i64))[6 + k]? := by simp [cells18]
  rw [e, List.getElem?_map, List.getElem?_append_right (by omega), h, Nat.add_sub_cancel_left, List.getElem?_eq_getElem (by omega)]
  simp [at0, show k < s.cnt.length by omega]
theorem cells18_set {s : St18} (h : s.lim.length = 6) (k : Nat) (v : Int) : (cells18 s).setIfInBounds (6 + k) (.int .i64 v) = cells18 { s with cnt := s.cnt.set k v } := by
  simp only [cells18, List.setIfInBounds_toArray]
  congr 1
  rw [← List.map_set, List.set_append_right _ _ (by omega), h, Nat.add_sub_cancel_left]
end Go.Proofs.Ytcembofjhajpbaa
