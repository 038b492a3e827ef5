
/-
  Layer 17 as a machine: a table's state, and what each call makes of it. No program is named here.
-/
import Derived.Test.YtcompnndnelamaaOwn
namespace Go.Proofs.Ytcompnndnelamaa
open Go.RowKit

/-- a table: its most, its memory, the highest id, the active ids, the late ones -/
structure St17 where
  most : Int
  mem : Int
  hi : Int
  A : List Int
  L : List Int
def St17.new (most mem : Int) : St17 := ⟨most, mem, 0, [], []⟩
def lateT (s : St17) (id : Int) : St17 := { s with L := if s.mem < ((s.L ++ [id]).length : Int) then (s.L ++ [id]).drop 1 else s.L ++ [id] }
def badId (id : Int) : Prop := id < 1 ∨ 2147483647 < id ∨ id % 2 = 0
instance (id : Int) : Decidable (badId id) := by unfold badId; infer_instance
def openS (s : St17) (id : Int) : St17 := if badId id then s else if id ≤ s.hi then s else if s.most ≤ (s.A.length : Int) then lateT { s with hi := id } id else { s with hi := id, A := s.A ++ [id] }
def openE (s : St17) (id : Int) : Int := if badId id then 1 else if id ≤ s.hi then 6 else if s.most ≤ (s.A.length : Int) then 4 else 0
def woutL (l : List Int) (n : Int) : List Int := l.filter (fun x => decide (x ≠ n))
def closeS (s : St17) (id : Int) (late : Bool) : St17 := if id ∈ s.A then (if late = true then lateT { s with A := woutL s.A id } id else { s with A := woutL s.A id }) else s
def closeE (s : St17) (id : Int) : Int := if id ∈ s.A then 0 else 5
def kindT (s : St17) (id : Int) : Int := if id < 1 ∨ id % 2 = 0 ∨ s.hi < id then 0 else if id ∈ s.A then 1 else if id ∈ s.L then 2 else 3
theorem woutL_le (l : List Int) (n : Int) : (woutL l n).length ≤ l.length := List.length_filter_le _ _
theorem lateT_le (s : St17) (id : Int) : (lateT s id).L.length ≤ s.L.length + 1 ∧ (lateT s id).A = s.A ∧ (lateT s id).hi = s.hi ∧ (lateT s id).most = s.most ∧ (lateT s id).mem = s.mem := by
  refine ⟨?_, rfl, rfl, rfl, rfl⟩
  unfold lateT
  split <;> simp
end Go.Proofs.Ytcompnndnelamaa
