
/-
  What the document's own answers of layer 2 do, a contract each.
-/
import Derived.Test.YtfdkbaekohaaoaaProg
import Derived.Test.YtfdkbaekohaaoaaFrameKit
import Derived.Test.YtfdkbaekohaaoaaRef01
namespace Go.Proofs.Ytfdkbaekohaaoaa
open Go.RowKit

theorem refRight_any (v : Value) (f : Fr) (w : World) (h : FrV w v f) : Calls Try.prog 26 #[v] w fun e w' => e = .returned (.bool (decide f.right)) ∧ Below w.heap.size w w' := by
  obtain ⟨pv, rfl, hp⟩ := h
  obtain ⟨a, cap, rfl, _⟩ := hp
  go_enter Try.func26, Try.ntmps26
  go_wp2
  all_goals go_ret
  all_goals (refine ⟨congrArg (fun b => Ending.returned (Value.bool b)) (Bool.eq_iff_iff.2 ?_), (Below.refl _ _).alloc (Nat.le_refl _) _⟩; rw [show (decide f.right = true) = f.right from decide_eq_true_eq]; unfold Fr.right; simp_all <;> omega)

theorem refSame_frame (u v : Value) (f g : Fr) (w : World) (hu : FrV w u f) (hv : FrV w v g) :
    Calls Try.prog 23 #[u, v] w fun e w' => e = .returned (.bool (decide (f = g))) ∧ Below w.heap.size w w' := by
  obtain ⟨pu, rfl, hpu⟩ := hu
  obtain ⟨pv, rfl, hpv⟩ := hv
  go_enter Try.func23, Try.ntmps23
  go_wp2_with (go_at_call 10; refine (same_any _ _ _ _ _ ((hpu.alloc _).alloc _) ((hpv.alloc _).alloc _)).mono ?_; rintro e w' ⟨rfl, nq, rfl⟩)
  all_goals go_ret
  all_goals (refine ⟨congrArg (fun b => Ending.returned (Value.bool b)) (Bool.eq_iff_iff.2 ?_), below_drewN (((Below.refl _ _).alloc (Nat.le_refl _) _).alloc (by simp) _) _⟩; clear hpu hpv; simp_all [Fr.eq_iff])
end Go.Proofs.Ytfdkbaekohaaoaa
