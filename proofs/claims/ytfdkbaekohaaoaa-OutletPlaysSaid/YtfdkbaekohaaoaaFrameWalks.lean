
/-
  What the calls of package frame do, a contract each.
-/
import Derived.Test.YtfdkbaekohaaoaaProg
import Derived.Test.YtfdkbaekohaaoaaFrameKit
import Derived.Test.YtfdkbaekohaaoaaWireWalks
import Derived.Test.YtfdkbaekohaaoaaBytesEqual
namespace Go.Proofs.Ytfdkbaekohaaoaa
open Go.RowKit

theorem within_any (n m : Int) (w : World) : Calls Try.prog 28 #[.int .i64 n, .int .i64 m] w fun e w' => e = .returned (.bool (decide (0 ≤ n ∧ n ≤ m))) ∧ w = w' := by
  by_cases h0 : 0 ≤ n
  · have d1 : decide (0 ≤ n) = true := decide_eq_true h0
    have HD := Lib.hid (show decide (0 ≤ n ∧ n ≤ m) = decide (n ≤ m) by simp [h0])
    clear h0
    go_enter Try.func28, Try.ntmps28
    go_wp2
    go_ret
    exact ⟨by rw [HD.out]; rfl, rfl⟩
  · have d1 : decide (0 ≤ n) = false := decide_eq_false h0
    have HD := Lib.hid (show decide (0 ≤ n ∧ n ≤ m) = false by simp [h0])
    clear h0
    go_enter Try.func28, Try.ntmps28
    go_wp2
    go_ret
    exact ⟨by rw [HD.out]; rfl, rfl⟩

theorem right_any (v : Value) (f : Fr) (w : World) (h : FrV w v f) : Calls Try.prog 24 #[v] w fun e w' => e = .returned (.bool (decide f.right)) ∧ Below w.heap.size w w' := by
  obtain ⟨pv, rfl, hp⟩ := h
  obtain ⟨a, cap, rfl, _⟩ := hp
  go_enter Try.func24, Try.ntmps24
  go_wp2_with (go_at_call 28; refine (within_any _ _ _).mono ?_; rintro e w' ⟨rfl, rfl⟩)
  all_goals go_ret
  all_goals (refine ⟨congrArg (fun b => Ending.returned (Value.bool b)) (Bool.eq_iff_iff.2 ?_), (Below.refl _ _).alloc (Nat.le_refl _) _⟩; rw [show (decide f.right = true) = f.right from decide_eq_true_eq]; unfold Fr.right; simp_all <;> omega)

end Go.Proofs.Ytfdkbaekohaaoaa
