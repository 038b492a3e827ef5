/-
  Several texts of mine, one behind the other: Ref01, Ref02.
-/
import Derived.Test.YtnoegbdmjinfjaaMgG
import Derived.Test.YtnoegbdmjinfjaaProg
import Derived.Deep.QuietTactic
import Derived.BigQuiet
import Derived.Outline

/-
  What the document's own answers of layer 1 do, a contract each.
-/
namespace Go.Proofs.Ytnoegbdmjinfjaa
set_option maxRecDepth 20000
open Go.RowKit

end Go.Proofs.Ytnoegbdmjinfjaa

/-
  What the document's own answers of layer 2 do, a contract each.
-/
namespace Go.Proofs.Ytnoegbdmjinfjaa
set_option maxRecDepth 20000
open Go.RowKit

theorem refSame_frame (u v : Value) (f g : Fr) (w : World) (hu : FrV w u f) (hv : FrV w v g) :
    Calls Try.prog 11 #[u, v] w fun e w' => e = .returned (.bool (decide (f = g))) ∧ Below w.heap.size w w' := by
  obtain ⟨pu, rfl, hpu⟩ := hu
  obtain ⟨pv, rfl, hpv⟩ := hv
  go_enter Try.func11, Try.ntmps11
  go_wp2_with (go_at_call 36; refine (same_any _ _ _ _ _ ((hpu.alloc _).alloc _) ((hpv.alloc _).alloc _)).mono ?_; rintro e w' ⟨rfl, nq, rfl⟩)
  all_goals go_ret
  all_goals (refine ⟨congrArg (fun b => Ending.returned (Value.bool b)) (Bool.eq_iff_iff.2 ?_), below_drewN (((Below.refl _ _).alloc (Nat.le_refl _) _).alloc (by simp) _) _⟩; clear hpu hpv; simp_all [Fr.eq_iff])
end Go.Proofs.Ytnoegbdmjinfjaa
