
/-
  A great function's loop, cut into declarations: its body, taken out of the translation. No function of the program is named here.
-/
import Derived.Test.YtkljnijpmkacmaaDoorProg
import Derived.Deep.LoopGhost
import Derived.Lib.Hide
namespace Go.Proofs.YtkljnijpmkacmaaDoor

/-- the first loop of a code, and the next ones behind it (not those within) -/
def loopsOf : Code → List Code
  | .loop c => [c]
  | .seq a b => loopsOf a ++ loopsOf b
  | .block _ c => loopsOf c
  | .scope c => loopsOf c
  | .cond _ a b => loopsOf a ++ loopsOf b
  | _ => []
noncomputable def loopOf (f : Func) (k : Nat) : Code := (loopsOf ((f.body).getD .skip)).getD k .skip
end Go.Proofs.YtkljnijpmkacmaaDoor
