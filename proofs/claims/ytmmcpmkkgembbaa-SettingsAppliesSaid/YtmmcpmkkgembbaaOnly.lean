
/-
  The only operation that is ready, in a region that draws its order. No program is named here.
-/
import Derived.Test.YtmmcpmkkgembbaaRegion
namespace Go.Proofs.Ytmmcpmkkgembbaa
open Go.RowKit
theorem wpAny_only {P : Program} {md : Region.Mode} {ops : Array Oper} {Q : Exit → Act → World → Prop} (i : Nat) (d : Tmp) {fuel : Nat} {listed : Array Bool} {a : Act} {w : World}
    (hr : Region.ready md ops listed = [i]) (hd : (ops[i]?).map (fun o => (o.dst, o.guard)) = some (some d, none)) (R : Value → World → Prop) (h : ∀ o, ops[i]? = some o → gives P o a.eval w R)
    (hK : ∀ v w', R v w' → wpAny P md ops Q fuel (listed.setIfInBounds i true) (a.put (some d) v) w') : wpAny P md ops Q (fuel + 1) listed a w := by
  refine wpAny_all hr (by simp) fun j hj => ?_
  simp only [List.mem_singleton] at hj
  subst hj
  cases ho : ops[j]? with
  | none => rw [ho] at hd; cases hd
  | some o =>
    rw [ho] at hd
    simp only [Option.map_some, Option.some.injEq, Prod.mk.injEq] at hd
    unfold wpOp
    simp only [ho, wanted_none hd.2, if_true]
    exact .inl (wp_of_gives (h o ho) (by rw [hd.1]; exact hK))
end Go.Proofs.Ytmmcpmkkgembbaa
