
/-
  Regions that draw their order, walked under a held condition: an operation taken early, the only one that is ready. No program is named here.
-/
import Derived.Test.YtappehjcbjplaaaRegion
import Derived.OrdersHeld
namespace Go.Proofs.Ytappehjcbjplaaa
open Go.RowKit

theorem wpAnyH_early {P : Program} {ops : Array Oper} {Q : Exit → Act → World → Prop} {md : Region.Mode} {S : World → Prop} (i : Nat) (d : Tmp) (v : Value) {fuel : Nat} {listed : Array Bool} {a : Act} {w : World}
    (hs : Region.noSelect ops = true) (hf : Region.free md ops listed i = true) (hr : (Region.ready md ops listed).contains i = true) (hQ : ∀ c a w, Q (.panic c) (a.put (some d) v) w → Q (.panic c) a w)
    (ho : (ops[i]?).map (·.dst) = some (some d)) (hy : ∀ o, ops[i]? = some o → YieldsIf P ops S o v a) (hS : S w)
    (h : wpAnyH P md ops Q S fuel (listed.setIfInBounds i true) (a.put (some d) v) w) : wpAnyH P md ops Q S (fuel + 1) listed a w := by
  cases hi : ops[i]? with
  | none => rw [hi] at ho; cases ho
  | some o =>
    rw [hi] at ho
    have hd : o.dst = some d := by simpa using ho
    refine wpAnyH_take hi hs hf hr ?_ (hy o hi) hS ?_
    · rw [hd]; exact hQ
    · rw [hd]; exact h
theorem wpAnyH_only {P : Program} {ops : Array Oper} {Q : Exit → Act → World → Prop} {md : Region.Mode} {S : World → Prop} (i : Nat) {fuel : Nat} {listed : Array Bool} {a : Act} {w : World} (hr : Region.ready md ops listed = [i]) (hg : (ops[i]?).map (·.guard) = some none)
    (h : ∀ o, ops[i]? = some o → o.wp P a w (fun a' w' => S w' ∧ wpAnyH P md ops Q S fuel (listed.setIfInBounds i true) a' w') Q) : wpAnyH P md ops Q S (fuel + 1) listed a w := by
  refine wpAnyH_all hr (by simp) fun j hj => ?_
  simp only [List.mem_singleton] at hj
  subst hj
  cases ho : ops[j]? with
  | none => rw [ho] at hg; cases hg
  | some o =>
    rw [ho] at hg
    simp only [Option.map_some, Option.some.injEq] at hg
    unfold wpOp
    simp only [ho, wanted_none hg, if_true]
    exact .inl (h o ho)
end Go.Proofs.Ytappehjcbjplaaa
