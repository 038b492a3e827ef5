
/-
  A region that draws its order and only reads, and calls what makes memory: its operations one by one, in a class of worlds. No program is named here.
-/
import Derived.Test.YtiappeagdnkedaaKit
import Derived.Deep.QuietTactic
namespace Go.Proofs.Ytiappeagdnkedaa
open Go.RowKit

/-- one operation: what it leaves of a class of worlds -/
theorem quiet_take {P : Program} {ops : Array Oper} {C : World → Prop} {Q : Act → Prop} {o : Oper} {rest : List Oper} {a : Act} (v : Value) (hw : Region.wanted o (yielded ops a.tmps) = true) (h : ∀ w, C w → o.quietAt P a C w v) (hr : wpQuiet P ops C Q rest (a.put o.dst v)) : wpQuiet P ops C Q (o :: rest) a :=
  wpQuiet_step fun K hK => by rw [if_pos hw]; exact ⟨v, h, hK _ hr⟩
theorem quiet_pure {P : Program} {C : World → Prop} {o : Oper} {a : Act} {v : Value} (h : ∀ w, (execOp a.eval o).run P w = .ok (.value v) w) : ∀ w, C w → o.quietAt P a C w v := fun w _ => by
  unfold Oper.quietAt; rw [h w]; exact ⟨rfl, rfl⟩
theorem quiet_call {P : Program} {C : World → Prop} {o : Oper} {a : Act} {v : Value} (f : FuncId) (xs : Array Operand) (ts : Array TypeId) (ho : o.op = .call { callee := .value (.func f), args := xs, argTypes := ts })
    (vals : List Value) (hx : xs.toList.map a.eval = vals) (he : ∀ args w, (callFunc f args).run P w = .ok (.enter f args) w) (h : ∀ w, C w → Calls P f vals.toArray w fun e w'' => e = .returned v ∧ C w'') : ∀ w, C w → o.quietAt P a C w v := fun w hw => by
  have hx' : xs.map a.eval = vals.toArray := by rw [← hx, ← Array.toList_map, Array.toArray_toList]
  have h' := h w hw
  rw [← hx'] at h'
  unfold Oper.quietAt execOp
  simp [ho, resolve, invoke, go_sem, he, Oper.quietUpon]
  exact h'

theorem quiet_is {P : Program} {C : World → Prop} {o : Oper} {a : Act} {v : Value} (h : ∀ w, C w → (execOp a.eval o).run P w = .ok (.value v) w) : ∀ w, C w → o.quietAt P a C w v := fun w hw => by
  unfold Oper.quietAt; rw [h w hw]; exact ⟨rfl, rfl⟩
end Go.Proofs.Ytiappeagdnkedaa
