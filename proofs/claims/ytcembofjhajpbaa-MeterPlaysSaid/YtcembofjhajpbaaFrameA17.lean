
/-
  How an argument that is a slice of acts of layers 17 and 18 is opened. No function of the program is named here.
-/
import Derived.Test.YtcembofjhajpbaaFrameGen
import Derived.Test.YtcembofjhajpbaaActs17
namespace Go.Proofs.Ytcembofjhajpbaa
open Go.ChangeShapes Go.WideShapes Go.ChangeAt Go.RowKit Go.Joins Go.Deep

section
variable {H : Type} {enc : TypeId × Value → H} {P : Program} {W : World}
theorem acts17_open {r : Reach} {b0 : Nat} {t e : TypeId} {f0 f1 : Field} {v : Value} {d : DataW H} {p : List MemPlace} (ht : P.underlying t = some (.slice e)) (hs : P.underlying e = some (.struct #[f0, f1])) (ho : f0.offset = 0 ∧ P.cellsOf f0.type = 1) (ho' : f1.offset = 1 ∧ P.cellsOf f1.type = 1)
    (k0 : P.underlying f0.type = some (.int .u8)) (k1 : P.underlying f1.type = some (.int .i64)) (hC : P.cellsOf e = 2) (hv : Value.okWide P W r b0 t v) (h : DataW.Trod enc P W 0 (fun _ => true) true t v d p) : ∃ ys, SlA17 W v ys := by
  have h1 := Opn.arg (Rd := fun cs => ∃ v ys, cs = [v] ∧ SlC a17C 2 W v ys ∧ ∀ y ∈ ys, 0 ≤ y.k ∧ y.k ≤ 255) ht hv h (Opn.rows ht (by decide) hC (fun _ => rfl) (((Opn.len (enc := enc) (W := W) hs).and ((Opn.field hs 0 f0 rfl 0 1 ho.1 ho.2 (Opn.u8 k0)).and (Opn.field hs 1 f1 rfl 1 1 ho'.1 ho'.2 (Opn.int k1)))).mono (by
    rintro cs ⟨hl, ⟨z, e0, hz⟩, ⟨y, e1, _⟩⟩
    rw [hC] at hl
    match cs, hl with
    | [c0, c1], _ =>
      simp at e0 e1
      subst e0 e1
      exact ⟨⟨z, y⟩, rfl, hz⟩)))
  obtain ⟨v', ys, e1, h2, h3⟩ := h1
  simp only [List.cons.injEq, and_true] at e1
  subst e1
  exact ⟨ys, h2, h3⟩
end
end Go.Proofs.Ytcembofjhajpbaa
