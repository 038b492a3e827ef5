
/-
  How an argument that is a slice of acts of layer 19 is opened. No function of the program is named here.
-/
import Derived.Test.YtiappeagdnkedaaFrameGen
import Derived.Test.YtiappeagdnkedaaActs19
namespace Go.Proofs.Ytiappeagdnkedaa
open Go.ChangeShapes Go.WideShapes Go.ChangeAt Go.RowKit Go.Joins Go.Deep

section
variable {H : Type} {enc : TypeId × Value → H} {P : Program} {W : World}
/-- a frame -/
theorem Opn.frame {t eb : TypeId} {g0 g1 g2 g3 : Field} (hs : P.underlying t = some (.struct #[g0, g1, g2, g3])) (h0 : g0.offset = 0 ∧ P.cellsOf g0.type = 1 ∧ P.underlying g0.type = some (.int .i64)) (h1 : g1.offset = 1 ∧ P.cellsOf g1.type = 1 ∧ P.underlying g1.type = some (.int .i64))
    (h2 : g2.offset = 2 ∧ P.cellsOf g2.type = 1 ∧ P.underlying g2.type = some (.int .i64)) (h3 : g3.offset = 3 ∧ P.cellsOf g3.type = 1 ∧ P.underlying g3.type = some (.slice eb)) (hb : P.underlying eb = some (.int .u8)) (hc : P.cellsOf eb = 1) (hC : P.cellsOf t = 4) :
    Opn enc P W t (fun cs => ∃ (F : Fr) (pv : Value), cs = [.int .i64 F.kind, .int .i64 F.flags, .int .i64 F.stream, pv] ∧ Sl .u8 W pv F.pay) :=
  ((Opn.len (enc := enc) (W := W) hs).and ((Opn.field hs 0 g0 rfl 0 1 h0.1 h0.2.1 (Opn.int h0.2.2)).and ((Opn.field hs 1 g1 rfl 1 1 h1.1 h1.2.1 (Opn.int h1.2.2)).and ((Opn.field hs 2 g2 rfl 2 1 h2.1 h2.2.1 (Opn.int h2.2.2)).and (Opn.field hs 3 g3 rfl 3 1 h3.1 h3.2.1 (Opn.ints h3.2.2 hb hc)))))).mono (by
    rintro cs ⟨hl, ⟨a, e0, _⟩, ⟨b, e1, _⟩, ⟨c, e2, _⟩, ⟨pv, zs, e3, hz⟩⟩
    rw [hC] at hl
    match cs, hl with
    | [c0, c1, c2, c3], _ =>
      simp at e0 e1 e2 e3
      subst e0 e1 e2 e3
      exact ⟨⟨a, b, c, zs⟩, c3, rfl, hz⟩)
theorem acts19_open {r : Reach} {b0 : Nat} {t e eb : TypeId} {f0 f1 g0 g1 g2 g3 : Field} {v : Value} {d : DataW H} {p : List MemPlace} (ht : P.underlying t = some (.slice e)) (hs : P.underlying e = some (.struct #[f0, f1])) (ho : f0.offset = 0 ∧ P.cellsOf f0.type = 1 ∧ P.underlying f0.type = some (.int .u8)) (ho' : f1.offset = 1 ∧ P.cellsOf f1.type = 4)
    (hf : P.underlying f1.type = some (.struct #[g0, g1, g2, g3])) (h0 : g0.offset = 0 ∧ P.cellsOf g0.type = 1 ∧ P.underlying g0.type = some (.int .i64)) (h1 : g1.offset = 1 ∧ P.cellsOf g1.type = 1 ∧ P.underlying g1.type = some (.int .i64))
    (h2 : g2.offset = 2 ∧ P.cellsOf g2.type = 1 ∧ P.underlying g2.type = some (.int .i64)) (h3 : g3.offset = 3 ∧ P.cellsOf g3.type = 1 ∧ P.underlying g3.type = some (.slice eb)) (hb : P.underlying eb = some (.int .u8)) (hc : P.cellsOf eb = 1) (hC : P.cellsOf e = 5)
    (hv : Value.okWide P W r b0 t v) (h : DataW.Trod enc P W 0 (fun _ => true) true t v d p) : ∃ ys, SlA19 W v ys := by
  have h1 := Opn.arg (Rd := fun cs => ∃ v ys, cs = [v] ∧ SlC a19C 5 W v ys ∧ ∀ y ∈ ys, Sl .u8 W y.p.2 y.p.1.pay ∧ 0 ≤ y.k ∧ y.k ≤ 255) ht hv h (Opn.rows ht (by decide) hC (fun _ => rfl) (((Opn.len (enc := enc) (W := W) hs).and ((Opn.field hs 0 f0 rfl 0 1 ho.1 ho.2.1 (Opn.u8 ho.2.2)).and (Opn.field hs 1 f1 rfl 1 4 ho'.1 ho'.2 (Opn.frame hf h0 h1 h2 h3 hb hc ho'.2)))).mono (by
    rintro cs ⟨hl, ⟨z, e0, hz⟩, ⟨F, pv, e1, hp⟩⟩
    rw [hC] at hl
    match cs, hl with
    | [c0, c1, c2, c3, c4], _ =>
      simp at e0 e1
      obtain ⟨e1, e2, e3, e4⟩ := e1
      subst e0 e1 e2 e3 e4
      exact ⟨⟨z, F, c4⟩, rfl, hp, hz⟩)))
  obtain ⟨v', ys, e1, h2, h3⟩ := h1
  simp only [List.cons.injEq, and_true] at e1
  subst e1
  exact ⟨ys, h2, h3⟩
end
end Go.Proofs.Ytiappeagdnkedaa
