
/-
  How arguments that are fields (two texts, by value) are opened. No program is named here.
-/
import Derived.Test.YtabonhiolcjnnaaFrame
import Derived.Deep.Slices
import Derived.Deep.Fields
import Derived.ChangeSame
namespace Go.Proofs.Ytabonhiolcjnnaa
open Go.ChangeShapes Go.WideShapes Go.ChangeAt Go.RowKit Go.Joins Go.Deep

section
variable {H : Type} {enc : TypeId × Value → H} {P : Program} {W : World}

/-- the two cells of a field -/
theorem fld_cells {t : TypeId} {f0 f1 : Field} {c0 c1 : Value} {fuel : Nat} {x : DataW H × List MemPlace} (hs : P.underlying t = some (.struct #[f0, f1])) (hone : oneCellFields P #[f0, f1] = true)
    (k0 : P.underlying f0.type = some .string) (k1 : P.underlying f1.type = some .string)
    (h : DataW.trod enc P W 0 (fun _ => true) true fuel t [c0, c1] = some x) : ∃ n v : ByteArray, c0 = .string n ∧ c1 = .string v ∧ n.size ≤ maxLen ∧ v.size ≤ maxLen := by
  obtain ⟨xs, n, _, _, _, hlen, hg⟩ := DataW.trod_struct hs h
  obtain ⟨o0, l0⟩ := hone_of hone 0 f0 rfl
  obtain ⟨o1, l1⟩ := hone_of hone 1 f1 rfl
  match xs, hlen with
  | [y0, y1], _ =>
    have g0 : DataW.trod enc P W 0 (fun _ => true) true n f0.type [c0] = some y0 := by simpa [o0, l0] using hg 0 f0 rfl
    have g1 : DataW.trod enc P W 0 (fun _ => true) true n f1.type [c1] = some y1 := by simpa [o1, l1] using hg 1 f1 rfl
    obtain ⟨a, e0, _, m0⟩ := DataW.trod_string k0 g0
    obtain ⟨b, e1, _, m1⟩ := DataW.trod_string k1 g1
    simp only [List.cons.injEq, and_true] at e0 e1
    exact ⟨a, b, e0, e1, m0, m1⟩
/-- a field, by value -/
theorem fld_open {r : Reach} {b0 : Nat} {t : TypeId} {f0 f1 : Field} {v : Value} {d : DataW H} {p : List MemPlace} (hs : P.underlying t = some (.struct #[f0, f1])) (hone : oneCellFields P #[f0, f1] = true)
    (k0 : P.underlying f0.type = some .string) (k1 : P.underlying f1.type = some .string) (hC : P.cellsOf t = 2)
    (hv : Value.okWide P W r b0 t v) (h : DataW.Trod enc P W 0 (fun _ => true) true t v d p) : ∃ n x : ByteArray, v = .agg #[.string n, .string x] ∧ n.size ≤ maxLen ∧ x.size ≤ maxLen := by
  obtain ⟨cs, rfl, hsz⟩ := okWide_struct hs hv
  rw [hC] at hsz
  obtain ⟨c0, c1, rfl⟩ := Go.Joins.array2 hsz
  obtain ⟨fuel, hf⟩ := h
  obtain ⟨n, x, rfl, rfl, h0, h1⟩ := fld_cells hs hone k0 k1 hf
  exact ⟨n, x, rfl, h0, h1⟩
end

end Go.Proofs.Ytabonhiolcjnnaa
