
/-
  How an argument that is one frame is opened.
-/
import Derived.Test.YtohghphegcnfkaaFrameOpen
namespace Go.Proofs.Ytohghphegcnfkaa
open Go.ChangeShapes Go.WideShapes Go.ChangeAt Go.RowKit Go.Joins Go.Deep

section
variable {P : Program} {H : Type} {enc : TypeId × Value → H} {W : World}
theorem frame1_open {r : Reach} {b0 : Nat} {t eb : TypeId} {f0 f1 f2 f3 : Field} {v : Value} {d : DataW H} {p : List MemPlace} (hs : P.underlying t = some (.struct #[f0, f1, f2, f3])) (hone : oneCellFields P #[f0, f1, f2, f3] = true)
    (k0 : P.underlying f0.type = some (.int .i64)) (k1 : P.underlying f1.type = some (.int .i64)) (k2 : P.underlying f2.type = some (.int .i64)) (k3 : P.underlying f3.type = some (.slice eb)) (kb : P.underlying eb = some (.int .u8)) (hb : P.cellsOf eb = 1) (hC : P.cellsOf t = 4)
    (hv : Value.okWide P W r b0 t v) (h : DataW.Trod enc P W 0 (fun _ => true) true t v d p) : ∃ f : Fr, FrV W v f := by
  obtain ⟨cs, rfl, hsz⟩ := okWide_struct hs hv
  obtain ⟨l⟩ := cs
  rw [hC] at hsz
  match l, hsz with
  | [c0, c1, c2, c3], _ =>
    obtain ⟨fuel, hf⟩ := h
    obtain ⟨f, rfl, rfl, rfl, hpf⟩ := frame_open hs hone k0 k1 k2 k3 kb hb hf
    exact ⟨f, c3, rfl, hpf⟩
end
end Go.Proofs.Ytohghphegcnfkaa
