/-
  How arguments that are frames are opened: two of them by value.
-/
import Derived.Test.YtpnpbdekeockcaaFrame
import Derived.Test.YtpnpbdekeockcaaFrameList
import Derived.Deep.Slices
import Derived.Deep.Fields
import Derived.ChangeSame
namespace Go.Proofs.Ytpnpbdekeockcaa
open Go.ChangeShapes Go.WideShapes Go.ChangeAt Go.RowKit Go.Joins Go.Deep

section
variable {H : Type} {enc : TypeId × Value → H} {P : Program} {W : World}

/-- a cell that is a slice of bytes -/
theorem sl_cell {t e : TypeId} {v : Value} {n : Nat} {x : DataW H × List MemPlace} (ht : P.underlying t = some (.slice e)) (he : P.underlying e = some (.int .u8)) (hc : P.cellsOf e = 1)
    (h : DataW.trod enc P W 0 (fun _ => true) true n t [v] = some x) : ∃ zs, Sl .u8 W v zs := by
  rcases DataW.trod_slice ht h with ⟨e1, _⟩ | ⟨a, len, cap, _, _, _, _, e1, _⟩
  · simp only [List.cons.injEq, and_true] at e1
    subst e1
    exact ⟨[], Sl.nil _ _⟩
  · simp only [List.cons.injEq, and_true] at e1
    subst e1
    obtain ⟨d, p⟩ := x
    exact sl_open ht he hc ⟨n, h⟩
/-- the four cells of a frame -/
theorem frame_open {t eb : TypeId} {f0 f1 f2 f3 : Field} {c0 c1 c2 c3 : Value} {fuel : Nat} {x : DataW H × List MemPlace} (hs : P.underlying t = some (.struct #[f0, f1, f2, f3])) (hone : oneCellFields P #[f0, f1, f2, f3] = true)
    (k0 : P.underlying f0.type = some (.int .i64)) (k1 : P.underlying f1.type = some (.int .i64)) (k2 : P.underlying f2.type = some (.int .i64)) (k3 : P.underlying f3.type = some (.slice eb)) (kb : P.underlying eb = some (.int .u8)) (hb : P.cellsOf eb = 1)
    (h : DataW.trod enc P W 0 (fun _ => true) true fuel t [c0, c1, c2, c3] = some x) : ∃ f : Fr, c0 = .int .i64 f.kind ∧ c1 = .int .i64 f.flags ∧ c2 = .int .i64 f.stream ∧ Sl .u8 W c3 f.pay := by
  obtain ⟨xs, n, _, _, _, hlen, hg⟩ := DataW.trod_struct hs h
  obtain ⟨o0, l0⟩ := hone_of hone 0 f0 rfl
  obtain ⟨o1, l1⟩ := hone_of hone 1 f1 rfl
  obtain ⟨o2, l2⟩ := hone_of hone 2 f2 rfl
  obtain ⟨o3, l3⟩ := hone_of hone 3 f3 rfl
  match xs, hlen with
  | [y0, y1, y2, y3], _ =>
    have g0 : DataW.trod enc P W 0 (fun _ => true) true n f0.type [c0] = some y0 := by simpa [o0, l0] using hg 0 f0 rfl
    have g1 : DataW.trod enc P W 0 (fun _ => true) true n f1.type [c1] = some y1 := by simpa [o1, l1] using hg 1 f1 rfl
    have g2 : DataW.trod enc P W 0 (fun _ => true) true n f2.type [c2] = some y2 := by simpa [o2, l2] using hg 2 f2 rfl
    have g3 : DataW.trod enc P W 0 (fun _ => true) true n f3.type [c3] = some y3 := by simpa [o3, l3] using hg 3 f3 rfl
    obtain ⟨a0, e0, _, _⟩ := DataW.trod_int k0 g0
    obtain ⟨a1, e1, _, _⟩ := DataW.trod_int k1 g1
    obtain ⟨a2, e2, _, _⟩ := DataW.trod_int k2 g2
    obtain ⟨zs, hz⟩ := sl_cell k3 kb hb g3
    simp only [List.cons.injEq, and_true] at e0 e1 e2
    exact ⟨⟨a0, a1, a2, zs⟩, e0, e1, e2, hz⟩
/-- two frames, by value -/
theorem frames2_open {r : Reach} {b0 : Nat} {t e eb : TypeId} {f0 f1 f2 f3 : Field} {v : Value} {d : DataW H} {p : List MemPlace} (ht : P.underlying t = some (.array 2 e)) (hs : P.underlying e = some (.struct #[f0, f1, f2, f3])) (hone : oneCellFields P #[f0, f1, f2, f3] = true)
    (k0 : P.underlying f0.type = some (.int .i64)) (k1 : P.underlying f1.type = some (.int .i64)) (k2 : P.underlying f2.type = some (.int .i64)) (k3 : P.underlying f3.type = some (.slice eb)) (kb : P.underlying eb = some (.int .u8)) (hb : P.cellsOf eb = 1) (hC : P.cellsOf e = 4) (hC2 : P.cellsOf t = 8)
    (hv : Value.okWide P W r b0 t v) (h : DataW.Trod enc P W 0 (fun _ => true) true t v d p) :
    ∃ (f o : Fr) (pf po : Value), v = .agg #[.int .i64 f.kind, .int .i64 f.flags, .int .i64 f.stream, pf, .int .i64 o.kind, .int .i64 o.flags, .int .i64 o.stream, po] ∧ Sl .u8 W pf f.pay ∧ Sl .u8 W po o.pay := by
  obtain ⟨cs, rfl, hsz⟩ := okWide_array ht hv
  obtain ⟨l⟩ := cs
  rw [hC2] at hsz
  match l, hsz with
  | [c0, c1, c2, c3, c4, c5, c6, c7], _ =>
    obtain ⟨fuel, hf⟩ := h
    obtain ⟨xs, m, _, _, _, hl, hi⟩ := DataW.trod_array ht hf
    match xs, hl with
    | [y0, y1], _ =>
      have g0 : DataW.trod enc P W 0 (fun _ => true) true m e [c0, c1, c2, c3] = some y0 := by simpa [hC, Value.cells] using hi 0 (by omega)
      have g1 : DataW.trod enc P W 0 (fun _ => true) true m e [c4, c5, c6, c7] = some y1 := by simpa [hC, Value.cells] using hi 1 (by omega)
      obtain ⟨f, rfl, rfl, rfl, hpf⟩ := frame_open hs hone k0 k1 k2 k3 kb hb g0
      obtain ⟨o, rfl, rfl, rfl, hpo⟩ := frame_open hs hone k0 k1 k2 k3 kb hb g1
      exact ⟨f, o, c3, c7, rfl, hpf, hpo⟩
end

end Go.Proofs.Ytpnpbdekeockcaa
