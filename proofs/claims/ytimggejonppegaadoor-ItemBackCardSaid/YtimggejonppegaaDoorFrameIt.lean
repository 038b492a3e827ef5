
/-
  How an argument that is an item (two numbers, two texts, by value) is opened; what the laid table of kinds gives. No function of the program is named here.
-/
import Derived.Test.YtimggejonppegaaDoorRows
import Derived.Test.YtimggejonppegaaDoorFrame
import Derived.Test.YtimggejonppegaaDoorItTab
import Derived.Deep.Slices
import Derived.Deep.Fields
import Derived.ChangeSame
import Derived.OpenShut
import Derived.LaidMore
import Derived.Stop.Joined
namespace Go.Proofs.YtimggejonppegaaDoor
open Go.ChangeShapes Go.WideShapes Go.ChangeAt Go.RowKit Go.Joins Go.Deep

section
variable {H : Type} {enc : TypeId × Value → H} {P : Program} {W : World}

/-- the four cells of an item -/
theorem it_cells {t : TypeId} {f0 f1 f2 f3 : Field} {c0 c1 c2 c3 : Value} {fuel : Nat} {x : DataW H × List MemPlace} (hs : P.underlying t = some (.struct #[f0, f1, f2, f3])) (hone : oneCellFields P #[f0, f1, f2, f3] = true)
    (k0 : P.underlying f0.type = some (.int .i64)) (k1 : P.underlying f1.type = some (.int .i64)) (k2 : P.underlying f2.type = some .string) (k3 : P.underlying f3.type = some .string)
    (h : DataW.trod enc P W 0 (fun _ => true) true fuel t [c0, c1, c2, c3] = some x) : ∃ (k n : Int) (a b : ByteArray), c0 = .int .i64 k ∧ c1 = .int .i64 n ∧ c2 = .string a ∧ c3 = .string b := by
  obtain ⟨xs, n, _, _, _, hlen, hg⟩ := DataW.trod_struct hs h
  obtain ⟨o0, l0⟩ := hone_of hone 0 f0 rfl
  obtain ⟨o1, l1⟩ := hone_of hone 1 f1 rfl
  obtain ⟨o2, l2⟩ := hone_of hone 2 f2 rfl
  obtain ⟨o3, l3⟩ := hone_of hone 3 f3 rfl
  match xs, hlen with
  | [y0, y1, y2, y3], _ =>
    have g0 : DataW.trod enc P W 0 (fun _ => true) true n f0.type [c0] = some y0 := by simpa [o0, l0] using hg 0 f0 rfl
    have g1 : DataW.trod enc P W 0 (fun _ => true) true n f1.type [c1] = some y1 := by simpa [o1, l1] using hg 1 f1 rfl
    have g2 : DataW.trod enc P W 0 (fun _ => true) true n f2.type [c2] = some y2 := by simpa [o2, l2] using hg 2 f2 rfl
    have g3 : DataW.trod enc P W 0 (fun _ => true) true n f3.type [c3] = some y3 := by simpa [o3, l3] using hg 3 f3 rfl
    obtain ⟨k, e0, _⟩ := DataW.trod_int k0 g0
    obtain ⟨m, e1, _⟩ := DataW.trod_int k1 g1
    obtain ⟨a, e2, _⟩ := DataW.trod_string k2 g2
    obtain ⟨b, e3, _⟩ := DataW.trod_string k3 g3
    simp only [List.cons.injEq, and_true] at e0 e1 e2 e3
    exact ⟨k, m, a, b, e0, e1, e2, e3⟩
theorem array4 {α : Type} {cs : Array α} (h : cs.size = 4) : ∃ a b c d, cs = #[a, b, c, d] := by
  obtain ⟨l⟩ := cs
  match l, h with
  | [a, b, c, d], _ => exact ⟨a, b, c, d, rfl⟩
/-- an item, by value -/
theorem it_open {r : Reach} {b0 : Nat} {t : TypeId} {f0 f1 f2 f3 : Field} {v : Value} {d : DataW H} {p : List MemPlace} (hs : P.underlying t = some (.struct #[f0, f1, f2, f3])) (hone : oneCellFields P #[f0, f1, f2, f3] = true)
    (k0 : P.underlying f0.type = some (.int .i64)) (k1 : P.underlying f1.type = some (.int .i64)) (k2 : P.underlying f2.type = some .string) (k3 : P.underlying f3.type = some .string) (hC : P.cellsOf t = 4)
    (hv : Value.okWide P W r b0 t v) (h : DataW.Trod enc P W 0 (fun _ => true) true t v d p) : ∃ (k n : Int) (a b : ByteArray), v = .agg #[.int .i64 k, .int .i64 n, .string a, .string b] := by
  obtain ⟨cs, rfl, hsz⟩ := okWide_struct hs hv
  rw [hC] at hsz
  obtain ⟨c0, c1, c2, c3, rfl⟩ := array4 hsz
  obtain ⟨fuel, hf⟩ := h
  obtain ⟨k, n, a, b, rfl, rfl, rfl, rfl⟩ := it_cells hs hone k0 k1 k2 k3 hf
  exact ⟨k, n, a, b, rfl⟩

/-- the four cells of a row of the kinds' table, by what they read as -/
theorem shape_cells {spare : TypeId → Bool} {held : Bool} {t : TypeId} {f0 f1 f2 f3 : Field} {cs : List Value} {fuel : Nat} {a0 a1 a2 : Int} {b : Bool} {pl : List MemPlace} (hs : P.underlying t = some (.struct #[f0, f1, f2, f3])) (hone : oneCellFields P #[f0, f1, f2, f3] = true)
    (k0 : P.underlying f0.type = some (.int .i64)) (k1 : P.underlying f1.type = some (.int .i64)) (k2 : P.underlying f2.type = some (.int .i64)) (k3 : P.underlying f3.type = some .bool) (hl : cs.length = 4)
    (h : DataW.trod enc P W 0 spare held fuel t cs = some (.agg [.lit (.int .i64 a0), .lit (.int .i64 a1), .lit (.int .i64 a2), .lit (.bool b)], pl)) : cs = [.int .i64 a0, .int .i64 a1, .int .i64 a2, .bool b] := by
  obtain ⟨xs, n, _, hx, _, hlen, hg⟩ := DataW.trod_struct hs h
  obtain ⟨o0, l0⟩ := hone_of hone 0 f0 rfl
  obtain ⟨o1, l1⟩ := hone_of hone 1 f1 rfl
  obtain ⟨o2, l2⟩ := hone_of hone 2 f2 rfl
  obtain ⟨o3, l3⟩ := hone_of hone 3 f3 rfl
  match cs, hl with
  | [c0, c1, c2, c3], _ =>
    match xs, hlen with
    | [y0, y1, y2, y3], _ =>
      have g0 : DataW.trod enc P W 0 spare held n f0.type [c0] = some y0 := by simpa [o0, l0] using hg 0 f0 rfl
      have g1 : DataW.trod enc P W 0 spare held n f1.type [c1] = some y1 := by simpa [o1, l1] using hg 1 f1 rfl
      have g2 : DataW.trod enc P W 0 spare held n f2.type [c2] = some y2 := by simpa [o2, l2] using hg 2 f2 rfl
      have g3 : DataW.trod enc P W 0 spare held n f3.type [c3] = some y3 := by simpa [o3, l3] using hg 3 f3 rfl
      obtain ⟨x0, e0, r0, _⟩ := DataW.trod_int k0 g0
      obtain ⟨x1, e1, r1, _⟩ := DataW.trod_int k1 g1
      obtain ⟨x2, e2, r2, _⟩ := DataW.trod_int k2 g2
      obtain ⟨x3, e3, r3⟩ := DataW.trod_bool k3 g3
      subst r0 r1 r2 r3
      simp only [Prod.mk.injEq, DataW.agg.injEq, List.map_cons, List.map_nil, List.cons.injEq, DataW.lit.injEq, Lit.int.injEq, Lit.bool.injEq, true_and, and_true] at hx
      obtain ⟨⟨rfl, rfl, rfl, rfl⟩, _⟩ := hx
      simp only [List.cons.injEq, and_true] at e0 e1 e2 e3
      rw [e0, e1, e2, e3]
end
theorem twenty {α : Type} {l : List α} (h : l.length = 20) : l = (l.drop 0).take 4 ++ ((l.drop 4).take 4 ++ ((l.drop 8).take 4 ++ ((l.drop 12).take 4 ++ (l.drop 16).take 4))) := by
  match l, h with
  | [_, _, _, _, _, _, _, _, _, _, _, _, _, _, _, _, _, _, _, _], _ => rfl
theorem shG : Tryd.prog.globalNamed "gantlet/item.shapes" = some 0 := by kernel_rfl
theorem shTy : (Tryd.prog.globals[0]?).map (·.type) = some 44 := by kernel_rfl
theorem shC43 : Tryd.prog.cellsOf 43 = 4 := by kernel_rfl
theorem shC44 : Tryd.prog.cellsOf 44 = 20 := by kernel_rfl
/-- what the laid table gives the walks -/
theorem sh_of_laid {W : World} (h : laidMetH Tryd.prog [("gantlet/item.shapes", Rows.laid_gantlet_item_shapes)] W) : ShT W := by
  rw [MakeChecks.laidMetH_plain _ _ _ (by kernel_rfl)] at h
  obtain ⟨ps, ⟨g0, t0, cs0, f0, p0, q0, hg0, ht0, hv0, hd0, _⟩, _⟩ := h
  obtain rfl := Option.some.inj (shG.symm.trans hg0)
  obtain rfl := Option.some.inj (shTy.symm.trans ht0)
  obtain ⟨xs, m, rfl, hx, hlen, h5, hel⟩ := DataW.trod_array Tryd.underlying44 hd0
  rw [shC44] at hlen
  rw [shC43] at hel
  have e0 := hel 0 (by decide)
  have e1 := hel 1 (by decide)
  have e2 := hel 2 (by decide)
  have e3 := hel 3 (by decide)
  have e4 := hel 4 (by decide)
  match xs, h5 with
  | [x0, x1, x2, x3, x4], _ =>
    simp only [Rows.laid_gantlet_item_shapes, Prod.mk.injEq, DataW.agg.injEq, List.map_cons, List.map_nil, List.cons.injEq, and_true] at hx
    obtain ⟨⟨h0, h1, h2, h3, h4⟩, _⟩ := hx
    obtain ⟨d0, r0⟩ := x0
    obtain ⟨d1, r1⟩ := x1
    obtain ⟨d2, r2⟩ := x2
    obtain ⟨d3, r3⟩ := x3
    obtain ⟨d4, r4⟩ := x4
    simp only at h0 h1 h2 h3 h4
    subst h0 h1 h2 h3 h4
    have one : ∀ (i : Nat), i < 5 → ((cs0.toList.drop (i * 4)).take 4).length = 4 := fun i hi => by rw [List.length_take, List.length_drop, hlen]; omega
    have c0 := shape_cells Tryd.underlying43 (by kernel_rfl) (by kernel_rfl) (by kernel_rfl) (by kernel_rfl) (by kernel_rfl) (one 0 (by decide)) e0
    have c1 := shape_cells Tryd.underlying43 (by kernel_rfl) (by kernel_rfl) (by kernel_rfl) (by kernel_rfl) (by kernel_rfl) (one 1 (by decide)) e1
    have c2 := shape_cells Tryd.underlying43 (by kernel_rfl) (by kernel_rfl) (by kernel_rfl) (by kernel_rfl) (by kernel_rfl) (one 2 (by decide)) e2
    have c3 := shape_cells Tryd.underlying43 (by kernel_rfl) (by kernel_rfl) (by kernel_rfl) (by kernel_rfl) (by kernel_rfl) (one 3 (by decide)) e3
    have c4 := shape_cells Tryd.underlying43 (by kernel_rfl) (by kernel_rfl) (by kernel_rfl) (by kernel_rfl) (by kernel_rfl) (one 4 (by decide)) e4
    have hall := twenty hlen
    have c0' : (cs0.toList.drop 0).take 4 = _ := c0
    have c1' : (cs0.toList.drop 4).take 4 = _ := c1
    have c2' : (cs0.toList.drop 8).take 4 = _ := c2
    have c3' : (cs0.toList.drop 12).take 4 = _ := c3
    have c4' : (cs0.toList.drop 16).take 4 = _ := c4
    rw [c0', c1', c2', c3', c4'] at hall
    have hcs : cs0 = shCells := by
      obtain ⟨l⟩ := cs0
      simp only at hall
      rw [hall]
      rfl
    subst hcs
    simp only [World.var?, hg0, Option.bind_some] at hv0
    split at hv0
    · rename_i cs t fr hh
      obtain rfl := Option.some.inj hv0
      exact ⟨t, fr, hh⟩
    · cases hv0
end Go.Proofs.YtimggejonppegaaDoor
