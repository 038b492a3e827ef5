
/-
  What the laid table of states and events gives. No function of the program is named here.
-/
import Derived.Test.YtkljnijpmkacmaaDoorRows
import Derived.Test.YtkljnijpmkacmaaDoorFrame
import Derived.Test.YtkljnijpmkacmaaDoorLifeTab
import Derived.Deep.Slices
import Derived.Deep.Fields
import Derived.ChangeSame
import Derived.OpenShut
import Derived.LaidMore
import Derived.Stop.Joined
namespace Go.Proofs.YtkljnijpmkacmaaDoor
open Go.ChangeShapes Go.WideShapes Go.ChangeAt Go.RowKit Go.Joins Go.Deep

section
variable {H : Type} {enc : TypeId × Value → H} {P : Program} {W : World}
/-- the three cells of a row of the table, by what they read as -/
theorem ln_cells {spare : TypeId → Bool} {held : Bool} {t : TypeId} {f0 f1 f2 : Field} {cs : List Value} {fuel : Nat} {a0 a1 : Int} {b : Bool} {pl : List MemPlace} (hs : P.underlying t = some (.struct #[f0, f1, f2])) (hone : oneCellFields P #[f0, f1, f2] = true)
    (k0 : P.underlying f0.type = some (.int .i64)) (k1 : P.underlying f1.type = some (.int .i64)) (k2 : P.underlying f2.type = some .bool) (hl : cs.length = 3)
    (h : DataW.trod enc P W 0 spare held fuel t cs = some (.agg [.lit (.int .i64 a0), .lit (.int .i64 a1), .lit (.bool b)], pl)) : cs = [.int .i64 a0, .int .i64 a1, .bool b] := by
  obtain ⟨xs, n, _, hx, _, hlen, hg⟩ := DataW.trod_struct hs h
  obtain ⟨o0, l0⟩ := hone_of hone 0 f0 rfl
  obtain ⟨o1, l1⟩ := hone_of hone 1 f1 rfl
  obtain ⟨o2, l2⟩ := hone_of hone 2 f2 rfl
  match cs, hl with
  | [c0, c1, c2], _ =>
    match xs, hlen with
    | [y0, y1, y2], _ =>
      have g0 : DataW.trod enc P W 0 spare held n f0.type [c0] = some y0 := by simpa [o0, l0] using hg 0 f0 rfl
      have g1 : DataW.trod enc P W 0 spare held n f1.type [c1] = some y1 := by simpa [o1, l1] using hg 1 f1 rfl
      have g2 : DataW.trod enc P W 0 spare held n f2.type [c2] = some y2 := by simpa [o2, l2] using hg 2 f2 rfl
      obtain ⟨x0, e0, r0, _⟩ := DataW.trod_int k0 g0
      obtain ⟨x1, e1, r1, _⟩ := DataW.trod_int k1 g1
      obtain ⟨x2, e2, r2⟩ := DataW.trod_bool k2 g2
      subst r0 r1 r2
      simp only [Prod.mk.injEq, DataW.agg.injEq, List.map_cons, List.map_nil, List.cons.injEq, DataW.lit.injEq, Lit.int.injEq, Lit.bool.injEq, true_and, and_true] at hx
      obtain ⟨⟨rfl, rfl, rfl⟩, _⟩ := hx
      simp only [List.cons.injEq, and_true] at e0 e1 e2
      rw [e0, e1, e2]
end
theorem cell_of_rows {α : Type} {l : List α} {i j m k c : Nat} (hj : k * j + c < m) (hc : c < k) {r : List α} (h : (((l.drop (i * m)).take m).drop (j * k)).take k = r) : l[m * i + k * j + c]? = r[c]? := by
  subst h
  rw [List.getElem?_take_of_lt hc, List.getElem?_drop, List.getElem?_take_of_lt (by rw [Nat.mul_comm j k]; omega), List.getElem?_drop]
  congr 1
  rw [Nat.mul_comm i m, Nat.mul_comm j k]
  omega
theorem lfG : Tryd.prog.globalNamed "gantlet/life.table" = some 0 := by kernel_rfl
theorem lfTy : (Tryd.prog.globals[0]?).map (·.type) = some 41 := by kernel_rfl
theorem lfC0 : Tryd.prog.cellsOf 25 = 3 := by kernel_rfl
theorem lfC1 : Tryd.prog.cellsOf 40 = 27 := by kernel_rfl
theorem lfC2 : Tryd.prog.cellsOf 41 = 135 := by kernel_rfl
def lfD {H : Type} (i j : Nat) : DataW H := .agg [.lit (.int .i64 (lifeN i j).1), .lit (.int .i64 (lifeN i j).2.1), .lit (.bool (lifeN i j).2.2.1)]
theorem lf_data {H : Type} : (Rows.laid_gantlet_life_table : DataW H) = .agg ((List.range 5).map fun i => .agg ((List.range 9).map fun j => lfD i j)) := by kernel_rfl
/-- what the laid table gives the walks -/
theorem lf_of_laid {W : World} (h : laidMetH Tryd.prog [("gantlet/life.table", Rows.laid_gantlet_life_table)] W) : LfT W := by
  rw [MakeChecks.laidMetH_plain _ _ _ (by kernel_rfl)] at h
  obtain ⟨ps, ⟨g0, t0, cs0, f0, p0, q0, hg0, ht0, hv0, hd0, _⟩, _⟩ := h
  obtain rfl := Option.some.inj (lfG.symm.trans hg0)
  obtain rfl := Option.some.inj (lfTy.symm.trans ht0)
  rw [lf_data] at hd0
  obtain ⟨xs, m, rfl, hx, hlen, h5, hel⟩ := DataW.trod_array Tryd.underlying41 hd0
  rw [lfC2] at hlen
  rw [lfC1] at hel
  have hrow : ∀ i j : Nat, i < 5 → j < 9 → (((cs0.toList.drop (i * 27)).take 27).drop (j * 3)).take 3 = [.int .i64 (lifeN i j).1, .int .i64 (lifeN i j).2.1, .bool (lifeN i j).2.2.1] := by
    intro i j hi hj
    have e0 := hel i hi
    have hx1 := (Prod.mk.inj hx).1
    simp only [DataW.agg.injEq] at hx1
    have hxi := congrArg (·[i]?) hx1
    simp only [List.getElem?_map, List.getElem?_range hi, Option.map_some] at hxi
    obtain ⟨xi, hxi'⟩ : ∃ y, xs[i]? = some y := ⟨_, List.getElem?_eq_getElem (by omega)⟩
    rw [hxi'] at hxi e0
    simp only [Option.map_some, Option.some.injEq] at hxi
    obtain ⟨d0, p1⟩ := xi
    simp only at hxi
    subst hxi
    obtain ⟨ys, n, rfl, hy, hlen2, h9, hel2⟩ := DataW.trod_array Tryd.underlying40 e0
    rw [lfC0] at hel2
    have e1 := hel2 j hj
    have hy1 := (Prod.mk.inj hy).1
    simp only [DataW.agg.injEq] at hy1
    have hyj := congrArg (·[j]?) hy1
    simp only [List.getElem?_map, List.getElem?_range hj, Option.map_some] at hyj
    obtain ⟨yj, hyj'⟩ : ∃ y, ys[j]? = some y := ⟨_, List.getElem?_eq_getElem (by omega)⟩
    rw [hyj'] at hyj e1
    simp only [Option.map_some, Option.some.injEq] at hyj
    obtain ⟨d1, p2⟩ := yj
    simp only at hyj
    subst hyj
    exact ln_cells Tryd.underlying25 (by kernel_rfl) (by kernel_rfl) (by kernel_rfl) (by kernel_rfl) (by simp only [List.length_take, List.length_drop, hlen]; omega) e1
  simp only [World.var?, hg0, Option.bind_some] at hv0
  split at hv0
  · rename_i cs t fr hh
    obtain rfl := Option.some.inj hv0
    refine ⟨_, t, fr, hh, ?_⟩
    intro i j hi hj
    have r := hrow i j hi hj
    refine ⟨?_, ?_, ?_⟩
    · have := cell_of_rows (c := 0) (by omega) (by decide) r; simpa using this
    · have := cell_of_rows (c := 1) (by omega) (by decide) r; simpa using this
    · have := cell_of_rows (c := 2) (by omega) (by decide) r; simpa using this
  · cases hv0
end Go.Proofs.YtkljnijpmkacmaaDoor
