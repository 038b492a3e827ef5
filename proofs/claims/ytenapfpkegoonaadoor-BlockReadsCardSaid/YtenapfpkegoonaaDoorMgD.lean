/-
  Several texts of mine, one behind the other: Frame, FrameFld, FrameIt, DynKit, FrameBlk, StatTab, Fld, Builds, StatGet, DynTab, DynIter, DynDel, DynSmall, Moved, DynShrink, DynOps, Ref07, Ref07Add, BlkMath, DynAdd, DynClone.
-/
import Derived.Test.YtenapfpkegoonaaDoorMgC
import Derived.ProofKit
import Derived.OpenShut
import Derived.ShutString
import Derived.ChangeOld
import Derived.Below
import Derived.Lib.SmallJoins
import Derived.Deep.Slices
import Derived.Deep.Fields
import Derived.ChangeSame
import Derived.Test.YtenapfpkegoonaaDoorRows
import Derived.LaidMore
import Derived.Stop.Joined
import Derived.Test.YtenapfpkegoonaaDoorProg
import Derived.Lib.SliceRun
import Derived.WalkArith
import Derived.WalkKit
import Derived.Laws.StructEq
import Derived.Lib.Hide
import Derived.Deep.WholeRow
import Derived.Great.BuildSlice
import Derived.Laws.CopyOwn
import Derived.Deep.Draws
import Derived.Outline
import Derived.WalkSmall
import Derived.OwnWalkIn
import Derived.TacticsInMore
import Derived.LoopNIn
import Derived.LoopIn
import Derived.Laws.OwnMore
import Derived.Shelf.RegionOpenPlain
import Derived.Deep.RegionLaw
import Derived.Sort.WalkB12
import Derived.Lib.UnsafeStr
import Derived.Lib.BufferWrite
import Derived.Laws.MakeOwn
import Derived.OrdersIn
import Derived.RangeFuncCalls
import Derived.WalkMore
import Derived.Shelf.Abstract
import Derived.Maps.AppendAt
import Derived.Deep.QuietTactic
import Derived.Deep.LoopGhost

/-
  How the arguments of the statements of this seat are opened: slices of integers, short arrays of integers by value.
-/
namespace Go.Proofs.YtenapfpkegoonaaDoor
open Go.ChangeShapes Go.WideShapes Go.ChangeAt Go.RowKit

section
variable {H : Type} {enc : TypeId × Value → H} {P : Program} {W : World}

theorem sl_open {t e : TypeId} {k : IntKind} {a : Option Addr} {len cap : Nat} {d : DataW H} {p : List MemPlace} (ht : P.underlying t = some (.slice e)) (he : P.underlying e = some (.int k)) (hc : P.cellsOf e = 1)
    (h : DataW.Trod enc P W 0 (fun _ => true) true t (.slice a len cap) d p) : ∃ zs, Sl k W (.slice a len cap) zs := by
  obtain ⟨fuel, hf⟩ := h
  rcases open_ints ht he hc hf with ⟨hcs, _⟩ | ⟨x, l, c, zs, hcs, _, hl, hm, hz, _, hcell, hwz⟩
  · simp [Value.cells] at hcs
    obtain ⟨rfl, rfl, rfl⟩ := hcs
    exact ⟨[], Sl.nil _ _⟩
  · simp [Value.cells] at hcs
    obtain ⟨rfl, rfl, rfl⟩ := hcs
    exact ⟨zs.take len, Sl.of_row hl hm (by simpa using hz) hwz (fun y hy => by simp only [Option.some.injEq] at hy; subst hy; exact hcell) (fun hy => by simp at hy)⟩

theorem okWide_array {r : Reach} {b0 : Nat} {t e : TypeId} {n : Nat} {v : Value} (ht : P.underlying t = some (.array n e)) (h : Value.okWide P W r b0 t v) : ∃ cs, v = .agg cs ∧ cs.size = P.cellsOf t := by
  simp only [Value.okWide, ht] at h
  obtain ⟨cs, h1, h2, _⟩ := h
  exact ⟨cs, h1, h2⟩
/-- an array of two integers, by value -/
theorem ints2_open {r : Reach} {b0 : Nat} {t e : TypeId} {k : IntKind} {v : Value} {d : DataW H} {p : List MemPlace} (ht : P.underlying t = some (.array 2 e)) (he : P.underlying e = some (.int k)) (hc : P.cellsOf e = 1) (hC : P.cellsOf t = 2)
    (hv : Value.okWide P W r b0 t v) (h : DataW.Trod enc P W 0 (fun _ => true) true t v d p) : ∃ x y, v = .agg #[.int k x, .int k y] ∧ (Lit.int k x).wf = true ∧ (Lit.int k y).wf = true := by
  obtain ⟨cs, rfl, hs⟩ := okWide_array ht hv
  rw [hC] at hs
  obtain ⟨c0, c1, rfl⟩ := Go.Joins.array2 hs
  obtain ⟨fuel, hf⟩ := h
  obtain ⟨xs, m, _, _, _, hl, hi⟩ := DataW.trod_array ht hf
  have h0 := hi 0 (by omega)
  have h1 := hi 1 (by omega)
  rw [hc] at h0 h1
  simp only [Value.cells] at h0 h1
  obtain ⟨x0, e0⟩ : ∃ x0, xs[0]? = some x0 := ⟨xs[0], by simp [hl]⟩
  obtain ⟨x1, e1⟩ : ∃ x1, xs[1]? = some x1 := ⟨xs[1], by simp [hl]⟩
  rw [e0] at h0
  rw [e1] at h1
  obtain ⟨a, ha, _, wa⟩ := DataW.trod_int he h0
  obtain ⟨b, hb, _, wb⟩ := DataW.trod_int he h1
  simp at ha hb
  subst ha hb
  exact ⟨a, b, rfl, wa, wb⟩
/-- an array of integers, by value -/
theorem intsN_open {N : Nat} {r : Reach} {b0 : Nat} {t e : TypeId} {k : IntKind} {v : Value} {d : DataW H} {p : List MemPlace} (ht : P.underlying t = some (.array N e)) (he : P.underlying e = some (.int k)) (hc : P.cellsOf e = 1) (hC : P.cellsOf t = N)
    (hv : Value.okWide P W r b0 t v) (h : DataW.Trod enc P W 0 (fun _ => true) true t v d p) : ∃ zs : List Int, zs.length = N ∧ v = .agg (zs.map (Value.int k)).toArray ∧ ∀ z ∈ zs, (Lit.int k z).wf = true := by
  obtain ⟨cs, rfl, hs⟩ := okWide_array ht hv
  rw [hC] at hs
  obtain ⟨fuel, hf⟩ := h
  obtain ⟨xs, m, _, _, _, hl, hi⟩ := DataW.trod_array ht hf
  have one : ∀ i : Fin N, ∃ a : Int, cs[i.1]? = some (.int k a) ∧ (Lit.int k a).wf = true := by
    intro i
    have h0 := hi i.1 i.2
    rw [hc] at h0
    simp only [Value.cells, Nat.mul_one] at h0
    obtain ⟨x0, e0⟩ : ∃ x0, xs[i.1]? = some x0 := ⟨xs[i.1]'(by rw [hl]; exact i.2), by simp [hl]⟩
    rw [e0] at h0
    obtain ⟨a, ha, _, wa⟩ := DataW.trod_int he h0
    have hlt : i.1 < cs.size := by rw [hs]; exact i.2
    refine ⟨a, ?_, wa⟩
    have hg : (cs.toList.drop i.1).take 1 = [cs[i.1]] := by
      rw [List.drop_eq_getElem_cons (by simpa using hlt)]; simp
    rw [hg] at ha
    simp only [List.cons.injEq, and_true] at ha
    rw [Array.getElem?_eq_getElem hlt, ha]
  obtain ⟨F, hF⟩ := Classical.axiomOfChoice one
  refine ⟨List.ofFn F, by simp, ?_, ?_⟩
  · congr 1
    apply Array.ext'
    apply List.ext_getElem
    · simp [hs]
    · intro j h1 h2
      have hj : j < N := by simpa [hs] using h1
      have := (hF ⟨j, hj⟩).1
      rw [Array.getElem?_eq_getElem (by simpa using h1)] at this
      simp only [Option.some.injEq] at this
      simp [this]
  · intro z hz
    obtain ⟨i, rfl⟩ := List.mem_ofFn.1 hz
    exact (hF i).2
theorem list3 {α : Type} {l : List α} (h : l.length = 3) : ∃ a b c, l = [a, b, c] := by
  match l, h with
  | [a, b, c], _ => exact ⟨a, b, c, rfl⟩
theorem list4 {α : Type} {l : List α} (h : l.length = 4) : ∃ a b c d, l = [a, b, c, d] := by
  match l, h with
  | [a, b, c, d], _ => exact ⟨a, b, c, d, rfl⟩
theorem list5 {α : Type} {l : List α} (h : l.length = 5) : ∃ a b c d e, l = [a, b, c, d, e] := by
  match l, h with
  | [a, b, c, d, e], _ => exact ⟨a, b, c, d, e, rfl⟩
theorem list6 {α : Type} {l : List α} (h : l.length = 6) : ∃ a b c d e f, l = [a, b, c, d, e, f] := by
  match l, h with
  | [a, b, c, d, e, f], _ => exact ⟨a, b, c, d, e, f, rfl⟩
end

end Go.Proofs.YtenapfpkegoonaaDoor

/-
  How arguments that are fields (two texts, by value) are opened. No program is named here.
-/
namespace Go.Proofs.YtenapfpkegoonaaDoor
open Go.ChangeShapes Go.WideShapes Go.ChangeAt Go.RowKit Go.Joins Go.Deep

section
variable {H : Type} {enc : TypeId × Value → H} {P : Program} {W : World}

/-- the two cells of a field -/
theorem fld_cells {t : TypeId} {f0 f1 : Field} {c0 c1 : Value} {fuel : Nat} {x : DataW H × List MemPlace} (hs : P.underlying t = some (.struct #[f0, f1])) (hone : oneCellFields P #[f0, f1] = true)
    (k0 : P.underlying f0.type = some .string) (k1 : P.underlying f1.type = some .string)
    (h : DataW.trod enc P W 0 (fun _ => true) true fuel t [c0, c1] = some x) : ∃ n v : ByteArray, c0 = .string n ∧ c1 = .string v ∧ n.size ≤ maxLen ∧ v.size ≤ maxLen := by
  obtain ⟨xs, n, _, _, _, hlen, hg⟩ := DataW.trod_struct hs h
  obtain ⟨o0, l0⟩ := hone_of hone 0 f0 rfl
  obtain ⟨o1, l1⟩ := hone_of hone 1 f1 rfl
  match xs, hlen with
  | [y0, y1], _ =>
    have g0 : DataW.trod enc P W 0 (fun _ => true) true n f0.type [c0] = some y0 := by simpa [o0, l0] using hg 0 f0 rfl
    have g1 : DataW.trod enc P W 0 (fun _ => true) true n f1.type [c1] = some y1 := by simpa [o1, l1] using hg 1 f1 rfl
    obtain ⟨a, e0, _, m0⟩ := DataW.trod_string k0 g0
    obtain ⟨b, e1, _, m1⟩ := DataW.trod_string k1 g1
    simp only [List.cons.injEq, and_true] at e0 e1
    exact ⟨a, b, e0, e1, m0, m1⟩
/-- a field, by value -/
theorem fld_open {r : Reach} {b0 : Nat} {t : TypeId} {f0 f1 : Field} {v : Value} {d : DataW H} {p : List MemPlace} (hs : P.underlying t = some (.struct #[f0, f1])) (hone : oneCellFields P #[f0, f1] = true)
    (k0 : P.underlying f0.type = some .string) (k1 : P.underlying f1.type = some .string) (hC : P.cellsOf t = 2)
    (hv : Value.okWide P W r b0 t v) (h : DataW.Trod enc P W 0 (fun _ => true) true t v d p) : ∃ n x : ByteArray, v = .agg #[.string n, .string x] ∧ n.size ≤ maxLen ∧ x.size ≤ maxLen := by
  obtain ⟨cs, rfl, hsz⟩ := okWide_struct hs hv
  rw [hC] at hsz
  obtain ⟨c0, c1, rfl⟩ := Go.Joins.array2 hsz
  obtain ⟨fuel, hf⟩ := h
  obtain ⟨n, x, rfl, rfl, h0, h1⟩ := fld_cells hs hone k0 k1 hf
  exact ⟨n, x, rfl, h0, h1⟩
end

end Go.Proofs.YtenapfpkegoonaaDoor

/-
  How an argument that is an item (two numbers, two texts, by value) is opened; what the laid table of kinds gives. No function of the program is named here.
-/
namespace Go.Proofs.YtenapfpkegoonaaDoor
open Go.ChangeShapes Go.WideShapes Go.ChangeAt Go.RowKit Go.Joins Go.Deep

section
variable {H : Type} {enc : TypeId × Value → H} {P : Program} {W : World}

/-- the four cells of an item -/
theorem it_cells {t : TypeId} {f0 f1 f2 f3 : Field} {c0 c1 c2 c3 : Value} {fuel : Nat} {x : DataW H × List MemPlace} (hs : P.underlying t = some (.struct #[f0, f1, f2, f3])) (hone : oneCellFields P #[f0, f1, f2, f3] = true)
    (k0 : P.underlying f0.type = some (.int .i64)) (k1 : P.underlying f1.type = some (.int .i64)) (k2 : P.underlying f2.type = some .string) (k3 : P.underlying f3.type = some .string)
    (h : DataW.trod enc P W 0 (fun _ => true) true fuel t [c0, c1, c2, c3] = some x) : ∃ (k n : Int) (a b : ByteArray), c0 = .int .i64 k ∧ c1 = .int .i64 n ∧ c2 = .string a ∧ c3 = .string b := by
  obtain ⟨xs, n, _, _, _, hlen, hg⟩ := DataW.trod_struct hs h
  obtain ⟨o0, l0⟩ := hone_of hone 0 f0 rfl
  obtain ⟨o1, l1⟩ := hone_of hone 1 f1 rfl
  obtain ⟨o2, l2⟩ := hone_of hone 2 f2 rfl
  obtain ⟨o3, l3⟩ := hone_of hone 3 f3 rfl
  match xs, hlen with
  | [y0, y1, y2, y3], _ =>
    have g0 : DataW.trod enc P W 0 (fun _ => true) true n f0.type [c0] = some y0 := by simpa [o0, l0] using hg 0 f0 rfl
    have g1 : DataW.trod enc P W 0 (fun _ => true) true n f1.type [c1] = some y1 := by simpa [o1, l1] using hg 1 f1 rfl
    have g2 : DataW.trod enc P W 0 (fun _ => true) true n f2.type [c2] = some y2 := by simpa [o2, l2] using hg 2 f2 rfl
    have g3 : DataW.trod enc P W 0 (fun _ => true) true n f3.type [c3] = some y3 := by simpa [o3, l3] using hg 3 f3 rfl
    obtain ⟨k, e0, _⟩ := DataW.trod_int k0 g0
    obtain ⟨m, e1, _⟩ := DataW.trod_int k1 g1
    obtain ⟨a, e2, _⟩ := DataW.trod_string k2 g2
    obtain ⟨b, e3, _⟩ := DataW.trod_string k3 g3
    simp only [List.cons.injEq, and_true] at e0 e1 e2 e3
    exact ⟨k, m, a, b, e0, e1, e2, e3⟩
theorem array4 {α : Type} {cs : Array α} (h : cs.size = 4) : ∃ a b c d, cs = #[a, b, c, d] := by
  obtain ⟨l⟩ := cs
  match l, h with
  | [a, b, c, d], _ => exact ⟨a, b, c, d, rfl⟩
/-- an item, by value -/
theorem it_open {r : Reach} {b0 : Nat} {t : TypeId} {f0 f1 f2 f3 : Field} {v : Value} {d : DataW H} {p : List MemPlace} (hs : P.underlying t = some (.struct #[f0, f1, f2, f3])) (hone : oneCellFields P #[f0, f1, f2, f3] = true)
    (k0 : P.underlying f0.type = some (.int .i64)) (k1 : P.underlying f1.type = some (.int .i64)) (k2 : P.underlying f2.type = some .string) (k3 : P.underlying f3.type = some .string) (hC : P.cellsOf t = 4)
    (hv : Value.okWide P W r b0 t v) (h : DataW.Trod enc P W 0 (fun _ => true) true t v d p) : ∃ (k n : Int) (a b : ByteArray), v = .agg #[.int .i64 k, .int .i64 n, .string a, .string b] := by
  obtain ⟨cs, rfl, hsz⟩ := okWide_struct hs hv
  rw [hC] at hsz
  obtain ⟨c0, c1, c2, c3, rfl⟩ := array4 hsz
  obtain ⟨fuel, hf⟩ := h
  obtain ⟨k, n, a, b, rfl, rfl, rfl, rfl⟩ := it_cells hs hone k0 k1 k2 k3 hf
  exact ⟨k, n, a, b, rfl⟩

/-- the four cells of a row of the kinds' table, by what they read as -/
theorem shape_cells {spare : TypeId → Bool} {held : Bool} {t : TypeId} {f0 f1 f2 f3 : Field} {cs : List Value} {fuel : Nat} {a0 a1 a2 : Int} {b : Bool} {pl : List MemPlace} (hs : P.underlying t = some (.struct #[f0, f1, f2, f3])) (hone : oneCellFields P #[f0, f1, f2, f3] = true)
    (k0 : P.underlying f0.type = some (.int .i64)) (k1 : P.underlying f1.type = some (.int .i64)) (k2 : P.underlying f2.type = some (.int .i64)) (k3 : P.underlying f3.type = some .bool) (hl : cs.length = 4)
    (h : DataW.trod enc P W 0 spare held fuel t cs = some (.agg [.lit (.int .i64 a0), .lit (.int .i64 a1), .lit (.int .i64 a2), .lit (.bool b)], pl)) : cs = [.int .i64 a0, .int .i64 a1, .int .i64 a2, .bool b] := by
  obtain ⟨xs, n, _, hx, _, hlen, hg⟩ := DataW.trod_struct hs h
  obtain ⟨o0, l0⟩ := hone_of hone 0 f0 rfl
  obtain ⟨o1, l1⟩ := hone_of hone 1 f1 rfl
  obtain ⟨o2, l2⟩ := hone_of hone 2 f2 rfl
  obtain ⟨o3, l3⟩ := hone_of hone 3 f3 rfl
  match cs, hl with
  | [c0, c1, c2, c3], _ =>
    match xs, hlen with
    | [y0, y1, y2, y3], _ =>
      have g0 : DataW.trod enc P W 0 spare held n f0.type [c0] = some y0 := by simpa [o0, l0] using hg 0 f0 rfl
      have g1 : DataW.trod enc P W 0 spare held n f1.type [c1] = some y1 := by simpa [o1, l1] using hg 1 f1 rfl
      have g2 : DataW.trod enc P W 0 spare held n f2.type [c2] = some y2 := by simpa [o2, l2] using hg 2 f2 rfl
      have g3 : DataW.trod enc P W 0 spare held n f3.type [c3] = some y3 := by simpa [o3, l3] using hg 3 f3 rfl
      obtain ⟨x0, e0, r0, _⟩ := DataW.trod_int k0 g0
      obtain ⟨x1, e1, r1, _⟩ := DataW.trod_int k1 g1
      obtain ⟨x2, e2, r2, _⟩ := DataW.trod_int k2 g2
      obtain ⟨x3, e3, r3⟩ := DataW.trod_bool k3 g3
      subst r0 r1 r2 r3
      simp only [Prod.mk.injEq, DataW.agg.injEq, List.map_cons, List.map_nil, List.cons.injEq, DataW.lit.injEq, Lit.int.injEq, Lit.bool.injEq, true_and, and_true] at hx
      obtain ⟨⟨rfl, rfl, rfl, rfl⟩, _⟩ := hx
      simp only [List.cons.injEq, and_true] at e0 e1 e2 e3
      rw [e0, e1, e2, e3]
end
theorem twenty {α : Type} {l : List α} (h : l.length = 20) : l = (l.drop 0).take 4 ++ ((l.drop 4).take 4 ++ ((l.drop 8).take 4 ++ ((l.drop 12).take 4 ++ (l.drop 16).take 4))) := by
  match l, h with
  | [_, _, _, _, _, _, _, _, _, _, _, _, _, _, _, _, _, _, _, _], _ => rfl
theorem shG : Tryd.prog.globalNamed "gantlet/item.shapes" = some 0 := by kernel_rfl
theorem shTy : (Tryd.prog.globals[0]?).map (·.type) = some 104 := by kernel_rfl
theorem shC43 : Tryd.prog.cellsOf 103 = 4 := by kernel_rfl
theorem shC44 : Tryd.prog.cellsOf 104 = 20 := by kernel_rfl
/-- what the laid table gives the walks -/
theorem sh_of_laid {W : World} (h : laidMetH Tryd.prog [("gantlet/item.shapes", Rows.laid_gantlet_item_shapes)] W) : ShT W := by
  rw [MakeChecks.laidMetH_plain _ _ _ (by kernel_rfl)] at h
  obtain ⟨ps, ⟨g0, t0, cs0, f0, p0, q0, hg0, ht0, hv0, hd0, _⟩, _⟩ := h
  obtain rfl := Option.some.inj (shG.symm.trans hg0)
  obtain rfl := Option.some.inj (shTy.symm.trans ht0)
  obtain ⟨xs, m, rfl, hx, hlen, h5, hel⟩ := DataW.trod_array Tryd.underlying104 hd0
  rw [shC44] at hlen
  rw [shC43] at hel
  have e0 := hel 0 (by decide)
  have e1 := hel 1 (by decide)
  have e2 := hel 2 (by decide)
  have e3 := hel 3 (by decide)
  have e4 := hel 4 (by decide)
  match xs, h5 with
  | [x0, x1, x2, x3, x4], _ =>
    simp only [Rows.laid_gantlet_item_shapes, Prod.mk.injEq, DataW.agg.injEq, List.map_cons, List.map_nil, List.cons.injEq, and_true] at hx
    obtain ⟨⟨h0, h1, h2, h3, h4⟩, _⟩ := hx
    obtain ⟨d0, r0⟩ := x0
    obtain ⟨d1, r1⟩ := x1
    obtain ⟨d2, r2⟩ := x2
    obtain ⟨d3, r3⟩ := x3
    obtain ⟨d4, r4⟩ := x4
    simp only at h0 h1 h2 h3 h4
    subst h0 h1 h2 h3 h4
    have one : ∀ (i : Nat), i < 5 → ((cs0.toList.drop (i * 4)).take 4).length = 4 := fun i hi => by rw [List.length_take, List.length_drop, hlen]; omega
    have c0 := shape_cells Tryd.underlying103 (by kernel_rfl) (by kernel_rfl) (by kernel_rfl) (by kernel_rfl) (by kernel_rfl) (one 0 (by decide)) e0
    have c1 := shape_cells Tryd.underlying103 (by kernel_rfl) (by kernel_rfl) (by kernel_rfl) (by kernel_rfl) (by kernel_rfl) (one 1 (by decide)) e1
    have c2 := shape_cells Tryd.underlying103 (by kernel_rfl) (by kernel_rfl) (by kernel_rfl) (by kernel_rfl) (by kernel_rfl) (one 2 (by decide)) e2
    have c3 := shape_cells Tryd.underlying103 (by kernel_rfl) (by kernel_rfl) (by kernel_rfl) (by kernel_rfl) (by kernel_rfl) (one 3 (by decide)) e3
    have c4 := shape_cells Tryd.underlying103 (by kernel_rfl) (by kernel_rfl) (by kernel_rfl) (by kernel_rfl) (by kernel_rfl) (one 4 (by decide)) e4
    have hall := twenty hlen
    have c0' : (cs0.toList.drop 0).take 4 = _ := c0
    have c1' : (cs0.toList.drop 4).take 4 = _ := c1
    have c2' : (cs0.toList.drop 8).take 4 = _ := c2
    have c3' : (cs0.toList.drop 12).take 4 = _ := c3
    have c4' : (cs0.toList.drop 16).take 4 = _ := c4
    rw [c0', c1', c2', c3', c4'] at hall
    have hcs : cs0 = shCells := by
      obtain ⟨l⟩ := cs0
      simp only at hall
      rw [hall]
      rfl
    subst hcs
    simp only [World.var?, hg0, Option.bind_some] at hv0
    split at hv0
    · rename_i cs t fr hh
      obtain rfl := Option.some.inj hv0
      exact ⟨t, fr, hh⟩
    · cases hv0
end Go.Proofs.YtenapfpkegoonaaDoor

/-
  Fields (two texts) one behind the other: their sizes; which ones go. Slices of them; rows of them that a call itself makes. No function of the program is named here.
-/
namespace Go.Proofs.YtenapfpkegoonaaDoor
open Go.RowKit

/-- a field: name, value -/
abbrev Fd := ByteArray × ByteArray
def szF (f : Fd) : Nat := f.1.size + f.2.size + 32
def sumF : List Fd → Nat
  | [] => 0
  | f :: r => szF f + sumF r
theorem sumF_append (a b : List Fd) : sumF (a ++ b) = sumF a + sumF b := by
  induction a with
  | nil => simp [sumF]
  | cons f r ih => simp only [List.cons_append, sumF, ih]; omega
theorem sumF_one (f : Fd) : sumF [f] = szF f := rfl
theorem sumF_reverse (l : List Fd) : sumF l.reverse = sumF l := by
  induction l with
  | nil => rfl
  | cons f r ih => rw [List.reverse_cons, sumF_append, ih]; simp only [sumF]; omega
theorem sumF_len (l : List Fd) : 32 * l.length ≤ sumF l := by
  induction l with
  | nil => simp [sumF]
  | cons f r ih => simp only [sumF, szF, List.length_cons]; omega
theorem sumF_take_drop (l : List Fd) (n : Nat) : sumF (l.take n) + sumF (l.drop n) = sumF l := by rw [← sumF_append, List.take_append_drop]
theorem sumF_take_succ {l : List Fd} {n : Nat} {f : Fd} (h : l[n]? = some f) : sumF (l.take (n + 1)) = sumF (l.take n) + szF f := by
  rw [List.take_add_one, h, sumF_append]; rfl
theorem sumF_drop {l : List Fd} {n : Nat} {f : Fd} (h : l[n]? = some f) : sumF (l.drop n) = szF f + sumF (l.drop (n + 1)) := by
  obtain ⟨hl, rfl⟩ := List.getElem?_eq_some_iff.1 h
  rw [List.drop_eq_getElem_cons hl]; rfl
/-- the first ones go, while all have more than so much -/
def shrinkF (most : Int) : List Fd → List Fd
  | [] => []
  | f :: r => if (sumF (f :: r) : Int) ≤ most then f :: r else shrinkF most r
/-- as many of the first ones as there is room for -/
def fitF (most : Int) : List Fd → List Fd
  | [] => []
  | f :: r => if most < szF f then [] else f :: fitF (most - szF f) r
theorem shrinkF_neg {most : Int} (h : most < 0) (l : List Fd) : shrinkF most l = [] := by
  induction l with
  | nil => rfl
  | cons f r ih => rw [shrinkF, if_neg (by omega), ih]
theorem shrinkF_stay {most : Int} {l : List Fd} (h : (sumF l : Int) ≤ most) : shrinkF most l = l := by
  cases l with
  | nil => rfl
  | cons f r => rw [shrinkF, if_pos h]
theorem shrinkF_go {most : Int} {l : List Fd} {n : Nat} {f : Fd} (hf : l[n]? = some f) (h : ¬ (sumF (l.drop n) : Int) ≤ most) : shrinkF most (l.drop n) = shrinkF most (l.drop (n + 1)) := by
  obtain ⟨hl, rfl⟩ := List.getElem?_eq_some_iff.1 hf
  rw [List.drop_eq_getElem_cons hl] at h ⊢
  rw [shrinkF, if_neg h]
theorem shrinkF_sum (most : Int) (l : List Fd) : sumF (shrinkF most l) ≤ sumF l ∧ (shrinkF most l).length ≤ l.length := by
  induction l with
  | nil => exact ⟨Nat.le_refl _, Nat.le_refl _⟩
  | cons f r ih =>
    rw [shrinkF]
    split
    · exact ⟨Nat.le_refl _, Nat.le_refl _⟩
    · simp only [sumF, List.length_cons]; omega
theorem fitF_snoc (f : Fd) : ∀ (l : List Fd) (most : Int), fitF most (l ++ [f]) = if (sumF l + szF f : Int) ≤ most then l ++ [f] else fitF most l
  | [], most => by
    have e : sumF [] = 0 := rfl
    simp only [List.nil_append, fitF]
    by_cases h : most < szF f
    · rw [if_pos h, if_neg (by omega)]
    · rw [if_neg h, if_pos (by omega)]
  | x :: r, most => by
    have e : sumF (x :: r) = szF x + sumF r := rfl
    simp only [List.cons_append, fitF]
    rw [fitF_snoc f r]
    by_cases h : most < szF x
    · rw [if_pos h, if_neg (by omega), if_pos h]
    · rw [if_neg h, if_neg h]
      by_cases h2 : (sumF r + szF f : Int) ≤ most - szF x
      · rw [if_pos h2, if_pos (by omega)]
      · rw [if_neg h2, if_neg (by omega)]
/-- the oldest ones go: as many of the newest ones as there is room for stay -/
theorem shrink_fit (most : Int) (l : List Fd) : (shrinkF most l).reverse = fitF most l.reverse := by
  induction l with
  | nil => rfl
  | cons f r ih =>
    rw [shrinkF, List.reverse_cons, fitF_snoc, sumF_reverse]
    by_cases h : (sumF (f :: r) : Int) ≤ most
    · rw [if_pos h, if_pos (by simp only [sumF] at h; omega), List.reverse_cons]
    · rw [if_neg h, if_neg (by simp only [sumF] at h; omega), ih]
/-- one comes: the oldest one stands first -/
def addF (most : Int) (l : List Fd) (f : Fd) : List Fd := if most < szF f then [] else shrinkF (most - szF f) l ++ [f]
theorem add_fit (most : Int) (l : List Fd) (f : Fd) : (addF most l f).reverse = fitF most (f :: l.reverse) := by
  rw [addF, fitF]
  split
  · rfl
  · rw [List.reverse_append, shrink_fit]; rfl
theorem fitF_sum (l : List Fd) : ∀ most : Int, 0 ≤ most → (sumF (fitF most l) : Int) ≤ most := by
  induction l with
  | nil => intro m h; simpa [fitF, sumF] using h
  | cons f r ih =>
    intro m h
    rw [fitF]
    split
    · simpa [sumF] using h
    · have := ih (m - szF f) (by omega)
      simp only [sumF]; omega
theorem shrinkF_le {most : Int} (h : 0 ≤ most) (l : List Fd) : (sumF (shrinkF most l) : Int) ≤ most := by
  rw [← sumF_reverse, shrink_fit]; exact fitF_sum _ _ h
theorem addF_le {most : Int} (h : 0 ≤ most) (l : List Fd) (f : Fd) : (sumF (addF most l f) : Int) ≤ most := by
  rw [← sumF_reverse, add_fit]; exact fitF_sum _ _ h
/-- how far the going through has come -/
theorem fitF_split {most : Int} : ∀ (l : List Fd) (n : Nat), fitF most (l.take n) = l.take n → fitF most l = l.take n ++ fitF (most - sumF (l.take n)) (l.drop n) := by
  intro l n h
  generalize hm : most = m at *
  clear hm
  induction n generalizing l m with
  | zero => simp [sumF]
  | succ n ih =>
    cases l with
    | nil => simp [fitF]
    | cons f r =>
      simp only [List.take_succ_cons, List.drop_succ_cons, sumF, List.cons_append]
      simp only [List.take_succ_cons, fitF] at h
      by_cases hf : m < szF f
      · rw [if_pos hf] at h; cases h
      · rw [if_neg hf] at h
        simp only [List.cons.injEq, true_and] at h
        rw [fitF, if_neg hf, ih r _ h]
        congr 3
        omega
theorem fitF_all {most : Int} : ∀ (l : List Fd), (sumF l : Int) ≤ most → fitF most l = l := by
  intro l
  induction l generalizing most with
  | nil => intro _; rfl
  | cons f r ih =>
    intro h
    simp only [sumF] at h
    rw [fitF, if_neg (by omega), ih (by omega)]

/-- the cells of fields, one behind the other -/
def fcs (fs : List Fd) : List Value := fs.flatMap fun f => [.string f.1, .string f.2]
theorem fcs_nil : fcs [] = [] := rfl
theorem fcs_append (a b : List Fd) : fcs (a ++ b) = fcs a ++ fcs b := by simp [fcs]
theorem fcs_one (f : Fd) : fcs [f] = [.string f.1, .string f.2] := by simp [fcs]
theorem fcs_length : ∀ l : List Fd, (fcs l).length = l.length * 2
  | [] => rfl
  | f :: r => by
    have := fcs_length r
    rw [show fcs (f :: r) = [.string f.1, .string f.2] ++ fcs r from by simp [fcs], List.length_append, this, List.length_cons]
    simp only [List.length_cons, List.length_nil]
    omega
theorem fcs_take : ∀ (l : List Fd) (n : Nat), fcs (l.take n) = (fcs l).take (n * 2)
  | [], n => by simp [fcs]
  | f :: r, 0 => by simp [fcs]
  | f :: r, n + 1 => by
    have := fcs_take r n
    rw [List.take_succ_cons, show fcs (f :: r.take n) = [.string f.1, .string f.2] ++ fcs (r.take n) from by simp [fcs], this, show fcs (f :: r) = [.string f.1, .string f.2] ++ fcs r from by simp [fcs], show (n + 1) * 2 = n * 2 + 1 + 1 by omega]
    rfl
theorem fcs_drop : ∀ (l : List Fd) (n : Nat), fcs (l.drop n) = (fcs l).drop (n * 2)
  | [], n => by simp [fcs]
  | f :: r, 0 => by simp [fcs]
  | f :: r, n + 1 => by
    have := fcs_drop r n
    rw [List.drop_succ_cons, this, show fcs (f :: r) = [.string f.1, .string f.2] ++ fcs r from by simp [fcs], show (n + 1) * 2 = n * 2 + 1 + 1 by omega]
    rfl
theorem fcs_at : ∀ (l : List Fd) (i : Nat) (f : Fd), l[i]? = some f → (fcs l)[i * 2]? = some (.string f.1) ∧ (fcs l)[i * 2 + 1]? = some (.string f.2)
  | [], i, f, h => by simp at h
  | x :: r, 0, f, h => by
    simp only [List.getElem?_cons_zero, Option.some.injEq] at h
    subst h
    exact ⟨rfl, rfl⟩
  | x :: r, i + 1, f, h => by
    have := fcs_at r i f (by simpa using h)
    rw [show fcs (x :: r) = .string x.1 :: .string x.2 :: fcs r from by simp [fcs], show (i + 1) * 2 = i * 2 + 1 + 1 by omega]
    simpa using this
theorem fcs_oneCell (l : List Fd) : ∀ u ∈ fcs l, u.oneCell' = true := by
  intro u hu
  simp only [fcs, List.mem_flatMap, List.mem_cons, List.not_mem_nil, or_false] at hu
  obtain ⟨f, _, rfl | rfl⟩ := hu <;> rfl

/-- the value 'v' is a slice that reads as these fields -/
def SlD (w : World) (v : Value) (fs : List Fd) : Prop :=
  ∃ a cap, v = .slice a fs.length cap ∧ fs.length ≤ cap ∧ cap ≤ maxLen ∧
    ((fs.length = 0 ∧ (a = none → cap = 0)) ∨ ∃ b off, a = some ⟨b, off, none⟩ ∧ b < w.heap.size ∧ ∀ (i : Nat) (f : Fd), fs[i]? = some f → w.cell? ⟨b, off + i * 2, none⟩ = some (.string f.1) ∧ w.cell? ⟨b, off + i * 2 + 1, none⟩ = some (.string f.2))
theorem SlD.below {w w' : World} {v : Value} {fs : List Fd} (h : SlD w v fs) (hb : Below w.heap.size w w') : SlD w' v fs := by
  obtain ⟨a, cap, rfl, h2, h3, h4⟩ := h
  refine ⟨a, cap, rfl, h2, h3, h4.imp_right ?_⟩
  rintro ⟨b, off, rfl, hl, hc⟩
  exact ⟨b, off, rfl, Nat.lt_of_lt_of_le hl hb.size, fun i f hi => ⟨(hb.cell (p := ⟨b, off + i * 2, none⟩) hl).trans (hc i f hi).1, (hb.cell (p := ⟨b, off + i * 2 + 1, none⟩) hl).trans (hc i f hi).2⟩⟩
theorem SlD.drewN {w : World} {v : Value} {fs : List Fd} (h : SlD w v fs) (n : Nat) : SlD (w.drewN n) v fs := h.below (below_drewN (Below.refl _ _) n)
theorem SlD.len {w : World} {v : Value} {fs : List Fd} (h : SlD w v fs) : fs.length ≤ maxLen := by
  obtain ⟨a, cap, _, h2, h3, _⟩ := h; exact Nat.le_trans h2 h3
theorem SlD.shape {w : World} {v : Value} {fs : List Fd} (h : SlD w v fs) : ∃ a cap, v = .slice a fs.length cap ∧ fs.length ≤ cap ∧ cap ≤ maxLen := by
  obtain ⟨a, cap, e, h1, h2, _⟩ := h; exact ⟨a, cap, e, h1, h2⟩
/-- one of them -/
theorem SlD.at_ {w : World} {a : Option Addr} {n cap : Nat} {fs : List Fd} (h : SlD w (.slice a n cap) fs) {i : Nat} (hi : i < fs.length) :
    ∃ b off, a = some ⟨b, off, none⟩ ∧ b < w.heap.size ∧ ∀ f, fs[i]? = some f → w.cell? ⟨b, off + i * 2, none⟩ = some (.string f.1) ∧ w.cell? ⟨b, off + i * 2 + 1, none⟩ = some (.string f.2) := by
  obtain ⟨a', cap', e, _, _, h3⟩ := h
  simp only [Value.slice.injEq] at e
  obtain ⟨rfl, rfl, rfl⟩ := e
  rcases h3 with ⟨h3, _⟩ | ⟨b, off, rfl, hb, hc⟩
  · omega
  · exact ⟨b, off, rfl, hb, hc i⟩
/-- 'v[:hi]' -/
theorem SlD.upto {w : World} {a : Option Addr} {n cap : Nat} {fs : List Fd} (h : SlD w (.slice a n cap) fs) {hi : Nat} (h1 : hi ≤ fs.length) (h0 : 0 < hi) : SlD w (.slice a hi cap) (fs.take hi) := by
  obtain ⟨a', cap', e, h2, h3, h4⟩ := h
  simp only [Value.slice.injEq] at e
  obtain ⟨rfl, rfl, rfl⟩ := e
  have el : (fs.take hi).length = hi := by simp; omega
  refine ⟨a, cap, by rw [el], by omega, h3, ?_⟩
  rcases h4 with ⟨h4, _⟩ | ⟨b, off, rfl, hb, hc⟩
  · omega
  · refine .inr ⟨b, off, rfl, hb, fun i f hf => hc i f ?_⟩
    rw [List.getElem?_take] at hf
    split at hf
    · exact hf
    · cases hf

/-- a row of fields that a call itself made -/
def RowF (w : World) (base : Nat) (v : Value) (fs : List Fd) : Prop := w.ownsRow base 46 2 v fs.length (fcs fs)
theorem RowF.nil (w : World) (base : Nat) : RowF w base (.slice none 0 0) [] := World.ownsRow_nil _ _ _ _
theorem RowF.lt {w : World} {base : Nat} {v : Value} {fs : List Fd} (h : RowF w base v fs) : ∀ k, v.ownBlock = some k → base ≤ k ∧ k < w.heap.size := World.ownsRow.lt h
theorem RowF.mono {w : World} {base base' : Nat} {v : Value} {fs : List Fd} (h : RowF w base v fs) (hb : base' ≤ base) : RowF w base' v fs := owned_mono h hb
theorem RowF.shape {w : World} {base : Nat} {v : Value} {fs : List Fd} (h : RowF w base v fs) : ∃ a cap, v = .slice a fs.length cap := by
  obtain ⟨a, cap, e, _⟩ := owned_shape h; exact ⟨a, cap, e⟩
theorem RowF.of_block {w w' : World} {base : Nat} {v : Value} {fs : List Fd} (h : RowF w base v fs) (hb : ∀ g, v.ownBlock = some g → w'.heap[g]? = w.heap[g]?) : RowF w' base v fs := by
  obtain ⟨h1, h2⟩ := h
  refine ⟨h1, h2.imp_right ?_⟩
  rintro ⟨g, cap, cur, rfl, hg, hh, h3⟩
  exact ⟨g, cap, cur, rfl, hg, (hb g rfl).trans hh, h3⟩
theorem RowF.below {w w' : World} {base : Nat} {v : Value} {fs : List Fd} (h : RowF w base v fs) (hb : Below w.heap.size w w') : RowF w' base v fs := h.of_block fun g hg => hb.block g (h.lt g hg).2
theorem RowF.len {w : World} {base : Nat} {v : Value} {fs : List Fd} (h : RowF w base v fs) : fs.length ≤ maxLen := by
  obtain ⟨_, ⟨_, h⟩ | ⟨_, _, _, _, _, _, h1, h2, _⟩⟩ := h
  · rw [h]; exact Nat.zero_le _
  · exact Nat.le_trans h1 h2
theorem RowF.toSl {w : World} {base : Nat} {v : Value} {fs : List Fd} (h : RowF w base v fs) : SlD w v fs := by
  have h' := h
  obtain ⟨h1, h2⟩ := h
  rcases h2 with ⟨rfl, h3⟩ | ⟨g, cap, cur, rfl, hg, hblk, hnc, hcm, hcs, htake⟩
  · refine ⟨none, 0, by rw [h3], by omega, by simp, .inl ⟨h3, fun _ => rfl⟩⟩
  · refine ⟨some ⟨g, 0, none⟩, cap, rfl, hnc, hcm, .inr ⟨g, 0, rfl, (h'.lt g rfl).2, fun i f hi => ?_⟩⟩
    have hil : i < fs.length := (List.getElem?_eq_some_iff.1 hi).1
    have at_ : ∀ j, j < 2 → w.cell? ⟨g, 0 + i * 2 + j, none⟩ = (fcs fs)[i * 2 + j]? := fun j hj => by
      rw [Nat.zero_add, World.ownsRow.cellAt h' (i * 2 + j) (by omega)]
    exact ⟨(at_ 0 (by omega)).trans (fcs_at fs i f hi).1, (at_ 1 (by omega)).trans (fcs_at fs i f hi).2⟩
/-- the block that it lies in holds fields -/
theorem RowF.block {w : World} {base : Nat} {v : Value} {fs : List Fd} (h : RowF w base v fs) : ∀ g, v.ownBlock = some g → ∃ cs fr, w.heap[g]? = some (.cells cs 46 fr) := fun g hg => by
  obtain ⟨_, ⟨rfl, _⟩ | ⟨g', cap, cur, rfl, _, hh, _⟩⟩ := h
  · cases hg
  · cases hg; exact ⟨_, _, hh⟩
/-- a block of another kind is not its -/
theorem RowF.apart {w : World} {base T : Nat} {v : Value} {fs : List Fd} {o : Obj} (h : RowF w base v fs) (hT : w.heap[T]? = some o) (ho : ∀ cs fr, o ≠ .cells cs 46 fr) : v.ownBlock ≠ some T := fun e => by
  obtain ⟨cs, fr, h2⟩ := h.block T e
  rw [hT] at h2
  exact ho cs fr (Option.some.inj h2)
end Go.Proofs.YtenapfpkegoonaaDoor

/-
  How arguments that are lists of fields, and lists of blocks with limits, are opened.
-/
namespace Go.Proofs.YtenapfpkegoonaaDoor
open Go.ChangeShapes Go.WideShapes Go.ChangeAt Go.RowKit Go.Joins Go.Deep

theorem i64_hi {a : Int} (h : (Lit.int .i64 a).wf = true) : a ≤ 9223372036854775807 := by
  simp [Lit.wf] at h
  omega
/-- a block, and a limit -/
structure Rd9 where
  uv : Value
  zs : List Int
  lim : Int
def rdAt9 (w : World) (b o : Nat) (x : Rd9) : Prop := w.cell? ⟨b, o, none⟩ = some x.uv ∧ w.cell? ⟨b, o + 1, none⟩ = some (.int .i64 x.lim)
/-- the value 'v' is a slice that reads as these -/
def SlR (w : World) (v : Value) (xs : List Rd9) : Prop :=
  (∀ x ∈ xs, Sl .u8 w x.uv x.zs ∧ x.lim ≤ 9223372036854775807) ∧ ∃ a cap, v = .slice a xs.length cap ∧ xs.length ≤ cap ∧ cap ≤ maxLen ∧
    ((xs.length = 0 ∧ (a = none → cap = 0)) ∨ ∃ b off, a = some ⟨b, off, none⟩ ∧ b < w.heap.size ∧ ∀ (i : Nat) (x : Rd9), xs[i]? = some x → rdAt9 w b (off + i * 2) x)
theorem SlR.below {w w' : World} {v : Value} {xs : List Rd9} (h : SlR w v xs) (hb : Below w.heap.size w w') : SlR w' v xs := by
  obtain ⟨h0, a, cap, rfl, h2, h3, h4⟩ := h
  refine ⟨fun x hx => ⟨(h0 x hx).1.below hb, (h0 x hx).2⟩, a, cap, rfl, h2, h3, h4.imp_right ?_⟩
  rintro ⟨b, off, rfl, hl, hc⟩
  exact ⟨b, off, rfl, Nat.lt_of_lt_of_le hl hb.size, fun i x hi => ⟨(hb.cell (p := ⟨b, off + i * 2, none⟩) hl).trans (hc i x hi).1, (hb.cell (p := ⟨b, off + i * 2 + 1, none⟩) hl).trans (hc i x hi).2⟩⟩
theorem SlR.shape {w : World} {v : Value} {xs : List Rd9} (h : SlR w v xs) : ∃ a cap, v = .slice a xs.length cap ∧ xs.length ≤ cap ∧ cap ≤ maxLen := by
  obtain ⟨_, a, cap, e, h1, h2, _⟩ := h; exact ⟨a, cap, e, h1, h2⟩
theorem SlR.at_ {w : World} {a : Option Addr} {n cap : Nat} {xs : List Rd9} (h : SlR w (.slice a n cap) xs) {i : Nat} (hi : i < xs.length) :
    ∃ b off, a = some ⟨b, off, none⟩ ∧ b < w.heap.size ∧ ∀ x, xs[i]? = some x → rdAt9 w b (off + i * 2) x := by
  obtain ⟨_, a', cap', e, _, _, h3⟩ := h
  simp only [Value.slice.injEq] at e
  obtain ⟨rfl, rfl, rfl⟩ := e
  rcases h3 with ⟨h3, _⟩ | ⟨b, off, rfl, hb, hc⟩
  · omega
  · exact ⟨b, off, rfl, hb, hc i⟩

section
variable {H : Type} {enc : TypeId × Value → H} {P : Program} {W : World}
/-- a slice of fields -/
theorem fds_open {r : Reach} {b0 : Nat} {t e : TypeId} {f0 f1 : Field} {v : Value} {d : DataW H} {p : List MemPlace} (ht : P.underlying t = some (.slice e)) (hs : P.underlying e = some (.struct #[f0, f1])) (hone : oneCellFields P #[f0, f1] = true)
    (k0 : P.underlying f0.type = some .string) (k1 : P.underlying f1.type = some .string) (hC : P.cellsOf e = 2)
    (hv : Value.okWide P W r b0 t v) (h : DataW.Trod enc P W 0 (fun _ => true) true t v d p) : ∃ l, SlD W v l := by
  obtain ⟨a, len, cap, rfl⟩ := okWide_slice ht hv
  obtain ⟨fuel, hf⟩ := h
  simp only [Value.cells] at hf
  rcases open_slice ht hf with ⟨e1, _⟩ | ⟨a', len', cap', m, n, D, Pl, e1, _, hl, hm, hmm, _, hi⟩
  · simp only [List.cons.injEq, and_true, Value.slice.injEq] at e1
    obtain ⟨rfl, rfl, rfl⟩ := e1
    exact ⟨[], none, 0, rfl, Nat.le_refl _, by simp, .inl ⟨rfl, fun _ => rfl⟩⟩
  · simp only [List.cons.injEq, and_true, Value.slice.injEq] at e1
    obtain ⟨rfl, rfl, rfl⟩ := e1
    simp only [if_true] at hmm
    subst hmm
    have one : ∀ i, i < len → ∃ y : Fd, W.cell? (a'.add (i * 2)) = some (.string y.1) ∧ W.cell? ((a'.add (i * 2)).add 1) = some (.string y.2) := fun i hil => by
      obtain ⟨cs, hc, ht'⟩ := hi i (by omega)
      rw [hC] at hc
      obtain ⟨_, hcl, hat⟩ := World.cells?_some hc
      match cs, hcl with
      | [c0, c1], _ =>
        obtain ⟨n, x, rfl, rfl, _, _⟩ := fld_cells hs hone k0 k1 ht'
        have h0 := hat 0 (by decide)
        have h1 := hat 1 (by decide)
        refine ⟨(n, x), ?_, ?_⟩
        · simpa [Addr.add] using h0
        · simpa using h1
    by_cases h0 : len = 0
    · subst h0
      exact ⟨[], _, _, rfl, by simp, hm, .inl ⟨rfl, fun hn => by cases hn⟩⟩
    · obtain ⟨F, hF⟩ := Classical.axiomOfChoice (fun (i : Fin len) => one i.1 i.2)
      obtain ⟨b, off, spot⟩ := a'
      have hc0 := (hF ⟨0, by omega⟩).1
      have hspot : spot = none := by simpa [Addr.add] using World.cell?_spot hc0
      subst hspot
      refine ⟨List.ofFn F, some ⟨b, off, none⟩, _, by simp, by simpa using hl, hm, .inr ⟨b, off, rfl, ?_, ?_⟩⟩
      · by_cases hbl : b < W.heap.size
        · exact hbl
        · simp [Addr.add, World.cell?, Array.getElem?_eq_none (by omega : W.heap.size ≤ b)] at hc0
      · intro i x hix
        rw [List.getElem?_ofFn] at hix
        split at hix
        · rename_i hil
          cases hix
          have := hF ⟨i, hil⟩
          simp only [Go.WideShapes.add_plain] at this
          exact this
        · cases hix
/-- a cell that is a slice of bytes -/
theorem sl_cell9 {t e : TypeId} {v : Value} {n : Nat} {x : DataW H × List MemPlace} (ht : P.underlying t = some (.slice e)) (he : P.underlying e = some (.int .u8)) (hc : P.cellsOf e = 1)
    (h : DataW.trod enc P W 0 (fun _ => true) true n t [v] = some x) : ∃ zs, Sl .u8 W v zs := by
  rcases DataW.trod_slice ht h with ⟨e1, _⟩ | ⟨a, len, cap, _, _, _, _, e1, _⟩
  · simp only [List.cons.injEq, and_true] at e1
    subst e1
    exact ⟨[], Sl.nil _ _⟩
  · simp only [List.cons.injEq, and_true] at e1
    subst e1
    obtain ⟨d, p⟩ := x
    exact sl_open ht he hc ⟨n, h⟩
theorem rd_cells {t eb : TypeId} {f0 f1 : Field} {c0 c1 : Value} {fuel : Nat} {x : DataW H × List MemPlace} (hs : P.underlying t = some (.struct #[f0, f1])) (hone : oneCellFields P #[f0, f1] = true)
    (k0 : P.underlying f0.type = some (.slice eb)) (kb : P.underlying eb = some (.int .u8)) (hb : P.cellsOf eb = 1) (k1 : P.underlying f1.type = some (.int .i64))
    (h : DataW.trod enc P W 0 (fun _ => true) true fuel t [c0, c1] = some x) : ∃ (zs : List Int) (l : Int), Sl .u8 W c0 zs ∧ c1 = .int .i64 l ∧ l ≤ 9223372036854775807 := by
  obtain ⟨xs, n, _, _, _, hlen, hg⟩ := DataW.trod_struct hs h
  obtain ⟨o0, l0⟩ := hone_of hone 0 f0 rfl
  obtain ⟨o1, l1⟩ := hone_of hone 1 f1 rfl
  match xs, hlen with
  | [y0, y1], _ =>
    have g0 : DataW.trod enc P W 0 (fun _ => true) true n f0.type [c0] = some y0 := by simpa [o0, l0] using hg 0 f0 rfl
    have g1 : DataW.trod enc P W 0 (fun _ => true) true n f1.type [c1] = some y1 := by simpa [o1, l1] using hg 1 f1 rfl
    obtain ⟨zs, hz⟩ := sl_cell9 k0 kb hb g0
    obtain ⟨a1, e1, _, m1⟩ := DataW.trod_int k1 g1
    simp only [List.cons.injEq, and_true] at e1
    exact ⟨zs, a1, hz, e1, i64_hi m1⟩
/-- a slice of blocks with limits -/
theorem reads_open {r : Reach} {b0 : Nat} {t e eb : TypeId} {f0 f1 : Field} {v : Value} {d : DataW H} {p : List MemPlace} (ht : P.underlying t = some (.slice e)) (hs : P.underlying e = some (.struct #[f0, f1])) (hone : oneCellFields P #[f0, f1] = true)
    (k0 : P.underlying f0.type = some (.slice eb)) (kb : P.underlying eb = some (.int .u8)) (hb : P.cellsOf eb = 1) (k1 : P.underlying f1.type = some (.int .i64)) (hC : P.cellsOf e = 2)
    (hv : Value.okWide P W r b0 t v) (h : DataW.Trod enc P W 0 (fun _ => true) true t v d p) : ∃ xs, SlR W v xs := by
  obtain ⟨a, len, cap, rfl⟩ := okWide_slice ht hv
  obtain ⟨fuel, hf⟩ := h
  simp only [Value.cells] at hf
  rcases open_slice ht hf with ⟨e1, _⟩ | ⟨a', len', cap', m, n, D, Pl, e1, _, hl, hm, hmm, _, hi⟩
  · simp only [List.cons.injEq, and_true, Value.slice.injEq] at e1
    obtain ⟨rfl, rfl, rfl⟩ := e1
    exact ⟨[], fun x hx => by simp at hx, none, 0, rfl, Nat.le_refl _, by simp, .inl ⟨rfl, fun _ => rfl⟩⟩
  · simp only [List.cons.injEq, and_true, Value.slice.injEq] at e1
    obtain ⟨rfl, rfl, rfl⟩ := e1
    simp only [if_true] at hmm
    subst hmm
    have one : ∀ i, i < len → ∃ y : Rd9, (Sl .u8 W y.uv y.zs ∧ y.lim ≤ 9223372036854775807) ∧ W.cell? (a'.add (i * 2)) = some y.uv ∧ W.cell? ((a'.add (i * 2)).add 1) = some (.int .i64 y.lim) := fun i hil => by
      obtain ⟨cs, hc, ht'⟩ := hi i (by omega)
      rw [hC] at hc
      obtain ⟨_, hcl, hat⟩ := World.cells?_some hc
      match cs, hcl with
      | [c0, c1], _ =>
        obtain ⟨zs, l, hz, rfl, hl9⟩ := rd_cells hs hone k0 kb hb k1 ht'
        have h0 := hat 0 (by decide)
        have h1 := hat 1 (by decide)
        refine ⟨⟨c0, zs, l⟩, ⟨hz, hl9⟩, ?_, ?_⟩
        · simpa [Addr.add] using h0
        · simpa using h1
    by_cases h0 : len = 0
    · subst h0
      exact ⟨[], fun p hp => by simp at hp, _, _, rfl, by simp, hm, .inl ⟨rfl, fun hn => by cases hn⟩⟩
    · obtain ⟨F, hF⟩ := Classical.axiomOfChoice (fun (i : Fin len) => one i.1 i.2)
      obtain ⟨b, off, spot⟩ := a'
      have hc0 := (hF ⟨0, by omega⟩).2.1
      have hspot : spot = none := by simpa [Addr.add] using World.cell?_spot hc0
      subst hspot
      refine ⟨List.ofFn F, ?_, some ⟨b, off, none⟩, _, by simp, by simpa using hl, hm, .inr ⟨b, off, rfl, ?_, ?_⟩⟩
      · intro x hx
        obtain ⟨i, rfl⟩ := List.mem_ofFn.1 hx
        exact (hF i).1
      · by_cases hbl : b < W.heap.size
        · exact hbl
        · simp [Addr.add, World.cell?, Array.getElem?_eq_none (by omega : W.heap.size ≤ b)] at hc0
      · intro i x hix
        rw [List.getElem?_ofFn] at hix
        split at hix
        · rename_i hil
          cases hix
          have := (hF ⟨i, hil⟩).2
          simp only [Go.WideShapes.add_plain] at this
          exact this
        · cases hix
end
end Go.Proofs.YtenapfpkegoonaaDoor

/-
  The static fields, as a list of pairs of texts; no function of the program is named here.
-/
namespace Go.Proofs.YtenapfpkegoonaaDoor
open Go.RowKit

/-- the fields: names, values -/
def statTab : List (ByteArray × ByteArray) := [
  (⟨#[58, 97, 117, 116, 104, 111, 114, 105, 116, 121]⟩, ⟨#[]⟩),
  (⟨#[58, 109, 101, 116, 104, 111, 100]⟩, ⟨#[71, 69, 84]⟩),
  (⟨#[58, 109, 101, 116, 104, 111, 100]⟩, ⟨#[80, 79, 83, 84]⟩),
  (⟨#[58, 112, 97, 116, 104]⟩, ⟨#[47]⟩),
  (⟨#[58, 112, 97, 116, 104]⟩, ⟨#[47, 105, 110, 100, 101, 120, 46, 104, 116, 109, 108]⟩),
  (⟨#[58, 115, 99, 104, 101, 109, 101]⟩, ⟨#[104, 116, 116, 112]⟩),
  (⟨#[58, 115, 99, 104, 101, 109, 101]⟩, ⟨#[104, 116, 116, 112, 115]⟩),
  (⟨#[58, 115, 116, 97, 116, 117, 115]⟩, ⟨#[50, 48, 48]⟩),
  (⟨#[58, 115, 116, 97, 116, 117, 115]⟩, ⟨#[50, 48, 52]⟩),
  (⟨#[58, 115, 116, 97, 116, 117, 115]⟩, ⟨#[50, 48, 54]⟩),
  (⟨#[58, 115, 116, 97, 116, 117, 115]⟩, ⟨#[51, 48, 52]⟩),
  (⟨#[58, 115, 116, 97, 116, 117, 115]⟩, ⟨#[52, 48, 48]⟩),
  (⟨#[58, 115, 116, 97, 116, 117, 115]⟩, ⟨#[52, 48, 52]⟩),
  (⟨#[58, 115, 116, 97, 116, 117, 115]⟩, ⟨#[53, 48, 48]⟩),
  (⟨#[97, 99, 99, 101, 112, 116, 45, 99, 104, 97, 114, 115, 101, 116]⟩, ⟨#[]⟩),
  (⟨#[97, 99, 99, 101, 112, 116, 45, 101, 110, 99, 111, 100, 105, 110, 103]⟩, ⟨#[103, 122, 105, 112, 44, 32, 100, 101, 102, 108, 97, 116, 101]⟩),
  (⟨#[97, 99, 99, 101, 112, 116, 45, 108, 97, 110, 103, 117, 97, 103, 101]⟩, ⟨#[]⟩),
  (⟨#[97, 99, 99, 101, 112, 116, 45, 114, 97, 110, 103, 101, 115]⟩, ⟨#[]⟩),
  (⟨#[97, 99, 99, 101, 112, 116]⟩, ⟨#[]⟩),
  (⟨#[97, 99, 99, 101, 115, 115, 45, 99, 111, 110, 116, 114, 111, 108, 45, 97, 108, 108, 111, 119, 45, 111, 114, 105, 103, 105, 110]⟩, ⟨#[]⟩),
  (⟨#[97, 103, 101]⟩, ⟨#[]⟩),
  (⟨#[97, 108, 108, 111, 119]⟩, ⟨#[]⟩),
  (⟨#[97, 117, 116, 104, 111, 114, 105, 122, 97, 116, 105, 111, 110]⟩, ⟨#[]⟩),
  (⟨#[99, 97, 99, 104, 101, 45, 99, 111, 110, 116, 114, 111, 108]⟩, ⟨#[]⟩),
  (⟨#[99, 111, 110, 116, 101, 110, 116, 45, 100, 105, 115, 112, 111, 115, 105, 116, 105, 111, 110]⟩, ⟨#[]⟩),
  (⟨#[99, 111, 110, 116, 101, 110, 116, 45, 101, 110, 99, 111, 100, 105, 110, 103]⟩, ⟨#[]⟩),
  (⟨#[99, 111, 110, 116, 101, 110, 116, 45, 108, 97, 110, 103, 117, 97, 103, 101]⟩, ⟨#[]⟩),
  (⟨#[99, 111, 110, 116, 101, 110, 116, 45, 108, 101, 110, 103, 116, 104]⟩, ⟨#[]⟩),
  (⟨#[99, 111, 110, 116, 101, 110, 116, 45, 108, 111, 99, 97, 116, 105, 111, 110]⟩, ⟨#[]⟩),
  (⟨#[99, 111, 110, 116, 101, 110, 116, 45, 114, 97, 110, 103, 101]⟩, ⟨#[]⟩),
  (⟨#[99, 111, 110, 116, 101, 110, 116, 45, 116, 121, 112, 101]⟩, ⟨#[]⟩),
  (⟨#[99, 111, 111, 107, 105, 101]⟩, ⟨#[]⟩),
  (⟨#[100, 97, 116, 101]⟩, ⟨#[]⟩),
  (⟨#[101, 116, 97, 103]⟩, ⟨#[]⟩),
  (⟨#[101, 120, 112, 101, 99, 116]⟩, ⟨#[]⟩),
  (⟨#[101, 120, 112, 105, 114, 101, 115]⟩, ⟨#[]⟩),
  (⟨#[102, 114, 111, 109]⟩, ⟨#[]⟩),
  (⟨#[104, 111, 115, 116]⟩, ⟨#[]⟩),
  (⟨#[105, 102, 45, 109, 97, 116, 99, 104]⟩, ⟨#[]⟩),
  (⟨#[105, 102, 45, 109, 111, 100, 105, 102, 105, 101, 100, 45, 115, 105, 110, 99, 101]⟩, ⟨#[]⟩),
  (⟨#[105, 102, 45, 110, 111, 110, 101, 45, 109, 97, 116, 99, 104]⟩, ⟨#[]⟩),
  (⟨#[105, 102, 45, 114, 97, 110, 103, 101]⟩, ⟨#[]⟩),
  (⟨#[105, 102, 45, 117, 110, 109, 111, 100, 105, 102, 105, 101, 100, 45, 115, 105, 110, 99, 101]⟩, ⟨#[]⟩),
  (⟨#[108, 97, 115, 116, 45, 109, 111, 100, 105, 102, 105, 101, 100]⟩, ⟨#[]⟩),
  (⟨#[108, 105, 110, 107]⟩, ⟨#[]⟩),
  (⟨#[108, 111, 99, 97, 116, 105, 111, 110]⟩, ⟨#[]⟩),
  (⟨#[109, 97, 120, 45, 102, 111, 114, 119, 97, 114, 100, 115]⟩, ⟨#[]⟩),
  (⟨#[112, 114, 111, 120, 121, 45, 97, 117, 116, 104, 101, 110, 116, 105, 99, 97, 116, 101]⟩, ⟨#[]⟩),
  (⟨#[112, 114, 111, 120, 121, 45, 97, 117, 116, 104, 111, 114, 105, 122, 97, 116, 105, 111, 110]⟩, ⟨#[]⟩),
  (⟨#[114, 97, 110, 103, 101]⟩, ⟨#[]⟩),
  (⟨#[114, 101, 102, 101, 114, 101, 114]⟩, ⟨#[]⟩),
  (⟨#[114, 101, 102, 114, 101, 115, 104]⟩, ⟨#[]⟩),
  (⟨#[114, 101, 116, 114, 121, 45, 97, 102, 116, 101, 114]⟩, ⟨#[]⟩),
  (⟨#[115, 101, 114, 118, 101, 114]⟩, ⟨#[]⟩),
  (⟨#[115, 101, 116, 45, 99, 111, 111, 107, 105, 101]⟩, ⟨#[]⟩),
  (⟨#[115, 116, 114, 105, 99, 116, 45, 116, 114, 97, 110, 115, 112, 111, 114, 116, 45, 115, 101, 99, 117, 114, 105, 116, 121]⟩, ⟨#[]⟩),
  (⟨#[116, 114, 97, 110, 115, 102, 101, 114, 45, 101, 110, 99, 111, 100, 105, 110, 103]⟩, ⟨#[]⟩),
  (⟨#[117, 115, 101, 114, 45, 97, 103, 101, 110, 116]⟩, ⟨#[]⟩),
  (⟨#[118, 97, 114, 121]⟩, ⟨#[]⟩),
  (⟨#[118, 105, 97]⟩, ⟨#[]⟩),
  (⟨#[119, 119, 119, 45, 97, 117, 116, 104, 101, 110, 116, 105, 99, 97, 116, 101]⟩, ⟨#[]⟩)]

theorem statTab_len : statTab.length = 61 := by decide +kernel
/-- whether two texts are one, as a walk asks it -/
def eqB (a b : ByteArray) : Bool := a.toList == b.toList
theorem eqB_iff {a b : ByteArray} : eqB a b = true ↔ a = b := by
  rw [eqB, beq_iff_eq, ByteArray.toList_eq, ByteArray.toList_eq]
  exact ⟨fun h => ByteArray.ext (Array.toList_inj.1 h), fun h => by rw [h]⟩
theorem eqB_dec (a b : ByteArray) : eqB a b = decide (a = b) := by
  rw [Bool.eq_iff_iff, eqB_iff, decide_eq_true_iff]
def fNm (i : Nat) : ByteArray := (statTab.getD i (⟨#[]⟩, ⟨#[]⟩)).1
def fVl (i : Nat) : ByteArray := (statTab.getD i (⟨#[]⟩, ⟨#[]⟩)).2
/-- a field, as a value -/
def fldV (n v : ByteArray) : Value := .agg #[.string n, .string v]
/-- all of them, as an array's cells -/
def statV : Array Value := (statTab.flatMap fun p => [Value.string p.1, Value.string p.2]).toArray
theorem statV_size : statV.size = 122 := by decide +kernel
theorem pairs_even {α β : Type} (f g : α → β) : ∀ (l : List α) (i : Nat), (l.flatMap fun p => [f p, g p])[2 * i]? = l[i]?.map f
  | [], i => by simp
  | p :: l, 0 => by simp
  | p :: l, i + 1 => by
    have := pairs_even f g l i
    simp only [List.flatMap_cons, List.cons_append, List.nil_append, List.getElem?_cons_succ, show 2 * (i + 1) = 2 * i + 1 + 1 by omega]
    exact this
theorem pairs_odd {α β : Type} (f g : α → β) : ∀ (l : List α) (i : Nat), (l.flatMap fun p => [f p, g p])[2 * i + 1]? = l[i]?.map g
  | [], i => by simp
  | p :: l, 0 => by simp
  | p :: l, i + 1 => by
    have := pairs_odd f g l i
    simp only [List.flatMap_cons, List.cons_append, List.nil_append, List.getElem?_cons_succ, show 2 * (i + 1) + 1 = 2 * i + 1 + 1 + 1 by omega]
    exact this
theorem statV_nm {i : Nat} (h : i < 61) : statV[2 * i]? = some (.string (fNm i)) := by
  have hl : i < statTab.length := by rw [statTab_len]; exact h
  simp only [statV, List.getElem?_toArray]
  exact (pairs_even (fun (p : ByteArray × ByteArray) => Value.string p.1) (fun p => Value.string p.2) statTab i).trans (by simp [fNm, hl])
theorem statV_vl {i : Nat} (h : i < 61) : statV[2 * i + 1]? = some (.string (fVl i)) := by
  have hl : i < statTab.length := by rw [statTab_len]; exact h
  simp only [statV, List.getElem?_toArray]
  exact (pairs_odd (fun (p : ByteArray × ByteArray) => Value.string p.1) (fun p => Value.string p.2) statTab i).trans (by simp [fVl, hl])
theorem statV_cut {i : Nat} (h : i < 61) : statV.extract (i * 2) (i * 2 + 2) = #[.string (fNm i), .string (fVl i)] := by
  apply Array.ext_getElem?
  intro j
  have hs := statV_size
  rw [Array.getElem?_extract]
  match j with
  | 0 => rw [if_pos (by omega), show i * 2 + 0 = 2 * i by omega, statV_nm h]; rfl
  | 1 => rw [if_pos (by omega), show i * 2 + 1 = 2 * i + 1 by omega, statV_vl h]; rfl
  | j + 2 => rw [if_neg (by omega)]; rfl
/-- one of them, by its index -/
theorem run_statV {P : Program} {t e : TypeId} (ht : P.underlying t = some (.array 61 e)) (ha : ∀ w, (isAgg e).run P w = .ok true w) (he : ∀ w, (sizeOf e).run P w = .ok 2 w) (i : Nat) (hi : i < 61) (k : IntKind) (w : World) :
    (Instr.index t (.agg statV) (.int k i)).run P w = .ok (fldV (fNm i) (fVl i)) w := by
  have h1 : 0 ≤ (i : Int) ∧ (i : Int) < (61 : Nat) := ⟨by omega, by omega⟩
  simp only [Instr.index, asIntOf, Sem.run_bind, Sem.run_pure, Result.andThen_ok, run_underlying ht, h1, and_self, if_true, he, Int.toNat_natCast, part, ha, statV_cut hi, fldV]
end Go.Proofs.YtenapfpkegoonaaDoor

/-
  Fields (two texts) in a block of their own; whether two are one. No function of the program is named here.
-/
namespace Go.Proofs.YtenapfpkegoonaaDoor
open Go.RowKit

/-- the block g holds this field -/
def FldAt (W : World) (g : Nat) (n v : ByteArray) : Prop := W.heap[g]? = some (.cells #[.string n, .string v] 46 (0, 0))
theorem FldAt.new (w : World) (n v : ByteArray) : FldAt (w.alloc (.cells #[.string n, .string v] 46)) w.heap.size n v := heap_alloc_new w _
theorem FldAt.lt {W : World} {g : Nat} {n v : ByteArray} (h : FldAt W g n v) : g < W.heap.size := (Array.getElem?_eq_some_iff.1 h).1
theorem FldAt.below {W W' : World} {B g : Nat} {n v : ByteArray} (h : FldAt W g n v) (hb : Below B W W') (hg : g < B) : FldAt W' g n v := (hb.block g hg).trans h
theorem FldAt.grown {W W' : World} {g : Nat} {n v : ByteArray} (h : FldAt W g n v) (hb : Below W.heap.size W W') : FldAt W' g n v := h.below hb h.lt
theorem FldAt.c0 {W : World} {g : Nat} {n v : ByteArray} (h : FldAt W g n v) : W.cell? ⟨g, 0, none⟩ = some (.string n) := by unfold FldAt at h; simp [World.cell?, h]
theorem FldAt.c1 {W : World} {g : Nat} {n v : ByteArray} (h : FldAt W g n v) : W.cell? ⟨g, 1, none⟩ = some (.string v) := by unfold FldAt at h; simp [World.cell?, h]

theorem fld_struct : Tryd.prog.underlying 46 = some (.struct (Tryd.prog.fieldsOf 46)) := by kernel_rfl
theorem fld_held : Tryd.prog.stoodInHeld 46 = false := by kernel_rfl
theorem fld_fields : ((Tryd.prog.fieldsOf 46).toList.map fun f => (f.name, f.type, f.offset)) = [("Name", 9, 0), ("Value", 9, 1)] := by kernel_rfl
theorem str_part (n v : ByteArray) (w : World) : (part 9 #[.string n, .string v] 0).run Tryd.prog w = .ok (.string n) w := by kernel_rfl
theorem str_part1 (n v : ByteArray) (w : World) : (part 9 #[.string n, .string v] 1).run Tryd.prog w = .ok (.string v) w := by kernel_rfl
/-- whether two fields are one -/
theorem fld_eql (a b c d : ByteArray) (w : World) : (binOp .eql 46 (.agg #[.string a, .string b]) (.agg #[.string c, .string d])).run Tryd.prog w = .ok (.bool (eqB a c && eqB b d)) w := by
  rw [run_eql_struct, run_equalIn_agg w 9999 46 _ _ fld_struct fld_held]
  have hf := fld_fields
  cases hq : (Tryd.prog.fieldsOf 46).toList with
  | nil => rw [hq] at hf; simp at hf
  | cons f l =>
    rw [hq] at hf
    cases l with
    | nil => simp at hf
    | cons g m =>
      cases m with
      | cons _ _ => simp at hf
      | nil =>
        simp only [List.map_cons, List.map_nil, List.cons.injEq, Prod.mk.injEq, and_true] at hf
        obtain ⟨⟨f1, f2, f3⟩, ⟨g1, g2, g3⟩⟩ := hf
        have ne1 : ("Name" : String) ≠ "_" := by decide
        have ne2 : ("Value" : String) ≠ "_" := by decide
        simp only [Op.eqFields, f1, f2, f3, g1, g2, g3, ne1, ne2, ne_eq, not_false_eq_true, if_true, Sem.run_bind, str_part, Result.andThen_ok, run_equalIn_string w 9998 9 _ _ Tryd.underlying9]
        rw [eqB, eqB]
        cases h1 : (a.toList == c.toList)
        · simp [Result.andThen]
        · cases h2 : (b.toList == d.toList) <;> simp [str_part1, run_equalIn_string w 9998 9 _ _ Tryd.underlying9, h2, Result.andThen]
theorem store_fld {ops : Array Oper} {rest : List Oper} {o : Oper} {a : Act} {w : World} {Q : Exit → Act → World → Prop} (hgd : o.guard = none) (x y : Operand) (ho : o.op = .store 46 x y)
    (g : Nat) (n v n0 v0 : ByteArray) (hx : a.eval x = .pointer (some ⟨g, 0, none⟩)) (hy : a.eval y = .agg #[.string n, .string v])
    (hg : w.heap[g]? = some (.cells #[.string n0, .string v0] 46 (0, 0)))
    (h : wpList Tryd.prog ops Q rest (a.put o.dst undef) (w.setRow g #[.string n, .string v])) : wpList Tryd.prog ops Q (o :: rest) a w :=
  wpList_store_row hgd 46 x y ho g #[.string n, .string v] hx hy 46 #[.string n0, .string v0] hg (by kernel_rfl) rfl (by simp [Value.oneCell']) h
end Go.Proofs.YtenapfpkegoonaaDoor

/-
  A law for many array or struct literals, one behind the other: what they build is reckoned by the kernel. No program is named here.
-/
namespace Go.Proofs.YtenapfpkegoonaaDoor
open Go.RowKit

/-- the frame behind n operations that build -/
def buildAll (P : Program) : Nat → List Oper → Act → Option Act
  | 0, _, a => some a
  | _ + 1, [], _ => none
  | n + 1, o :: l, a =>
    match o.guard, o.op with
    | none, .build t parts =>
      match P.built t (parts.map fun (i, x) => (i, a.eval x)).toList with
      | some cells => buildAll P n l (a.put o.dst (.agg cells))
      | none => none
    | _, _ => none

theorem wpList_buildAll0 {P : Program} {ops : Array Oper} {Q : Exit → Act → World → Prop} : ∀ (n : Nat) {l : List Oper} {a a' : Act} {w : World},
    buildAll P n l a = some a' → wpList P ops Q (l.drop n) a' w → wpList P ops Q l a w
  | 0, l, a, a', w, h, k => by
    simp only [buildAll, Option.some.injEq] at h
    subst h
    exact k
  | n + 1, [], a, a', w, h, k => by simp [buildAll] at h
  | n + 1, o :: l, a, a', w, h, k => by
    unfold buildAll at h
    split at h
    · rename_i t parts hg ho
      split at h
      · rename_i cells hc
        exact wpList_buildTo hg t parts ho o.dst rfl cells hc (wpList_buildAll0 n h k)
      · cases h
    · cases h
/-- the same, its list's length said first, so that no other list is taken -/
theorem wpList_buildAll {P : Program} {ops : Array Oper} {Q : Exit → Act → World → Prop} {l : List Oper} {a : Act} {w : World} (m n : Nat) (_hm : l.length = m) (ts : Array Value)
    (h : buildAll P n l a = some { a with tmps := ts }) (k : wpList P ops Q (l.drop n) { a with tmps := ts } w) : wpList P ops Q l a w := wpList_buildAll0 n h k
/-- two results, the first of which lies in a block of its own -/
theorem results_row_tmp1 {P : Program} {fn : Func} {p u : Tmp} {ty : TypeId} (h : fn.results = #[.cell p ty, .tmp u]) (tmps : Array Value) (w : World) (g : Nat) (t : TypeId) (cs : Array Value) (fr : Nat × Nat) (d : TypeDesc)
    (hp : tmps.getD p undef = .pointer (some ⟨g, 0, none⟩)) (hg : w.heap[g]? = some (.cells cs t fr))
    (hu : P.underlying ty = some d) (hd : (match d with | .struct _ | .array _ _ => true | _ => false) = true) (hi : (P.info? ty).map (·.size) = some cs.size) :
    (results fn tmps).run P w = .ok (.tuple #[.agg cs, tmps.getD u undef]) w := by
  have hp' : tmps[p]?.getD undef = .pointer (some ⟨g, 0, none⟩) := by simpa using hp
  simp [results, h, hp', asAddr, run_loadVar_row w g t ty cs fr d hg hu hd hi, Result.andThen]
/-- a slice literal of constants of one cell each, every place written -/
theorem wpList_buildOnes {P : Program} {ops : Array Oper} {rest : List Oper} {o : Oper} {a : Act} {w : World} {Q : Exit → Act → World → Prop} (hg : o.guard = none) (t e : TypeId) (len : Nat) (parts : Array (Nat × Operand)) (ho : o.op = .buildSlice t len parts)
    (vs : List Value) (hu : P.underlying t = some (.slice e)) (hsz : (P.info? e).map (·.size) = some 1) (hz : ((P.info? e).bind (·.zero)).isSome = true)
    (hlen : len = vs.length) (hpos : 0 < len) (hsmall : len ≤ 2 ^ 24)
    (hparts : parts.toList = (vs.zipIdx 0).map fun x => (x.2, Operand.const x.1)) (h1 : ∀ v ∈ vs, v.cells = #[v])
    (h : wpList P ops Q rest (a.put o.dst (.slice (some ⟨w.heap.size, 0, none⟩) len len)) (w.alloc (.cells vs.toArray e))) : wpList P ops Q (o :: rest) a w := by
  cases hie : P.info? e with
  | none => simp [hie] at hsz
  | some ie =>
    simp only [hie, Option.map_some, Option.some.injEq, Option.bind_some] at hsz hz
    obtain ⟨z, hzz⟩ := Option.isSome_iff_exists.1 hz
    refine wpList_buildSlice hg t e len parts ho _ ie z hu hie hzz (by rw [hsz]; omega) (by rw [hsz]; omega) ?_ h
    have e1 : (parts.map fun (i, x) => (i, a.eval x)).toList = (vs.zipIdx 0).map fun x => (x.2, x.1) := by
      rw [Array.toList_map, hparts, List.map_map]
      rfl
    rw [e1, hsz]
    exact Great.fill_flat _ _ h1 (by simp [hlen])
/-- the address of a slice's element -/
theorem run_index_sl {P : Program} {t : TypeId} {s : Nat} (ht : P.underlying t = some (.slice (P.elem t))) (he : ∀ w, (sizeOf (P.elem t)).run P w = .ok s w) (b off n cap k : Nat) (hk : k < n) (q : IntKind) (W : World) :
    (Instr.indexAt t (.slice (some ⟨b, off, none⟩) n cap) (.int q k)).run P W = .ok (.pointer (some ⟨b, off + k * s, none⟩)) W := by
  rw [run_indexAt_slice W t ⟨b, off, none⟩ n cap q k ht, if_pos ⟨by omega, by omega⟩, he]
  simp [Result.andThen, Go.WideShapes.add_plain]
end Go.Proofs.YtenapfpkegoonaaDoor

/-
  The table that package static makes; Get.
-/
namespace Go.Proofs.YtenapfpkegoonaaDoor
open Go.RowKit

theorem Tryd.zeroFields : (Tryd.prog.info? 127).map (fun i => (i.zero, i.size)) = some (some (.agg (Array.replicate 122 (.string ⟨#[]⟩))), 122) := by kernel_rfl
theorem sizeFields : (Tryd.prog.info? 127).map (·.size) = some statV.size := by rw [statV_size]; exact (zero_of_info Tryd.zeroFields).2
theorem underFields : Tryd.prog.underlying 127 = some (.array 61 46) := by kernel_rfl

theorem statV_one : statV.all (·.oneCell') = true := by
  rw [Array.all_eq_true_iff_forall_mem]
  intro v hv
  simp only [statV, List.mem_toArray, List.mem_flatMap, List.mem_cons, List.not_mem_nil, or_false] at hv
  obtain ⟨p, _, rfl | rfl⟩ := hv <;> rfl
set_option maxHeartbeats 4000000 in
set_option maxRecDepth 20000 in
theorem fields_any (w : World) :
    Calls Tryd.prog 84 #[] w fun e w' => e = .returned (.agg statV) ∧ Below w.heap.size w w' := by
  have hz := (zero_of_info Tryd.zeroFields).1
  go_enter Tryd.func84, Tryd.ntmps84
  go_wp2_with (refine wpList_buildAll 63 62 (by decide) (Value.pointer (some ⟨w.heap.size, 0, none⟩) :: (statTab.map (fun p => fldV p.1 p.2) ++ [.agg statV])).toArray (by kernel_rfl) ?_; simp only [List.drop_succ_cons, List.drop_zero]; refine wpList_store_row rfl 127 (.tmp 0) (.tmp 62) rfl w.heap.size statV rfl (by kernel_rfl) 127 (Array.replicate 122 (.string ⟨#[]⟩)) (heap_alloc_new _ _) sizeFields (by rw [statV_size]; rfl) statV_one ?_)
  refine bodyPost_ret (v := .agg statV) (results_cell_row rfl _ _ w.heap.size 127 statV (0, 0) _ (by kernel_rfl) (setRow_heap _ _ _ _ _ _ (heap_alloc_new _ _)) underFields rfl sizeFields) rfl ⟨rfl, below_setRow ((Below.refl _ _).alloc (Nat.le_refl _) _) (Nat.le_refl _) _⟩

/-- the field of an index: name, value, error -/
def getN (i : Int) : ByteArray := if 1 ≤ i ∧ i ≤ 61 then fNm (i - 1).toNat else ⟨#[]⟩
def getV (i : Int) : ByteArray := if 1 ≤ i ∧ i ≤ 61 then fVl (i - 1).toNat else ⟨#[]⟩
def getE (i : Int) : Int := if 1 ≤ i ∧ i ≤ 61 then 0 else 5
def getT (i : Int) : Value := .tuple #[fldV (getN i) (getV i), .int .i64 (getE i)]
theorem run_static (i : Nat) (hi : i < 61) (k : IntKind) (w : World) : (Instr.index 127 (.agg statV) (.int k i)).run Tryd.prog w = .ok (fldV (fNm i) (fVl i)) w :=
  run_statV underFields (fun _ => by kernel_rfl) (fun _ => by kernel_rfl) i hi k w

theorem get_any (i : Int) (w : World) :
    Calls Tryd.prog 88 #[.int .i64 i] w fun e w' => e = .returned (getT i) ∧ Below w.heap.size w w' := by
  by_cases h : 1 ≤ i ∧ i ≤ 61
  · obtain ⟨k, rfl⟩ : ∃ k : Nat, i = (k : Int) + 1 := ⟨(i - 1).toNat, by omega⟩
    have hk : k < 61 := by omega
    have HT := Lib.hid (show getT ((k : Int) + 1) = .tuple #[fldV (fNm k) (fVl k), .int .i64 0] by
      rw [getT, getN, getV, getE, if_pos h, if_pos h, if_pos h, show ((k : Int) + 1 - 1).toNat = k by omega])
    have d1 : decide ((k : Int) + 1 < 1) = false := decide_eq_false (by omega)
    have d2 : decide (61 < (k : Int) + 1) = false := decide_eq_false (by omega)
    have hx : ∀ (q : IntKind) (W : World), (Instr.index 127 (.agg statV) (.int q (k : Int))).run Tryd.prog W = .ok (fldV (fNm k) (fVl k)) W := run_static k hk
    clear h
    go_enter Tryd.func88, Tryd.ntmps88
    go_wp2_with fail
    refine (fields_any _).mono ?_
    rintro e w' ⟨rfl, hb⟩
    have hg : Hid (w'.heap[w.heap.size]? = some (.cells #[.string ⟨#[]⟩, .string ⟨#[]⟩] 46 (0, 0)) ∧ Below w.heap.size w w') :=
      ⟨(hb.block _ (by simp)).trans (heap_alloc_new _ _), ((Below.refl _ _).alloc (Nat.le_refl _) _).trans (hb.mono (by simp))⟩
    clear hb
    go_wp2_with (with_reducible refine store_fld rfl (.tmp 2) (.tmp 14) rfl w.heap.size (fNm k) (fVl k) _ _ rfl rfl hg.out.1 ?_)
    refine bodyPost_ret (results_row_tmp1 rfl _ _ w.heap.size 46 #[.string (fNm k), .string (fVl k)] (0, 0) _ rfl (setRow_heap _ _ _ _ _ _ hg.out.1) Tryd.underlying46 rfl (by kernel_rfl)) rfl ⟨?_, below_setRow hg.out.2 (Nat.le_refl _) _⟩
    rw [HT.out]; rfl
  · have HT := Lib.hid (show getT i = .tuple #[fldV ⟨#[]⟩ ⟨#[]⟩, .int .i64 5] by
      rw [getT, getN, getV, getE, if_neg h, if_neg h, if_neg h])
    by_cases h1 : i < 1
    · have d1 : decide (i < 1) = true := decide_eq_true h1
      clear h h1
      go_enter Tryd.func88, Tryd.ntmps88
      go_wp2_with fail
      refine bodyPost_ret (results_row_tmp1 rfl _ _ w.heap.size 46 #[.string ⟨#[]⟩, .string ⟨#[]⟩] (0, 0) _ rfl (heap_alloc_new _ _) Tryd.underlying46 rfl (by kernel_rfl)) rfl ⟨?_, (Below.refl _ _).alloc (Nat.le_refl _) _⟩
      rw [HT.out]; rfl
    · have d1 : decide (i < 1) = false := decide_eq_false h1
      have d2 : decide (61 < i) = true := decide_eq_true (by omega)
      clear h h1
      go_enter Tryd.func88, Tryd.ntmps88
      go_wp2_with fail
      refine bodyPost_ret (results_row_tmp1 rfl _ _ w.heap.size 46 #[.string ⟨#[]⟩, .string ⟨#[]⟩] (0, 0) _ rfl (heap_alloc_new _ _) Tryd.underlying46 rfl (by kernel_rfl)) rfl ⟨?_, (Below.refl _ _).alloc (Nat.le_refl _) _⟩
      rw [HT.out]; rfl
end Go.Proofs.YtenapfpkegoonaaDoor

/-
  Tables: the program's, the reference's; what a call on one may turn. No function of the program is named here.
-/
namespace Go.Proofs.YtenapfpkegoonaaDoor
open Go.RowKit

/-- what a call on an object may turn: the block T, and the one that v lies in; what else lay stays -/
structure Mv (T : Nat) (v : Value) (w w' : World) : Prop where
  os : w'.os = w.os
  tape : w'.tape = w.tape
  output : w'.output = w.output
  size : w.heap.size ≤ w'.heap.size
  block : ∀ k, k < w.heap.size → k ≠ T → v.ownBlock ≠ some k → w'.heap[k]? = w.heap[k]?
theorem Mv.refl (T : Nat) (v : Value) (w : World) : Mv T v w w := ⟨rfl, rfl, rfl, Nat.le_refl _, fun _ _ _ _ => rfl⟩
theorem Mv.of {T : Nat} {v : Value} {w w' : World} (h : Below w.heap.size w w') : Mv T v w w' := ⟨h.os, h.tape, h.output, h.size, fun k hk _ _ => h.block k hk⟩
theorem Mv.below {T : Nat} {v : Value} {w w' : World} {B : Nat} (h : Mv T v w w') (hT : B ≤ T) (hv : ∀ g, v.ownBlock = some g → B ≤ g) (hB : B ≤ w.heap.size) : Below B w w' :=
  ⟨h.os, h.tape, h.output, h.size, fun k hk => h.block k (by omega) (by omega) (fun e => by have := hv k e; omega)⟩
theorem Mv.trans {T : Nat} {v v1 : Value} {w w1 w2 : World} (h : Mv T v w w1) (k : Mv T v1 w1 w2) (hv : ∀ g, v1.ownBlock = some g → v.ownBlock = some g ∨ w.heap.size ≤ g) : Mv T v w w2 :=
  ⟨k.os.trans h.os, k.tape.trans h.tape, k.output.trans h.output, Nat.le_trans h.size k.size, fun i hi hT hv' => (k.block i (Nat.lt_of_lt_of_le hi h.size) hT (fun e => by
    rcases hv i e with h1 | h1
    · exact hv' h1
    · omega)).trans (h.block i hi hT hv')⟩
theorem Mv.grown {T : Nat} {v : Value} {w w' : World} (h : w.grownBy w' v.ownBlock) : Mv T v w w' := ⟨h.os, h.tape, h.output, h.size, fun k hk _ hv => h.block k hk (fun e => hv e.symm)⟩
theorem Mv.set (T : Nat) (v : Value) (w : World) (j : Nat) (x : Value) : Mv T v w (w.setCell ⟨T, j, none⟩ x) :=
  ⟨rfl, rfl, rfl, by simp, fun k _ hT _ => Below.heap_setCell _ _ _ _ (by show k ≠ T; exact hT)⟩
theorem Mv.drewN {T : Nat} {v : Value} {w w' : World} (h : Mv T v w w') (n : Nat) : Mv T v w (w'.drewN n) := ⟨h.os, h.tape, h.output, h.size, h.block⟩

/-- where a value's block comes from: it was the old one's; or it is new -/
def From (w : World) (v v' : Value) : Prop := ∀ g, v'.ownBlock = some g → v.ownBlock = some g ∨ w.heap.size ≤ g
theorem From.refl (w : World) (v : Value) : From w v v := fun _ h => .inl h
theorem From.trans {w w1 : World} {v v1 v2 : Value} (h : From w v v1) (k : From w1 v1 v2) (hs : w.heap.size ≤ w1.heap.size) : From w v v2 := fun g hg => by
  rcases k g hg with h1 | h1
  · exact h g h1
  · exact .inr (Nat.le_trans hs h1)
theorem From.kept {w : World} {n n' c c' : Nat} {a : Option Addr} : From w (.slice a n c) (.slice a n' c') := fun g h => .inl (by cases a <;> exact h)

/-- the program's table lies there -/
def TabAt (W : World) (T : Nat) (bound most : Int) (v : Value) (z : Int) : Prop := W.heap[T]? = some (.cells #[.int .i64 bound, .int .i64 most, v, .int .i64 z] 83 (0, 0))
theorem TabAt.lt {W : World} {T : Nat} {b m z : Int} {v : Value} (h : TabAt W T b m v z) : T < W.heap.size := (Array.getElem?_eq_some_iff.1 h).1
theorem TabAt.c0 {W : World} {T : Nat} {b m z : Int} {v : Value} (h : TabAt W T b m v z) : W.cell? ⟨T, 0, none⟩ = some (.int .i64 b) := blk_cell h rfl
theorem TabAt.c1 {W : World} {T : Nat} {b m z : Int} {v : Value} (h : TabAt W T b m v z) : W.cell? ⟨T, 1, none⟩ = some (.int .i64 m) := blk_cell h rfl
theorem TabAt.c2 {W : World} {T : Nat} {b m z : Int} {v : Value} (h : TabAt W T b m v z) : W.cell? ⟨T, 2, none⟩ = some v := blk_cell h rfl
theorem TabAt.c3 {W : World} {T : Nat} {b m z : Int} {v : Value} (h : TabAt W T b m v z) : W.cell? ⟨T, 3, none⟩ = some (.int .i64 z) := blk_cell h rfl
theorem TabAt.free {W : World} {T j : Nat} {b m z : Int} {v : Value} (h : TabAt W T b m v z) : W.frozen? ⟨T, j, none⟩ = false := blk_free h
theorem TabAt.s1 {W : World} {T : Nat} {b m z : Int} {v : Value} (h : TabAt W T b m v z) (x : Int) : TabAt (W.setCell ⟨T, 1, none⟩ (.int .i64 x)) T b x v z := heap_setCell_same W T 1 _ _ _ h
theorem TabAt.s2 {W : World} {T : Nat} {b m z : Int} {v : Value} (h : TabAt W T b m v z) (x : Value) : TabAt (W.setCell ⟨T, 2, none⟩ x) T b m x z := heap_setCell_same W T 2 _ _ _ h
theorem TabAt.s3 {W : World} {T : Nat} {b m z : Int} {v : Value} (h : TabAt W T b m v z) (x : Int) : TabAt (W.setCell ⟨T, 3, none⟩ (.int .i64 x)) T b m v x := heap_setCell_same W T 3 _ _ _ h
theorem TabAt.of_block {W W' : World} {T : Nat} {b m z : Int} {v : Value} (h : TabAt W T b m v z) (hb : W'.heap[T]? = W.heap[T]?) : TabAt W' T b m v z := hb.trans h
theorem TabAt.below {W W' : World} {T : Nat} {b m z : Int} {v : Value} (h : TabAt W T b m v z) (hb : Below W.heap.size W W') : TabAt W' T b m v z := h.of_block (hb.block T h.lt)
theorem TabAt.apart {W : World} {base T : Nat} {b m z : Int} {v u : Value} {fs : List Fd} (h : TabAt W T b m v z) (hr : RowF W base u fs) : u.ownBlock ≠ some T :=
  hr.apart h (fun cs fr e => by injection e with _ e2 _; exact absurd e2 (by decide))

/-- the program's table: its bound, its most, its fields, the oldest one first -/
def TabO (W : World) (base T : Nat) (b m : Int) (v : Value) (fs : List Fd) : Prop := base ≤ T ∧ TabAt W T b m v (sumF fs : Nat) ∧ RowF W base v fs
theorem TabO.of_blocks {W W' : World} {base T : Nat} {b m : Int} {v : Value} {fs : List Fd} (h : TabO W base T b m v fs) (hT : W'.heap[T]? = W.heap[T]?) (hv : ∀ g, v.ownBlock = some g → W'.heap[g]? = W.heap[g]?) : TabO W' base T b m v fs :=
  ⟨h.1, h.2.1.of_block hT, h.2.2.of_block hv⟩
theorem TabO.below {W W' : World} {base T : Nat} {b m : Int} {v : Value} {fs : List Fd} (h : TabO W base T b m v fs) (hb : Below W.heap.size W W') : TabO W' base T b m v fs :=
  ⟨h.1, h.2.1.below hb, h.2.2.below hb⟩
theorem TabO.drewN {W : World} {base T : Nat} {b m : Int} {v : Value} {fs : List Fd} (h : TabO W base T b m v fs) (n : Nat) : TabO (W.drewN n) base T b m v fs := h.below (below_drewN (Below.refl _ _) n)
theorem TabO.sep {W : World} {base T : Nat} {b m : Int} {v : Value} {fs : List Fd} (h : TabO W base T b m v fs) : v.ownBlock ≠ some T := h.2.1.apart h.2.2

/-- the reference's table lies there -/
def RefAt (W : World) (T : Nat) (v : Value) (bound most : Int) : Prop := W.heap[T]? = some (.cells #[v, .int .i64 bound, .int .i64 most] 41 (0, 0))
theorem RefAt.lt {W : World} {T : Nat} {b m : Int} {v : Value} (h : RefAt W T v b m) : T < W.heap.size := (Array.getElem?_eq_some_iff.1 h).1
theorem RefAt.c0 {W : World} {T : Nat} {b m : Int} {v : Value} (h : RefAt W T v b m) : W.cell? ⟨T, 0, none⟩ = some v := blk_cell h rfl
theorem RefAt.c1 {W : World} {T : Nat} {b m : Int} {v : Value} (h : RefAt W T v b m) : W.cell? ⟨T, 1, none⟩ = some (.int .i64 b) := blk_cell h rfl
theorem RefAt.c2 {W : World} {T : Nat} {b m : Int} {v : Value} (h : RefAt W T v b m) : W.cell? ⟨T, 2, none⟩ = some (.int .i64 m) := blk_cell h rfl
theorem RefAt.free {W : World} {T j : Nat} {b m : Int} {v : Value} (h : RefAt W T v b m) : W.frozen? ⟨T, j, none⟩ = false := blk_free h
theorem RefAt.s0 {W : World} {T : Nat} {b m : Int} {v : Value} (h : RefAt W T v b m) (x : Value) : RefAt (W.setCell ⟨T, 0, none⟩ x) T x b m := heap_setCell_same W T 0 _ _ _ h
theorem RefAt.s2 {W : World} {T : Nat} {b m : Int} {v : Value} (h : RefAt W T v b m) (x : Int) : RefAt (W.setCell ⟨T, 2, none⟩ (.int .i64 x)) T v b x := heap_setCell_same W T 2 _ _ _ h
theorem RefAt.of_block {W W' : World} {T : Nat} {b m : Int} {v : Value} (h : RefAt W T v b m) (hb : W'.heap[T]? = W.heap[T]?) : RefAt W' T v b m := hb.trans h
theorem RefAt.below {W W' : World} {T : Nat} {b m : Int} {v : Value} (h : RefAt W T v b m) (hb : Below W.heap.size W W') : RefAt W' T v b m := h.of_block (hb.block T h.lt)
theorem RefAt.apart {W : World} {base T : Nat} {b m : Int} {v u : Value} {fs : List Fd} (h : RefAt W T v b m) (hr : RowF W base u fs) : u.ownBlock ≠ some T :=
  hr.apart h (fun cs fr e => by injection e with _ e2 _; exact absurd e2 (by decide))
/-- the reference's table: the newest field first -/
def TabR (W : World) (base T : Nat) (b m : Int) (v : Value) (fs : List Fd) : Prop := base ≤ T ∧ RefAt W T v b m ∧ RowF W base v fs
theorem TabR.of_blocks {W W' : World} {base T : Nat} {b m : Int} {v : Value} {fs : List Fd} (h : TabR W base T b m v fs) (hT : W'.heap[T]? = W.heap[T]?) (hv : ∀ g, v.ownBlock = some g → W'.heap[g]? = W.heap[g]?) : TabR W' base T b m v fs :=
  ⟨h.1, h.2.1.of_block hT, h.2.2.of_block hv⟩
theorem TabR.below {W W' : World} {base T : Nat} {b m : Int} {v : Value} {fs : List Fd} (h : TabR W base T b m v fs) (hb : Below W.heap.size W W') : TabR W' base T b m v fs :=
  ⟨h.1, h.2.1.below hb, h.2.2.below hb⟩
theorem TabR.drewN {W : World} {base T : Nat} {b m : Int} {v : Value} {fs : List Fd} (h : TabR W base T b m v fs) (n : Nat) : TabR (W.drewN n) base T b m v fs := h.below (below_drewN (Below.refl _ _) n)
theorem TabR.sep {W : World} {base T : Nat} {b m : Int} {v : Value} {fs : List Fd} (h : TabR W base T b m v fs) : v.ownBlock ≠ some T := h.2.1.apart h.2.2
end Go.Proofs.YtenapfpkegoonaaDoor

/-
  (*dynamic.Table).oldestFirst: what it ranges over.
-/
namespace Go.Proofs.YtenapfpkegoonaaDoor
open Go.RowKit
attribute [local go_sem] Oper.semAt_some

/-- what a round may turn: not the row that is gone through -/
def KeepRow (v : Value) (A B : World) : Prop := A.heap.size ≤ B.heap.size ∧ ∀ g, v.ownBlock = some g → B.heap[g]? = A.heap[g]?
theorem KeepRow.refl (v : Value) (A : World) : KeepRow v A A := ⟨Nat.le_refl _, fun _ _ => rfl⟩
theorem KeepRow.trans {v : Value} {A B C : World} (h : KeepRow v A B) (k : KeepRow v B C) : KeepRow v A C := ⟨Nat.le_trans h.1 k.1, fun g hg => (k.2 g hg).trans (h.2 g hg)⟩
def encFd (f : Fd) : Array Value := #[.agg #[.string f.1, .string f.2]]
def NextFd (fs : List Fd) (pre : List Fd) (f : Fd) (_ : World) : Prop := fs[pre.length]? = some f
def AllFd (fs : List Fd) (xs : List Fd) : Prop := xs = fs
def SomeFd (fs : List Fd) (xs : List Fd) : Prop := ∃ m, m < fs.length ∧ xs = fs.take (m + 1)

set_option maxHeartbeats 1000000 in
theorem fields_iter (n l Bb T base : Nat) (b m z : Int) (v : Value) (fs : List Fd) (J Jx : List Fd → World → Prop) (hJg : Grows J)
    (hY : ∀ pre f W1, J pre W1 → NextFd fs pre f W1 → pre.length < fs.length → YieldAt Fence.wide (n - 1) Tryd.prog l (encFd f) W1 fun e W' =>
      (e = .returned (.bool true) ∧ J (pre ++ [f]) W' ∧ KeepRow v W1 W') ∨ (e = .returned (.bool false) ∧ Jx (pre ++ [f]) W'))
    (W : World) (hb : W.heap[Bb]? = some (.cells #[.pointer (some ⟨T, 0, none⟩)] 53 (0, 0))) (hT : TabAt W T b m v z) (hr : RowF W base v fs) (h0 : J [] W) :
    CallsIn Fence.wide n Tryd.prog 64 #[.func (.yield l) #[] #[], .pointer (some ⟨Bb, 0, none⟩)] W fun e W' => (∃ v, e = .returned v) ∧ ((∃ xs, AllFd fs xs ∧ J xs W') ∨ ∃ pre, SomeFd fs pre ∧ Jx pre W') := by
  obtain ⟨a, cap, rfl, hc1, hc2⟩ := hr.toSl.shape
  unfold maxLen at hc2
  refine callsIn_of_wp Tryd.func64 rfl trivial ?_ rfl
  simp only [Tryd.ntmps64, List.size_toArray, List.length_cons, List.length_nil, Nat.reduceAdd, Nat.reduceSub, Array.replicate_succ, Array.replicate_zero, List.push_toArray, List.append_toArray, List.nil_append, List.cons_append]
  have cb := blk_cell (j := 0) hb rfl
  have c2 := hT.c2
  gi_wp2
  gi_loopw [10] (fun i wr => ∃ k : Nat, i = .int .i64 k ∧ k ≤ fs.length ∧ J (fs.take k) wr ∧ KeepRow (.slice a fs.length cap) W wr) (fun i _ => fs.length - (intOf i).toNat)
  case atStart => exact ⟨0, rfl, Nat.zero_le _, by simpa using h0, KeepRow.refl _ _⟩
  case round =>
    clear hb hT h0 cb c2
    obtain ⟨k, rfl, hk, hJ, hK⟩ := hrel
    by_cases hlt : k < fs.length
    · obtain ⟨f, hf⟩ : ∃ f, fs[k]? = some f := ⟨fs[k], List.getElem?_eq_getElem hlt⟩
      obtain ⟨bk, off, rfl, hbl, hcell⟩ := (hr.of_block (w' := wr) hK.2).toSl.at_ hlt
      obtain ⟨c0, c1⟩ := hcell f hf
      have hJ2 := hJg _ _ _ hJ ((Below.refl wr.heap.size wr).alloc (Nat.le_refl _) (.cells #[.string f.1, .string f.2] 46))
      have hl : (fs.take k).length = k := by rw [List.length_take]; omega
      have hK2 : KeepRow (.slice (some ⟨bk, off, none⟩) fs.length cap) wr (wr.alloc (.cells #[.string f.1, .string f.2] 46)) := ⟨by simp, fun g hg => Below.heap_alloc _ _ _ (by cases hg; exact hbl)⟩
      obtain ⟨fn, tmps, assign, body, hy, hR⟩ := hY _ f _ hJ2 (show fs[(fs.take k).length]? = some f by rw [hl]; exact hf) (by omega)
      have HF := Lib.hid hf
      have HT := Lib.hid (show fs.take k ++ [f] = fs.take (k + 1) by rw [List.take_add_one, hf]; rfl)
      unfold encFd at hy
      clear hcell hJ hJ2 hl hf
      gi_wp2
      refine ⟨fun h => by simp [Fence.wide] at h, ?_⟩
      refine hR.mono ?_
      rintro e W5 (⟨rfl, hJ5, hk5⟩ | ⟨rfl, hJx5⟩)
      · gi_wp2
        go_roundw
        case rel => exact ⟨k + 1, by go_num, by omega, by rw [← HT.out]; exact hJ5, hK.trans (hK2.trans hk5)⟩
        case measure => simp [intOf]; omega
      · gi_wp2
        refine bodyPost_ret (results_none rfl _ _ _) rfl ?_
        exact ⟨⟨_, rfl⟩, .inr ⟨_, ⟨k, hlt, HT.out⟩, hJx5⟩⟩
    · obtain rfl : k = fs.length := by omega
      gi_wp2
      go_end0
      refine ⟨⟨_, rfl⟩, .inl ⟨_, ?_, hJ⟩⟩
      show _ = _
      rw [List.take_of_length_le (Nat.le_refl _)]

theorem fields_seq (n Bb T base : Nat) (b m z : Int) (v : Value) (fs : List Fd) (w : World) (hb : w.heap[Bb]? = some (.cells #[.pointer (some ⟨T, 0, none⟩)] 53 (0, 0))) (hT : TabAt w T b m v z) (hr : RowF w base v fs) :
    SeqP Tryd.prog n 64 #[.pointer (some ⟨Bb, 0, none⟩)] encFd (NextFd fs) (KeepRow v) (AllFd fs) (SomeFd fs) fs.length w := fun l J Jx W hW hJg _ hY h0 =>
  fields_iter n l Bb T base b m z v fs J Jx hJg hY W ((hW.block Bb (Array.getElem?_eq_some_iff.1 hb).1).trans hb) (hT.below hW) (hr.below hW) h0
end Go.Proofs.YtenapfpkegoonaaDoor

/-
  slices.Delete of the first ones of a row of fields; clear of a row's rest.
-/
namespace Go.Proofs.YtenapfpkegoonaaDoor
set_option maxRecDepth 20000
open Go.RowKit

theorem size_zeroCells' (z : Array Value) (n : Nat) : (Builtin.zeroCells z n).size = n * z.size := by simp [Builtin.zeroCells]
/-- 'clear(s)', s a row's rest -/
theorem run_clear_rest {P : Program} (w : World) (t e : TypeId) (z : Value) (size : Nat) (ht : P.underlying t = some (.slice e)) (hv : ∀ w, (zeroValue e).run P w = .ok z w) (hz : z.cells.size = size) (h1 : ∀ n, ∀ u ∈ (Builtin.zeroCells z.cells n).toList, u.oneCell' = true)
    (base g m cap n : Nat) (xs : List Value) (hown : w.ownsRow base e size (.slice (some ⟨g, 0, none⟩) m cap) m xs) (hn : 0 < n) (hroom : m + n ≤ cap) :
    ∃ w', (∀ ty c, (Builtin.clear_ #[t] ty #[.slice (some ⟨g, m * size, none⟩) n c]).run P w = .ok (.tuple #[]) w') ∧ w'.ownsRow base e size (.slice (some ⟨g, 0, none⟩) m cap) m xs ∧ w.grownBy w' (some g) := by
  obtain ⟨hlen, hcase⟩ := hown
  rcases hcase with ⟨h, _⟩ | ⟨g', cap', cur, h, hbg, hg, hnc, hcm, hcs, htake⟩
  · simp at h
  · simp only [Value.slice.injEq, Option.some.injEq, Addr.mk.injEq, and_true, true_and] at h
    obtain ⟨rfl, rfl⟩ := h
    have hzl : (Builtin.zeroCells z.cells n).toList.length = n * size := by rw [Array.length_toList, size_zeroCells', hz]
    have hfit : m * size + 0 + (Builtin.zeroCells z.cells n).toList.length ≤ cur.size := by rw [hzl, hcs, Nat.add_zero, ← Nat.add_mul]; exact Nat.mul_le_mul_right _ hroom
    have hst := run_storeCells_at P g (m * size) e (Builtin.zeroCells z.cells n).toList 0 cur w hg hfit (h1 n)
    obtain ⟨k, rfl⟩ : ∃ k, n = k + 1 := ⟨n - 1, by omega⟩
    refine ⟨_, fun ty c => by simp only [Builtin.clear_]; simp [run_underlying ht, hv, hst]; rfl, ⟨hlen, .inr ⟨g, cap, _, rfl, hbg, setRow_heap w g cur _ e _ hg, hnc, hcm, ?_, ?_⟩⟩, ⟨rfl, rfl, rfl, by simp, fun j _ hj => setRow_other w g j _ (fun e => hj (by rw [e]))⟩⟩
    · simp only [List.size_toArray, List.length_append, List.length_take, List.length_drop, Array.length_toList]
      simp only [Array.length_toList] at hfit hzl
      omega
    · have hml : m * size ≤ cur.toList.length := by rw [Array.length_toList]; omega
      show List.take (m * size) (List.take (m * size) cur.toList ++ _) = xs
      rw [List.take_append_of_le_length (by rw [List.length_take]; omega), List.take_take, Nat.min_self, htake]

/-- 'append' that has room, as an operation of a region that draws -/
theorem step_app_fits {P : Program} {ops : Array Oper} {o : Oper} {a : Act} {w : World} {K : Act → World → Prop} {Q : Exit → Act → World → Prop} {E : Prop}
    (hg : o.guard = none) (s x : Operand) (t : TypeId) (hop : o.op = Op.call { callee := Callee.builtin Builtin.append, args := #[s, x], argTypes := #[t, t] })
    (base : Nat) (e : TypeId) (i : TypeInfo) (size : Nat) (ht : P.underlying t = some (.slice e)) (hi : P.info? e = some i) (hsize : i.size = size)
    (g n cap : Nat) (xs : List Value) (hs : a.eval s = .slice (some ⟨g, 0, none⟩) n cap) (hown : w.ownsRow base e size (.slice (some ⟨g, 0, none⟩) n cap) n xs)
    (ad : Addr) (m c : Nat) (news : List Value) (hx : a.eval x = .slice (some ad) m c) (hl : news.length = m * size) (hnews : ∀ j u, news[j]? = some u → w.cell? (ad.add j) = some u) (h1 : ∀ u ∈ news, u.oneCell' = true)
    (hroom : n + m ≤ cap)
    (hK : ∀ w', w'.ownsRow base e size (.slice (some ⟨g, 0, none⟩) (n + m) cap) (n + m) (xs ++ news) → w.grownBy w' (some g) → K (a.put o.dst (.slice (some ⟨g, 0, none⟩) (n + m) cap)) w') :
    if Region.wanted o (yielded ops a.tmps) = true then Oper.wp P o a w K Q else E := by
  have hw : Region.wanted o (yielded ops a.tmps) = true := by simp [Region.wanted, hg]
  rw [if_pos hw]
  obtain ⟨w', hrun, h2, h3⟩ := run_append_fits (P := P) w base t o.type e i size ht hi hsize g n cap xs hown ad m c news hl hnews h1 hroom
  unfold Oper.wp
  simp [execOp, hop, resolve, invoke, builtin, hs, hx, hrun, Result.andThen]
  exact hK _ h2 h3

theorem sizeFld : (Tryd.prog.info? 46).map (fun i => (i.zero, i.size, i.bytes)) = some (some (.agg #[.string ⟨#[]⟩, .string ⟨#[]⟩]), 2, 32) := by kernel_rfl
theorem zeroFld (w : World) : (zeroValue 46).run Tryd.prog w = .ok (.agg #[.string ⟨#[]⟩, .string ⟨#[]⟩]) w := by kernel_rfl
theorem zerosFld (n : Nat) : ∀ u ∈ (Builtin.zeroCells (Value.agg #[.string ⟨#[]⟩, .string ⟨#[]⟩]).cells n).toList, u.oneCell' = true := by
  intro u hu
  simp only [Builtin.zeroCells, Array.mem_toList_iff, Array.mem_map] at hu
  obtain ⟨i, _, rfl⟩ := hu
  have h2 : (Value.agg #[.string ⟨#[]⟩, .string ⟨#[]⟩]).cells.size = 2 := rfl
  rw [h2]
  rcases (by omega : i % 2 = 0 ∨ i % 2 = 1) with h | h <;> rw [h] <;> rfl
/-- a row's first ones are a row -/
theorem RowF.head {w : World} {base g n cap : Nat} {fs : List Fd} (h : RowF w base (.slice (some ⟨g, 0, none⟩) n cap) fs) (m : Nat) (hm : m ≤ fs.length) : RowF w base (.slice (some ⟨g, 0, none⟩) m cap) (fs.take m) := by
  obtain ⟨h1, h2⟩ := h
  rcases h2 with ⟨h, _⟩ | ⟨g', cap', cur, h, hbg, hg, hnc, hcm, hcs, htake⟩
  · simp at h
  · simp only [Value.slice.injEq, Option.some.injEq, Addr.mk.injEq, and_true] at h
    obtain ⟨rfl, rfl, rfl⟩ := h
    have el : (fs.take m).length = m := by simp; omega
    refine ⟨fcs_length _, .inr ⟨g, cap, cur, by rw [el], hbg, hg, by omega, hcm, hcs, ?_⟩⟩
    rw [el, fcs_take, ← htake, List.take_take]
    congr 1
    omega
theorem RowF.cap {w : World} {base g n cap : Nat} {fs : List Fd} (h : RowF w base (.slice (some ⟨g, 0, none⟩) n cap) fs) : n = fs.length ∧ n ≤ cap ∧ cap ≤ maxLen := by
  obtain ⟨h1, h2⟩ := h
  rcases h2 with ⟨h, _⟩ | ⟨g', cap', cur, h, hbg, hg, hnc, hcm, hcs, htake⟩
  · simp at h
  · simp only [Value.slice.injEq, Option.some.injEq, Addr.mk.injEq, and_true] at h
    obtain ⟨rfl, rfl, rfl⟩ := h
    exact ⟨rfl, hnc, hcm⟩
theorem sliceFld : Tryd.prog.underlying 33 = some (.slice 46) := by kernel_rfl
set_option maxHeartbeats 4000000 in
/-- slices.Delete of the first ones -/
theorem delete_any (base : Nat) (v : Value) (fs : List Fd) (n : Nat) (hn : n ≤ fs.length) (w : World) (h : RowF w base v fs) :
    Calls Tryd.prog 89 #[v, .int .i64 0, .int .i64 n] w fun e w' => ∃ v', e = .returned v' ∧ RowF w' base v' (fs.drop n) ∧ From w v v' ∧ w.grownBy w' v.ownBlock := by
  by_cases h0 : n = 0
  · subst h0
    obtain ⟨a, cap, rfl⟩ := h.shape
    have hlen := h.len
    have hc : fs.length ≤ cap ∧ cap ≤ maxLen := by
      obtain ⟨a', cap', e, h1, h2⟩ := h.toSl.shape
      simp only [Value.slice.injEq] at e
      obtain ⟨_, _, rfl⟩ := e
      exact ⟨h1, h2⟩
    obtain ⟨hc1, hc2⟩ := hc
    unfold maxLen at hc2
    have HR := Lib.hid h
    clear h hlen
    go_enter Tryd.func89, Tryd.ntmps89
    go_wp2
    go_ret
    exact ⟨_, rfl, HR.out, From.refl _ _, World.grownBy.refl _ _⟩
  · obtain ⟨g, cap, rfl⟩ : ∃ g cap, v = .slice (some ⟨g, 0, none⟩) fs.length cap := by
      obtain ⟨_, ⟨_, e⟩ | ⟨g, cap, _, e, _⟩⟩ := id h
      · omega
      · exact ⟨g, cap, e⟩
    obtain ⟨i0, hi, hz0, hz1, hz2⟩ := info_parts sizeFld
    obtain ⟨_, hc1, hc2⟩ := h.cap
    obtain ⟨N, hN⟩ : ∃ N, fs.length = N := ⟨_, rfl⟩
    have h00 := h.head 0 (Nat.zero_le _)
    have hsl := h.toSl
    obtain ⟨news, hnews⟩ : ∃ news, news = fcs (fs.drop n) := ⟨_, rfl⟩
    have s1 : Hid (news.length = (N - n) * 2) := by show _ = _; rw [hnews, fcs_length, List.length_drop, hN]
    have s2 : Hid (∀ u ∈ news, u.oneCell' = true) := by show ∀ _, _; rw [hnews]; exact fcs_oneCell _
    obtain ⟨A, hA, hsrc⟩ : ∃ A : Addr, (if cap = n then some (⟨g, 0, none⟩ : Addr) else some ⟨g, n * 2, none⟩) = some A ∧ Hid (∀ t u, news[t]? = some u → w.drew.cell? (A.add t) = some u) := by
      by_cases hcn : cap = n
      · refine ⟨⟨g, 0, none⟩, by simp [hcn], fun t u hu => ?_⟩
        have hl0 : news.length = 0 := by rw [s1.out]; omega
        rw [List.length_eq_zero_iff.1 hl0] at hu
        simp at hu
      · refine ⟨⟨g, n * 2, none⟩, by simp [hcn], fun t u hu => ?_⟩
        have ht : t < (N - n) * 2 := by
          have := (List.getElem?_eq_some_iff.1 hu).1
          rwa [s1.out] at this
        rw [hnews, fcs_drop, List.getElem?_drop] at hu
        rw [Go.WideShapes.add_plain]
        have := World.ownsRow.cellAt h (n * 2 + t) (by omega)
        show w.cell? _ = _
        rw [this, hu]
    have hroom : Hid (0 + (N - n) ≤ cap) := by show _ ≤ _; omega
    have H00 := Lib.hid h00
    have HN := Lib.hid hN
    have HNW := Lib.hid hnews
    have hnN : n ≤ N := by omega
    have hcN : N ≤ cap := by omega
    unfold maxLen at hc2
    have mixed : Tryd.prog.follows .mixedOrders = true := by kernel_rfl
    have hne : ¬ cap = N - n := by omega
    have hle : N - n ≤ N := by omega
    clear hsl h00 hnews hn hc1 h
    rw [hN]
    clear hN
    go_enter Tryd.func89, Tryd.ntmps89
    go_wp2_with fail
    go_region_law_o (refine step_app_fits rfl (.tmp 22) (.tmp 25) 33 rfl base 46 i0 2 sliceFld hi hz1 g 0 cap (fcs (fs.take 0)) (by simp [Act.eval, Act.put]) H00.out A (N - n) (cap - n) news (by simp [Act.eval, Act.put]) s1.out hsrc.out s2.out hroom.out ?_; intro w1 hw1 hg1; rw [Nat.zero_add] at hw1; obtain ⟨w2, hcl, hw2, hg2⟩ := run_clear_rest (P := Tryd.prog) w1 33 46 _ 2 sliceFld zeroFld rfl zerosFld base g (N - n) cap (N - (N - n)) _ hw1 (by omega) (by omega); have Hw2 := Lib.hid hw2; have Hg := Lib.hid (And.intro hg1 hg2); clear hw2 hg1 hg2 hw1)
    go_wp2
    go_ret
    obtain ⟨hg1, hg2⟩ := Hg.out
    refine ⟨_, rfl, ?_, From.kept, ⟨hg2.os.trans hg1.os, hg2.tape.trans hg1.tape, hg2.output.trans hg1.output, Nat.le_trans hg1.size hg2.size, fun k hk hne => (hg2.block k (Nat.lt_of_lt_of_le hk hg1.size) hne).trans (hg1.block k hk hne)⟩⟩
    have e := Hw2.out
    rw [List.take_zero, fcs_nil, List.nil_append, HNW.out] at e
    unfold RowF
    rw [List.length_drop, HN.out]
    exact e
end Go.Proofs.YtenapfpkegoonaaDoor

/-
  Layer 7: within, New, Size, oldestFirst, strings.Clone; the reference's Begin, Size.
-/
namespace Go.Proofs.YtenapfpkegoonaaDoor
open Go.RowKit

theorem grown_below {A B : World} (h : A.grownBy B none) : Below A.heap.size A B := ⟨h.os, h.tape, h.output, h.size, fun k hk => h.block k hk (fun e => by cases e)⟩
theorem within_any (a b : Int) (w : World) : Calls Tryd.prog 36 #[.int .i64 a, .int .i64 b] w fun e w' => e = .returned (.bool (decide (0 ≤ a ∧ a ≤ b))) ∧ w' = w := by
  by_cases h : 0 ≤ a
  · have HD := Lib.hid (show decide (0 ≤ a ∧ a ≤ b) = decide (a ≤ b) from decide_eq_decide.2 ⟨fun x => x.2, fun x => ⟨h, x⟩⟩)
    have d := decide_eq_true h
    clear h
    go_enter Tryd.func36, Tryd.ntmps36
    go_wp2
    go_ret
    exact ⟨by rw [HD.out]; rfl, rfl⟩
  · have HD := Lib.hid (show decide (0 ≤ a ∧ a ≤ b) = false from decide_eq_false (fun x => h x.1))
    have d := decide_eq_false h
    clear h
    go_enter Tryd.func36, Tryd.ntmps36
    go_wp2
    go_ret
    exact ⟨by rw [HD.out]; rfl, rfl⟩
theorem new_any (b : Int) (w : World) (h0 : 0 ≤ b) (h1 : b ≤ 4096) : Calls Tryd.prog 19 #[.int .i64 b] w fun e w' => e = .returned (.tuple #[.pointer (some ⟨w.heap.size, 0, none⟩), .int .i64 0]) ∧ TabO w' w.heap.size w.heap.size b b (.slice none 0 0) [] ∧ Below w.heap.size w w' := by
  have d : decide (0 ≤ b ∧ b ≤ 4096) = true := decide_eq_true ⟨h0, h1⟩
  clear h0 h1
  go_enter Tryd.func19, Tryd.ntmps19
  go_wp2_with fail
  refine (within_any _ _ _).mono ?_
  rintro e w' ⟨rfl, rfl⟩
  rw [d]
  go_wp2_with fail
  go_ret2
  exact ⟨rfl, ⟨Nat.le_refl _, heap_alloc_new _ _, RowF.nil _ _⟩, (Below.refl _ _).alloc (Nat.le_refl _) _⟩
theorem new_no (b : Int) (w : World) (h : ¬ (0 ≤ b ∧ b ≤ 4096)) : Calls Tryd.prog 19 #[.int .i64 b] w fun e w' => e = .returned (.tuple #[.pointer none, .int .i64 1]) ∧ w' = w := by
  have d : decide (0 ≤ b ∧ b ≤ 4096) = false := decide_eq_false h
  clear h
  go_enter Tryd.func19, Tryd.ntmps19
  go_wp2_with fail
  refine (within_any _ _ _).mono ?_
  rintro e w' ⟨rfl, rfl⟩
  rw [d]
  go_wp2_with fail
  go_ret2
  exact ⟨rfl, rfl⟩
theorem begin_any (b : Int) (w : World) : Calls Tryd.prog 8 #[.int .i64 b] w fun e w' => e = .returned (.pointer (some ⟨w.heap.size, 0, none⟩)) ∧ TabR w' w.heap.size w.heap.size b b (.slice none 0 0) [] ∧ Below w.heap.size w w' := by
  go_enter Tryd.func8, Tryd.ntmps8
  go_wp2_with fail
  go_ret
  exact ⟨rfl, ⟨Nat.le_refl _, heap_alloc_new _ _, RowF.nil _ _⟩, (Below.refl _ _).alloc (Nat.le_refl _) _⟩
/-- a field of a size that may be -/
def small (f : Fd) : Prop := f.1.size ≤ 1000000000 ∧ f.2.size ≤ 1000000000
theorem small.sz {f : Fd} (h : small f) : szF f ≤ 2000000032 := by unfold szF; unfold small at h; omega
theorem size_any (f : Fd) (hf : small f) (w : World) : Calls Tryd.prog 70 #[.agg #[.string f.1, .string f.2]] w fun e w' => e = .returned (.int .i64 (szF f : Nat)) ∧ Below w.heap.size w w' := by
  obtain ⟨n, x⟩ := f
  obtain ⟨h1, h2⟩ := hf
  dsimp only at h1 h2 ⊢
  go_enter Tryd.func70, Tryd.ntmps70
  go_wp2_with fail
  go_ret
  exact ⟨by unfold szF; push_cast; go_num, (Below.refl _ _).alloc (Nat.le_refl _) _⟩
theorem refSize_any (f : Fd) (hf : small f) (w : World) : Calls Tryd.prog 31 #[.agg #[.string f.1, .string f.2]] w fun e w' => e = .returned (.int .i64 (szF f : Nat)) ∧ Below w.heap.size w w' := by
  obtain ⟨n, x⟩ := f
  obtain ⟨h1, h2⟩ := hf
  dsimp only at h1 h2 ⊢
  go_enter Tryd.func31, Tryd.ntmps31
  go_wp2_with fail
  go_ret
  exact ⟨by unfold szF; push_cast; go_num, (Below.refl _ _).alloc (Nat.le_refl _) _⟩
theorem oldestFirst_any (T : Nat) (w : World) :
    Calls Tryd.prog 38 #[.pointer (some ⟨T, 0, none⟩)] w fun e w' => e = .returned (.func (.func 64) #[] #[.pointer (some ⟨w.heap.size, 0, none⟩)]) ∧ w' = w.alloc (.cells #[.pointer (some ⟨T, 0, none⟩)] 53) := by
  go_enter Tryd.func38, Tryd.ntmps38
  go_wp2
  go_ret
  exact ⟨rfl, rfl⟩
/-- make, copy, unsafe.String, one behind the other: the same text, in a row of its own -/
theorem str_again {P : Program} (t e pt it st : TypeId) (ht : P.underlying t = some (.slice e)) (hi : (P.info? e).map (fun i => (i.zero, i.size, i.bytes)) = some (some (.int .u8 0), 1, 1)) (hp : P.underlying pt = some (.pointer e)) (hc : P.cellsOf e = 1)
    (s : ByteArray) (h0 : 0 < s.size) (hm : s.size ≤ 1000000000) (w : World) :
    ∃ (mk : World → World) (W2 W3 : World), (∀ (kl kc : IntKind) (W : World), (Instr.makeSlice t (.int kl (s.size : Int)) (.int kc (s.size : Int))).run P W = .ok (.slice (some ⟨W.heap.size, 0, none⟩) s.size s.size) (mk W)) ∧
      (∀ ty, (Builtin.copy_ #[t, st] ty #[.slice (some ⟨w.heap.size, 0, none⟩) s.size s.size, .string s]).run P (mk w) = .ok (goInt s.size) W2) ∧
      (∀ ty, (Builtin.unsafeString_ #[pt, it] ty #[.pointer (some ⟨w.heap.size, 0, none⟩), .int .i64 (s.size : Int)]).run P W2 = .ok (.string s) W3) ∧ Below w.heap.size w W3 := by
  obtain ⟨mk, hmk, hown, hgr⟩ := make_named (P := P) t e (.int .u8 0) 1 1 ht hi (s.size : Int) s.size rfl (by omega) (by unfold maxLen; omega)
  have hone : (P.info? e).map (·.size) = some 1 := by
    cases hq : P.info? e with
    | none => rw [hq] at hi; cases hi
    | some x => rw [hq] at hi; simp at hi; simp [hi]
  have hrow := own_block (hown w)
  have hlen : (madeCells (Value.int .u8 0).cells (s.size * 1)).toList.toArray.size = s.size := by
    have := (hown w).1
    simpa using this
  generalize (madeCells (Value.int .u8 0).cells (s.size * 1)).toList.toArray = cur at hrow hlen
  have hbl : (Lib.byteCells s.data.toList).length = s.size := by rw [Lib.byteCells_length, ← Lib.size_eq]
  have hall : (cur.toList.take 0 ++ Lib.byteCells s.data.toList ++ cur.toList.drop (0 + s.size)).toArray = (Lib.byteCells s.data.toList).toArray := by
    rw [List.take_zero, List.nil_append, Nat.zero_add, List.drop_of_length_le (by rw [Array.length_toList, hlen]; exact Nat.le_refl _), List.append_nil]
  have hcopy := fun ty => Lib.run_copy_row_string (P := P) (mk w) t st ty e w.heap.size 0 s.size s.size s cur e ht hone hrow (Nat.le_refl _) (by omega)
  rw [hall] at hcopy
  have hnew := setRow_heap (mk w) w.heap.size cur (Lib.byteCells s.data.toList).toArray e (0, 0) hrow
  have hne : s.data.toList ≠ [] := fun h => by rw [Lib.size_eq, h] at h0; exact absurd h0 (by decide)
  have htext := fun ty => Lib.run_unsafeString_row (P := P) ((mk w).setRow w.heap.size (Lib.byteCells s.data.toList).toArray) pt it ty e hp hc w.heap.size s.size (by unfold World.shape?; rw [hnew]; simp [hbl]) s.data.toList hne (by rw [← Lib.size_eq]; exact Nat.le_refl _) (by rw [← Lib.size_eq]; omega)
    (fun j x hx => by
      rw [Go.WideShapes.add_plain, Nat.zero_add]
      exact blk_cell hnew (by simp [Lib.byteCells, hx]))
  rw [← Lib.size_eq] at htext
  exact ⟨mk, _, _, hmk, hcopy, htext, Lib.below_freeze (p := ⟨w.heap.size, 0, none⟩) (below_setRow (grown_below (hgr w)) (Nat.le_refl _) _) (Nat.le_refl _) _⟩
theorem sizeU8 : (Tryd.prog.info? 5).map (fun i => (i.zero, i.size, i.bytes)) = some (some (.int .u8 0), 1, 1) := by kernel_rfl
set_option maxHeartbeats 1000000 in
theorem slClone_any (s : ByteArray) (w : World) (hlim : s.size ≤ 1000000000) :
    Calls Tryd.prog 90 #[.string s] w fun e w' => e = .returned (.string s) ∧ Below w.heap.size w w' := by
  rcases Nat.eq_zero_or_pos s.size with h0 | h0
  · obtain rfl : s = ⟨#[]⟩ := ByteArray.ext (Array.eq_empty_of_size_eq_zero h0)
    go_enter Tryd.func90, Tryd.ntmps90
    go_wp2
    go_ret
    exact ⟨rfl, Below.refl _ _⟩
  · obtain ⟨mk, W2, W3, hmk, hcp, htx, hb⟩ := str_again (P := Tryd.prog) 30 5 141 3 9 Tryd.underlying30 sizeU8 Tryd.underlying141 (by kernel_rfl) s h0 hlim w
    have d0 : ((s.size : Int) == 0) = false := by rw [beq_eq_false_iff_ne]; omega
    have HB := Lib.hid hb
    clear hb
    go_enter Tryd.func90, Tryd.ntmps90
    go_wp2
    go_ret
    exact ⟨rfl, HB.out⟩
theorem strClone_any (s : ByteArray) (w : World) (hlim : s.size ≤ 1000000000) :
    Calls Tryd.prog 72 #[.string s] w fun e w' => e = .returned (.string s) ∧ Below w.heap.size w w' := by
  go_enter Tryd.func72, Tryd.ntmps72
  go_wp2_with fail
  refine (slClone_any _ _ hlim).mono ?_
  rintro e w' ⟨rfl, hb⟩
  have HB := Lib.hid hb
  clear hb
  go_wp2_with fail
  go_ret
  exact ⟨rfl, HB.out⟩
end Go.Proofs.YtenapfpkegoonaaDoor

/-
  A region that draws its order, by a table, where one of its operations turns what lay (a call on an object): as XRegion, with that one operation named. Such regions in a round of a range over a function. No program is named here.
-/
namespace Go.Proofs.YtenapfpkegoonaaDoor.Moved
open Go.RowKit

/-- one operation of the head, by itself: 'pre' holds of the world that it comes to, 'post' of that and the one that it leaves -/
def opOk (pre : World → Prop) (post : World → World → Prop) (P : Program) (D : List Tmp) (a0 : Act) (Ψ : Nat → Value → World → Prop) (i : Nat) (js : List (Nat × Tmp)) (o : Oper) : Prop :=
  ∀ (ρ : Operand → Value) (w : World), (∀ v, ρ (.const v) = v) → (∀ f, ρ (.func f) = .func (.func f) #[] #[]) → (∀ t, t ∉ D → ρ (.tmp t) = a0.eval (.tmp t)) → pre w → (∀ p ∈ js, Ψ p.1 (ρ (.tmp p.2)) w) →
    gives P o ρ w fun v w' => Ψ i v w' ∧ post w w'
/-- one that may be late: it yields in whatever world -/
def lateOk (pre : World → Prop) (P : Program) (D : List Tmp) (a0 : Act) (Ψ : Nat → Value → World → Prop) (i : Nat) (js : List (Nat × Tmp)) (o : Oper) : Prop :=
  ∀ (ρ : Operand → Value) (w : World), (∀ v, ρ (.const v) = v) → (∀ t, t ∉ D → ρ (.tmp t) = a0.eval (.tmp t)) → pre w → (∀ p ∈ js, Ψ p.1 (ρ (.tmp p.2)) w) →
    ∃ v, (∀ w', (execOp ρ o).run P w' = .ok (.value v) w') ∧ Ψ i v w
def Grow (w w' : World) : Prop := Below w.heap.size w w'
/-- all of them: the mover is number m; ahead of it the world has grown from W0 alone -/
def opsOk (m : Nat) (G : World → Prop) (M : World → World → Prop) (P : Program) (D : List Tmp) (a0 : Act) (W0 : World) (Ψ : Nat → Value → World → Prop) : Nat → List (List (Nat × Tmp)) → List Oper → Prop
  | i, js :: jss, o :: l => (if i = m then opOk (fun w => Below W0.heap.size W0 w) M P D a0 Ψ i js o else opOk G Grow P D a0 Ψ i js o) ∧ opsOk m G M P D a0 W0 Ψ (i + 1) jss l
  | i, [], o :: l => (if i = m then opOk (fun w => Below W0.heap.size W0 w) M P D a0 Ψ i [] o else opOk G Grow P D a0 Ψ i [] o) ∧ opsOk m G M P D a0 W0 Ψ (i + 1) [] l
  | _, _, [] => True
theorem opsOk_get {m : Nat} {G : World → Prop} {M : World → World → Prop} {P : Program} {D : List Tmp} {a0 : Act} {W0 : World} {Ψ : Nat → Value → World → Prop} : ∀ (l : List Oper) (k : Nat) (jss : List (List (Nat × Tmp))), opsOk m G M P D a0 W0 Ψ k jss l → ∀ i o, l[i]? = some o →
    if k + i = m then opOk (fun w => Below W0.heap.size W0 w) M P D a0 Ψ (k + i) (jss.getD i []) o else opOk G Grow P D a0 Ψ (k + i) (jss.getD i []) o
  | [], _, _, _, i, o, h => by simp at h
  | o :: l, k, [], h, 0, _, e => by simp at e; subst e; simpa using h.1
  | o :: l, k, js :: jss, h, 0, _, e => by simp at e; subst e; simpa using h.1
  | o :: l, k, [], h, i + 1, o', e => by
    have := opsOk_get l (k + 1) [] h.2 i o' (by simpa using e)
    simpa [Nat.add_assoc, Nat.add_comm 1 i] using this
  | o :: l, k, js :: jss, h, i + 1, o', e => by
    have := opsOk_get l (k + 1) jss h.2 i o' (by simpa using e)
    simpa [Nat.add_assoc, Nat.add_comm 1 i] using this
/-- how the worlds go on -/
structure Way (m : Nat) (W0 : World) (G : World → Prop) (M : World → World → Prop) (Ψ : Nat → Value → World → Prop) : Prop where
  start : ∀ w, Below W0.heap.size W0 w → G w
  grow : ∀ w w', G w → Below w.heap.size w w' → G w'
  move : ∀ w w', Below W0.heap.size W0 w → M w w' → G w'
  keep : ∀ i v w w', Ψ i v w → Below w.heap.size w w' → Ψ i v w'
  past : ∀ i v w w', i ≠ m → Ψ i v w → Below W0.heap.size W0 w → M w w' → Ψ i v w'

section
variable {P : Program} {l : List Oper} {n mv : Nat} {D : List Tmp} {js : List (List (Nat × Tmp))} {E L : List Nat} {a0 : Act} {W0 : World} {Ψ : Nat → Value → World → Prop} {Q : Exit → Act → World → Prop} {G : World → Prop} {M : World → World → Prop}
/-- where the head stands, in whatever order it has come so far -/
structure Mid (mv : Nat) (G : World → Prop) (l : List Oper) (n : Nat) (D : List Tmp) (E : List Nat) (a0 : Act) (W0 : World) (Ψ : Nat → Value → World → Prop) (listed : Array Bool) (a : Act) (w : World) : Prop where
  head : HeadInv .any l.toArray n listed
  below : G w
  first : listed.getD mv false = false → Below W0.heap.size W0 w
  size : a.tmps.size = a0.tmps.size
  defers : a.defers = a0.defers
  other : ∀ t, t ∉ D → a.tmps[t]? = a0.tmps[t]?
  early : ∀ i ∈ E, listed.getD i false = true
  holds : ∀ i, i < n → listed.getD i false = true → Ψ i (a.eval (.tmp (D.getD i 0))) w
theorem Mid.facts {sz : Nat} {listed : Array Bool} {a : Act} {w : World} {i : Nat} (I : Mid mv G l n D E a0 W0 Ψ listed a w) (S : Shape l n sz D js E L) (hi : i ∈ Region.ready .any l.toArray listed) (hin : i < n) : ∀ p ∈ js.getD i [], Ψ p.1 (a.eval (.tmp p.2)) w := by
  obtain ⟨o, ho, _, _, _, hjs⟩ := S.op i hin
  obtain ⟨_, o', ho', hready⟩ := mem_ready.1 hi
  have ho2 : l.toArray[i]? = some o := by simpa using ho
  obtain rfl : o' = o := Option.some.inj (ho'.symm.trans ho2)
  intro p hp
  obtain ⟨h1, h2, h3⟩ := hjs p hp
  rw [h3]
  refine I.holds p.1 h1 ?_
  rcases h2 with h2 | h2
  · exact I.early _ h2
  obtain ⟨oj, hoj, e, he, hb, hon⟩ := Region.waitsFor_spec h2
  have : oj = o' := Option.some.inj (hoj.symm.trans ho2)
  subst this
  rw [← hon]
  exact hready e he hb
/-- one more has come up -/
theorem Mid.put {sz : Nat} {listed : Array Bool} {a : Act} {w : World} {i : Nat} (I : Mid mv G l n D E a0 W0 Ψ listed a w) (S : Shape l n sz D js E L) (hsz : a0.tmps.size = sz) (hW : Way mv W0 G M Ψ)
    (hi : i ∈ Region.ready .any l.toArray listed) (hin : i < n) (v : Value) (w' : World) (hv : Ψ i v w') (hb : if i = mv then M w w' else Below w.heap.size w w') :
    (List.range n).countP (fun j => !listed.getD j true) = (List.range n).countP (fun j => !(listed.setIfInBounds i true).getD j true) + 1 ∧ Mid mv G l n D E a0 W0 Ψ (listed.setIfInBounds i true) (a.put (some (D.getD i 0)) v) w' := by
  have hls : listed.size = l.length := by simpa using I.head.size
  have hle := S.le
  have hiun := (mem_ready.1 hi).1
  refine ⟨?_, I.head.set hi hin, ?_, ?_, ?_, ?_, ?_, fun j hj => getD_set_true (I.early j hj), ?_⟩
  · exact countP_flip (fun j => !listed.getD j true) (fun j => !(listed.setIfInBounds i true).getD j true) i (by simp [hiun]) (by simp [show i < listed.size by rw [hls]; omega]) (fun j hj => by rw [getD_set_ne true (Ne.symm hj)]) (List.range n) List.nodup_range (List.mem_range.2 hin)
  · by_cases him : i = mv
    · rw [if_pos him] at hb
      exact hW.move _ _ (I.first (by rw [← him]; exact getD_both hiun)) hb
    · rw [if_neg him] at hb
      exact hW.grow _ _ I.below hb
  · intro hm
    by_cases him : i = mv
    · subst him
      have : (listed.setIfInBounds i true).getD i false = true := by simp [show i < listed.size by rw [hls]; omega]
      rw [this] at hm
      cases hm
    · rw [if_neg him] at hb
      rw [getD_set_ne false him] at hm
      have := I.first hm
      exact this.trans (hb.mono this.size)
  · simp [Act.put, I.size]
  · simp [Act.put, I.defers]
  · intro t ht
    simp only [Act.put]
    rw [Array.getElem?_setIfInBounds_ne]
    · exact I.other t ht
    · intro e
      refine ht ?_
      rw [← e, List.getD_eq_getElem?_getD, List.getElem?_eq_getElem (by rw [S.len]; exact hin), Option.getD_some]
      exact List.getElem_mem _
  · intro j hj hlj
    by_cases hji : j = i
    · subst hji
      have : (a.put (some (D.getD j 0)) v).eval (.tmp (D.getD j 0)) = v := by
        simp only [Act.eval, Act.put]
        rw [Array.getD_eq_getD_getElem?, Array.getElem?_setIfInBounds_self_of_lt (by rw [I.size, hsz]; exact S.lt j hin), Option.getD_some]
      rw [this]
      exact hv
    · rw [getD_set_ne false (Ne.symm hji)] at hlj
      have : (a.put (some (D.getD i 0)) v).eval (.tmp (D.getD j 0)) = a.eval (.tmp (D.getD j 0)) := by
        refine Act.eval_put fun d hd' e => ?_
        simp only [Option.some.injEq] at hd'
        subst hd'
        simp only [Operand.tmp.injEq] at e
        exact hji (S.inj j i hj hin e)
      rw [this]
      by_cases him : i = mv
      · rw [if_pos him] at hb
        exact hW.past _ _ _ _ (by omega) (I.holds j hj hlj) (I.first (by rw [← him]; exact getD_both hiun)) hb
      · rw [if_neg him] at hb
        exact hW.keep _ _ _ _ (I.holds j hj hlj) hb

theorem mid_any {sz : Nat} (S : Shape l n sz D js E L) (hsz : a0.tmps.size = sz) (hW : Way mv W0 G M Ψ) (hop : opsOk mv G M P D a0 W0 Ψ 0 js (l.take n)) (hQ : ∀ i ∈ L, ∀ c (a : Act) d v w, Q (.panic c) (a.put d v) w → Q (.panic c) a w) (hlate : ∀ i ∈ L, i < n → ∀ o, l[i]? = some o → i ≠ mv ∧ lateOk G P D a0 Ψ i (js.getD i []) o)
    (hend : ∀ (x : Nat → Value) (w : World), G w → (∀ i, i < n → Ψ i (x i) w) → wpList P l.toArray Q (l.drop n) (putAll D x n a0) w) :
    ∀ (m : Nat) (listed : Array Bool) (a : Act) (w : World), (List.range n).countP (fun i => !listed.getD i true) = m → Mid mv G l n D E a0 W0 Ψ listed a w → wpAny P .any l.toArray Q (m + (l.length - n)) listed a w := by
  intro m
  induction m with
  | zero =>
    intro listed a w hm I
    have hall : ∀ i, i < n → listed.getD i true = true := fun i hi => by
      have := List.countP_eq_zero.1 hm i (List.mem_range.2 hi)
      simpa using this
    have hls : listed.size = l.length := by simpa using I.head.size
    have hle := S.le
    have hlisted : listed = ((List.range l.length).map (fun i => decide (i < n))).toArray := by
      apply Array.ext
      · simp [hls]
      · intro i h1 h2
        simp only [List.getElem_toArray, List.getElem_map, List.getElem_range]
        by_cases hi : i < n
        · have := hall i hi
          simp [h1] at this
          rw [this]; simp [hi]
        · have := I.head.tail i (by omega) (by simpa [hls] using h1)
          simp [h1] at this
          rw [this]; simp [hi]
    have ha : a = putAll D (fun i => a.eval (.tmp (D.getD i 0))) n a0 := by
      have ht : a.tmps = (putAll D (fun i => a.eval (.tmp (D.getD i 0))) n a0).tmps := by
        apply Array.ext_getElem?
        intro t
        by_cases ht : t ∈ D
        · obtain ⟨i, hi, rfl⟩ := List.getElem_of_mem ht
          have hi' : i < n := by rw [← S.len]; exact hi
          have e1 : D[i] = D.getD i 0 := by rw [List.getD_eq_getElem?_getD, List.getElem?_eq_getElem hi, Option.getD_some]
          have hlt := S.lt i hi'
          rw [e1, putAll_at D _ a0 n i hi' S.inj (by rw [hsz]; exact hlt)]
          have hb : D.getD i 0 < a.tmps.size := by rw [I.size, hsz]; exact hlt
          rw [Array.getElem?_eq_getElem hb]
          simp only [Act.eval]
          rw [Array.getD_eq_getD_getElem?, Array.getElem?_eq_getElem hb, Option.getD_some]
        · rw [I.other t ht, putAll_other]
          intro i hi e
          refine ht ?_
          rw [← e, List.getD_eq_getElem?_getD, List.getElem?_eq_getElem (by rw [S.len]; exact hi), Option.getD_some]
          exact List.getElem_mem _
      have hd : a.defers = (putAll D (fun i => a.eval (.tmp (D.getD i 0))) n a0).defers := by rw [putAll_defers, I.defers]
      generalize putAll D (fun i => a.eval (.tmp (D.getD i 0))) n a0 = b at ht hd
      cases a; cases b
      simp only at ht hd
      subst ht; subst hd
      rfl
    have hw := hend (fun i => a.eval (.tmp (D.getD i 0))) w I.below (fun i hi => I.holds i hi (getD_of_true (hall i hi) (by rw [hls]; omega)))
    rw [← ha] at hw
    have hq := wpAny_of_seq (md := .any) (Q' := Q) (l.drop n) n listed a w (fun j => by simp [List.getElem?_drop]) (by rw [List.length_drop, hlisted]; exact S.seq) hw
    rw [List.length_drop] at hq
    rw [Nat.zero_add]
    exact hq
  | succ m ih =>
    intro listed a w hm I
    have hls : listed.size = l.length := by simpa using I.head.size
    have hle := S.le
    rw [show m + 1 + (l.length - n) = (m + (l.length - n)) + 1 by omega]
    obtain ⟨i0, hi0, hun0⟩ : ∃ i, i < n ∧ listed.getD i true = false := by
      obtain ⟨i, hi, hp⟩ := List.countP_pos_iff.1 (show 0 < (List.range n).countP (fun i => !listed.getD i true) by omega)
      exact ⟨i, List.mem_range.1 hi, by simpa using hp⟩
    -- the least one that has not come up is ready
    obtain ⟨k, ⟨hk, hku⟩, hmin⟩ : ∃ k, (k < n ∧ listed.getD k true = false) ∧ ∀ j, j < k → ¬ (j < n ∧ listed.getD j true = false) := least_one (fun k => k < n ∧ listed.getD k true = false) i0 ⟨hi0, hun0⟩
    have hkr : k ∈ Region.ready .any l.toArray listed := by
      obtain ⟨o, ho, _, _, haft, _⟩ := S.op k hk
      refine mem_ready.2 ⟨hku, o, by simpa using ho, fun e he hb => ?_⟩
      have h1 := haft e he hb
      have h2 := hmin e.on h1
      have h3 : listed.getD e.on true = true := by
        by_cases h : listed.getD e.on true = true
        · exact h
        · exact absurd ⟨by omega, by simpa using h⟩ h2
      exact getD_of_true h3 (by rw [hls]; omega)
    clear i0 hi0 hun0
    by_cases hall : ∃ i, i < n ∧ listed.getD i true = false ∧ i ∉ L
    case neg =>
      -- only such as may be late are left of the head: the least one is taken first
      have hkL : k ∈ L := by
        by_cases h : k ∈ L
        · exact h
        · exact absurd ⟨k, hk, hku, h⟩ hall
      obtain ⟨o, ho, hg, hd, _, _⟩ := S.op k hk
      have ho2 : l.toArray[k]? = some o := by simpa using ho
      obtain ⟨hkm, hlk⟩ := hlate k hkL hk o ho
      obtain ⟨v, hrun, hv⟩ := hlk a.eval w (fun _ => rfl) (fun t ht => by simp only [Act.eval, Array.getD_eq_getD_getElem?, I.other t ht]) I.below (I.facts S hkr hk)
      obtain ⟨hc', I'⟩ := I.put S hsz hW hkr hk v w hv (by rw [if_neg hkm]; exact Below.refl _ _)
      refine wpAny_first ho2 (Region.noSelect_spec S.sel) (fun c a w => hQ k hkL c a _ v w) _ listed a w ?_ hkr (.inl ⟨wanted_none hg _, hrun⟩) ?_
      · intro j oj hj hne hun hno
        obtain ⟨_, o', ho', hready⟩ := mem_ready.1 hkr
        obtain rfl : o' = o := Option.some.inj (ho'.symm.trans ho2)
        rcases S.late k hkL o' ho j oj (by simpa using hj) hne with h | h | h
        · obtain ⟨oj', hoj', e, he, hb, hon⟩ := Region.waitsFor_spec h
          obtain rfl : oj' = oj := Option.some.inj (hoj'.symm.trans hj)
          exact absurd hon (hno e he hb)
        · obtain ⟨o2, ho2', e, he, hb, hon⟩ := Region.waitsFor_spec h
          obtain rfl : o2 = o' := Option.some.inj (ho2'.symm.trans ho2)
          have := hready e he hb
          rw [hon, getD_both hun] at this
          cases this
        · exact h
      · rw [hd]
        exact ih _ _ _ (by omega) I'
    obtain ⟨i0, hi0, hun0, hi0L⟩ := hall
    refine ⟨fun hnil => ?_, fun i hi => ?_⟩
    · rw [hnil] at hkr
      cases hkr
    · have hin : i < n := by
        rcases S.tail with ht | ⟨hs, hc⟩
        · obtain ⟨_, o, ho, _⟩ := mem_ready.1 hi
          have := (Array.getElem?_eq_some_iff.1 ho).1
          simp at this
          omega
        · by_cases hn : n < l.length
          · by_cases h : i < n
            · exact h
            · exact absurd hi (head_first hs hc I.head I.early _ i0 rfl hi0 hi0L hun0 i (by omega))
          · obtain ⟨_, o, ho, _⟩ := mem_ready.1 hi
            have := (Array.getElem?_eq_some_iff.1 ho).1
            simp at this
            omega
      obtain ⟨o, ho, hg, hd, _, _⟩ := S.op i hin
      have ho2 : l.toArray[i]? = some o := by simpa using ho
      have hspec := opsOk_get (l.take n) 0 js hop i o (by rw [List.getElem?_take_of_lt hin]; exact ho)
      rw [Nat.zero_add] at hspec
      have hρ : ∀ t, t ∉ D → a.eval (.tmp t) = a0.eval (.tmp t) := fun t ht => by simp only [Act.eval, Array.getD_eq_getD_getElem?, I.other t ht]
      have hgv : gives P o a.eval w fun v w' => Ψ i v w' ∧ (if i = mv then M w w' else Below w.heap.size w w') := by
        by_cases him : i = mv
        · rw [if_pos him] at hspec
          simp only [if_pos him]
          exact hspec a.eval w (fun _ => rfl) (fun _ => rfl) hρ (I.first (by rw [← him]; exact getD_both (mem_ready.1 hi).1)) (I.facts S hi hin)
        · rw [if_neg him] at hspec
          simp only [if_neg him]
          exact hspec a.eval w (fun _ => rfl) (fun _ => rfl) hρ I.below (I.facts S hi hin)
      unfold wpOp
      simp only [ho2, wanted_none hg, if_true]
      refine .inl (wp_of_gives hgv fun v w' ⟨hv, hb⟩ => ?_)
      obtain ⟨hc', I'⟩ := I.put S hsz hW hi hin v w' hv hb
      rw [hd]
      exact ih _ _ _ (by omega) I'

/-- all of it, as the walk's orders ask it -/
theorem any_moved (n : Nat) (D : List Tmp) (js : List (List (Nat × Tmp))) (L : List Nat) (Ψ : Nat → Value → World → Prop) (m : Nat) (G : World → Prop) (M : World → World → Prop) (hB : tableB l n a0.tmps.size D js [] L = true)
    (hW : Way m W0 G M Ψ) (hop : opsOk m G M P D a0 W0 Ψ 0 js (l.take n)) (hQ : ∀ i ∈ L, ∀ c (a : Act) d v w, Q (.panic c) (a.put d v) w → Q (.panic c) a w) (hlate : ∀ i ∈ L, i < n → ∀ o, l[i]? = some o → i ≠ m ∧ lateOk G P D a0 Ψ i (js.getD i []) o)
    (hend : ∀ (x : Nat → Value) (w : World), G w → (∀ i, i < n → Ψ i (x i) w) → wpList P l.toArray Q (l.drop n) (putAll D x n a0) w) :
    wpAny P .any l.toArray Q l.toArray.size (Array.replicate l.toArray.size false) a0 { W0 with drawn := W0.drawn + 1 } := by
  have S := tableB_spec hB
  have h := mid_any S rfl hW hop hQ hlate hend ((List.range n).countP (fun i => !(Array.replicate l.length false).getD i true)) (Array.replicate l.length false) a0 { W0 with drawn := W0.drawn + 1 } rfl
    ⟨⟨by simp, fun j oj _ hl => (by rw [getD_replicate_false] at hl; cases hl), fun t _ ht => getD_in (by simpa using ht) (getD_replicate_false _ _)⟩, hW.start _ (Below.refl _ W0).drew, fun _ => (Below.refl _ W0).drew, rfl, rfl, fun _ _ => rfl, fun _ h => (by cases h), fun i _ hl => (by rw [getD_replicate_false] at hl; cases hl)⟩
  have hc : (List.range n).countP (fun i => !(Array.replicate l.length false).getD i true) = n := by
    rw [List.countP_eq_length.2]
    · simp
    · intro i hi
      have hi' : i < l.length := Nat.lt_of_lt_of_le (List.mem_range.1 hi) S.le
      simp [hi']
  rw [hc, show n + (l.length - n) = l.toArray.size by have := S.le; simp; omega] at h
  simpa using h
/-- the same, of a table without a mover -/
theorem any_table (n : Nat) (D : List Tmp) (js : List (List (Nat × Tmp))) (L : List Nat) (Ψ : Nat → Value → World → Prop) (hB : tableB l n a0.tmps.size D js [] L = true)
    (hΨ : ∀ i v w w', Ψ i v w → Below w.heap.size w w' → Ψ i v w') (hop : YtenapfpkegoonaaDoor.opsOk P D a0 W0 Ψ 0 js (l.take n)) (hQ : ∀ i ∈ L, ∀ c (a : Act) d v w, Q (.panic c) (a.put d v) w → Q (.panic c) a w) (hlate : ∀ i ∈ L, i < n → ∀ o, l[i]? = some o → YtenapfpkegoonaaDoor.lateOk P D a0 W0 Ψ i (js.getD i []) o)
    (hend : ∀ (x : Nat → Value) (w : World), Below W0.heap.size W0 w → (∀ i, i < n → Ψ i (x i) w) → wpList P l.toArray Q (l.drop n) (putAll D x n a0) w) :
    wpAny P .any l.toArray Q l.toArray.size (Array.replicate l.toArray.size false) a0 { W0 with drawn := W0.drawn + 1 } := by
  have S := tableB_spec hB
  have h := YtenapfpkegoonaaDoor.mid_any S rfl hΨ hop hQ hlate hend ((List.range n).countP (fun i => !(Array.replicate l.length false).getD i true)) (Array.replicate l.length false) a0 { W0 with drawn := W0.drawn + 1 } rfl
    ⟨⟨by simp, fun j oj _ hl => (by rw [getD_replicate_false] at hl; cases hl), fun t _ ht => getD_in (by simpa using ht) (getD_replicate_false _ _)⟩, (Below.refl _ W0).drew, rfl, rfl, fun _ _ => rfl, fun _ h => (by cases h), fun i _ hl => (by rw [getD_replicate_false] at hl; cases hl)⟩
  have hc : (List.range n).countP (fun i => !(Array.replicate l.length false).getD i true) = n := by
    rw [List.countP_eq_length.2]
    · simp
    · intro i hi
      have hi' : i < l.length := Nat.lt_of_lt_of_le (List.mem_range.1 hi) S.le
      simp [hi']
  rw [hc, show n + (l.length - n) = l.toArray.size by have := S.le; simp; omega] at h
  simpa using h
/-- **a region that draws its order, with a mover, by a table** -/
theorem wp_region {id : Nat} (n : Nat) (D : List Tmp) (js : List (List (Nat × Tmp))) (L : List Nat) (Ψ : Nat → Value → World → Prop) (m : Nat) (G : World → Prop) (M : World → World → Prop) (hm : P.follows .mixedOrders = true) (hB : tableB l n a0.tmps.size D js [] L = true)
    (hW : Way m W0 G M Ψ) (hop : opsOk m G M P D a0 W0 Ψ 0 js (l.take n)) (hlate : ∀ i ∈ L, i < n → ∀ o, l[i]? = some o → i ≠ m ∧ lateOk G P D a0 Ψ i (js.getD i []) o)
    (hend : ∀ (x : Nat → Value) (w : World), G w → (∀ i, i < n → Ψ i (x i) w) → wpList P l.toArray (Calm Q) (l.drop n) (putAll D x n a0) w) :
    (Code.region id l.toArray true).wp P Q a0 W0 :=
  Code.wp_mono Calm.imp (wp_region_any (Q := Calm Q) hm (any_moved n D js L Ψ m G M hB hW hop (fun _ _ _ _ _ _ _ h => h.elim) hlate hend))

/-- an end that is normal, and nothing else -/
def Only (K : Act → World → Prop) : Exit → Act → World → Prop
  | .normal, a, w => K a w
  | _, _, _ => False
theorem Only.intro {K : Act → World → Prop} {a : Act} {w : World} (h : K a w) : Only K .normal a w := h
theorem Only.imp {Q : Exit → Act → World → Prop} : ∀ (e : Exit) (a : Act) (w : World), Only (Q .normal) e a w → Q e a w := fun e a w h => by
  cases e <;> first | exact h | exact (h : False).elim
def noDefer (ops : Array Oper) : Bool := ops.all fun o => match o.op with
  | .defer _ => false
  | _ => true
theorem noDefer_spec {ops : Array Oper} (h : noDefer ops = true) {i : Nat} {o : Oper} (ho : ops[i]? = some o) : ∀ c, o.op ≠ .defer c := by
  intro c e
  have hm : o ∈ ops := Array.mem_of_getElem? ho
  have := Array.all_eq_true_iff_forall_mem.1 h o hm
  rw [e] at this
  cases this
theorem rowsIn_wide {n : Nat} {row : String} {args : Array Value} {w : World} {R : Value → World → Prop} (h : Rows P row args w R) : RowsIn Fence.wide n P row args w R :=
  fun c cs _ => let ⟨v, w', r, s⟩ := h c cs; ⟨v, w', r, stepsIn_wide.2 s⟩
theorem wpOpIn_of {ops : Array Oper} {K : Act → World → Prop} (hd : noDefer ops = true) (lp m : Nat) {i : Nat} {K1 K2 : Act → World → Prop} (hK : ∀ a w, K1 a w → K2 a w) {a : Act} {w : World} (h : wpOp P ops (Only K) i K1 a w) : wpOpIn (Fence.wide.inRound lp) m P ops (Only K) i K2 a w := by
  unfold wpOp at h
  unfold wpOpIn
  cases ho : ops[i]? with
  | none =>
    simp only [ho] at h ⊢
    exact hK _ _ h
  | some o =>
    simp only [ho] at h ⊢
    by_cases hw : Region.wanted o (yielded ops a.tmps) = true
    · simp only [hw, if_true] at h ⊢
      rcases h with h | ⟨_, _, _, h⟩
      · refine ⟨fun _ _ => trivial, ?_⟩
        rw [Oper.semAt_eq _ _ _ (noDefer_spec hd ho)]
        unfold Oper.wp at h
        generalize (execOp a.eval o).run P w = r at *
        cases r with
        | ok x w' =>
          cases x <;> simp only [Oper.upon, Oper.uponIn] at h ⊢ <;>
            first
              | exact hK _ _ h
              | exact ⟨fun h => by simp [Fence.wide] at h, ((callsIn_wide.2 h).inRound lp).mono (fun e w'' he => by cases e <;> first | exact hK _ _ he | exact he)⟩
              | exact ⟨fun h => by simp [Fence.wide] at h, RowsIn.mono (rowsIn_wide (n := m - 1) h) (fun _ _ he => hK _ _ he)⟩
        | halt x w' => cases x <;> simp only [Oper.upon, Oper.uponIn] at h ⊢ <;> exact h
      · cases h
    · simp only [hw] at h ⊢
      exact ⟨fun _ _ => trivial, hK _ _ h⟩
theorem wpAnyIn_of {ops : Array Oper} {md : Region.Mode} {K : Act → World → Prop} (hd : noDefer ops = true) (lp m : Nat) : ∀ (fuel : Nat) (listed : Array Bool) (a : Act) (w : World), wpAny P md ops (Only K) fuel listed a w → wpAnyIn (Fence.wide.inRound lp) m P md ops (Only K) fuel listed a w
  | 0, _, _, _, h => h
  | fuel + 1, _, _, _, h => ⟨h.1, fun i hi => wpOpIn_of hd lp m (fun a w h => wpAnyIn_of hd lp m fuel _ a w h) (h.2 i hi)⟩
/-- **a region without a mover, in a round of a range over a function** -/
theorem wpIn_round {id lp k : Nat} (n : Nat) (D : List Tmp) (js : List (List (Nat × Tmp))) (L : List Nat) (Ψ : Nat → Value → World → Prop) (hm : P.follows .mixedOrders = true) (hd : noDefer l.toArray = true) (hB : tableB l n a0.tmps.size D js [] L = true)
    (hΨ : ∀ i v w w', Ψ i v w → Below w.heap.size w w' → Ψ i v w') (hop : YtenapfpkegoonaaDoor.opsOk P D a0 W0 Ψ 0 js (l.take n)) (hlate : ∀ i ∈ L, i < n → ∀ o, l[i]? = some o → YtenapfpkegoonaaDoor.lateOk P D a0 W0 Ψ i (js.getD i []) o)
    (hend : ∀ (x : Nat → Value) (w : World), Below W0.heap.size W0 w → (∀ i, i < n → Ψ i (x i) w) → wpList P l.toArray (Only (Q .normal)) (l.drop n) (putAll D x n a0) w) :
    (Code.region id l.toArray true).wpIn (Fence.wide.inRound lp) k P Q a0 W0 :=
  wpIn_mono (wpIn_region_any hm (wpAnyIn_of hd lp k _ _ _ _ (any_table n D js L Ψ hB hΨ hop (fun _ _ _ _ _ _ _ h => h.elim) hlate hend))) Only.imp
/-- **the same, with a mover** -/
theorem wpIn_round_moved {id lp k : Nat} (n : Nat) (D : List Tmp) (js : List (List (Nat × Tmp))) (L : List Nat) (Ψ : Nat → Value → World → Prop) (m : Nat) (G : World → Prop) (M : World → World → Prop) (hm : P.follows .mixedOrders = true) (hd : noDefer l.toArray = true) (hB : tableB l n a0.tmps.size D js [] L = true)
    (hW : Way m W0 G M Ψ) (hop : opsOk m G M P D a0 W0 Ψ 0 js (l.take n)) (hlate : ∀ i ∈ L, i < n → ∀ o, l[i]? = some o → i ≠ m ∧ lateOk G P D a0 Ψ i (js.getD i []) o)
    (hend : ∀ (x : Nat → Value) (w : World), G w → (∀ i, i < n → Ψ i (x i) w) → wpList P l.toArray (Only (Q .normal)) (l.drop n) (putAll D x n a0) w) :
    (Code.region id l.toArray true).wpIn (Fence.wide.inRound lp) k P Q a0 W0 :=
  wpIn_mono (wpIn_region_any hm (wpAnyIn_of hd lp k _ _ _ _ (any_moved n D js L Ψ m G M hB hW hop (fun _ _ _ _ _ _ _ h => h.elim) hlate hend))) Only.imp
end

end Go.Proofs.YtenapfpkegoonaaDoor.Moved

/-
  (*dynamic.Table).shrink.
-/
namespace Go.Proofs.YtenapfpkegoonaaDoor
set_option maxRecDepth 20000
open Go.RowKit Go.Shelf
attribute [local go_sem] Oper.semAt_some

/-- how far the going through has come -/
def ShrAt (w : World) (T base : Nat) (b m : Int) (v : Value) (fs : List Fd) (most : Int) (pre : List Fd) (W : World) : Prop :=
  Hid (pre.length ≤ fs.length ∧ shrinkF most fs = shrinkF most (fs.drop pre.length)) ∧
  W.heap[w.heap.size]? = some (.cells #[.pointer (some ⟨T, 0, none⟩)] 53 (0, 0)) ∧ W.heap[w.heap.size + 1]? = some (.cells #[.int .i64 most] 3 (0, 0)) ∧
  W.heap[w.heap.size + 1 + 1]? = some (.cells #[.int .i64 (pre.length : Nat)] 3 (0, 0)) ∧ TabAt W T b m v (sumF (fs.drop pre.length) : Nat) ∧ RowF W base v fs ∧ Mv T v w W ∧ w.heap.size + 4 ≤ W.heap.size
theorem ShrAt.grows (w : World) (T base : Nat) (b m : Int) (v : Value) (fs : List Fd) (most : Int) : Grows (ShrAt w T base b m v fs most) := by
  rintro s A W ⟨hp, h0, h1, h2, hT, hr, hm, hsz⟩ hg
  have at_ : ∀ {k : Nat} {o : Obj}, A.heap[k]? = some o → W.heap[k]? = some o := fun h => (hg.block _ (Array.getElem?_eq_some_iff.1 h).1).trans h
  exact ⟨hp, at_ h0, at_ h1, at_ h2, hT.below hg, hr.below hg, hm.trans (Mv.of hg) (fun g hg => .inl hg), Nat.le_trans hsz hg.size⟩
theorem ShrAt.turns (w : World) (T base B0 : Nat) (b m : Int) (v : Value) (fs : List Fd) (most : Int) (hB0 : w.heap.size + 4 ≤ B0) (hT0 : T < w.heap.size) (hv0 : ∀ g, v.ownBlock = some g → g < w.heap.size) : Turns B0 (ShrAt w T base b m v fs most) := by
  rintro s A l o o' ⟨hp, h0, h1, h2, hT, hr, hm, hsz⟩ hl hlo hoc
  have at_ : ∀ {k : Nat}, k < B0 → (A.putObj l o').heap[k]? = A.heap[k]? := fun h => World.putObj_heap_other (by omega)
  refine ⟨hp, (at_ (by omega)).trans h0, (at_ (by omega)).trans h1, (at_ (by omega)).trans h2, hT.of_block (at_ (by omega)), hr.of_block (fun g hg => at_ (by have := hv0 g hg; omega)), ⟨hm.os, hm.tape, hm.output, by rw [World.putObj_size]; exact hm.size, fun k hk hkT hkv => (at_ (by omega)).trans (hm.block k hk hkT hkv)⟩, by rw [World.putObj_size]; exact hsz⟩

theorem grown_of {A B : World} {row : Option Nat} (h : Below A.heap.size A B) : A.grownBy B row := ⟨h.os, h.tape, h.output, h.size, fun k hk _ => h.block k hk⟩
theorem keeps_below {b : Nat} {A B : World} (h : Below A.heap.size A B) : KeepsFrom b A B := ⟨h.size, fun k _ _ ho _ => (h.block k (Array.getElem?_eq_some_iff.1 ho).1).trans ho⟩
/-- one more has gone -/
theorem ShrAt.step {w : World} {T base : Nat} {b m most : Int} {v : Value} {fs pre : List Fd} {x : Fd} {W W5 : World} {z k : Nat} (h : ShrAt w T base b m v fs most pre W) (hx : fs[pre.length]? = some x) (hb : Below W.heap.size W W5) (hz : z = sumF (fs.drop pre.length)) (hk : k = pre.length)
    (hgo : most < (z : Int)) (hT : T < w.heap.size) :
    ShrAt w T base b m v fs most (pre ++ [x]) ((W5.setCell ⟨T, 3, none⟩ (.int .i64 ((z : Int) - (szF x : Nat)))).setCell ⟨w.heap.size + 1 + 1, 0, none⟩ (.int .i64 ((k : Int) + 1))) := by
  obtain ⟨hp, h0, h1, h2, hTW, hrW, hmW, hszW⟩ := ShrAt.grows _ _ _ _ _ _ _ _ _ _ _ h hb
  have el : (pre ++ [x]).length = pre.length + 1 := by simp
  have hlt := (List.getElem?_eq_some_iff.1 hx).1
  have e1 := sumF_drop hx
  have e2 : ((z : Int) - (szF x : Nat)) = ((sumF (fs.drop (pre.length + 1)) : Nat) : Int) := by omega
  have hap := hTW.apart hrW
  have nT : ∀ j, j ≠ T → j ≠ w.heap.size + 1 + 1 → ((W5.setCell ⟨T, 3, none⟩ (.int .i64 ((z : Int) - (szF x : Nat)))).setCell ⟨w.heap.size + 1 + 1, 0, none⟩ (.int .i64 ((k : Int) + 1))).heap[j]? = W5.heap[j]? := fun j h1 h2 => (Below.heap_setCell _ _ _ _ h2).trans (Below.heap_setCell _ _ _ _ h1)
  refine ⟨Lib.hid ⟨by rw [el]; omega, ?_⟩, (nT _ (by omega) (by omega)).trans h0, (nT _ (by omega) (by omega)).trans h1, ?_, ?_, ?_, ?_, by simpa using hszW⟩
  · rw [el, hp.out.2]
    exact shrinkF_go hx (by omega)
  · have := heap_setCell_same (W5.setCell ⟨T, 3, none⟩ (.int .i64 ((z : Int) - (szF x : Nat)))) (w.heap.size + 1 + 1) 0 _ _ (.int .i64 ((k : Int) + 1)) ((Below.heap_setCell _ _ _ _ (by show w.heap.size + 1 + 1 ≠ T; omega)).trans h2)
    rw [el, ← hk]
    push_cast
    exact this
  · rw [el, ← e2]
    exact (hTW.s3 _).of_block (Below.heap_setCell _ _ _ _ (by show T ≠ w.heap.size + 1 + 1; omega))
  · exact hrW.of_block (fun g hg => nT g (fun e => hap (by rw [hg, e])) (fun e => by
      have hh := hrW.block g hg
      rw [e, h2] at hh
      obtain ⟨cs, fr, he⟩ := hh
      injection he with he
      injection he with _ he2 _
      exact absurd he2 (by decide)))
  · refine ⟨hmW.os, hmW.tape, hmW.output, by simpa using hmW.size, fun j hj hjT hjv => (nT j hjT (by omega)).trans (hmW.block j hj hjT hjv)⟩

set_option maxHeartbeats 2000000 in
set_option maxRecDepth 8000 in
theorem shrink_any (T base : Nat) (b m most : Int) (v : Value) (fs : List Fd) (w : World) (h : TabO w base T b m v fs) (hz : sumF fs ≤ 1000000000) :
    Calls Tryd.prog 71 #[.pointer (some ⟨T, 0, none⟩), .int .i64 most] w fun e w' => e = .returned (.tuple #[]) ∧ ∃ v', TabO w' base T b m v' (shrinkF most fs) ∧ From w v v' ∧ Mv T v w w' := by
  obtain ⟨hbT, hT, hr⟩ := h
  refine (callsIn_wide (n := 4)).1 ?_
  refine callsIn_of_wp_marks Tryd.func71 rfl trivial ?_ rfl
  simp only [Tryd.ntmps71, List.size_toArray, List.length_cons, List.length_nil, Nat.reduceAdd, Nat.reduceSub, Array.replicate_succ, Array.replicate_zero, List.push_toArray, List.append_toArray, List.nil_append, List.cons_append]
  refine wpIn_wide.2 ?_
  have hT0 := hT.lt
  have hv0 : ∀ g, v.ownBlock = some g → g < w.heap.size := fun g hg => (hr.lt g hg).2
  go_wp2_with (go_at_call 38; refine (oldestFirst_any T _).mono ?_; rintro e w' ⟨rfl, rfl⟩)
  refine (wpIn_wide (n := 4)).1 ?_
  gi_wp2
  have k0 : ((((w.alloc (.cells #[.pointer (some ⟨T, 0, none⟩)] 53)).alloc (.cells #[.int .i64 most] 3)).alloc (.cells #[.int .i64 0] 3)).alloc (.cells #[.pointer (some ⟨T, 0, none⟩)] 53)).heap[w.heap.size]? = some (.cells #[.pointer (some ⟨T, 0, none⟩)] 53 (0, 0)) :=
    (Below.heap_alloc _ _ _ (by simp <;> omega)).trans ((Below.heap_alloc _ _ _ (by simp <;> omega)).trans ((Below.heap_alloc _ _ _ (by simp)).trans (heap_alloc_new _ _)))
  have k1 : ((((w.alloc (.cells #[.pointer (some ⟨T, 0, none⟩)] 53)).alloc (.cells #[.int .i64 most] 3)).alloc (.cells #[.int .i64 0] 3)).alloc (.cells #[.pointer (some ⟨T, 0, none⟩)] 53)).heap[w.heap.size + 1]? = some (.cells #[.int .i64 most] 3 (0, 0)) :=
    (Below.heap_alloc _ _ _ (by simp <;> omega)).trans ((Below.heap_alloc _ _ _ (by simp)).trans (heap_alloc2_new _ _ _))
  have k2 : ((((w.alloc (.cells #[.pointer (some ⟨T, 0, none⟩)] 53)).alloc (.cells #[.int .i64 most] 3)).alloc (.cells #[.int .i64 0] 3)).alloc (.cells #[.pointer (some ⟨T, 0, none⟩)] 53)).heap[w.heap.size + 1 + 1]? = some (.cells #[.int .i64 0] 3 (0, 0)) :=
    (Below.heap_alloc _ _ _ (by simp)).trans (by have := heap_alloc_new ((w.alloc (.cells #[.pointer (some ⟨T, 0, none⟩)] 53)).alloc (.cells #[.int .i64 most] 3)) (.cells #[.int .i64 0] 3); simpa using this)
  have k3 : ((((w.alloc (.cells #[.pointer (some ⟨T, 0, none⟩)] 53)).alloc (.cells #[.int .i64 most] 3)).alloc (.cells #[.int .i64 0] 3)).alloc (.cells #[.pointer (some ⟨T, 0, none⟩)] 53)).heap[w.heap.size + 1 + 1 + 1]? = some (.cells #[.pointer (some ⟨T, 0, none⟩)] 53 (0, 0)) := by
    have := heap_alloc_new (((w.alloc (.cells #[.pointer (some ⟨T, 0, none⟩)] 53)).alloc (.cells #[.int .i64 most] 3)).alloc (.cells #[.int .i64 0] 3)) (.cells #[.pointer (some ⟨T, 0, none⟩)] 53)
    simpa using this
  have hB4 : Below w.heap.size w ((((w.alloc (.cells #[.pointer (some ⟨T, 0, none⟩)] 53)).alloc (.cells #[.int .i64 most] 3)).alloc (.cells #[.int .i64 0] 3)).alloc (.cells #[.pointer (some ⟨T, 0, none⟩)] 53)) := ((((Below.refl _ w).alloc (Nat.le_refl _) _).alloc (by simp) _).alloc (by simp <;> omega) _).alloc (by simp <;> omega) _
  have hs4 : ((((w.alloc (.cells #[.pointer (some ⟨T, 0, none⟩)] 53)).alloc (.cells #[.int .i64 most] 3)).alloc (.cells #[.int .i64 0] 3)).alloc (.cells #[.pointer (some ⟨T, 0, none⟩)] 53)).heap.size = w.heap.size + 4 := by simp
  obtain ⟨W4, hW4⟩ : ∃ W4, ((((w.alloc (.cells #[.pointer (some ⟨T, 0, none⟩)] 53)).alloc (.cells #[.int .i64 most] 3)).alloc (.cells #[.int .i64 0] 3)).alloc (.cells #[.pointer (some ⟨T, 0, none⟩)] 53)) = W4 := ⟨_, rfl⟩
  rw [hW4] at k0 k1 k2 k3 hB4 hs4 ⊢
  have HS := Lib.hid hs4
  clear hW4 hs4
  have hTab4 := hT.below hB4
  have hr4 := hr.below hB4
  refine range_seqP (gf := 64) (lb := #[.pointer (some ⟨w.heap.size + 1 + 1 + 1, 0, none⟩)]) rfl (enters_of Tryd.func64 (by kernel_rfl) rfl)
    (fields_seq _ _ T base b m _ v fs W4 k3 hTab4 hr4) (fun _ => rfl)
    (fun h k => h.trans k)
    (fun W l o o' hl hlo _ => ⟨by rw [World.putObj_size]; exact Nat.le_refl _, fun g hg => World.putObj_heap_other (by have := hv0 g hg; have := HS.out; omega)⟩)
    (ShrAt w T base b m v fs most)
    (fun c pre W => c = .exit 0 ∧ ∃ ini x, pre = ini ++ [x] ∧ (sumF (fs.drop ini.length) : Int) ≤ most ∧ ShrAt w T base b m v fs most ini W)
    (fun pre x a' W => fs[pre.length]? = some x ∧ ∃ Bx, W4.heap.size ≤ Bx ∧ W.heap[Bx]? = some (.cells #[.string x.1, .string x.2] 46 (0, 0)) ∧ a' = { tmps := #[.pointer (some ⟨T, 0, none⟩), .int .i64 most, .pointer (some ⟨w.heap.size, 0, none⟩), .pointer (some ⟨w.heap.size + 1, 0, none⟩), .pointer (some ⟨w.heap.size + 1 + 1, 0, none⟩), .pointer (some ⟨Bx, 0, none⟩), .pointer (some ⟨T, 0, none⟩), .func (.func 64) #[] #[.pointer (some ⟨w.heap.size + 1 + 1 + 1, 0, none⟩)], .agg #[.string x.1, .string x.2], undef, undef, undef, undef, undef, undef, undef, undef, undef, undef, undef, undef, undef, undef, undef, undef, undef, undef, undef, undef, undef, undef, undef, undef, undef, undef], defers := [] })
    (ShrAt.grows _ _ _ _ _ _ _ _) (ShrAt.turns _ _ _ _ _ _ _ _ _ (by have := HS.out; omega) hT0 hv0)
    (by rintro c s A W ⟨hc, ini, x, e1, e2, h⟩ hg; exact ⟨hc, ini, x, e1, e2, ShrAt.grows _ _ _ _ _ _ _ _ _ _ _ h hg⟩)
    (by rintro c s A l o o' ⟨hc, ini, x, e1, e2, h⟩ hl hlo ho; exact ⟨hc, ini, x, e1, e2, ShrAt.turns _ _ _ _ _ _ _ _ _ (by have := HS.out; omega) hT0 hv0 _ _ _ _ _ h hl hlo ho⟩)
    ?tTurn ⟨Lib.hid ⟨Nat.zero_le _, rfl⟩, k0, k1, k2, hTab4, hr4, Mv.of hB4, by have := HS.out; omega⟩ ?tAssign ?tBody ?tDone ?tStop
  case tTurn =>
    rintro pre x a' _ A l o o' ⟨h0, Bx, h1, h2, h3⟩ hl hlo ho
    refine ⟨h0, Bx, h1, (World.putObj_heap_other ?_).trans h2, h3⟩
    rintro rfl
    rw [h2] at hlo
    cases hlo
    cases ho
  case tAssign =>
    rintro l pre x W K hI hY hK
    have hsz := hI.2.2.2.2.2.2.2
    dsimp only [encFd]
    gi_wp2
    refine hK _ _ ((KeepsOthers.alloc _ _).from _) ⟨by simp, fun g hg => Below.heap_alloc _ _ _ (by have := hv0 g hg; omega)⟩ (ShrAt.grows _ _ _ _ _ _ _ _ _ _ _ hI ((Below.refl _ _).alloc (Nat.le_refl _) _)) ⟨hY, W.heap.size, by have := HS.out; omega, heap_alloc_new W _, rfl⟩
  case tBody =>
    rintro l pre x a' W hI ⟨hx, Bx, hBx, hxx, rfl⟩ hlen
    obtain ⟨hp, h0, h1, h2, hTW, hrW, hmW, hszW⟩ := id hI
    have hnf : ∀ {B : World}, Below W.heap.size W B → ShrAt w T base b m v fs most pre B := fun hb => ShrAt.grows _ _ _ _ _ _ _ _ _ _ _ hI hb
    obtain ⟨z, hzz⟩ : ∃ z : Nat, z = sumF (fs.drop pre.length) := ⟨_, rfl⟩
    obtain ⟨k, hkk⟩ : ∃ k : Nat, k = pre.length := ⟨_, rfl⟩
    have hz1 : z ≤ 1000000000 := by
      have := sumF_take_drop fs pre.length
      omega
    have hsx : z = szF x + sumF (fs.drop (pre.length + 1)) := by rw [hzz]; exact sumF_drop hx
    have hkl : k ≤ 1000000000 := by
      have := sumF_len fs
      omega
    have hlt0 := (Array.getElem?_eq_some_iff.1 h0).1
    have hlt1 := (Array.getElem?_eq_some_iff.1 h1).1
    rw [← hkk] at h2
    rw [← hzz] at hTW
    have HK := Lib.hid hkk
    have HZ := Lib.hid hzz
    have HX := Lib.hid hx
    have HSX := Lib.hid hsx
    have hltT := hTW.lt
    have hltB := (Array.getElem?_eq_some_iff.1 hxx).1
    clear hkk hzz hx hsx
    gi_wp2
    refine Moved.wpIn_round 6 [9, 10, 11, 12, 13, 14] [[], [(0, 9)], [(1, 10)], [(2, 11)], [], [(3, 12), (4, 13)]] []
      (fun i v _ => match i with
        | 0 => v = .pointer (some ⟨T, 0, none⟩)
        | 1 => v = .pointer (some ⟨T, 0, none⟩)
        | 2 => v = .pointer (some ⟨T, 3, none⟩)
        | 3 => v = .int .i64 z
        | 4 => v = .int .i64 most
        | 5 => v = .bool (decide ((z : Int) ≤ most))
        | _ => True) (by kernel_rfl) (by kernel_rfl) (by kernel_rfl) ?tStab ?tOps ?tLate ?tRest
    case tStab =>
      intro i v w3 w4 h hb
      match i, h with
      | 0, h | 1, h | 2, h | 3, h | 4, h | 5, h => exact h
      | i + 6, _ => trivial
    case tLate => intro i hi; cases hi
    case tOps =>
      simp only [List.take_succ_cons, List.take_zero, opsOk]
      refine ⟨?_, ?_, ?_, ?_, ?_, ?_, trivial⟩
      · intro ρ w3 hc hf ho hB2 hj
        have x0 : ρ (.tmp 2) = .pointer (some ⟨w.heap.size, 0, none⟩) := ho 2 (by decide)
        have cc := blk_cell (j := 0) ((hB2.block _ hlt0).trans h0) rfl
        simp [gives, go_sem, x0, cc, Below.refl]
      · intro ρ w3 hc hf ho hB2 hj
        have x0 : ρ (.tmp 9) = .pointer (some ⟨T, 0, none⟩) := hj (0, 9) (by simp)
        have cc := (hTW.below hB2).c0
        simp [gives, go_sem, x0, Below.refl]
      · intro ρ w3 hc hf ho hB2 hj
        have x0 : ρ (.tmp 10) = .pointer (some ⟨T, 0, none⟩) := hj (1, 10) (by simp)
        simp [gives, go_sem, x0, Below.refl]
      · intro ρ w3 hc hf ho hB2 hj
        have x0 : ρ (.tmp 11) = .pointer (some ⟨T, 3, none⟩) := hj (2, 11) (by simp)
        have cc := (hTW.below hB2).c3
        simp [gives, go_sem, x0, cc, Below.refl]
      · intro ρ w3 hc hf ho hB2 hj
        have x0 : ρ (.tmp 3) = .pointer (some ⟨w.heap.size + 1, 0, none⟩) := ho 3 (by decide)
        have cc := blk_cell (j := 0) ((hB2.block _ hlt1).trans h1) rfl
        simp [gives, go_sem, x0, cc, Below.refl]
      · intro ρ w3 hc hf ho hB2 hj
        have x0 : ρ (.tmp 12) = .int .i64 z := hj (3, 12) (by simp)
        have x1 : ρ (.tmp 13) = .int .i64 most := hj (4, 13) (by simp)
        simp [gives, go_sem, x0, x1, Below.refl]
    case tRest =>
      intro x3 w3 hB3 hx3
      have y0 : x3 0 = .pointer (some ⟨T, 0, none⟩) := hx3 0 (by decide)
      have y1 : x3 1 = .pointer (some ⟨T, 0, none⟩) := hx3 1 (by decide)
      have y2 : x3 2 = .pointer (some ⟨T, 3, none⟩) := hx3 2 (by decide)
      have y3 : x3 3 = .int .i64 z := hx3 3 (by decide)
      have y4 : x3 4 = .int .i64 most := hx3 4 (by decide)
      have y5 : x3 5 = .bool (decide ((z : Int) ≤ most)) := hx3 5 (by decide)
      simp only [putAll, List.getD_cons_zero, List.getD_cons_succ, Act.put, List.setIfInBounds_toArray, List.set_cons_zero, List.set_cons_succ, List.drop_succ_cons, List.drop_zero]
      rw [y0, y1, y2, y3, y4, y5]
      clear hx3 y0 y1 y2 y3 y4 y5
      go_wp2
      refine Moved.Only.intro ?_
      by_cases hle : (z : Int) ≤ most
      · have HD := Lib.hid hle
        rw [decide_eq_true hle]
        clear hle
        gi_wp2
        exact ⟨keeps_below hB3, rfl, pre, x, rfl, by rw [← HZ.out]; exact HD.out, hnf hB3⟩
      · have HD := Lib.hid hle
        rw [decide_eq_false hle]
        clear hle
        gi_wp2
        refine Moved.wpIn_round 9 [15, 16, 17, 18, 19, 20, 21, 22, 23] [[], [(0, 15)], [(1, 16)], [(2, 17)], [], [(4, 19)], [(3, 18), (5, 20)], [(0, 15)], [(7, 22)]] []
          (fun i v _ => match i with
            | 0 => v = .pointer (some ⟨T, 0, none⟩)
            | 1 => v = .pointer (some ⟨T, 0, none⟩)
            | 2 => v = .pointer (some ⟨T, 3, none⟩)
            | 3 => v = .int .i64 z
            | 4 => v = .agg #[.string x.1, .string x.2]
            | 5 => v = .int .i64 (szF x : Nat)
            | 6 => v = .int .i64 ((z : Int) - (szF x : Nat))
            | 7 => v = .pointer (some ⟨T, 0, none⟩)
            | 8 => v = .pointer (some ⟨T, 3, none⟩)
            | _ => True) (by kernel_rfl) (by kernel_rfl) (by kernel_rfl) ?tStab ?tOps ?tLate ?tRest
        case tStab =>
          intro i v w3 w4 h hb
          match i, h with
          | 0, h | 1, h | 2, h | 3, h | 4, h | 5, h | 6, h | 7, h | 8, h => exact h
          | i + 9, _ => trivial
        case tLate => intro i hi; cases hi
        case tOps =>
          simp only [List.take_succ_cons, List.take_zero, opsOk]
          refine ⟨?_, ?_, ?_, ?_, ?_, ?_, ?_, ?_, ?_, trivial⟩
          · intro ρ w5 hc hf ho hB2 hj
            have x0 : ρ (.tmp 2) = .pointer (some ⟨w.heap.size, 0, none⟩) := ho 2 (by decide)
            have cc := blk_cell (j := 0) ((hB3.trans (hB2.mono hB3.size)).block _ hlt0 |>.trans h0) rfl
            simp [gives, go_sem, x0, cc, Below.refl]
          · intro ρ w5 hc hf ho hB2 hj
            have x0 : ρ (.tmp 15) = .pointer (some ⟨T, 0, none⟩) := hj (0, 15) (by simp)
            simp [gives, go_sem, x0, Below.refl]
          · intro ρ w5 hc hf ho hB2 hj
            have x0 : ρ (.tmp 16) = .pointer (some ⟨T, 0, none⟩) := hj (1, 16) (by simp)
            simp [gives, go_sem, x0, Below.refl]
          · intro ρ w5 hc hf ho hB2 hj
            have x0 : ρ (.tmp 17) = .pointer (some ⟨T, 3, none⟩) := hj (2, 17) (by simp)
            have cc := (hTW.below (hB3.trans (hB2.mono hB3.size))).c3
            simp [gives, go_sem, x0, cc, Below.refl]
          · intro ρ w5 hc hf ho hB2 hj
            have x0 : ρ (.tmp 5) = .pointer (some ⟨Bx, 0, none⟩) := ho 5 (by decide)
            have hx5 := ((hB3.trans (hB2.mono hB3.size)).block _ hltB).trans hxx
            have c0 := blk_cell (j := 0) hx5 rfl
            have c1 := blk_cell (j := 1) hx5 rfl
            simp [gives, go_sem, x0, c0, c1, Below.refl]
          · intro ρ w5 hc hf ho hB2 hj
            have x0 : ρ (.tmp 19) = .agg #[.string x.1, .string x.2] := hj (4, 19) (by simp)
            simp [gives, go_sem, x0, hf]
            have hsm : small x := by
              have := HSX.out
              unfold szF at this
              unfold small
              omega
            refine (size_any x hsm w5).mono ?_
            rintro e w6 ⟨rfl, hb⟩
            exact ⟨_, rfl, rfl, hb⟩
          · intro ρ w5 hc hf ho hB2 hj
            have x0 : ρ (.tmp 18) = .int .i64 z := hj (3, 18) (by simp)
            have x1 : ρ (.tmp 20) = .int .i64 (szF x : Nat) := hj (5, 20) (by simp)
            have hw : IntKind.i64.wrap ((z : Int) - (szF x : Nat)) = (z : Int) - (szF x : Nat) := wrap_i64_small (by have := HSX.out; omega) (by omega)
            simp [gives, go_sem, x0, x1, hw, Below.refl]
          · intro ρ w5 hc hf ho hB2 hj
            have x0 : ρ (.tmp 15) = .pointer (some ⟨T, 0, none⟩) := hj (0, 15) (by simp)
            simp [gives, go_sem, x0, Below.refl]
          · intro ρ w5 hc hf ho hB2 hj
            have x0 : ρ (.tmp 22) = .pointer (some ⟨T, 0, none⟩) := hj (7, 22) (by simp)
            simp [gives, go_sem, x0, Below.refl]
        case tRest =>
          intro x5 w5 hB5 hx5
          have y0 : x5 0 = .pointer (some ⟨T, 0, none⟩) := hx5 0 (by decide)
          have y1 : x5 1 = .pointer (some ⟨T, 0, none⟩) := hx5 1 (by decide)
          have y2 : x5 2 = .pointer (some ⟨T, 3, none⟩) := hx5 2 (by decide)
          have y3 : x5 3 = .int .i64 z := hx5 3 (by decide)
          have y4 : x5 4 = .agg #[.string x.1, .string x.2] := hx5 4 (by decide)
          have y5 : x5 5 = .int .i64 (szF x : Nat) := hx5 5 (by decide)
          have y6 : x5 6 = .int .i64 ((z : Int) - (szF x : Nat)) := hx5 6 (by decide)
          have y7 : x5 7 = .pointer (some ⟨T, 0, none⟩) := hx5 7 (by decide)
          have y8 : x5 8 = .pointer (some ⟨T, 3, none⟩) := hx5 8 (by decide)
          simp only [putAll, List.getD_cons_zero, List.getD_cons_succ, Act.put, List.setIfInBounds_toArray, List.set_cons_zero, List.set_cons_succ, List.drop_succ_cons, List.drop_zero]
          rw [y0, y1, y2, y3, y4, y5, y6, y7, y8]
          clear hx5 y0 y1 y2 y3 y4 y5 y6 y7 y8
          have hB35 := hB3.trans (hB5.mono hB3.size)
          have hT5 := hTW.below hB35
          have c3 := hT5.c3
          have f3 : w5.frozen? ⟨T, 3, none⟩ = false := hT5.free
          have h25 := (hB35.block _ (Array.getElem?_eq_some_iff.1 h2).1).trans h2
          have h25' := (Below.heap_setCell w5 ⟨T, 3, none⟩ (.int .i64 ((z : Int) - (szF x : Nat))) _ (by show w.heap.size + 1 + 1 ≠ T; omega)).trans h25
          have g0 := blk_cell (j := 0) h25' rfl
          have gf := blk_free (j := 0) h25'
          have hnx := hI.step HX.out hB35 HZ.out HK.out HD.out hT0
          have HNX := Lib.hid hnx
          have hsxT : T ≠ w.heap.size + 1 + 1 := by omega
          clear h25 h25' hnx hT5
          go_wp2
          refine Moved.Only.intro ?_
          gi_wp2
          refine ⟨(keeps_below hB35).trans (((KeepsOthers.setCell _ _ _).from _).trans ((KeepsOthers.setCell _ _ _).from _)), ⟨by simpa using hB35.size, fun g hg => ?_⟩, HNX.out⟩
          have hgw := hv0 g hg
          have hgT : g ≠ T := fun e => hTW.apart hrW (by rw [hg, e])
          exact ((Below.heap_setCell _ _ _ _ (by show g ≠ w.heap.size + 1 + 1; omega)).trans (Below.heap_setCell _ _ _ _ hgT)).trans (hB35.block g (by omega))
  case' tDone =>
    rintro D xs W hD hcame hat hDk
    obtain ⟨hp, h0, h1, h2, hTW, hrW, hmW, hszW⟩ := hat
    have hend : fs.drop xs.length = shrinkF most fs := by
      rw [hp.out.2, show xs = fs from hcame, List.drop_of_length_le (Nat.le_refl _)]; rfl
    generalize xs = pre at *
    gi_wp2
  case' tStop =>
    rintro D c pre' W hD hcame ⟨rfl, pre, x, _, hle, hat⟩ hDk
    obtain ⟨hp, h0, h1, h2, hTW, hrW, hmW, hszW⟩ := hat
    have hend : fs.drop pre.length = shrinkF most fs := by
      rw [hp.out.2, shrinkF_stay hle]
    clear hcame hle
    gi_wp2
  all_goals
    obtain ⟨k, hkk⟩ : ∃ k : Nat, k = pre.length := ⟨_, rfl⟩
    have hkl : k ≤ fs.length := by rw [hkk]; exact hp.out.1
    rw [← hkk] at h2 hTW hend
    obtain ⟨z, hzz⟩ : ∃ z : Nat, z = sumF (fs.drop k) := ⟨_, rfl⟩
    rw [← hzz] at hTW
    have HE := Lib.hid hend
    have HZ := Lib.hid hzz
    have hap := hTW.apart hrW
    have n0 : v.ownBlock ≠ some w.heap.size := fun e => by have := hv0 _ e; omega
    have n2 : v.ownBlock ≠ some (w.heap.size + 1 + 1) := fun e => by have := hv0 _ e; omega
    have l0 := (Array.getElem?_eq_some_iff.1 h0).1
    have l2 := (Array.getElem?_eq_some_iff.1 h2).1
    have lD := (Array.getElem?_eq_some_iff.1 hDk).1
    have nD : v.ownBlock ≠ some D := fun e => by have := hv0 _ e; have := HS.out; omega
    clear hkk hend hzz
    refine Moved.wp_region 9 [26, 27, 28, 29, 30, 31, 32, 33, 34] [[], [], [(1, 27)], [(2, 28)], [(3, 29)], [], [(4, 30), (5, 31)], [(0, 26)], [(7, 33)]] []
      (fun i u w1 => match i with
        | 0 => u = .pointer (some ⟨T, 0, none⟩)
        | 1 => u = .pointer (some ⟨T, 0, none⟩)
        | 2 => u = .pointer (some ⟨T, 0, none⟩)
        | 3 => u = .pointer (some ⟨T, 2, none⟩)
        | 4 => u = v
        | 5 => u = .int .i64 k
        | 6 => RowF w1 base u (fs.drop k) ∧ From w v u
        | 7 => u = .pointer (some ⟨T, 0, none⟩)
        | 8 => u = .pointer (some ⟨T, 2, none⟩)
        | _ => True) 6 (fun w1 => W.grownBy w1 v.ownBlock) (fun w1 w2 => w1.grownBy w2 v.ownBlock) (by kernel_rfl) (by kernel_rfl) ?tWay ?tOps ?tLate ?tRest
    case tWay =>
      refine ⟨fun w1 h => grown_of h, fun w1 w2 h hb => h.trans (grown_of hb), fun w1 w2 h hb => (grown_of h).trans hb, ?_, ?_⟩
      · intro i u w3 w4 h hb
        match i, h with
        | 0, h | 1, h | 2, h | 3, h | 4, h | 5, h | 7, h | 8, h => exact h
        | 6, h => exact ⟨h.1.below hb, h.2⟩
        | i + 9, _ => trivial
      · intro i u w3 w4 hi h hb _
        match i, h, hi with
        | 0, h, _ | 1, h, _ | 2, h, _ | 3, h, _ | 4, h, _ | 5, h, _ | 7, h, _ | 8, h, _ => exact h
        | 6, _, hi => exact absurd rfl hi
        | i + 9, _, _ => trivial
    case tLate => intro i hi; cases hi
    case tOps =>
      simp only [List.take_succ_cons, List.take_zero, Moved.opsOk, Nat.zero_add, Nat.reduceAdd, Nat.reduceEqDiff, reduceCtorEq, reduceIte]
      refine ⟨?_, ?_, ?_, ?_, ?_, ?_, ?_, ?_, ?_, trivial⟩
      · intro ρ w5 hc hf ho hB2 hj
        have x0 : ρ (.tmp 2) = .pointer (some ⟨w.heap.size, 0, none⟩) := ho 2 (by decide)
        have cc := blk_cell (j := 0) ((hB2.block _ l0 (fun e => n0 e.symm)).trans h0) rfl
        simp [gives, go_sem, x0, cc, Moved.Grow, Below.refl]
      · intro ρ w5 hc hf ho hB2 hj
        have x0 : ρ (.tmp 2) = .pointer (some ⟨w.heap.size, 0, none⟩) := ho 2 (by decide)
        have cc := blk_cell (j := 0) ((hB2.block _ l0 (fun e => n0 e.symm)).trans h0) rfl
        simp [gives, go_sem, x0, cc, Moved.Grow, Below.refl]
      · intro ρ w5 hc hf ho hB2 hj
        have x0 : ρ (.tmp 27) = .pointer (some ⟨T, 0, none⟩) := hj (1, 27) (by simp)
        simp [gives, go_sem, x0, Moved.Grow, Below.refl]
      · intro ρ w5 hc hf ho hB2 hj
        have x0 : ρ (.tmp 28) = .pointer (some ⟨T, 0, none⟩) := hj (2, 28) (by simp)
        simp [gives, go_sem, x0, Moved.Grow, Below.refl]
      · intro ρ w5 hc hf ho hB2 hj
        have x0 : ρ (.tmp 29) = .pointer (some ⟨T, 2, none⟩) := hj (3, 29) (by simp)
        have cc := (hTW.of_block (hB2.block _ hTW.lt (fun e => hap e.symm))).c2
        simp [gives, go_sem, x0, cc, Moved.Grow, Below.refl]
      · intro ρ w5 hc hf ho hB2 hj
        have x0 : ρ (.tmp 4) = .pointer (some ⟨w.heap.size + 1 + 1, 0, none⟩) := ho 4 (by decide)
        have cc := blk_cell (j := 0) ((hB2.block _ l2 (fun e => n2 e.symm)).trans h2) rfl
        simp [gives, go_sem, x0, cc, Moved.Grow, Below.refl]
      · intro ρ w5 hc hf ho hB2 hj
        have x0 : ρ (.tmp 30) = v := hj (4, 30) (by simp)
        have x1 : ρ (.tmp 31) = .int .i64 k := hj (5, 31) (by simp)
        simp [gives, go_sem, x0, x1, hc, hf]
        refine (delete_any base v fs k hkl w5 (hrW.below hB2)).mono ?_
        rintro e w6 ⟨v', rfl, hr', hfr, hg⟩
        refine ⟨_, rfl, ⟨hr', fun g hg => ?_⟩, hg⟩
        rcases hfr g hg with h | h
        · exact .inl h
        · exact .inr (by have := hB2.size; omega)
      · intro ρ w5 hc hf ho hB2 hj
        have x0 : ρ (.tmp 26) = .pointer (some ⟨T, 0, none⟩) := hj (0, 26) (by simp)
        simp [gives, go_sem, x0, Moved.Grow, Below.refl]
      · intro ρ w5 hc hf ho hB2 hj
        have x0 : ρ (.tmp 33) = .pointer (some ⟨T, 0, none⟩) := hj (7, 33) (by simp)
        simp [gives, go_sem, x0, Moved.Grow, Below.refl]
    case tRest =>
      intro x5 w5 hG hx5
      have y0 : x5 0 = .pointer (some ⟨T, 0, none⟩) := hx5 0 (by decide)
      have y1 : x5 1 = .pointer (some ⟨T, 0, none⟩) := hx5 1 (by decide)
      have y2 : x5 2 = .pointer (some ⟨T, 0, none⟩) := hx5 2 (by decide)
      have y3 : x5 3 = .pointer (some ⟨T, 2, none⟩) := hx5 3 (by decide)
      have y4 : x5 4 = v := hx5 4 (by decide)
      have y5 : x5 5 = .int .i64 k := hx5 5 (by decide)
      obtain ⟨hr5, hfr5⟩ := hx5 6 (by decide)
      have y7 : x5 7 = .pointer (some ⟨T, 0, none⟩) := hx5 7 (by decide)
      have y8 : x5 8 = .pointer (some ⟨T, 2, none⟩) := hx5 8 (by decide)
      obtain ⟨v', hv'⟩ : ∃ v', x5 6 = v' := ⟨_, rfl⟩
      simp only [putAll, List.getD_cons_zero, List.getD_cons_succ, Act.put, List.setIfInBounds_toArray, List.set_cons_zero, List.set_cons_succ, List.drop_succ_cons, List.drop_zero]
      rw [hv'] at hr5 hfr5
      rw [y0, y1, y2, y3, y4, y5, y7, y8, hv']
      clear hx5 y0 y1 y2 y3 y4 y5 y7 y8 hv'
      obtain ⟨N', hN'⟩ : ∃ N', N' = (fs.drop k).length := ⟨_, rfl⟩
      obtain ⟨a', c', e5⟩ := hr5.shape
      rw [← hN'] at e5
      subst e5
      clear hN'
      have hT5 := hTW.of_block (hG.block _ hTW.lt (fun e => hap e.symm))
      have c2 := hT5.c2
      have f2 : w5.frozen? ⟨T, 2, none⟩ = false := hT5.free
      have hD5 := (hG.block _ lD (fun e => nD e.symm)).trans hDk
      have hap5 := hT5.apart hr5
      have HR := Lib.hid (And.intro hT5 (And.intro hr5 (And.intro hfr5 (And.intro hG (And.intro hD5 hap5)))))
      clear hT5 hr5 hfr5 hG hD5 hap5 hDk h0 h1 h2 hTW
      go_wp2
      refine Calm.intro ?_
      obtain ⟨hT5, hr5, hfr5, hG, hD5, hap5⟩ := HR.out
      have hDT : D ≠ T := by have := HS.out; omega
      have hD6 := (Below.heap_setCell w5 ⟨T, 2, none⟩ (.slice a' N' c') D hDT).trans hD5
      refine ⟨by simp, .inl ⟨_, _, rfl, run_takeDeferred hD6, ?_⟩⟩
      refine ⟨_, results_none rfl _ _ _, rfl, .slice a' N' c', ?_, hfr5, ?_⟩
      · rw [← HE.out]
        refine ⟨hbT, ?_, ?_⟩
        · rw [← HZ.out]
          exact (hT5.s2 _).of_block (World.putObj_heap_other (fun e => hDT e.symm))
        · refine hr5.of_block fun g hg => ?_
          have hgD : g ≠ D := by
            rintro rfl
            obtain ⟨cs, fr, h⟩ := hr5.block g hg
            rw [hD5] at h
            cases h
          exact (World.putObj_heap_other hgD).trans (Below.heap_setCell _ _ _ _ (fun e => hap5 (by rw [hg]; exact congrArg some e)))
      · refine ⟨hG.os.trans hmW.os, hG.tape.trans hmW.tape, hG.output.trans hmW.output, by rw [World.putObj_size]; simpa using Nat.le_trans hmW.size hG.size, fun j hj hjT hjv => ?_⟩
        exact (World.putObj_heap_other (by have := HS.out; omega)).trans ((Below.heap_setCell _ _ _ _ hjT).trans ((hG.block j (by omega) (fun e => hjv e.symm)).trans (hmW.block j hj hjT hjv)))
end Go.Proofs.YtenapfpkegoonaaDoor

/-
  Layer 7: SetMost, Len, Size, Most, Get; on nil.
-/
namespace Go.Proofs.YtenapfpkegoonaaDoor
set_option maxRecDepth 20000
open Go.RowKit

theorem fcs_one_at (w : World) (B : Nat) (f : Fd) (h : FldAt w B f.1 f.2) : ∀ (j : Nat) (u : Value), (fcs [f])[j]? = some u → w.cell? ((⟨B, 0, none⟩ : Addr).add j) = some u := by
  intro j u hj
  rw [Go.WideShapes.add_plain, Nat.zero_add]
  rw [fcs_one] at hj
  match j, hj with
  | 0, hj => cases hj; exact h.c0
  | 1, hj => cases hj; exact h.c1
  | j + 2, hj => simp at hj

theorem tlen_any (T base : Nat) (b m : Int) (v : Value) (fs : List Fd) (w : World) (h : TabO w base T b m v fs) :
    Calls Tryd.prog 28 #[.pointer (some ⟨T, 0, none⟩)] w fun e w' => e = .returned (.int .i64 (fs.length : Nat)) ∧ w' = w := by
  obtain ⟨_, hT, hr⟩ := h
  obtain ⟨a, c, rfl⟩ := hr.shape
  have c2 := hT.c2
  go_enter Tryd.func28, Tryd.ntmps28
  go_wp2_with fail
  go_ret
  exact ⟨rfl, rfl⟩
theorem tsize_any (T base : Nat) (b m : Int) (v : Value) (fs : List Fd) (w : World) (h : TabO w base T b m v fs) :
    Calls Tryd.prog 30 #[.pointer (some ⟨T, 0, none⟩)] w fun e w' => e = .returned (.int .i64 (sumF fs : Nat)) ∧ w' = w := by
  obtain ⟨_, hT, _⟩ := h
  have c3 := hT.c3
  go_enter Tryd.func30, Tryd.ntmps30
  go_wp2_with fail
  go_ret
  exact ⟨rfl, rfl⟩
theorem tlen_nil (w : World) : Calls Tryd.prog 28 #[.pointer none] w fun e w' => e = .returned (.int .i64 0) ∧ w' = w := by
  go_enter Tryd.func28, Tryd.ntmps28
  go_wp2_with fail
  go_ret
  exact ⟨rfl, rfl⟩
theorem tsize_nil (w : World) : Calls Tryd.prog 30 #[.pointer none] w fun e w' => e = .returned (.int .i64 0) ∧ w' = w := by
  go_enter Tryd.func30, Tryd.ntmps30
  go_wp2_with fail
  go_ret
  exact ⟨rfl, rfl⟩
theorem tclone_nil (w : World) : Calls Tryd.prog 20 #[.pointer none] w fun e w' => e = .returned (.pointer none) ∧ w' = w := by
  go_enter Tryd.func20, Tryd.ntmps20
  go_wp2_with fail
  go_ret
  exact ⟨rfl, rfl⟩
theorem tadd_nil (n x : ByteArray) (w : World) : Calls Tryd.prog 43 #[.pointer none, .agg #[.string n, .string x]] w fun e w' => e = .returned (.int .i64 1) ∧ Below w.heap.size w w' := by
  go_enter Tryd.func43, Tryd.ntmps43
  go_wp2_with fail
  go_ret
  exact ⟨rfl, (Below.refl _ _).alloc (Nat.le_refl _) _⟩
theorem tset_nil (n : Int) (w : World) : Calls Tryd.prog 68 #[.pointer none, .int .i64 n] w fun e w' => e = .returned (.int .i64 1) ∧ w' = w := by
  go_enter Tryd.func68, Tryd.ntmps68
  go_wp2_with fail
  go_ret
  exact ⟨rfl, rfl⟩
theorem tset_no (T base : Nat) (b m n : Int) (v : Value) (fs : List Fd) (w : World) (h : TabO w base T b m v fs) (hn : ¬ (0 ≤ n ∧ n ≤ b)) :
    Calls Tryd.prog 68 #[.pointer (some ⟨T, 0, none⟩), .int .i64 n] w fun e w' => e = .returned (.int .i64 1) ∧ w' = w := by
  have c0 := h.2.1.c0
  have d : decide (0 ≤ n ∧ n ≤ b) = false := decide_eq_false hn
  clear hn h
  go_enter Tryd.func68, Tryd.ntmps68
  go_wp2_with fail
  refine (within_any _ _ _).mono ?_
  rintro e w' ⟨rfl, rfl⟩
  rw [d]
  go_wp2_with fail
  go_ret
  exact ⟨rfl, rfl⟩
theorem tset_any (T base : Nat) (b m n : Int) (v : Value) (fs : List Fd) (w : World) (h : TabO w base T b m v fs) (hn : 0 ≤ n ∧ n ≤ b) (hz : sumF fs ≤ 1000000000) :
    Calls Tryd.prog 68 #[.pointer (some ⟨T, 0, none⟩), .int .i64 n] w fun e w' => e = .returned (.int .i64 0) ∧ ∃ v', TabO w' base T b n v' (shrinkF n fs) ∧ From w v v' ∧ Mv T v w w' := by
  have c0 := h.2.1.c0
  have c1 := h.2.1.c1
  have f1 : w.frozen? ⟨T, 1, none⟩ = false := h.2.1.free
  have d : decide (0 ≤ n ∧ n ≤ b) = true := decide_eq_true hn
  have h1 : TabO (w.setCell ⟨T, 1, none⟩ (.int .i64 n)) base T b n v fs := ⟨h.1, h.2.1.s1 n, h.2.2.of_block (fun g hg => Below.heap_setCell _ _ _ _ (fun e => h.sep (by rw [hg]; exact congrArg some e)))⟩
  have HT := Lib.hid h1
  clear hn h1 h
  go_enter Tryd.func68, Tryd.ntmps68
  go_wp2_with fail
  refine (within_any _ _ _).mono ?_
  rintro e w' ⟨rfl, rfl⟩
  rw [d]
  go_wp2_with fail
  refine (shrink_any T base b n n v fs _ HT.out hz).mono ?_
  rintro e w1 ⟨rfl, v', hT', hf', hm'⟩
  have HR := Lib.hid (And.intro hT' (And.intro hf' hm'))
  clear hT' hf' hm'
  go_wp2_with fail
  go_ret
  obtain ⟨hT', hf', hm'⟩ := HR.out
  exact ⟨rfl, v', hT', fun g hg => (hf' g hg).imp_right (by simp), (Mv.set T v w' 1 _).trans hm' (fun g hg => .inl hg)⟩

/-- the field of an index, the newest one first -/
def getO (fs : List Fd) (i : Int) : Value := if 1 ≤ i ∧ i ≤ fs.length then .tuple #[.agg #[.string (fs.getD (fs.length - i.toNat) (⟨#[]⟩, ⟨#[]⟩)).1, .string (fs.getD (fs.length - i.toNat) (⟨#[]⟩, ⟨#[]⟩)).2], .int .i64 0] else .tuple #[.agg #[.string ⟨#[]⟩, .string ⟨#[]⟩], .int .i64 5]
theorem tget_nil (i : Int) (w : World) : Calls Tryd.prog 29 #[.pointer none, .int .i64 i] w fun e w' => e = .returned (.tuple #[.agg #[.string ⟨#[]⟩, .string ⟨#[]⟩], .int .i64 1]) ∧ Below w.heap.size w w' := by
  go_enter Tryd.func29, Tryd.ntmps29
  go_wp2_with fail
  refine bodyPost_ret (results_row_tmp1 rfl _ _ w.heap.size 46 #[.string ⟨#[]⟩, .string ⟨#[]⟩] (0, 0) _ rfl (heap_alloc_new _ _) Tryd.underlying46 rfl (by kernel_rfl)) rfl ⟨rfl, (Below.refl _ _).alloc (Nat.le_refl _) _⟩
set_option maxHeartbeats 1000000 in
theorem tget_any (T base : Nat) (b m i : Int) (v : Value) (fs : List Fd) (w : World) (h : TabO w base T b m v fs) :
    Calls Tryd.prog 29 #[.pointer (some ⟨T, 0, none⟩), .int .i64 i] w fun e w' => e = .returned (getO fs i) ∧ Below w.heap.size w w' := by
  obtain ⟨_, hT, hr⟩ := h
  have hsl := hr.toSl
  obtain ⟨a, c, rfl, hc1, hc2⟩ := hsl.shape
  unfold maxLen at hc2
  have hTa := hT.below ((Below.refl w.heap.size w).alloc (Nat.le_refl _) (.cells #[.string ⟨#[]⟩, .string ⟨#[]⟩] 46))
  have c2 := hTa.c2
  by_cases hi : 1 ≤ i ∧ i ≤ fs.length
  · obtain ⟨k, rfl⟩ : ∃ k : Nat, i = (k : Int) + 1 := ⟨(i - 1).toNat, by omega⟩
    have hk : k < fs.length := by omega
    obtain ⟨q, hq⟩ : ∃ q, q = fs.length - (k + 1) := ⟨_, rfl⟩
    have hql : q < fs.length := by omega
    obtain ⟨f, hf⟩ : ∃ f, fs[q]? = some f := ⟨fs[q], List.getElem?_eq_getElem hql⟩
    have HG := Lib.hid (show getO fs ((k : Int) + 1) = .tuple #[.agg #[.string f.1, .string f.2], .int .i64 0] by
      rw [getO, if_pos hi, show ((k : Int) + 1).toNat = k + 1 by omega, ← hq, List.getD_eq_getElem?_getD, hf, Option.getD_some])
    obtain ⟨bk, off, rfl, hbl, hcell⟩ := hsl.at_ hql
    obtain ⟨y0, y1⟩ := hcell f hf
    have d1 : decide ((k : Int) + 1 < 1) = false := decide_eq_false (by omega)
    have d2 : decide ((fs.length : Int) < (k : Int) + 1) = false := decide_eq_false (by omega)
    obtain ⟨N, hN⟩ : ∃ N, N = fs.length := ⟨_, rfl⟩
    rw [← hN] at hc1 hql hq hk d2 c2 hTa hT
    have hsub : IntKind.i64.wrap ((N : Int) - ((k : Int) + 1)) = (q : Int) := by
      have e : (N : Int) - ((k : Int) + 1) = q := by omega
      rw [e]; exact wrap_i64_small (by omega) (by omega)
    have hix := run_index_sl (P := Tryd.prog) (t := 33) (s := 2) sliceFld (fun _ => by kernel_rfl) bk off N c q hql
    clear hi hcell hsl hf hN
    go_enter Tryd.func29, Tryd.ntmps29
    go_wp2_with fail
    refine wp_region_table 13 [21, 22, 23, 24, 25, 26, 27, 28, 29, 30, 31, 32, 33] [[], [(0, 21)], [(1, 22)], [(2, 23)], [], [(4, 25)], [(5, 26)], [(6, 27)], [(7, 28)], [], [(8, 29), (9, 30)], [(3, 24), (10, 31)], [(11, 32)]]
      (fun i u _ => match i with
        | 0 => u = .pointer (some ⟨T, 0, none⟩)
        | 1 => u = .pointer (some ⟨T, 0, none⟩)
        | 2 => u = .pointer (some ⟨T, 2, none⟩)
        | 3 => u = .slice (some ⟨bk, off, none⟩) N c
        | 4 => u = .pointer (some ⟨T, 0, none⟩)
        | 5 => u = .pointer (some ⟨T, 0, none⟩)
        | 6 => u = .pointer (some ⟨T, 2, none⟩)
        | 7 => u = .slice (some ⟨bk, off, none⟩) N c
        | 8 => u = .int .i64 N
        | 9 => u = .int .i64 ((k : Int) + 1)
        | 10 => u = .int .i64 q
        | 11 => u = .pointer (some ⟨bk, off + q * 2, none⟩)
        | 12 => u = .agg #[.string f.1, .string f.2]
        | _ => True) (by kernel_rfl) (by kernel_rfl) ?tStab ?tOps ?tRest
    case tStab =>
      intro i u w3 w4 h hb
      match i, h with
      | 0, h | 1, h | 2, h | 3, h | 4, h | 5, h | 6, h | 7, h | 8, h | 9, h | 10, h | 11, h | 12, h => exact h
      | i + 13, _ => trivial
    case tOps =>
      simp only [List.take_succ_cons, List.take_zero, opsOk]
      refine ⟨?_, ?_, ?_, ?_, ?_, ?_, ?_, ?_, ?_, ?_, ?_, ?_, ?_, trivial⟩
      · intro ρ w3 hc hf ho hB hj
        have x0 : ρ (.tmp 0) = .pointer (some ⟨T, 0, none⟩) := ho 0 (by decide)
        simp [gives, go_sem, x0, Below.refl]
      · intro ρ w3 hc hf ho hB hj
        have x0 : ρ (.tmp 21) = .pointer (some ⟨T, 0, none⟩) := hj (0, 21) (by simp)
        simp [gives, go_sem, x0, Below.refl]
      · intro ρ w3 hc hf ho hB hj
        have x0 : ρ (.tmp 22) = .pointer (some ⟨T, 0, none⟩) := hj (1, 22) (by simp)
        simp [gives, go_sem, x0, Below.refl]
      · intro ρ w3 hc hf ho hB hj
        have x0 : ρ (.tmp 23) = .pointer (some ⟨T, 2, none⟩) := hj (2, 23) (by simp)
        have cc := (hTa.below hB).c2
        simp [gives, go_sem, x0, cc, Below.refl]
      · intro ρ w3 hc hf ho hB hj
        have x0 : ρ (.tmp 0) = .pointer (some ⟨T, 0, none⟩) := ho 0 (by decide)
        simp [gives, go_sem, x0, Below.refl]
      · intro ρ w3 hc hf ho hB hj
        have x0 : ρ (.tmp 25) = .pointer (some ⟨T, 0, none⟩) := hj (4, 25) (by simp)
        simp [gives, go_sem, x0, Below.refl]
      · intro ρ w3 hc hf ho hB hj
        have x0 : ρ (.tmp 26) = .pointer (some ⟨T, 0, none⟩) := hj (5, 26) (by simp)
        simp [gives, go_sem, x0, Below.refl]
      · intro ρ w3 hc hf ho hB hj
        have x0 : ρ (.tmp 27) = .pointer (some ⟨T, 2, none⟩) := hj (6, 27) (by simp)
        have cc := (hTa.below hB).c2
        simp [gives, go_sem, x0, cc, Below.refl]
      · intro ρ w3 hc hf ho hB hj
        have x0 : ρ (.tmp 28) = .slice (some ⟨bk, off, none⟩) N c := hj (7, 28) (by simp)
        simp [gives, go_sem, x0, Below.refl]
      · intro ρ w3 hc hf ho hB hj
        have x0 : ρ (.tmp 1) = .int .i64 ((k : Int) + 1) := ho 1 (by decide)
        simp [gives, go_sem, x0, Below.refl]
      · intro ρ w3 hc hf ho hB hj
        have x0 : ρ (.tmp 29) = .int .i64 N := hj (8, 29) (by simp)
        have x1 : ρ (.tmp 30) = .int .i64 ((k : Int) + 1) := hj (9, 30) (by simp)
        simp [gives, go_sem, x0, x1, hsub, Below.refl]
      · intro ρ w3 hc hf ho hB hj
        have x0 : ρ (.tmp 24) = .slice (some ⟨bk, off, none⟩) N c := hj (3, 24) (by simp)
        have x1 : ρ (.tmp 31) = .int .i64 q := hj (10, 31) (by simp)
        simp [gives, go_sem, x0, x1, hix, Below.refl]
      · intro ρ w3 hc hf ho hB hj
        have x0 : ρ (.tmp 32) = .pointer (some ⟨bk, off + q * 2, none⟩) := hj (11, 32) (by simp)
        have hB2 := ((Below.refl w.heap.size w).alloc (Nat.le_refl _) (.cells #[.string ⟨#[]⟩, .string ⟨#[]⟩] 46)).trans (hB.mono (by simp))
        have z0 := (hB2.cell (p := ⟨bk, off + q * 2, none⟩) hbl).trans y0
        have z1 := (hB2.cell (p := ⟨bk, off + q * 2 + 1, none⟩) hbl).trans y1
        simp [gives, go_sem, x0, z0, z1, Below.refl]
    case tRest =>
      intro x w3 hb3 hx
      have e0 : x 0 = .pointer (some ⟨T, 0, none⟩) := hx 0 (by decide)
      have e1 : x 1 = .pointer (some ⟨T, 0, none⟩) := hx 1 (by decide)
      have e2 : x 2 = .pointer (some ⟨T, 2, none⟩) := hx 2 (by decide)
      have e3 : x 3 = .slice (some ⟨bk, off, none⟩) N c := hx 3 (by decide)
      have e4 : x 4 = .pointer (some ⟨T, 0, none⟩) := hx 4 (by decide)
      have e5 : x 5 = .pointer (some ⟨T, 0, none⟩) := hx 5 (by decide)
      have e6 : x 6 = .pointer (some ⟨T, 2, none⟩) := hx 6 (by decide)
      have e7 : x 7 = .slice (some ⟨bk, off, none⟩) N c := hx 7 (by decide)
      have e8 : x 8 = .int .i64 N := hx 8 (by decide)
      have e9 : x 9 = .int .i64 ((k : Int) + 1) := hx 9 (by decide)
      have e10 : x 10 = .int .i64 q := hx 10 (by decide)
      have e11 : x 11 = .pointer (some ⟨bk, off + q * 2, none⟩) := hx 11 (by decide)
      have e12 : x 12 = .agg #[.string f.1, .string f.2] := hx 12 (by decide)
      simp only [putAll, List.getD_cons_zero, List.getD_cons_succ, Act.put, List.setIfInBounds_toArray, List.set_cons_zero, List.set_cons_succ, List.drop_succ_cons, List.drop_zero]
      rw [e0, e1, e2, e3, e4, e5, e6, e7, e8, e9, e10, e11, e12]
      clear hx e0 e1 e2 e3 e4 e5 e6 e7 e8 e9 e10 e11 e12
      have hg : Hid (w3.heap[w.heap.size]? = some (.cells #[.string ⟨#[]⟩, .string ⟨#[]⟩] 46 (0, 0)) ∧ Below w.heap.size w w3) :=
        ⟨(hb3.block _ (by simp)).trans (heap_alloc_new _ _), ((Below.refl _ _).alloc (Nat.le_refl _) _).trans (hb3.mono (by simp))⟩
      clear hb3
      go_wp2_with (with_reducible refine store_fld rfl (.tmp 4) (.tmp 33) rfl w.heap.size f.1 f.2 _ _ rfl rfl hg.out.1 ?_)
      refine bodyPost_ret (results_row_tmp1 rfl _ _ w.heap.size 46 #[.string f.1, .string f.2] (0, 0) _ rfl (setRow_heap _ _ _ _ _ _ hg.out.1) Tryd.underlying46 rfl (by kernel_rfl)) rfl ⟨?_, below_setRow hg.out.2 (Nat.le_refl _) _⟩
      rw [HG.out]; rfl
  · have HG := Lib.hid (show getO fs i = .tuple #[.agg #[.string ⟨#[]⟩, .string ⟨#[]⟩], .int .i64 5] by rw [getO, if_neg hi])
    by_cases h1 : i < 1
    · have d1 : decide (i < 1) = true := decide_eq_true h1
      clear hi h1
      go_enter Tryd.func29, Tryd.ntmps29
      go_wp2_with fail
      refine bodyPost_ret (results_row_tmp1 rfl _ _ w.heap.size 46 #[.string ⟨#[]⟩, .string ⟨#[]⟩] (0, 0) _ rfl (heap_alloc_new _ _) Tryd.underlying46 rfl (by kernel_rfl)) rfl ⟨?_, (Below.refl _ _).alloc (Nat.le_refl _) _⟩
      rw [HG.out]; rfl
    · have d1 : decide (i < 1) = false := decide_eq_false h1
      have d2 : decide ((fs.length : Int) < i) = true := decide_eq_true (by omega)
      clear hi h1
      go_enter Tryd.func29, Tryd.ntmps29
      go_wp2_with fail
      refine bodyPost_ret (results_row_tmp1 rfl _ _ w.heap.size 46 #[.string ⟨#[]⟩, .string ⟨#[]⟩] (0, 0) _ rfl (heap_alloc_new _ _) Tryd.underlying46 rfl (by kernel_rfl)) rfl ⟨?_, (Below.refl _ _).alloc (Nat.le_refl _) _⟩
      rw [HG.out]; rfl
end Go.Proofs.YtenapfpkegoonaaDoor

/-
  Layer 7's reference: Sum, fit, Get.
-/
namespace Go.Proofs.YtenapfpkegoonaaDoor
set_option maxRecDepth 20000
open Go.RowKit

theorem szF_le {fs : List Fd} {k : Nat} {f : Fd} (h : fs[k]? = some f) : szF f ≤ sumF fs := by
  have := sumF_take_drop fs k
  have := sumF_drop h
  omega
theorem small_of {f : Fd} (h : szF f ≤ 1000000000) : small f := by unfold szF at h; unfold small; omega
set_option maxHeartbeats 1000000 in
theorem refSum_any (v : Value) (fs : List Fd) (w : World) (h : SlD w v fs) (hz : sumF fs ≤ 1000000000) :
    Calls Tryd.prog 15 #[v] w fun e w' => e = .returned (.int .i64 (sumF fs : Nat)) ∧ Below w.heap.size w w' := by
  obtain ⟨a, c, rfl, hc1, hc2⟩ := h.shape
  unfold maxLen at hc2
  have hl := sumF_len fs
  obtain ⟨N, hN⟩ : ∃ N, N = fs.length := ⟨_, rfl⟩
  rw [← hN] at h hc1 hl ⊢
  have HN := Lib.hid hN
  clear hN
  go_enter Tryd.func15, Tryd.ntmps15
  go_wp2_with fail
  go_loopg [3, 4] N (fun q s3 s4 wr => ∃ k : Nat, k + q = N ∧ s4 = .int .i64 k ∧ (∃ z : Nat, s3 = .int .i64 z ∧ Hid (z = sumF (fs.take k))) ∧ Hid (Below w.heap.size w wr))
  case atStart => exact ⟨0, by omega, rfl, ⟨0, rfl, Lib.hid rfl⟩, Lib.hid (Below.refl _ _)⟩
  case round =>
    obtain ⟨k, hkq, rfl, ⟨z, rfl, HZ⟩, HB⟩ := hrel
    have HKQ := Lib.hid hkq
    have hk : k ≤ N := by omega
    clear hkq
    by_cases hlt : k < N
    · obtain ⟨f, hf⟩ : ∃ f, fs[k]? = some f := ⟨fs[k]'(by rw [← HN.out]; exact hlt), List.getElem?_eq_getElem (by rw [← HN.out]; exact hlt)⟩
      have hzk : z ≤ 1000000000 := by
        have := sumF_take_drop fs k
        have := HZ.out
        omega
      have hfs := szF_le hf
      have hsm : small f := small_of (by omega)
      obtain ⟨b, off, rfl, hbl, hcell⟩ := (h.below HB.out).at_ (i := k) (by rw [← HN.out]; exact hlt)
      obtain ⟨c0, c1⟩ := hcell f hf
      have HST := Lib.hid (sumF_take_succ hf)
      obtain ⟨S, hS⟩ : ∃ S : Nat, S = szF f := ⟨_, rfl⟩
      have hsa := refSize_any f hsm
      rw [← hS] at hfs hsa
      have HS := Lib.hid hS
      have HSA := Lib.hid hsa
      clear hcell hf hS hsa
      go_wp2_with fail
      refine (HSA.out _).mono ?_
      rintro e w1 ⟨rfl, hb1⟩
      have HB1 := Lib.hid (HB.out.trans (hb1.mono HB.out.size))
      clear hb1
      go_wp2_with fail
      go_roundg (N - (k + 1))
      case measure => have := HKQ.out; omega
      case rel => exact ⟨k + 1, by omega, by go_num, ⟨z + S, by go_num, (by show _ = _; rw [HST.out, ← HZ.out, HS.out])⟩, HB1⟩
    · obtain rfl : k = N := by omega
      have e : z = sumF fs := by
        rw [HZ.out, HN.out, List.take_of_length_le (Nat.le_refl _)]
      have HE := Lib.hid e
      clear hlt hk
      go_wp2_with fail
      go_ret
      exact ⟨by rw [← HE.out]; rfl, HB.out⟩
/-- what the going through has brought so far -/
def FitAt (w : World) (most : Int) (fs : List Fd) (k : Nat) (u : Value) (W : World) : Prop := Below w.heap.size w W ∧ RowF W w.heap.size u (fs.take k) ∧ fitF most (fs.take k) = fs.take k
theorem fit_stop {most : Int} {fs : List Fd} {k : Nat} {f : Fd} (hf : fs[k]? = some f) (h : fitF most (fs.take k) = fs.take k) (hgo : most < (sumF (fs.take (k + 1)) : Nat)) : fitF most fs = fs.take k := by
  obtain ⟨hl, rfl⟩ := List.getElem?_eq_some_iff.1 hf
  have e := sumF_take_succ hf
  rw [fitF_split fs k h, List.drop_eq_getElem_cons hl, fitF, if_pos (by omega), List.append_nil]
set_option maxHeartbeats 1000000 in
theorem refFit_any (v : Value) (fs : List Fd) (most : Int) (w : World) (h : SlD w v fs) (hz : sumF fs ≤ 1000000000) :
    Calls Tryd.prog 49 #[v, .int .i64 most] w fun e w' => ∃ v', e = .returned v' ∧ RowF w' w.heap.size v' (fitF most fs) ∧ Below w.heap.size w w' := by
  obtain ⟨i0, hi, hz0, hz1, hz2⟩ := info_parts sizeFld
  obtain ⟨a, c, rfl, hc1, hc2⟩ := h.shape
  unfold maxLen at hc2
  have hl := sumF_len fs
  obtain ⟨N, hN⟩ : ∃ N, N = fs.length := ⟨_, rfl⟩
  rw [← hN] at h hc1 hl ⊢
  have HN := Lib.hid hN
  clear hN
  go_enter Tryd.func49, Tryd.ntmps49
  go_wp2_with fail
  go_loopg [5, 6] N (fun q s5 s6 wr => ∃ k : Nat, k + q = N ∧ s6 = .int .i64 k ∧ Hid (FitAt w most fs k s5 wr))
  case atStart => exact ⟨0, by omega, rfl, Lib.hid ⟨Below.refl _ _, RowF.nil _ _, rfl⟩⟩
  case round =>
    obtain ⟨k, hkq, rfl, HF⟩ := hrel
    have HKQ := Lib.hid hkq
    have hk : k ≤ N := by omega
    clear hkq
    obtain ⟨au, cu, eu⟩ := HF.out.2.1.shape
    have hlk : (fs.take k).length = k := by rw [List.length_take, ← HN.out]; omega
    rw [hlk] at eu
    subst eu
    by_cases hlt : k < N
    · obtain ⟨f, hf⟩ : ∃ f, fs[k]? = some f := ⟨fs[k]'(by rw [← HN.out]; exact hlt), List.getElem?_eq_getElem (by rw [← HN.out]; exact hlt)⟩
      obtain ⟨b, off, rfl, hbl, hcell⟩ := (h.below HF.out.1).at_ (i := k) (by rw [← HN.out]; exact hlt)
      have hcell0 := hcell f hf
      have hup := (h.below HF.out.1).upto (hi := k + 1) (by rw [← HN.out]; omega) (by omega)
      obtain ⟨Z, hZ⟩ : ∃ Z : Nat, Z = sumF (fs.take (k + 1)) := ⟨_, rfl⟩
      have hsm := refSum_any _ _ wr hup (by have := sumF_take_drop fs (k + 1); omega)
      rw [← hZ] at hsm
      have HSM := Lib.hid hsm
      have HZ := Lib.hid hZ
      have HFF := Lib.hid hf
      have HC := Lib.hid hcell0
      have ek : ((k + 1 : Nat) : Int) = (k : Int) + 1 := by omega
      clear hcell hcell0 hup hsm hZ hf
      go_wp2_with fail
      refine (HSM.out).mono ?_
      rintro e w1 ⟨rfl, hb1⟩
      have c0 := (hb1.cell (p := ⟨b, off + k * 2, none⟩) hbl).trans HC.out.1
      have c1 := (hb1.cell (p := ⟨b, off + k * 2 + 1, none⟩) hbl).trans HC.out.2
      have HF1 : Hid (FitAt w most fs k (.slice au k cu) w1) := ⟨HF.out.1.trans (hb1.mono HF.out.1.size), HF.out.2.1.below hb1, HF.out.2.2⟩
      clear hb1
      by_cases hgo : most < (Z : Int)
      · have HE := Lib.hid (fit_stop HFF.out HF.out.2.2 (by rw [← HZ.out]; exact hgo))
        have d : decide (most < (Z : Int)) = true := decide_eq_true hgo
        clear hgo
        go_wp2_with fail
        go_ret
        exact ⟨_, rfl, by rw [HE.out]; exact HF1.out.2.1, HF1.out.1⟩
      · have d : decide (most < (Z : Int)) = false := decide_eq_false hgo
        have HE := Lib.hid (fitF_all (most := most) (fs.take (k + 1)) (by rw [← HZ.out]; omega))
        have HT := Lib.hid (show fs.take (k + 1) = fs.take k ++ [f] by rw [List.take_add_one, HFF.out]; rfl)
        have hru := HF1.out.2.1
        unfold RowF at hru
        rw [hlk] at hru
        have hsz1 := HF1.out.1.size
        clear hgo
        go_wp2_with (at_builtin; refine app_row rfl (.tmp 21) (.tmp 26) 33 rfl w.heap.size 46 i0 _ 2 32 Tryd.underlying33 hi hz0 hz1 hz2 rfl (by decide) (.slice au k cu) k (fcs (fs.take k)) rfl (hru.alloc _) (some ⟨w1.heap.size, 0, none⟩) 1 1 (fcs [f]) rfl (fun h => by cases h) rfl (fun ad hd => by cases hd; exact fcs_one_at _ _ f (FldAt.new _ _ _)) (fcs_oneCell _) (by unfold maxLen; omega) (by omega) (by simp; omega) ?_; intro v2 w2 hown2 hb2 hg2; obtain ⟨a2, c2, rfl, _⟩ := owned_shape hown2; have HO2 := Lib.hid (And.intro hown2 (And.intro hb2 hg2.size)); clear hown2 hb2 hg2)
        go_roundg (N - (k + 1))
        case measure => have := HKQ.out; omega
        case rel =>
          refine ⟨k + 1, by omega, by go_num, ?_⟩
          obtain ⟨hown2, hb2, hs2⟩ := HO2.out
          simp at hs2
          have hbw : Below w.heap.size w1 (w1.alloc (.cells #[.string f.1, .string f.2] 46)) := (Below.refl _ _).alloc hsz1 _
          refine (show FitAt _ _ _ _ _ _ from ⟨HF1.out.1.trans (hbw.trans hb2), ?_, HE.out⟩)
          unfold RowF
          rw [HT.out, List.length_append, hlk, List.length_singleton, fcs_append]
          exact hown2
    · obtain rfl : k = N := by omega
      have HE := Lib.hid (show fitF most fs = fs.take k by
        have := HF.out.2.2
        rwa [List.take_of_length_le (by rw [HN.out]; exact Nat.le_refl _)] at this ⊢)
      clear hlt hk
      go_wp2_with fail
      go_ret
      exact ⟨_, rfl, by rw [HE.out]; exact HF.out.2.1, HF.out.1⟩
end Go.Proofs.YtenapfpkegoonaaDoor

/-
  Layer 7's reference: Get, SetMost, Add.
-/
namespace Go.Proofs.YtenapfpkegoonaaDoor
set_option maxRecDepth 20000
open Go.RowKit

/-- the field of an index, of a list with the newest one first -/
def getR (fs : List Fd) (i : Int) : Value := if 1 ≤ i ∧ i ≤ fs.length then .tuple #[.agg #[.string (fs.getD (i.toNat - 1) (⟨#[]⟩, ⟨#[]⟩)).1, .string (fs.getD (i.toNat - 1) (⟨#[]⟩, ⟨#[]⟩)).2], .int .i64 0] else .tuple #[.agg #[.string ⟨#[]⟩, .string ⟨#[]⟩], .int .i64 5]
theorem getR_reverse (fs : List Fd) (i : Int) : getR fs.reverse i = getO fs i := by
  unfold getR getO
  rw [List.length_reverse]
  by_cases h : 1 ≤ i ∧ i ≤ fs.length
  · rw [if_pos h, if_pos h]
    have e : fs.reverse.getD (i.toNat - 1) (⟨#[]⟩, ⟨#[]⟩) = fs.getD (fs.length - i.toNat) (⟨#[]⟩, ⟨#[]⟩) := by
      rw [List.getD_eq_getElem?_getD, List.getD_eq_getElem?_getD, List.getElem?_reverse (by omega), show fs.length - 1 - (i.toNat - 1) = fs.length - i.toNat by omega]
    rw [e]
  · rw [if_neg h, if_neg h]
set_option maxHeartbeats 1000000 in
theorem refGet7_any (T base : Nat) (b m i : Int) (v : Value) (fs : List Fd) (w : World) (h : TabR w base T b m v fs) :
    Calls Tryd.prog 51 #[.pointer (some ⟨T, 0, none⟩), .int .i64 i] w fun e w' => e = .returned (getR fs i) ∧ Below w.heap.size w w' := by
  obtain ⟨_, hT, hr⟩ := h
  have hsl := hr.toSl
  obtain ⟨a, c, rfl, hc1, hc2⟩ := hsl.shape
  unfold maxLen at hc2
  have hTa := hT.below ((Below.refl w.heap.size w).alloc (Nat.le_refl _) (.cells #[.string ⟨#[]⟩, .string ⟨#[]⟩] 46))
  have c2 := hTa.c0
  by_cases hi : 1 ≤ i ∧ i ≤ fs.length
  · obtain ⟨k, rfl⟩ : ∃ k : Nat, i = (k : Int) + 1 := ⟨(i - 1).toNat, by omega⟩
    have hk : k < fs.length := by omega
    obtain ⟨f, hf⟩ : ∃ f, fs[k]? = some f := ⟨fs[k], List.getElem?_eq_getElem hk⟩
    have HG := Lib.hid (show getR fs ((k : Int) + 1) = .tuple #[.agg #[.string f.1, .string f.2], .int .i64 0] by
      rw [getR, if_pos hi, show ((k : Int) + 1).toNat - 1 = k by omega, List.getD_eq_getElem?_getD, hf, Option.getD_some])
    obtain ⟨bk, off, rfl, hbl, hcell⟩ := hsl.at_ hk
    obtain ⟨y0, y1⟩ := hcell f hf
    have hA := (Below.refl w.heap.size w).alloc (Nat.le_refl _) (.cells #[.string ⟨#[]⟩, .string ⟨#[]⟩] 46)
    have z0 := (hA.cell (p := ⟨bk, off + k * 2, none⟩) hbl).trans y0
    have z1 := (hA.cell (p := ⟨bk, off + k * 2 + 1, none⟩) hbl).trans y1
    have d1 : decide ((k : Int) + 1 < 1) = false := decide_eq_false (by omega)
    have d2 : decide ((fs.length : Int) < (k : Int) + 1) = false := decide_eq_false (by omega)
    obtain ⟨N, hN⟩ : ∃ N, N = fs.length := ⟨_, rfl⟩
    rw [← hN] at hc1 hk d2 c2
    have hsub : IntKind.i64.wrap (k : Int) = (k : Int) := wrap_i64_small (by omega) (by omega)
    have hix := run_index_sl (P := Tryd.prog) (t := 33) (s := 2) sliceFld (fun _ => by kernel_rfl) bk off N c k hk
    clear hi hcell hsl hf hN hTa hA
    go_enter Tryd.func51, Tryd.ntmps51
    go_wp2_with (with_reducible refine store_fld rfl (.tmp 4) (.tmp 25) rfl w.heap.size f.1 f.2 _ _ rfl rfl (heap_alloc_new _ _) ?_)
    refine bodyPost_ret (results_row_tmp1 rfl _ _ w.heap.size 46 #[.string f.1, .string f.2] (0, 0) _ rfl (setRow_heap _ _ _ _ _ _ (heap_alloc_new _ _)) Tryd.underlying46 rfl (by kernel_rfl)) rfl ⟨?_, below_setRow ((Below.refl _ _).alloc (Nat.le_refl _) _) (Nat.le_refl _) _⟩
    rw [HG.out]; rfl
  · have HG := Lib.hid (show getR fs i = .tuple #[.agg #[.string ⟨#[]⟩, .string ⟨#[]⟩], .int .i64 5] by rw [getR, if_neg hi])
    by_cases h1 : i < 1
    · have d1 : decide (i < 1) = true := decide_eq_true h1
      clear hi h1
      go_enter Tryd.func51, Tryd.ntmps51
      go_wp2_with fail
      refine bodyPost_ret (results_row_tmp1 rfl _ _ w.heap.size 46 #[.string ⟨#[]⟩, .string ⟨#[]⟩] (0, 0) _ rfl (heap_alloc_new _ _) Tryd.underlying46 rfl (by kernel_rfl)) rfl ⟨?_, (Below.refl _ _).alloc (Nat.le_refl _) _⟩
      rw [HG.out]; rfl
    · have d1 : decide (i < 1) = false := decide_eq_false h1
      have d2 : decide ((fs.length : Int) < i) = true := decide_eq_true (by omega)
      clear hi h1
      go_enter Tryd.func51, Tryd.ntmps51
      go_wp2_with fail
      refine bodyPost_ret (results_row_tmp1 rfl _ _ w.heap.size 46 #[.string ⟨#[]⟩, .string ⟨#[]⟩] (0, 0) _ rfl (heap_alloc_new _ _) Tryd.underlying46 rfl (by kernel_rfl)) rfl ⟨?_, (Below.refl _ _).alloc (Nat.le_refl _) _⟩
      rw [HG.out]; rfl
theorem refSet_no (T base : Nat) (b m n : Int) (v : Value) (fs : List Fd) (w : World) (h : TabR w base T b m v fs) (hn : ¬ (0 ≤ n ∧ n ≤ b)) :
    Calls Tryd.prog 25 #[.pointer (some ⟨T, 0, none⟩), .int .i64 n] w fun e w' => e = .returned (.int .i64 1) ∧ w' = w := by
  have c0 := h.2.1.c1
  by_cases h0 : n < 0
  · have d1 : decide (n < 0) = true := decide_eq_true h0
    clear hn h h0
    go_enter Tryd.func25, Tryd.ntmps25
    go_wp2_with fail
    go_ret
    exact ⟨rfl, rfl⟩
  · have d1 : decide (n < 0) = false := decide_eq_false h0
    have d2 : decide (b < n) = true := decide_eq_true (by omega)
    clear hn h h0
    go_enter Tryd.func25, Tryd.ntmps25
    go_wp2_with fail
    go_ret
    exact ⟨rfl, rfl⟩
/-- the end of a call on the reference's table: what came out is laid in its place -/
theorem TabR.laid {w w2 w3 : World} {base T : Nat} {b m n : Int} {v u : Value} {fs gs : List Fd} (h : TabR w base T b m v fs) (hbase : base ≤ w.heap.size) (hT : RefAt w2 T v b n) (hm : Mv T v w w2) (hb : Below w2.heap.size w2 w3) (hr : RowF w3 w2.heap.size u gs) :
    TabR (w3.setCell ⟨T, 0, none⟩ u) base T b n u gs ∧ From w v u ∧ Mv T v w (w3.setCell ⟨T, 0, none⟩ u) := by
  have hT3 := hT.below hb
  have hap := hT3.apart hr
  refine ⟨⟨h.1, hT3.s0 u, (hr.mono (Nat.le_trans hbase hm.size)).of_block fun g hg => Below.heap_setCell _ _ _ _ (fun e => hap (by rw [hg]; exact congrArg some e))⟩, fun g hg => .inr (Nat.le_trans hm.size (hr.lt g hg).1), (hm.trans (Mv.of hb) (fun g hg => .inl hg)).trans (Mv.set T v w3 0 u) (fun g hg => .inl hg)⟩
set_option maxHeartbeats 1000000 in
theorem refSet_any (T base : Nat) (b m n : Int) (v : Value) (fs : List Fd) (w : World) (h : TabR w base T b m v fs) (hn : 0 ≤ n ∧ n ≤ b) (hz : sumF fs ≤ 1000000000) (hbase : base ≤ w.heap.size) :
    Calls Tryd.prog 25 #[.pointer (some ⟨T, 0, none⟩), .int .i64 n] w fun e w' => e = .returned (.int .i64 0) ∧ ∃ v', TabR w' base T b n v' (fitF n fs) ∧ From w v v' ∧ Mv T v w w' := by
  have c0 := h.2.1.c1
  have f1 : w.frozen? ⟨T, 2, none⟩ = false := h.2.1.free
  have d1 : decide (n < 0) = false := decide_eq_false (by omega)
  have d2 : decide (b < n) = false := decide_eq_false (by omega)
  have h1 := h.2.1.s2 n
  have c2 := h.2.1.c2
  have c1 := h1.c0
  have hr1 : RowF (w.setCell ⟨T, 2, none⟩ (.int .i64 n)) base v fs := h.2.2.of_block (fun g hg => Below.heap_setCell _ _ _ _ (fun e => h.sep (by rw [hg]; exact congrArg some e)))
  have hsl := hr1.toSl
  have hm1 := Mv.set T v w 2 (.int .i64 n)
  obtain ⟨W1, hW1⟩ : ∃ W1, w.setCell ⟨T, 2, none⟩ (.int .i64 n) = W1 := ⟨_, rfl⟩
  rw [hW1] at h1 c1 hr1 hsl hm1
  have HW := Lib.hid hW1
  have HN := Lib.hid hn
  clear hn hW1
  go_enter Tryd.func25, Tryd.ntmps25
  go_wp2_with (rw [HW.out])
  refine (refFit_any v fs n W1 hsl hz).mono ?_
  rintro e w2 ⟨u, rfl, hr2, hb2⟩
  obtain ⟨a2, k2, e2⟩ := hr2.shape
  obtain ⟨N2, hN2⟩ : ∃ N2, N2 = (fitF n fs).length := ⟨_, rfl⟩
  rw [← hN2] at e2
  subst e2
  have hT2 := h1.below hb2
  have q0 := hT2.c0
  have qf : w2.frozen? ⟨T, 0, none⟩ = false := hT2.free
  have HE := Lib.hid (TabR.laid h hbase h1 hm1 hb2 hr2)
  clear hN2 hr2 hb2 hT2
  go_wp2_with fail
  go_ret
  exact ⟨rfl, _, HE.out⟩

/-- 'append(s, x...)', s full: nothing that lay is turned -/
theorem gives_fresh_row {P : Program} {o : Oper} {ρ : Operand → Value} {w : World} {R : Value → World → Prop} (s x : Operand) (t : TypeId) (ho : o.op = .call { callee := .builtin .append, args := #[s, x], argTypes := #[t, t] }) (base : Nat) (e : TypeId)
    (z : Value) (size bytes : Nat) (ht : P.underlying t = some (.slice e)) (hi : (P.info? e).map (fun i => (i.zero, i.size, i.bytes)) = some (some z, size, bytes)) (hzs : z.cells.size = size) (hsz : 0 < size) (g n : Nat) (xs : List Value) (hs : ρ s = .slice (some ⟨g, 0, none⟩) n n)
    (hown : w.ownsRow base e size (.slice (some ⟨g, 0, none⟩) n n) n xs) (ao : Option Addr) (m c : Nat) (news : List Value) (hx : ρ x = .slice ao m c) (hnone : ao = none → m = 0 ∧ c = 0) (hl : news.length = m * size)
    (hnews : ∀ ad, ao = some ad → ∀ (j : Nat) (u : Value), news[j]? = some u → w.cell? (ad.add j) = some u) (h63 : n + m ≤ maxLen) (hbytes : (n + m) * bytes ≤ 140737488355328) (hbase : base ≤ w.heap.size)
    (h : ∀ (v' : Value) (w' : World), w'.ownsRow base e size v' (n + m) (xs ++ news) → Below w.heap.size w w' → R v' w') : gives P o ρ w R := by
  obtain ⟨i0, hi0, hz0, hz1, hz2⟩ := info_parts hi
  have run : ∀ v' w', (Builtin.append_ #[t, t] o.type #[.slice (some ⟨g, 0, none⟩) n n, .slice ao m c]).run P w = .ok v' w' → R v' w' → gives P o ρ w R := fun v' w' hr hR => by
    unfold gives execOp
    simp only [ho, resolve, invoke, builtin, Sem.run_bind, Sem.run_pure, Result.andThen_ok, List.map_toArray, List.map_cons, List.map_nil, hs, hx, hr]
    exact hR
  have same : news = [] → R (.slice (some ⟨g, 0, none⟩) n n) w := fun hn => h _ w (by
    have hm : m = 0 := by
      rw [hn, List.length_nil] at hl
      rcases Nat.mul_eq_zero.1 hl.symm with h | h
      · exact h
      · omega
    rw [hn, hm, List.append_nil]; exact hown) (Below.refl _ _)
  cases ao with
  | none =>
    obtain ⟨rfl, rfl⟩ := hnone rfl
    have hn : news = [] := List.eq_nil_of_length_eq_zero (by simpa using hl)
    exact run _ _ (run_append_owned_none (P := P) w base t o.type e i0 size ht hi0 _ n xs hown) (same hn)
  | some ad =>
    by_cases hm : m = 0
    · subst hm
      have hn : news = [] := List.eq_nil_of_length_eq_zero (by simpa using hl)
      obtain ⟨_, ⟨h0, _⟩ | ⟨g', cap', cur, h0, hbg, hg, hnc, hcm, hcs, htake⟩⟩ := id hown
      · simp at h0
      · simp only [Value.slice.injEq, Option.some.injEq, Addr.mk.injEq, and_true, true_and] at h0
        obtain ⟨rfl, rfl⟩ := h0
        have hr := run_append_room (P := P) w t o.type e i0 ht hi0 g n n cur hg ad 0 c [] (by simp) (by simp) (by simp) (by omega) (by rw [hcs, hz1]; simp)
        simp only [List.append_nil, List.length_nil, Nat.add_zero, List.take_append_drop, Array.toArray_toList] at hr
        rw [setRow_self w g cur e (0, 0) hg] at hr
        exact run _ _ hr (same hn)
    · obtain ⟨v', w', hr, h2, h3⟩ := run_append_arg_grows (P := P) w t o.type e i0 z size bytes ht hi0 hz0 hz1 hz2 hzs hsz ⟨g, 0, none⟩ n n xs hown.1 (World.ownsRow.cells hown rfl) ad m c news hl (hnews ad rfl) (by omega) h63 hbytes
      exact run _ _ hr (h _ _ (owned_mono h2 hbase) ((Below.refl _ _).grown h3 (Nat.le_refl _) (fun k hk => by cases hk)))
theorem RowF.lit {w : World} (base : Nat) (f : Fd) (hb : base ≤ w.heap.size) : (w.alloc (.cells #[.string f.1, .string f.2] 46)).ownsRow base 46 2 (.slice (some ⟨w.heap.size, 0, none⟩) 1 1) 1 (fcs [f]) :=
  ⟨rfl, .inr ⟨w.heap.size, 1, _, rfl, hb, heap_alloc_new w _, Nat.le_refl _, by unfold maxLen; omega, rfl, rfl⟩⟩
theorem SlD.src {w : World} {a : Option Addr} {n c : Nat} {fs : List Fd} (h : SlD w (.slice a n c) fs) : ∀ ad, a = some ad → ∀ (j : Nat) (u : Value), (fcs fs)[j]? = some u → w.cell? (ad.add j) = some u := by
  rintro ad rfl j u hj
  have hjl : j < fs.length * 2 := by rw [← fcs_length]; exact (List.getElem?_eq_some_iff.1 hj).1
  obtain ⟨b, off, e, _, hc⟩ := h.at_ (i := j / 2) (by omega)
  cases e
  obtain ⟨f, hf⟩ : ∃ f, fs[j / 2]? = some f := ⟨fs[j / 2], List.getElem?_eq_getElem (by omega)⟩
  obtain ⟨c0, c1⟩ := hc f hf
  obtain ⟨d0, d1⟩ := fcs_at fs _ f hf
  rw [Go.WideShapes.add_plain]
  rcases (by omega : j = j / 2 * 2 ∨ j = j / 2 * 2 + 1) with e | e
  · rw [← e] at c0 d0
    rw [c0, ← d0, hj]
  · rw [Nat.add_assoc, ← e] at c1
    rw [← e] at d1
    rw [c1, ← d1, hj]
theorem SlD.bare {w : World} {n c : Nat} {a : Option Addr} {fs : List Fd} (h : SlD w (.slice a n c) fs) : a = none → n = 0 ∧ c = 0 := by
  rintro rfl
  obtain ⟨a', c', e, _, _, h3⟩ := h
  simp only [Value.slice.injEq] at e
  obtain ⟨rfl, rfl, rfl⟩ := e
  rcases h3 with ⟨h3, h4⟩ | ⟨b, off, e, _⟩
  · exact ⟨h3, h4 rfl⟩
  · cases e
set_option maxHeartbeats 1000000 in
theorem refAdd_any (T base : Nat) (b m : Int) (v : Value) (fs : List Fd) (f : Fd) (w : World) (h : TabR w base T b m v fs) (hz : sumF (f :: fs) ≤ 1000000000) (hbase : base ≤ w.heap.size) :
    Calls Tryd.prog 27 #[.pointer (some ⟨T, 0, none⟩), .agg #[.string f.1, .string f.2]] w fun e w' => e = .returned (.tuple #[]) ∧ ∃ v', TabR w' base T b m v' (fitF m (f :: fs)) ∧ From w v v' ∧ Mv T v w w' := by
  have hsl := h.2.2.toSl
  obtain ⟨a, c, rfl, hc1, hc2⟩ := hsl.shape
  have hl := sumF_len (f :: fs)
  simp only [List.length_cons] at hl
  have hB0 : Below w.heap.size w (w.alloc (.cells #[.string f.1, .string f.2] 46)) := (Below.refl _ _).alloc (Nat.le_refl _) _
  have hT0 := h.2.1.below hB0
  have hs0 := hsl.below hB0
  have hF0 := FldAt.new w f.1 f.2
  go_enter Tryd.func27, Tryd.ntmps27
  go_wp2_with fail
  obtain ⟨W1, hW1⟩ : ∃ W1, w.alloc (.cells #[.string f.1, .string f.2] 46) = W1 := ⟨_, rfl⟩
  rw [hW1] at hB0 hT0 hs0 hF0 ⊢
  clear hW1
  refine wp_region_table 15 [4, 5, 6, 7, 8, 9, 10, 11, 12, 13, 14, 15, 16, 17, 18] [[], [], [(1, 5)], [], [(3, 7)], [(4, 8)], [(5, 9)], [(2, 6), (6, 10)], [], [(8, 12)], [(9, 13)], [(10, 14)], [(7, 11), (11, 15)], [(0, 4)], [(13, 17)]]
    (fun i u w' => match i with
      | 0 => u = .pointer (some ⟨T, 0, none⟩)
      | 1 => u = .agg #[.string f.1, .string f.2]
      | 2 => ∃ C, u = .slice (some ⟨C, 0, none⟩) 1 1 ∧ w'.ownsRow W1.heap.size 46 2 (.slice (some ⟨C, 0, none⟩) 1 1) 1 (fcs [f])
      | 3 => u = .pointer (some ⟨T, 0, none⟩)
      | 4 => u = .pointer (some ⟨T, 0, none⟩)
      | 5 => u = .pointer (some ⟨T, 0, none⟩)
      | 6 => u = .slice a fs.length c
      | 7 => SlD w' u (f :: fs)
      | 8 => u = .pointer (some ⟨T, 0, none⟩)
      | 9 => u = .pointer (some ⟨T, 0, none⟩)
      | 10 => u = .pointer (some ⟨T, 2, none⟩)
      | 11 => u = .int .i64 m
      | 12 => RowF w' W1.heap.size u (fitF m (f :: fs))
      | 13 => u = .pointer (some ⟨T, 0, none⟩)
      | 14 => u = .pointer (some ⟨T, 0, none⟩)
      | _ => True) (by kernel_rfl) (by kernel_rfl) ?tStab ?tOps ?tRest
  case tStab =>
    intro i u w3 w4 h hb
    match i, h with
    | 0, h | 1, h | 3, h | 4, h | 5, h | 6, h | 8, h | 9, h | 10, h | 11, h | 13, h | 14, h => exact h
    | 2, ⟨C, e, hh⟩ => exact ⟨C, e, owned_below hh hb⟩
    | 7, h => exact h.below hb
    | 12, h => exact h.below hb
    | i + 15, _ => trivial
  case tOps =>
    simp only [List.take_succ_cons, List.take_zero, opsOk]
    refine ⟨?_, ?_, ?_, ?_, ?_, ?_, ?_, ?_, ?_, ?_, ?_, ?_, ?_, ?_, ?_, trivial⟩
    · intro ρ w3 hc hff ho hB hj
      have x0 : ρ (.tmp 0) = .pointer (some ⟨T, 0, none⟩) := ho 0 (by decide)
      simp [gives, go_sem, x0, Below.refl]
    · intro ρ w3 hc hff ho hB hj
      have x0 : ρ (.tmp 3) = .pointer (some ⟨w.heap.size, 0, none⟩) := ho 3 (by decide)
      have cc := (hF0.grown hB).c0
      have cd := (hF0.grown hB).c1
      simp [gives, go_sem, x0, cc, cd, Below.refl]
    · intro ρ w3 hc hff ho hB hj
      have x0 : ρ (.tmp 5) = .agg #[.string f.1, .string f.2] := hj (1, 5) (by simp)
      simp [gives, go_sem, x0]
      exact ⟨RowF.lit _ f hB.size, (Below.refl _ _).alloc (Nat.le_refl _) _⟩
    · intro ρ w3 hc hff ho hB hj
      have x0 : ρ (.tmp 0) = .pointer (some ⟨T, 0, none⟩) := ho 0 (by decide)
      simp [gives, go_sem, x0, Below.refl]
    · intro ρ w3 hc hff ho hB hj
      have x0 : ρ (.tmp 7) = .pointer (some ⟨T, 0, none⟩) := hj (3, 7) (by simp)
      simp [gives, go_sem, x0, Below.refl]
    · intro ρ w3 hc hff ho hB hj
      have x0 : ρ (.tmp 8) = .pointer (some ⟨T, 0, none⟩) := hj (4, 8) (by simp)
      simp [gives, go_sem, x0, Below.refl]
    · intro ρ w3 hc hff ho hB hj
      have x0 : ρ (.tmp 9) = .pointer (some ⟨T, 0, none⟩) := hj (5, 9) (by simp)
      have cc := (hT0.below hB).c0
      simp [gives, go_sem, x0, cc, Below.refl]
    · intro ρ w3 hc hff ho hB hj
      obtain ⟨C, x0, hown⟩ := hj (2, 6) (by simp)
      have x1 : ρ (.tmp 10) = .slice a fs.length c := hj (6, 10) (by simp)
      dsimp only at x0
      have hs3 := hs0.below hB
      refine gives_fresh_row (.tmp 6) (.tmp 10) 33 rfl W1.heap.size 46 _ 2 32 sliceFld sizeFld rfl (by decide) C 1 (fcs [f]) x0 hown a fs.length c (fcs fs) x1 hs3.bare (fcs_length _) hs3.src (by unfold maxLen; omega) (by omega) hB.size ?_
      intro v' w4 ho4 hb4
      refine ⟨?_, hb4⟩
      have : RowF w4 W1.heap.size v' (f :: fs) := by
        unfold RowF
        rw [List.length_cons, Nat.add_comm, show fcs (f :: fs) = fcs [f] ++ fcs fs from by simp [fcs]]
        exact ho4
      exact this.toSl
    · intro ρ w3 hc hff ho hB hj
      have x0 : ρ (.tmp 0) = .pointer (some ⟨T, 0, none⟩) := ho 0 (by decide)
      simp [gives, go_sem, x0, Below.refl]
    · intro ρ w3 hc hff ho hB hj
      have x0 : ρ (.tmp 12) = .pointer (some ⟨T, 0, none⟩) := hj (8, 12) (by simp)
      simp [gives, go_sem, x0, Below.refl]
    · intro ρ w3 hc hff ho hB hj
      have x0 : ρ (.tmp 13) = .pointer (some ⟨T, 0, none⟩) := hj (9, 13) (by simp)
      simp [gives, go_sem, x0, Below.refl]
    · intro ρ w3 hc hff ho hB hj
      have x0 : ρ (.tmp 14) = .pointer (some ⟨T, 2, none⟩) := hj (10, 14) (by simp)
      have cc := (hT0.below hB).c2
      simp [gives, go_sem, x0, cc, Below.refl]
    · intro ρ w3 hc hff ho hB hj
      have hs3 : SlD w3 (ρ (.tmp 11)) (f :: fs) := hj (7, 11) (by simp)
      have x1 : ρ (.tmp 15) = .int .i64 m := hj (11, 15) (by simp)
      obtain ⟨v3, x0⟩ : ∃ v3, ρ (.tmp 11) = v3 := ⟨_, rfl⟩
      rw [x0] at hs3
      simp [gives, go_sem, x0, x1, hff]
      refine (refFit_any v3 (f :: fs) m w3 hs3 hz).mono ?_
      rintro e w4 ⟨v', rfl, hr', hb'⟩
      exact ⟨_, rfl, hr'.mono hB.size, hb'⟩
    · intro ρ w3 hc hff ho hB hj
      have x0 : ρ (.tmp 4) = .pointer (some ⟨T, 0, none⟩) := hj (0, 4) (by simp)
      simp [gives, go_sem, x0, Below.refl]
    · intro ρ w3 hc hff ho hB hj
      have x0 : ρ (.tmp 17) = .pointer (some ⟨T, 0, none⟩) := hj (13, 17) (by simp)
      simp [gives, go_sem, x0, Below.refl]
  case tRest =>
    intro x w3 hb3 hx
    have e14 : x 14 = .pointer (some ⟨T, 0, none⟩) := hx 14 (by decide)
    have hr3 : RowF w3 W1.heap.size (x 12) (fitF m (f :: fs)) := hx 12 (by decide)
    obtain ⟨u, hu⟩ : ∃ u, x 12 = u := ⟨_, rfl⟩
    rw [hu] at hr3
    obtain ⟨N2, hN2⟩ : ∃ N2, N2 = (fitF m (f :: fs)).length := ⟨_, rfl⟩
    obtain ⟨a2, k2, e2⟩ := hr3.shape
    rw [← hN2] at e2
    subst e2
    simp only [putAll, List.getD_cons_zero, List.getD_cons_succ, Act.put, List.setIfInBounds_toArray, List.set_cons_zero, List.set_cons_succ, List.drop_succ_cons, List.drop_zero]
    rw [e14, hu]
    clear hx hN2 e14 hu
    have hT3 := hT0.below hb3
    have q0 := hT3.c0
    have qf : w3.frozen? ⟨T, 0, none⟩ = false := hT3.free
    have HE := Lib.hid (TabR.laid h hbase hT0 (Mv.of hB0) hb3 hr3)
    clear hr3 hb3 hT3
    go_wp2_with fail
    go_end0
    exact ⟨rfl, _, HE.out⟩
end Go.Proofs.YtenapfpkegoonaaDoor

/-
  Layer 9: what a block is read as, item by item; what a list is told as. No function of the program is named here.
-/
namespace Go.Proofs.YtenapfpkegoonaaDoor
set_option maxRecDepth 20000
open Go.RowKit

/-- the field that an index names: the static ones, then a table's, the newest one first -/
def namedF (fs : List Fd) (i : Int) : Option Fd := if i ≤ 61 then (if 1 ≤ i then some (getN i, getV i) else none) else fs[(i - 62).toNat]?
def optT : Option Fd → Value
  | some f => .tuple #[.agg #[.string f.1, .string f.2], .int .i64 0]
  | none => .tuple #[.agg #[.string ⟨#[]⟩, .string ⟨#[]⟩], .int .i64 5]
theorem get_opt {i : Int} (fs : List Fd) (h : i ≤ 61) : getT i = optT (namedF fs i) := by
  unfold namedF getT getE
  rw [if_pos h]
  by_cases h1 : 1 ≤ i
  · rw [if_pos h1, if_pos ⟨h1, h⟩]; rfl
  · rw [if_neg h1, if_neg (fun x => h1 x.1), getN, getV, if_neg (fun x => h1 x.1), if_neg (fun x => h1 x.1)]; rfl
theorem getR_opt {i : Int} (fs : List Fd) (h : ¬ i ≤ 61) : getR fs (i - 61) = optT (namedF fs i) := by
  unfold namedF getR
  rw [if_neg h]
  by_cases h1 : i - 61 ≤ fs.length
  · rw [if_pos ⟨by omega, h1⟩, show (i - 61).toNat - 1 = (i - 62).toNat by omega]
    have hl : (i - 62).toNat < fs.length := by omega
    rw [List.getElem?_eq_getElem hl, List.getD_eq_getElem?_getD, List.getElem?_eq_getElem hl]; rfl
  · rw [if_neg (fun x => h1 x.2), List.getElem?_eq_none (by omega)]; rfl
theorem getO_opt {i : Int} (fs : List Fd) (h : ¬ i ≤ 61) : getO fs.reverse (i - 61) = optT (namedF fs i) := by
  rw [← getR_opt fs h, ← getR_reverse, List.reverse_reverse]

/-- an item's field -/
def fieldF (fs : List Fd) (d : DecO) : Option Fd :=
  if d.k ≠ 0 ∧ d.n = 0 then some (strOfNums d.a, strOfNums d.b)
  else (namedF fs d.n).map fun g => (g.1, if d.k = 0 then g.2 else strOfNums d.b)

/-- how far the reading has come: sizes, the table's most, its fields (the newest one first), the list -/
structure Rs where
  s : Nat
  most : Int
  fs : List Fd
  out : List Fd
def stepI (b : Int) (r : Rs) (d : DecO) : Option Rs :=
  if d.k = 4 then
    if r.out = [] ∧ r.s < 2 ∧ 0 ≤ d.n ∧ d.n ≤ b then some ⟨r.s + 1, d.n, fitF d.n r.fs, r.out⟩ else none
  else (fieldF r.fs d).map fun f => ⟨r.s, r.most, if d.k = 1 then fitF r.most (f :: r.fs) else r.fs, r.out ++ [f]⟩
/-- all of them: false, where it ends with an error -/
def foldI (b : Int) : Rs → List DecO → Rs × Bool
  | r, [] => (r, true)
  | r, d :: l => if d.e ≠ 0 then (r, false) else match stepI b r d with
    | none => (r, false)
    | some r' => foldI b r' l
/-- the items that bytes are, up to the first one that has an error -/
def itemsI : Nat → List Int → List DecO
  | 0, _ => []
  | n + 1, zs => if zs.length = 0 then [] else if (decI 65536 zs).e ≠ 0 then [decI 65536 zs] else decI 65536 zs :: itemsI n (zs.drop (decI 65536 zs).at_.toNat)
def itemsOf (zs : List Int) : List DecO := itemsI zs.length zs
def readB (b most : Int) (fs : List Fd) (zs : List Int) : Rs × Bool := foldI b ⟨0, most, fs, []⟩ (itemsOf zs)
/-- what is told -/
def tellL (limit : Int) (out : List Fd) : List Fd := if (sumF out : Int) ≤ limit then out else []
def tellB (limit : Int) (x : Rs × Bool) : List Fd := if x.2 then tellL limit x.1.out else []
def tellC (limit : Int) (x : Rs × Bool) : Bool := x.2 && decide (limit < sumF x.1.out)
def tellE (x : Rs × Bool) : Int := if x.2 then 0 else 3

theorem foldI_append (b : Int) : ∀ (l m : List DecO) (r : Rs), foldI b r (l ++ m) = if (foldI b r l).2 then foldI b (foldI b r l).1 m else foldI b r l
  | [], m, r => rfl
  | d :: l, m, r => by
    rw [List.cons_append, foldI, foldI]
    by_cases he : d.e ≠ 0
    · rw [if_pos he, if_pos he]; rfl
    · rw [if_neg he, if_neg he]
      cases stepI b r d with
      | none => rfl
      | some r' => exact foldI_append b l m r'
theorem foldI_one {b : Int} {r r0 : Rs} {l : List DecO} {d : DecO} (h : foldI b r0 l = (r, true)) : foldI b r0 (l ++ [d]) = if d.e ≠ 0 then (r, false) else match stepI b r d with
    | none => (r, false)
    | some r' => (r', true) := by
  rw [foldI_append, h]
  show foldI b r [d] = _
  rw [foldI]
  by_cases he : d.e ≠ 0
  · rw [if_pos he, if_pos he]
  · rw [if_neg he, if_neg he]
    cases stepI b r d <;> rfl
theorem foldI_over {b : Int} {r r0 : Rs} {l m : List DecO} (h : foldI b r0 l = (r, false)) : foldI b r0 (l ++ m) = (r, false) := by
  rw [foldI_append, h]; rfl

/-- how many bytes an item has -/
theorem decI_used {most : Int} {zs : List Int} (hf : Fit .u8 zs) (h : (decI most zs).e = 0) : 1 ≤ (decI most zs).at_ ∧ (decI most zs).at_ ≤ zs.length := by
  have hz : 0 < zs.length := by
    rcases zs with _ | ⟨x, r⟩
    · rw [decI_nil] at h; cases h
    · simp
  obtain ⟨k', hk⟩ : ∃ k, kindI (at0 zs 0) = k := ⟨_, rfl⟩
  have hkb : 0 ≤ k' ∧ k' < 5 := by rw [← hk]; exact kindI_bound _
  obtain ⟨m, p, e, hd⟩ : ∃ n p e, decP (fullP (bitsI k')) zs = (n, p, e) := ⟨_, _, _, rfl⟩
  by_cases he : e = 0
  · subst he
    have hB := bitsI_bound k'
    obtain ⟨n0, n1, p0, p1⟩ := decP_okm (by omega) hf hd
    by_cases hl : m < leastI k'
    · rw [decI_less hz hk hd hl] at h; cases h
    · rw [decI_rd hf hz hk hd hl (by omega)] at h ⊢
      obtain ⟨a, q, e, hr⟩ : ∃ a q e, rd (min most 65536) (zs.drop p.toNat) (offsI k' m).length 0 = (a, q, e) := ⟨_, _, _, rfl⟩
      rw [hr] at h ⊢
      by_cases he : e = 0
      · subst he
        have hu := rd_used (hf.drop _) (by omega) (by simp) hr
        rw [List.length_drop] at hu
        rw [if_neg (by simp)]
        show 1 ≤ p + q ∧ p + q ≤ _
        omega
      · rw [if_pos he] at h
        exact absurd h he
  · rw [decI_err hz hk hd he] at h
    exact absurd h he
theorem size_str (xs : List Int) : (strOfNums xs).size = xs.length := by simp [strOfNums, ByteArray.size]
/-- what an item without an error may be -/
structure DOk (d : DecO) : Prop where
  k0 : 0 ≤ d.k
  k4 : d.k < 5
  n0 : 0 ≤ d.n
  n1 : d.n ≤ 16777215
  least : d.k = 0 → 1 ≤ d.n
  a : (strOfNums d.a).size ≤ 65536
  b : (strOfNums d.b).size ≤ 65536
theorem dOk {zs : List Int} (hf : Fit .u8 zs) (h : (decI 65536 zs).e = 0) : DOk (decI 65536 zs) := by
  obtain ⟨hr, ha, hb, _, _⟩ := decI_ok hf (most := 65536) (k := (decI 65536 zs).k) (n := (decI 65536 zs).n) (u := (decI 65536 zs).at_) (a := (decI 65536 zs).a) (b := (decI 65536 zs).b) (by omega) (by
    conv => rhs; rw [← h])
  refine ⟨hr.1.1, hr.1.2, hr.num.1, hr.num.2, fun hk => ?_, by rw [size_str]; omega, by rw [size_str]; omega⟩
  have := hr.2.1
  rw [hk] at this
  exact this
theorem itemsI_ok : ∀ (n : Nat) (zs : List Int), Fit .u8 zs → (∀ d ∈ itemsI n zs, d.e = 0 → DOk d)
  | 0, zs, hf => fun d hd => by simp [itemsI] at hd
  | n + 1, zs, hf => fun d hd h => by
    rw [itemsI] at hd
    split at hd
    · simp at hd
    · split at hd
      · simp only [List.mem_cons, List.not_mem_nil, or_false] at hd
        subst hd
        exact dOk hf h
      · rcases List.mem_cons.1 hd with rfl | hd
        · exact dOk hf h
        · exact itemsI_ok n _ (hf.drop _) d hd h
theorem itemsI_length : ∀ (n : Nat) (zs : List Int), (itemsI n zs).length ≤ n
  | 0, zs => by simp [itemsI]
  | n + 1, zs => by
    rw [itemsI]
    split
    · simp
    · split
      · simp
      · have := itemsI_length n (zs.drop (decI 65536 zs).at_.toNat)
        simp only [List.length_cons]
        omega
theorem itemsI_nil (n : Nat) : itemsI n [] = [] := by cases n <;> rfl
theorem itemsI_next {n : Nat} {zs : List Int} (hz : zs.length ≤ n) (h0 : 0 < zs.length) : ∃ m, n = m + 1 ∧ itemsI n zs = if (decI 65536 zs).e ≠ 0 then [decI 65536 zs] else decI 65536 zs :: itemsI m (zs.drop (decI 65536 zs).at_.toNat) := by
  cases n with
  | zero => omega
  | succ m => exact ⟨m, rfl, by rw [itemsI, if_neg (by omega)]⟩
/-- the fuel doesn't matter, if there is enough -/
theorem itemsI_fuel : ∀ (n m : Nat) (zs : List Int), Fit .u8 zs → zs.length ≤ n → zs.length ≤ m → itemsI n zs = itemsI m zs
  | n, m, zs, hf, hn, hm => by
    by_cases h0 : zs.length = 0
    · rw [List.length_eq_zero_iff.1 h0, itemsI_nil, itemsI_nil]
    · obtain ⟨n', rfl, en⟩ := itemsI_next hn (by omega)
      obtain ⟨m', rfl, em⟩ := itemsI_next hm (by omega)
      rw [en, em]
      by_cases he : (decI 65536 zs).e = 0
      · rw [if_neg (by simp [he]), if_neg (by simp [he])]
        have hu := decI_used hf he
        have hl : (zs.drop (decI 65536 zs).at_.toNat).length ≤ n' := by rw [List.length_drop]; omega
        have hl2 : (zs.drop (decI 65536 zs).at_.toNat).length ≤ m' := by rw [List.length_drop]; omega
        rw [itemsI_fuel n' m' _ (hf.drop _) hl hl2]
      · rw [if_pos he, if_pos he]
theorem items_more {zs : List Int} (hf : Fit .u8 zs) (h0 : 0 < zs.length) : itemsOf zs = if (decI 65536 zs).e ≠ 0 then [decI 65536 zs] else decI 65536 zs :: itemsOf (zs.drop (decI 65536 zs).at_.toNat) := by
  obtain ⟨m, hm, e⟩ := itemsI_next (Nat.le_refl zs.length) h0
  rw [itemsOf, e]
  by_cases he : (decI 65536 zs).e = 0
  · rw [if_neg (by simp [he]), if_neg (by simp [he]), itemsOf]
    have hu := decI_used hf he
    rw [itemsI_fuel m _ _ (hf.drop _) (by rw [List.length_drop]; omega) (Nat.le_refl _)]
  · rw [if_pos he, if_pos he]
theorem items_nil : itemsOf [] = [] := rfl
theorem items_ok {zs : List Int} (hf : Fit .u8 zs) : ∀ d ∈ itemsOf zs, d.e = 0 → DOk d := itemsI_ok _ _ hf
theorem items_length (zs : List Int) : (itemsOf zs).length ≤ zs.length := itemsI_length _ _

/-- a table, and a list, that may be -/
structure Rs.Ok (b : Int) (r : Rs) : Prop where
  s2 : r.s ≤ 2
  m0 : 0 ≤ r.most
  mb : r.most ≤ b
  sum : (sumF r.fs : Int) ≤ r.most
  out : ∀ f ∈ r.out, szF f ≤ 131104
theorem mem_sum {f : Fd} : ∀ {l : List Fd}, f ∈ l → szF f ≤ sumF l
  | [], h => by simp at h
  | x :: r, h => by
    rcases List.mem_cons.1 h with rfl | h
    · simp only [sumF]; omega
    · have := mem_sum h
      simp only [sumF]; omega
theorem stat_small : (List.range 61).all (fun i => decide (szF (fNm i, fVl i) ≤ 200)) = true := by decide +kernel
theorem getF_small (i : Int) : szF (getN i, getV i) ≤ 200 := by
  unfold getN getV
  by_cases h : 1 ≤ i ∧ i ≤ 61
  · rw [if_pos h, if_pos h]
    have := List.all_eq_true.1 stat_small (i - 1).toNat (List.mem_range.2 (by omega))
    simpa using this
  · rw [if_neg h, if_neg h]; decide
theorem named_small {fs : List Fd} {i : Int} {f : Fd} (h : namedF fs i = some f) (hs : (sumF fs : Int) ≤ 4096) : szF f ≤ 4096 := by
  unfold namedF at h
  split at h
  · split at h
    · cases h; have := getF_small i; omega
    · cases h
  · have := mem_sum (List.mem_of_getElem? h)
    omega
theorem field_small {fs : List Fd} {d : DecO} {f : Fd} (h : fieldF fs d = some f) (hd : DOk d) (hs : (sumF fs : Int) ≤ 4096) : szF f ≤ 131104 := by
  have ha := hd.a
  have hb := hd.b
  unfold fieldF at h
  split at h
  · cases h; unfold szF; dsimp only; omega
  · cases hn : namedF fs d.n with
    | none => rw [hn] at h; cases h
    | some g =>
      rw [hn] at h
      have hg := named_small hn hs
      simp only [Option.map_some, Option.some.injEq] at h
      subst h
      unfold szF at hg ⊢
      dsimp only at hg ⊢
      split <;> omega
theorem step_ok {b : Int} {r r' : Rs} {d : DecO} (h : stepI b r d = some r') (hr : r.Ok b) (hb : b ≤ 4096) (hd : DOk d) : r'.Ok b := by
  have h0 := hr.m0
  have h1 := hr.mb
  have h2 := hr.sum
  unfold stepI at h
  split at h
  · split at h
    · rename_i h3
      simp only [Option.some.injEq] at h
      subst h
      exact ⟨h3.2.1, h3.2.2.1, h3.2.2.2, fitF_sum _ _ h3.2.2.1, hr.out⟩
    · cases h
  · cases hf : fieldF r.fs d with
    | none => rw [hf] at h; cases h
    | some f =>
      rw [hf] at h
      simp only [Option.map_some, Option.some.injEq] at h
      subst h
      refine ⟨hr.s2, h0, h1, ?_, fun g hg => ?_⟩
      · dsimp only
        split
        · exact fitF_sum _ _ h0
        · exact h2
      · rcases List.mem_append.1 hg with hg | hg
        · exact hr.out g hg
        · rw [List.mem_singleton] at hg
          subst hg
          exact field_small hf hd (by omega)
theorem step_len {b : Int} {r r' : Rs} {d : DecO} (h : stepI b r d = some r') : r'.out.length ≤ r.out.length + 1 := by
  unfold stepI at h
  split at h
  · split at h
    · simp only [Option.some.injEq] at h; subst h; simp
    · cases h
  · cases hf : fieldF r.fs d with
    | none => rw [hf] at h; cases h
    | some f => rw [hf] at h; simp only [Option.map_some, Option.some.injEq] at h; subst h; simp
theorem fold_ok {b : Int} (hb : b ≤ 4096) : ∀ (l : List DecO) (r : Rs), r.Ok b → (∀ d ∈ l, d.e = 0 → DOk d) → (foldI b r l).1.Ok b ∧ (foldI b r l).1.out.length ≤ r.out.length + l.length
  | [], r, hr, _ => ⟨hr, Nat.le_refl _⟩
  | d :: l, r, hr, hl => by
    rw [foldI]
    by_cases he : d.e = 0
    · rw [if_neg (by simp [he])]
      cases hs : stepI b r d with
      | none => exact ⟨hr, by simp only [List.length_cons]; omega⟩
      | some r' =>
        have h1 := fold_ok hb l r' (step_ok hs hr hb (hl d List.mem_cons_self he)) (fun x hx => hl x (List.mem_cons_of_mem _ hx))
        have h2 := step_len hs
        refine ⟨h1.1, ?_⟩
        have := h1.2
        simp only [List.length_cons]
        show (foldI b r' l).1.out.length ≤ _
        omega
    · rw [if_pos he]
      exact ⟨hr, by simp only [List.length_cons]; omega⟩
theorem out_sum {l : List Fd} (h : ∀ f ∈ l, szF f ≤ 131104) : sumF l ≤ 131104 * l.length := by
  induction l with
  | nil => simp [sumF]
  | cons f r ih =>
    have h1 := h f List.mem_cons_self
    have h2 := ih (fun x hx => h x (List.mem_cons_of_mem _ hx))
    simp only [sumF, List.length_cons]
    omega
end Go.Proofs.YtenapfpkegoonaaDoor

/-
  Layer 7: Add.
-/
namespace Go.Proofs.YtenapfpkegoonaaDoor
set_option maxRecDepth 20000
open Go.RowKit

/-- 'append(s, x...)' as one operation of a region, with a word on where the row lies -/
theorem gives_app_at {P : Program} {o : Oper} {ρ : Operand → Value} {w : World} {R : Value → World → Prop} (s x : Operand) (t : TypeId) (ho : o.op = .call { callee := .builtin .append, args := #[s, x], argTypes := #[t, t] }) (base : Nat) (e : TypeId)
    (z : Value) (size bytes : Nat) (ht : P.underlying t = some (.slice e)) (hi : (P.info? e).map (fun i => (i.zero, i.size, i.bytes)) = some (some z, size, bytes)) (hzs : z.cells.size = size) (hsz : 0 < size) (v : Value) (n : Nat) (xs : List Value) (hs : ρ s = v)
    (hown : w.ownsRow base e size v n xs) (ad : Addr) (m c : Nat) (news : List Value) (hx : ρ x = .slice (some ad) m c) (hl : news.length = m * size)
    (hnews : ∀ (j : Nat) (u : Value), news[j]? = some u → w.cell? (ad.add j) = some u) (h1 : ∀ u, u ∈ news → u.oneCell' = true) (h63 : n + m ≤ maxLen) (hbytes : (n + m) * bytes ≤ 140737488355328) (hbase : base ≤ w.heap.size)
    (h : ∀ (v' : Value) (w' : World), w'.ownsRow base e size v' (n + m) (xs ++ news) → w.grownBy w' v.ownBlock → From w v v' → R v' w') : gives P o ρ w R := by
  obtain ⟨i0, hi0, hz0, hz1, hz2⟩ := info_parts hi
  obtain ⟨v', w', hr, h2, h3, _, h5⟩ := run_append_own_at (P := P) w base t o.type e i0 z size bytes ht hi0 hz0 hz1 hz2 hzs hsz v n xs hown ad m c news hl hnews h1 h63 hbytes hbase
  unfold gives execOp
  simp only [ho, resolve, invoke, builtin, Sem.run_bind, Sem.run_pure, Result.andThen_ok, List.map_toArray, List.map_cons, List.map_nil, hs, hx, hr]
  refine h v' w' h2 h3 (fun g hg => ?_)
  rcases h5 with h5 | h5
  · exact .inl (h5 ▸ hg)
  · rw [h5] at hg
    exact .inr (by cases hg; exact Nat.le_refl _)
set_option maxHeartbeats 2000000 in
theorem tadd_any (T base : Nat) (b m : Int) (v : Value) (fs : List Fd) (f : Fd) (w : World) (h : TabO w base T b m v fs) (hf : small f) (hm : 0 ≤ m ∧ m ≤ 1000000000) (hz : sumF fs ≤ 1000000000) (hbase : base ≤ w.heap.size) :
    Calls Tryd.prog 43 #[.pointer (some ⟨T, 0, none⟩), .agg #[.string f.1, .string f.2]] w fun e w' => e = .returned (.int .i64 0) ∧ ∃ v', TabO w' base T b m v' (addF m fs f) ∧ From w v v' ∧ Mv T v w w' := by
  have hs0 := hf.sz
  have hT0 := h.2.1.lt
  have hv0 := h.2.2.lt
  obtain ⟨S, hS⟩ : ∃ S : Nat, S = szF f := ⟨_, rfl⟩
  have hsa := size_any f hf
  rw [← hS] at hs0 hsa
  have HSZ := Lib.hid hS
  have HS := Lib.hid hsa
  clear hS hsa
  go_enter Tryd.func43, Tryd.ntmps43
  go_wp2_with fail
  refine (HS.out _).mono ?_
  rintro e w1 ⟨rfl, hb1⟩
  have hF1 : FldAt w1 w.heap.size f.1 f.2 := (FldAt.new w f.1 f.2).grown hb1
  have hB1 : Below w.heap.size w w1 := ((Below.refl _ _).alloc (Nat.le_refl _) _).trans (hb1.mono (by simp))
  have hN1 : w.heap.size < w1.heap.size := hF1.lt
  clear hb1
  have hT1 := h.below hB1
  have c1 := hT1.2.1.c1
  have hw1 : IntKind.i64.wrap (m - (S : Nat)) = m - (S : Nat) := IntWalk.i64_in _ (by omega)
  have HB1 := Lib.hid hB1
  have HF1 := Lib.hid hF1
  clear hB1 hF1
  go_wp2_with fail
  refine (shrink_any T base b m (m - (S : Nat)) v fs w1 hT1 hz).mono ?_
  rintro e w2 ⟨rfl, v1, hT2, hfr2, hm2⟩
  have hsum := shrinkF_sum (m - (S : Nat)) fs
  have hlen := sumF_len (shrinkF (m - (S : Nat)) fs)
  obtain ⟨fs1, hfs1⟩ : ∃ fs1, fs1 = shrinkF (m - (S : Nat)) fs := ⟨_, rfl⟩
  rw [← hfs1] at hT2 hsum hlen
  have HFS := Lib.hid hfs1
  have c1 := hT2.2.1.c1
  have hm02 : Mv T v w w2 := (Mv.of HB1.out).trans hm2 (fun g hg => .inl hg)
  have hfr02 : From w v v1 := fun g hg => (hfr2 g hg).imp_right (fun h => by have := HB1.out.size; omega)
  by_cases hbig : m < (S : Int)
  · have HB := Lib.hid hbig
    have d : decide (m < (S : Int)) = true := decide_eq_true hbig
    have HR := Lib.hid (And.intro hT2 (And.intro hfr02 hm02))
    clear hbig hT2 hfr02 hm02 hfr2 hm2 hfs1 hT1
    go_wp2_with fail
    go_ret
    obtain ⟨hT', hf', hm'⟩ := HR.out
    refine ⟨rfl, v1, ?_, hf', hm'⟩
    have e : fs1 = [] := by
      rw [HFS.out]; exact shrinkF_neg (by have := HB.out; omega) _
    rw [addF, ← HSZ.out, if_pos HB.out, ← e]
    exact hT'
  · have d : decide (m < (S : Int)) = false := decide_eq_false hbig
    have HA := Lib.hid (show addF m fs f = fs1 ++ [f] by rw [addF, ← HSZ.out, if_neg hbig, HFS.out])
    have hF2 : FldAt w2 w.heap.size f.1 f.2 := (hm2.block _ hN1 (by omega) (fun e => by have := (hv0 _ e).2; omega)).trans HF1.out
    have hv1 := hT2.2.2.lt
    have hm1000 : sumF fs1 ≤ 1000000000 := by omega
    have hNv1 : ∀ g, v1.ownBlock = some g → g < w2.heap.size := fun g hg => (hv1 g hg).2
    have hN2 := hF2.lt
    have hTlt2 := hT2.2.1.lt
    have HR := Lib.hid (And.intro hT2 (And.intro hfr02 hm02))
    clear hbig hfr02 hm02 hfr2 hm2 hfs1 hT1
    go_wp2_with fail
    refine wp_region_table 8 [25, 26, 27, 28, 29, 30, 31, 6] [[], [(0, 25)], [(1, 26)], [], [(3, 28)], [(4, 29)], [(2, 27), (5, 30)], []]
      (fun i u w' => match i with
        | 0 => u = .pointer (some ⟨w.heap.size, 0, none⟩)
        | 1 => u = .string f.1
        | 2 => u = .string f.1
        | 3 => u = .pointer (some ⟨w.heap.size, 1, none⟩)
        | 4 => u = .string f.2
        | 5 => u = .string f.2
        | 6 => u = .agg #[.string f.1, .string f.2]
        | 7 => ∃ B, u = .pointer (some ⟨B, 0, none⟩) ∧ w2.heap.size ≤ B ∧ FldAt w' B ⟨#[]⟩ ⟨#[]⟩
        | _ => True) (by kernel_rfl) (by kernel_rfl) ?tStab ?tOps ?tRest
    case tStab =>
      intro i u w3 w4 h hb
      match i, h with
      | 0, h | 1, h | 2, h | 3, h | 4, h | 5, h | 6, h => exact h
      | 7, ⟨B, e, hle, hh⟩ => exact ⟨B, e, hle, hh.grown hb⟩
      | i + 8, _ => trivial
    case tOps =>
      simp only [List.take_succ_cons, List.take_zero, opsOk]
      refine ⟨?_, ?_, ?_, ?_, ?_, ?_, ?_, ?_, trivial⟩
      · intro ρ w3 hc hff ho hB hj
        have x0 : ρ (.tmp 3) = .pointer (some ⟨w.heap.size, 0, none⟩) := ho 3 (by decide)
        simp [gives, go_sem, x0, Below.refl]
      · intro ρ w3 hc hff ho hB hj
        have x0 : ρ (.tmp 25) = .pointer (some ⟨w.heap.size, 0, none⟩) := hj (0, 25) (by simp)
        have cc := (hF2.grown hB).c0
        simp [gives, go_sem, x0, cc, Below.refl]
      · intro ρ w3 hc hff ho hB hj
        have x0 : ρ (.tmp 26) = .string f.1 := hj (1, 26) (by simp)
        simp [gives, go_sem, x0, hff]
        refine (strClone_any _ _ hf.1).mono ?_
        rintro e w4 ⟨rfl, hb⟩
        exact ⟨_, rfl, rfl, hb⟩
      · intro ρ w3 hc hff ho hB hj
        have x0 : ρ (.tmp 3) = .pointer (some ⟨w.heap.size, 0, none⟩) := ho 3 (by decide)
        simp [gives, go_sem, x0, Below.refl]
      · intro ρ w3 hc hff ho hB hj
        have x0 : ρ (.tmp 28) = .pointer (some ⟨w.heap.size, 1, none⟩) := hj (3, 28) (by simp)
        have cc := (hF2.grown hB).c1
        simp [gives, go_sem, x0, cc, Below.refl]
      · intro ρ w3 hc hff ho hB hj
        have x0 : ρ (.tmp 29) = .string f.2 := hj (4, 29) (by simp)
        simp [gives, go_sem, x0, hff]
        refine (strClone_any _ _ hf.2).mono ?_
        rintro e w4 ⟨rfl, hb⟩
        exact ⟨_, rfl, rfl, hb⟩
      · intro ρ w3 hc hff ho hB hj
        have x0 : ρ (.tmp 27) = .string f.1 := hj (2, 27) (by simp)
        have x1 : ρ (.tmp 30) = .string f.2 := hj (5, 30) (by simp)
        simp [gives, go_sem, x0, x1, Below.refl]
      · intro ρ w3 hc hff ho hB hj
        simp [gives, go_sem]
        exact ⟨⟨hB.size, FldAt.new w3 _ _⟩, (Below.refl _ _).alloc (Nat.le_refl _) _⟩
    case tRest =>
      intro x w3 hb3 hx
      have e0 : x 0 = .pointer (some ⟨w.heap.size, 0, none⟩) := hx 0 (by decide)
      have e1 : x 1 = .string f.1 := hx 1 (by decide)
      have e2 : x 2 = .string f.1 := hx 2 (by decide)
      have e3 : x 3 = .pointer (some ⟨w.heap.size, 1, none⟩) := hx 3 (by decide)
      have e4 : x 4 = .string f.2 := hx 4 (by decide)
      have e5 : x 5 = .string f.2 := hx 5 (by decide)
      have e6 : x 6 = .agg #[.string f.1, .string f.2] := hx 6 (by decide)
      obtain ⟨B, e7, hBle, hFB⟩ := hx 7 (by decide)
      simp only [putAll, List.getD_cons_zero, List.getD_cons_succ, Act.put, List.setIfInBounds_toArray, List.set_cons_zero, List.set_cons_succ, List.drop_succ_cons, List.drop_zero]
      rw [e0, e1, e2, e3, e4, e5, e6, e7]
      clear hx e0 e1 e2 e3 e4 e5 e6 e7
      have HFB := Lib.hid (And.intro hFB hb3)
      clear hFB hb3
      refine store_fld rfl (.tmp 6) (.tmp 31) rfl B f.1 f.2 _ _ rfl rfl HFB.out.1 ?_
      obtain ⟨w4, hw4⟩ : ∃ w4, w4 = w3.setRow B #[.string f.1, .string f.2] := ⟨_, rfl⟩
      rw [← hw4]
      have hF4 : FldAt w4 B f.1 f.2 := by rw [hw4]; exact setRow_heap _ _ _ _ _ _ HFB.out.1
      have hb4 : Below w2.heap.size w2 w4 := by rw [hw4]; exact below_setRow HFB.out.2 hBle _
      clear hw4
      have hT4 := hT2.below hb4
      have hap := hT4.sep
      have hr4 := hT4.2.2
      have hBn : v1.ownBlock ≠ some B := fun e => by have := hNv1 B e; omega
      have hBlt := hF4.lt
      have hTlt := hT4.2.1.lt
      have hN4 : ∀ g, v1.ownBlock = some g → g < w4.heap.size := fun g hg => by have := hNv1 g hg; have := hb4.size; omega
      have HB4 := Lib.hid hb4
      clear HFB hb4 hF2 HF1 HS
      go_wp2_with fail
      refine Moved.wp_region 10 [32, 33, 34, 35, 36, 37, 38, 39, 40, 41] [[], [], [(1, 33)], [(2, 34)], [(3, 35)], [], [(5, 37)], [(4, 36), (6, 38)], [(0, 32)], [(8, 40)]] []
        (fun i u w' => match i with
          | 0 => u = .pointer (some ⟨T, 0, none⟩)
          | 1 => u = .pointer (some ⟨T, 0, none⟩)
          | 2 => u = .pointer (some ⟨T, 0, none⟩)
          | 3 => u = .pointer (some ⟨T, 2, none⟩)
          | 4 => u = v1
          | 5 => u = .agg #[.string f.1, .string f.2]
          | 6 => ∃ C, u = .slice (some ⟨C, 0, none⟩) 1 1 ∧ w4.heap.size ≤ C ∧ FldAt w' C f.1 f.2
          | 7 => RowF w' base u (fs1 ++ [f]) ∧ From w4 v1 u
          | 8 => u = .pointer (some ⟨T, 0, none⟩)
          | 9 => u = .pointer (some ⟨T, 2, none⟩)
          | _ => True) 7 (fun w' => w4.grownBy w' v1.ownBlock) (fun w' w'' => w'.grownBy w'' v1.ownBlock) (by kernel_rfl) (by kernel_rfl) ?tWay ?tOps ?tLate ?tRest
      case tWay =>
        refine ⟨fun w1 h => grown_of h, fun w1 w2 h hb => h.trans (grown_of hb), fun w1 w2 h hb => (grown_of h).trans hb, ?_, ?_⟩
        · intro i u w5 w6 h hb
          match i, h with
          | 0, h | 1, h | 2, h | 3, h | 4, h | 5, h | 8, h | 9, h => exact h
          | 6, ⟨C, e, hle, hh⟩ => exact ⟨C, e, hle, hh.grown hb⟩
          | 7, h => exact ⟨h.1.below hb, h.2⟩
          | i + 10, _ => trivial
        · intro i u w5 w6 hi h hb hg
          match i, h, hi with
          | 0, h, _ | 1, h, _ | 2, h, _ | 3, h, _ | 4, h, _ | 5, h, _ | 8, h, _ | 9, h, _ => exact h
          | 6, ⟨C, e, hle, hh⟩, _ => exact ⟨C, e, hle, (hg.block C hh.lt (fun e => by have := hN4 C e.symm; omega)).trans hh⟩
          | 7, _, hi => exact absurd rfl hi
          | i + 10, _, _ => trivial
      case tLate => intro i hi; cases hi
      case tOps =>
        simp only [List.take_succ_cons, List.take_zero, Moved.opsOk, Nat.zero_add, Nat.reduceAdd, Nat.reduceEqDiff, reduceCtorEq, reduceIte]
        refine ⟨?_, ?_, ?_, ?_, ?_, ?_, ?_, ?_, ?_, ?_, trivial⟩
        · intro ρ w5 hc hff ho hB2 hj
          have x0 : ρ (.tmp 0) = .pointer (some ⟨T, 0, none⟩) := ho 0 (by decide)
          simp [gives, go_sem, x0, Moved.Grow, Below.refl]
        · intro ρ w5 hc hff ho hB2 hj
          have x0 : ρ (.tmp 0) = .pointer (some ⟨T, 0, none⟩) := ho 0 (by decide)
          simp [gives, go_sem, x0, Moved.Grow, Below.refl]
        · intro ρ w5 hc hff ho hB2 hj
          have x0 : ρ (.tmp 33) = .pointer (some ⟨T, 0, none⟩) := hj (1, 33) (by simp)
          simp [gives, go_sem, x0, Moved.Grow, Below.refl]
        · intro ρ w5 hc hff ho hB2 hj
          have x0 : ρ (.tmp 34) = .pointer (some ⟨T, 0, none⟩) := hj (2, 34) (by simp)
          simp [gives, go_sem, x0, Moved.Grow, Below.refl]
        · intro ρ w5 hc hff ho hB2 hj
          have x0 : ρ (.tmp 35) = .pointer (some ⟨T, 2, none⟩) := hj (3, 35) (by simp)
          have cc := (hT4.2.1.of_block (hB2.block _ hTlt (fun e => hap e.symm))).c2
          simp [gives, go_sem, x0, cc, Moved.Grow, Below.refl]
        · intro ρ w5 hc hff ho hB2 hj
          have x0 : ρ (.tmp 6) = .pointer (some ⟨B, 0, none⟩) := ho 6 (by decide)
          have hF5 : FldAt w5 B f.1 f.2 := (hB2.block _ hBlt (fun e => hBn e.symm)).trans hF4
          have cc := hF5.c0
          have cd := hF5.c1
          simp [gives, go_sem, x0, cc, cd, Moved.Grow, Below.refl]
        · intro ρ w5 hc hff ho hB2 hj
          have x0 : ρ (.tmp 37) = .agg #[.string f.1, .string f.2] := hj (5, 37) (by simp)
          simp [gives, go_sem, x0, Moved.Grow]
          exact ⟨⟨hB2.size, FldAt.new w5 _ _⟩, (Below.refl _ _).alloc (Nat.le_refl _) _⟩
        · intro ρ w5 hc hff ho hB2 hj
          have x0 : ρ (.tmp 36) = v1 := hj (4, 36) (by simp)
          obtain ⟨C, x1, hCle, hFC⟩ := hj (6, 38) (by simp)
          dsimp only at x1
          refine gives_app_at (.tmp 36) (.tmp 38) 33 rfl base 46 _ 2 32 sliceFld sizeFld rfl (by decide) v1 fs1.length (fcs fs1) x0 (hr4.below hB2) ⟨C, 0, none⟩ 1 1 (fcs [f]) x1 (fcs_length _) (fcs_one_at w5 C f hFC) (fcs_oneCell _) (by unfold maxLen; omega) (by omega) (by have := hB2.size; have := HB4.out.size; have := HR.out.2.2.size; omega) ?_
          intro v' w6 hown hg hfr
          refine ⟨⟨?_, fun g hg => (hfr g hg).imp_right (fun h => by have := hB2.size; omega)⟩, hg⟩
          unfold RowF
          rw [List.length_append, List.length_singleton, fcs_append]
          exact hown
        · intro ρ w5 hc hff ho hB2 hj
          have x0 : ρ (.tmp 32) = .pointer (some ⟨T, 0, none⟩) := hj (0, 32) (by simp)
          simp [gives, go_sem, x0, Moved.Grow, Below.refl]
        · intro ρ w5 hc hff ho hB2 hj
          have x0 : ρ (.tmp 40) = .pointer (some ⟨T, 0, none⟩) := hj (8, 40) (by simp)
          simp [gives, go_sem, x0, Moved.Grow, Below.refl]
      case tRest =>
        intro x5 w5 hG hx5
        have y0 : x5 0 = .pointer (some ⟨T, 0, none⟩) := hx5 0 (by decide)
        have y1 : x5 1 = .pointer (some ⟨T, 0, none⟩) := hx5 1 (by decide)
        have y2 : x5 2 = .pointer (some ⟨T, 0, none⟩) := hx5 2 (by decide)
        have y3 : x5 3 = .pointer (some ⟨T, 2, none⟩) := hx5 3 (by decide)
        have y4 : x5 4 = v1 := hx5 4 (by decide)
        have y5 : x5 5 = .agg #[.string f.1, .string f.2] := hx5 5 (by decide)
        obtain ⟨C, y6, _, _⟩ := hx5 6 (by decide)
        obtain ⟨hr5, hfr5⟩ := hx5 7 (by decide)
        have y8 : x5 8 = .pointer (some ⟨T, 0, none⟩) := hx5 8 (by decide)
        have y9 : x5 9 = .pointer (some ⟨T, 2, none⟩) := hx5 9 (by decide)
        obtain ⟨v', hv'⟩ : ∃ v', x5 7 = v' := ⟨_, rfl⟩
        simp only [putAll, List.getD_cons_zero, List.getD_cons_succ, Act.put, List.setIfInBounds_toArray, List.set_cons_zero, List.set_cons_succ, List.drop_succ_cons, List.drop_zero]
        rw [hv'] at hr5 hfr5
        rw [y0, y1, y2, y3, y4, y5, y6, y8, y9, hv']
        clear hx5 y0 y1 y2 y3 y4 y5 y6 y8 y9 hv'
        obtain ⟨N', hN'⟩ : ∃ N', N' = (fs1 ++ [f]).length := ⟨_, rfl⟩
        obtain ⟨a', c', e5⟩ := hr5.shape
        rw [← hN'] at e5
        subst e5
        clear hN'
        have hT5 := hT4.2.1.of_block (hG.block _ hTlt (fun e => hap e.symm))
        have c2 := hT5.c2
        have f2 : w5.frozen? ⟨T, 2, none⟩ = false := hT5.free
        have hT6 := hT5.s2 (.slice a' N' c')
        have c3 := hT6.c3
        have f3 : (w5.setCell ⟨T, 2, none⟩ (.slice a' N' c')).frozen? ⟨T, 3, none⟩ = false := hT6.free
        have hap5 := hT5.apart hr5
        have hw2 : IntKind.i64.wrap ((sumF fs1 : Nat) + (S : Nat)) = ((sumF fs1 : Nat) : Int) + (S : Nat) := IntWalk.i64_in _ (by omega)
        have HR5 := Lib.hid (And.intro hT6 (And.intro hr5 (And.intro hfr5 (And.intro hG hap5))))
        obtain ⟨z1, hz1⟩ : ∃ z1, z1 = sumF fs1 := ⟨_, rfl⟩
        rw [← hz1] at c3 hw2
        have HZ1 := Lib.hid hz1
        clear hT5 hT6 hr5 hfr5 hG hap5 hz1
        go_wp2
        refine Calm.intro ?_
        go_wp2_with fail
        go_ret
        obtain ⟨hT6, hr5, hfr5, hG, hap5⟩ := HR5.out
        obtain ⟨hT2', hfr02, hm02⟩ := HR.out
        have hb4 := HB4.out
        refine ⟨rfl, .slice a' N' c', ?_, ?_, ?_⟩
        · rw [HA.out]
          refine ⟨h.1, ?_, ?_⟩
          · have e : (sumF (fs1 ++ [f]) : Nat) = (z1 : Int) + (S : Nat) := by rw [sumF_append, sumF_one, ← HSZ.out, HZ1.out]; push_cast; rfl
            rw [e]
            exact hT6.s3 _
          · exact hr5.of_block fun g hg => (Below.heap_setCell _ _ _ _ (fun e => hap5 (by rw [hg]; exact congrArg some e))).trans (Below.heap_setCell _ _ _ _ (fun e => hap5 (by rw [hg]; exact congrArg some e)))
        · exact hfr02.trans (fun g hg => (hfr5 g hg).imp_right (fun h => by have := hb4.size; omega)) hm02.size
        · have hm24 : Mv T v1 w2 ((w5.setCell ⟨T, 2, none⟩ (.slice a' N' c')).setCell ⟨T, 3, none⟩ (.int .i64 ((z1 : Int) + (S : Nat)))) :=
            (((Mv.of hb4).trans (Mv.grown hG) (fun g hg => .inl hg)).trans (Mv.set T v1 w5 2 _) (fun g hg => .inl hg)).trans (Mv.set T v1 _ 3 _) (fun g hg => .inl hg)
          exact hm02.trans hm24 hfr02
end Go.Proofs.YtenapfpkegoonaaDoor

/-
  Layer 7: slices.Collect of what a table goes through; Clone.
-/
namespace Go.Proofs.YtenapfpkegoonaaDoor
set_option maxRecDepth 20000
open Go.RowKit Go.Shelf
attribute [local go_sem] Oper.semAt_some

theorem keepsG {A W : World} {row : Option Nat} (b : Nat) (hg : A.grownBy W row) (hrow : ∀ g, row = some g → ∃ cs t fr, A.heap[g]? = some (.cells cs t fr)) : KeepsFrom b A W :=
  ⟨hg.size, fun k _ _ hk ho => (hg.block k (Array.getElem?_eq_some_iff.1 hk).1 (fun e => by
    obtain ⟨cs, t, fr, h⟩ := hrow k e.symm
    rw [h] at hk
    cases hk
    cases ho)).trans hk⟩
/-- what has come stands in the row -/
def ColAt (w : World) (B0 : Nat) (pre : List Fd) (W : World) : Prop :=
  ∃ u, W.heap[w.heap.size]? = some (.cells #[u] 33 (0, 0)) ∧ RowF W B0 u pre ∧ Below w.heap.size w W ∧ B0 ≤ W.heap.size
theorem ColAt.grows (w : World) (B0 : Nat) : Grows (ColAt w B0) := by
  rintro s A W ⟨u, h0, hr, hb, hs⟩ hg
  exact ⟨u, (hg.block _ (Array.getElem?_eq_some_iff.1 h0).1).trans h0, hr.below hg, hb.trans (hg.mono hb.size), Nat.le_trans hs hg.size⟩
theorem ColAt.turns (w : World) (B0 : Nat) (hB : w.heap.size < B0) : Turns B0 (ColAt w B0) := by
  rintro s A l o o' ⟨u, h0, hr, hb, hs⟩ hl hlo hoc
  refine ⟨u, (World.putObj_heap_other (by omega)).trans h0, hr.of_block (fun g hg => World.putObj_heap_other ?_), hb.trans (below_put A o o' (by omega) hlo), by rw [World.putObj_size]; exact hs⟩
  rintro rfl
  obtain ⟨cs, fr, h⟩ := hr.block g hg
  rw [h] at hlo
  cases hlo
  cases hoc
/-- one more has come -/
theorem ColAt.more {w W w1 : World} {B0 : Nat} {u v1 : Value} {pre : List Fd} {x : Fd} (hB : w.heap.size < B0) (h0 : W.heap[w.heap.size]? = some (.cells #[u] 33 (0, 0))) (hr : RowF W B0 u pre) (hb : Below w.heap.size w W) (hs : B0 ≤ W.heap.size) {o : Obj}
    (hown : w1.ownsRow B0 46 2 v1 (pre.length + 1) (fcs pre ++ fcs [x])) (hg : (W.alloc o).grownBy w1 u.ownBlock) {v : Value} (hv : ∀ g, v.ownBlock = some g → g < w.heap.size) :
    KeepsFrom B0 W (w1.setCell ⟨w.heap.size, 0, none⟩ v1) ∧ KeepRow v W (w1.setCell ⟨w.heap.size, 0, none⟩ v1) ∧ ColAt w B0 (pre ++ [x]) (w1.setCell ⟨w.heap.size, 0, none⟩ v1) := by
  have hW1 : ∀ k, k < W.heap.size → u.ownBlock ≠ some k → w1.heap[k]? = W.heap[k]? := fun k hk hu => (hg.block k (by simp; omega) (fun e => hu e.symm)).trans (Below.heap_alloc _ _ _ hk)
  have hu0 : u.ownBlock ≠ some w.heap.size := fun e => by have := (hr.lt _ e).1; omega
  have l0 := (Array.getElem?_eq_some_iff.1 h0).1
  have h01 := (hW1 _ l0 hu0).trans h0
  have hsz : W.heap.size ≤ w1.heap.size := by have := hg.size; simp at this; omega
  have hr1 : RowF w1 B0 v1 (pre ++ [x]) := by
    unfold RowF
    rw [List.length_append, List.length_singleton, fcs_append]
    exact hown
  have hap : v1.ownBlock ≠ some w.heap.size := fun e => by have := (hr1.lt _ e).1; omega
  refine ⟨((KeepsOthers.alloc W o).from B0).trans ((keepsG B0 hg ?_).trans ((KeepsOthers.setCell _ _ _).from _)), ⟨by simpa using hsz, fun g hgv => ?_⟩, v1, heap_setCell_same w1 w.heap.size 0 _ _ v1 h01, ?_, ?_, by simpa using Nat.le_trans hs hsz⟩
  · intro g hgu
    obtain ⟨cs, fr, h⟩ := hr.block g hgu
    exact ⟨cs, _, fr, (Below.heap_alloc _ _ _ (hr.lt g hgu).2).trans h⟩
  · have hlt := hv g hgv
    exact (Below.heap_setCell _ _ _ _ (by show g ≠ w.heap.size; omega)).trans (hW1 g (by have := hb.size; omega) (fun e => by have := (hr.lt _ e).1; omega))
  · exact hr1.of_block fun g hg1 => Below.heap_setCell _ _ _ _ (fun e => hap (by rw [hg1]; exact congrArg some e))
  · refine Below.setCell (Below.trans hb ⟨hg.os, hg.tape, hg.output, hsz, fun k hk => hW1 k (by have := hb.size; omega) (fun e => by have := (hr.lt _ e).1; omega)⟩) (p := ⟨w.heap.size, 0, none⟩) (Nat.le_refl _) _

set_option maxHeartbeats 2000000 in
theorem appSeq_any (T base Bb : Nat) (b m z : Int) (v : Value) (fs : List Fd) (w : World) (hb : w.heap[Bb]? = some (.cells #[.pointer (some ⟨T, 0, none⟩)] 53 (0, 0))) (hT : TabAt w T b m v z) (hr : RowF w base v fs) (hl : fs.length ≤ 1000000000) :
    Calls Tryd.prog 63 #[.slice none 0 0, .func (.func 64) #[] #[.pointer (some ⟨Bb, 0, none⟩)]] w fun e w' => ∃ v', e = .returned v' ∧ RowF w' w.heap.size v' fs ∧ Below w.heap.size w w' := by
  obtain ⟨i0, hi, hz0, hz1, hz2⟩ := info_parts sizeFld
  have hv0 : ∀ g, v.ownBlock = some g → g < w.heap.size := fun g hg => (hr.lt g hg).2
  refine (callsIn_wide (n := 4)).1 ?_
  refine callsIn_of_wp_marks Tryd.func63 rfl trivial ?_ rfl
  simp only [Tryd.ntmps63, List.size_toArray, List.length_cons, List.length_nil, Nat.reduceAdd, Nat.reduceSub, Array.replicate_succ, Array.replicate_zero, List.push_toArray, List.append_toArray, List.nil_append, List.cons_append]
  gi_wp2
  have hB1 : Below w.heap.size w (w.alloc (.cells #[.slice none 0 0] 33)) := (Below.refl _ _).alloc (Nat.le_refl _) _
  have k0 : (w.alloc (.cells #[.slice none 0 0] 33)).heap[w.heap.size]? = some (.cells #[.slice none 0 0] 33 (0, 0)) := heap_alloc_new _ _
  have hs1 : (w.alloc (.cells #[.slice none 0 0] 33)).heap.size = w.heap.size + 1 := by simp
  obtain ⟨W1, hW1⟩ : ∃ W1, w.alloc (.cells #[.slice none 0 0] 33) = W1 := ⟨_, rfl⟩
  rw [hW1] at hB1 k0 hs1 ⊢
  have HS := Lib.hid hs1
  clear hW1 hs1
  have hT1 := hT.below hB1
  have hr1 := hr.below hB1
  have hb1 := (hB1.block _ (Array.getElem?_eq_some_iff.1 hb).1).trans hb
  refine range_seqP (gf := 64) (lb := #[.pointer (some ⟨Bb, 0, none⟩)]) rfl (enters_of Tryd.func64 (by kernel_rfl) rfl)
    (fields_seq _ _ T base b m _ v fs W1 hb1 hT1 hr1) (fun _ => rfl)
    (fun h k => h.trans k)
    (fun W l o o' hl hlo _ => ⟨by rw [World.putObj_size]; exact Nat.le_refl _, fun g hg => World.putObj_heap_other (by have := hv0 g hg; have := HS.out; omega)⟩)
    (ColAt w W1.heap.size)
    (fun _ _ _ => False)
    (fun pre x a' W => ∃ Bx, W1.heap.size ≤ Bx ∧ W.heap[Bx]? = some (.cells #[.string x.1, .string x.2] 46 (0, 0)) ∧ (∀ u, W.heap[w.heap.size]? = some (.cells #[u] 33 (0, 0)) → u.ownBlock ≠ some Bx) ∧ a' = { tmps := #[.slice none 0 0, .func (.func 64) #[] #[.pointer (some ⟨Bb, 0, none⟩)], .pointer (some ⟨w.heap.size, 0, none⟩), undef, .slice none 0 0, .pointer (some ⟨Bx, 0, none⟩), .func (.func 64) #[] #[.pointer (some ⟨Bb, 0, none⟩)], .agg #[.string x.1, .string x.2], undef, undef, undef, undef, undef], defers := [] })
    (ColAt.grows _ _) (ColAt.turns _ _ (by have := HS.out; omega))
    (by rintro c s A W h; exact h.elim)
    (by rintro c s A l o o' h; exact h.elim)
    ?tTurn ⟨_, k0, RowF.nil _ _, hB1, Nat.le_refl _⟩ ?tAssign ?tBody ?tDone ?tStop
  case tTurn =>
    rintro pre x a' _ A l o o' ⟨Bx, h1, h2, h3, h4⟩ hl hlo ho
    refine ⟨Bx, h1, (World.putObj_heap_other ?_).trans h2, fun u hu => h3 u ?_, h4⟩
    · rintro rfl
      rw [h2] at hlo
      cases hlo
      cases ho
    · rw [World.putObj_heap_other (by have := HS.out; omega)] at hu
      exact hu
  case tAssign =>
    rintro l pre x W K ⟨u, h0, hru, hbW, hsW⟩ hY hK
    dsimp only [encFd]
    gi_wp2
    have hA : Below W.heap.size W (W.alloc (.cells #[.string x.1, .string x.2] 46)) := (Below.refl _ _).alloc (Nat.le_refl _) _
    refine hK _ _ ((KeepsOthers.alloc _ _).from _) ⟨by simp, fun g hg => Below.heap_alloc _ _ _ (by have := hv0 g hg; have := hbW.size; omega)⟩ (ColAt.grows _ _ _ _ _ ⟨u, h0, hru, hbW, hsW⟩ hA) ⟨W.heap.size, hsW, heap_alloc_new W _, fun u' hu' e => ?_, rfl⟩
    rw [hA.block _ (Array.getElem?_eq_some_iff.1 h0).1, h0] at hu'
    simp only [Option.some.injEq, Obj.cells.injEq, Array.mk.injEq, List.cons.injEq, and_true] at hu'
    subst hu'
    have := (hru.lt _ e).2
    omega
  case tBody =>
    rintro l pre x a' W ⟨u, h0, hru, hbW, hsW⟩ ⟨Bx, hBx, hxx, hne, rfl⟩ hlen
    have hux := hne u h0
    have hu0 : u.ownBlock ≠ some w.heap.size := fun e => by have := (hru.lt _ e).1; have := HS.out; omega
    have c0 : W.cell? ⟨w.heap.size, 0, none⟩ = some u := blk_cell (j := 0) h0 rfl
    have x0 := blk_cell (j := 0) hxx rfl
    have x1 := blk_cell (j := 1) hxx rfl
    have hl2 : pre.length ≤ 1000000000 := by omega
    have H0 := Lib.hid h0
    have HR := Lib.hid (And.intro hru (And.intro hbW hsW))
    have hru' : W.ownsRow W1.heap.size 46 2 u pre.length (fcs pre) := hru
    clear hne h0 hxx hru hbW hsW
    gi_wp2_with (gi_at_builtin; refine wpListIn_append_own _ rfl (.tmp 8) (.tmp 10) 33 rfl W1.heap.size 46 i0 _ 2 32 Tryd.underlying33 hi hz0 hz1 hz2 rfl (by decide) u pre.length (fcs pre) rfl (hru'.alloc _) ⟨W.heap.size, 0, none⟩ 1 1 (fcs [x]) rfl rfl (fcs_one_at _ _ x (FldAt.new _ _ _)) (fcs_oneCell _) (by unfold maxLen; omega) (by omega) (by have := HR.out.2.2; simp; omega) ?_; intro v1 w1 hown1 hg1 _; obtain ⟨ao1, cap1, rfl, _⟩ := owned_shape hown1; have at1 : w1.heap[w.heap.size]? = some (.cells #[u] 33 (0, 0)) := (hg1.block w.heap.size (by have := (Array.getElem?_eq_some_iff.1 H0.out).1; simp; omega) (fun e => hu0 e.symm)).trans ((Below.heap_alloc _ _ _ (Array.getElem?_eq_some_iff.1 H0.out).1).trans H0.out); have e0 := blk_cell (j := 0) at1 rfl; have ef0 := blk_free (j := 0) at1; clear at1)
    exact ColAt.more (by have := HS.out; omega) H0.out HR.out.1 HR.out.2.1 HR.out.2.2 hown1 hg1 hv0
  case tDone =>
    rintro D xs W hD hcame ⟨u, h0, hru, hbW, hsW⟩ hDk
    obtain rfl : xs = fs := hcame
    obtain ⟨au, cu, rfl⟩ := hru.shape
    have c0 : W.cell? ⟨w.heap.size, 0, none⟩ = some (.slice au xs.length cu) := blk_cell (j := 0) h0 rfl
    have HR := Lib.hid (And.intro hru (And.intro hbW hsW))
    clear h0 hru hbW hsW
    gi_wp2
    obtain ⟨hru, hbW, _⟩ := HR.out
    have hlt : w.heap.size ≤ D := by have := HS.out; omega
    refine ⟨by simp, .inl ⟨_, _, rfl, run_takeDeferred hDk, ?_⟩⟩
    refine ⟨_, results_tmp rfl _ _ _, .slice au xs.length cu, rfl, ?_, hbW.trans (below_put _ _ _ hlt hDk)⟩
    refine RowF.mono (base := W1.heap.size) ?_ (by have := HS.out; omega)
    refine hru.of_block fun g hg => World.putObj_heap_other ?_
    rintro rfl
    obtain ⟨cs, fr, h⟩ := hru.block g hg
    rw [h] at hDk
    cases hDk
  case tStop => rintro D c pre W hD hcame h; exact h.elim
theorem collect_any (T base Bb : Nat) (b m z : Int) (v : Value) (fs : List Fd) (w : World) (hb : w.heap[Bb]? = some (.cells #[.pointer (some ⟨T, 0, none⟩)] 53 (0, 0))) (hT : TabAt w T b m v z) (hr : RowF w base v fs) (hl : fs.length ≤ 1000000000) :
    Calls Tryd.prog 37 #[.func (.func 64) #[] #[.pointer (some ⟨Bb, 0, none⟩)]] w fun e w' => ∃ v', e = .returned v' ∧ RowF w' w.heap.size v' fs ∧ Below w.heap.size w w' := by
  go_enter Tryd.func37, Tryd.ntmps37
  go_wp2_with fail
  refine (appSeq_any T base Bb b m z v fs w hb hT hr hl).mono ?_
  rintro e w' ⟨v', rfl, hr', hb'⟩
  have HR := Lib.hid (And.intro hr' hb')
  clear hr' hb'
  go_wp2_with fail
  go_ret
  exact ⟨v', rfl, HR.out⟩
set_option maxHeartbeats 1000000 in
theorem tclone_any (T base : Nat) (b m : Int) (v : Value) (fs : List Fd) (w : World) (h : TabO w base T b m v fs) (hl : fs.length ≤ 1000000000) :
    Calls Tryd.prog 20 #[.pointer (some ⟨T, 0, none⟩)] w fun e w' => ∃ (B : Nat) (v' : Value), e = .returned (.pointer (some ⟨B, 0, none⟩)) ∧ TabO w' w.heap.size B b m v' fs ∧ Below w.heap.size w w' := by
  obtain ⟨_, hT, hr⟩ := h
  obtain ⟨z, hz⟩ : ∃ z : Int, z = (sumF fs : Nat) := ⟨_, rfl⟩
  rw [← hz] at hT
  have HZ := Lib.hid hz
  clear hz
  go_enter Tryd.func20, Tryd.ntmps20
  go_wp2_with fail
  refine wp_region_table 17 [5, 6, 7, 8, 9, 10, 11, 12, 13, 14, 15, 16, 17, 18, 19, 20, 21] [[], [(0, 5)], [(1, 6)], [(2, 7)], [], [(4, 9)], [(5, 10)], [(6, 11)], [], [(8, 13)], [(9, 14)], [], [(11, 16)], [(12, 17)], [(13, 18)], [(3, 8), (7, 12), (10, 15), (14, 19)], [(15, 20)]]
    (fun i u w' => match i with
      | 0 => u = .pointer (some ⟨T, 0, none⟩)
      | 1 => u = .pointer (some ⟨T, 0, none⟩)
      | 2 => u = .pointer (some ⟨T, 0, none⟩)
      | 3 => u = .int .i64 b
      | 4 => u = .pointer (some ⟨T, 0, none⟩)
      | 5 => u = .pointer (some ⟨T, 0, none⟩)
      | 6 => u = .pointer (some ⟨T, 1, none⟩)
      | 7 => u = .int .i64 m
      | 8 => u = .pointer (some ⟨T, 0, none⟩)
      | 9 => ∃ Bb, u = .func (.func 64) #[] #[.pointer (some ⟨Bb, 0, none⟩)] ∧ w'.heap[Bb]? = some (.cells #[.pointer (some ⟨T, 0, none⟩)] 53 (0, 0))
      | 10 => RowF w' w.heap.size u fs
      | 11 => u = .pointer (some ⟨T, 0, none⟩)
      | 12 => u = .pointer (some ⟨T, 0, none⟩)
      | 13 => u = .pointer (some ⟨T, 3, none⟩)
      | 14 => u = .int .i64 z
      | 15 => ∃ u', u = .agg #[.int .i64 b, .int .i64 m, u', .int .i64 z] ∧ RowF w' w.heap.size u' fs
      | 16 => ∃ B u', u = .pointer (some ⟨B, 0, none⟩) ∧ w.heap.size ≤ B ∧ TabAt w' B b m u' z ∧ RowF w' w.heap.size u' fs
      | _ => True) (by kernel_rfl) (by kernel_rfl) ?tStab ?tOps ?tRest
  case tStab =>
    intro i u w3 w4 h hb
    match i, h with
    | 0, h | 1, h | 2, h | 3, h | 4, h | 5, h | 6, h | 7, h | 8, h | 11, h | 12, h | 13, h | 14, h => exact h
    | 9, ⟨Bb, e, hh⟩ => exact ⟨Bb, e, (hb.block _ (Array.getElem?_eq_some_iff.1 hh).1).trans hh⟩
    | 10, h => exact h.below hb
    | 15, ⟨u', e, hh⟩ => exact ⟨u', e, hh.below hb⟩
    | 16, ⟨B, u', e, hB, h1, h2⟩ => exact ⟨B, u', e, hB, h1.below hb, h2.below hb⟩
    | i + 17, _ => trivial
  case tOps =>
    simp only [List.take_succ_cons, List.take_zero, opsOk]
    refine ⟨?_, ?_, ?_, ?_, ?_, ?_, ?_, ?_, ?_, ?_, ?_, ?_, ?_, ?_, ?_, ?_, ?_, trivial⟩
    · intro ρ w3 hc hf ho hB hj
      have x0 : ρ (.tmp 0) = .pointer (some ⟨T, 0, none⟩) := ho 0 (by decide)
      simp [gives, go_sem, x0, Below.refl]
    · intro ρ w3 hc hf ho hB hj
      have x0 : ρ (.tmp 5) = .pointer (some ⟨T, 0, none⟩) := hj (0, 5) (by simp)
      simp [gives, go_sem, x0, Below.refl]
    · intro ρ w3 hc hf ho hB hj
      have x0 : ρ (.tmp 6) = .pointer (some ⟨T, 0, none⟩) := hj (1, 6) (by simp)
      simp [gives, go_sem, x0, Below.refl]
    · intro ρ w3 hc hf ho hB hj
      have x0 : ρ (.tmp 7) = .pointer (some ⟨T, 0, none⟩) := hj (2, 7) (by simp)
      have cc := (hT.below hB).c0
      simp [gives, go_sem, x0, cc, Below.refl]
    · intro ρ w3 hc hf ho hB hj
      have x0 : ρ (.tmp 0) = .pointer (some ⟨T, 0, none⟩) := ho 0 (by decide)
      simp [gives, go_sem, x0, Below.refl]
    · intro ρ w3 hc hf ho hB hj
      have x0 : ρ (.tmp 9) = .pointer (some ⟨T, 0, none⟩) := hj (4, 9) (by simp)
      simp [gives, go_sem, x0, Below.refl]
    · intro ρ w3 hc hf ho hB hj
      have x0 : ρ (.tmp 10) = .pointer (some ⟨T, 0, none⟩) := hj (5, 10) (by simp)
      simp [gives, go_sem, x0, Below.refl]
    · intro ρ w3 hc hf ho hB hj
      have x0 : ρ (.tmp 11) = .pointer (some ⟨T, 1, none⟩) := hj (6, 11) (by simp)
      have cc := (hT.below hB).c1
      simp [gives, go_sem, x0, cc, Below.refl]
    · intro ρ w3 hc hf ho hB hj
      have x0 : ρ (.tmp 0) = .pointer (some ⟨T, 0, none⟩) := ho 0 (by decide)
      simp [gives, go_sem, x0, Below.refl]
    · intro ρ w3 hc hf ho hB hj
      have x0 : ρ (.tmp 13) = .pointer (some ⟨T, 0, none⟩) := hj (8, 13) (by simp)
      simp [gives, go_sem, x0, hf]
      refine (oldestFirst_any T w3).mono ?_
      rintro e w4 ⟨rfl, rfl⟩
      exact ⟨_, rfl, ⟨_, rfl, heap_alloc_new _ _⟩, (Below.refl _ _).alloc (Nat.le_refl _) _⟩
    · intro ρ w3 hc hf ho hB hj
      obtain ⟨Bb, x0, hbb⟩ := hj (9, 14) (by simp)
      dsimp only at x0
      simp [gives, go_sem, x0, hf]
      refine (collect_any T base Bb b m z v fs w3 hbb (hT.below hB) (hr.below hB) hl).mono ?_
      rintro e w4 ⟨v', rfl, hr', hb'⟩
      exact ⟨_, rfl, hr'.mono hB.size, hb'⟩
    · intro ρ w3 hc hf ho hB hj
      have x0 : ρ (.tmp 0) = .pointer (some ⟨T, 0, none⟩) := ho 0 (by decide)
      simp [gives, go_sem, x0, Below.refl]
    · intro ρ w3 hc hf ho hB hj
      have x0 : ρ (.tmp 16) = .pointer (some ⟨T, 0, none⟩) := hj (11, 16) (by simp)
      simp [gives, go_sem, x0, Below.refl]
    · intro ρ w3 hc hf ho hB hj
      have x0 : ρ (.tmp 17) = .pointer (some ⟨T, 0, none⟩) := hj (12, 17) (by simp)
      simp [gives, go_sem, x0, Below.refl]
    · intro ρ w3 hc hf ho hB hj
      have x0 : ρ (.tmp 18) = .pointer (some ⟨T, 3, none⟩) := hj (13, 18) (by simp)
      have cc := (hT.below hB).c3
      simp [gives, go_sem, x0, cc, Below.refl]
    · intro ρ w3 hc hf ho hB hj
      have x0 : ρ (.tmp 8) = .int .i64 b := hj (3, 8) (by simp)
      have x1 : ρ (.tmp 12) = .int .i64 m := hj (7, 12) (by simp)
      have hr3 : RowF w3 w.heap.size (ρ (.tmp 15)) fs := hj (10, 15) (by simp)
      have x3 : ρ (.tmp 19) = .int .i64 z := hj (14, 19) (by simp)
      obtain ⟨a', c', x2⟩ := hr3.shape
      rw [x2] at hr3
      simp [gives, go_sem, x0, x1, x2, x3, Below.refl]
      exact hr3
    · intro ρ w3 hc hf ho hB hj
      obtain ⟨u', x0, hr3⟩ := hj (15, 20) (by simp)
      dsimp only at x0
      obtain ⟨a', c', rfl⟩ := hr3.shape
      simp [gives, go_sem, x0]
      exact ⟨⟨hB.size, _, heap_alloc_new _ _, hr3.below ((Below.refl _ _).alloc (Nat.le_refl _) _)⟩, (Below.refl _ _).alloc (Nat.le_refl _) _⟩
  case tRest =>
    intro x w3 hb3 hx
    obtain ⟨B, u', e16, hB, hTn, hrn⟩ := hx 16 (by decide)
    simp only [putAll, List.getD_cons_zero, List.getD_cons_succ, Act.put, List.setIfInBounds_toArray, List.set_cons_zero, List.set_cons_succ, List.drop_succ_cons, List.drop_zero]
    rw [e16]
    clear hx
    have HR := Lib.hid (And.intro hTn (And.intro hrn hb3))
    clear hTn hrn hb3
    go_wp2_with fail
    go_ret
    obtain ⟨hTn, hrn, hb3⟩ := HR.out
    exact ⟨B, u', rfl, ⟨hB, by rw [← HZ.out]; exact hTn, hrn⟩, hb3⟩
end Go.Proofs.YtenapfpkegoonaaDoor
