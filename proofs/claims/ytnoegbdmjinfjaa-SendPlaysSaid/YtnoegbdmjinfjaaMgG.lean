/-
  Several texts of mine, one behind the other: Frame, FrameGen.
-/
import Derived.Test.YtnoegbdmjinfjaaMgF
import Derived.ProofKit
import Derived.OpenShut
import Derived.ShutString
import Derived.ChangeOld
import Derived.Below
import Derived.Lib.SmallJoins
import Derived.Deep.Slices
import Derived.Deep.Fields
import Derived.ChangeSame

/-
  How the arguments of the statements of this seat are opened: slices of integers, short arrays of integers by value.
-/
namespace Go.Proofs.Ytnoegbdmjinfjaa
open Go.ChangeShapes Go.WideShapes Go.ChangeAt Go.RowKit

section
variable {H : Type} {enc : TypeId × Value → H} {P : Program} {W : World}

theorem sl_open {t e : TypeId} {k : IntKind} {a : Option Addr} {len cap : Nat} {d : DataW H} {p : List MemPlace} (ht : P.underlying t = some (.slice e)) (he : P.underlying e = some (.int k)) (hc : P.cellsOf e = 1)
    (h : DataW.Trod enc P W 0 (fun _ => true) true t (.slice a len cap) d p) : ∃ zs, Sl k W (.slice a len cap) zs := by
  obtain ⟨fuel, hf⟩ := h
  rcases open_ints ht he hc hf with ⟨hcs, _⟩ | ⟨x, l, c, zs, hcs, _, hl, hm, hz, _, hcell, hwz⟩
  · simp [Value.cells] at hcs
    obtain ⟨rfl, rfl, rfl⟩ := hcs
    exact ⟨[], Sl.nil _ _⟩
  · simp [Value.cells] at hcs
    obtain ⟨rfl, rfl, rfl⟩ := hcs
    exact ⟨zs.take len, Sl.of_row hl hm (by simpa using hz) hwz (fun y hy => by simp only [Option.some.injEq] at hy; subst hy; exact hcell) (fun hy => by simp at hy)⟩

theorem okWide_array {r : Reach} {b0 : Nat} {t e : TypeId} {n : Nat} {v : Value} (ht : P.underlying t = some (.array n e)) (h : Value.okWide P W r b0 t v) : ∃ cs, v = .agg cs ∧ cs.size = P.cellsOf t := by
  simp only [Value.okWide, ht] at h
  obtain ⟨cs, h1, h2, _⟩ := h
  exact ⟨cs, h1, h2⟩
/-- an array of two integers, by value -/
theorem ints2_open {r : Reach} {b0 : Nat} {t e : TypeId} {k : IntKind} {v : Value} {d : DataW H} {p : List MemPlace} (ht : P.underlying t = some (.array 2 e)) (he : P.underlying e = some (.int k)) (hc : P.cellsOf e = 1) (hC : P.cellsOf t = 2)
    (hv : Value.okWide P W r b0 t v) (h : DataW.Trod enc P W 0 (fun _ => true) true t v d p) : ∃ x y, v = .agg #[.int k x, .int k y] ∧ (Lit.int k x).wf = true ∧ (Lit.int k y).wf = true := by
  obtain ⟨cs, rfl, hs⟩ := okWide_array ht hv
  rw [hC] at hs
  obtain ⟨c0, c1, rfl⟩ := Go.Joins.array2 hs
  obtain ⟨fuel, hf⟩ := h
  obtain ⟨xs, m, _, _, _, hl, hi⟩ := DataW.trod_array ht hf
  have h0 := hi 0 (by omega)
  have h1 := hi 1 (by omega)
  rw [hc] at h0 h1
  simp only [Value.cells] at h0 h1
  obtain ⟨x0, e0⟩ : ∃ x0, xs[0]? = some x0 := ⟨xs[0], by simp [hl]⟩
  obtain ⟨x1, e1⟩ : ∃ x1, xs[1]? = some x1 := ⟨xs[1], by simp [hl]⟩
  rw [e0] at h0
  rw [e1] at h1
  obtain ⟨a, ha, _, wa⟩ := DataW.trod_int he h0
  obtain ⟨b, hb, _, wb⟩ := DataW.trod_int he h1
  simp at ha hb
  subst ha hb
  exact ⟨a, b, rfl, wa, wb⟩
/-- an array of integers, by value -/
theorem intsN_open {N : Nat} {r : Reach} {b0 : Nat} {t e : TypeId} {k : IntKind} {v : Value} {d : DataW H} {p : List MemPlace} (ht : P.underlying t = some (.array N e)) (he : P.underlying e = some (.int k)) (hc : P.cellsOf e = 1) (hC : P.cellsOf t = N)
    (hv : Value.okWide P W r b0 t v) (h : DataW.Trod enc P W 0 (fun _ => true) true t v d p) : ∃ zs : List Int, zs.length = N ∧ v = .agg (zs.map (Value.int k)).toArray ∧ ∀ z ∈ zs, (Lit.int k z).wf = true := by
  obtain ⟨cs, rfl, hs⟩ := okWide_array ht hv
  rw [hC] at hs
  obtain ⟨fuel, hf⟩ := h
  obtain ⟨xs, m, _, _, _, hl, hi⟩ := DataW.trod_array ht hf
  have one : ∀ i : Fin N, ∃ a : Int, cs[i.1]? = some (.int k a) ∧ (Lit.int k a).wf = true := by
    intro i
    have h0 := hi i.1 i.2
    rw [hc] at h0
    simp only [Value.cells, Nat.mul_one] at h0
    obtain ⟨x0, e0⟩ : ∃ x0, xs[i.1]? = some x0 := ⟨xs[i.1]'(by rw [hl]; exact i.2), by simp [hl]⟩
    rw [e0] at h0
    obtain ⟨a, ha, _, wa⟩ := DataW.trod_int he h0
    have hlt : i.1 < cs.size := by rw [hs]; exact i.2
    refine ⟨a, ?_, wa⟩
    have hg : (cs.toList.drop i.1).take 1 = [cs[i.1]] := by
      rw [List.drop_eq_getElem_cons (by simpa using hlt)]; simp
    rw [hg] at ha
    simp only [List.cons.injEq, and_true] at ha
    rw [Array.getElem?_eq_getElem hlt, ha]
  obtain ⟨F, hF⟩ := Classical.axiomOfChoice one
  refine ⟨List.ofFn F, by simp, ?_, ?_⟩
  · congr 1
    apply Array.ext'
    apply List.ext_getElem
    · simp [hs]
    · intro j h1 h2
      have hj : j < N := by simpa [hs] using h1
      have := (hF ⟨j, hj⟩).1
      rw [Array.getElem?_eq_getElem (by simpa using h1)] at this
      simp only [Option.some.injEq] at this
      simp [this]
  · intro z hz
    obtain ⟨i, rfl⟩ := List.mem_ofFn.1 hz
    exact (hF i).2
theorem list3 {α : Type} {l : List α} (h : l.length = 3) : ∃ a b c, l = [a, b, c] := by
  match l, h with
  | [a, b, c], _ => exact ⟨a, b, c, rfl⟩
theorem list4 {α : Type} {l : List α} (h : l.length = 4) : ∃ a b c d, l = [a, b, c, d] := by
  match l, h with
  | [a, b, c, d], _ => exact ⟨a, b, c, d, rfl⟩
theorem list5 {α : Type} {l : List α} (h : l.length = 5) : ∃ a b c d e, l = [a, b, c, d, e] := by
  match l, h with
  | [a, b, c, d, e], _ => exact ⟨a, b, c, d, e, rfl⟩
theorem list6 {α : Type} {l : List α} (h : l.length = 6) : ∃ a b c d e f, l = [a, b, c, d, e, f] := by
  match l, h with
  | [a, b, c, d, e, f], _ => exact ⟨a, b, c, d, e, f, rfl⟩
end

end Go.Proofs.Ytnoegbdmjinfjaa

/-
  How arguments of any shape are opened: numbers, bools, bytes, structs, slices of such, one within the other. No function of the program is named here.
-/
namespace Go.Proofs.Ytnoegbdmjinfjaa
open Go.ChangeShapes Go.WideShapes Go.ChangeAt Go.RowKit Go.Joins Go.Deep

section
variable {H : Type} (enc : TypeId × Value → H) (P : Program) (W : World)
/-- whatever reads as a value of this type is so -/
def Opn (t : TypeId) (Rd : List Value → Prop) : Prop := ∀ (fuel : Nat) (cs : List Value) (x : DataW H × List MemPlace), DataW.trod enc P W 0 (fun _ => true) true fuel t cs = some x → Rd cs
variable {enc P W}
theorem Opn.mono {t : TypeId} {A B : List Value → Prop} (h : Opn enc P W t A) (hab : ∀ cs, A cs → B cs) : Opn enc P W t B := fun fuel cs x hx => hab cs (h fuel cs x hx)
theorem Opn.and {t : TypeId} {A B : List Value → Prop} (h : Opn enc P W t A) (g : Opn enc P W t B) : Opn enc P W t (fun cs => A cs ∧ B cs) := fun fuel cs x hx => ⟨h fuel cs x hx, g fuel cs x hx⟩
theorem Opn.int {t : TypeId} {k : IntKind} (ht : P.underlying t = some (.int k)) : Opn enc P W t (fun cs => ∃ z, cs = [.int k z] ∧ (Lit.int k z).wf = true) := fun fuel cs x hx => by
  obtain ⟨a, e, _, hw⟩ := DataW.trod_int ht hx
  exact ⟨a, e, hw⟩
theorem Opn.u8 {t : TypeId} (ht : P.underlying t = some (.int .u8)) : Opn enc P W t (fun cs => ∃ z : Int, cs = [.int .u8 z] ∧ 0 ≤ z ∧ z ≤ 255) := (Opn.int ht).mono fun _ ⟨z, e, h⟩ => ⟨z, e, bounds_u8 h⟩
theorem Opn.bool {t : TypeId} (ht : P.underlying t = some .bool) : Opn enc P W t (fun cs => ∃ z, cs = [.bool z]) := fun fuel cs x hx => by
  obtain ⟨a, e, _⟩ := DataW.trod_bool ht hx
  exact ⟨a, e⟩
theorem Opn.len {t : TypeId} {fs : Array Field} (hs : P.underlying t = some (.struct fs)) : Opn enc P W t (fun cs => cs.length = P.cellsOf t) := fun fuel cs x hx => by
  obtain ⟨_, _, _, _, hl, _⟩ := DataW.trod_struct hs hx
  exact hl
theorem Opn.field {t : TypeId} {fs : Array Field} (hs : P.underlying t = some (.struct fs)) (i : Nat) (f : Field) (hf : fs[i]? = some f) (o s : Nat) (ho : f.offset = o) (hz : P.cellsOf f.type = s) {Rd : List Value → Prop} (h : Opn enc P W f.type Rd) : Opn enc P W t (fun cs => Rd ((cs.drop o).take s)) := fun fuel cs x hx => by
  obtain ⟨xs, n, _, _, _, hlen, hg⟩ := DataW.trod_struct hs hx
  have hi : i < xs.length := by rw [hlen]; exact (Array.getElem?_eq_some_iff.1 hf).1
  have := hg i f hf
  rw [List.getElem?_eq_getElem hi, ho, hz] at this
  exact h n _ _ this
/-- a slice of integers -/
theorem Opn.ints {t e : TypeId} {k : IntKind} (ht : P.underlying t = some (.slice e)) (he : P.underlying e = some (.int k)) (hc : P.cellsOf e = 1) : Opn enc P W t (fun cs => ∃ v zs, cs = [v] ∧ Sl k W v zs) := fun fuel cs x hx => by
  rcases open_ints ht he hc hx with ⟨hcs, _⟩ | ⟨y, l, c, zs, hcs, _, hl, hm, hz, _, hcell, hwz⟩
  · exact ⟨.slice none 0 0, [], hcs, Sl.nil _ _⟩
  · exact ⟨.slice (some y) l c, zs.take l, hcs, Sl.of_row hl hm (by simpa using hz) hwz (fun z hy => by simp only [Option.some.injEq] at hy; subst hy; exact hcell) (fun hy => by simp at hy)⟩
/-- a slice of whatever is opened -/
theorem Opn.rows {t e : TypeId} {α : Type} {c : α → List Value} {K : Nat} {R : α → Prop} (ht : P.underlying t = some (.slice e)) (hK : 0 < K) (hC : P.cellsOf e = K) (hcl : ∀ y, (c y).length = K) (h : Opn enc P W e (fun cs => ∃ y, cs = c y ∧ R y)) :
    Opn enc P W t (fun cs => ∃ v ys, cs = [v] ∧ SlC c K W v ys ∧ ∀ y ∈ ys, R y) := fun fuel cs x hx => by
  rcases open_slice ht hx with ⟨e1, _⟩ | ⟨a', len', cap', m, n, D, Pl, e1, _, hl, hm, hmm, _, hi⟩
  · exact ⟨_, [], e1, ⟨none, 0, rfl, Nat.le_refl _, by simp, .inl ⟨rfl, fun _ => rfl⟩⟩, fun y hy => by cases hy⟩
  · simp only [if_true] at hmm
    subst hmm
    have one : ∀ i, i < len' → ∃ y : α, R y ∧ ∀ j, j < K → W.cell? ((a'.add (i * K)).add j) = (c y)[j]? := fun i hil => by
      obtain ⟨cs', hc, ht'⟩ := hi i (by omega)
      rw [hC] at hc
      obtain ⟨_, hcl', hat⟩ := World.cells?_some hc
      obtain ⟨y, e2, hR⟩ := h _ _ _ ht'
      refine ⟨y, hR, fun j hj => ?_⟩
      rw [hat j hj, e2]
    by_cases h0 : len' = 0
    · subst h0
      exact ⟨_, [], e1, ⟨_, _, rfl, by simp, hm, .inl ⟨rfl, fun hn => by cases hn⟩⟩, fun y hy => by cases hy⟩
    · obtain ⟨F, hF⟩ := Classical.axiomOfChoice (fun (i : Fin len') => one i.1 i.2)
      obtain ⟨b, off, spot⟩ := a'
      have hc0 := (hF ⟨0, by omega⟩).2 0 hK
      rw [List.getElem?_eq_getElem (by rw [hcl]; exact hK)] at hc0
      have hspot : spot = none := by simpa [Addr.add] using World.cell?_spot hc0
      subst hspot
      refine ⟨_, List.ofFn F, e1, ⟨some ⟨b, off, none⟩, _, by simp, by simpa using hl, hm, .inr ⟨b, off, rfl, ?_, ?_⟩⟩, ?_⟩
      · by_cases hbl : b < W.heap.size
        · exact hbl
        · simp [Addr.add, World.cell?, Array.getElem?_eq_none (by omega : W.heap.size ≤ b)] at hc0
      · intro i x hix j hj
        rw [List.getElem?_ofFn] at hix
        split at hix
        · rename_i hil
          cases hix
          have := (hF ⟨i, hil⟩).2 j hj
          simp only [Go.WideShapes.add_plain] at this
          exact this
        · cases hix
      · intro y hy
        obtain ⟨i, rfl⟩ := List.mem_ofFn.1 hy
        exact (hF i).1
/-- an argument that is a slice -/
theorem Opn.arg {r : Reach} {b0 : Nat} {t e : TypeId} {v : Value} {d : DataW H} {p : List MemPlace} {Rd : List Value → Prop} (ht : P.underlying t = some (.slice e)) (hv : Value.okWide P W r b0 t v) (h : DataW.Trod enc P W 0 (fun _ => true) true t v d p) (ho : Opn enc P W t Rd) : Rd [v] := by
  obtain ⟨a, len, cap, rfl⟩ := okWide_slice ht hv
  obtain ⟨fuel, hf⟩ := h
  exact ho fuel _ _ hf
/-- .. and one that is a struct -/
theorem Opn.args {r : Reach} {b0 : Nat} {t : TypeId} {fs : Array Field} {v : Value} {d : DataW H} {p : List MemPlace} {Rd : List Value → Prop} (ht : P.underlying t = some (.struct fs)) (hv : Value.okWide P W r b0 t v) (h : DataW.Trod enc P W 0 (fun _ => true) true t v d p) (ho : Opn enc P W t Rd) : ∃ cs : List Value, v = .agg cs.toArray ∧ Rd cs := by
  obtain ⟨cs, rfl, hsz⟩ := okWide_struct ht hv
  obtain ⟨fuel, hf⟩ := h
  exact ⟨cs.toList, by simp, ho fuel _ _ hf⟩
end
end Go.Proofs.Ytnoegbdmjinfjaa
