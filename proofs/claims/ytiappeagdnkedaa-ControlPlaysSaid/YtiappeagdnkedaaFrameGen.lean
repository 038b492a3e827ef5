
/-
  How arguments of any shape are opened: numbers, bools, bytes, structs, slices of such, one within the other. No function of the program is named here.
-/
import Derived.Test.YtiappeagdnkedaaFrame
import Derived.Test.YtiappeagdnkedaaRowKit
import Derived.Deep.Slices
import Derived.Deep.Fields
import Derived.ChangeSame
namespace Go.Proofs.Ytiappeagdnkedaa
open Go.ChangeShapes Go.WideShapes Go.ChangeAt Go.RowKit Go.Joins Go.Deep

section
variable {H : Type} (enc : TypeId × Value → H) (P : Program) (W : World)
/-- whatever reads as a value of this type is so -/
def Opn (t : TypeId) (Rd : List Value → Prop) : Prop := ∀ (fuel : Nat) (cs : List Value) (x : DataW H × List MemPlace), DataW.trod enc P W 0 (fun _ => true) true fuel t cs = some x → Rd cs
variable {enc P W}
theorem Opn.mono {t : TypeId} {A B : List Value → Prop} (h : Opn enc P W t A) (hab : ∀ cs, A cs → B cs) : Opn enc P W t B := fun fuel cs x hx => hab cs (h fuel cs x hx)
theorem Opn.and {t : TypeId} {A B : List Value → Prop} (h : Opn enc P W t A) (g : Opn enc P W t B) : Opn enc P W t (fun cs => A cs ∧ B cs) := fun fuel cs x hx => ⟨h fuel cs x hx, g fuel cs x hx⟩
theorem Opn.int {t : TypeId} {k : IntKind} (ht : P.underlying t = some (.int k)) : Opn enc P W t (fun cs => ∃ z, cs = [.int k z] ∧ (Lit.int k z).wf = true) := fun fuel cs x hx => by
  obtain ⟨a, e, _, hw⟩ := DataW.trod_int ht hx
  exact ⟨a, e, hw⟩
theorem Opn.u8 {t : TypeId} (ht : P.underlying t = some (.int .u8)) : Opn enc P W t (fun cs => ∃ z : Int, cs = [.int .u8 z] ∧ 0 ≤ z ∧ z ≤ 255) := (Opn.int ht).mono fun _ ⟨z, e, h⟩ => ⟨z, e, bounds_u8 h⟩
theorem Opn.bool {t : TypeId} (ht : P.underlying t = some .bool) : Opn enc P W t (fun cs => ∃ z, cs = [.bool z]) := fun fuel cs x hx => by
  obtain ⟨a, e, _⟩ := DataW.trod_bool ht hx
  exact ⟨a, e⟩
theorem Opn.len {t : TypeId} {fs : Array Field} (hs : P.underlying t = some (.struct fs)) : Opn enc P W t (fun cs => cs.length = P.cellsOf t) := fun fuel cs x hx => by
  obtain ⟨_, _, _, _, hl, _⟩ := DataW.trod_struct hs hx
  exact hl
theorem Opn.field {t : TypeId} {fs : Array Field} (hs : P.underlying t = some (.struct fs)) (i : Nat) (f : Field) (hf : fs[i]? = some f) (o s : Nat) (ho : f.offset = o) (hz : P.cellsOf f.type = s) {Rd : List Value → Prop} (h : Opn enc P W f.type Rd) : Opn enc P W t (fun cs => Rd ((cs.drop o).take s)) := fun fuel cs x hx => by
  obtain ⟨xs, n, _, _, _, hlen, hg⟩ := DataW.trod_struct hs hx
  have hi : i < xs.length := by rw [hlen]; exact (Array.getElem?_eq_some_iff.1 hf).1
  have := hg i f hf
  rw [List.getElem?_eq_getElem hi, ho, hz] at this
  exact h n _ _ this
/-- a slice of integers -/
theorem Opn.ints {t e : TypeId} {k : IntKind} (ht : P.underlying t = some (.slice e)) (he : P.underlying e = some (.int k)) (hc : P.cellsOf e = 1) : Opn enc P W t (fun cs => ∃ v zs, cs = [v] ∧ Sl k W v zs) := fun fuel cs x hx => by
  rcases open_ints ht he hc hx with ⟨hcs, _⟩ | ⟨y, l, c, zs, hcs, _, hl, hm, hz, _, hcell, hwz⟩
  · exact ⟨.slice none 0 0, [], hcs, Sl.nil _ _⟩
  · exact ⟨.slice (some y) l c, zs.take l, hcs, Sl.of_row hl hm (by simpa using hz) hwz (fun z hy => by simp only [Option.some.injEq] at hy; subst hy; exact hcell) (fun hy => by simp at hy)⟩
/-- a slice of whatever is opened -/
theorem Opn.rows {t e : TypeId} {α : Type} {c : α → List Value} {K : Nat} {R : α → Prop} (ht : P.underlying t = some (.slice e)) (hK : 0 < K) (hC : P.cellsOf e = K) (hcl : ∀ y, (c y).length = K) (h : Opn enc P W e (fun cs => ∃ y, cs = c y ∧ R y)) :
    Opn enc P W t (fun cs => ∃ v ys, cs = [v] ∧ SlC c K W v ys ∧ ∀ y ∈ ys, R y) := fun fuel cs x hx => by
  rcases open_slice ht hx with ⟨e1, _⟩ | ⟨a', len', cap', m, n, D, Pl, e1, _, hl, hm, hmm, _, hi⟩
  · exact ⟨_, [], e1, ⟨none, 0, rfl, Nat.le_refl _, by simp, .inl ⟨rfl, fun _ => rfl⟩⟩, fun y hy => by cases hy⟩
  · simp only [if_true] at hmm
    subst hmm
    have one : ∀ i, i < len' → ∃ y : α, R y ∧ ∀ j, j < K → W.cell? ((a'.add (i * K)).add j) = (c y)[j]? := fun i hil => by
      obtain ⟨cs', hc, ht'⟩ := hi i (by omega)
      rw [hC] at hc
      obtain ⟨_, hcl', hat⟩ := World.cells?_some hc
      obtain ⟨y, e2, hR⟩ := h _ _ _ ht'
      refine ⟨y, hR, fun j hj => ?_⟩
      rw [hat j hj, e2]
    by_cases h0 : len' = 0
    · subst h0
      exact ⟨_, [], e1, ⟨_, _, rfl, by simp, hm, .inl ⟨rfl, fun hn => by cases hn⟩⟩, fun y hy => by cases hy⟩
    · obtain ⟨F, hF⟩ := Classical.axiomOfChoice (fun (i : Fin len') => one i.1 i.2)
      obtain ⟨b, off, spot⟩ := a'
      have hc0 := (hF ⟨0, by omega⟩).2 0 hK
      rw [List.getElem?_eq_getElem (by rw [hcl]; exact hK)] at hc0
      have hspot : spot = none := by simpa [Addr.add] using World.cell?_spot hc0
      subst hspot
      refine ⟨_, List.ofFn F, e1, ⟨some ⟨b, off, none⟩, _, by simp, by simpa using hl, hm, .inr ⟨b, off, rfl, ?_, ?_⟩⟩, ?_⟩
      · by_cases hbl : b < W.heap.size
        · exact hbl
        · simp [Addr.add, World.cell?, Array.getElem?_eq_none (by omega : W.heap.size ≤ b)] at hc0
      · intro i x hix j hj
        rw [List.getElem?_ofFn] at hix
        split at hix
        · rename_i hil
          cases hix
          have := (hF ⟨i, hil⟩).2 j hj
          simp only [Go.WideShapes.add_plain] at this
          exact this
        · cases hix
      · intro y hy
        obtain ⟨i, rfl⟩ := List.mem_ofFn.1 hy
        exact (hF i).1
/-- an argument that is a slice -/
theorem Opn.arg {r : Reach} {b0 : Nat} {t e : TypeId} {v : Value} {d : DataW H} {p : List MemPlace} {Rd : List Value → Prop} (ht : P.underlying t = some (.slice e)) (hv : Value.okWide P W r b0 t v) (h : DataW.Trod enc P W 0 (fun _ => true) true t v d p) (ho : Opn enc P W t Rd) : Rd [v] := by
  obtain ⟨a, len, cap, rfl⟩ := okWide_slice ht hv
  obtain ⟨fuel, hf⟩ := h
  exact ho fuel _ _ hf
/-- .. and one that is a struct -/
theorem Opn.args {r : Reach} {b0 : Nat} {t : TypeId} {fs : Array Field} {v : Value} {d : DataW H} {p : List MemPlace} {Rd : List Value → Prop} (ht : P.underlying t = some (.struct fs)) (hv : Value.okWide P W r b0 t v) (h : DataW.Trod enc P W 0 (fun _ => true) true t v d p) (ho : Opn enc P W t Rd) : ∃ cs : List Value, v = .agg cs.toArray ∧ Rd cs := by
  obtain ⟨cs, rfl, hsz⟩ := okWide_struct ht hv
  obtain ⟨fuel, hf⟩ := h
  exact ⟨cs.toList, by simp, ho fuel _ _ hf⟩
end
end Go.Proofs.Ytiappeagdnkedaa
