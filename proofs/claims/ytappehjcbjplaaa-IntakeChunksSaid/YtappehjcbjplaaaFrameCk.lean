
/-
  How an argument that is a slice of chunks (a slice of bytes and a byte) is opened. No function of the program is named here.
-/
import Derived.Test.YtappehjcbjplaaaFrameOpen
import Derived.Test.YtappehjcbjplaaaLaw13b
namespace Go.Proofs.Ytappehjcbjplaaa
open Go.ChangeShapes Go.WideShapes Go.ChangeAt Go.RowKit Go.Joins Go.Deep

section
variable {H : Type} {enc : TypeId × Value → H} {P : Program} {W : World}
/-- the two cells of a chunk -/
theorem chunk_open {t eb : TypeId} {f0 f1 : Field} {c0 c1 : Value} {fuel : Nat} {x : DataW H × List MemPlace} (hs : P.underlying t = some (.struct #[f0, f1])) (hone : oneCellFields P #[f0, f1] = true)
    (k0 : P.underlying f0.type = some (.slice eb)) (k1 : P.underlying f1.type = some (.int .u8)) (kb : P.underlying eb = some (.int .u8)) (hb : P.cellsOf eb = 1)
    (h : DataW.trod enc P W 0 (fun _ => true) true fuel t [c0, c1] = some x) : ∃ (z : List Int) (a : Int), Sl .u8 W c0 z ∧ c1 = .int .u8 a ∧ 0 ≤ a ∧ a ≤ 255 := by
  obtain ⟨xs, n, _, _, _, hlen, hg⟩ := DataW.trod_struct hs h
  obtain ⟨o0, l0⟩ := hone_of hone 0 f0 rfl
  obtain ⟨o1, l1⟩ := hone_of hone 1 f1 rfl
  match xs, hlen with
  | [y0, y1], _ =>
    have g0 : DataW.trod enc P W 0 (fun _ => true) true n f0.type [c0] = some y0 := by simpa [o0, l0] using hg 0 f0 rfl
    have g1 : DataW.trod enc P W 0 (fun _ => true) true n f1.type [c1] = some y1 := by simpa [o1, l1] using hg 1 f1 rfl
    obtain ⟨zs, hz⟩ := sl_cell k0 kb hb g0
    obtain ⟨a1, e1, h1, h2⟩ := DataW.trod_int k1 g1
    simp only [List.cons.injEq, and_true] at e1
    have hb1 : 0 ≤ a1 ∧ a1 ≤ 255 := bounds_u8 h2
    exact ⟨zs, a1, hz, e1, hb1.1, hb1.2⟩
/-- a slice of chunks -/
theorem chunks_open {r : Reach} {b0 : Nat} {t e eb : TypeId} {f0 f1 : Field} {v : Value} {d : DataW H} {p : List MemPlace} (ht : P.underlying t = some (.slice e)) (hs : P.underlying e = some (.struct #[f0, f1])) (hone : oneCellFields P #[f0, f1] = true)
    (k0 : P.underlying f0.type = some (.slice eb)) (k1 : P.underlying f1.type = some (.int .u8)) (kb : P.underlying eb = some (.int .u8)) (hb : P.cellsOf eb = 1) (hC : P.cellsOf e = 2)
    (hv : Value.okWide P W r b0 t v) (h : DataW.Trod enc P W 0 (fun _ => true) true t v d p) : ∃ cs, SlK W v cs := by
  obtain ⟨a, len, cap, rfl⟩ := okWide_slice ht hv
  obtain ⟨fuel, hf⟩ := h
  simp only [Value.cells] at hf
  rcases open_slice ht hf with ⟨e1, _⟩ | ⟨a', len', cap', m, n, D, Pl, e1, _, hl, hm, hmm, _, hi⟩
  · simp only [List.cons.injEq, and_true, Value.slice.injEq] at e1
    obtain ⟨rfl, rfl, rfl⟩ := e1
    exact ⟨[], ⟨none, 0, rfl, Nat.le_refl _, by simp, .inl ⟨rfl, fun _ => rfl⟩⟩, fun x hx => by cases hx⟩
  · simp only [List.cons.injEq, and_true, Value.slice.injEq] at e1
    obtain ⟨rfl, rfl, rfl⟩ := e1
    simp only [if_true] at hmm
    subst hmm
    have one : ∀ i, i < len → ∃ (c : Ck), Sl .u8 W c.bv c.b ∧ 0 ≤ c.n ∧ c.n ≤ 255 ∧ W.cell? (a'.add (i * 2)) = some c.bv ∧ W.cell? ((a'.add (i * 2)).add 1) = some (.int .u8 c.n) := fun i hil => by
      obtain ⟨cs, hc, ht'⟩ := hi i (by omega)
      rw [hC] at hc
      obtain ⟨_, hcl, hat⟩ := World.cells?_some hc
      match cs, hcl with
      | [c0, c1], _ =>
        obtain ⟨z, a, hz, rfl, h0, h1⟩ := chunk_open hs hone k0 k1 kb hb ht'
        refine ⟨⟨z, c0, a⟩, hz, h0, h1, ?_, ?_⟩
        · simpa [Addr.add] using hat 0 (by decide)
        · simpa using hat 1 (by decide)
    by_cases h0 : len = 0
    · subst h0
      exact ⟨[], ⟨_, _, rfl, by simp, hm, .inl ⟨rfl, fun hn => by cases hn⟩⟩, fun x hx => by cases hx⟩
    · obtain ⟨F, hF⟩ := Classical.axiomOfChoice (fun (i : Fin len) => one i.1 i.2)
      obtain ⟨b, off, spot⟩ := a'
      have hc0 := (hF ⟨0, by omega⟩).2.2.2.1
      have hspot : spot = none := by simpa [Addr.add] using World.cell?_spot hc0
      subst hspot
      refine ⟨List.ofFn F, ⟨some ⟨b, off, none⟩, _, by simp, by simpa using hl, hm, .inr ⟨b, off, rfl, ?_, ?_⟩⟩, ?_⟩
      · by_cases hbl : b < W.heap.size
        · exact hbl
        · simp [Addr.add, World.cell?, Array.getElem?_eq_none (by omega : W.heap.size ≤ b)] at hc0
      · intro i x hix j hj
        rw [List.getElem?_ofFn] at hix
        split at hix
        · rename_i hil
          cases hix
          have := (hF ⟨i, hil⟩).2.2.2
          simp only [Go.WideShapes.add_plain] at this
          match j, hj with
          | 0, _ => exact this.1
          | 1, _ => exact this.2
        · cases hix
      · intro x hx
        obtain ⟨i, rfl⟩ := List.mem_ofFn.1 hx
        exact ⟨(hF i).1, (hF i).2.1, (hF i).2.2.1⟩
end
end Go.Proofs.Ytappehjcbjplaaa
