
/-
  How an argument that is a slice of acts of layer 14 (a byte, a number, a slice of frames) is opened. No function of the program is named here.
-/
import Derived.Test.YtfdkbaekohaaoaaFrameOpen
import Derived.Test.YtfdkbaekohaaoaaLaw14a
namespace Go.Proofs.Ytfdkbaekohaaoaa
open Go.ChangeShapes Go.WideShapes Go.ChangeAt Go.RowKit Go.Joins Go.Deep

section
variable {H : Type} {enc : TypeId × Value → H} {P : Program} {W : World}
/-- a cell that is a slice of frames -/
theorem framesl_cell {t e eb : TypeId} {f0 f1 f2 f3 : Field} {v : Value} {fuel : Nat} {x : DataW H × List MemPlace} (ht : P.underlying t = some (.slice e)) (hs : P.underlying e = some (.struct #[f0, f1, f2, f3])) (hone : oneCellFields P #[f0, f1, f2, f3] = true)
    (k0 : P.underlying f0.type = some (.int .i64)) (k1 : P.underlying f1.type = some (.int .i64)) (k2 : P.underlying f2.type = some (.int .i64)) (k3 : P.underlying f3.type = some (.slice eb)) (kb : P.underlying eb = some (.int .u8)) (hb : P.cellsOf eb = 1) (hC : P.cellsOf e = 4)
    (hf : DataW.trod enc P W 0 (fun _ => true) true fuel t [v] = some x) : ∃ ps, SlF W v ps := by
  obtain ⟨a, len, cap, rfl⟩ : ∃ a len cap, v = .slice a len cap := by
    rcases DataW.trod_slice ht hf with ⟨e1, _⟩ | ⟨a, len, cap, _, _, _, _, e1, _⟩
    · simp only [List.cons.injEq, and_true] at e1; exact ⟨_, _, _, e1⟩
    · simp only [List.cons.injEq, and_true] at e1; exact ⟨_, _, _, e1⟩
  obtain ⟨d, p⟩ := x
  rcases open_slice ht hf with ⟨e1, _⟩ | ⟨a', len', cap', m, n, D, Pl, e1, _, hl, hm, hmm, _, hi⟩
  · simp only [List.cons.injEq, and_true, Value.slice.injEq] at e1
    obtain ⟨rfl, rfl, rfl⟩ := e1
    exact ⟨[], SlF.nil W⟩
  · simp only [List.cons.injEq, and_true, Value.slice.injEq] at e1
    obtain ⟨rfl, rfl, rfl⟩ := e1
    simp only [if_true] at hmm
    subst hmm
    have one : ∀ i, i < len → ∃ (f : Fr) (pv : Value), Sl .u8 W pv f.pay ∧ W.cell? (a'.add (i * 4)) = some (.int .i64 f.kind) ∧ W.cell? ((a'.add (i * 4)).add 1) = some (.int .i64 f.flags) ∧ W.cell? ((a'.add (i * 4)).add 2) = some (.int .i64 f.stream) ∧ W.cell? ((a'.add (i * 4)).add 3) = some pv := fun i hil => by
      obtain ⟨cs, hc, ht'⟩ := hi i (by omega)
      rw [hC] at hc
      obtain ⟨_, hcl, hat⟩ := World.cells?_some hc
      match cs, hcl with
      | [c0, c1, c2, c3], _ =>
        obtain ⟨f, rfl, rfl, rfl, hp⟩ := frame_open hs hone k0 k1 k2 k3 kb hb ht'
        have h0 := hat 0 (by decide)
        have h1 := hat 1 (by decide)
        have h2 := hat 2 (by decide)
        have h3 := hat 3 (by decide)
        refine ⟨f, c3, hp, ?_, ?_, ?_, ?_⟩
        · simpa [Addr.add] using h0
        · simpa using h1
        · simpa using h2
        · simpa using h3
    by_cases h0 : len = 0
    · subst h0
      exact ⟨[], fun p hp => by simp at hp, _, _, rfl, by simp, hm, .inl ⟨rfl, fun hn => by cases hn⟩⟩
    · obtain ⟨F, hF⟩ := Classical.axiomOfChoice (fun (i : Fin len) => one i.1 i.2)
      obtain ⟨G, hG⟩ := Classical.axiomOfChoice hF
      obtain ⟨b, off, spot⟩ := a'
      have hc0 := (hG ⟨0, by omega⟩).2.1
      have hspot : spot = none := by simpa [Addr.add] using World.cell?_spot hc0
      subst hspot
      refine ⟨List.ofFn (fun i => (F i, G i)), ?_, some ⟨b, off, none⟩, _, by simp, by simpa using hl, hm, .inr ⟨b, off, rfl, ?_, ?_⟩⟩
      · intro p hp
        obtain ⟨i, rfl⟩ := List.mem_ofFn.1 hp
        exact (hG i).1
      · by_cases hbl : b < W.heap.size
        · exact hbl
        · simp [Addr.add, World.cell?, Array.getElem?_eq_none (by omega : W.heap.size ≤ b)] at hc0
      · intro i p hip
        rw [List.getElem?_ofFn] at hip
        split at hip
        · rename_i hil
          cases hip
          have := (hG ⟨i, hil⟩).2
          simp only [Go.WideShapes.add_plain] at this
          exact this
        · cases hip
/-- the three cells of an act -/
theorem act14_open {t e eb ef : TypeId} {f0 f1 f2 g0 g1 g2 g3 : Field} {c0 c1 c2 : Value} {fuel : Nat} {x : DataW H × List MemPlace} (hs : P.underlying t = some (.struct #[f0, f1, f2])) (hone : oneCellFields P #[f0, f1, f2] = true)
    (k0 : P.underlying f0.type = some (.int .u8)) (k1 : P.underlying f1.type = some (.int .i64)) (k2 : P.underlying f2.type = some (.slice ef)) (hsf : P.underlying ef = some (.struct #[g0, g1, g2, g3])) (honef : oneCellFields P #[g0, g1, g2, g3] = true)
    (m0 : P.underlying g0.type = some (.int .i64)) (m1 : P.underlying g1.type = some (.int .i64)) (m2 : P.underlying g2.type = some (.int .i64)) (m3 : P.underlying g3.type = some (.slice eb)) (kb : P.underlying eb = some (.int .u8)) (hb : P.cellsOf eb = 1) (hC : P.cellsOf ef = 4)
    (_he : e = e) (h : DataW.trod enc P W 0 (fun _ => true) true fuel t [c0, c1, c2] = some x) : ∃ (k n : Int) (l : List (Fr × Value)), c0 = .int .u8 k ∧ 0 ≤ k ∧ k ≤ 255 ∧ c1 = .int .i64 n ∧ SlF W c2 l := by
  obtain ⟨xs, n, _, _, _, hlen, hg⟩ := DataW.trod_struct hs h
  obtain ⟨o0, l0⟩ := hone_of hone 0 f0 rfl
  obtain ⟨o1, l1⟩ := hone_of hone 1 f1 rfl
  obtain ⟨o2, l2⟩ := hone_of hone 2 f2 rfl
  match xs, hlen with
  | [y0, y1, y2], _ =>
    have q0 : DataW.trod enc P W 0 (fun _ => true) true n f0.type [c0] = some y0 := by simpa [o0, l0] using hg 0 f0 rfl
    have q1 : DataW.trod enc P W 0 (fun _ => true) true n f1.type [c1] = some y1 := by simpa [o1, l1] using hg 1 f1 rfl
    have q2 : DataW.trod enc P W 0 (fun _ => true) true n f2.type [c2] = some y2 := by simpa [o2, l2] using hg 2 f2 rfl
    obtain ⟨a0, e0, _, h02⟩ := DataW.trod_int k0 q0
    obtain ⟨a1, e1, _, _⟩ := DataW.trod_int k1 q1
    obtain ⟨ps, hp⟩ := framesl_cell k2 hsf honef m0 m1 m2 m3 kb hb hC q2
    simp only [List.cons.injEq, and_true] at e0 e1
    have hb0 : 0 ≤ a0 ∧ a0 ≤ 255 := bounds_u8 h02
    exact ⟨a0, a1, ps, e0, hb0.1, hb0.2, e1, hp⟩
/-- a slice of acts -/
theorem acts14_open {r : Reach} {b0 : Nat} {t e eb ef : TypeId} {f0 f1 f2 g0 g1 g2 g3 : Field} {v : Value} {d : DataW H} {p : List MemPlace} (ht : P.underlying t = some (.slice e)) (hs : P.underlying e = some (.struct #[f0, f1, f2])) (hone : oneCellFields P #[f0, f1, f2] = true)
    (k0 : P.underlying f0.type = some (.int .u8)) (k1 : P.underlying f1.type = some (.int .i64)) (k2 : P.underlying f2.type = some (.slice ef)) (hsf : P.underlying ef = some (.struct #[g0, g1, g2, g3])) (honef : oneCellFields P #[g0, g1, g2, g3] = true)
    (m0 : P.underlying g0.type = some (.int .i64)) (m1 : P.underlying g1.type = some (.int .i64)) (m2 : P.underlying g2.type = some (.int .i64)) (m3 : P.underlying g3.type = some (.slice eb)) (kb : P.underlying eb = some (.int .u8)) (hb : P.cellsOf eb = 1) (hCf : P.cellsOf ef = 4) (hC : P.cellsOf e = 3)
    (hv : Value.okWide P W r b0 t v) (h : DataW.Trod enc P W 0 (fun _ => true) true t v d p) : ∃ ys, SlA14 W v ys := by
  obtain ⟨a, len, cap, rfl⟩ := okWide_slice ht hv
  obtain ⟨fuel, hf⟩ := h
  simp only [Value.cells] at hf
  rcases open_slice ht hf with ⟨e1, _⟩ | ⟨a', len', cap', m, n, D, Pl, e1, _, hl, hm, hmm, _, hi⟩
  · simp only [List.cons.injEq, and_true, Value.slice.injEq] at e1
    obtain ⟨rfl, rfl, rfl⟩ := e1
    exact ⟨[], ⟨none, 0, rfl, Nat.le_refl _, by simp, .inl ⟨rfl, fun _ => rfl⟩⟩, fun x hx => by cases hx⟩
  · simp only [List.cons.injEq, and_true, Value.slice.injEq] at e1
    obtain ⟨rfl, rfl, rfl⟩ := e1
    simp only [if_true] at hmm
    subst hmm
    have one : ∀ i, i < len → ∃ (c : A14), (SlF W c.lv c.l ∧ 0 ≤ c.k ∧ c.k ≤ 255) ∧ W.cell? (a'.add (i * 3)) = some (.int .u8 c.k) ∧ W.cell? ((a'.add (i * 3)).add 1) = some (.int .i64 c.n) ∧ W.cell? ((a'.add (i * 3)).add 2) = some c.lv := fun i hil => by
      obtain ⟨cs, hc, ht'⟩ := hi i (by omega)
      rw [hC] at hc
      obtain ⟨_, hcl, hat⟩ := World.cells?_some hc
      match cs, hcl with
      | [c0, c1, c2], _ =>
        obtain ⟨z, a, l, rfl, h0, h1, rfl, hl'⟩ := act14_open (e := e) hs hone k0 k1 k2 hsf honef m0 m1 m2 m3 kb hb hCf rfl ht'
        refine ⟨⟨z, a, l, c2⟩, ⟨hl', h0, h1⟩, ?_, ?_, ?_⟩
        · simpa [Addr.add] using hat 0 (by decide)
        · simpa using hat 1 (by decide)
        · simpa using hat 2 (by decide)
    by_cases h0 : len = 0
    · subst h0
      exact ⟨[], ⟨_, _, rfl, by simp, hm, .inl ⟨rfl, fun hn => by cases hn⟩⟩, fun x hx => by cases hx⟩
    · obtain ⟨F, hF⟩ := Classical.axiomOfChoice (fun (i : Fin len) => one i.1 i.2)
      obtain ⟨b, off, spot⟩ := a'
      have hc0 := (hF ⟨0, by omega⟩).2.1
      have hspot : spot = none := by simpa [Addr.add] using World.cell?_spot hc0
      subst hspot
      refine ⟨List.ofFn F, ⟨some ⟨b, off, none⟩, _, by simp, by simpa using hl, hm, .inr ⟨b, off, rfl, ?_, ?_⟩⟩, ?_⟩
      · by_cases hbl : b < W.heap.size
        · exact hbl
        · simp [Addr.add, World.cell?, Array.getElem?_eq_none (by omega : W.heap.size ≤ b)] at hc0
      · intro i x hix j hj
        rw [List.getElem?_ofFn] at hix
        split at hix
        · rename_i hil
          cases hix
          have := (hF ⟨i, hil⟩).2
          simp only [Go.WideShapes.add_plain] at this
          match j, hj with
          | 0, _ => exact this.1
          | 1, _ => exact this.2.1
          | 2, _ => exact this.2.2
        · cases hix
      · intro x hx
        obtain ⟨i, rfl⟩ := List.mem_ofFn.1 hx
        exact (hF i).1
end
end Go.Proofs.Ytfdkbaekohaaoaa
