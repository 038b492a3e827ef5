
/-
  How arguments that are frames are opened: two of them by value.
-/
import Derived.Test.YtfdkbaekohaaoaaFrame
import Derived.Test.YtfdkbaekohaaoaaFrameList
import Derived.Deep.Slices
import Derived.Deep.Fields
import Derived.ChangeSame
namespace Go.Proofs.Ytfdkbaekohaaoaa
open Go.ChangeShapes Go.WideShapes Go.ChangeAt Go.RowKit Go.Joins Go.Deep

section
variable {H : Type} {enc : TypeId × Value → H} {P : Program} {W : World}

/-- a cell that is a slice of bytes -/
theorem sl_cell {t e : TypeId} {v : Value} {n : Nat} {x : DataW H × List MemPlace} (ht : P.underlying t = some (.slice e)) (he : P.underlying e = some (.int .u8)) (hc : P.cellsOf e = 1)
    (h : DataW.trod enc P W 0 (fun _ => true) true n t [v] = some x) : ∃ zs, Sl .u8 W v zs := by
  rcases DataW.trod_slice ht h with ⟨e1, _⟩ | ⟨a, len, cap, _, _, _, _, e1, _⟩
  · simp only [List.cons.injEq, and_true] at e1
    subst e1
    exact ⟨[], Sl.nil _ _⟩
  · simp only [List.cons.injEq, and_true] at e1
    subst e1
    obtain ⟨d, p⟩ := x
    exact sl_open ht he hc ⟨n, h⟩
/-- the four cells of a frame -/
theorem frame_open {t eb : TypeId} {f0 f1 f2 f3 : Field} {c0 c1 c2 c3 : Value} {fuel : Nat} {x : DataW H × List MemPlace} (hs : P.underlying t = some (.struct #[f0, f1, f2, f3])) (hone : oneCellFields P #[f0, f1, f2, f3] = true)
    (k0 : P.underlying f0.type = some (.int .i64)) (k1 : P.underlying f1.type = some (.int .i64)) (k2 : P.underlying f2.type = some (.int .i64)) (k3 : P.underlying f3.type = some (.slice eb)) (kb : P.underlying eb = some (.int .u8)) (hb : P.cellsOf eb = 1)
    (h : DataW.trod enc P W 0 (fun _ => true) true fuel t [c0, c1, c2, c3] = some x) : ∃ f : Fr, c0 = .int .i64 f.kind ∧ c1 = .int .i64 f.flags ∧ c2 = .int .i64 f.stream ∧ Sl .u8 W c3 f.pay := by
  obtain ⟨xs, n, _, _, _, hlen, hg⟩ := DataW.trod_struct hs h
  obtain ⟨o0, l0⟩ := hone_of hone 0 f0 rfl
  obtain ⟨o1, l1⟩ := hone_of hone 1 f1 rfl
  obtain ⟨o2, l2⟩ := hone_of hone 2 f2 rfl
  obtain ⟨o3, l3⟩ := hone_of hone 3 f3 rfl
  match xs, hlen with
  | [y0, y1, y2, y3], _ =>
    have g0 : DataW.trod enc P W 0 (fun _ => true) true n f0.type [c0] = some y0 := by simpa [o0, l0] using hg 0 f0 rfl
    have g1 : DataW.trod enc P W 0 (fun _ => true) true n f1.type [c1] = some y1 := by simpa [o1, l1] using hg 1 f1 rfl
    have g2 : DataW.trod enc P W 0 (fun _ => true) true n f2.type [c2] = some y2 := by simpa [o2, l2] using hg 2 f2 rfl
    have g3 : DataW.trod enc P W 0 (fun _ => true) true n f3.type [c3] = some y3 := by simpa [o3, l3] using hg 3 f3 rfl
    obtain ⟨a0, e0, _, _⟩ := DataW.trod_int k0 g0
    obtain ⟨a1, e1, _, _⟩ := DataW.trod_int k1 g1
    obtain ⟨a2, e2, _, _⟩ := DataW.trod_int k2 g2
    obtain ⟨zs, hz⟩ := sl_cell k3 kb hb g3
    simp only [List.cons.injEq, and_true] at e0 e1 e2
    exact ⟨⟨a0, a1, a2, zs⟩, e0, e1, e2, hz⟩
/-- two frames, by value -/
theorem frames2_open {r : Reach} {b0 : Nat} {t e eb : TypeId} {f0 f1 f2 f3 : Field} {v : Value} {d : DataW H} {p : List MemPlace} (ht : P.underlying t = some (.array 2 e)) (hs : P.underlying e = some (.struct #[f0, f1, f2, f3])) (hone : oneCellFields P #[f0, f1, f2, f3] = true)
    (k0 : P.underlying f0.type = some (.int .i64)) (k1 : P.underlying f1.type = some (.int .i64)) (k2 : P.underlying f2.type = some (.int .i64)) (k3 : P.underlying f3.type = some (.slice eb)) (kb : P.underlying eb = some (.int .u8)) (hb : P.cellsOf eb = 1) (hC : P.cellsOf e = 4) (hC2 : P.cellsOf t = 8)
    (hv : Value.okWide P W r b0 t v) (h : DataW.Trod enc P W 0 (fun _ => true) true t v d p) :
    ∃ (f o : Fr) (pf po : Value), v = .agg #[.int .i64 f.kind, .int .i64 f.flags, .int .i64 f.stream, pf, .int .i64 o.kind, .int .i64 o.flags, .int .i64 o.stream, po] ∧ Sl .u8 W pf f.pay ∧ Sl .u8 W po o.pay := by
  obtain ⟨cs, rfl, hsz⟩ := okWide_array ht hv
  obtain ⟨l⟩ := cs
  rw [hC2] at hsz
  match l, hsz with
  | [c0, c1, c2, c3, c4, c5, c6, c7], _ =>
    obtain ⟨fuel, hf⟩ := h
    obtain ⟨xs, m, _, _, _, hl, hi⟩ := DataW.trod_array ht hf
    match xs, hl with
    | [y0, y1], _ =>
      have g0 : DataW.trod enc P W 0 (fun _ => true) true m e [c0, c1, c2, c3] = some y0 := by simpa [hC, Value.cells] using hi 0 (by omega)
      have g1 : DataW.trod enc P W 0 (fun _ => true) true m e [c4, c5, c6, c7] = some y1 := by simpa [hC, Value.cells] using hi 1 (by omega)
      obtain ⟨f, rfl, rfl, rfl, hpf⟩ := frame_open hs hone k0 k1 k2 k3 kb hb g0
      obtain ⟨o, rfl, rfl, rfl, hpo⟩ := frame_open hs hone k0 k1 k2 k3 kb hb g1
      exact ⟨f, o, c3, c7, rfl, hpf, hpo⟩
/-- a slice of frames -/
theorem framesl_open {r : Reach} {b0 : Nat} {t e eb : TypeId} {f0 f1 f2 f3 : Field} {v : Value} {d : DataW H} {p : List MemPlace} (ht : P.underlying t = some (.slice e)) (hs : P.underlying e = some (.struct #[f0, f1, f2, f3])) (hone : oneCellFields P #[f0, f1, f2, f3] = true)
    (k0 : P.underlying f0.type = some (.int .i64)) (k1 : P.underlying f1.type = some (.int .i64)) (k2 : P.underlying f2.type = some (.int .i64)) (k3 : P.underlying f3.type = some (.slice eb)) (kb : P.underlying eb = some (.int .u8)) (hb : P.cellsOf eb = 1) (hC : P.cellsOf e = 4)
    (hv : Value.okWide P W r b0 t v) (h : DataW.Trod enc P W 0 (fun _ => true) true t v d p) : ∃ ps, SlF W v ps := by
  obtain ⟨a, len, cap, rfl⟩ := okWide_slice ht hv
  obtain ⟨fuel, hf⟩ := h
  simp only [Value.cells] at hf
  rcases open_slice ht hf with ⟨e1, _⟩ | ⟨a', len', cap', m, n, D, Pl, e1, _, hl, hm, hmm, _, hi⟩
  · simp only [List.cons.injEq, and_true, Value.slice.injEq] at e1
    obtain ⟨rfl, rfl, rfl⟩ := e1
    exact ⟨[], SlF.nil W⟩
  · simp only [List.cons.injEq, and_true, Value.slice.injEq] at e1
    obtain ⟨rfl, rfl, rfl⟩ := e1
    simp only [if_true] at hmm
    subst hmm
    have one : ∀ i, i < len → ∃ (f : Fr) (pv : Value), Sl .u8 W pv f.pay ∧ W.cell? (a'.add (i * 4)) = some (.int .i64 f.kind) ∧ W.cell? ((a'.add (i * 4)).add 1) = some (.int .i64 f.flags) ∧ W.cell? ((a'.add (i * 4)).add 2) = some (.int .i64 f.stream) ∧ W.cell? ((a'.add (i * 4)).add 3) = some pv := fun i hil => by
      obtain ⟨cs, hc, ht'⟩ := hi i (by omega)
      rw [hC] at hc
      obtain ⟨_, hcl, hat⟩ := World.cells?_some hc
      match cs, hcl with
      | [c0, c1, c2, c3], _ =>
        obtain ⟨f, rfl, rfl, rfl, hp⟩ := frame_open hs hone k0 k1 k2 k3 kb hb ht'
        have h0 := hat 0 (by decide)
        have h1 := hat 1 (by decide)
        have h2 := hat 2 (by decide)
        have h3 := hat 3 (by decide)
        refine ⟨f, c3, hp, ?_, ?_, ?_, ?_⟩
        · simpa [Addr.add] using h0
        · simpa using h1
        · simpa using h2
        · simpa using h3
    by_cases h0 : len = 0
    · subst h0
      exact ⟨[], fun p hp => by simp at hp, _, _, rfl, by simp, hm, .inl ⟨rfl, fun hn => by cases hn⟩⟩
    · obtain ⟨F, hF⟩ := Classical.axiomOfChoice (fun (i : Fin len) => one i.1 i.2)
      obtain ⟨G, hG⟩ := Classical.axiomOfChoice hF
      obtain ⟨b, off, spot⟩ := a'
      have hc0 := (hG ⟨0, by omega⟩).2.1
      have hspot : spot = none := by simpa [Addr.add] using World.cell?_spot hc0
      subst hspot
      refine ⟨List.ofFn (fun i => (F i, G i)), ?_, some ⟨b, off, none⟩, _, by simp, by simpa using hl, hm, .inr ⟨b, off, rfl, ?_, ?_⟩⟩
      · intro p hp
        obtain ⟨i, rfl⟩ := List.mem_ofFn.1 hp
        exact (hG i).1
      · by_cases hbl : b < W.heap.size
        · exact hbl
        · simp [Addr.add, World.cell?, Array.getElem?_eq_none (by omega : W.heap.size ≤ b)] at hc0
      · intro i p hip
        rw [List.getElem?_ofFn] at hip
        split at hip
        · rename_i hil
          cases hip
          have := (hG ⟨i, hil⟩).2
          simp only [Go.WideShapes.add_plain] at this
          exact this
        · cases hip
end

end Go.Proofs.Ytfdkbaekohaaoaa
