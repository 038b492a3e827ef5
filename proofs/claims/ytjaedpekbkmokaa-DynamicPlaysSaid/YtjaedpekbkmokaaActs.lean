
/-
  Acts on a table (a byte, a field, a number): slices of them that come in. No function of the program is named here.
-/
import Derived.Test.YtjaedpekbkmokaaDynKit
import Derived.Test.YtjaedpekbkmokaaFrameFld
namespace Go.Proofs.Ytjaedpekbkmokaa
open Go.ChangeShapes Go.WideShapes Go.ChangeAt Go.RowKit Go.Joins Go.Deep

structure Act7 where
  kind : Int
  f : Fd
  n : Int
/-- the cells of one act at an address -/
def actAt (w : World) (b o : Nat) (x : Act7) : Prop :=
  w.cell? ⟨b, o, none⟩ = some (.int .u8 x.kind) ∧ w.cell? ⟨b, o + 1, none⟩ = some (.string x.f.1) ∧ w.cell? ⟨b, o + 2, none⟩ = some (.string x.f.2) ∧ w.cell? ⟨b, o + 3, none⟩ = some (.int .i64 x.n)
/-- its numbers are what they may be -/
def Act7.ok (x : Act7) : Prop := (Lit.int .u8 x.kind).wf = true ∧ (Lit.int .i64 x.n).wf = true ∧ x.f.1.size ≤ maxLen ∧ x.f.2.size ≤ maxLen
/-- the value 'v' is a slice that reads as these acts -/
def SlA (w : World) (v : Value) (xs : List Act7) : Prop :=
  (∀ x ∈ xs, x.ok) ∧ ∃ a cap, v = .slice a xs.length cap ∧ xs.length ≤ cap ∧ cap ≤ maxLen ∧
    ((xs.length = 0 ∧ (a = none → cap = 0)) ∨ ∃ b off, a = some ⟨b, off, none⟩ ∧ b < w.heap.size ∧ ∀ (i : Nat) (x : Act7), xs[i]? = some x → actAt w b (off + i * 4) x)
theorem SlA.below {w w' : World} {v : Value} {xs : List Act7} (h : SlA w v xs) (hb : Below w.heap.size w w') : SlA w' v xs := by
  obtain ⟨h0, a, cap, rfl, h2, h3, h4⟩ := h
  refine ⟨h0, a, cap, rfl, h2, h3, h4.imp_right ?_⟩
  rintro ⟨b, off, rfl, hl, hc⟩
  exact ⟨b, off, rfl, Nat.lt_of_lt_of_le hl hb.size, fun i x hi => ⟨(hb.cell (p := ⟨b, off + i * 4, none⟩) hl).trans (hc i x hi).1, (hb.cell (p := ⟨b, off + i * 4 + 1, none⟩) hl).trans (hc i x hi).2.1, (hb.cell (p := ⟨b, off + i * 4 + 2, none⟩) hl).trans (hc i x hi).2.2.1, (hb.cell (p := ⟨b, off + i * 4 + 3, none⟩) hl).trans (hc i x hi).2.2.2⟩⟩
theorem SlA.shape {w : World} {v : Value} {xs : List Act7} (h : SlA w v xs) : ∃ a cap, v = .slice a xs.length cap ∧ xs.length ≤ cap ∧ cap ≤ maxLen := by
  obtain ⟨_, a, cap, e, h1, h2, _⟩ := h; exact ⟨a, cap, e, h1, h2⟩
theorem SlA.at_ {w : World} {a : Option Addr} {n cap : Nat} {xs : List Act7} (h : SlA w (.slice a n cap) xs) {i : Nat} (hi : i < xs.length) :
    ∃ b off, a = some ⟨b, off, none⟩ ∧ b < w.heap.size ∧ ∀ x, xs[i]? = some x → actAt w b (off + i * 4) x := by
  obtain ⟨_, a', cap', e, _, _, h3⟩ := h
  simp only [Value.slice.injEq] at e
  obtain ⟨rfl, rfl, rfl⟩ := e
  rcases h3 with ⟨h3, _⟩ | ⟨b, off, rfl, hb, hc⟩
  · omega
  · exact ⟨b, off, rfl, hb, hc i⟩
/-- acts such as are gone through -/
def fitsA (xs : List Act7) : Prop := xs.length ≤ 60 ∧ ∀ x ∈ xs, x.f.1.size ≤ 300 ∧ x.f.2.size ≤ 300
instance (xs : List Act7) : Decidable (fitsA xs) := by unfold fitsA; infer_instance

section
variable {H : Type} {enc : TypeId × Value → H} {P : Program} {W : World}
theorem act_open {t : TypeId} {f0 f1 f2 g0 g1 : Field} {c0 c1 c2 c3 : Value} {fuel : Nat} {x : DataW H × List MemPlace} (hs : P.underlying t = some (.struct #[f0, f1, f2]))
    (o0 : f0.offset = 0 ∧ P.cellsOf f0.type = 1) (o1 : f1.offset = 1 ∧ P.cellsOf f1.type = 2) (o2 : f2.offset = 3 ∧ P.cellsOf f2.type = 1)
    (k0 : P.underlying f0.type = some (.int .u8)) (k2 : P.underlying f2.type = some (.int .i64)) (hs1 : P.underlying f1.type = some (.struct #[g0, g1])) (hone : oneCellFields P #[g0, g1] = true)
    (q0 : P.underlying g0.type = some .string) (q1 : P.underlying g1.type = some .string)
    (h : DataW.trod enc P W 0 (fun _ => true) true fuel t [c0, c1, c2, c3] = some x) : ∃ y : Act7, y.ok ∧ c0 = .int .u8 y.kind ∧ c1 = .string y.f.1 ∧ c2 = .string y.f.2 ∧ c3 = .int .i64 y.n := by
  obtain ⟨xs, n, _, _, _, hlen, hg⟩ := DataW.trod_struct hs h
  match xs, hlen with
  | [y0, y1, y2], _ =>
    have r0 : DataW.trod enc P W 0 (fun _ => true) true n f0.type [c0] = some y0 := by simpa [o0.1, o0.2] using hg 0 f0 rfl
    have r1 : DataW.trod enc P W 0 (fun _ => true) true n f1.type [c1, c2] = some y1 := by simpa [o1.1, o1.2] using hg 1 f1 rfl
    have r2 : DataW.trod enc P W 0 (fun _ => true) true n f2.type [c3] = some y2 := by simpa [o2.1, o2.2] using hg 2 f2 rfl
    obtain ⟨a0, e0, _, m0⟩ := DataW.trod_int k0 r0
    obtain ⟨nm, vl, e1, e2, l1, l2⟩ := fld_cells hs1 hone q0 q1 r1
    obtain ⟨a2, e3, _, m2⟩ := DataW.trod_int k2 r2
    simp only [List.cons.injEq, and_true] at e0 e3
    exact ⟨⟨a0, (nm, vl), a2⟩, ⟨m0, m2, l1, l2⟩, e0, e1, e2, e3⟩
theorem acts_open {r : Reach} {b0 : Nat} {t e : TypeId} {f0 f1 f2 g0 g1 : Field} {v : Value} {d : DataW H} {p : List MemPlace} (ht : P.underlying t = some (.slice e)) (hs : P.underlying e = some (.struct #[f0, f1, f2]))
    (o0 : f0.offset = 0 ∧ P.cellsOf f0.type = 1) (o1 : f1.offset = 1 ∧ P.cellsOf f1.type = 2) (o2 : f2.offset = 3 ∧ P.cellsOf f2.type = 1)
    (k0 : P.underlying f0.type = some (.int .u8)) (k2 : P.underlying f2.type = some (.int .i64)) (hs1 : P.underlying f1.type = some (.struct #[g0, g1])) (hone : oneCellFields P #[g0, g1] = true)
    (q0 : P.underlying g0.type = some .string) (q1 : P.underlying g1.type = some .string) (hC : P.cellsOf e = 4)
    (hv : Value.okWide P W r b0 t v) (h : DataW.Trod enc P W 0 (fun _ => true) true t v d p) : ∃ xs, SlA W v xs := by
  obtain ⟨a, len, cap, rfl⟩ := okWide_slice ht hv
  obtain ⟨fuel, hf⟩ := h
  simp only [Value.cells] at hf
  rcases open_slice ht hf with ⟨e1, _⟩ | ⟨a', len', cap', m, n, D, Pl, e1, _, hl, hm, hmm, _, hi⟩
  · simp only [List.cons.injEq, and_true, Value.slice.injEq] at e1
    obtain ⟨rfl, rfl, rfl⟩ := e1
    exact ⟨[], fun x hx => by simp at hx, none, 0, rfl, Nat.le_refl _, by simp, .inl ⟨rfl, fun _ => rfl⟩⟩
  · simp only [List.cons.injEq, and_true, Value.slice.injEq] at e1
    obtain ⟨rfl, rfl, rfl⟩ := e1
    simp only [if_true] at hmm
    subst hmm
    have one : ∀ i, i < len → ∃ y : Act7, y.ok ∧ W.cell? (a'.add (i * 4)) = some (.int .u8 y.kind) ∧ W.cell? ((a'.add (i * 4)).add 1) = some (.string y.f.1) ∧ W.cell? ((a'.add (i * 4)).add 2) = some (.string y.f.2) ∧ W.cell? ((a'.add (i * 4)).add 3) = some (.int .i64 y.n) := fun i hil => by
      obtain ⟨cs, hc, ht'⟩ := hi i (by omega)
      rw [hC] at hc
      obtain ⟨_, hcl, hat⟩ := World.cells?_some hc
      match cs, hcl with
      | [c0, c1, c2, c3], _ =>
        obtain ⟨y, hok, rfl, rfl, rfl, rfl⟩ := act_open hs o0 o1 o2 k0 k2 hs1 hone q0 q1 ht'
        have h0 := hat 0 (by decide)
        have h1 := hat 1 (by decide)
        have h2 := hat 2 (by decide)
        have h3 := hat 3 (by decide)
        refine ⟨y, hok, ?_, ?_, ?_, ?_⟩
        · simpa [Addr.add] using h0
        · simpa using h1
        · simpa using h2
        · simpa using h3
    by_cases h0 : len = 0
    · subst h0
      exact ⟨[], fun p hp => by simp at hp, _, _, rfl, by simp, hm, .inl ⟨rfl, fun hn => by cases hn⟩⟩
    · obtain ⟨F, hF⟩ := Classical.axiomOfChoice (fun (i : Fin len) => one i.1 i.2)
      obtain ⟨b, off, spot⟩ := a'
      have hc0 := (hF ⟨0, by omega⟩).2.1
      have hspot : spot = none := by simpa [Addr.add] using World.cell?_spot hc0
      subst hspot
      refine ⟨List.ofFn F, ?_, some ⟨b, off, none⟩, _, by simp, by simpa using hl, hm, .inr ⟨b, off, rfl, ?_, ?_⟩⟩
      · intro x hx
        obtain ⟨i, rfl⟩ := List.mem_ofFn.1 hx
        exact (hF i).1
      · by_cases hbl : b < W.heap.size
        · exact hbl
        · simp [Addr.add, World.cell?, Array.getElem?_eq_none (by omega : W.heap.size ≤ b)] at hc0
      · intro i x hix
        rw [List.getElem?_ofFn] at hix
        split at hix
        · rename_i hil
          cases hix
          have := (hF ⟨i, hil⟩).2
          simp only [Go.WideShapes.add_plain] at this
          exact this
        · cases hix
end
end Go.Proofs.Ytjaedpekbkmokaa
