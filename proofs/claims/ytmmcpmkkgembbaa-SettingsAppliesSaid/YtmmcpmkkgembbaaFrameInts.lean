
/-
  How arguments that are structs of numbers, by value, and slices of such are opened. No function of the program is named here.
-/
import Derived.Test.YtmmcpmkkgembbaaFrame
import Derived.Deep.Slices
import Derived.Deep.Fields
import Derived.ChangeSame
namespace Go.Proofs.Ytmmcpmkkgembbaa
open Go.ChangeShapes Go.WideShapes Go.ChangeAt Go.RowKit Go.Joins Go.Deep

/-- are all these fields ints? -/
def allI64 (P : Program) (fs : Array Field) : Bool := fs.toList.all fun f => match P.underlying f.type with | some (.int .i64) => true | _ => false
theorem allI64_spec {P : Program} {fs : Array Field} (h : allI64 P fs = true) (i : Nat) (f : Field) (hf : fs[i]? = some f) : P.underlying f.type = some (.int .i64) := by
  have := List.all_eq_true.1 h f (by rw [Array.mem_toList_iff]; exact Array.mem_of_getElem? hf)
  split at this
  · assumption
  · cases this
section
variable {H : Type} {enc : TypeId × Value → H} {P : Program} {W : World}
/-- the cells of a struct of numbers -/
theorem nums_cells {t : TypeId} {fs : Array Field} {cs : List Value} {fuel : Nat} {x : DataW H × List MemPlace} (hs : P.underlying t = some (.struct fs)) (hone : oneCellFields P fs = true)
    (kf : ∀ (i : Nat) (f : Field), fs[i]? = some f → P.underlying f.type = some (.int .i64)) (hC : P.cellsOf t = fs.size)
    (h : DataW.trod enc P W 0 (fun _ => true) true fuel t cs = some x) : ∃ zs : List Int, zs.length = fs.size ∧ cs = zs.map (Value.int .i64) := by
  obtain ⟨xs, n, _, _, hl, hlen, hg⟩ := DataW.trod_struct hs h
  rw [hC] at hl
  have one : ∀ i, i < fs.size → ∃ z : Int, cs[i]? = some (.int .i64 z) := fun i hi => by
    obtain ⟨f, hf⟩ : ∃ f, fs[i]? = some f := ⟨fs[i], Array.getElem?_eq_getElem hi⟩
    obtain ⟨o0, l0⟩ := hone_of hone i f hf
    have hgi := hg i f hf
    rw [o0, l0, List.getElem?_eq_getElem (by omega : i < xs.length)] at hgi
    obtain ⟨z, e, _, _⟩ := DataW.trod_int (kf i f hf) hgi
    refine ⟨z, ?_⟩
    have : ((cs.drop i).take 1)[0]? = some (.int .i64 z) := by rw [e]; rfl
    simpa using this
  obtain ⟨F, hF⟩ := Classical.axiomOfChoice (fun (i : Fin fs.size) => one i.1 i.2)
  refine ⟨List.ofFn F, by simp, ?_⟩
  apply List.ext_getElem?
  intro i
  by_cases hi : i < fs.size
  · have := hF ⟨i, hi⟩
    simp only at this
    rw [this]
    simp [hi]
  · rw [List.getElem?_eq_none (by omega), List.getElem?_eq_none (by simp; omega)]
/-- a struct of numbers, by value -/
theorem nums_open {r : Reach} {b0 : Nat} {t : TypeId} {fs : Array Field} {v : Value} {d : DataW H} {p : List MemPlace} (hs : P.underlying t = some (.struct fs)) (hone : oneCellFields P fs = true)
    (kf : allI64 P fs = true) (hC : P.cellsOf t = fs.size)
    (hv : Value.okWide P W r b0 t v) (h : DataW.Trod enc P W 0 (fun _ => true) true t v d p) : ∃ zs : List Int, zs.length = fs.size ∧ v = .agg (zs.map (Value.int .i64)).toArray := by
  obtain ⟨cs, rfl, hsz⟩ := okWide_struct hs hv
  obtain ⟨l⟩ := cs
  obtain ⟨fuel, hf⟩ := h
  obtain ⟨zs, hl, e⟩ := nums_cells hs hone (allI64_spec kf) hC hf
  have e' : l = zs.map (Value.int .i64) := e
  exact ⟨zs, hl, by rw [e']⟩
/-- the value 'v' is a slice that reads as these rows of numbers, K each -/
def SlN (K : Nat) (w : World) (v : Value) (rs : List (List Int)) : Prop :=
  ∃ a cap, v = .slice a rs.length cap ∧ rs.length ≤ cap ∧ cap ≤ maxLen ∧
    ((rs.length = 0 ∧ (a = none → cap = 0)) ∨ ∃ b off, a = some ⟨b, off, none⟩ ∧ b < w.heap.size ∧ ∀ (i : Nat) (r : List Int), rs[i]? = some r → r.length = K ∧ ∀ j z, r[j]? = some z → w.cell? ⟨b, off + i * K + j, none⟩ = some (.int .i64 z))
theorem SlN.below {K : Nat} {w w' : World} {v : Value} {rs : List (List Int)} (h : SlN K w v rs) (hb : Below w.heap.size w w') : SlN K w' v rs := by
  obtain ⟨a, cap, rfl, h2, h3, h4⟩ := h
  refine ⟨a, cap, rfl, h2, h3, h4.imp_right ?_⟩
  rintro ⟨b, off, rfl, hl, hc⟩
  exact ⟨b, off, rfl, Nat.lt_of_lt_of_le hl hb.size, fun i r hi => ⟨(hc i r hi).1, fun j z hz => (hb.cell (p := ⟨b, off + i * K + j, none⟩) hl).trans ((hc i r hi).2 j z hz)⟩⟩
/-- a slice of structs of numbers -/
theorem numsl_open {r : Reach} {b0 : Nat} {t e : TypeId} {fs : Array Field} {v : Value} {d : DataW H} {p : List MemPlace} (K : Nat) (hK : 0 < K) (ht : P.underlying t = some (.slice e)) (hs : P.underlying e = some (.struct fs)) (hone : oneCellFields P fs = true)
    (kf : allI64 P fs = true) (hC : P.cellsOf e = fs.size) (hfs : fs.size = K)
    (hv : Value.okWide P W r b0 t v) (h : DataW.Trod enc P W 0 (fun _ => true) true t v d p) : ∃ rs, SlN K W v rs := by
  obtain ⟨a, len, cap, rfl⟩ := okWide_slice ht hv
  obtain ⟨fuel, hf⟩ := h
  simp only [Value.cells] at hf
  rcases open_slice ht hf with ⟨e1, _⟩ | ⟨a', len', cap', m, n, D, Pl, e1, _, hl, hm, hmm, _, hi⟩
  · simp only [List.cons.injEq, and_true, Value.slice.injEq] at e1
    obtain ⟨rfl, rfl, rfl⟩ := e1
    exact ⟨[], none, 0, rfl, Nat.le_refl _, by simp, .inl ⟨rfl, fun _ => rfl⟩⟩
  · simp only [List.cons.injEq, and_true, Value.slice.injEq] at e1
    obtain ⟨rfl, rfl, rfl⟩ := e1
    simp only [if_true] at hmm
    subst hmm
    have one : ∀ i, i < len → ∃ y : List Int, y.length = K ∧ ∀ j z, y[j]? = some z → W.cell? ((a'.add (i * K)).add j) = some (.int .i64 z) := fun i hil => by
      obtain ⟨cs, hc, ht'⟩ := hi i (by omega)
      rw [hC, hfs] at hc
      obtain ⟨_, hcl, hat⟩ := World.cells?_some hc
      obtain ⟨zs, hzl, hz⟩ := nums_cells hs hone (allI64_spec kf) hC ht'
      refine ⟨zs, by omega, fun j z hj => ?_⟩
      have hjl : j < zs.length := (List.getElem?_eq_some_iff.1 hj).1
      have := hat j (by omega)
      rw [this, hz]
      simp [hj]
    by_cases h0 : len = 0
    · subst h0
      exact ⟨[], _, _, rfl, by simp, hm, .inl ⟨rfl, fun hn => by cases hn⟩⟩
    · obtain ⟨F, hF⟩ := Classical.axiomOfChoice (fun (i : Fin len) => one i.1 i.2)
      obtain ⟨b, off, spot⟩ := a'
      obtain ⟨hl0, hc0⟩ := hF ⟨0, by omega⟩
      have hc0 := hc0 0 _ (List.getElem?_eq_getElem (by omega))
      have hspot : spot = none := by simpa [Addr.add] using World.cell?_spot hc0
      subst hspot
      refine ⟨List.ofFn F, some ⟨b, off, none⟩, _, by simp, by simpa using hl, hm, .inr ⟨b, off, rfl, ?_, ?_⟩⟩
      · by_cases hbl : b < W.heap.size
        · exact hbl
        · simp [Addr.add, World.cell?, Array.getElem?_eq_none (by omega : W.heap.size ≤ b)] at hc0
      · intro i x hix
        rw [List.getElem?_ofFn] at hix
        split at hix
        · rename_i hil
          cases hix
          have := hF ⟨i, hil⟩
          simp only [Go.WideShapes.add_plain] at this
          exact this
        · cases hix
end
end Go.Proofs.Ytmmcpmkkgembbaa
