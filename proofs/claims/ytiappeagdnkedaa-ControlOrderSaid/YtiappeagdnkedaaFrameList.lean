
/-
  Slices of frames: what they read as; rows of them that the call itself makes. No function of the program is named here.
-/
import Derived.Test.YtiappeagdnkedaaFrameKit
import Derived.Test.YtiappeagdnkedaaOwn
namespace Go.Proofs.Ytiappeagdnkedaa
open Go.RowKit

/-- the cells of frames, one behind the other: with each its payload's value -/
def flat (ps : List (Fr × Value)) : List Value := ps.flatMap fun p => frCells p.1 p.2
theorem flat_append (ps qs : List (Fr × Value)) : flat (ps ++ qs) = flat ps ++ flat qs := by simp [flat]
theorem flat_one (f : Fr) (pv : Value) : flat [(f, pv)] = frCells f pv := by simp [flat]
theorem flat_length : ∀ ps : List (Fr × Value), (flat ps).length = ps.length * 4
  | [] => rfl
  | p :: ps => by
    have := flat_length ps
    rw [show flat (p :: ps) = frCells p.1 p.2 ++ flat ps from by simp [flat], List.length_append, this, List.length_cons]
    simp only [frCells, List.length_cons, List.length_nil]
    omega
theorem flat_at : ∀ (ps : List (Fr × Value)) (i : Nat) (p : Fr × Value), ps[i]? = some p → ∀ j, j < 4 → (flat ps)[i * 4 + j]? = (frCells p.1 p.2)[j]?
  | [], i, p, h, j, _ => by simp at h
  | q :: ps, 0, p, h, j, hj => by
    simp only [List.getElem?_cons_zero, Option.some.injEq] at h
    subst h
    simp only [flat, List.flatMap_cons, Nat.zero_mul, Nat.zero_add]
    rw [List.getElem?_append_left (by simpa [frCells] using hj)]
  | q :: ps, i + 1, p, h, j, hj => by
    have := flat_at ps i p (by simpa using h) j hj
    simp only [flat, List.flatMap_cons] at this ⊢
    rw [List.getElem?_append_right (by simp [frCells]; omega), ← this]
    congr 1
    simp [frCells]; omega

/-- the cells of one frame at an address -/
def frAt (w : World) (b o : Nat) (f : Fr) (pv : Value) : Prop :=
  w.cell? ⟨b, o, none⟩ = some (.int .i64 f.kind) ∧ w.cell? ⟨b, o + 1, none⟩ = some (.int .i64 f.flags) ∧ w.cell? ⟨b, o + 2, none⟩ = some (.int .i64 f.stream) ∧ w.cell? ⟨b, o + 3, none⟩ = some pv
theorem frAt.below {w w' : World} {b o : Nat} {f : Fr} {pv : Value} (h : frAt w b o f pv) (hb : Below w.heap.size w w') (hl : b < w.heap.size) : frAt w' b o f pv :=
  ⟨(hb.cell (p := ⟨b, o, none⟩) hl).trans h.1, (hb.cell (p := ⟨b, o + 1, none⟩) hl).trans h.2.1, (hb.cell (p := ⟨b, o + 2, none⟩) hl).trans h.2.2.1, (hb.cell (p := ⟨b, o + 3, none⟩) hl).trans h.2.2.2⟩
/-- the value 'v' is a slice that reads as these frames -/
def SlF (w : World) (v : Value) (ps : List (Fr × Value)) : Prop :=
  (∀ p ∈ ps, Sl .u8 w p.2 p.1.pay) ∧ ∃ a cap, v = .slice a ps.length cap ∧ ps.length ≤ cap ∧ cap ≤ maxLen ∧
    ((ps.length = 0 ∧ (a = none → cap = 0)) ∨ ∃ b off, a = some ⟨b, off, none⟩ ∧ b < w.heap.size ∧ ∀ (i : Nat) (p : Fr × Value), ps[i]? = some p → frAt w b (off + i * 4) p.1 p.2)
theorem SlF.below {w w' : World} {v : Value} {ps : List (Fr × Value)} (h : SlF w v ps) (hb : Below w.heap.size w w') : SlF w' v ps := by
  obtain ⟨h1, a, cap, rfl, h2, h3, h4⟩ := h
  refine ⟨fun p hp => (h1 p hp).below hb, a, cap, rfl, h2, h3, h4.imp_right ?_⟩
  rintro ⟨b, off, rfl, hl, hc⟩
  exact ⟨b, off, rfl, Nat.lt_of_lt_of_le hl hb.size, fun i p hi => (hc i p hi).below hb hl⟩
theorem SlF.len {w : World} {v : Value} {ps : List (Fr × Value)} (h : SlF w v ps) : ps.length ≤ maxLen := by
  obtain ⟨_, a, cap, _, h2, h3, _⟩ := h; exact Nat.le_trans h2 h3
theorem SlF.nil (w : World) : SlF w (.slice none 0 0) [] := ⟨fun p hp => by simp at hp, none, 0, rfl, Nat.le_refl _, by simp, .inl ⟨rfl, fun _ => rfl⟩⟩
/-- a row of frames that the call itself owns -/
theorem SlF.of_own {w : World} {base n : Nat} {e : TypeId} {v : Value} {ps : List (Fr × Value)} (h : w.ownsRow base e 4 v n (flat ps)) (hp : ∀ p ∈ ps, Sl .u8 w p.2 p.1.pay) : SlF w v ps := by
  have h' := h
  obtain ⟨h1, h2⟩ := h
  rw [flat_length] at h1
  have hn : n = ps.length := by omega
  subst hn
  refine ⟨hp, ?_⟩
  rcases h2 with ⟨rfl, h3⟩ | ⟨g, cap, cur, rfl, hg, hblk, hnc, hcm, hcs, htake⟩
  · refine ⟨none, 0, ?_, by omega, by simp, .inl ⟨h3, fun _ => rfl⟩⟩
    rw [h3]
  · refine ⟨some ⟨g, 0, none⟩, cap, rfl, hnc, hcm, .inr ⟨g, 0, rfl, (h'.lt g rfl).2, fun i p hi => ?_⟩⟩
    have hil : i < ps.length := (List.getElem?_eq_some_iff.1 hi).1
    have at_ : ∀ j, j < 4 → w.cell? ⟨g, 0 + i * 4 + j, none⟩ = (frCells p.1 p.2)[j]? := fun j hj => by
      rw [Nat.zero_add, h'.cellAt (i * 4 + j) (by omega), flat_at ps i p hi j hj]
    exact ⟨at_ 0 (by omega), at_ 1 (by omega), at_ 2 (by omega), at_ 3 (by omega)⟩

/-- a slice that another row's growth leaves -/
theorem Sl.kept {k : IntKind} {w w' : World} {v : Value} {zs : List Int} {row : Option Nat} (h : Sl k w v zs) (hg : w.grownBy w' row) (hne : ∀ g, v.ownBlock = some g → row ≠ some g) : Sl k w' v zs := by
  obtain ⟨a, cap, rfl, h1, h2, h4, h3⟩ := h
  refine ⟨a, cap, rfl, h1, h2, h4, h3.imp_right ?_⟩
  rintro ⟨b, off, rfl, hlt, hc⟩
  exact ⟨b, off, rfl, Nat.lt_of_lt_of_le hlt hg.size, fun i hi => hg.cell (hc i hi) (fun e => hne b rfl e.symm)⟩
theorem Ty.kept {w w' : World} {t : TypeId} {v : Value} {row : Option Nat} (h : Ty w t v) (hg : w.grownBy w' row) (hne : ∀ g, v.ownBlock = some g → row ≠ some g) : Ty w' t v := fun g hgv => by
  obtain ⟨cs, fr, e⟩ := h g hgv
  exact ⟨cs, fr, (hg.block g (Array.getElem?_eq_some_iff.1 e).1 (fun e' => hne g hgv e'.symm)).trans e⟩
/-- blocks of two element types are two -/
theorem apart_ty {w : World} {base n size : Nat} {t t' : TypeId} {v u : Value} {xs : List Value} (h : w.ownsRow base t size v n xs) (hu : Ty w t' u) (hne : t ≠ t') : ∀ g, u.ownBlock = some g → v.ownBlock ≠ some g := by
  intro g hg hv
  obtain ⟨cs, fr, e⟩ := hu g hg
  obtain ⟨_, ⟨rfl, _⟩ | ⟨g', cap, cur, rfl, _, hh, _⟩⟩ := h
  · cases hv
  · simp only [Value.ownBlock, Option.some.injEq] at hv
    subst hv
    rw [e] at hh
    simp only [Option.some.injEq, Obj.cells.injEq] at hh
    exact hne hh.2.1.symm
/-- the cells of a frame that has just been laid -/
theorem frCells_laid (w : World) (f : Fr) (pv : Value) (t : TypeId) (B : Nat) (hB : B = w.heap.size) : ∀ (j : Nat) (u : Value), (frCells f pv)[j]? = some u → (w.alloc (.cells #[.int .i64 f.kind, .int .i64 f.flags, .int .i64 f.stream, pv] t)).cell? ((⟨B, 0, none⟩ : Addr).add j) = some u := by
  subst hB
  intro j u hj
  rw [Go.WideShapes.add_plain, Nat.zero_add]
  refine blk_cell (cs := #[.int .i64 f.kind, .int .i64 f.flags, .int .i64 f.stream, pv]) (heap_alloc_new w _) ?_
  rw [← hj]
  simp [frCells]
theorem frCells_one (f : Fr) {ao : Option Addr} {n c : Nat} : ∀ u ∈ frCells f (.slice ao n c), u.oneCell' = true := by
  intro u hu
  simp only [frCells, List.mem_cons, List.not_mem_nil, or_false] at hu
  rcases hu with rfl | rfl | rfl | rfl <;> rfl

end Go.Proofs.Ytiappeagdnkedaa
