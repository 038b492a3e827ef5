
/-
  Layer 12: what pairs make of a set, step by step and by the last of each id.
-/
import Derived.Test.YtmmcpmkkgembbaaSetProg
import Derived.Test.YtmmcpmkkgembbaaSetNum
namespace Go.Proofs.Ytmmcpmkkgembbaa
open Go.RowKit

/-- one pair's change -/
def stepS (x : S6) (p : Pr) : S6 :=
  ⟨bif p.1 == 1 then p.2 else x.t, bif p.1 == 2 then p.2 else x.p, bif p.1 == 3 then p.2 else x.s, bif p.1 == 4 then p.2 else x.u, bif p.1 == 5 then p.2 else x.f, bif p.1 == 6 then p.2 else x.l⟩
def applyS (x : S6) (ps : List Pr) : S6 := ps.foldl stepS x
theorem applyS_snoc (x : S6) (ps : List Pr) (p : Pr) : applyS x (ps ++ [p]) = stepS (applyS x ps) p := by
  unfold applyS; rw [List.foldl_append]; rfl
theorem applyS_last (x : S6) (ps : List Pr) : applyS x ps = ⟨lastP 1 x.t ps, lastP 2 x.p ps, lastP 3 x.s ps, lastP 4 x.u ps, lastP 5 x.f ps, lastP 6 x.l ps⟩ := by
  induction ps generalizing x with
  | nil => rfl
  | cons p r ih => exact ih (stepS x p)
/-- the first fault's code -/
def firstF : List Pr → Int
  | [] => 0
  | p :: r => bif faultP p == 0 then firstF r else faultP p
theorem firstF_cons (p : Pr) (r : List Pr) : firstF (p :: r) = bif faultP p == 0 then firstF r else faultP p := rfl
theorem firstF_snoc {a : List Pr} (h : firstF a = 0) (p : Pr) (r : List Pr) : firstF (a ++ p :: r) = bif faultP p == 0 then firstF r else faultP p := by
  induction a with
  | nil => rfl
  | cons q s ih =>
    rw [firstF_cons] at h
    rw [List.cons_append, firstF_cons q]
    cases e : faultP q == 0
    · rw [e] at h
      simp only [cond_false] at h
      rw [h] at e
      cases e
    · rw [e] at h
      exact ih h
theorem firstF_end {a : List Pr} (h : firstF a = 0) (p : Pr) (hp : faultP p = 0) : firstF (a ++ [p]) = 0 := by
  rw [firstF_snoc h, hp]; rfl
theorem split_at {ps : List Pr} {k : Nat} {p : Pr} (h : ps[k]? = some p) : ps = ps.take k ++ p :: ps.drop (k + 1) := by
  have hk : k < ps.length := (List.getElem?_eq_some_iff.1 h).1
  have e : ps[k] = p := (List.getElem?_eq_some_iff.1 h).2
  rw [← e, ← List.drop_eq_getElem_cons hk, List.take_append_drop]
theorem firstF_at {ps : List Pr} {k : Nat} {p : Pr} (hz : firstF (ps.take k) = 0) (h : ps[k]? = some p) (hf : (faultP p == 0) = false) : firstF ps = faultP p := by
  rw [split_at h, firstF_snoc hz, hf]; rfl
/-- what Apply answers -/
def tupA (x : S6) (ps : List Pr) : Value :=
  bif firstF ps == 0 then .tuple #[(applyS x ps).v, .int .i64 ((applyS x ps).u - x.u), .int .i64 0] else .tuple #[x.v, .int .i64 0, .int .i64 (firstF ps)]
/-- pairs with numbers of 2^32 at most -/
def Low (ps : List Pr) : Prop := ∀ p ∈ ps, -4294967296 ≤ p.2 ∧ p.2 ≤ 4294967296
theorem lastP_low (id : Int) {ps : List Pr} (h : Low ps) : ∀ was : Int, -4294967296 ≤ was → was ≤ 4294967296 → -4294967296 ≤ lastP id was ps ∧ lastP id was ps ≤ 4294967296 := by
  induction ps with
  | nil => intro was h1 h2; exact ⟨h1, h2⟩
  | cons p r ih =>
    intro was h1 h2
    refine ih (fun q hq => h q (List.mem_cons_of_mem _ hq)) _ ?_ ?_
    · cases p.1 == id
      · exact h1
      · exact (h p (by simp)).1
    · cases p.1 == id
      · exact h2
      · exact (h p (by simp)).2
/-- one number of six is written -/
theorem step_cells (x : S6) (p : Pr) (j : Nat) (hj : j < 6) (hp : p.1 = (j : Int) + 1) : x.cs.setIfInBounds j (.int .i64 p.2) = (stepS x p).cs := by
  obtain ⟨i, v⟩ := p
  simp only at hp
  subst hp
  match j, hj with
  | 0, _ => rfl
  | 1, _ => rfl
  | 2, _ => rfl
  | 3, _ => rfl
  | 4, _ => rfl
  | 5, _ => rfl
theorem step_other (x : S6) (p : Pr) (hp : p.1 < 1 ∨ 6 < p.1) : stepS x p = x := by
  unfold stepS
  rw [show (p.1 == 1) = false by rw [beq_eq_false_iff_ne]; omega, show (p.1 == 2) = false by rw [beq_eq_false_iff_ne]; omega, show (p.1 == 3) = false by rw [beq_eq_false_iff_ne]; omega, show (p.1 == 4) = false by rw [beq_eq_false_iff_ne]; omega, show (p.1 == 5) = false by rw [beq_eq_false_iff_ne]; omega, show (p.1 == 6) = false by rw [beq_eq_false_iff_ne]; omega]
  rfl
theorem fault_other (p : Pr) (hp : p.1 < 1 ∨ 6 < p.1) : faultP p = 0 := by
  unfold faultP
  rw [show (p.1 == 2) = false by rw [beq_eq_false_iff_ne]; omega, show (p.1 == 4) = false by rw [beq_eq_false_iff_ne]; omega, show (p.1 == 5) = false by rw [beq_eq_false_iff_ne]; omega]
  rfl
end Go.Proofs.Ytmmcpmkkgembbaa
