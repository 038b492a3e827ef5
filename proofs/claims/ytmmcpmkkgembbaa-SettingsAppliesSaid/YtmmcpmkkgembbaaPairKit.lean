
/-
  Slices of pairs of numbers; the last one of an id. No function of the program is named here.
-/
import Derived.Test.YtmmcpmkkgembbaaKit
import Derived.Lib.SliceRun
namespace Go.Proofs.Ytmmcpmkkgembbaa
open Go.RowKit

abbrev Pr := Int × Int
/-- the value 'v' is a slice that reads as these pairs -/
def SlP (w : World) (v : Value) (ps : List Pr) : Prop :=
  ∃ a cap, v = .slice a ps.length cap ∧ ps.length ≤ cap ∧ cap ≤ maxLen ∧
    ((ps.length = 0 ∧ (a = none → cap = 0)) ∨ ∃ b off, a = some ⟨b, off, none⟩ ∧ b < w.heap.size ∧ ∀ (i : Nat) (p : Pr), ps[i]? = some p → w.cell? ⟨b, off + i * 2, none⟩ = some (.int .i64 p.1) ∧ w.cell? ⟨b, off + i * 2 + 1, none⟩ = some (.int .i64 p.2))
theorem SlP.below {w w' : World} {v : Value} {ps : List Pr} (h : SlP w v ps) (hb : Below w.heap.size w w') : SlP w' v ps := by
  obtain ⟨a, cap, rfl, h2, h3, h4⟩ := h
  refine ⟨a, cap, rfl, h2, h3, h4.imp_right ?_⟩
  rintro ⟨b, off, rfl, hl, hc⟩
  exact ⟨b, off, rfl, Nat.lt_of_lt_of_le hl hb.size, fun i f hi => ⟨(hb.cell (p := ⟨b, off + i * 2, none⟩) hl).trans (hc i f hi).1, (hb.cell (p := ⟨b, off + i * 2 + 1, none⟩) hl).trans (hc i f hi).2⟩⟩
theorem SlP.shape {w : World} {v : Value} {ps : List Pr} (h : SlP w v ps) : ∃ a cap, v = .slice a ps.length cap ∧ ps.length ≤ cap ∧ cap ≤ maxLen := by
  obtain ⟨a, cap, e, h1, h2, _⟩ := h; exact ⟨a, cap, e, h1, h2⟩
/-- one of them -/
theorem SlP.at_ {w : World} {a : Option Addr} {n cap : Nat} {ps : List Pr} (h : SlP w (.slice a n cap) ps) {i : Nat} (hi : i < ps.length) :
    ∃ b off, a = some ⟨b, off, none⟩ ∧ b < w.heap.size ∧ ∀ p, ps[i]? = some p → w.cell? ⟨b, off + i * 2, none⟩ = some (.int .i64 p.1) ∧ w.cell? ⟨b, off + i * 2 + 1, none⟩ = some (.int .i64 p.2) := by
  obtain ⟨a', cap', e, _, _, h3⟩ := h
  simp only [Value.slice.injEq] at e
  obtain ⟨rfl, rfl, rfl⟩ := e
  rcases h3 with ⟨h3, _⟩ | ⟨b, off, rfl, hb, hc⟩
  · omega
  · exact ⟨b, off, rfl, hb, hc i⟩
theorem pr_at {ps : List Pr} {k : Nat} (h : k < ps.length) : ∃ p, ps[k]? = some p := ⟨ps[k], List.getElem?_eq_getElem h⟩
theorem pr_take {ps : List Pr} {k : Nat} {p : Pr} (h : ps[k]? = some p) : ps.take (k + 1) = ps.take k ++ [p] := by
  rw [List.take_add_one, h]; rfl
/-- the last value of an id; else what was -/
def lastP (id : Int) : Int → List Pr → Int
  | was, [] => was
  | was, p :: r => lastP id (bif p.1 == id then p.2 else was) r
theorem lastP_append (id : Int) (a : List Pr) (p : Pr) : ∀ was, lastP id was (a ++ [p]) = bif p.1 == id then p.2 else lastP id was a := by
  induction a with
  | nil => intro was; rfl
  | cons q r ih => intro was; exact ih _
end Go.Proofs.Ytmmcpmkkgembbaa
