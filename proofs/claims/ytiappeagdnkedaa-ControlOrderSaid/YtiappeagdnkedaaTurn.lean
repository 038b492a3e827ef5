
/-
  What a call may turn of what lay: some blocks, by a predicate. No program is named here.
-/
import Derived.Test.YtiappeagdnkedaaFrameKit
import Derived.Test.YtiappeagdnkedaaOwn
namespace Go.Proofs.Ytiappeagdnkedaa
open Go.RowKit

def Turn (S : Nat → Prop) (w w' : World) : Prop := w'.os = w.os ∧ w'.tape = w.tape ∧ w'.output = w.output ∧ w.heap.size ≤ w'.heap.size ∧ ∀ k, k < w.heap.size → ¬ S k → w'.heap[k]? = w.heap[k]?
theorem Turn.of_below {S : Nat → Prop} {w w' : World} (h : Below w.heap.size w w') : Turn S w w' := ⟨h.os, h.tape, h.output, h.size, fun k hk _ => h.block k hk⟩
theorem Turn.of_grown {w w' : World} {R : Nat} (h : w.grownBy w' (some R)) : Turn (fun k => k = R) w w' := ⟨h.os, h.tape, h.output, h.size, fun k hk hne => h.block k hk (fun e => hne (Option.some.inj e))⟩
theorem Turn.trans {S : Nat → Prop} {w w1 w2 : World} (h1 : Turn S w w1) (h2 : Turn S w1 w2) : Turn S w w2 :=
  ⟨h2.1.trans h1.1, h2.2.1.trans h1.2.1, h2.2.2.1.trans h1.2.2.1, Nat.le_trans h1.2.2.2.1 h2.2.2.2.1, fun k hk hne => (h2.2.2.2.2 k (Nat.lt_of_lt_of_le hk h1.2.2.2.1) hne).trans (h1.2.2.2.2 k hk hne)⟩
theorem Turn.mono {S S' : Nat → Prop} {w w' : World} (h : Turn S w w') (hs : ∀ k, k < w.heap.size → S k → S' k) : Turn S' w w' := ⟨h.1, h.2.1, h.2.2.1, h.2.2.2.1, fun k hk hne => h.2.2.2.2 k hk (fun hh => hne (hs k hk hh))⟩
theorem Turn.trans' {S S1 : Nat → Prop} {w w1 w2 : World} (h1 : Turn S w w1) (h2 : Turn S1 w1 w2) (hs : ∀ k, k < w.heap.size → S1 k → S k) : Turn S w w2 :=
  ⟨h2.1.trans h1.1, h2.2.1.trans h1.2.1, h2.2.2.1.trans h1.2.2.1, Nat.le_trans h1.2.2.2.1 h2.2.2.2.1, fun k hk hne => (h2.2.2.2.2 k (Nat.lt_of_lt_of_le hk h1.2.2.2.1) (fun hh => hne (hs k hk hh))).trans (h1.2.2.2.2 k hk hne)⟩
theorem Turn.of_row {w w' : World} {row : Option Nat} (h : w.grownBy w' row) : Turn (fun k => row = some k) w w' := ⟨h.os, h.tape, h.output, h.size, fun k hk hne => h.block k hk (fun e => hne e.symm)⟩
theorem owned_turn {w w' : World} {base : Nat} {e : TypeId} {size n : Nat} {v : Value} {xs : List Value} {S : Nat → Prop} (h : w.ownsRow base e size v n xs) (ht : Turn S w w') (hne : ∀ g, v.ownBlock = some g → ¬ S g) : w'.ownsRow base e size v n xs := by
  obtain ⟨h1, h2⟩ := h
  refine ⟨h1, h2.imp_right ?_⟩
  rintro ⟨g, cap, cur, rfl, hgb, hh, h3⟩
  exact ⟨g, cap, cur, rfl, hgb, (ht.2.2.2.2 g (Array.getElem?_eq_some_iff.1 hh).1 (hne g rfl)).trans hh, h3⟩
theorem Turn.size {S : Nat → Prop} {w w' : World} (h : Turn S w w') : w.heap.size ≤ w'.heap.size := h.2.2.2.1
/-- the blocks from a number on may be turned: what lay ahead of it stays -/
theorem Turn.base {S : Nat → Prop} {base : Nat} {w0 w w' : World} (h : Turn S w w') (hb : Below base w0 w) (hs : base ≤ w.heap.size) (hS : ∀ k, S k → base ≤ k) : Below base w0 w' :=
  hb.trans ⟨h.1, h.2.1, h.2.2.1, h.2.2.2.1, fun k hk => h.2.2.2.2 k (by omega) (fun hk' => by have := hS k hk'; omega)⟩
theorem Turn.obj {S : Nat → Prop} {w w' : World} {k : Nat} {o : Obj} (h : Turn S w w') (hk : w.heap[k]? = some o) (hne : ¬ S k) : w'.heap[k]? = some o := (h.2.2.2.2 k (Array.getElem?_eq_some_iff.1 hk).1 hne).trans hk
theorem Sl.turn {k : IntKind} {S : Nat → Prop} {w w' : World} {v : Value} {zs : List Int} (h : Sl k w v zs) (ht : Turn S w w') (hne : ∀ g, v.ownBlock = some g → ¬ S g) : Sl k w' v zs := by
  obtain ⟨a, cap, rfl, h1, h2, h4, h3⟩ := h
  refine ⟨a, cap, rfl, h1, h2, h4, h3.imp_right ?_⟩
  rintro ⟨b, off, rfl, hlt, hc⟩
  exact ⟨b, off, rfl, Nat.lt_of_lt_of_le hlt ht.size, fun i hi => by
    have := hc i hi
    simp only [World.cell?, ht.2.2.2.2 b hlt (hne b rfl)] at this ⊢
    exact this⟩
/-- a frame whose payload is new, and in no block of a kind -/
def FrN (lo : Nat) (O : Option Nat) (w : World) (v : Value) (f : Fr) : Prop := ∃ pv, v = .agg #[.int .i64 f.kind, .int .i64 f.flags, .int .i64 f.stream, pv] ∧ Sl .u8 w pv f.pay ∧ ∀ g, pv.ownBlock = some g → lo ≤ g ∧ g < w.heap.size ∧ O ≠ some g
theorem FrN.toV {lo : Nat} {O : Option Nat} {w : World} {v : Value} {f : Fr} (h : FrN lo O w v f) : FrV w v f := by obtain ⟨pv, e, h1, _⟩ := h; exact ⟨pv, e, h1⟩

/-- owners of blocks, each by its number: what one owns no other one does; all lie from a number on -/
structure Sep (base : Nat) (B : Nat → Nat → Prop) (W : World) : Prop where
  lt : ∀ i g, B i g → g < W.heap.size
  ge : ∀ i g, B i g → base ≤ g
  ne : ∀ i j g, i ≠ j → B i g → B j g → False
  sz : base ≤ W.heap.size
def setB (B : Nat → Nat → Prop) (i : Nat) (X : Nat → Prop) : Nat → Nat → Prop := fun j => if j = i then X else B j
theorem setB_same (B : Nat → Nat → Prop) (i : Nat) (X : Nat → Prop) : setB B i X i = X := if_pos rfl
theorem setB_other (B : Nat → Nat → Prop) {i j : Nat} (X : Nat → Prop) (h : j ≠ i) : setB B i X j = B j := if_neg h
/-- one owner has turned its own blocks, and has others then, or new ones -/
theorem Sep.step {base : Nat} {B : Nat → Nat → Prop} {W W' : World} (h : Sep base B W) (i : Nat) (X : Nat → Prop) (hs : W.heap.size ≤ W'.heap.size) (hX : ∀ g, X g → B i g ∨ W.heap.size ≤ g) (hl : ∀ g, X g → g < W'.heap.size) : Sep base (setB B i X) W' := by
  refine ⟨fun j g hg => ?_, fun j g hg => ?_, fun j k g hjk h1 h2 => ?_, Nat.le_trans h.sz hs⟩
  · unfold setB at hg
    split at hg
    · exact hl g hg
    · exact Nat.lt_of_lt_of_le (h.lt j g hg) hs
  · unfold setB at hg
    split at hg
    · rcases hX g hg with hx | hx
      · exact h.ge i g hx
      · have := h.sz; omega
    · exact h.ge j g hg
  · unfold setB at h1 h2
    split at h1
    · split at h2
      · omega
      · rename_i e1 e2
        rcases hX g h1 with hx | hx
        · exact h.ne i k g (fun e => e2 e.symm) hx h2
        · have := h.lt k g h2; omega
    · split at h2
      · rename_i e1 e2
        rcases hX g h2 with hx | hx
        · exact h.ne i j g (fun e => e1 e.symm) hx h1
        · have := h.lt j g h1; omega
      · exact h.ne j k g hjk h1 h2
/-- several owners have others then, or new ones, each its own -/
theorem Sep.many {base : Nat} {B B' : Nat → Nat → Prop} {W W' : World} (h : Sep base B W) (hs : W.heap.size ≤ W'.heap.size) (hB : ∀ i g, B' i g → B i g ∨ W.heap.size ≤ g) (hl : ∀ i g, B' i g → g < W'.heap.size)
    (hn : ∀ i j g, i < j → W.heap.size ≤ g → B' i g → B' j g → False) : Sep base B' W' := by
  refine ⟨hl, fun i g hg => ?_, fun i j g hij h1 h2 => ?_, Nat.le_trans h.sz hs⟩
  · rcases hB i g hg with hx | hx
    · exact h.ge i g hx
    · have := h.sz; omega
  · by_cases hg : W.heap.size ≤ g
    · rcases Nat.lt_or_gt_of_ne hij with hlt | hlt
      · exact hn i j g hlt hg h1 h2
      · exact hn j i g hlt hg h2 h1
    · exact h.ne i j g hij ((hB i g h1).resolve_right hg) ((hB j g h2).resolve_right hg)
theorem Sep.grow {base : Nat} {B : Nat → Nat → Prop} {W W' : World} (h : Sep base B W) (hs : W.heap.size ≤ W'.heap.size) : Sep base B W' := ⟨fun i g hg => Nat.lt_of_lt_of_le (h.lt i g hg) hs, h.ge, h.ne, Nat.le_trans h.sz hs⟩
/-- the outer frame -/
theorem Sep.below {base : Nat} {B : Nat → Nat → Prop} {w0 W W' : World} (h : Sep base B W) (i : Nat) (ht : Turn (B i) W W') (hb : Below base w0 W) : Below base w0 W' := ht.base hb h.sz (h.ge i)
end Go.Proofs.Ytiappeagdnkedaa
