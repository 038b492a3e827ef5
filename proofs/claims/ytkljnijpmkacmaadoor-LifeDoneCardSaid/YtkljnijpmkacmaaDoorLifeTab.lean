
/-
  Package life: the table, as a package-level variable holds it; an answer in a block of its own; equality of answers.
-/
import Derived.Test.YtkljnijpmkacmaaDoorLifeRef
import Derived.Laws.StructEq
namespace Go.Proofs.YtkljnijpmkacmaaDoor
set_option maxRecDepth 20000
open Go.RowKit

/-- a row of the table: state, code, whether of the connection (zero, if it cannot be) -/
def LfT (w : World) : Prop := ∃ cs t fr, w.heap[0]? = some (.cells cs t fr) ∧ ∀ i j : Nat, i < 5 → j < 9 →
  cs[27 * i + 3 * j]? = some (.int .i64 (lifeN i j).1) ∧ cs[27 * i + 3 * j + 1]? = some (.int .i64 (lifeN i j).2.1) ∧ cs[27 * i + 3 * j + 2]? = some (.bool (lifeN i j).2.2.1)
theorem LfT.lt {w : World} (h : LfT w) : 0 < w.heap.size := by
  obtain ⟨cs, t, fr, h, _⟩ := h
  exact (Array.getElem?_eq_some_iff.1 h).1
theorem LfT.low {w w' : World} {B : Nat} (h : LfT w) (hb : Below B w w') (h0 : 0 < B) : LfT w' := by
  obtain ⟨cs, t, fr, h, hc⟩ := h
  exact ⟨cs, t, fr, (hb.block _ h0).trans h, hc⟩
theorem LfT.below {w w' : World} (h : LfT w) (hb : Below w.heap.size w w') : LfT w' := h.low hb h.lt
theorem LfT.cells {w : World} (h : LfT w) (i j p : Nat) (hi : i < 5) (hj : j < 9) (hp : p = 27 * i + 3 * j) (a b : Int) (c : Bool) (d : Int) (hN : lifeN i j = (a, b, c, d)) :
    w.cell? ⟨0, p, none⟩ = some (.int .i64 a) ∧ w.cell? ⟨0, p + 1, none⟩ = some (.int .i64 b) ∧ w.cell? ⟨0, p + 2, none⟩ = some (.bool c) := by
  obtain ⟨cs, t, fr, h, hc⟩ := h
  obtain ⟨h0, h1, h2⟩ := hc i j hi hj
  rw [hN] at h0 h1 h2
  subst hp
  simp [World.cell?, h, h0, h1, h2]
/-- the block g holds this -/
def NxAt (W : World) (t : TypeId) (g : Nat) (s c : Int) (b : Bool) : Prop := W.heap[g]? = some (.cells #[.int .i64 s, .int .i64 c, .bool b] t (0, 0))
theorem NxAt.new (w : World) (t : TypeId) (s c : Int) (b : Bool) : NxAt (w.alloc (.cells #[.int .i64 s, .int .i64 c, .bool b] t)) t w.heap.size s c b := heap_alloc_new w _
theorem NxAt.lt {W : World} {t : TypeId} {g : Nat} {s c : Int} {b : Bool} (h : NxAt W t g s c b) : g < W.heap.size := (Array.getElem?_eq_some_iff.1 h).1
theorem NxAt.grown {W W' : World} {t : TypeId} {g : Nat} {s c : Int} {b : Bool} (h : NxAt W t g s c b) (hb : Below W.heap.size W W') : NxAt W' t g s c b := (hb.block g h.lt).trans h
theorem NxAt.c0 {W : World} {t : TypeId} {g : Nat} {s c : Int} {b : Bool} (h : NxAt W t g s c b) : W.cell? ⟨g, 0, none⟩ = some (.int .i64 s) := by unfold NxAt at h; simp [World.cell?, h]
theorem NxAt.c1 {W : World} {t : TypeId} {g : Nat} {s c : Int} {b : Bool} (h : NxAt W t g s c b) : W.cell? ⟨g, 1, none⟩ = some (.int .i64 c) := by unfold NxAt at h; simp [World.cell?, h]
theorem NxAt.c2 {W : World} {t : TypeId} {g : Nat} {s c : Int} {b : Bool} (h : NxAt W t g s c b) : W.cell? ⟨g, 2, none⟩ = some (.bool b) := by unfold NxAt at h; simp [World.cell?, h]
theorem nx_eql (s c s' c' : Int) (b b' : Bool) (w : World) : (binOp .eql 25 (.agg #[.int .i64 s, .int .i64 c, .bool b]) (.agg #[.int .i64 s', .int .i64 c', .bool b'])).run Tryd.prog w = .ok (.bool (s == s' && (c == c' && b == b'))) w := by
  rw [run_eql_struct, run_equalIn_agg w 9999 25 _ _ (show Tryd.prog.underlying 25 = some (.struct (Tryd.prog.fieldsOf 25)) by kernel_rfl) (show Tryd.prog.stoodInHeld 25 = false by kernel_rfl)]
  have hf : ((Tryd.prog.fieldsOf 25).toList.map fun f => (f.name, f.type, f.offset)) = [("State", 22, 0), ("Code", 23, 1), ("Whole", 4, 2)] := by kernel_rfl
  have p0 : ∀ (x y : Int) (z : Bool) w, (part 22 #[.int .i64 x, .int .i64 y, .bool z] 0).run Tryd.prog w = .ok (.int .i64 x) w := fun x y z w => by kernel_rfl
  have p1 : ∀ (x y : Int) (z : Bool) w, (part 23 #[.int .i64 x, .int .i64 y, .bool z] 1).run Tryd.prog w = .ok (.int .i64 y) w := fun x y z w => by kernel_rfl
  have p2 : ∀ (x y : Int) (z : Bool) w, (part 4 #[.int .i64 x, .int .i64 y, .bool z] 2).run Tryd.prog w = .ok (.bool z) w := fun x y z w => by kernel_rfl
  cases hq : (Tryd.prog.fieldsOf 25).toList with
  | nil => rw [hq] at hf; simp at hf
  | cons f l =>
    rw [hq] at hf
    cases l with
    | nil => simp at hf
    | cons g m =>
      cases m with
      | nil => simp at hf
      | cons k n =>
        cases n with
        | cons _ _ => simp at hf
        | nil =>
          simp only [List.map_cons, List.map_nil, List.cons.injEq, Prod.mk.injEq, and_true] at hf
          obtain ⟨⟨f1, f2, f3⟩, ⟨g1, g2, g3⟩, k1, k2, k3⟩ := hf
          have ne1 : ("State" : String) ≠ "_" := by decide
          have ne2 : ("Code" : String) ≠ "_" := by decide
          have ne3 : ("Whole" : String) ≠ "_" := by decide
          simp only [Op.eqFields, f1, f2, f3, g1, g2, g3, k1, k2, k3, ne1, ne2, ne3, ne_eq, not_false_eq_true, if_true, Sem.run_bind, p0, Result.andThen_ok, run_equalIn_int w 9998 22 _ _ _ _ Tryd.underlying22]
          cases h1 : (s == s')
          · simp [Result.andThen]
          · simp only [p1, run_equalIn_int w 9998 23 _ _ _ _ Tryd.underlying23, Sem.run_bind, Result.andThen_ok, Bool.not_true, Bool.false_eq_true, if_false]
            cases h2 : (c == c')
            · simp [Result.andThen]
            · simp [p2, run_equalIn_bool' w 9998 4 _ _ Tryd.underlying4, Result.andThen]
              cases b <;> cases b' <;> rfl
end Go.Proofs.YtkljnijpmkacmaaDoor
