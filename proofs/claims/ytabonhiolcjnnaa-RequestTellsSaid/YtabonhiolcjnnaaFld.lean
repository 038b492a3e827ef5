
/-
  Fields (two texts) in a block of their own; whether two are one. No function of the program is named here.
-/
import Derived.Test.YtabonhiolcjnnaaProg
import Derived.Test.YtabonhiolcjnnaaKit
import Derived.Test.YtabonhiolcjnnaaStatTab
import Derived.Laws.StructEq
import Derived.Deep.WholeRow
namespace Go.Proofs.Ytabonhiolcjnnaa
open Go.RowKit

/-- the block g holds this field -/
def FldAt (W : World) (g : Nat) (n v : ByteArray) : Prop := W.heap[g]? = some (.cells #[.string n, .string v] 29 (0, 0))
theorem FldAt.new (w : World) (n v : ByteArray) : FldAt (w.alloc (.cells #[.string n, .string v] 29)) w.heap.size n v := heap_alloc_new w _
theorem FldAt.lt {W : World} {g : Nat} {n v : ByteArray} (h : FldAt W g n v) : g < W.heap.size := (Array.getElem?_eq_some_iff.1 h).1
theorem FldAt.below {W W' : World} {B g : Nat} {n v : ByteArray} (h : FldAt W g n v) (hb : Below B W W') (hg : g < B) : FldAt W' g n v := (hb.block g hg).trans h
theorem FldAt.grown {W W' : World} {g : Nat} {n v : ByteArray} (h : FldAt W g n v) (hb : Below W.heap.size W W') : FldAt W' g n v := h.below hb h.lt
theorem FldAt.c0 {W : World} {g : Nat} {n v : ByteArray} (h : FldAt W g n v) : W.cell? ⟨g, 0, none⟩ = some (.string n) := by unfold FldAt at h; simp [World.cell?, h]
theorem FldAt.c1 {W : World} {g : Nat} {n v : ByteArray} (h : FldAt W g n v) : W.cell? ⟨g, 1, none⟩ = some (.string v) := by unfold FldAt at h; simp [World.cell?, h]

theorem fld_struct : Try.prog.underlying 29 = some (.struct (Try.prog.fieldsOf 29)) := by kernel_rfl
theorem fld_held : Try.prog.stoodInHeld 29 = false := by kernel_rfl
theorem fld_fields : ((Try.prog.fieldsOf 29).toList.map fun f => (f.name, f.type, f.offset)) = [("Name", 9, 0), ("Value", 9, 1)] := by kernel_rfl
theorem str_part (n v : ByteArray) (w : World) : (part 9 #[.string n, .string v] 0).run Try.prog w = .ok (.string n) w := by kernel_rfl
theorem str_part1 (n v : ByteArray) (w : World) : (part 9 #[.string n, .string v] 1).run Try.prog w = .ok (.string v) w := by kernel_rfl
/-- whether two fields are one -/
theorem fld_eql (a b c d : ByteArray) (w : World) : (binOp .eql 29 (.agg #[.string a, .string b]) (.agg #[.string c, .string d])).run Try.prog w = .ok (.bool (eqB a c && eqB b d)) w := by
  rw [run_eql_struct, run_equalIn_agg w 9999 29 _ _ fld_struct fld_held]
  have hf := fld_fields
  cases hq : (Try.prog.fieldsOf 29).toList with
  | nil => rw [hq] at hf; simp at hf
  | cons f l =>
    rw [hq] at hf
    cases l with
    | nil => simp at hf
    | cons g m =>
      cases m with
      | cons _ _ => simp at hf
      | nil =>
        simp only [List.map_cons, List.map_nil, List.cons.injEq, Prod.mk.injEq, and_true] at hf
        obtain ⟨⟨f1, f2, f3⟩, ⟨g1, g2, g3⟩⟩ := hf
        have ne1 : ("Name" : String) ≠ "_" := by decide
        have ne2 : ("Value" : String) ≠ "_" := by decide
        simp only [Op.eqFields, f1, f2, f3, g1, g2, g3, ne1, ne2, ne_eq, not_false_eq_true, if_true, Sem.run_bind, str_part, Result.andThen_ok, run_equalIn_string w 9998 9 _ _ Try.underlying9]
        rw [eqB, eqB]
        cases h1 : (a.toList == c.toList)
        · simp [Result.andThen]
        · cases h2 : (b.toList == d.toList) <;> simp [str_part1, run_equalIn_string w 9998 9 _ _ Try.underlying9, h2, Result.andThen]
theorem store_fld {ops : Array Oper} {rest : List Oper} {o : Oper} {a : Act} {w : World} {Q : Exit → Act → World → Prop} (hgd : o.guard = none) (x y : Operand) (ho : o.op = .store 29 x y)
    (g : Nat) (n v n0 v0 : ByteArray) (hx : a.eval x = .pointer (some ⟨g, 0, none⟩)) (hy : a.eval y = .agg #[.string n, .string v])
    (hg : w.heap[g]? = some (.cells #[.string n0, .string v0] 29 (0, 0)))
    (h : wpList Try.prog ops Q rest (a.put o.dst undef) (w.setRow g #[.string n, .string v])) : wpList Try.prog ops Q (o :: rest) a w :=
  wpList_store_row hgd 29 x y ho g #[.string n, .string v] hx hy 29 #[.string n0, .string v0] hg (by kernel_rfl) rfl (by simp [Value.oneCell']) h
end Go.Proofs.Ytabonhiolcjnnaa
