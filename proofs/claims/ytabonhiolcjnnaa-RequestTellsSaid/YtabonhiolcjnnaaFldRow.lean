
/-
  Rows of fields: written out; several more behind them. No function of the program is named here.
-/
import Derived.Test.YtabonhiolcjnnaaDynKit
import Derived.Maps.AppendAt
namespace Go.Proofs.Ytabonhiolcjnnaa
set_option maxRecDepth 20000
open Go.RowKit

theorem fr_slice : Try.prog.underlying 22 = some (.slice 29) := by kernel_rfl
theorem fr_size : (Try.prog.info? 29).map (fun i => (i.zero, i.size, i.bytes)) = some (some (.agg #[.string ⟨#[]⟩, .string ⟨#[]⟩]), 2, 32) := by kernel_rfl
/-- a row of fields as it is written out -/
theorem rowF_lit (w : World) (fs : List Fd) (base : Nat) (hb : base ≤ w.heap.size) (hm : fs.length ≤ maxLen) (cs : Array Value) (hc : cs = (fcs fs).toArray) (n : Nat) (hn : n = fs.length) :
    RowF (w.alloc (.cells cs 29)) base (.slice (some ⟨w.heap.size, 0, none⟩) n n) fs := by
  subst hn; subst hc
  refine ⟨fcs_length _, .inr ⟨w.heap.size, fs.length, _, rfl, hb, heap_alloc_new w _, Nat.le_refl _, hm, ?_, ?_⟩⟩
  · simp [fcs_length]
  · rw [List.toList_toArray, List.take_of_length_le (by rw [fcs_length]; exact Nat.le_refl _)]
/-- 'append(l, fields..)', those that lie in a block of their own -/
theorem app_flds {Z : World} {ops : Array Oper} {rest : List Oper} {o : Oper} {a : Act} {Q : Exit → Act → World → Prop} (hgd : o.guard = none) (s x : Operand)
    (ho : o.op = .call { callee := .builtin .append, args := #[s, x], argTypes := #[22, 22] }) (base : Nat) (v : Value) (fs : List Fd) (hs : a.eval s = v) (hr : RowF Z base v fs) (g m : Nat) (ms : List Fd) (hm : m = ms.length) (hx : a.eval x = .slice (some ⟨g, 0, none⟩) m m)
    (hf : Z.heap[g]? = some (.cells (fcs ms).toArray 29 (0, 0))) (hl : fs.length + ms.length ≤ 1000000) (hbase : base ≤ Z.heap.size)
    (h : ∀ (v' : Value) (Z' : World), RowF Z' base v' (fs ++ ms) → Z.grownBy Z' v.ownBlock → wpList Try.prog ops Q rest (a.put o.dst v') Z') : wpList Try.prog ops Q (o :: rest) a Z := by
  subst hm
  obtain ⟨i0, hi, hz0, hz1, hz2⟩ := info_parts fr_size
  refine wpList_append_own_at Z hgd s x 22 ho base 29 i0 _ 2 32 fr_slice hi hz0 hz1 hz2 rfl (by decide) v fs.length (fcs fs) hs hr ⟨g, 0, none⟩ ms.length ms.length (fcs ms) hx (fcs_length _) (fun j u hj => ?_) (fcs_oneCell _) (by unfold maxLen; omega) (by omega) hbase ?_
  · rw [show (⟨g, 0, none⟩ : Addr).add j = ⟨g, j, none⟩ by simp [Go.WideShapes.add_plain]]
    exact blk_cell hf (by simpa using hj)
  intro v' Z' hown hg _ _
  refine h v' Z' ?_ hg
  unfold RowF
  rw [List.length_append, fcs_append]
  exact hown
theorem below_grew {w Z Z' : World} {v : Value} {fs : List Fd} (hb : Below w.heap.size w Z) (hr : RowF Z w.heap.size v fs) (hg : Z.grownBy Z' v.ownBlock) : Below w.heap.size w Z' :=
  hb.trans ⟨hg.os, hg.tape, hg.output, hg.size, fun k hk => hg.block k (Nat.lt_of_lt_of_le hk hb.size) (fun e => by have := (hr.lt k e.symm).1; omega)⟩
end Go.Proofs.Ytabonhiolcjnnaa
