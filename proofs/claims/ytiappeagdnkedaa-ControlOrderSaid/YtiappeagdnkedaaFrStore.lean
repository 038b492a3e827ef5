
/-
  A frame stored into its row, in one step.
-/
import Derived.Test.YtiappeagdnkedaaProg
import Derived.Test.YtiappeagdnkedaaFrameKit
import Derived.Test.YtiappeagdnkedaaOwn
import Derived.OpenShut
import Derived.Deep.WholeRow
namespace Go.Proofs.Ytiappeagdnkedaa
open Go.RowKit

theorem store_fr13 {ops : Array Oper} {rest : List Oper} {o : Oper} {a : Act} {w : World} {Q : Exit → Act → World → Prop} (hgd : o.guard = none) (x y : Operand) (ho : o.op = .store 34 x y)
    (g : Nat) (F : Fr) (ap : Option Addr) (n cp : Nat) (cs : Array Value) (hx : a.eval x = .pointer (some ⟨g, 0, none⟩)) (hy : a.eval y = .agg #[.int .i64 F.kind, .int .i64 F.flags, .int .i64 F.stream, .slice ap n cp]) (hg : w.heap[g]? = some (.cells cs 34 (0, 0))) (hcs : cs.size = 4)
    (h : wpList Try.prog ops Q rest (a.put o.dst undef) (w.setRow g #[.int .i64 F.kind, .int .i64 F.flags, .int .i64 F.stream, .slice ap n cp])) : wpList Try.prog ops Q (o :: rest) a w :=
  wpList_store_row hgd 34 x y ho g _ hx hy 34 cs hg (by rw [show (#[Value.int .i64 F.kind, .int .i64 F.flags, .int .i64 F.stream, .slice ap n cp] : Array Value).size = 4 from rfl]; kernel_rfl) (by rw [hcs]; rfl) (by simp [Value.oneCell']) h
theorem wp_fr13 {o : Oper} {a : Act} {w : World} {K : Act → World → Prop} {Q : Exit → Act → World → Prop} (hd : o.dst = none) (x y : Operand) (ho : o.op = .store 34 x y) (g : Nat) (F : Fr) (ap : Option Addr) (n cp : Nat) (cs : Array Value) (hx : a.eval x = .pointer (some ⟨g, 0, none⟩))
    (hy : a.eval y = .agg #[.int .i64 F.kind, .int .i64 F.flags, .int .i64 F.stream, .slice ap n cp]) (hg : w.heap[g]? = some (.cells cs 34 (0, 0))) (hcs : cs.size = 4) (h : K a (w.setRow g #[.int .i64 F.kind, .int .i64 F.flags, .int .i64 F.stream, .slice ap n cp])) : o.wp Try.prog a w K Q :=
  wp_store_row 34 x y ho g _ hx hy 34 cs hg (by rw [show (#[Value.int .i64 F.kind, .int .i64 F.flags, .int .i64 F.stream, .slice ap n cp] : Array Value).size = 4 from rfl]; kernel_rfl) (by rw [hcs]; rfl) (by simp [Value.oneCell']) (by rw [hd]; exact h)
end Go.Proofs.Ytiappeagdnkedaa
