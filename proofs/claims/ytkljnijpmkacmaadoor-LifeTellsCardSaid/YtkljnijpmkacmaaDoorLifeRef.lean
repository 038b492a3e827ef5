
/-
  Layer 16's reference: After.
-/
import Derived.Test.YtkljnijpmkacmaaDoorProg
import Derived.Test.YtkljnijpmkacmaaDoorKit
import Derived.Test.YtkljnijpmkacmaaDoorOwn
import Derived.Test.YtkljnijpmkacmaaDoorBuilds
import Derived.Deep.WholeRow
namespace Go.Proofs.YtkljnijpmkacmaaDoor
set_option maxRecDepth 20000
open Go.RowKit

/-- what an event makes of a state: state, code, whether of the connection, error -/
def lifeN (s e : Int) : Int × Int × Bool × Int :=
  if s < 0 ∨ 4 < s ∨ e < 0 ∨ 8 < e then (0, 0, false, 1)
  else if (6 ≤ e ∧ (s = 0 ∨ s = 4)) ∨ (6 ≤ e ∧ e < 8 ∧ ¬ (s = 1 ∨ s = 2)) then (0, 0, false, 6)
  else if s = 0 ∧ 2 ≤ e then (0, 1, true, 0)
  else if s = 4 ∧ e < 4 then (4, 5, true, 0)
  else if s = 2 ∧ e < 4 then (2, 5, false, 0)
  else if e = 0 ∧ 0 < s then (s, 1, false, 0)
  else if s = 4 ∨ e = 4 ∨ e = 8 then (4, 0, false, 0)
  else if e = 0 then (1, 0, false, 0)
  else if e = 1 ∨ e = 3 then (if s = 3 then 4 else 2, 0, false, 0)
  else if e = 7 then (if s = 2 then 4 else 3, 0, false, 0)
  else (s, 0, false, 0)
def lifeA (x : Int × Int × Bool × Int) : Value := .agg #[.int .i64 x.1, .int .i64 x.2.1, .bool x.2.2.1]
def lifeV (x : Int × Int × Bool × Int) : Value := .tuple #[.agg #[.int .i64 x.1, .int .i64 x.2.1, .bool x.2.2.1], .int .i64 x.2.2.2]
def nxC (s c : Int) (b : Bool) : Array Value := #[.int .i64 s, .int .i64 c, .bool b]
theorem store_nx {ops : Array Oper} {rest : List Oper} {o : Oper} {a : Act} {w : World} {Q : Exit → Act → World → Prop} (hgd : o.guard = none) (x y : Operand) (ho : o.op = .store 31 x y)
    (g : Nat) (s c : Int) (b : Bool) (hx : a.eval x = .pointer (some ⟨g, 0, none⟩)) (hy : a.eval y = .agg #[.int .i64 s, .int .i64 c, .bool b])
    (hg : w.heap[g]? = some (.cells (nxC 0 0 false) 31 (0, 0)))
    (h : wpList Tryd.prog ops Q rest (a.put o.dst undef) (w.setRow g (nxC s c b))) : wpList Tryd.prog ops Q (o :: rest) a w :=
  wpList_store_row hgd 31 x y ho g (nxC s c b) hx hy 31 (nxC 0 0 false) hg (by kernel_rfl) rfl (by simp [nxC, Value.oneCell']) h
set_option maxHeartbeats 1000000 in
theorem refFault16_any (s c : Int) (b : Bool) (w : World) :
    Calls Tryd.prog 12 #[.int .i64 s, .int .i64 c, .bool b] w fun e w' => e = .returned (.tuple #[.agg #[.int .i64 s, .int .i64 c, .bool b], .int .i64 0]) ∧ Below w.heap.size w w' := by
  have hg : Hid ((w.alloc (.cells (nxC 0 0 false) 31)).heap[w.heap.size]? = some (.cells (nxC 0 0 false) 31 (0, 0))) := Lib.hid (heap_alloc_new _ _)
  unfold nxC at hg
  go_enter Tryd.func12, Tryd.ntmps12
  go_wp2_with (with_reducible refine store_nx rfl _ _ rfl w.heap.size s c b rfl rfl hg.out ?_)
  refine bodyPost_ret (results_row_tmp1 rfl _ _ w.heap.size 31 (nxC s c b) (0, 0) _ rfl (heap_alloc_new _ _) Tryd.underlying31 rfl (by kernel_rfl)) rfl ⟨rfl, (Below.refl _ _).alloc (Nat.le_refl _) _⟩
set_option maxHeartbeats 40000000 in
theorem refAfter_in (s e : Int) (w : World) (hs : 0 ≤ s ∧ s ≤ 4) (he : 0 ≤ e ∧ e ≤ 8) :
    Calls Tryd.prog 6 #[.int .i64 s, .int .i64 e] w fun x w' => x = .returned (lifeV (lifeN s e)) ∧ Below w.heap.size w w' := by
  have HB := Lib.hid ((Below.refl w.heap.size w).alloc (Nat.le_refl _) (.cells (nxC 0 0 false) 31))
  have hg : Hid ((w.alloc (.cells (nxC 0 0 false) 31)).heap[w.heap.size]? = some (.cells (nxC 0 0 false) 31 (0, 0))) := Lib.hid (heap_alloc_new _ _)
  unfold nxC at hg HB
  obtain rfl | rfl | rfl | rfl | rfl : s = 0 ∨ s = 1 ∨ s = 2 ∨ s = 3 ∨ s = 4 := by omega
  all_goals
    clear hs
    obtain rfl | rfl | rfl | rfl | rfl | rfl | rfl | rfl | rfl : e = 0 ∨ e = 1 ∨ e = 2 ∨ e = 3 ∨ e = 4 ∨ e = 5 ∨ e = 6 ∨ e = 7 ∨ e = 8 := by omega
  all_goals
    clear he
    go_enter Tryd.func6, Tryd.ntmps6
    go_wp2_with (with_reducible refine store_nx rfl _ _ rfl w.heap.size _ _ _ rfl rfl hg.out ?_)
    first
      | (refine bodyPost_ret (results_row_tmp1 rfl _ _ w.heap.size 31 (nxC _ _ _) (0, 0) _ rfl (heap_alloc_new _ _) Tryd.underlying31 rfl (by kernel_rfl)) rfl ⟨rfl, (Below.refl _ _).alloc (Nat.le_refl _) _⟩)
      | (refine (refFault16_any _ _ _ _).mono ?_
         rintro x w1 ⟨rfl, hb⟩
         have hg2 : Hid (w1.heap[w.heap.size]? = some (.cells (nxC 0 0 false) 31 (0, 0))) := Lib.hid ((hb.block _ (by simp)).trans hg.out)
         have HB2 := Lib.hid (HB.out.trans (hb.mono HB.out.size))
         clear hb
         go_wp2_with (with_reducible refine store_nx rfl _ _ rfl w.heap.size _ _ _ rfl rfl hg2.out ?_)
         refine bodyPost_ret (results_row_tmp1 rfl _ _ w.heap.size 31 (nxC _ _ _) (0, 0) _ rfl (setRow_heap _ _ _ _ _ _ hg2.out) Tryd.underlying31 rfl (by kernel_rfl)) rfl ⟨rfl, below_setRow HB2.out (Nat.le_refl _) _⟩)
set_option maxHeartbeats 2000000 in
theorem refAfter_any (s e : Int) (w : World) :
    Calls Tryd.prog 6 #[.int .i64 s, .int .i64 e] w fun x w' => x = .returned (lifeV (lifeN s e)) ∧ Below w.heap.size w w' := by
  by_cases h : (0 ≤ s ∧ s ≤ 4) ∧ 0 ≤ e ∧ e ≤ 8
  · exact refAfter_in s e w h.1 h.2
  · have HL := Lib.hid (show lifeN s e = (0, 0, false, 1) by unfold lifeN; rw [if_pos (by omega)])
    have HN := Lib.hid h
    have HB := Lib.hid ((Below.refl w.heap.size w).alloc (Nat.le_refl _) (.cells (nxC 0 0 false) 31))
    have hg : Hid ((w.alloc (.cells (nxC 0 0 false) 31)).heap[w.heap.size]? = some (.cells (nxC 0 0 false) 31 (0, 0))) := Lib.hid (heap_alloc_new _ _)
    unfold nxC at hg HB
    clear h
    go_enter Tryd.func6, Tryd.ntmps6
    go_wp2_with (first | (exfalso; have := HN.out; omega) | (with_reducible refine store_nx rfl _ _ rfl w.heap.size _ _ _ rfl rfl hg.out ?_) | fail)
    all_goals first
      | (exfalso; have := HN.out; omega)
      | (refine bodyPost_ret (results_row_tmp1 rfl _ _ w.heap.size 31 (nxC _ _ _) (0, 0) _ rfl (heap_alloc_new _ _) Tryd.underlying31 rfl (by kernel_rfl)) rfl ⟨by rw [HL.out]; rfl, (Below.refl _ _).alloc (Nat.le_refl _) _⟩)
end Go.Proofs.YtkljnijpmkacmaaDoor
