
/-
  Layer 13's intake: Preface, New, Begun, Len, end.
-/
import Derived.Test.YtappehjcbjplaaaInkObj
import Derived.Test.YtappehjcbjplaaaBuilds
import Derived.Lib.SmallJoins
namespace Go.Proofs.Ytappehjcbjplaaa
set_option maxRecDepth 20000
open Go.RowKit

theorem pPreface_any (w : World) : Calls Try.prog 20 #[] w fun e w' => ∃ v, e = .returned v ∧ Sl .u8 w' v preL ∧ Below w.heap.size w w' ∧ ∀ g, v.ownBlock = some g → w.heap.size ≤ g := by
  have hcv := Go.Joins.run_convert_bytes_const_at (P := Try.prog) w 30 5 (preL.map (Value.int .u8)).toArray 24 24 w.heap.size rfl Try.underlying30 Try.underlying5
  simp only [preL, List.map_cons, List.map_nil] at hcv
  go_enter Try.func20, Try.ntmps20
  go_wp2_with fail
  go_ret
  refine ⟨_, rfl, ⟨some ⟨w.heap.size, 0, none⟩, 24, rfl, by decide, by unfold maxLen; decide, preL_fit, .inr ⟨w.heap.size, 0, rfl, by simp, fun i hi => ?_⟩⟩, (Below.refl _ _).alloc (Nat.le_refl _) _, fun g hg => by cases hg; exact Nat.le_refl _⟩
  rw [Nat.zero_add, Go.Joins.cell_alloc_mark_at _ _ _ _ _ _ rfl]
  have hi' : i < 24 := hi
  rw [show (#[Value.int .u8 80, .int .u8 82, .int .u8 73, .int .u8 32, .int .u8 42, .int .u8 32, .int .u8 72, .int .u8 84, .int .u8 84, .int .u8 80, .int .u8 47, .int .u8 50, .int .u8 46, .int .u8 48, .int .u8 13, .int .u8 10, .int .u8 13, .int .u8 10, .int .u8 83, .int .u8 77, .int .u8 13, .int .u8 10, .int .u8 13, .int .u8 10] : Array Value) = (preL.map (Value.int .u8)).toArray from rfl]
  simp [at0, hi]
theorem pNew_no (most : Int) (w : World) (h : most < 16384 ∨ 16777215 < most) : Calls Try.prog 6 #[.int .i64 most] w fun e w' => e = .returned (.tuple #[.pointer none, .int .i64 1]) ∧ Below w.heap.size w w' := by
  by_cases h1 : most < 16384
  · have d1 : decide (most < 16384) = true := decide_eq_true h1
    clear h h1
    go_enter Try.func6, Try.ntmps6
    go_wp2_with fail
    go_ret2
    exact ⟨rfl, Below.refl _ _⟩
  · have d1 : decide (most < 16384) = false := decide_eq_false h1
    have d2 : decide (16777215 < most) = true := decide_eq_true (by omega)
    clear h h1
    go_enter Try.func6, Try.ntmps6
    go_wp2_with fail
    go_ret2
    exact ⟨rfl, Below.refl _ _⟩
theorem new_obj (most : Int) (w : World) (h0 : 16384 ≤ most) (h1 : most ≤ 16777215) : Calls Try.prog 6 #[.int .i64 most] w fun e w' =>
    e = .returned (.tuple #[.pointer (some ⟨w.heap.size, 0, none⟩), .int .i64 0]) ∧ IkObj w' w.heap.size most false (.slice none 0 0) [] 0 0 ∧ Below w.heap.size w w' := by
  have d1 : decide (most < 16384) = false := decide_eq_false (by omega)
  have d2 : decide (16777215 < most) = false := decide_eq_false (by omega)
  clear h0 h1
  go_enter Try.func6, Try.ntmps6
  go_wp2_with fail
  go_ret2
  exact ⟨rfl, ⟨heap_alloc_new w _, CamB.nil _, Nat.le_refl _, fun g hg => by cases hg⟩, (Below.refl _ _).alloc (Nat.le_refl _) _⟩
theorem pBegun_nil (w : World) : Calls Try.prog 13 #[.pointer none] w fun e w' => e = .returned (.bool false) ∧ Below w.heap.size w w' := by
  go_enter Try.func13, Try.ntmps13
  go_wp2_with fail
  go_ret
  exact ⟨rfl, Below.refl _ _⟩
theorem pLen_nil (w : World) : Calls Try.prog 15 #[.pointer none] w fun e w' => e = .returned (.int .i64 0) ∧ Below w.heap.size w w' := by
  go_enter Try.func15, Try.ntmps15
  go_wp2_with fail
  go_ret
  exact ⟨rfl, Below.refl _ _⟩
theorem pFeed_nil (v : Value) (b : List Int) (w : World) (hv : Sl .u8 w v b) : Calls Try.prog 8 #[.pointer none, v] w fun e w' => e = .returned (.tuple #[]) ∧ Below w.heap.size w w' := by
  obtain ⟨a, c, rfl, _⟩ := id hv
  go_enter Try.func8, Try.ntmps8
  go_wp2_with fail
  refine bodyPost_ret (results_none rfl _ _ _) rfl ?_
  exact ⟨rfl, Below.refl _ _⟩
section
variable {T : Nat} {most : Int} {begun : Bool} {cv : Value} {cs : List Int} {told : Nat} {over : Int}
theorem begun_obj (w : World) (h : IkObj w T most begun cv cs told over) : Calls Try.prog 13 #[.pointer (some ⟨T, 0, none⟩)] w fun e w' => e = .returned (.bool begun) ∧ Below w.heap.size w w' := by
  obtain ⟨f0, f1, f2, f3, f4, f5⟩ := h.blk.cells
  go_enter Try.func13, Try.ntmps13
  go_wp2_with fail
  go_ret
  exact ⟨rfl, Below.refl _ _⟩
theorem len_obj (w : World) (h : IkObj w T most begun cv cs told over) : Calls Try.prog 15 #[.pointer (some ⟨T, 0, none⟩)] w fun e w' => e = .returned (.int .i64 ((cs.length - told : Nat) : Int)) ∧ ∃ n, w' = w.drewN n := by
  obtain ⟨f0, f1, f2, f3, f4, f5⟩ := h.blk.cells
  obtain ⟨a, c, rfl, _⟩ := id h.came.sl
  have hle := h.le
  have hl := h.came.sl.len
  unfold maxLen at hl
  have HD := Lib.hid (show ((cs.length - told : Nat) : Int) = (cs.length : Int) - told by omega)
  clear h
  go_enter Try.func15, Try.ntmps15
  go_wp2_with fail
  go_quiet (fail)
  go_wp2_with fail
  go_ret
  exact ⟨by rw [HD.out]; rfl, _, rfl⟩
theorem end_obj (w : World) (e0 : Int) (h : IkObj w T most begun cv cs told over) : Calls Try.prog 26 #[.pointer (some ⟨T, 0, none⟩), .int .i64 e0] w fun e w' =>
    e = .returned (.tuple #[]) ∧ IkObj w' T most begun (.slice none 0 0) [] 0 e0 ∧ Turn (fun k => k = T) w w' := by
  obtain ⟨f0, f1, f2, f3, f4, f5⟩ := h.blk.cells
  have g2 := h.blk.free 2
  have g3 := h.blk.free 3
  have g4 := h.blk.free 4
  have HB := Lib.hid h.blk
  clear h
  go_enter Try.func26, Try.ntmps26
  go_wp2_with fail
  refine bodyPost_end (results_none rfl _ _ _) rfl ?_
  refine ⟨rfl, ⟨?_, CamB.nil _, Nat.le_refl _, fun g hg => by cases hg⟩, ((turn_set _ _ _).trans (turn_set _ _ _)).trans (turn_set _ _ _)⟩
  exact heap_setCell_same _ T 4 _ _ _ (heap_setCell_same _ T 3 _ _ _ (heap_setCell_same _ T 2 _ _ _ HB.out))
end
end Go.Proofs.Ytappehjcbjplaaa
