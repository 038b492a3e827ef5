
/-
  Arrays of six numbers, held against each other.
-/
import Derived.Test.YtcembofjhajpbaaKit
import Derived.Test.YtcembofjhajpbaaProg
import Derived.DeepKeys
namespace Go.Proofs.Ytcembofjhajpbaa
open Go.RowKit

def arr6 (c0 c1 c2 c3 c4 c5 : Int) : Value := .agg #[.int .i64 c0, .int .i64 c1, .int .i64 c2, .int .i64 c3, .int .i64 c4, .int .i64 c5]
theorem arr6_formed (c0 c1 c2 c3 c4 c5 : Int) : (arr6 c0 c1 c2 c3 c4 c5).formed Try.prog 22 = true := by kernel_rfl
theorem lit1 (c : Int) (h : (Lit.int .i64 c).wf = true) : Try.prog.keyLits 8 3 [.int .i64 c] = some [.int .i64 c] := by
  have hi : Try.prog.underlying 3 = some (.int .i64) := Try.underlying3
  unfold Program.keyLits
  rw [hi]
  simp [h]
def wf6 (c0 c1 c2 c3 c4 c5 : Int) : Prop := (Lit.int .i64 c0).wf = true ∧ (Lit.int .i64 c1).wf = true ∧ (Lit.int .i64 c2).wf = true ∧ (Lit.int .i64 c3).wf = true ∧ (Lit.int .i64 c4).wf = true ∧ (Lit.int .i64 c5).wf = true
theorem arr6_lits (c0 c1 c2 c3 c4 c5 : Int) (h : wf6 c0 c1 c2 c3 c4 c5) : Try.prog.keyLits 9 22 [.int .i64 c0, .int .i64 c1, .int .i64 c2, .int .i64 c3, .int .i64 c4, .int .i64 c5] = some [.int .i64 c0, .int .i64 c1, .int .i64 c2, .int .i64 c3, .int .i64 c4, .int .i64 c5] := by
  have hu : Try.prog.underlying 22 = some (.array 6 3) := Try.underlying22
  have h1 : Try.prog.cellsOf 3 = 1 := by kernel_rfl
  have h6 : Try.prog.cellsOf 22 = 6 := by kernel_rfl
  obtain ⟨g0, g1, g2, g3, g4, g5⟩ := h
  have l0 := lit1 c0 g0
  have l1 := lit1 c1 g1
  have l2 := lit1 c2 g2
  have l3 := lit1 c3 g3
  have l4 := lit1 c4 g4
  have l5 := lit1 c5 g5
  unfold Program.keyLits
  rw [hu]
  simp only [h1, h6, List.length_cons, List.length_nil, if_true, Nat.zero_add, Nat.reduceAdd]
  rw [show List.range 6 = [0, 1, 2, 3, 4, 5] from rfl]
  simp [List.mapM_cons, l0, l1, l2, l3, l4, l5]
theorem arr6_equal (c0 c1 c2 c3 c4 c5 d0 d1 d2 d3 d4 d5 : Int) (w : World) (hc : wf6 c0 c1 c2 c3 c4 c5) (hd : wf6 d0 d1 d2 d3 d4 d5) : (Op.equalIn 10000 22 (arr6 c0 c1 c2 c3 c4 c5) (arr6 d0 d1 d2 d3 d4 d5)).run Try.prog w = .ok (decide (c0 = d0 ∧ c1 = d1 ∧ c2 = d2 ∧ c3 = d3 ∧ c4 = d4 ∧ c5 = d5)) w := by
  have hk : Try.prog.keyTypeAt 2 22 = true := by kernel_rfl
  obtain ⟨r, hr, hiff⟩ := run_equalIn_deep (P := Try.prog) 9998 2 22 hk w 9 9 _ _ _ _ (arr6_formed c0 c1 c2 c3 c4 c5) (arr6_formed d0 d1 d2 d3 d4 d5) (arr6_lits c0 c1 c2 c3 c4 c5 hc) (arr6_lits d0 d1 d2 d3 d4 d5 hd)
  have e : r = decide (c0 = d0 ∧ c1 = d1 ∧ c2 = d2 ∧ c3 = d3 ∧ c4 = d4 ∧ c5 = d5) := by
    rw [Bool.eq_iff_iff, hiff, decide_eq_true_eq]
    simp
  rw [e] at hr
  exact hr
theorem arr6_eql (c0 c1 c2 c3 c4 c5 d0 d1 d2 d3 d4 d5 : Int) (w : World) (hc : wf6 c0 c1 c2 c3 c4 c5) (hd : wf6 d0 d1 d2 d3 d4 d5) : (binOp .eql 22 (arr6 c0 c1 c2 c3 c4 c5) (arr6 d0 d1 d2 d3 d4 d5)).run Try.prog w = .ok (.bool (decide (c0 = d0 ∧ c1 = d1 ∧ c2 = d2 ∧ c3 = d3 ∧ c4 = d4 ∧ c5 = d5))) w := by
  have h := arr6_equal c0 c1 c2 c3 c4 c5 d0 d1 d2 d3 d4 d5 w hc hd
  unfold arr6 at h ⊢
  rw [run_eql_struct, h]
  rfl
theorem arr6_neq (c0 c1 c2 c3 c4 c5 d0 d1 d2 d3 d4 d5 : Int) (w : World) (hc : wf6 c0 c1 c2 c3 c4 c5) (hd : wf6 d0 d1 d2 d3 d4 d5) : (binOp .neq 22 (arr6 c0 c1 c2 c3 c4 c5) (arr6 d0 d1 d2 d3 d4 d5)).run Try.prog w = .ok (.bool (!decide (c0 = d0 ∧ c1 = d1 ∧ c2 = d2 ∧ c3 = d3 ∧ c4 = d4 ∧ c5 = d5))) w := by
  have h := arr6_equal c0 c1 c2 c3 c4 c5 d0 d1 d2 d3 d4 d5 w hc hd
  unfold arr6 at h ⊢
  simp only [binOp, Op.equal, Op.maxDepth, Sem.run_bind, h, Result.andThen_ok, Sem.run_pure]
end Go.Proofs.Ytcembofjhajpbaa
