
/-
  The table that package static makes; Get.
-/
import Derived.Test.YtljbbficmgbieaaProg
import Derived.Test.YtljbbficmgbieaaStatTab
import Derived.Laws.CopyOwn
import Derived.Deep.WholeRow
import Derived.Test.YtljbbficmgbieaaBuilds
import Derived.Deep.Draws
import Derived.Outline
import Derived.WalkSmall
namespace Go.Proofs.Ytljbbficmgbieaa
open Go.RowKit

theorem Try.zeroFields : (Try.prog.info? 31).map (fun i => (i.zero, i.size)) = some (some (.agg (Array.replicate 122 (.string ⟨#[]⟩))), 122) := by kernel_rfl
theorem sizeFields : (Try.prog.info? 31).map (·.size) = some statV.size := by rw [statV_size]; exact (zero_of_info Try.zeroFields).2
theorem underFields : Try.prog.underlying 31 = some (.array 61 23) := by kernel_rfl

theorem statV_one : statV.all (·.oneCell') = true := by
  rw [Array.all_eq_true_iff_forall_mem]
  intro v hv
  simp only [statV, List.mem_toArray, List.mem_flatMap, List.mem_cons, List.not_mem_nil, or_false] at hv
  obtain ⟨p, _, rfl | rfl⟩ := hv <;> rfl
set_option maxHeartbeats 4000000 in
set_option maxRecDepth 20000 in
theorem fields_any (w : World) :
    Calls Try.prog 10 #[] w fun e w' => e = .returned (.agg statV) ∧ Below w.heap.size w w' := by
  have hz := (zero_of_info Try.zeroFields).1
  go_enter Try.func10, Try.ntmps10
  go_wp2_with (refine wpList_buildAll 63 62 (by decide) (Value.pointer (some ⟨w.heap.size, 0, none⟩) :: (statTab.map (fun p => fldV p.1 p.2) ++ [.agg statV])).toArray (by kernel_rfl) ?_; simp only [List.drop_succ_cons, List.drop_zero]; refine wpList_store_row rfl 31 (.tmp 0) (.tmp 62) rfl w.heap.size statV rfl (by kernel_rfl) 31 (Array.replicate 122 (.string ⟨#[]⟩)) (heap_alloc_new _ _) sizeFields (by rw [statV_size]; rfl) statV_one ?_)
  refine bodyPost_ret (v := .agg statV) (results_cell_row rfl _ _ w.heap.size 31 statV (0, 0) _ (by kernel_rfl) (setRow_heap _ _ _ _ _ _ (heap_alloc_new _ _)) underFields rfl sizeFields) rfl ⟨rfl, below_setRow ((Below.refl _ _).alloc (Nat.le_refl _) _) (Nat.le_refl _) _⟩

/-- the field of an index: name, value, error -/
def getN (i : Int) : ByteArray := if 1 ≤ i ∧ i ≤ 61 then fNm (i - 1).toNat else ⟨#[]⟩
def getV (i : Int) : ByteArray := if 1 ≤ i ∧ i ≤ 61 then fVl (i - 1).toNat else ⟨#[]⟩
def getE (i : Int) : Int := if 1 ≤ i ∧ i ≤ 61 then 0 else 5
def getT (i : Int) : Value := .tuple #[fldV (getN i) (getV i), .int .i64 (getE i)]
theorem run_static (i : Nat) (hi : i < 61) (k : IntKind) (w : World) : (Instr.index 31 (.agg statV) (.int k i)).run Try.prog w = .ok (fldV (fNm i) (fVl i)) w :=
  run_statV underFields (fun _ => by kernel_rfl) (fun _ => by kernel_rfl) i hi k w

theorem store_fld {ops : Array Oper} {rest : List Oper} {o : Oper} {a : Act} {w : World} {Q : Exit → Act → World → Prop} (hgd : o.guard = none) (x y : Operand) (ho : o.op = .store 23 x y)
    (g : Nat) (n v n0 v0 : ByteArray) (hx : a.eval x = .pointer (some ⟨g, 0, none⟩)) (hy : a.eval y = .agg #[.string n, .string v])
    (hg : w.heap[g]? = some (.cells #[.string n0, .string v0] 23 (0, 0)))
    (h : wpList Try.prog ops Q rest (a.put o.dst undef) (w.setRow g #[.string n, .string v])) : wpList Try.prog ops Q (o :: rest) a w :=
  wpList_store_row hgd 23 x y ho g #[.string n, .string v] hx hy 23 #[.string n0, .string v0] hg (by kernel_rfl) rfl (by simp [Value.oneCell']) h
theorem get_any (i : Int) (w : World) :
    Calls Try.prog 6 #[.int .i64 i] w fun e w' => e = .returned (getT i) ∧ Below w.heap.size w w' := by
  by_cases h : 1 ≤ i ∧ i ≤ 61
  · obtain ⟨k, rfl⟩ : ∃ k : Nat, i = (k : Int) + 1 := ⟨(i - 1).toNat, by omega⟩
    have hk : k < 61 := by omega
    have HT := Lib.hid (show getT ((k : Int) + 1) = .tuple #[fldV (fNm k) (fVl k), .int .i64 0] by
      rw [getT, getN, getV, getE, if_pos h, if_pos h, if_pos h, show ((k : Int) + 1 - 1).toNat = k by omega])
    have d1 : decide ((k : Int) + 1 < 1) = false := decide_eq_false (by omega)
    have d2 : decide (61 < (k : Int) + 1) = false := decide_eq_false (by omega)
    have hx : ∀ (q : IntKind) (W : World), (Instr.index 31 (.agg statV) (.int q (k : Int))).run Try.prog W = .ok (fldV (fNm k) (fVl k)) W := run_static k hk
    clear h
    go_enter Try.func6, Try.ntmps6
    go_wp2_with fail
    refine (fields_any _).mono ?_
    rintro e w' ⟨rfl, hb⟩
    have hg : Hid (w'.heap[w.heap.size]? = some (.cells #[.string ⟨#[]⟩, .string ⟨#[]⟩] 23 (0, 0)) ∧ Below w.heap.size w w') :=
      ⟨(hb.block _ (by simp)).trans (heap_alloc_new _ _), ((Below.refl _ _).alloc (Nat.le_refl _) _).trans (hb.mono (by simp))⟩
    clear hb
    go_wp2_with (with_reducible refine store_fld rfl (.tmp 2) (.tmp 14) rfl w.heap.size (fNm k) (fVl k) _ _ rfl rfl hg.out.1 ?_)
    refine bodyPost_ret (results_row_tmp1 rfl _ _ w.heap.size 23 #[.string (fNm k), .string (fVl k)] (0, 0) _ rfl (setRow_heap _ _ _ _ _ _ hg.out.1) Try.underlying23 rfl (by kernel_rfl)) rfl ⟨?_, below_setRow hg.out.2 (Nat.le_refl _) _⟩
    rw [HT.out]; rfl
  · have HT := Lib.hid (show getT i = .tuple #[fldV ⟨#[]⟩ ⟨#[]⟩, .int .i64 5] by
      rw [getT, getN, getV, getE, if_neg h, if_neg h, if_neg h])
    by_cases h1 : i < 1
    · have d1 : decide (i < 1) = true := decide_eq_true h1
      clear h h1
      go_enter Try.func6, Try.ntmps6
      go_wp2_with fail
      refine bodyPost_ret (results_row_tmp1 rfl _ _ w.heap.size 23 #[.string ⟨#[]⟩, .string ⟨#[]⟩] (0, 0) _ rfl (heap_alloc_new _ _) Try.underlying23 rfl (by kernel_rfl)) rfl ⟨?_, (Below.refl _ _).alloc (Nat.le_refl _) _⟩
      rw [HT.out]; rfl
    · have d1 : decide (i < 1) = false := decide_eq_false h1
      have d2 : decide (61 < i) = true := decide_eq_true (by omega)
      clear h h1
      go_enter Try.func6, Try.ntmps6
      go_wp2_with fail
      refine bodyPost_ret (results_row_tmp1 rfl _ _ w.heap.size 23 #[.string ⟨#[]⟩, .string ⟨#[]⟩] (0, 0) _ rfl (heap_alloc_new _ _) Try.underlying23 rfl (by kernel_rfl)) rfl ⟨?_, (Below.refl _ _).alloc (Nat.le_refl _) _⟩
      rw [HT.out]; rfl
end Go.Proofs.Ytljbbficmgbieaa
