
/-
  Layer 6's reference: names, value.
-/
import Derived.Test.YtljbbficmgbieaaStatGet
import Derived.Test.YtljbbficmgbieaaStatMath
import Derived.Test.YtljbbficmgbieaaFld
import Derived.Test.YtljbbficmgbieaaRegion
import Derived.Test.YtljbbficmgbieaaBits
namespace Go.Proofs.Ytljbbficmgbieaa
open Go.RowKit

theorem vals_all : (List.range 61).all (fun k => ((1 ≤ k && k ≤ 13) || k == 15) || eqB (fVl k) ⟨#[]⟩) = true := by decide +kernel
theorem getV_rest {i : Int} (h : ¬ ((2 ≤ i ∧ i ≤ 14) ∨ i = 16)) : getV i = ⟨#[]⟩ := by
  unfold getV
  split
  · rename_i hi
    have := List.all_eq_true.1 vals_all (i - 1).toNat (List.mem_range.2 (by omega))
    simp only [Bool.or_eq_true, Bool.and_eq_true, decide_eq_true_eq, beq_iff_eq, eqB_iff] at this
    rcases this with (⟨h1, h2⟩ | h1) | h1
    · omega
    · omega
    · exact h1
  · rfl
set_option maxRecDepth 20000 in
theorem value_any (i : Int) (w : World) : Calls Try.prog 12 #[.int .i64 i] w fun e w' => e = .returned (.string (getV i)) ∧ w = w' := by
  by_cases h : (2 ≤ i ∧ i ≤ 14) ∨ i = 16
  · rcases (show i = 2 ∨ i = 3 ∨ i = 4 ∨ i = 5 ∨ i = 6 ∨ i = 7 ∨ i = 8 ∨ i = 9 ∨ i = 10 ∨ i = 11 ∨ i = 12 ∨ i = 13 ∨ i = 14 ∨ i = 16 by omega) with rfl | rfl | rfl | rfl | rfl | rfl | rfl | rfl | rfl | rfl | rfl | rfl | rfl | rfl
    all_goals
      clear h
      go_enter Try.func12, Try.ntmps12
      go_wp2
      go_ret
      exact ⟨rfl, rfl⟩
  · have HV := Lib.hid (getV_rest h)
    have e2 : (i == 2) = false := by rw [beq_eq_false_iff_ne]; omega
    have e3 : (i == 3) = false := by rw [beq_eq_false_iff_ne]; omega
    have e4 : (i == 4) = false := by rw [beq_eq_false_iff_ne]; omega
    have e5 : (i == 5) = false := by rw [beq_eq_false_iff_ne]; omega
    have e6 : (i == 6) = false := by rw [beq_eq_false_iff_ne]; omega
    have e7 : (i == 7) = false := by rw [beq_eq_false_iff_ne]; omega
    have e8 : (i == 8) = false := by rw [beq_eq_false_iff_ne]; omega
    have e9 : (i == 9) = false := by rw [beq_eq_false_iff_ne]; omega
    have e10 : (i == 10) = false := by rw [beq_eq_false_iff_ne]; omega
    have e11 : (i == 11) = false := by rw [beq_eq_false_iff_ne]; omega
    have e12 : (i == 12) = false := by rw [beq_eq_false_iff_ne]; omega
    have e13 : (i == 13) = false := by rw [beq_eq_false_iff_ne]; omega
    have e14 : (i == 14) = false := by rw [beq_eq_false_iff_ne]; omega
    have e16 : (i == 16) = false := by rw [beq_eq_false_iff_ne]; omega
    clear h
    go_enter Try.func12, Try.ntmps12
    go_wp2
    go_ret
    exact ⟨by rw [HV.out]; rfl, rfl⟩
/-- the names, as a row's cells -/
def nameVs : List Value := statTab.map fun p => .string p.1
theorem nameVs_len : nameVs.length = 61 := by rw [nameVs, List.length_map, statTab_len]
theorem nameVs_at {i : Nat} (h : i < 61) : nameVs.toArray[i]? = some (.string (fNm i)) := by
  have hl : i < statTab.length := by rw [statTab_len]; exact h
  simp [nameVs, fNm, hl]
/-- the names lie in this block -/
def NamesAt (W : World) (g : Nat) : Prop := W.heap[g]? = some (.cells nameVs.toArray 9 (0, 0))
theorem NamesAt.grown {W W' : World} {g : Nat} (h : NamesAt W g) (hb : Below W.heap.size W W') : NamesAt W' g := (hb.block g (Array.getElem?_eq_some_iff.1 h).1).trans h
theorem NamesAt.at_ {W : World} {g i : Nat} (h : NamesAt W g) (hi : i < 61) : W.cell? ⟨g, i, none⟩ = some (.string (fNm i)) := by
  have := nameVs_at hi
  unfold NamesAt at h
  simp only [World.cell?, h]
  exact this
theorem sliceStr : Try.prog.underlying 33 = some (.slice (Try.prog.elem 33)) := by kernel_rfl
theorem sizeElemStr (w : World) : (sizeOf (Try.prog.elem 33)).run Try.prog w = .ok 1 w := by kernel_rfl
theorem names_index (g k : Nat) (hk : k < 61) (q : IntKind) (W : World) : (Instr.indexAt 33 (.slice (some ⟨g, 0, none⟩) 61 61) (.int q k)).run Try.prog W = .ok (.pointer (some ⟨g, k, none⟩)) W := by
  have := run_index_sl sliceStr sizeElemStr g 0 61 61 k hk q W
  rwa [Nat.zero_add, Nat.mul_one] at this
set_option maxRecDepth 20000 in
theorem names_any (w : World) : Calls Try.prog 11 #[] w fun e w' => e = .returned (.slice (some ⟨w.heap.size, 0, none⟩) 61 61) ∧ NamesAt w' w.heap.size ∧ Below w.heap.size w w' := by
  go_enter Try.func11, Try.ntmps11
  go_wp2_with (refine wpList_buildOnes rfl 33 9 61 _ rfl nameVs Try.underlying33 (by kernel_rfl) (by kernel_rfl) (by rw [nameVs_len]) (by decide) (by decide) (by kernel_rfl) (fun v hv => by obtain ⟨p, _, rfl⟩ := List.mem_map.1 hv; rfl) ?_)
  go_ret
  exact ⟨rfl, heap_alloc_new _ _, (Below.refl _ _).alloc (Nat.le_refl _) _⟩
theorem refGet_any (i : Int) (w : World) :
    Calls Try.prog 7 #[.int .i64 i] w fun e w' => e = .returned (getT i) ∧ Below w.heap.size w w' := by
  by_cases h : 1 ≤ i ∧ i ≤ 61
  · obtain ⟨k, rfl⟩ : ∃ k : Nat, i = (k : Int) + 1 := ⟨(i - 1).toNat, by omega⟩
    have hk : k < 61 := by omega
    have HT := Lib.hid (show getT ((k : Int) + 1) = .tuple #[fldV (fNm k) (fVl k), .int .i64 0] by
      rw [getT, getN, getV, getE, if_pos h, if_pos h, if_pos h, show ((k : Int) + 1 - 1).toNat = k by omega])
    have HV := Lib.hid (show getV ((k : Int) + 1) = fVl k by rw [getV, if_pos h, show ((k : Int) + 1 - 1).toNat = k by omega])
    have d1 : decide ((k : Int) + 1 < 1) = false := decide_eq_false (by omega)
    have d2 : decide (61 < (k : Int) + 1) = false := decide_eq_false (by omega)
    clear h
    go_enter Try.func7, Try.ntmps7
    go_wp2_with fail
    refine (names_any _).mono ?_
    rintro e w1 ⟨rfl, hn, hb⟩
    have hg : Hid (w1.heap[w.heap.size]? = some (.cells #[.string ⟨#[]⟩, .string ⟨#[]⟩] 23 (0, 0)) ∧ Below w.heap.size w w1) :=
      ⟨(hb.block _ (by simp)).trans (heap_alloc_new _ _), ((Below.refl _ _).alloc (Nat.le_refl _) _).trans (hb.mono (by simp))⟩
    have HN := Lib.hid hn
    obtain ⟨g, hgg⟩ : ∃ g, (w.alloc (.cells #[.string ⟨#[]⟩, .string ⟨#[]⟩] 23)).heap.size = g := ⟨_, rfl⟩
    rw [hgg] at HN ⊢
    clear hgg hn hb
    go_wp2_with fail
    refine wp_region_table 8 [15, 16, 17, 18, 19, 20, 21, 22] [[], [], [(1, 16)], [(0, 15), (2, 17)], [(3, 18)], [], [(5, 20)], [(4, 19), (6, 21)]]
      (fun i v _ => match i with
        | 0 => v = .slice (some ⟨g, 0, none⟩) 61 61
        | 1 => v = .int .i64 ((k : Int) + 1)
        | 2 => v = .int .i64 k
        | 3 => v = .pointer (some ⟨g, k, none⟩)
        | 4 => v = .string (fNm k)
        | 5 => v = .int .i64 ((k : Int) + 1)
        | 6 => v = .string (fVl k)
        | 7 => v = .agg #[.string (fNm k), .string (fVl k)]
        | _ => True) (by kernel_rfl) (by kernel_rfl) ?tStab ?tOps ?tRest
    case tStab => intro i v w2 w3 h _; exact h
    case tOps =>
      simp only [List.take_succ_cons, List.take_zero, opsOk]
      refine ⟨?_, ?_, ?_, ?_, ?_, ?_, ?_, ?_, trivial⟩
      · intro ρ w2 hc hf ho hB hj
        have h0 : ρ (.tmp 4) = .slice (some ⟨g, 0, none⟩) 61 61 := ho 4 (by decide)
        simp [gives, go_sem, h0, Below.refl]
      · intro ρ w2 hc hf ho hB hj
        have h0 : ρ (.tmp 0) = .int .i64 ((k : Int) + 1) := ho 0 (by decide)
        simp [gives, go_sem, h0, Below.refl]
      · intro ρ w2 hc hf ho hB hj
        have h0 : ρ (.tmp 16) = .int .i64 ((k : Int) + 1) := hj (1, 16) (by simp)
        have hw : IntKind.i64.wrap (k : Int) = k := wrap_i64_small (by omega) (by omega)
        simp [gives, go_sem, h0, hc, hw, Below.refl]
      · intro ρ w2 hc hf ho hB hj
        have h0 : ρ (.tmp 15) = .slice (some ⟨g, 0, none⟩) 61 61 := hj (0, 15) (by simp)
        have h1 : ρ (.tmp 17) = .int .i64 k := hj (2, 17) (by simp)
        simp [gives, go_sem, h0, h1, names_index g k hk, Below.refl]
      · intro ρ w2 hc hf ho hB hj
        have h0 : ρ (.tmp 18) = .pointer (some ⟨g, k, none⟩) := hj (3, 18) (by simp)
        have hcell := (HN.out.grown hB).at_ hk
        simp [gives, go_sem, h0, hcell, Below.refl]
      · intro ρ w2 hc hf ho hB hj
        have h0 : ρ (.tmp 0) = .int .i64 ((k : Int) + 1) := ho 0 (by decide)
        simp [gives, go_sem, h0, Below.refl]
      · intro ρ w2 hc hf ho hB hj
        have h0 : ρ (.tmp 20) = .int .i64 ((k : Int) + 1) := hj (5, 20) (by simp)
        simp [gives, go_sem, h0, hf]
        refine (value_any _ _).mono ?_
        rintro e w3 ⟨rfl, rfl⟩
        exact ⟨_, rfl, by rw [HV.out], Below.refl _ _⟩
      · intro ρ w2 hc hf ho hB hj
        have h0 : ρ (.tmp 19) = .string (fNm k) := hj (4, 19) (by simp)
        have h1 : ρ (.tmp 21) = .string (fVl k) := hj (6, 21) (by simp)
        simp [gives, go_sem, h0, h1, Below.refl]
    case tRest =>
      intro x w2 hB hx
      have h7 : x 7 = .agg #[.string (fNm k), .string (fVl k)] := hx 7 (by decide)
      simp only [putAll, List.getD_cons_zero, List.getD_cons_succ, Act.put, List.setIfInBounds_toArray, List.set_cons_zero, List.set_cons_succ, List.drop_succ_cons, List.drop_zero]
      rw [h7]
      have hg2 : Hid (w2.heap[w.heap.size]? = some (.cells #[.string ⟨#[]⟩, .string ⟨#[]⟩] 23 (0, 0)) ∧ Below w.heap.size w w2) :=
        ⟨(hB.block _ (Array.getElem?_eq_some_iff.1 hg.out.1).1).trans hg.out.1, hg.out.2.trans (hB.mono hg.out.2.size)⟩
      clear hx h7 hB
      go_wp2_with (with_reducible refine store_fld rfl (.tmp 2) (.tmp 22) rfl w.heap.size (fNm k) (fVl k) _ _ rfl rfl hg2.out.1 ?_)
      refine bodyPost_ret (results_row_tmp1 rfl _ _ w.heap.size 23 #[.string (fNm k), .string (fVl k)] (0, 0) _ rfl (setRow_heap _ _ _ _ _ _ hg2.out.1) Try.underlying23 rfl (by kernel_rfl)) rfl ⟨?_, below_setRow hg2.out.2 (Nat.le_refl _) _⟩
      rw [HT.out]; rfl
  · have HT := Lib.hid (show getT i = .tuple #[fldV ⟨#[]⟩ ⟨#[]⟩, .int .i64 5] by
      rw [getT, getN, getV, getE, if_neg h, if_neg h, if_neg h])
    by_cases h1 : i < 1
    · have d1 : decide (i < 1) = true := decide_eq_true h1
      clear h h1
      go_enter Try.func7, Try.ntmps7
      go_wp2_with fail
      refine (names_any _).mono ?_
      rintro e w1 ⟨rfl, _, hb⟩
      have hg : Hid (w1.heap[w.heap.size]? = some (.cells #[.string ⟨#[]⟩, .string ⟨#[]⟩] 23 (0, 0)) ∧ Below w.heap.size w w1) :=
        ⟨(hb.block _ (by simp)).trans (heap_alloc_new _ _), ((Below.refl _ _).alloc (Nat.le_refl _) _).trans (hb.mono (by simp))⟩
      clear hb
      go_wp2_with (with_reducible refine store_fld rfl (.tmp 2) (.tmp 14) rfl w.heap.size ⟨#[]⟩ ⟨#[]⟩ _ _ rfl rfl hg.out.1 ?_)
      refine bodyPost_ret (results_row_tmp1 rfl _ _ w.heap.size 23 #[.string ⟨#[]⟩, .string ⟨#[]⟩] (0, 0) _ rfl (setRow_heap _ _ _ _ _ _ hg.out.1) Try.underlying23 rfl (by kernel_rfl)) rfl ⟨?_, below_setRow hg.out.2 (Nat.le_refl _) _⟩
      rw [HT.out]; rfl
    · have d1 : decide (i < 1) = false := decide_eq_false h1
      have d2 : decide (61 < i) = true := decide_eq_true (by omega)
      clear h h1
      go_enter Try.func7, Try.ntmps7
      go_wp2_with fail
      refine (names_any _).mono ?_
      rintro e w1 ⟨rfl, _, hb⟩
      have hg : Hid (w1.heap[w.heap.size]? = some (.cells #[.string ⟨#[]⟩, .string ⟨#[]⟩] 23 (0, 0)) ∧ Below w.heap.size w w1) :=
        ⟨(hb.block _ (by simp)).trans (heap_alloc_new _ _), ((Below.refl _ _).alloc (Nat.le_refl _) _).trans (hb.mono (by simp))⟩
      clear hb
      go_wp2_with (with_reducible refine store_fld rfl (.tmp 2) (.tmp 14) rfl w.heap.size ⟨#[]⟩ ⟨#[]⟩ _ _ rfl rfl hg.out.1 ?_)
      refine bodyPost_ret (results_row_tmp1 rfl _ _ w.heap.size 23 #[.string ⟨#[]⟩, .string ⟨#[]⟩] (0, 0) _ rfl (setRow_heap _ _ _ _ _ _ hg.out.1) Try.underlying23 rfl (by kernel_rfl)) rfl ⟨?_, below_setRow hg.out.2 (Nat.le_refl _) _⟩
      rw [HT.out]; rfl
end Go.Proofs.Ytljbbficmgbieaa
