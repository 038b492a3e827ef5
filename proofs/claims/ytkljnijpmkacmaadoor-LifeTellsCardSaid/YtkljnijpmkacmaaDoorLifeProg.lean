
/-
  Package life: isState, isEvent, After, Hears, Says (After's 45 cases written by wip/tools/gen16p.py).
-/
import Derived.Test.YtkljnijpmkacmaaDoorLifeTab
namespace Go.Proofs.YtkljnijpmkacmaaDoor
set_option maxRecDepth 20000
open Go.RowKit

theorem isState_any (k : Int) (w : World) :
    Calls Tryd.prog 10 #[.int .i64 k] w fun e w' => e = .returned (.bool (decide (0 ≤ k ∧ k ≤ 4))) ∧ w = w' := by
  by_cases h0 : 0 ≤ k
  · have d1 : decide (0 ≤ k) = true := decide_eq_true h0
    have HD := Lib.hid (show decide (0 ≤ k ∧ k ≤ 4) = decide (k ≤ 4) by simp [h0])
    clear h0
    go_enter Tryd.func10, Tryd.ntmps10
    go_wp2
    go_ret
    exact ⟨by rw [HD.out]; rfl, rfl⟩
  · have d1 : decide (0 ≤ k) = false := decide_eq_false h0
    have HD := Lib.hid (show decide (0 ≤ k ∧ k ≤ 4) = false by simp [h0])
    clear h0
    go_enter Tryd.func10, Tryd.ntmps10
    go_wp2
    go_ret
    exact ⟨by rw [HD.out]; rfl, rfl⟩
theorem isEvent_any (k : Int) (w : World) :
    Calls Tryd.prog 11 #[.int .i64 k] w fun e w' => e = .returned (.bool (decide (0 ≤ k ∧ k ≤ 8))) ∧ w = w' := by
  by_cases h0 : 0 ≤ k
  · have d1 : decide (0 ≤ k) = true := decide_eq_true h0
    have HD := Lib.hid (show decide (0 ≤ k ∧ k ≤ 8) = decide (k ≤ 8) by simp [h0])
    clear h0
    go_enter Tryd.func11, Tryd.ntmps11
    go_wp2
    go_ret
    exact ⟨by rw [HD.out]; rfl, rfl⟩
  · have d1 : decide (0 ≤ k) = false := decide_eq_false h0
    have HD := Lib.hid (show decide (0 ≤ k ∧ k ≤ 8) = false by simp [h0])
    clear h0
    go_enter Tryd.func11, Tryd.ntmps11
    go_wp2
    go_ret
    exact ⟨by rw [HD.out]; rfl, rfl⟩
theorem pHears_any (s : Int) (w : World) :
    Calls Tryd.prog 8 #[.int .i64 s] w fun x w' => x = .returned (.bool (s == 1 || s == 3)) ∧ Below w.heap.size w w' := by
  cases h1 : (s == 1)
  · go_enter Tryd.func8, Tryd.ntmps8
    go_wp2
    go_ret
    exact ⟨by simp, Below.refl _ _⟩
  · go_enter Tryd.func8, Tryd.ntmps8
    go_wp2
    go_ret
    exact ⟨rfl, Below.refl _ _⟩
theorem pSays_any (s : Int) (w : World) :
    Calls Tryd.prog 9 #[.int .i64 s] w fun x w' => x = .returned (.bool (s == 1 || s == 2)) ∧ Below w.heap.size w w' := by
  cases h1 : (s == 1)
  · go_enter Tryd.func9, Tryd.ntmps9
    go_wp2
    go_ret
    exact ⟨by simp, Below.refl _ _⟩
  · go_enter Tryd.func9, Tryd.ntmps9
    go_wp2
    go_ret
    exact ⟨rfl, Below.refl _ _⟩
set_option maxHeartbeats 40000000 in
theorem pAfter_0 (e : Int) (w : World) (hT : LfT w) (he : 0 ≤ e ∧ e ≤ 8) :
    Calls Tryd.prog 5 #[.int .i64 0, .int .i64 e] w fun x w' => x = .returned (lifeV (lifeN 0 e)) ∧ Below w.heap.size w w' := by
  have HG := Lib.hid hT.lt
  have HT := Lib.hid (hT.below ((Below.refl w.heap.size w).alloc (Nat.le_refl _) (.cells #[.int .i64 0, .int .i64 0, .bool false] 25)))
  clear hT
  obtain rfl | rfl | rfl | rfl | rfl | rfl | rfl | rfl | rfl : e = 0 ∨ e = 1 ∨ e = 2 ∨ e = 3 ∨ e = 4 ∨ e = 5 ∨ e = 6 ∨ e = 7 ∨ e = 8 := by omega
  · clear he
    obtain ⟨k0, k1, k2⟩ := HT.out.cells 0 0 0 (by decide) (by decide) rfl 1 0 false 0 rfl
    have hEq := nx_eql 1 0 0 0 false false
    go_enter Tryd.func5, Tryd.ntmps5
    go_wp2_with fail
    refine (isState_any _ _).mono ?_
    rintro x w1 ⟨rfl, rfl⟩
    go_wp2_with fail
    refine (isEvent_any _ _).mono ?_
    rintro x w1 ⟨rfl, rfl⟩
    go_wp2_with fail
    refine bodyPost_ret (results_row_tmp1 rfl _ _ w.heap.size 25 #[_, _, _] (0, 0) _ rfl ((((Below.refl _ _).alloc (Nat.le_refl _) _).block _ (by simp)).trans (heap_alloc_new _ _)) Tryd.underlying25 rfl (by kernel_rfl)) rfl ⟨rfl, ((Below.refl _ _).alloc (Nat.le_refl _) _).alloc (by simp) _⟩
  · clear he
    obtain ⟨k0, k1, k2⟩ := HT.out.cells 0 1 3 (by decide) (by decide) rfl 2 0 false 0 rfl
    have hEq := nx_eql 2 0 0 0 false false
    go_enter Tryd.func5, Tryd.ntmps5
    go_wp2_with fail
    refine (isState_any _ _).mono ?_
    rintro x w1 ⟨rfl, rfl⟩
    go_wp2_with fail
    refine (isEvent_any _ _).mono ?_
    rintro x w1 ⟨rfl, rfl⟩
    go_wp2_with fail
    refine bodyPost_ret (results_row_tmp1 rfl _ _ w.heap.size 25 #[_, _, _] (0, 0) _ rfl ((((Below.refl _ _).alloc (Nat.le_refl _) _).block _ (by simp)).trans (heap_alloc_new _ _)) Tryd.underlying25 rfl (by kernel_rfl)) rfl ⟨rfl, ((Below.refl _ _).alloc (Nat.le_refl _) _).alloc (by simp) _⟩
  · clear he
    obtain ⟨k0, k1, k2⟩ := HT.out.cells 0 2 6 (by decide) (by decide) rfl 0 1 true 0 rfl
    have hEq := nx_eql 0 1 0 0 true false
    go_enter Tryd.func5, Tryd.ntmps5
    go_wp2_with fail
    refine (isState_any _ _).mono ?_
    rintro x w1 ⟨rfl, rfl⟩
    go_wp2_with fail
    refine (isEvent_any _ _).mono ?_
    rintro x w1 ⟨rfl, rfl⟩
    go_wp2_with fail
    refine bodyPost_ret (results_row_tmp1 rfl _ _ w.heap.size 25 #[_, _, _] (0, 0) _ rfl ((((Below.refl _ _).alloc (Nat.le_refl _) _).block _ (by simp)).trans (heap_alloc_new _ _)) Tryd.underlying25 rfl (by kernel_rfl)) rfl ⟨rfl, ((Below.refl _ _).alloc (Nat.le_refl _) _).alloc (by simp) _⟩
  · clear he
    obtain ⟨k0, k1, k2⟩ := HT.out.cells 0 3 9 (by decide) (by decide) rfl 0 1 true 0 rfl
    have hEq := nx_eql 0 1 0 0 true false
    go_enter Tryd.func5, Tryd.ntmps5
    go_wp2_with fail
    refine (isState_any _ _).mono ?_
    rintro x w1 ⟨rfl, rfl⟩
    go_wp2_with fail
    refine (isEvent_any _ _).mono ?_
    rintro x w1 ⟨rfl, rfl⟩
    go_wp2_with fail
    refine bodyPost_ret (results_row_tmp1 rfl _ _ w.heap.size 25 #[_, _, _] (0, 0) _ rfl ((((Below.refl _ _).alloc (Nat.le_refl _) _).block _ (by simp)).trans (heap_alloc_new _ _)) Tryd.underlying25 rfl (by kernel_rfl)) rfl ⟨rfl, ((Below.refl _ _).alloc (Nat.le_refl _) _).alloc (by simp) _⟩
  · clear he
    obtain ⟨k0, k1, k2⟩ := HT.out.cells 0 4 12 (by decide) (by decide) rfl 0 1 true 0 rfl
    have hEq := nx_eql 0 1 0 0 true false
    go_enter Tryd.func5, Tryd.ntmps5
    go_wp2_with fail
    refine (isState_any _ _).mono ?_
    rintro x w1 ⟨rfl, rfl⟩
    go_wp2_with fail
    refine (isEvent_any _ _).mono ?_
    rintro x w1 ⟨rfl, rfl⟩
    go_wp2_with fail
    refine bodyPost_ret (results_row_tmp1 rfl _ _ w.heap.size 25 #[_, _, _] (0, 0) _ rfl ((((Below.refl _ _).alloc (Nat.le_refl _) _).block _ (by simp)).trans (heap_alloc_new _ _)) Tryd.underlying25 rfl (by kernel_rfl)) rfl ⟨rfl, ((Below.refl _ _).alloc (Nat.le_refl _) _).alloc (by simp) _⟩
  · clear he
    obtain ⟨k0, k1, k2⟩ := HT.out.cells 0 5 15 (by decide) (by decide) rfl 0 1 true 0 rfl
    have hEq := nx_eql 0 1 0 0 true false
    go_enter Tryd.func5, Tryd.ntmps5
    go_wp2_with fail
    refine (isState_any _ _).mono ?_
    rintro x w1 ⟨rfl, rfl⟩
    go_wp2_with fail
    refine (isEvent_any _ _).mono ?_
    rintro x w1 ⟨rfl, rfl⟩
    go_wp2_with fail
    refine bodyPost_ret (results_row_tmp1 rfl _ _ w.heap.size 25 #[_, _, _] (0, 0) _ rfl ((((Below.refl _ _).alloc (Nat.le_refl _) _).block _ (by simp)).trans (heap_alloc_new _ _)) Tryd.underlying25 rfl (by kernel_rfl)) rfl ⟨rfl, ((Below.refl _ _).alloc (Nat.le_refl _) _).alloc (by simp) _⟩
  · clear he
    obtain ⟨k0, k1, k2⟩ := HT.out.cells 0 6 18 (by decide) (by decide) rfl 0 0 false 6 rfl
    have hEq := nx_eql 0 0 0 0 false false
    go_enter Tryd.func5, Tryd.ntmps5
    go_wp2_with fail
    refine (isState_any _ _).mono ?_
    rintro x w1 ⟨rfl, rfl⟩
    go_wp2_with fail
    refine (isEvent_any _ _).mono ?_
    rintro x w1 ⟨rfl, rfl⟩
    go_wp2_with fail
    refine bodyPost_ret (results_row_tmp1 rfl _ _ w.heap.size 25 #[_, _, _] (0, 0) _ rfl ((((Below.refl _ _).alloc (Nat.le_refl _) _).block _ (by simp)).trans (heap_alloc_new _ _)) Tryd.underlying25 rfl (by kernel_rfl)) rfl ⟨rfl, ((Below.refl _ _).alloc (Nat.le_refl _) _).alloc (by simp) _⟩
  · clear he
    obtain ⟨k0, k1, k2⟩ := HT.out.cells 0 7 21 (by decide) (by decide) rfl 0 0 false 6 rfl
    have hEq := nx_eql 0 0 0 0 false false
    go_enter Tryd.func5, Tryd.ntmps5
    go_wp2_with fail
    refine (isState_any _ _).mono ?_
    rintro x w1 ⟨rfl, rfl⟩
    go_wp2_with fail
    refine (isEvent_any _ _).mono ?_
    rintro x w1 ⟨rfl, rfl⟩
    go_wp2_with fail
    refine bodyPost_ret (results_row_tmp1 rfl _ _ w.heap.size 25 #[_, _, _] (0, 0) _ rfl ((((Below.refl _ _).alloc (Nat.le_refl _) _).block _ (by simp)).trans (heap_alloc_new _ _)) Tryd.underlying25 rfl (by kernel_rfl)) rfl ⟨rfl, ((Below.refl _ _).alloc (Nat.le_refl _) _).alloc (by simp) _⟩
  · clear he
    obtain ⟨k0, k1, k2⟩ := HT.out.cells 0 8 24 (by decide) (by decide) rfl 0 0 false 6 rfl
    have hEq := nx_eql 0 0 0 0 false false
    go_enter Tryd.func5, Tryd.ntmps5
    go_wp2_with fail
    refine (isState_any _ _).mono ?_
    rintro x w1 ⟨rfl, rfl⟩
    go_wp2_with fail
    refine (isEvent_any _ _).mono ?_
    rintro x w1 ⟨rfl, rfl⟩
    go_wp2_with fail
    refine bodyPost_ret (results_row_tmp1 rfl _ _ w.heap.size 25 #[_, _, _] (0, 0) _ rfl ((((Below.refl _ _).alloc (Nat.le_refl _) _).block _ (by simp)).trans (heap_alloc_new _ _)) Tryd.underlying25 rfl (by kernel_rfl)) rfl ⟨rfl, ((Below.refl _ _).alloc (Nat.le_refl _) _).alloc (by simp) _⟩
set_option maxHeartbeats 40000000 in
theorem pAfter_1 (e : Int) (w : World) (hT : LfT w) (he : 0 ≤ e ∧ e ≤ 8) :
    Calls Tryd.prog 5 #[.int .i64 1, .int .i64 e] w fun x w' => x = .returned (lifeV (lifeN 1 e)) ∧ Below w.heap.size w w' := by
  have HG := Lib.hid hT.lt
  have HT := Lib.hid (hT.below ((Below.refl w.heap.size w).alloc (Nat.le_refl _) (.cells #[.int .i64 0, .int .i64 0, .bool false] 25)))
  clear hT
  obtain rfl | rfl | rfl | rfl | rfl | rfl | rfl | rfl | rfl : e = 0 ∨ e = 1 ∨ e = 2 ∨ e = 3 ∨ e = 4 ∨ e = 5 ∨ e = 6 ∨ e = 7 ∨ e = 8 := by omega
  · clear he
    obtain ⟨k0, k1, k2⟩ := HT.out.cells 1 0 27 (by decide) (by decide) rfl 1 1 false 0 rfl
    have hEq := nx_eql 1 1 0 0 false false
    go_enter Tryd.func5, Tryd.ntmps5
    go_wp2_with fail
    refine (isState_any _ _).mono ?_
    rintro x w1 ⟨rfl, rfl⟩
    go_wp2_with fail
    refine (isEvent_any _ _).mono ?_
    rintro x w1 ⟨rfl, rfl⟩
    go_wp2_with fail
    refine bodyPost_ret (results_row_tmp1 rfl _ _ w.heap.size 25 #[_, _, _] (0, 0) _ rfl ((((Below.refl _ _).alloc (Nat.le_refl _) _).block _ (by simp)).trans (heap_alloc_new _ _)) Tryd.underlying25 rfl (by kernel_rfl)) rfl ⟨rfl, ((Below.refl _ _).alloc (Nat.le_refl _) _).alloc (by simp) _⟩
  · clear he
    obtain ⟨k0, k1, k2⟩ := HT.out.cells 1 1 30 (by decide) (by decide) rfl 2 0 false 0 rfl
    have hEq := nx_eql 2 0 0 0 false false
    go_enter Tryd.func5, Tryd.ntmps5
    go_wp2_with fail
    refine (isState_any _ _).mono ?_
    rintro x w1 ⟨rfl, rfl⟩
    go_wp2_with fail
    refine (isEvent_any _ _).mono ?_
    rintro x w1 ⟨rfl, rfl⟩
    go_wp2_with fail
    refine bodyPost_ret (results_row_tmp1 rfl _ _ w.heap.size 25 #[_, _, _] (0, 0) _ rfl ((((Below.refl _ _).alloc (Nat.le_refl _) _).block _ (by simp)).trans (heap_alloc_new _ _)) Tryd.underlying25 rfl (by kernel_rfl)) rfl ⟨rfl, ((Below.refl _ _).alloc (Nat.le_refl _) _).alloc (by simp) _⟩
  · clear he
    obtain ⟨k0, k1, k2⟩ := HT.out.cells 1 2 33 (by decide) (by decide) rfl 1 0 false 0 rfl
    have hEq := nx_eql 1 0 0 0 false false
    go_enter Tryd.func5, Tryd.ntmps5
    go_wp2_with fail
    refine (isState_any _ _).mono ?_
    rintro x w1 ⟨rfl, rfl⟩
    go_wp2_with fail
    refine (isEvent_any _ _).mono ?_
    rintro x w1 ⟨rfl, rfl⟩
    go_wp2_with fail
    refine bodyPost_ret (results_row_tmp1 rfl _ _ w.heap.size 25 #[_, _, _] (0, 0) _ rfl ((((Below.refl _ _).alloc (Nat.le_refl _) _).block _ (by simp)).trans (heap_alloc_new _ _)) Tryd.underlying25 rfl (by kernel_rfl)) rfl ⟨rfl, ((Below.refl _ _).alloc (Nat.le_refl _) _).alloc (by simp) _⟩
  · clear he
    obtain ⟨k0, k1, k2⟩ := HT.out.cells 1 3 36 (by decide) (by decide) rfl 2 0 false 0 rfl
    have hEq := nx_eql 2 0 0 0 false false
    go_enter Tryd.func5, Tryd.ntmps5
    go_wp2_with fail
    refine (isState_any _ _).mono ?_
    rintro x w1 ⟨rfl, rfl⟩
    go_wp2_with fail
    refine (isEvent_any _ _).mono ?_
    rintro x w1 ⟨rfl, rfl⟩
    go_wp2_with fail
    refine bodyPost_ret (results_row_tmp1 rfl _ _ w.heap.size 25 #[_, _, _] (0, 0) _ rfl ((((Below.refl _ _).alloc (Nat.le_refl _) _).block _ (by simp)).trans (heap_alloc_new _ _)) Tryd.underlying25 rfl (by kernel_rfl)) rfl ⟨rfl, ((Below.refl _ _).alloc (Nat.le_refl _) _).alloc (by simp) _⟩
  · clear he
    obtain ⟨k0, k1, k2⟩ := HT.out.cells 1 4 39 (by decide) (by decide) rfl 4 0 false 0 rfl
    have hEq := nx_eql 4 0 0 0 false false
    go_enter Tryd.func5, Tryd.ntmps5
    go_wp2_with fail
    refine (isState_any _ _).mono ?_
    rintro x w1 ⟨rfl, rfl⟩
    go_wp2_with fail
    refine (isEvent_any _ _).mono ?_
    rintro x w1 ⟨rfl, rfl⟩
    go_wp2_with fail
    refine bodyPost_ret (results_row_tmp1 rfl _ _ w.heap.size 25 #[_, _, _] (0, 0) _ rfl ((((Below.refl _ _).alloc (Nat.le_refl _) _).block _ (by simp)).trans (heap_alloc_new _ _)) Tryd.underlying25 rfl (by kernel_rfl)) rfl ⟨rfl, ((Below.refl _ _).alloc (Nat.le_refl _) _).alloc (by simp) _⟩
  · clear he
    obtain ⟨k0, k1, k2⟩ := HT.out.cells 1 5 42 (by decide) (by decide) rfl 1 0 false 0 rfl
    have hEq := nx_eql 1 0 0 0 false false
    go_enter Tryd.func5, Tryd.ntmps5
    go_wp2_with fail
    refine (isState_any _ _).mono ?_
    rintro x w1 ⟨rfl, rfl⟩
    go_wp2_with fail
    refine (isEvent_any _ _).mono ?_
    rintro x w1 ⟨rfl, rfl⟩
    go_wp2_with fail
    refine bodyPost_ret (results_row_tmp1 rfl _ _ w.heap.size 25 #[_, _, _] (0, 0) _ rfl ((((Below.refl _ _).alloc (Nat.le_refl _) _).block _ (by simp)).trans (heap_alloc_new _ _)) Tryd.underlying25 rfl (by kernel_rfl)) rfl ⟨rfl, ((Below.refl _ _).alloc (Nat.le_refl _) _).alloc (by simp) _⟩
  · clear he
    obtain ⟨k0, k1, k2⟩ := HT.out.cells 1 6 45 (by decide) (by decide) rfl 1 0 false 0 rfl
    have hEq := nx_eql 1 0 0 0 false false
    go_enter Tryd.func5, Tryd.ntmps5
    go_wp2_with fail
    refine (isState_any _ _).mono ?_
    rintro x w1 ⟨rfl, rfl⟩
    go_wp2_with fail
    refine (isEvent_any _ _).mono ?_
    rintro x w1 ⟨rfl, rfl⟩
    go_wp2_with fail
    refine bodyPost_ret (results_row_tmp1 rfl _ _ w.heap.size 25 #[_, _, _] (0, 0) _ rfl ((((Below.refl _ _).alloc (Nat.le_refl _) _).block _ (by simp)).trans (heap_alloc_new _ _)) Tryd.underlying25 rfl (by kernel_rfl)) rfl ⟨rfl, ((Below.refl _ _).alloc (Nat.le_refl _) _).alloc (by simp) _⟩
  · clear he
    obtain ⟨k0, k1, k2⟩ := HT.out.cells 1 7 48 (by decide) (by decide) rfl 3 0 false 0 rfl
    have hEq := nx_eql 3 0 0 0 false false
    go_enter Tryd.func5, Tryd.ntmps5
    go_wp2_with fail
    refine (isState_any _ _).mono ?_
    rintro x w1 ⟨rfl, rfl⟩
    go_wp2_with fail
    refine (isEvent_any _ _).mono ?_
    rintro x w1 ⟨rfl, rfl⟩
    go_wp2_with fail
    refine bodyPost_ret (results_row_tmp1 rfl _ _ w.heap.size 25 #[_, _, _] (0, 0) _ rfl ((((Below.refl _ _).alloc (Nat.le_refl _) _).block _ (by simp)).trans (heap_alloc_new _ _)) Tryd.underlying25 rfl (by kernel_rfl)) rfl ⟨rfl, ((Below.refl _ _).alloc (Nat.le_refl _) _).alloc (by simp) _⟩
  · clear he
    obtain ⟨k0, k1, k2⟩ := HT.out.cells 1 8 51 (by decide) (by decide) rfl 4 0 false 0 rfl
    have hEq := nx_eql 4 0 0 0 false false
    go_enter Tryd.func5, Tryd.ntmps5
    go_wp2_with fail
    refine (isState_any _ _).mono ?_
    rintro x w1 ⟨rfl, rfl⟩
    go_wp2_with fail
    refine (isEvent_any _ _).mono ?_
    rintro x w1 ⟨rfl, rfl⟩
    go_wp2_with fail
    refine bodyPost_ret (results_row_tmp1 rfl _ _ w.heap.size 25 #[_, _, _] (0, 0) _ rfl ((((Below.refl _ _).alloc (Nat.le_refl _) _).block _ (by simp)).trans (heap_alloc_new _ _)) Tryd.underlying25 rfl (by kernel_rfl)) rfl ⟨rfl, ((Below.refl _ _).alloc (Nat.le_refl _) _).alloc (by simp) _⟩
set_option maxHeartbeats 40000000 in
theorem pAfter_2 (e : Int) (w : World) (hT : LfT w) (he : 0 ≤ e ∧ e ≤ 8) :
    Calls Tryd.prog 5 #[.int .i64 2, .int .i64 e] w fun x w' => x = .returned (lifeV (lifeN 2 e)) ∧ Below w.heap.size w w' := by
  have HG := Lib.hid hT.lt
  have HT := Lib.hid (hT.below ((Below.refl w.heap.size w).alloc (Nat.le_refl _) (.cells #[.int .i64 0, .int .i64 0, .bool false] 25)))
  clear hT
  obtain rfl | rfl | rfl | rfl | rfl | rfl | rfl | rfl | rfl : e = 0 ∨ e = 1 ∨ e = 2 ∨ e = 3 ∨ e = 4 ∨ e = 5 ∨ e = 6 ∨ e = 7 ∨ e = 8 := by omega
  · clear he
    obtain ⟨k0, k1, k2⟩ := HT.out.cells 2 0 54 (by decide) (by decide) rfl 2 5 false 0 rfl
    have hEq := nx_eql 2 5 0 0 false false
    go_enter Tryd.func5, Tryd.ntmps5
    go_wp2_with fail
    refine (isState_any _ _).mono ?_
    rintro x w1 ⟨rfl, rfl⟩
    go_wp2_with fail
    refine (isEvent_any _ _).mono ?_
    rintro x w1 ⟨rfl, rfl⟩
    go_wp2_with fail
    refine bodyPost_ret (results_row_tmp1 rfl _ _ w.heap.size 25 #[_, _, _] (0, 0) _ rfl ((((Below.refl _ _).alloc (Nat.le_refl _) _).block _ (by simp)).trans (heap_alloc_new _ _)) Tryd.underlying25 rfl (by kernel_rfl)) rfl ⟨rfl, ((Below.refl _ _).alloc (Nat.le_refl _) _).alloc (by simp) _⟩
  · clear he
    obtain ⟨k0, k1, k2⟩ := HT.out.cells 2 1 57 (by decide) (by decide) rfl 2 5 false 0 rfl
    have hEq := nx_eql 2 5 0 0 false false
    go_enter Tryd.func5, Tryd.ntmps5
    go_wp2_with fail
    refine (isState_any _ _).mono ?_
    rintro x w1 ⟨rfl, rfl⟩
    go_wp2_with fail
    refine (isEvent_any _ _).mono ?_
    rintro x w1 ⟨rfl, rfl⟩
    go_wp2_with fail
    refine bodyPost_ret (results_row_tmp1 rfl _ _ w.heap.size 25 #[_, _, _] (0, 0) _ rfl ((((Below.refl _ _).alloc (Nat.le_refl _) _).block _ (by simp)).trans (heap_alloc_new _ _)) Tryd.underlying25 rfl (by kernel_rfl)) rfl ⟨rfl, ((Below.refl _ _).alloc (Nat.le_refl _) _).alloc (by simp) _⟩
  · clear he
    obtain ⟨k0, k1, k2⟩ := HT.out.cells 2 2 60 (by decide) (by decide) rfl 2 5 false 0 rfl
    have hEq := nx_eql 2 5 0 0 false false
    go_enter Tryd.func5, Tryd.ntmps5
    go_wp2_with fail
    refine (isState_any _ _).mono ?_
    rintro x w1 ⟨rfl, rfl⟩
    go_wp2_with fail
    refine (isEvent_any _ _).mono ?_
    rintro x w1 ⟨rfl, rfl⟩
    go_wp2_with fail
    refine bodyPost_ret (results_row_tmp1 rfl _ _ w.heap.size 25 #[_, _, _] (0, 0) _ rfl ((((Below.refl _ _).alloc (Nat.le_refl _) _).block _ (by simp)).trans (heap_alloc_new _ _)) Tryd.underlying25 rfl (by kernel_rfl)) rfl ⟨rfl, ((Below.refl _ _).alloc (Nat.le_refl _) _).alloc (by simp) _⟩
  · clear he
    obtain ⟨k0, k1, k2⟩ := HT.out.cells 2 3 63 (by decide) (by decide) rfl 2 5 false 0 rfl
    have hEq := nx_eql 2 5 0 0 false false
    go_enter Tryd.func5, Tryd.ntmps5
    go_wp2_with fail
    refine (isState_any _ _).mono ?_
    rintro x w1 ⟨rfl, rfl⟩
    go_wp2_with fail
    refine (isEvent_any _ _).mono ?_
    rintro x w1 ⟨rfl, rfl⟩
    go_wp2_with fail
    refine bodyPost_ret (results_row_tmp1 rfl _ _ w.heap.size 25 #[_, _, _] (0, 0) _ rfl ((((Below.refl _ _).alloc (Nat.le_refl _) _).block _ (by simp)).trans (heap_alloc_new _ _)) Tryd.underlying25 rfl (by kernel_rfl)) rfl ⟨rfl, ((Below.refl _ _).alloc (Nat.le_refl _) _).alloc (by simp) _⟩
  · clear he
    obtain ⟨k0, k1, k2⟩ := HT.out.cells 2 4 66 (by decide) (by decide) rfl 4 0 false 0 rfl
    have hEq := nx_eql 4 0 0 0 false false
    go_enter Tryd.func5, Tryd.ntmps5
    go_wp2_with fail
    refine (isState_any _ _).mono ?_
    rintro x w1 ⟨rfl, rfl⟩
    go_wp2_with fail
    refine (isEvent_any _ _).mono ?_
    rintro x w1 ⟨rfl, rfl⟩
    go_wp2_with fail
    refine bodyPost_ret (results_row_tmp1 rfl _ _ w.heap.size 25 #[_, _, _] (0, 0) _ rfl ((((Below.refl _ _).alloc (Nat.le_refl _) _).block _ (by simp)).trans (heap_alloc_new _ _)) Tryd.underlying25 rfl (by kernel_rfl)) rfl ⟨rfl, ((Below.refl _ _).alloc (Nat.le_refl _) _).alloc (by simp) _⟩
  · clear he
    obtain ⟨k0, k1, k2⟩ := HT.out.cells 2 5 69 (by decide) (by decide) rfl 2 0 false 0 rfl
    have hEq := nx_eql 2 0 0 0 false false
    go_enter Tryd.func5, Tryd.ntmps5
    go_wp2_with fail
    refine (isState_any _ _).mono ?_
    rintro x w1 ⟨rfl, rfl⟩
    go_wp2_with fail
    refine (isEvent_any _ _).mono ?_
    rintro x w1 ⟨rfl, rfl⟩
    go_wp2_with fail
    refine bodyPost_ret (results_row_tmp1 rfl _ _ w.heap.size 25 #[_, _, _] (0, 0) _ rfl ((((Below.refl _ _).alloc (Nat.le_refl _) _).block _ (by simp)).trans (heap_alloc_new _ _)) Tryd.underlying25 rfl (by kernel_rfl)) rfl ⟨rfl, ((Below.refl _ _).alloc (Nat.le_refl _) _).alloc (by simp) _⟩
  · clear he
    obtain ⟨k0, k1, k2⟩ := HT.out.cells 2 6 72 (by decide) (by decide) rfl 2 0 false 0 rfl
    have hEq := nx_eql 2 0 0 0 false false
    go_enter Tryd.func5, Tryd.ntmps5
    go_wp2_with fail
    refine (isState_any _ _).mono ?_
    rintro x w1 ⟨rfl, rfl⟩
    go_wp2_with fail
    refine (isEvent_any _ _).mono ?_
    rintro x w1 ⟨rfl, rfl⟩
    go_wp2_with fail
    refine bodyPost_ret (results_row_tmp1 rfl _ _ w.heap.size 25 #[_, _, _] (0, 0) _ rfl ((((Below.refl _ _).alloc (Nat.le_refl _) _).block _ (by simp)).trans (heap_alloc_new _ _)) Tryd.underlying25 rfl (by kernel_rfl)) rfl ⟨rfl, ((Below.refl _ _).alloc (Nat.le_refl _) _).alloc (by simp) _⟩
  · clear he
    obtain ⟨k0, k1, k2⟩ := HT.out.cells 2 7 75 (by decide) (by decide) rfl 4 0 false 0 rfl
    have hEq := nx_eql 4 0 0 0 false false
    go_enter Tryd.func5, Tryd.ntmps5
    go_wp2_with fail
    refine (isState_any _ _).mono ?_
    rintro x w1 ⟨rfl, rfl⟩
    go_wp2_with fail
    refine (isEvent_any _ _).mono ?_
    rintro x w1 ⟨rfl, rfl⟩
    go_wp2_with fail
    refine bodyPost_ret (results_row_tmp1 rfl _ _ w.heap.size 25 #[_, _, _] (0, 0) _ rfl ((((Below.refl _ _).alloc (Nat.le_refl _) _).block _ (by simp)).trans (heap_alloc_new _ _)) Tryd.underlying25 rfl (by kernel_rfl)) rfl ⟨rfl, ((Below.refl _ _).alloc (Nat.le_refl _) _).alloc (by simp) _⟩
  · clear he
    obtain ⟨k0, k1, k2⟩ := HT.out.cells 2 8 78 (by decide) (by decide) rfl 4 0 false 0 rfl
    have hEq := nx_eql 4 0 0 0 false false
    go_enter Tryd.func5, Tryd.ntmps5
    go_wp2_with fail
    refine (isState_any _ _).mono ?_
    rintro x w1 ⟨rfl, rfl⟩
    go_wp2_with fail
    refine (isEvent_any _ _).mono ?_
    rintro x w1 ⟨rfl, rfl⟩
    go_wp2_with fail
    refine bodyPost_ret (results_row_tmp1 rfl _ _ w.heap.size 25 #[_, _, _] (0, 0) _ rfl ((((Below.refl _ _).alloc (Nat.le_refl _) _).block _ (by simp)).trans (heap_alloc_new _ _)) Tryd.underlying25 rfl (by kernel_rfl)) rfl ⟨rfl, ((Below.refl _ _).alloc (Nat.le_refl _) _).alloc (by simp) _⟩
set_option maxHeartbeats 40000000 in
theorem pAfter_3 (e : Int) (w : World) (hT : LfT w) (he : 0 ≤ e ∧ e ≤ 8) :
    Calls Tryd.prog 5 #[.int .i64 3, .int .i64 e] w fun x w' => x = .returned (lifeV (lifeN 3 e)) ∧ Below w.heap.size w w' := by
  have HG := Lib.hid hT.lt
  have HT := Lib.hid (hT.below ((Below.refl w.heap.size w).alloc (Nat.le_refl _) (.cells #[.int .i64 0, .int .i64 0, .bool false] 25)))
  clear hT
  obtain rfl | rfl | rfl | rfl | rfl | rfl | rfl | rfl | rfl : e = 0 ∨ e = 1 ∨ e = 2 ∨ e = 3 ∨ e = 4 ∨ e = 5 ∨ e = 6 ∨ e = 7 ∨ e = 8 := by omega
  · clear he
    obtain ⟨k0, k1, k2⟩ := HT.out.cells 3 0 81 (by decide) (by decide) rfl 3 1 false 0 rfl
    have hEq := nx_eql 3 1 0 0 false false
    go_enter Tryd.func5, Tryd.ntmps5
    go_wp2_with fail
    refine (isState_any _ _).mono ?_
    rintro x w1 ⟨rfl, rfl⟩
    go_wp2_with fail
    refine (isEvent_any _ _).mono ?_
    rintro x w1 ⟨rfl, rfl⟩
    go_wp2_with fail
    refine bodyPost_ret (results_row_tmp1 rfl _ _ w.heap.size 25 #[_, _, _] (0, 0) _ rfl ((((Below.refl _ _).alloc (Nat.le_refl _) _).block _ (by simp)).trans (heap_alloc_new _ _)) Tryd.underlying25 rfl (by kernel_rfl)) rfl ⟨rfl, ((Below.refl _ _).alloc (Nat.le_refl _) _).alloc (by simp) _⟩
  · clear he
    obtain ⟨k0, k1, k2⟩ := HT.out.cells 3 1 84 (by decide) (by decide) rfl 4 0 false 0 rfl
    have hEq := nx_eql 4 0 0 0 false false
    go_enter Tryd.func5, Tryd.ntmps5
    go_wp2_with fail
    refine (isState_any _ _).mono ?_
    rintro x w1 ⟨rfl, rfl⟩
    go_wp2_with fail
    refine (isEvent_any _ _).mono ?_
    rintro x w1 ⟨rfl, rfl⟩
    go_wp2_with fail
    refine bodyPost_ret (results_row_tmp1 rfl _ _ w.heap.size 25 #[_, _, _] (0, 0) _ rfl ((((Below.refl _ _).alloc (Nat.le_refl _) _).block _ (by simp)).trans (heap_alloc_new _ _)) Tryd.underlying25 rfl (by kernel_rfl)) rfl ⟨rfl, ((Below.refl _ _).alloc (Nat.le_refl _) _).alloc (by simp) _⟩
  · clear he
    obtain ⟨k0, k1, k2⟩ := HT.out.cells 3 2 87 (by decide) (by decide) rfl 3 0 false 0 rfl
    have hEq := nx_eql 3 0 0 0 false false
    go_enter Tryd.func5, Tryd.ntmps5
    go_wp2_with fail
    refine (isState_any _ _).mono ?_
    rintro x w1 ⟨rfl, rfl⟩
    go_wp2_with fail
    refine (isEvent_any _ _).mono ?_
    rintro x w1 ⟨rfl, rfl⟩
    go_wp2_with fail
    refine bodyPost_ret (results_row_tmp1 rfl _ _ w.heap.size 25 #[_, _, _] (0, 0) _ rfl ((((Below.refl _ _).alloc (Nat.le_refl _) _).block _ (by simp)).trans (heap_alloc_new _ _)) Tryd.underlying25 rfl (by kernel_rfl)) rfl ⟨rfl, ((Below.refl _ _).alloc (Nat.le_refl _) _).alloc (by simp) _⟩
  · clear he
    obtain ⟨k0, k1, k2⟩ := HT.out.cells 3 3 90 (by decide) (by decide) rfl 4 0 false 0 rfl
    have hEq := nx_eql 4 0 0 0 false false
    go_enter Tryd.func5, Tryd.ntmps5
    go_wp2_with fail
    refine (isState_any _ _).mono ?_
    rintro x w1 ⟨rfl, rfl⟩
    go_wp2_with fail
    refine (isEvent_any _ _).mono ?_
    rintro x w1 ⟨rfl, rfl⟩
    go_wp2_with fail
    refine bodyPost_ret (results_row_tmp1 rfl _ _ w.heap.size 25 #[_, _, _] (0, 0) _ rfl ((((Below.refl _ _).alloc (Nat.le_refl _) _).block _ (by simp)).trans (heap_alloc_new _ _)) Tryd.underlying25 rfl (by kernel_rfl)) rfl ⟨rfl, ((Below.refl _ _).alloc (Nat.le_refl _) _).alloc (by simp) _⟩
  · clear he
    obtain ⟨k0, k1, k2⟩ := HT.out.cells 3 4 93 (by decide) (by decide) rfl 4 0 false 0 rfl
    have hEq := nx_eql 4 0 0 0 false false
    go_enter Tryd.func5, Tryd.ntmps5
    go_wp2_with fail
    refine (isState_any _ _).mono ?_
    rintro x w1 ⟨rfl, rfl⟩
    go_wp2_with fail
    refine (isEvent_any _ _).mono ?_
    rintro x w1 ⟨rfl, rfl⟩
    go_wp2_with fail
    refine bodyPost_ret (results_row_tmp1 rfl _ _ w.heap.size 25 #[_, _, _] (0, 0) _ rfl ((((Below.refl _ _).alloc (Nat.le_refl _) _).block _ (by simp)).trans (heap_alloc_new _ _)) Tryd.underlying25 rfl (by kernel_rfl)) rfl ⟨rfl, ((Below.refl _ _).alloc (Nat.le_refl _) _).alloc (by simp) _⟩
  · clear he
    obtain ⟨k0, k1, k2⟩ := HT.out.cells 3 5 96 (by decide) (by decide) rfl 3 0 false 0 rfl
    have hEq := nx_eql 3 0 0 0 false false
    go_enter Tryd.func5, Tryd.ntmps5
    go_wp2_with fail
    refine (isState_any _ _).mono ?_
    rintro x w1 ⟨rfl, rfl⟩
    go_wp2_with fail
    refine (isEvent_any _ _).mono ?_
    rintro x w1 ⟨rfl, rfl⟩
    go_wp2_with fail
    refine bodyPost_ret (results_row_tmp1 rfl _ _ w.heap.size 25 #[_, _, _] (0, 0) _ rfl ((((Below.refl _ _).alloc (Nat.le_refl _) _).block _ (by simp)).trans (heap_alloc_new _ _)) Tryd.underlying25 rfl (by kernel_rfl)) rfl ⟨rfl, ((Below.refl _ _).alloc (Nat.le_refl _) _).alloc (by simp) _⟩
  · clear he
    obtain ⟨k0, k1, k2⟩ := HT.out.cells 3 6 99 (by decide) (by decide) rfl 0 0 false 6 rfl
    have hEq := nx_eql 0 0 0 0 false false
    go_enter Tryd.func5, Tryd.ntmps5
    go_wp2_with fail
    refine (isState_any _ _).mono ?_
    rintro x w1 ⟨rfl, rfl⟩
    go_wp2_with fail
    refine (isEvent_any _ _).mono ?_
    rintro x w1 ⟨rfl, rfl⟩
    go_wp2_with fail
    refine bodyPost_ret (results_row_tmp1 rfl _ _ w.heap.size 25 #[_, _, _] (0, 0) _ rfl ((((Below.refl _ _).alloc (Nat.le_refl _) _).block _ (by simp)).trans (heap_alloc_new _ _)) Tryd.underlying25 rfl (by kernel_rfl)) rfl ⟨rfl, ((Below.refl _ _).alloc (Nat.le_refl _) _).alloc (by simp) _⟩
  · clear he
    obtain ⟨k0, k1, k2⟩ := HT.out.cells 3 7 102 (by decide) (by decide) rfl 0 0 false 6 rfl
    have hEq := nx_eql 0 0 0 0 false false
    go_enter Tryd.func5, Tryd.ntmps5
    go_wp2_with fail
    refine (isState_any _ _).mono ?_
    rintro x w1 ⟨rfl, rfl⟩
    go_wp2_with fail
    refine (isEvent_any _ _).mono ?_
    rintro x w1 ⟨rfl, rfl⟩
    go_wp2_with fail
    refine bodyPost_ret (results_row_tmp1 rfl _ _ w.heap.size 25 #[_, _, _] (0, 0) _ rfl ((((Below.refl _ _).alloc (Nat.le_refl _) _).block _ (by simp)).trans (heap_alloc_new _ _)) Tryd.underlying25 rfl (by kernel_rfl)) rfl ⟨rfl, ((Below.refl _ _).alloc (Nat.le_refl _) _).alloc (by simp) _⟩
  · clear he
    obtain ⟨k0, k1, k2⟩ := HT.out.cells 3 8 105 (by decide) (by decide) rfl 4 0 false 0 rfl
    have hEq := nx_eql 4 0 0 0 false false
    go_enter Tryd.func5, Tryd.ntmps5
    go_wp2_with fail
    refine (isState_any _ _).mono ?_
    rintro x w1 ⟨rfl, rfl⟩
    go_wp2_with fail
    refine (isEvent_any _ _).mono ?_
    rintro x w1 ⟨rfl, rfl⟩
    go_wp2_with fail
    refine bodyPost_ret (results_row_tmp1 rfl _ _ w.heap.size 25 #[_, _, _] (0, 0) _ rfl ((((Below.refl _ _).alloc (Nat.le_refl _) _).block _ (by simp)).trans (heap_alloc_new _ _)) Tryd.underlying25 rfl (by kernel_rfl)) rfl ⟨rfl, ((Below.refl _ _).alloc (Nat.le_refl _) _).alloc (by simp) _⟩
set_option maxHeartbeats 40000000 in
theorem pAfter_4 (e : Int) (w : World) (hT : LfT w) (he : 0 ≤ e ∧ e ≤ 8) :
    Calls Tryd.prog 5 #[.int .i64 4, .int .i64 e] w fun x w' => x = .returned (lifeV (lifeN 4 e)) ∧ Below w.heap.size w w' := by
  have HG := Lib.hid hT.lt
  have HT := Lib.hid (hT.below ((Below.refl w.heap.size w).alloc (Nat.le_refl _) (.cells #[.int .i64 0, .int .i64 0, .bool false] 25)))
  clear hT
  obtain rfl | rfl | rfl | rfl | rfl | rfl | rfl | rfl | rfl : e = 0 ∨ e = 1 ∨ e = 2 ∨ e = 3 ∨ e = 4 ∨ e = 5 ∨ e = 6 ∨ e = 7 ∨ e = 8 := by omega
  · clear he
    obtain ⟨k0, k1, k2⟩ := HT.out.cells 4 0 108 (by decide) (by decide) rfl 4 5 true 0 rfl
    have hEq := nx_eql 4 5 0 0 true false
    go_enter Tryd.func5, Tryd.ntmps5
    go_wp2_with fail
    refine (isState_any _ _).mono ?_
    rintro x w1 ⟨rfl, rfl⟩
    go_wp2_with fail
    refine (isEvent_any _ _).mono ?_
    rintro x w1 ⟨rfl, rfl⟩
    go_wp2_with fail
    refine bodyPost_ret (results_row_tmp1 rfl _ _ w.heap.size 25 #[_, _, _] (0, 0) _ rfl ((((Below.refl _ _).alloc (Nat.le_refl _) _).block _ (by simp)).trans (heap_alloc_new _ _)) Tryd.underlying25 rfl (by kernel_rfl)) rfl ⟨rfl, ((Below.refl _ _).alloc (Nat.le_refl _) _).alloc (by simp) _⟩
  · clear he
    obtain ⟨k0, k1, k2⟩ := HT.out.cells 4 1 111 (by decide) (by decide) rfl 4 5 true 0 rfl
    have hEq := nx_eql 4 5 0 0 true false
    go_enter Tryd.func5, Tryd.ntmps5
    go_wp2_with fail
    refine (isState_any _ _).mono ?_
    rintro x w1 ⟨rfl, rfl⟩
    go_wp2_with fail
    refine (isEvent_any _ _).mono ?_
    rintro x w1 ⟨rfl, rfl⟩
    go_wp2_with fail
    refine bodyPost_ret (results_row_tmp1 rfl _ _ w.heap.size 25 #[_, _, _] (0, 0) _ rfl ((((Below.refl _ _).alloc (Nat.le_refl _) _).block _ (by simp)).trans (heap_alloc_new _ _)) Tryd.underlying25 rfl (by kernel_rfl)) rfl ⟨rfl, ((Below.refl _ _).alloc (Nat.le_refl _) _).alloc (by simp) _⟩
  · clear he
    obtain ⟨k0, k1, k2⟩ := HT.out.cells 4 2 114 (by decide) (by decide) rfl 4 5 true 0 rfl
    have hEq := nx_eql 4 5 0 0 true false
    go_enter Tryd.func5, Tryd.ntmps5
    go_wp2_with fail
    refine (isState_any _ _).mono ?_
    rintro x w1 ⟨rfl, rfl⟩
    go_wp2_with fail
    refine (isEvent_any _ _).mono ?_
    rintro x w1 ⟨rfl, rfl⟩
    go_wp2_with fail
    refine bodyPost_ret (results_row_tmp1 rfl _ _ w.heap.size 25 #[_, _, _] (0, 0) _ rfl ((((Below.refl _ _).alloc (Nat.le_refl _) _).block _ (by simp)).trans (heap_alloc_new _ _)) Tryd.underlying25 rfl (by kernel_rfl)) rfl ⟨rfl, ((Below.refl _ _).alloc (Nat.le_refl _) _).alloc (by simp) _⟩
  · clear he
    obtain ⟨k0, k1, k2⟩ := HT.out.cells 4 3 117 (by decide) (by decide) rfl 4 5 true 0 rfl
    have hEq := nx_eql 4 5 0 0 true false
    go_enter Tryd.func5, Tryd.ntmps5
    go_wp2_with fail
    refine (isState_any _ _).mono ?_
    rintro x w1 ⟨rfl, rfl⟩
    go_wp2_with fail
    refine (isEvent_any _ _).mono ?_
    rintro x w1 ⟨rfl, rfl⟩
    go_wp2_with fail
    refine bodyPost_ret (results_row_tmp1 rfl _ _ w.heap.size 25 #[_, _, _] (0, 0) _ rfl ((((Below.refl _ _).alloc (Nat.le_refl _) _).block _ (by simp)).trans (heap_alloc_new _ _)) Tryd.underlying25 rfl (by kernel_rfl)) rfl ⟨rfl, ((Below.refl _ _).alloc (Nat.le_refl _) _).alloc (by simp) _⟩
  · clear he
    obtain ⟨k0, k1, k2⟩ := HT.out.cells 4 4 120 (by decide) (by decide) rfl 4 0 false 0 rfl
    have hEq := nx_eql 4 0 0 0 false false
    go_enter Tryd.func5, Tryd.ntmps5
    go_wp2_with fail
    refine (isState_any _ _).mono ?_
    rintro x w1 ⟨rfl, rfl⟩
    go_wp2_with fail
    refine (isEvent_any _ _).mono ?_
    rintro x w1 ⟨rfl, rfl⟩
    go_wp2_with fail
    refine bodyPost_ret (results_row_tmp1 rfl _ _ w.heap.size 25 #[_, _, _] (0, 0) _ rfl ((((Below.refl _ _).alloc (Nat.le_refl _) _).block _ (by simp)).trans (heap_alloc_new _ _)) Tryd.underlying25 rfl (by kernel_rfl)) rfl ⟨rfl, ((Below.refl _ _).alloc (Nat.le_refl _) _).alloc (by simp) _⟩
  · clear he
    obtain ⟨k0, k1, k2⟩ := HT.out.cells 4 5 123 (by decide) (by decide) rfl 4 0 false 0 rfl
    have hEq := nx_eql 4 0 0 0 false false
    go_enter Tryd.func5, Tryd.ntmps5
    go_wp2_with fail
    refine (isState_any _ _).mono ?_
    rintro x w1 ⟨rfl, rfl⟩
    go_wp2_with fail
    refine (isEvent_any _ _).mono ?_
    rintro x w1 ⟨rfl, rfl⟩
    go_wp2_with fail
    refine bodyPost_ret (results_row_tmp1 rfl _ _ w.heap.size 25 #[_, _, _] (0, 0) _ rfl ((((Below.refl _ _).alloc (Nat.le_refl _) _).block _ (by simp)).trans (heap_alloc_new _ _)) Tryd.underlying25 rfl (by kernel_rfl)) rfl ⟨rfl, ((Below.refl _ _).alloc (Nat.le_refl _) _).alloc (by simp) _⟩
  · clear he
    obtain ⟨k0, k1, k2⟩ := HT.out.cells 4 6 126 (by decide) (by decide) rfl 0 0 false 6 rfl
    have hEq := nx_eql 0 0 0 0 false false
    go_enter Tryd.func5, Tryd.ntmps5
    go_wp2_with fail
    refine (isState_any _ _).mono ?_
    rintro x w1 ⟨rfl, rfl⟩
    go_wp2_with fail
    refine (isEvent_any _ _).mono ?_
    rintro x w1 ⟨rfl, rfl⟩
    go_wp2_with fail
    refine bodyPost_ret (results_row_tmp1 rfl _ _ w.heap.size 25 #[_, _, _] (0, 0) _ rfl ((((Below.refl _ _).alloc (Nat.le_refl _) _).block _ (by simp)).trans (heap_alloc_new _ _)) Tryd.underlying25 rfl (by kernel_rfl)) rfl ⟨rfl, ((Below.refl _ _).alloc (Nat.le_refl _) _).alloc (by simp) _⟩
  · clear he
    obtain ⟨k0, k1, k2⟩ := HT.out.cells 4 7 129 (by decide) (by decide) rfl 0 0 false 6 rfl
    have hEq := nx_eql 0 0 0 0 false false
    go_enter Tryd.func5, Tryd.ntmps5
    go_wp2_with fail
    refine (isState_any _ _).mono ?_
    rintro x w1 ⟨rfl, rfl⟩
    go_wp2_with fail
    refine (isEvent_any _ _).mono ?_
    rintro x w1 ⟨rfl, rfl⟩
    go_wp2_with fail
    refine bodyPost_ret (results_row_tmp1 rfl _ _ w.heap.size 25 #[_, _, _] (0, 0) _ rfl ((((Below.refl _ _).alloc (Nat.le_refl _) _).block _ (by simp)).trans (heap_alloc_new _ _)) Tryd.underlying25 rfl (by kernel_rfl)) rfl ⟨rfl, ((Below.refl _ _).alloc (Nat.le_refl _) _).alloc (by simp) _⟩
  · clear he
    obtain ⟨k0, k1, k2⟩ := HT.out.cells 4 8 132 (by decide) (by decide) rfl 0 0 false 6 rfl
    have hEq := nx_eql 0 0 0 0 false false
    go_enter Tryd.func5, Tryd.ntmps5
    go_wp2_with fail
    refine (isState_any _ _).mono ?_
    rintro x w1 ⟨rfl, rfl⟩
    go_wp2_with fail
    refine (isEvent_any _ _).mono ?_
    rintro x w1 ⟨rfl, rfl⟩
    go_wp2_with fail
    refine bodyPost_ret (results_row_tmp1 rfl _ _ w.heap.size 25 #[_, _, _] (0, 0) _ rfl ((((Below.refl _ _).alloc (Nat.le_refl _) _).block _ (by simp)).trans (heap_alloc_new _ _)) Tryd.underlying25 rfl (by kernel_rfl)) rfl ⟨rfl, ((Below.refl _ _).alloc (Nat.le_refl _) _).alloc (by simp) _⟩
set_option maxHeartbeats 4000000 in
theorem pAfter_any (s e : Int) (w : World) (hT : LfT w) :
    Calls Tryd.prog 5 #[.int .i64 s, .int .i64 e] w fun x w' => x = .returned (lifeV (lifeN s e)) ∧ Below w.heap.size w w' := by
  by_cases h : (0 ≤ s ∧ s ≤ 4) ∧ 0 ≤ e ∧ e ≤ 8
  · obtain ⟨hs, he⟩ := h
    obtain rfl | rfl | rfl | rfl | rfl : s = 0 ∨ s = 1 ∨ s = 2 ∨ s = 3 ∨ s = 4 := by omega
    · exact pAfter_0 e w hT he
    · exact pAfter_1 e w hT he
    · exact pAfter_2 e w hT he
    · exact pAfter_3 e w hT he
    · exact pAfter_4 e w hT he
  · have HL := Lib.hid (show lifeN s e = (0, 0, false, 1) by unfold lifeN; rw [if_pos (by omega)])
    clear hT
    by_cases h1 : 0 ≤ s ∧ s ≤ 4
    · have d1 : decide (0 ≤ s ∧ s ≤ 4) = true := decide_eq_true h1
      have d2 : decide (0 ≤ e ∧ e ≤ 8) = false := decide_eq_false fun h2 => h ⟨h1, h2⟩
      clear h h1
      go_enter Tryd.func5, Tryd.ntmps5
      go_wp2_with fail
      refine (isState_any _ _).mono ?_
      rintro x w1 ⟨rfl, rfl⟩
      rw [d1]
      go_wp2_with fail
      refine (isEvent_any _ _).mono ?_
      rintro x w1 ⟨rfl, rfl⟩
      rw [d2]
      go_wp2_with fail
      refine bodyPost_ret (results_row_tmp1 rfl _ _ w.heap.size 25 #[_, _, _] (0, 0) _ rfl (heap_alloc_new _ _) Tryd.underlying25 rfl (by kernel_rfl)) rfl ⟨by rw [HL.out]; rfl, (Below.refl _ _).alloc (Nat.le_refl _) _⟩
    · have d1 : decide (0 ≤ s ∧ s ≤ 4) = false := decide_eq_false h1
      clear h h1
      go_enter Tryd.func5, Tryd.ntmps5
      go_wp2_with fail
      refine (isState_any _ _).mono ?_
      rintro x w1 ⟨rfl, rfl⟩
      rw [d1]
      go_wp2_with fail
      refine bodyPost_ret (results_row_tmp1 rfl _ _ w.heap.size 25 #[_, _, _] (0, 0) _ rfl (heap_alloc_new _ _) Tryd.underlying25 rfl (by kernel_rfl)) rfl ⟨by rw [HL.out]; rfl, (Below.refl _ _).alloc (Nat.le_refl _) _⟩
end Go.Proofs.YtkljnijpmkacmaaDoor
