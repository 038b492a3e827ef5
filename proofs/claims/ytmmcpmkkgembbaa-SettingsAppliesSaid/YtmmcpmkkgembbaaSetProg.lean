
/-
  Layer 12, the program's small functions: within, fault, greater, First; the law's set; the reference's First.
-/
import Derived.Test.YtmmcpmkkgembbaaProg
import Derived.Test.YtmmcpmkkgembbaaPairKit
import Derived.Test.YtmmcpmkkgembbaaBuilds
import Derived.Test.YtmmcpmkkgembbaaSetSmall
import Derived.Test.YtmmcpmkkgembbaaRow0
import Derived.Deep.QuietTactic
namespace Go.Proofs.Ytmmcpmkkgembbaa
set_option maxRecDepth 20000
open Go.RowKit

theorem within12_any (n l m : Int) (w : World) : Calls Try.prog 21 #[.int .i64 n, .int .i64 l, .int .i64 m] w fun e w' => e = .returned (.bool (decide (l ≤ n) && decide (n ≤ m))) ∧ w = w' := by
  obtain ⟨b1, e1⟩ : ∃ b, decide (l ≤ n) = b := ⟨_, rfl⟩
  obtain ⟨b2, e2⟩ : ∃ b, decide (n ≤ m) = b := ⟨_, rfl⟩
  rw [e1, e2]
  cases b1
  · go_enter Try.func21, Try.ntmps21
    go_wp2
    go_ret
    exact ⟨rfl, rfl⟩
  · go_enter Try.func21, Try.ntmps21
    go_wp2
    go_ret
    exact ⟨by cases b2 <;> rfl, rfl⟩

/-- a pair's fault: its code -/
def faultP (p : Pr) : Int :=
  if p.1 == 2 && !(decide (0 ≤ p.2) && decide (p.2 ≤ 1)) then 1
  else if p.1 == 4 && decide (2147483647 < p.2) then 3
  else if p.1 == 5 && !(decide (16384 ≤ p.2) && decide (p.2 ≤ 16777215)) then 1
  else 0
def prV (p : Pr) : Value := .agg #[.int .i64 p.1, .int .i64 p.2]
set_option maxHeartbeats 1000000 in
theorem fault_any (p : Pr) (w : World) : Calls Try.prog 16 #[prV p] w fun e w' => e = .returned (.int .i64 (faultP p)) ∧ Below w.heap.size w w' := by
  obtain ⟨i, v⟩ := p
  have HB := Lib.hid ((Below.refl w.heap.size w).alloc (Nat.le_refl _) (.cells #[.int .i64 i, .int .i64 v] 45))
  have c0 : (w.alloc (.cells #[.int .i64 i, .int .i64 v] 45)).cell? ⟨w.heap.size, 0, none⟩ = some (.int .i64 i) := blk_cell (heap_alloc_new w _) rfl
  have c1 : (w.alloc (.cells #[.int .i64 i, .int .i64 v] 45)).cell? ⟨w.heap.size, 1, none⟩ = some (.int .i64 v) := blk_cell (heap_alloc_new w _) rfl
  have hsz : w.heap.size < (w.alloc (.cells #[.int .i64 i, .int .i64 v] 45)).heap.size := by simp
  unfold prV
  obtain ⟨b2, e2⟩ : ∃ b, (i == 2) = b := ⟨_, rfl⟩
  obtain ⟨b4, e4⟩ : ∃ b, (i == 4) = b := ⟨_, rfl⟩
  obtain ⟨b5, e5⟩ : ∃ b, (i == 5) = b := ⟨_, rfl⟩
  obtain ⟨r2, d2⟩ : ∃ b, (decide (0 ≤ v) && decide (v ≤ 1)) = b := ⟨_, rfl⟩
  obtain ⟨r4, d4⟩ : ∃ b, decide (2147483647 < v) = b := ⟨_, rfl⟩
  obtain ⟨r5, d5⟩ : ∃ b, (decide (16384 ≤ v) && decide (v ≤ 16777215)) = b := ⟨_, rfl⟩
  have HF := Lib.hid (show faultP (i, v) = if b2 && !r2 then 1 else if b4 && r4 then 3 else if b5 && !r5 then 1 else 0 by unfold faultP; simp only [e2, e4, e5, d2, d4, d5])
  have h24 : b2 = true → b4 = false := fun h => by rw [h] at e2; rw [← e4, beq_eq_false_iff_ne]; have := beq_iff_eq.1 e2; omega
  have H2 := Lib.hid d2
  have H5 := Lib.hid d5
  clear d2 d5 h24
  cases b2
  · cases b4
    · cases b5
      · (
      go_enter Try.func16, Try.ntmps16
      go_wp2_with (go_at_call 21; refine (within12_any _ _ _ _).mono ?_; rintro e w' ⟨rfl, rfl⟩; first | rw [H2.out] | rw [H5.out])
      go_ret
      exact ⟨by rw [HF.out]; rfl, HB.out⟩)
      · cases r5 <;> (
      go_enter Try.func16, Try.ntmps16
      go_wp2_with (go_at_call 21; refine (within12_any _ _ _ _).mono ?_; rintro e w' ⟨rfl, rfl⟩; first | rw [H2.out] | rw [H5.out])
      go_ret
      exact ⟨by rw [HF.out]; rfl, HB.out⟩)
    · cases r4
      · cases b5
        · (
      go_enter Try.func16, Try.ntmps16
      go_wp2_with (go_at_call 21; refine (within12_any _ _ _ _).mono ?_; rintro e w' ⟨rfl, rfl⟩; first | rw [H2.out] | rw [H5.out])
      go_ret
      exact ⟨by rw [HF.out]; rfl, HB.out⟩)
        · cases r5 <;> (
      go_enter Try.func16, Try.ntmps16
      go_wp2_with (go_at_call 21; refine (within12_any _ _ _ _).mono ?_; rintro e w' ⟨rfl, rfl⟩; first | rw [H2.out] | rw [H5.out])
      go_ret
      exact ⟨by rw [HF.out]; rfl, HB.out⟩)
      · (
      go_enter Try.func16, Try.ntmps16
      go_wp2_with (go_at_call 21; refine (within12_any _ _ _ _).mono ?_; rintro e w' ⟨rfl, rfl⟩; first | rw [H2.out] | rw [H5.out])
      go_ret
      exact ⟨by rw [HF.out]; rfl, HB.out⟩)
  · cases r2
    · (
      go_enter Try.func16, Try.ntmps16
      go_wp2_with (go_at_call 21; refine (within12_any _ _ _ _).mono ?_; rintro e w' ⟨rfl, rfl⟩; first | rw [H2.out] | rw [H5.out])
      go_ret
      exact ⟨by rw [HF.out]; rfl, HB.out⟩)
    · cases b4
      · cases b5
        · (
      go_enter Try.func16, Try.ntmps16
      go_wp2_with (go_at_call 21; refine (within12_any _ _ _ _).mono ?_; rintro e w' ⟨rfl, rfl⟩; first | rw [H2.out] | rw [H5.out])
      go_ret
      exact ⟨by rw [HF.out]; rfl, HB.out⟩)
        · cases r5 <;> (
      go_enter Try.func16, Try.ntmps16
      go_wp2_with (go_at_call 21; refine (within12_any _ _ _ _).mono ?_; rintro e w' ⟨rfl, rfl⟩; first | rw [H2.out] | rw [H5.out])
      go_ret
      exact ⟨by rw [HF.out]; rfl, HB.out⟩)
      · cases r4
        · cases b5
          · (
      go_enter Try.func16, Try.ntmps16
      go_wp2_with (go_at_call 21; refine (within12_any _ _ _ _).mono ?_; rintro e w' ⟨rfl, rfl⟩; first | rw [H2.out] | rw [H5.out])
      go_ret
      exact ⟨by rw [HF.out]; rfl, HB.out⟩)
          · cases r5 <;> (
      go_enter Try.func16, Try.ntmps16
      go_wp2_with (go_at_call 21; refine (within12_any _ _ _ _).mono ?_; rintro e w' ⟨rfl, rfl⟩; first | rw [H2.out] | rw [H5.out])
      go_ret
      exact ⟨by rw [HF.out]; rfl, HB.out⟩)
        · (
      go_enter Try.func16, Try.ntmps16
      go_wp2_with (go_at_call 21; refine (within12_any _ _ _ _).mono ?_; rintro e w' ⟨rfl, rfl⟩; first | rw [H2.out] | rw [H5.out])
      go_ret
      exact ⟨by rw [HF.out]; rfl, HB.out⟩)

theorem greater_any (n t : Int) (w : World) (hn0 : -4294967296 ≤ n) (hn1 : n ≤ 4294967296) (ht0 : -4294967296 ≤ t) (ht1 : t ≤ 4294967296) :
    Calls Try.prog 17 #[.int .i64 n, .int .i64 t] w fun e w' => e = .returned (.int .i64 (n - t)) ∧ w' = w := by
  by_cases c0 : t < 0
  · have d1 : decide (t < 0) = true := decide_eq_true c0
    have d2 : decide (9223372036854775807 + t < n) = false := decide_eq_false (by omega)
    have d3 : decide (0 < t) = false := decide_eq_false (by omega)
    go_enter Try.func17, Try.ntmps17
    go_wp2
    go_ret
    exact ⟨rfl, rfl⟩
  · have d1 : decide (t < 0) = false := decide_eq_false c0
    by_cases c1 : 0 < t
    · have d3 : decide (0 < t) = true := decide_eq_true c1
      have d4 : decide (n < -9223372036854775808 + t) = false := decide_eq_false (by omega)
      go_enter Try.func17, Try.ntmps17
      go_wp2
      go_ret
      exact ⟨rfl, rfl⟩
    · have d3 : decide (0 < t) = false := decide_eq_false c1
      go_enter Try.func17, Try.ntmps17
      go_wp2
      go_ret
      exact ⟨rfl, rfl⟩
/-- six numbers -/
structure S6 where
  (t p s u f l : Int)
def S6.cs (x : S6) : Array Value := setC x.t x.p x.s x.u x.f x.l
def S6.v (x : S6) : Value := .agg x.cs
def S6.first : S6 := ⟨4096, 1, -1, 65535, 16384, -1⟩
def S6.zero : S6 := ⟨0, 0, 0, 0, 0, 0⟩
theorem S6.v_eq (x : S6) : x.v = setV x.t x.p x.s x.u x.f x.l := rfl
theorem S6.cs_size (x : S6) : x.cs.size = 6 := rfl
theorem first12_any (w : World) : Calls Try.prog 13 #[] w fun e w' => e = .returned S6.first.v ∧ Below w.heap.size w w' := by
  go_enter Try.func13, Try.ntmps13
  go_wp2
  refine bodyPost_ret (results_row0 rfl _ _ w.heap.size 23 S6.first.cs (0, 0) _ rfl (heap_alloc_new _ _) Try.underlying23 rfl (by kernel_rfl)) rfl ⟨rfl, (Below.refl _ _).alloc (Nat.le_refl _) _⟩
theorem refFirst12_any (w : World) : Calls Try.prog 14 #[] w fun e w' => e = .returned S6.first.v ∧ Below w.heap.size w w' := by
  go_enter Try.func14, Try.ntmps14
  go_wp2
  refine bodyPost_ret (results_row0 rfl _ _ w.heap.size 30 S6.first.cs (0, 0) _ rfl (heap_alloc_new _ _) Try.underlying30 rfl (by kernel_rfl)) rfl ⟨rfl, (Below.refl _ _).alloc (Nat.le_refl _) _⟩
theorem set12_any (x : S6) (w : World) : Calls Try.prog 8 #[x.v] w fun e w' => e = .returned x.v ∧ Below w.heap.size w w' := by
  unfold S6.v S6.cs setC
  go_enter Try.func8, Try.ntmps8
  go_wp2
  refine bodyPost_ret (results_row0 rfl _ _ (w.heap.size + 1) 30 x.cs (0, 0) _ rfl ?_ Try.underlying30 rfl (by kernel_rfl)) rfl ⟨rfl, ?_⟩
  · show ((w.heap.push _).push _)[w.heap.size + 1]? = _
    rw [Array.getElem?_push, if_pos (by simp)]
    rfl
  · exact ((Below.refl _ _).alloc (Nat.le_refl _) _).alloc (by simp) _
end Go.Proofs.Ytmmcpmkkgembbaa
