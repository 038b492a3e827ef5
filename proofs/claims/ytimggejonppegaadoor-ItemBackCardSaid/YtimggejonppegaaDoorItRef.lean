
/-
  The document's own answers for layer 8: which items may be, the kinds.
-/
import Derived.Test.YtimggejonppegaaDoorItMath
import Derived.Test.YtimggejonppegaaDoorItRow
namespace Go.Proofs.YtimggejonppegaaDoor
open Go.RowKit

theorem decide_size {s : ByteArray} : decide (s.size = 0) = s.toList.isEmpty := decide_toList ⟨size_nil, fun h => by rw [h]; rfl⟩
theorem rightI_0 (n : Int) (a b : ByteArray) (h1 : n ≤ 16777215) : decide (rightI 0 n a b) = (decide (1 ≤ n) && (a.toList.isEmpty && b.toList.isEmpty)) := by
  rw [← decide_size, ← decide_size, Bool.eq_iff_iff]
  simp only [Bool.and_eq_true, decide_eq_true_iff]
  unfold rightI leastI textsI
  simp [h1]
theorem rightI_t (k n : Int) (a b : ByteArray) (hk : k = 1 ∨ k = 2 ∨ k = 3) (h0 : 0 ≤ n) (h1 : n ≤ 16777215) (ha : a.size ≤ 65536) (hb : b.size ≤ 65536) : decide (rightI k n a b) = ((n == 0) || a.toList.isEmpty) := by
  rw [← decide_size, Bool.eq_iff_iff]
  simp only [Bool.or_eq_true, decide_eq_true_iff, beq_iff_eq]
  unfold rightI leastI textsI
  rcases hk with rfl | rfl | rfl <;> by_cases h : n = 0 <;> simp [h, h0, h1, ha, hb]
theorem rightI_4 (n : Int) (a b : ByteArray) (h0 : 0 ≤ n) (h1 : n ≤ 16777215) : decide (rightI 4 n a b) = (a.toList.isEmpty && b.toList.isEmpty) := by
  rw [← decide_size, ← decide_size, Bool.eq_iff_iff]
  simp only [Bool.and_eq_true, decide_eq_true_iff]
  unfold rightI leastI textsI
  simp [h0, h1]
theorem rightI_kind {k n : Int} {a b : ByteArray} (h : ¬ (0 ≤ k ∧ k < 5)) : decide (rightI k n a b) = false := decide_eq_false (fun x => h x.1)
theorem rightI_sizes {k n : Int} {a b : ByteArray} (h : rightI k n a b) : a.size ≤ 65536 ∧ b.size ≤ 65536 := by
  by_cases ht : textsI k = true
  · have := h.2.2.2.1 ht; exact ⟨this.1, this.2.1⟩
  · have := h.2.2.2.2 (by simpa using ht); omega

set_option maxHeartbeats 1000000 in
theorem refRight_0 (k n : Int) (a b : ByteArray) (w : World) (h1 : 0 ≤ n ∧ n ≤ 16777215 ∧ a.size ≤ 65536 ∧ b.size ≤ 65536) (hk : k = 0) :
    Calls Tryd.prog 13 #[itV k n a b] w fun e w' => e = .returned (.bool (decide (rightI k n a b))) ∧ Below w.heap.size w w' := by
  unfold itV
  subst hk
  have HD := Lib.hid (rightI_0 n a b h1.2.1)
  have d1 : decide (n < 0) = false := decide_eq_false (by omega)
  have d2 : decide (16777215 < n) = false := decide_eq_false (by omega)
  have d3 : decide (65536 < (a.size : Int)) = false := decide_eq_false (by omega)
  have d4 : decide (65536 < (b.size : Int)) = false := decide_eq_false (by omega)
  clear h1
  go_enter Tryd.func13, Tryd.ntmps13
  go_wp2_with fail
  all_goals
    go_ret
    exact ⟨by rw [HD.out]; first | (simp [*]; done) | (simp [*]; intros; omega), (Below.refl _ _).alloc (Nat.le_refl _) _⟩
set_option maxHeartbeats 1000000 in
theorem refRight_1 (k n : Int) (a b : ByteArray) (w : World) (h1 : 0 ≤ n ∧ n ≤ 16777215 ∧ a.size ≤ 65536 ∧ b.size ≤ 65536) (hk : k = 1) :
    Calls Tryd.prog 13 #[itV k n a b] w fun e w' => e = .returned (.bool (decide (rightI k n a b))) ∧ Below w.heap.size w w' := by
  unfold itV
  subst hk
  have HD := Lib.hid (rightI_t 1 n a b (by decide) h1.1 h1.2.1 h1.2.2.1 h1.2.2.2)
  have d1 : decide (n < 0) = false := decide_eq_false (by omega)
  have d2 : decide (16777215 < n) = false := decide_eq_false (by omega)
  have d3 : decide (65536 < (a.size : Int)) = false := decide_eq_false (by omega)
  have d4 : decide (65536 < (b.size : Int)) = false := decide_eq_false (by omega)
  clear h1
  go_enter Tryd.func13, Tryd.ntmps13
  go_wp2_with fail
  all_goals
    go_ret
    exact ⟨by rw [HD.out]; first | (simp [*]; done) | (simp [*]; intros; omega), (Below.refl _ _).alloc (Nat.le_refl _) _⟩
set_option maxHeartbeats 1000000 in
theorem refRight_2 (k n : Int) (a b : ByteArray) (w : World) (h1 : 0 ≤ n ∧ n ≤ 16777215 ∧ a.size ≤ 65536 ∧ b.size ≤ 65536) (hk : k = 2) :
    Calls Tryd.prog 13 #[itV k n a b] w fun e w' => e = .returned (.bool (decide (rightI k n a b))) ∧ Below w.heap.size w w' := by
  unfold itV
  subst hk
  have HD := Lib.hid (rightI_t 2 n a b (by decide) h1.1 h1.2.1 h1.2.2.1 h1.2.2.2)
  have d1 : decide (n < 0) = false := decide_eq_false (by omega)
  have d2 : decide (16777215 < n) = false := decide_eq_false (by omega)
  have d3 : decide (65536 < (a.size : Int)) = false := decide_eq_false (by omega)
  have d4 : decide (65536 < (b.size : Int)) = false := decide_eq_false (by omega)
  clear h1
  go_enter Tryd.func13, Tryd.ntmps13
  go_wp2_with fail
  all_goals
    go_ret
    exact ⟨by rw [HD.out]; first | (simp [*]; done) | (simp [*]; intros; omega), (Below.refl _ _).alloc (Nat.le_refl _) _⟩
set_option maxHeartbeats 1000000 in
theorem refRight_3 (k n : Int) (a b : ByteArray) (w : World) (h1 : 0 ≤ n ∧ n ≤ 16777215 ∧ a.size ≤ 65536 ∧ b.size ≤ 65536) (hk : k = 3) :
    Calls Tryd.prog 13 #[itV k n a b] w fun e w' => e = .returned (.bool (decide (rightI k n a b))) ∧ Below w.heap.size w w' := by
  unfold itV
  subst hk
  have HD := Lib.hid (rightI_t 3 n a b (by decide) h1.1 h1.2.1 h1.2.2.1 h1.2.2.2)
  have d1 : decide (n < 0) = false := decide_eq_false (by omega)
  have d2 : decide (16777215 < n) = false := decide_eq_false (by omega)
  have d3 : decide (65536 < (a.size : Int)) = false := decide_eq_false (by omega)
  have d4 : decide (65536 < (b.size : Int)) = false := decide_eq_false (by omega)
  clear h1
  go_enter Tryd.func13, Tryd.ntmps13
  go_wp2_with fail
  all_goals
    go_ret
    exact ⟨by rw [HD.out]; first | (simp [*]; done) | (simp [*]; intros; omega), (Below.refl _ _).alloc (Nat.le_refl _) _⟩
set_option maxHeartbeats 1000000 in
theorem refRight_4 (k n : Int) (a b : ByteArray) (w : World) (h1 : 0 ≤ n ∧ n ≤ 16777215 ∧ a.size ≤ 65536 ∧ b.size ≤ 65536) (hk : k = 4) :
    Calls Tryd.prog 13 #[itV k n a b] w fun e w' => e = .returned (.bool (decide (rightI k n a b))) ∧ Below w.heap.size w w' := by
  unfold itV
  subst hk
  have HD := Lib.hid (rightI_4 n a b h1.1 h1.2.1)
  have d1 : decide (n < 0) = false := decide_eq_false (by omega)
  have d2 : decide (16777215 < n) = false := decide_eq_false (by omega)
  have d3 : decide (65536 < (a.size : Int)) = false := decide_eq_false (by omega)
  have d4 : decide (65536 < (b.size : Int)) = false := decide_eq_false (by omega)
  clear h1
  go_enter Tryd.func13, Tryd.ntmps13
  go_wp2_with fail
  all_goals
    go_ret
    exact ⟨by rw [HD.out]; first | (simp [*]; done) | (simp [*]; intros; omega), (Below.refl _ _).alloc (Nat.le_refl _) _⟩
set_option maxHeartbeats 1000000 in
theorem refRight_kind (k n : Int) (a b : ByteArray) (w : World) (h1 : 0 ≤ n ∧ n ≤ 16777215 ∧ a.size ≤ 65536 ∧ b.size ≤ 65536) (hk : ¬ (0 ≤ k ∧ k < 5)) :
    Calls Tryd.prog 13 #[itV k n a b] w fun e w' => e = .returned (.bool (decide (rightI k n a b))) ∧ Below w.heap.size w w' := by
  unfold itV
  have HD := Lib.hid (rightI_kind (n := n) (a := a) (b := b) hk)
  have d1 : decide (n < 0) = false := decide_eq_false (by omega)
  have d2 : decide (16777215 < n) = false := decide_eq_false (by omega)
  have d3 : decide (65536 < (a.size : Int)) = false := decide_eq_false (by omega)
  have d4 : decide (65536 < (b.size : Int)) = false := decide_eq_false (by omega)
  have e0 : (k == 0) = false := by simp; omega
  have e1 : (k == 1) = false := by simp; omega
  have e2 : (k == 2) = false := by simp; omega
  have e3 : (k == 3) = false := by simp; omega
  have e4 : (k == 4) = false := by simp; omega
  clear h1 hk
  go_enter Tryd.func13, Tryd.ntmps13
  go_wp2_with fail
  all_goals
    go_ret
    exact ⟨by rw [HD.out]; first | (simp [*]; done) | (simp [*]; intros; omega), (Below.refl _ _).alloc (Nat.le_refl _) _⟩
set_option maxHeartbeats 1000000 in
theorem refRight_no (k n : Int) (a b : ByteArray) (w : World) (h1 : ¬ (0 ≤ n ∧ n ≤ 16777215 ∧ a.size ≤ 65536 ∧ b.size ≤ 65536)) :
    Calls Tryd.prog 13 #[itV k n a b] w fun e w' => e = .returned (.bool (decide (rightI k n a b))) ∧ Below w.heap.size w w' := by
  unfold itV
  have HN := Lib.hid h1
  have HD : Hid (decide (rightI k n a b) = false) := decide_eq_false (fun x => h1 ⟨x.num.1, x.num.2, rightI_sizes x⟩)
  clear h1
  by_cases c1 : n < 0
  · have d1 : decide (n < 0) = true := decide_eq_true c1
    clear c1
    go_enter Tryd.func13, Tryd.ntmps13
    go_wp2_with fail
    all_goals
      go_ret
      exact ⟨by rw [HD.out]; first | (simp [*]; done) | (simp [*]; intros; omega), (Below.refl _ _).alloc (Nat.le_refl _) _⟩
  by_cases c2 : 16777215 < n
  · have d1 : decide (n < 0) = false := decide_eq_false c1
    have d2 : decide (16777215 < n) = true := decide_eq_true c2
    clear c1 c2
    go_enter Tryd.func13, Tryd.ntmps13
    go_wp2_with fail
    all_goals
      go_ret
      exact ⟨by rw [HD.out]; first | (simp [*]; done) | (simp [*]; intros; omega), (Below.refl _ _).alloc (Nat.le_refl _) _⟩
  by_cases c3 : 65536 < (a.size : Int)
  · have d1 : decide (n < 0) = false := decide_eq_false c1
    have d2 : decide (16777215 < n) = false := decide_eq_false c2
    have d3 : decide (65536 < (a.size : Int)) = true := decide_eq_true c3
    clear c1 c2 c3
    go_enter Tryd.func13, Tryd.ntmps13
    go_wp2_with fail
    all_goals
      go_ret
      exact ⟨by rw [HD.out]; first | (simp [*]; done) | (simp [*]; intros; omega), (Below.refl _ _).alloc (Nat.le_refl _) _⟩
  · have d1 : decide (n < 0) = false := decide_eq_false c1
    have d2 : decide (16777215 < n) = false := decide_eq_false c2
    have d3 : decide (65536 < (a.size : Int)) = false := decide_eq_false c3
    have d4 : decide (65536 < (b.size : Int)) = true := decide_eq_true (by have := HN.out; omega)
    clear c1 c2 c3
    go_enter Tryd.func13, Tryd.ntmps13
    go_wp2_with fail
    all_goals
      go_ret
      exact ⟨by rw [HD.out]; first | (simp [*]; done) | (simp [*]; intros; omega), (Below.refl _ _).alloc (Nat.le_refl _) _⟩
theorem refRight_any (k n : Int) (a b : ByteArray) (w : World) :
    Calls Tryd.prog 13 #[itV k n a b] w fun e w' => e = .returned (.bool (decide (rightI k n a b))) ∧ Below w.heap.size w w' := by
  by_cases h1 : 0 ≤ n ∧ n ≤ 16777215 ∧ a.size ≤ 65536 ∧ b.size ≤ 65536
  · by_cases hk : 0 ≤ k ∧ k < 5
    · rcases kind_cases hk.1 hk.2 with h | h | h | h | h
      · exact refRight_0 k n a b w h1 h
      · exact refRight_1 k n a b w h1 h
      · exact refRight_2 k n a b w h1 h
      · exact refRight_3 k n a b w h1 h
      · exact refRight_4 k n a b w h1 h
    · exact refRight_kind k n a b w h1 hk
  · exact refRight_no k n a b w h1

theorem refBits_any (k : Int) (w : World) (h0 : 0 ≤ k) (h4 : k < 5) :
    Calls Tryd.prog 18 #[.int .i64 k] w fun e w' => e = .returned (.int .i64 (bitsI k)) ∧ w = w' := by
  rcases kind_cases h0 h4 with rfl | rfl | rfl | rfl | rfl
  all_goals
    clear h0 h4
    go_enter Tryd.func18, Tryd.ntmps18
    go_wp2
    go_ret
    exact ⟨rfl, rfl⟩
theorem refAbove_any (k : Int) (w : World) (h0 : 0 ≤ k) (h4 : k < 5) :
    Calls Tryd.prog 19 #[.int .i64 k] w fun e w' => e = .returned (.int .i64 (aboveI k)) ∧ w = w' := by
  rcases kind_cases h0 h4 with rfl | rfl | rfl | rfl | rfl
  all_goals
    clear h0 h4
    go_enter Tryd.func19, Tryd.ntmps19
    go_wp2
    go_ret
    exact ⟨rfl, rfl⟩
theorem refKind_any (c : Int) (w : World) :
    Calls Tryd.prog 24 #[.int .u8 c] w fun e w' => e = .returned (.int .i64 (kindI c)) ∧ w = w' := by
  obtain ⟨K, hK⟩ : ∃ K, kindI c = K := ⟨_, rfl⟩
  have HK := Lib.hid hK
  rw [hK]
  clear hK
  by_cases c1 : 128 ≤ c
  · have d1 : decide (128 ≤ c) = true := decide_eq_true c1
    have HE : Hid (K = 0) := by show K = 0; rw [← HK.out, kindI, if_pos c1]
    clear c1
    go_enter Tryd.func24, Tryd.ntmps24
    go_wp2
    go_ret
    exact ⟨by rw [HE.out]; rfl, rfl⟩
  by_cases c2 : 64 ≤ c
  · have d1 : decide (128 ≤ c) = false := decide_eq_false c1
    have d2 : decide (64 ≤ c) = true := decide_eq_true c2
    have HE : Hid (K = 1) := by show K = 1; rw [← HK.out, kindI, if_neg c1, if_pos c2]
    clear c1 c2
    go_enter Tryd.func24, Tryd.ntmps24
    go_wp2
    go_ret
    exact ⟨by rw [HE.out]; rfl, rfl⟩
  by_cases c3 : 32 ≤ c
  · have d1 : decide (128 ≤ c) = false := decide_eq_false c1
    have d2 : decide (64 ≤ c) = false := decide_eq_false c2
    have d3 : decide (32 ≤ c) = true := decide_eq_true c3
    have HE : Hid (K = 4) := by show K = 4; rw [← HK.out, kindI, if_neg c1, if_neg c2, if_pos c3]
    clear c1 c2 c3
    go_enter Tryd.func24, Tryd.ntmps24
    go_wp2
    go_ret
    exact ⟨by rw [HE.out]; rfl, rfl⟩
  by_cases c4 : 16 ≤ c
  · have d1 : decide (128 ≤ c) = false := decide_eq_false c1
    have d2 : decide (64 ≤ c) = false := decide_eq_false c2
    have d3 : decide (32 ≤ c) = false := decide_eq_false c3
    have d4 : decide (16 ≤ c) = true := decide_eq_true c4
    have HE : Hid (K = 3) := by show K = 3; rw [← HK.out, kindI, if_neg c1, if_neg c2, if_neg c3, if_pos c4]
    clear c1 c2 c3 c4
    go_enter Tryd.func24, Tryd.ntmps24
    go_wp2
    go_ret
    exact ⟨by rw [HE.out]; rfl, rfl⟩
  · have d1 : decide (128 ≤ c) = false := decide_eq_false c1
    have d2 : decide (64 ≤ c) = false := decide_eq_false c2
    have d3 : decide (32 ≤ c) = false := decide_eq_false c3
    have d4 : decide (16 ≤ c) = false := decide_eq_false c4
    have HE : Hid (K = 2) := by show K = 2; rw [← HK.out, kindI, if_neg c1, if_neg c2, if_neg c3, if_neg c4]
    clear c1 c2 c3 c4
    go_enter Tryd.func24, Tryd.ntmps24
    go_wp2
    go_ret
    exact ⟨by rw [HE.out]; rfl, rfl⟩
end Go.Proofs.YtimggejonppegaaDoor
