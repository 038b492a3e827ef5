
/-
  What the small calls of package prefix do, and the document's own power of two, a contract each.
-/
import Derived.Test.YtimggejonppegaaDoorProg
import Derived.Test.YtimggejonppegaaDoorPrefMath
import Derived.Test.YtimggejonppegaaDoorOwn
import Derived.Deep.QuietTactic
import Derived.BigQuiet
import Derived.Outline
namespace Go.Proofs.YtimggejonppegaaDoor
open Go.RowKit

/-- what a prefix of so many bits holds at most -/
def fullP (bits : Int) : Int := 2 ^ bits.toNat - 1
theorem bits_cases {b : Int} (h1 : 1 ≤ b) (h8 : b ≤ 8) : b = 1 ∨ b = 2 ∨ b = 3 ∨ b = 4 ∨ b = 5 ∨ b = 6 ∨ b = 7 ∨ b = 8 := by omega
theorem fullP_bound {b : Int} (h1 : 1 ≤ b) (h8 : b ≤ 8) : 1 ≤ fullP b ∧ fullP b ≤ 255 := by
  rcases bits_cases h1 h8 with rfl | rfl | rfl | rfl | rfl | rfl | rfl | rfl <;> decide

theorem full_any (b : Int) (w : World) (h1 : 1 ≤ b) (h8 : b ≤ 8) :
    Calls Tryd.prog 32 #[.int .i64 b] w fun e w' => e = .returned (.int .i64 (fullP b)) ∧ w = w' := by
  rcases bits_cases h1 h8 with rfl | rfl | rfl | rfl | rfl | rfl | rfl | rfl <;>
  · clear h1 h8
    go_enter Tryd.func32, Tryd.ntmps32
    go_wp2
    go_ret
    exact ⟨rfl, rfl⟩

theorem isPrefix_any (b : Int) (w : World) :
    Calls Tryd.prog 30 #[.int .i64 b] w fun e w' => e = .returned (.bool (decide (1 ≤ b ∧ b ≤ 8))) ∧ w = w' := by
  by_cases h0 : 1 ≤ b
  · have d1 : decide (1 ≤ b) = true := decide_eq_true h0
    have HD := Lib.hid (show decide (1 ≤ b ∧ b ≤ 8) = decide (b ≤ 8) by simp [h0])
    clear h0
    go_enter Tryd.func30, Tryd.ntmps30
    go_wp2
    go_ret
    exact ⟨by rw [HD.out]; rfl, rfl⟩
  · have d1 : decide (1 ≤ b) = false := decide_eq_false h0
    have HD := Lib.hid (show decide (1 ≤ b ∧ b ≤ 8) = false by simp [h0])
    clear h0
    go_enter Tryd.func30, Tryd.ntmps30
    go_wp2
    go_ret
    exact ⟨by rw [HD.out]; rfl, rfl⟩
theorem isNumber_any (b : Int) (w : World) :
    Calls Tryd.prog 29 #[.int .i64 b] w fun e w' => e = .returned (.bool (decide (0 ≤ b ∧ b ≤ 16777215))) ∧ w = w' := by
  by_cases h0 : 0 ≤ b
  · have d1 : decide (0 ≤ b) = true := decide_eq_true h0
    have HD := Lib.hid (show decide (0 ≤ b ∧ b ≤ 16777215) = decide (b ≤ 16777215) by simp [h0])
    clear h0
    go_enter Tryd.func29, Tryd.ntmps29
    go_wp2
    go_ret
    exact ⟨by rw [HD.out]; rfl, rfl⟩
  · have d1 : decide (0 ≤ b) = false := decide_eq_false h0
    have HD := Lib.hid (show decide (0 ≤ b ∧ b ≤ 16777215) = false by simp [h0])
    clear h0
    go_enter Tryd.func29, Tryd.ntmps29
    go_wp2
    go_ret
    exact ⟨by rw [HD.out]; rfl, rfl⟩
theorem isAbove_any (a b : Int) (w : World) (h1 : 1 ≤ b) (h8 : b ≤ 8) :
    Calls Tryd.prog 31 #[.int .i64 a, .int .i64 b] w fun e w' => e = .returned (.bool (decide (0 ≤ a ∧ a ≤ 255 ∧ a % (fullP b + 1) = 0))) ∧ w = w' := by
  by_cases h0 : 0 ≤ a
  · have d1 : decide (0 ≤ a) = true := decide_eq_true h0
    by_cases h2 : a ≤ 255
    · have d2 : decide (a ≤ 255) = true := decide_eq_true h2
      rcases bits_cases h1 h8 with rfl | rfl | rfl | rfl | rfl | rfl | rfl | rfl <;>
      · clear h1 h8
        simp only [fullP, Int.reduceToNat, Int.reducePow, Int.reduceSub, Int.reduceAdd]
        go_enter Tryd.func31, Tryd.ntmps31
        go_wp2
        go_ret
        exact ⟨by simp [h0, h2]; rfl, rfl⟩
    · have d2 : decide (a ≤ 255) = false := decide_eq_false h2
      have HD := Lib.hid (show decide (0 ≤ a ∧ a ≤ 255 ∧ a % (fullP b + 1) = 0) = false by simp [h2])
      clear h0 h2
      go_enter Tryd.func31, Tryd.ntmps31
      go_wp2
      go_ret
      exact ⟨by rw [HD.out]; rfl, rfl⟩
  · have d1 : decide (0 ≤ a) = false := decide_eq_false h0
    have HD := Lib.hid (show decide (0 ≤ a ∧ a ≤ 255 ∧ a % (fullP b + 1) = 0) = false by simp [h0])
    clear h0
    go_enter Tryd.func31, Tryd.ntmps31
    go_wp2
    go_ret
    exact ⟨by rw [HD.out]; rfl, rfl⟩

end Go.Proofs.YtimggejonppegaaDoor
