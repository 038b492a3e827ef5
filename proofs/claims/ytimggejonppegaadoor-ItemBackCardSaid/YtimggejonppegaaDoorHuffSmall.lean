
/-
  Small calls of package huff: step, isFilling, Length.
-/
import Derived.Test.YtimggejonppegaaDoorHuffLen
import Derived.Test.YtimggejonppegaaDoorHuffArr
import Derived.Test.YtimggejonppegaaDoorOwn
namespace Go.Proofs.YtimggejonppegaaDoor
open Go.RowKit

theorem i64_bit (p b : Nat) (h1 : p < 4611686018427387904) (h2 : b < 2) : bits .or .i64 ((p : Int) * 2) b = ((2 * p + b : Nat) : Int) := by
  rw [i64_join 1 ((p : Int) * 2) b (by omega) (by omega) (by omega) (by omega) (by omega) (by omega)]
  omega
theorem step_any (p b : Nat) (w : World) (hp : p < 4611686018427387904) (hb : b < 2) :
    Calls Tryd.prog 59 #[.int .i64 p, .int .i64 b] w fun e w' => e = .returned (.int .i64 ((2 * p + b : Nat) : Int)) ∧ w = w' := by
  have H := Lib.hid (i64_bit p b hp hb)
  go_enter Tryd.func59, Tryd.ntmps59
  go_wp2
  go_ret
  exact ⟨by rw [← H.out]; rfl, rfl⟩

theorem fill_all : (List.range 8).all (fun n => (List.range (2 ^ n)).all (fun k => ((2 ^ n + k) &&& (2 ^ n + k + 1) == 0) == (k + 1 == 2 ^ n))) = true := by decide +kernel
theorem isFilling_any (n k : Nat) (w : World) (hk : k < 2 ^ n) (hn : n < 30) :
    Calls Tryd.prog 60 #[.int .i64 ((2 ^ n + k : Nat) : Int)] w fun e w' => e = .returned (.bool (decide (n ≤ 7 ∧ k + 1 = 2 ^ n))) ∧ w = w' := by
  obtain ⟨p, hp⟩ : ∃ p, 2 ^ n + k = p := ⟨_, rfl⟩
  rw [hp]
  by_cases h7 : n ≤ 7
  · have hf := List.all_eq_true.1 (List.all_eq_true.1 fill_all n (List.mem_range.2 (by omega))) k (List.mem_range.2 hk)
    rw [hp] at hf
    have h2 : 2 ^ n ≤ 128 := Nat.pow_le_pow_right (n := 2) (by omega) h7
    have hlt : p < 256 := by omega
    have d1 : decide ((p : Int) < 256) = true := decide_eq_true (by omega)
    have HD := Lib.hid (show decide (n ≤ 7 ∧ k + 1 = 2 ^ n) = (bits .and .i64 (p : Int) ((p : Int) + 1) == 0) by
      rw [i64_and _ _ (by omega) (by omega) (by omega) (by omega), show ((p : Int) + 1).toNat = p + 1 by omega, Int.toNat_natCast]
      have e : (((p &&& (p + 1) : Nat) : Int) == 0) = (p &&& (p + 1) == 0) := by
        rw [Bool.eq_iff_iff]; simp
      rw [e]
      simp only [beq_iff_eq] at hf
      rw [hf, Bool.eq_iff_iff]
      simp [h7])
    clear hp hf h2
    go_enter Tryd.func60, Tryd.ntmps60
    go_wp2
    go_ret
    exact ⟨by rw [HD.out]; rfl, rfl⟩
  · have h2 : 2 ^ 8 ≤ 2 ^ n := Nat.pow_le_pow_right (n := 2) (by omega) (by omega)
    have d1 : decide ((p : Int) < 256) = false := decide_eq_false (by omega)
    have HD := Lib.hid (show decide (n ≤ 7 ∧ k + 1 = 2 ^ n) = false by simp [h7])
    clear hp h2
    go_enter Tryd.func60, Tryd.ntmps60
    go_wp2
    go_ret
    exact ⟨by rw [HD.out]; rfl, rfl⟩

/-- what is told of a length -/
def lenZ (c : Int) : Int := if 0 ≤ c ∧ c < 257 then (len c.toNat : Int) else 0
def codeZ (c : Int) : Int := if 0 ≤ c ∧ c < 257 then (code c.toNat : Int) else 0
end Go.Proofs.YtimggejonppegaaDoor
