
/-
  Layer 10's reference: figure, sign.
-/
import Derived.Test.YtabonhiolcjnnaaProg
import Derived.Test.YtabonhiolcjnnaaReqMath
import Derived.Deep.QuietTactic
namespace Go.Proofs.Ytabonhiolcjnnaa
set_option maxRecDepth 20000
open Go.RowKit

theorem str_at {P : Program} {t : TypeId} (ht : P.underlying t = some .string) (s : ByteArray) {k : Nat} (hk : k < s.size) (q : IntKind) (W : World) :
    (Instr.index t (.string s) (.int q (k : Int))).run P W = .ok (.int .u8 (at0 (nums s) k)) W := by
  rw [run_index_string W t s q k ht, dif_pos ⟨by omega, by omega⟩]
  congr 2
  simp only [at0, nums, Int.toNat_natCast, List.getD_eq_getElem?_getD, List.getElem?_map, Array.getElem?_toList]
  rw [Array.getElem?_eq_getElem (show k < s.data.size from hk)]
  rfl
theorem refFigure_any (c : Int) (w : World) :
    Calls Try.prog 32 #[.int .u8 c] w fun e w' => e = .returned (.bool (figB c)) ∧ w' = w := by
  by_cases h1 : 48 ≤ c
  · have d1 : decide (48 ≤ c) = true := decide_eq_true h1
    have HD := Lib.hid (show figB c = decide (c ≤ 57) by unfold figB; rw [decide_eq_decide]; omega)
    clear h1
    go_enter Try.func32, Try.ntmps32
    go_wp2_with fail
    go_ret
    exact ⟨by rw [HD.out]; rfl, rfl⟩
  · have d1 : decide (48 ≤ c) = false := decide_eq_false h1
    have HD := Lib.hid (show figB c = false by unfold figB; rw [decide_eq_false_iff_not]; omega)
    clear h1
    go_enter Try.func32, Try.ntmps32
    go_wp2_with fail
    go_ret
    exact ⟨by rw [HD.out]; rfl, rfl⟩
set_option maxHeartbeats 1000000 in
theorem refSign_any (c : Int) (w : World) :
    Calls Try.prog 33 #[.int .u8 c] w fun e w' => e = .returned (.bool (signB c)) ∧ w' = w := by
  by_cases h : c ∈ signs10
  · have HD := Lib.hid (show signB c = true by unfold signB; exact List.contains_iff_mem.2 h)
    simp only [signs10, List.mem_cons, List.not_mem_nil, or_false] at h
    rcases h with rfl | rfl | rfl | rfl | rfl | rfl | rfl | rfl | rfl | rfl | rfl | rfl | rfl | rfl | rfl
    all_goals
      go_enter Try.func33, Try.ntmps33
      go_wp2_with fail
      go_ret
      exact ⟨by rw [HD.out]; rfl, rfl⟩
  · have HD := Lib.hid (show signB c = false by unfold signB; rw [Bool.eq_false_iff]; exact fun x => h (List.contains_iff_mem.1 x))
    simp only [signs10, List.mem_cons, List.not_mem_nil, or_false, not_or] at h
    obtain ⟨h1, h2, h3, h4, h5, h6, h7, h8, h9, h10, h11, h12, h13, h14, h15⟩ := h
    have e1 : (c == 33) = false := beq_eq_false_iff_ne.2 h1
    have e2 : (c == 35) = false := beq_eq_false_iff_ne.2 h2
    have e3 : (c == 36) = false := beq_eq_false_iff_ne.2 h3
    have e4 : (c == 37) = false := beq_eq_false_iff_ne.2 h4
    have e5 : (c == 38) = false := beq_eq_false_iff_ne.2 h5
    have e6 : (c == 39) = false := beq_eq_false_iff_ne.2 h6
    have e7 : (c == 42) = false := beq_eq_false_iff_ne.2 h7
    have e8 : (c == 43) = false := beq_eq_false_iff_ne.2 h8
    have e9 : (c == 45) = false := beq_eq_false_iff_ne.2 h9
    have e10 : (c == 46) = false := beq_eq_false_iff_ne.2 h10
    have e11 : (c == 94) = false := beq_eq_false_iff_ne.2 h11
    have e12 : (c == 95) = false := beq_eq_false_iff_ne.2 h12
    have e13 : (c == 96) = false := beq_eq_false_iff_ne.2 h13
    have e14 : (c == 124) = false := beq_eq_false_iff_ne.2 h14
    have e15 : (c == 126) = false := beq_eq_false_iff_ne.2 h15
    clear h1 h2 h3 h4 h5 h6 h7 h8 h9 h10 h11 h12 h13 h14 h15
    go_enter Try.func33, Try.ntmps33
    go_wp2_with fail
    go_ret
    exact ⟨by rw [HD.out]; rfl, rfl⟩
end Go.Proofs.Ytabonhiolcjnnaa
