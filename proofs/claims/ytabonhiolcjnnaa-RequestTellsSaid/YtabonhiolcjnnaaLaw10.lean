
/-
  Layer 10's statement: Fits, get, the walk (ahead of the live question: alive10 is a premise here).
-/
import Derived.Test.YtabonhiolcjnnaaReqProg
import Derived.Test.YtabonhiolcjnnaaQuiet
namespace Go.Proofs.Ytabonhiolcjnnaa
set_option maxRecDepth 20000
open Go.RowKit

def fitOne (f : Fd) : Bool := decide (f.1.size ≤ 300) && decide (f.2.size ≤ 300)
def fitB (fs : List Fd) : Bool := decide (fs.length ≤ 20) && fs.all fitOne
theorem fitB_mild {fs : List Fd} (h : fitB fs = true) : Mild fs ∧ fs.length ≤ 20 := by
  unfold fitB at h
  rw [Bool.and_eq_true, decide_eq_true_iff] at h
  refine ⟨fun f hf => ?_, h.1⟩
  have := List.all_eq_true.1 h.2 f hf
  unfold fitOne at this
  rw [Bool.and_eq_true, decide_eq_true_iff, decide_eq_true_iff] at this
  omega
set_option maxHeartbeats 2000000 in
theorem fits10_any (v : Value) (fs : List Fd) (w : World) (h : SlD w v fs) :
    Calls Try.prog 4 #[v] w fun e w' => e = .returned (.bool (fitB fs)) ∧ w' = w := by
  obtain ⟨a, c, rfl, hc1, hc2⟩ := h.shape
  unfold maxLen at hc2
  obtain ⟨N, hN⟩ : ∃ N, N = fs.length := ⟨_, rfl⟩
  rw [← hN] at h hc1 ⊢
  have HN := Lib.hid hN
  clear hN
  by_cases hl : 20 < N
  · have HF := Lib.hid (show fitB fs = false by unfold fitB; rw [← HN.out, decide_eq_false (by omega)]; rfl)
    have hl' : ∃ n : Int, n = (N : Int) := ⟨_, rfl⟩
    have d1 : decide ((20 : Int) < (N : Int)) = true := decide_eq_true (by omega)
    go_enter Try.func4, Try.ntmps4
    go_wp2_with fail
    go_ret
    exact ⟨by rw [HF.out]; rfl, rfl⟩
  · have HF := Lib.hid (show fitB fs = fs.all fitOne by unfold fitB; rw [← HN.out, decide_eq_true (by omega)]; rfl)
    have d1 : decide ((20 : Int) < (N : Int)) = false := decide_eq_false (by omega)
    go_enter Try.func4, Try.ntmps4
    go_wp2_with fail
    go_loopg [3] N (fun q s3 wr => ∃ k : Nat, k + q = N ∧ s3 = .int .i64 k ∧ Hid ((fs.take k).all fitOne = true) ∧ wr = w)
    case atStart => exact ⟨0, by omega, rfl, Lib.hid rfl, rfl⟩
    case round =>
      obtain ⟨k, hkq, rfl, HL, rfl⟩ := hrel
      have HKQ := Lib.hid hkq
      have hk : k ≤ N := by omega
      clear hkq
      by_cases hlt : k < N
      · obtain ⟨f, hf⟩ := fld_at (fs := fs) (k := k) (by rw [← HN.out]; exact hlt)
        obtain ⟨b, off, rfl, hbl, hcell⟩ := h.at_ (i := k) (by rw [← HN.out]; exact hlt)
        obtain ⟨c0, c1⟩ := hcell f hf
        obtain ⟨x, hx⟩ : ∃ x : Int, x = (f.1.size : Int) := ⟨_, rfl⟩
        obtain ⟨y, hy⟩ : ∃ y : Int, y = (f.2.size : Int) := ⟨_, rfl⟩
        have hl1 : ∀ W, (Builtin.len_ #[9] 3 #[.string f.1]).run Try.prog W = .ok (.int .i64 x) W := fun W => by
          rw [run_len_string W _ _ f.1 Try.underlying9, hx]; rfl
        have hl2 : ∀ W, (Builtin.len_ #[9] 3 #[.string f.2]).run Try.prog W = .ok (.int .i64 y) W := fun W => by
          rw [run_len_string W _ _ f.2 Try.underlying9, hy]; rfl
        obtain ⟨b1, e1⟩ : ∃ q, decide (300 < x) = q := ⟨_, rfl⟩
        obtain ⟨b2, e2⟩ : ∃ q, decide (300 < y) = q := ⟨_, rfl⟩
        have ho : fitOne f = (!b1 && !b2) := by
          unfold fitOne
          rw [← e1, ← e2, ← decide_not, ← decide_not]
          congr 1 <;> rw [decide_eq_decide] <;> omega
        have HY : Hid (fitOne f = true → (fs.take (k + 1)).all fitOne = true) := fun q => by rw [take_at hf, List.all_append, HL.out]; simp [q]
        have HX : Hid (fitOne f = false → fitB fs = false) := fun q => by
          rw [HF.out, Bool.eq_false_iff]; intro hal
          have := List.all_eq_true.1 hal f (List.mem_of_getElem? hf)
          rw [q] at this; cases this
        rw [ho] at HY HX
        clear hcell hf hx hy ho
        cases b1
        · cases b2
          · go_wp2_with fail
            go_roundg (N - (k + 1))
            case measure => have := HKQ.out; omega
            case rel => exact ⟨k + 1, by omega, by go_num, HY.out (by trivial), rfl⟩
          · go_wp2_with fail
            go_ret
            exact ⟨by rw [HX.out (by trivial)]; rfl, rfl⟩
        · go_wp2_with fail
          go_ret
          exact ⟨by rw [HX.out (by trivial)]; rfl, rfl⟩
      · obtain rfl : k = N := by omega
        have HE := Lib.hid (show fitB fs = true by have := HL.out; rw [List.take_of_length_le (by rw [HN.out]; exact Nat.le_refl _)] at this; rw [HF.out]; exact this)
        clear hlt hk
        go_wp2_with fail
        go_ret
        exact ⟨by rw [HE.out]; rfl, rfl⟩
end Go.Proofs.Ytabonhiolcjnnaa
