
/-
  Layer 12's statements: small.
-/
import Derived.Test.YtmmcpmkkgembbaaSetRef
import Derived.Test.YtmmcpmkkgembbaaOwn
namespace Go.Proofs.Ytmmcpmkkgembbaa
set_option maxRecDepth 20000
open Go.RowKit

/-- six numbers -/
def setV (t p s w f l : Int) : Value := .agg #[.int .i64 t, .int .i64 p, .int .i64 s, .int .i64 w, .int .i64 f, .int .i64 l]
def setC (t p s w f l : Int) : Array Value := #[.int .i64 t, .int .i64 p, .int .i64 s, .int .i64 w, .int .i64 f, .int .i64 l]
def inB (x : Int) : Bool := !decide (x < -4294967296) && !decide (4294967296 < x)
def smallP (win : Int) (ps : List Pr) : Bool := (decide (ps.length ≤ 50) && inB win) && ps.all fun p => inB p.2
set_option maxHeartbeats 2000000 in
theorem small12_any (t p s u f l : Int) (v : Value) (ps : List Pr) (w : World) (h : SlP w v ps) :
    Calls Try.prog 4 #[setV t p s u f l, v] w fun e w' => e = .returned (.bool (smallP u ps)) ∧ Below w.heap.size w w' := by
  unfold setV
  obtain ⟨a, c, rfl, hc1, hc2⟩ := h.shape
  unfold maxLen at hc2
  obtain ⟨N, hN⟩ : ∃ N, N = ps.length := ⟨_, rfl⟩
  rw [← hN] at h hc1 ⊢
  have HN := Lib.hid hN
  clear hN
  have hal := (Below.refl w.heap.size w).alloc (Nat.le_refl _) (.cells (setC t p s u f l) 23)
  have HB := Lib.hid hal
  have hS := h.below hal
  have c3 : (w.alloc (.cells (setC t p s u f l) 23)).cell? ⟨w.heap.size, 3, none⟩ = some (.int .i64 u) := blk_cell (heap_alloc_new w _) rfl
  have hsz : w.heap.size < (w.alloc (.cells (setC t p s u f l) 23)).heap.size := by simp
  unfold setC at c3 hsz
  have HS := Lib.hid hS
  clear hal hS h
  by_cases hg : N ≤ 50
  rotate_left
  · have d1 : decide ((50 : Int) < (N : Int)) = true := decide_eq_true (by omega)
    have HF := Lib.hid (show smallP u ps = false by unfold smallP; rw [← HN.out, decide_eq_false (by omega)]; rfl)
    go_enter Try.func4, Try.ntmps4
    go_wp2_with fail
    go_ret
    exact ⟨by rw [HF.out]; rfl, HB.out⟩
  have d1 : decide ((50 : Int) < (N : Int)) = false := decide_eq_false (by omega)
  obtain ⟨b1, e1⟩ : ∃ q, decide (u < -4294967296) = q := ⟨_, rfl⟩
  obtain ⟨b2, e2⟩ : ∃ q, decide (4294967296 < u) = q := ⟨_, rfl⟩
  have HQ := Lib.hid (show smallP u ps = ((!b1 && !b2) && ps.all fun p => inB p.2) by
    unfold smallP
    rw [← HN.out, decide_eq_true (by omega), show inB u = (!b1 && !b2) by unfold inB; rw [e1, e2], Bool.true_and])
  clear hg
  cases b1
  rotate_left
  · go_enter Try.func4, Try.ntmps4
    go_wp2_with fail
    go_ret
    exact ⟨by rw [HQ.out]; rfl, HB.out⟩
  cases b2
  rotate_left
  · go_enter Try.func4, Try.ntmps4
    go_wp2_with fail
    go_ret
    exact ⟨by rw [HQ.out]; rfl, HB.out⟩
  go_enter Try.func4, Try.ntmps4
  go_wp2_with fail
  go_loopg [5] N (fun q s5 wr => ∃ k : Nat, k + q = N ∧ s5 = .int .i64 k ∧ Hid ((ps.take k).all (fun p => inB p.2) = true) ∧ Hid (SlP wr (.slice a N c) ps ∧ Below w.heap.size w wr))
  case atStart => exact ⟨0, by omega, rfl, Lib.hid rfl, Lib.hid ⟨HS.out, HB.out⟩⟩
  case round =>
    obtain ⟨k, hkq, rfl, HL, HW⟩ := hrel
    have HKQ := Lib.hid hkq
    have hk : k ≤ N := by omega
    clear hkq
    by_cases hlt : k < N
    · obtain ⟨p, hp⟩ := pr_at (ps := ps) (k := k) (by rw [← HN.out]; exact hlt)
      obtain ⟨b, off, rfl, hbl, hcell⟩ := HW.out.1.at_ (i := k) (by rw [← HN.out]; exact hlt)
      obtain ⟨x0, x1⟩ := hcell p hp
      obtain ⟨g1, q1⟩ : ∃ q, decide (p.2 < -4294967296) = q := ⟨_, rfl⟩
      obtain ⟨g2, q2⟩ : ∃ q, decide (4294967296 < p.2) = q := ⟨_, rfl⟩
      have ho : inB p.2 = (!g1 && !g2) := by unfold inB; rw [q1, q2]
      have HY : Hid (inB p.2 = true → (ps.take (k + 1)).all (fun p => inB p.2) = true) := fun q => by rw [pr_take hp, List.all_append, HL.out]; simp [q]
      have HX : Hid (inB p.2 = false → smallP u ps = false) := fun q => by
        rw [HQ.out, show (ps.all fun p => inB p.2) = false by
          rw [Bool.eq_false_iff]; intro hal
          have := List.all_eq_true.1 hal p (List.mem_of_getElem? hp)
          rw [q] at this; cases this]
        rfl
      rw [ho] at HY HX
      clear hcell hp ho
      cases g1
      · cases g2
        · go_wp2_with fail
          go_roundg (N - (k + 1))
          case measure => have := HKQ.out; omega
          case rel => exact ⟨k + 1, by omega, by go_num, HY.out (by trivial), HW⟩
        · go_wp2_with fail
          go_ret
          exact ⟨by rw [HX.out (by trivial)]; rfl, HW.out.2⟩
      · go_wp2_with fail
        go_ret
        exact ⟨by rw [HX.out (by trivial)]; rfl, HW.out.2⟩
    · obtain rfl : k = N := by omega
      have HE := Lib.hid (show smallP u ps = true by
        have h := HL.out
        rw [List.take_of_length_le (by rw [HN.out]; exact Nat.le_refl _)] at h
        rw [HQ.out, h]; rfl)
      clear hlt hk
      go_wp2_with fail
      go_ret
      exact ⟨by rw [HE.out]; rfl, HW.out.2⟩
end Go.Proofs.Ytmmcpmkkgembbaa
