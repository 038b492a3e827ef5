
/-
  Layer 11: the law PayloadPadded, of frames that are not gone through (the others: XLaw11p, XLaw11q).
-/
import Derived.Test.YtohghphegcnfkaaPayProg
import Derived.Test.YtohghphegcnfkaaLaw11o
import Derived.Test.YtohghphegcnfkaaZeros
import Derived.BigQuiet
namespace Go.Proofs.Ytohghphegcnfkaa
set_option maxRecDepth 20000
open Go.RowKit

set_option maxHeartbeats 8000000 in
/-- a frame that is not gone through -/
theorem padded11_no (v : Value) (f : Fr) (n : Nat) (w : World) (h : FrV w v f) (hok : ¬ (f.pay.length ≤ 500 ∧ (f.kind = 0 ∨ f.kind = 1) ∧ 0 ≤ f.flags ∧ f.flags ≤ 255)) :
    Calls Try.prog 3 #[v, .int .u8 (n : Int)] w fun e w' => e = .returned (.bool true) ∧ Below w.heap.size w w' := by
  obtain ⟨pv, rfl, hp⟩ := h
  obtain ⟨kind, flags, stream, pay⟩ := f
  simp only at hp hok ⊢
  have hpl := hp.len
  unfold maxLen at hpl
  obtain ⟨ap, cp, rfl, hcp, _⟩ := id hp
  obtain ⟨N, hN⟩ : ∃ N, N = pay.length := ⟨_, rfl⟩
  rw [← hN] at hp hpl hcp hok ⊢
  have hal := (Below.refl w.heap.size w).alloc (Nat.le_refl _) (.cells #[.int .i64 kind, .int .i64 flags, .int .i64 stream, .slice ap N cp] 25)
  have HB := Lib.hid hal
  have hbx := Bx.new w 25 ⟨kind, flags, stream, pay⟩ (.slice ap N cp)
  have c0 := hbx.c0
  have c1 := hbx.c1
  have c3 := hbx.c3
  have hsz := hbx.lt
  simp only at c0 c1 c3 hsz
  clear hal hp hbx hN
  · have hne : ∀ x y : Int, (x != y) = !decide (x = y) := fun x y => by rw [Bool.eq_iff_iff]; simp
    have e0 := hne kind 0
    have e1 := hne kind 1
    obtain ⟨b1, q1⟩ : ∃ b, decide ((500 : Int) < (N : Int)) = b := ⟨_, rfl⟩
    obtain ⟨b2, q2⟩ : ∃ b, (kind != 0) = b := ⟨_, rfl⟩
    obtain ⟨b3, q3⟩ : ∃ b, (kind != 1) = b := ⟨_, rfl⟩
    obtain ⟨b4, q4⟩ : ∃ b, decide (flags < 0) = b := ⟨_, rfl⟩
    obtain ⟨b5, q5⟩ : ∃ b, decide (255 < flags) = b := ⟨_, rfl⟩
    have HQ : Hid (b1 = true ∨ (b2 = true ∧ b3 = true) ∨ b4 = true ∨ b5 = true) := Lib.hid (by
      rw [← q1, ← q2, ← q3, ← q4, ← q5]
      simp only [decide_eq_true_iff, bne_iff_ne, ne_eq]
      omega)
    clear hok hne e0 e1
    cases b1 <;> cases b2 <;> cases b3 <;> cases b4 <;> cases b5
    all_goals first
      | (exfalso; have := HQ.out; simp at this; done)
      | (go_enter Try.func3, Try.ntmps3
         go_wp2_with fail
         refine (alive11 _).mono ?_
         rintro e w1 ⟨rfl, hb⟩
         have HB1 := Lib.hid (HB.out.trans (hb.mono HB.out.size))
         clear hb
         go_wp2_with fail
         go_ret
         exact ⟨rfl, HB1.out⟩)
end Go.Proofs.Ytohghphegcnfkaa
