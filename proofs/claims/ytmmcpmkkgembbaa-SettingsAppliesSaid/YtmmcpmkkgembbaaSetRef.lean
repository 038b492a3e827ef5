
/-
  Layer 12's reference: last; the law's small.
-/
import Derived.Test.YtmmcpmkkgembbaaProg
import Derived.Test.YtmmcpmkkgembbaaPairKit
import Derived.Deep.LoopGhost
import Derived.Deep.QuietTactic
namespace Go.Proofs.Ytmmcpmkkgembbaa
set_option maxRecDepth 20000
open Go.RowKit

set_option maxHeartbeats 1000000 in
theorem refLast_any (v : Value) (ps : List Pr) (id was : Int) (w : World) (h : SlP w v ps) :
    Calls Try.prog 18 #[v, .int .i64 id, .int .i64 was] w fun e w' => e = .returned (.int .i64 (lastP id was ps)) ∧ w' = w := by
  obtain ⟨a, c, rfl, hc1, hc2⟩ := h.shape
  unfold maxLen at hc2
  obtain ⟨N, hN⟩ : ∃ N, N = ps.length := ⟨_, rfl⟩
  rw [← hN] at h hc1 ⊢
  have HN := Lib.hid hN
  clear hN
  go_enter Try.func18, Try.ntmps18
  go_wp2_with fail
  go_loopg [7, 8] N (fun q s7 s8 wr => ∃ k : Nat, k + q = N ∧ s8 = .int .i64 k ∧ (∃ z : Int, s7 = .int .i64 z ∧ Hid (z = lastP id was (ps.take k))) ∧ wr = w)
  case atStart => exact ⟨0, by omega, rfl, ⟨was, rfl, Lib.hid rfl⟩, rfl⟩
  case round =>
    obtain ⟨k, hkq, rfl, ⟨z, rfl, HL⟩, rfl⟩ := hrel
    have HKQ := Lib.hid hkq
    have hk : k ≤ N := by omega
    clear hkq
    by_cases hlt : k < N
    · obtain ⟨p, hp⟩ := pr_at (ps := ps) (k := k) (by rw [← HN.out]; exact hlt)
      obtain ⟨b, off, rfl, hbl, hcell⟩ := h.at_ (i := k) (by rw [← HN.out]; exact hlt)
      obtain ⟨c0, c1⟩ := hcell p hp
      have hl : lastP id was (ps.take (k + 1)) = bif p.1 == id then p.2 else z := by rw [pr_take hp, lastP_append, HL.out]
      obtain ⟨e1, he1⟩ : ∃ e1, (p.1 == id) = e1 := ⟨_, rfl⟩
      rw [he1] at hl
      have HE := Lib.hid hl
      clear hcell hp hl
      cases e1
      · go_wp2_with fail
        go_roundg (N - (k + 1))
        case measure => have := HKQ.out; omega
        case rel => exact ⟨k + 1, by omega, by go_num, ⟨z, rfl, HE.out.symm⟩, rfl⟩
      · go_wp2_with fail
        go_roundg (N - (k + 1))
        case measure => have := HKQ.out; omega
        case rel => exact ⟨k + 1, by omega, by go_num, ⟨p.2, rfl, HE.out.symm⟩, rfl⟩
    · obtain rfl : k = N := by omega
      have HE := Lib.hid (show z = lastP id was ps by rw [HL.out, List.take_of_length_le (by rw [HN.out]; exact Nat.le_refl _)])
      clear hlt hk
      go_wp2_with fail
      go_ret
      exact ⟨by rw [← HE.out]; rfl, rfl⟩
end Go.Proofs.Ytmmcpmkkgembbaa
