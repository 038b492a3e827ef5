/-
  The second statement of layer 1: its walk.
-/
import Derived.Test.YtfcaaahjoiddhaaLaw01
import Derived.Deep.RegionWith
namespace Go.Proofs.Ytfcaaahjoiddhaa
open Go.RowKit

theorem less_end (u v : Value) (xs ys : List Int) (w : World) (hu : Sl .u8 w u xs) (hv : Sl .u8 w v ys) (h0 : xs = [] ∨ ys = []) :
    Calls Try.prog 12 #[u, v] w fun e w' => e = .returned (.bool (lessL xs ys)) ∧ ∃ n, w' = w.drewN n := by
  have e : lessL xs ys = false := by
    rcases h0 with rfl | rfl
    · simp [lessL]
    · cases xs <;> simp [lessL]
  rw [e]
  rcases hu.parts with ⟨rfl, a, cap, rfl⟩ | ⟨hp, b, off, cap, rfl, _⟩
  · obtain ⟨a2, cap2, rfl, _⟩ := hv
    clear h0 e hu
    go_enter Try.func12, Try.ntmps12
    go_wp2
    refine wp_loop_rounds 1 ?_
    rw [rounds_succ]
    go_wp2
    go_ret
    exact ⟨rfl, 0, rfl⟩
  · obtain rfl : ys = [] := by rcases h0 with rfl | rfl; (simp at hp); rfl
    rcases hv.parts with ⟨_, a2, cap2, rfl⟩ | ⟨h, _⟩
    · clear h0 e hu hv
      go_enter Try.func12, Try.ntmps12
      go_wp2
      refine wp_loop_rounds 1 ?_
      rw [rounds_succ]
      go_wp2
      go_ret
      exact ⟨rfl, 0, rfl⟩
    · simp at h

theorem less_any (u v : Value) (xs ys : List Int) (w : World) (hu : Sl .u8 w u xs) (hv : Sl .u8 w v ys) :
    Calls Try.prog 12 #[u, v] w fun e w' => e = .returned (.bool (lessL xs ys)) ∧ ∃ n, w' = w.drewN n := by
  have hmx := hu.len
  have hmy := hv.len
  unfold maxLen at hmx hmy
  rcases hu.parts with ⟨h0, _⟩ | ⟨hp, b, off, cap, rfl, hlc, hcm, hb, hc⟩
  · exact less_end u v xs ys w hu hv (.inl h0)
  rcases hv.parts with ⟨h0, _⟩ | ⟨hp2, b2, off2, cap2, rfl, hlc2, hcm2, hb2, hc2⟩
  · exact less_end _ v xs ys w hu hv (.inr h0)
  clear hu hv
  go_enter Try.func12, Try.ntmps12
  go_wp2
  go_loopw [5] (fun i wr => ∃ k n : Nat, k ≤ xs.length ∧ k ≤ ys.length ∧ i = .int .i64 k ∧ Hid (xs.take k = ys.take k) ∧ wr = w.drewN n) (fun i _ => xs.length - (intOf i).toNat)
  case atStart => exact ⟨0, 0, Nat.zero_le _, Nat.zero_le _, rfl, rfl, rfl⟩
  case round =>
    obtain ⟨k, n, hk, hk2, rfl, HT, rfl⟩ := hrel
    by_cases hlt : k < xs.length
    · have d1 : decide ((k : Int) < (xs.length : Int)) = true := decide_eq_true (by omega)
      by_cases hlt2 : k < ys.length
      · have d2 : decide ((k : Int) < (ys.length : Int)) = true := decide_eq_true (by omega)
        have hcx := hc k hlt
        have hcy := hc2 k hlt2
        clear hc hc2
        by_cases hz : at0 xs k = at0 ys k
        · have hb : (at0 xs k != at0 ys k) = false := by simp [hz]
          have HZ := Lib.hid hz
          clear hz
          go_wp2
          go_quiet (fail)
          go_wp2
          go_roundw
          case rel => exact ⟨k + 1, _, by omega, by omega, by go_num, (by show _ = _; rw [take_at0 xs k hlt, take_at0 ys k hlt2, HT.out, HZ.out]), rfl⟩
          case measure => simp [intOf]; omega
        · have hb : (at0 xs k != at0 ys k) = true := by simp [hz]
          have HD := Lib.hid (lessL_at k xs ys HT.out hlt hlt2 hz)
          clear hz
          go_wp2
          go_quiet (fail)
          go_wp2
          go_quiet (fail)
          go_wp2
          go_ret
          exact ⟨by rw [HD.out]; rfl, drawn3 ..⟩
      · have d2 : decide ((k : Int) < (ys.length : Int)) = false := decide_eq_false (by omega)
        have HD := Lib.hid (lessL_end xs ys (by rw [show min xs.length ys.length = k by omega]; exact HT.out))
        go_wp2
        go_ret
        exact ⟨by rw [HD.out]; rfl, _, rfl⟩
    · have d1 : decide ((k : Int) < (xs.length : Int)) = false := decide_eq_false (by omega)
      have HD := Lib.hid (lessL_end xs ys (by rw [show min xs.length ys.length = k by omega]; exact HT.out))
      go_wp2
      go_ret
      exact ⟨by rw [HD.out]; rfl, _, rfl⟩

end Go.Proofs.Ytfcaaahjoiddhaa
