
/-
  What the document's own answer Same of layer 1 does: whether two rows of bytes are the same.
-/
import Derived.Test.YtiappeagdnkedaaProg
import Derived.Test.YtiappeagdnkedaaKit
import Derived.Deep.QuietTactic
import Derived.BigQuiet
import Derived.Outline
namespace Go.Proofs.Ytiappeagdnkedaa
open Go.RowKit

theorem Try.info5' : (Try.prog.info? 5).map (fun i => (i.zero, i.size, i.bytes)) = some (some (.int .u8 0), 1, 1) := by kernel_rfl

theorem Try.slice22 : Try.prog.underlying 32 = some (.slice (Try.prog.elem 32)) := by kernel_rfl
theorem Try.size22 (w : World) : (sizeOf (Try.prog.elem 32)).run Try.prog w = .ok 1 w := by kernel_rfl

theorem same_any (u v : Value) (xs ys : List Int) (w : World) (hu : Sl .u8 w u xs) (hv : Sl .u8 w v ys) :
    Calls Try.prog 22 #[u, v] w fun e w' => e = .returned (.bool (decide (xs = ys))) ∧ ∃ n, w' = w.drewN n := by
  have hmx := hu.len
  have hmy := hv.len
  unfold maxLen at hmx hmy
  by_cases hl : xs.length = ys.length
  · rcases hu.parts with ⟨rfl, a, cap, rfl⟩ | ⟨hp, b, off, cap, rfl, hlc, hcm, hb, hc⟩
    · obtain rfl : ys = [] := List.eq_nil_of_length_eq_zero (by simpa using hl.symm)
      obtain ⟨a2, cap2, rfl, _⟩ := hv
      clear hl hu
      go_enter Try.func22, Try.ntmps22
      go_wp2
      refine wp_loop_rounds 1 ?_
      rw [rounds_succ]
      go_wp2
      go_ret
      exact ⟨rfl, 0, rfl⟩
    · rcases hv.parts with ⟨rfl, _⟩ | ⟨hp2, b2, off2, cap2, rfl, hlc2, hcm2, hb2, hc2⟩
      · exact absurd hl (by rw [List.length_nil]; omega)
      · have hle : xs.length ≤ ys.length := by omega
        have hge : ys.length ≤ xs.length := by omega
        have hn : ((xs.length : Int) != (ys.length : Int)) = false := by simp; omega
        clear hl hu hv
        go_enter Try.func22, Try.ntmps22
        go_wp2
        clear hn
        go_loopw [5] (fun i wr => ∃ k n : Nat, k ≤ xs.length ∧ i = .int .i64 k ∧ Hid (xs.take k = ys.take k) ∧ wr = w.drewN n) (fun i _ => xs.length - (intOf i).toNat)
        case atStart => exact ⟨0, 0, Nat.zero_le _, rfl, rfl, rfl⟩
        case round =>
          obtain ⟨k, n, hk, rfl, HT, rfl⟩ := hrel
          by_cases hlt : k < xs.length
          · have hcx := hc k hlt
            have hcy := hc2 k (by omega)
            clear hc hc2
            by_cases hz : at0 xs k = at0 ys k
            · have hb : (at0 xs k != at0 ys k) = false := by simp [hz]
              have HZ := Lib.hid hz
              clear hz
              go_wp2
              go_quiet (fail)
              go_wp2
              go_roundw
              case rel => exact ⟨k + 1, _, by omega, by go_num, (by show _ = _; rw [take_at0 xs k hlt, take_at0 ys k (by omega), HT.out, HZ.out]), rfl⟩
              case measure => simp [intOf]; omega
            · have hb : (at0 xs k != at0 ys k) = true := by simp [hz]
              have hne : xs ≠ ys := fun e => hz (by rw [e])
              have HD := Lib.hid (decide_eq_false hne)
              clear hz hne
              go_wp2
              go_quiet (fail)
              go_wp2
              go_ret
              exact ⟨by rw [HD.out]; rfl, _, by first | rfl | exact World.drewN_drewN ..⟩
          · obtain rfl : k = xs.length := by omega
            have he : xs = ys := by
              have := HT.out
              rwa [List.take_length, List.take_of_length_le (by omega)] at this
            have HD := Lib.hid (decide_eq_true he)
            clear he
            go_wp2
            go_ret
            exact ⟨by rw [HD.out]; rfl, _, by first | rfl | exact World.drewN_drewN ..⟩
  · have hn : ((xs.length : Int) != (ys.length : Int)) = true := by simp; omega
    have hne : xs ≠ ys := fun e => hl (by rw [e])
    have HD := Lib.hid (decide_eq_false hne)
    clear hne hl
    obtain ⟨a, cap, rfl, _⟩ := hu
    obtain ⟨a2, cap2, rfl, _⟩ := hv
    go_enter Try.func22, Try.ntmps22
    go_wp2
    go_ret
    exact ⟨by rw [HD.out]; rfl, 0, rfl⟩

end Go.Proofs.Ytiappeagdnkedaa
