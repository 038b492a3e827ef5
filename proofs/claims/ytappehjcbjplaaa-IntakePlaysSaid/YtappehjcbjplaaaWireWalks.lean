
/-
  What the calls of package wire do, a contract each.
-/
import Derived.Test.YtappehjcbjplaaaProg
import Derived.Test.YtappehjcbjplaaaWireMath
import Derived.Deep.QuietTactic
import Derived.BigQuiet
import Derived.Outline
namespace Go.Proofs.Ytappehjcbjplaaa
open Go.RowKit

theorem number_any (v : Value) (zs : List Int) (w : World) (h : Sl .u8 w v zs) (hl : zs.length ≤ 4) :
    Calls Try.prog 33 #[v] w fun e w' => e = .returned (.int .i64 (num zs)) ∧ w = w' := by
  rcases h.parts with ⟨rfl, a, cap, rfl⟩ | ⟨hp, b, off, cap, rfl, hlc, hcm, hb, hc⟩
  · go_enter Try.func33, Try.ntmps33
    go_wp2
    refine wp_loop_rounds 1 ?_
    rw [rounds_succ]
    go_wp2
    go_ret
    exact ⟨rfl, rfl⟩
  · have hf := h.fit
    clear h
    go_enter Try.func33, Try.ntmps33
    go_wp2
    go_loop [3, 4, 7] (fun t u i => ∃ k : Nat, k ≤ zs.length ∧ i = .int .i64 k ∧ t = .int .i64 (num (zs.take k))) (fun _ _ i => zs.length - (intOf i).toNat)
    case atStart => exact ⟨0, Nat.zero_le _, rfl, rfl⟩
    case round =>
      obtain ⟨k, hk, rfl, rfl⟩ := hrel
      by_cases hlt : k < zs.length
      · have hcell := hc k hlt
        have hbyte := hf.byte k
        have hn := num_small zs k hf hlt hl
        have HT := Lib.hid (num_take zs k hlt)
        have HO := Lib.hid (or_byte (num (zs.take k)) (at0 zs k) hn.1 (by omega) hbyte.1 hbyte.2)
        go_wp2
        go_round
        case rel => exact ⟨k + 1, by omega, by go_num, by rw [HT.out, HO.out]⟩
        case measure => simp [intOf]; omega
      · obtain rfl : k = zs.length := by omega
        go_wp2
        go_ret
        exact ⟨rfl, rfl⟩

theorem isSize_yes (n : Int) (w : World) (h1 : 1 ≤ n) (h4 : n ≤ 4) : Calls Try.prog 32 #[.int .i64 n] w fun e w' => e = .returned (.bool true) ∧ w = w' := by
  have d1 : decide (1 ≤ n) = true := decide_eq_true h1
  have d2 : decide (n ≤ 4) = true := decide_eq_true h4
  go_enter Try.func32, Try.ntmps32
  go_wp2
  go_ret
  exact ⟨rfl, rfl⟩
theorem isSize_no (n : Int) (w : World) (h : n < 1 ∨ 4 < n) : Calls Try.prog 32 #[.int .i64 n] w fun e w' => e = .returned (.bool false) ∧ w = w' := by
  rcases h with h | h
  · have d1 : decide (1 ≤ n) = false := decide_eq_false (by omega)
    go_enter Try.func32, Try.ntmps32
    go_wp2
    go_ret
    exact ⟨rfl, rfl⟩
  · have d1 : decide (1 ≤ n) = true := decide_eq_true (by omega)
    have d2 : decide (n ≤ 4) = false := decide_eq_false (by omega)
    go_enter Try.func32, Try.ntmps32
    go_wp2
    go_ret
    exact ⟨rfl, rfl⟩

theorem get_yes (v : Value) (zs : List Int) (w : World) (h : Sl .u8 w v zs) (h1 : 1 ≤ zs.length) (h4 : zs.length ≤ 4) :
    Calls Try.prog 31 #[v] w fun e w' => e = .returned (.tuple #[.int .i64 (num zs), .int .i64 0]) ∧ w = w' := by
  have h' := h
  obtain ⟨a, cap, rfl, _⟩ := h'
  go_enter Try.func31, Try.ntmps31
  go_wp2_with (first
    | (go_at_call 33; refine (number_any _ zs _ h h4).mono ?_; rintro e w' ⟨rfl, rfl⟩)
    | (go_at_call 32; refine (isSize_yes _ _ (by omega) (by omega)).mono ?_; rintro e w' ⟨rfl, rfl⟩))
  go_ret2
  exact ⟨rfl, rfl⟩

theorem get_no (v : Value) (zs : List Int) (w : World) (h : Sl .u8 w v zs) (h1 : zs.length < 1 ∨ 4 < zs.length) :
    Calls Try.prog 31 #[v] w fun e w' => e = .returned (.tuple #[.int .i64 0, .int .i64 1]) ∧ w = w' := by
  obtain ⟨a, cap, rfl, _⟩ := h
  go_enter Try.func31, Try.ntmps31
  go_wp2_with (go_at_call 32; refine (isSize_no _ _ (by omega)).mono ?_; rintro e w' ⟨rfl, rfl⟩)
  go_ret2
  exact ⟨rfl, rfl⟩

theorem Try.info5 : (Try.prog.info? 5).map (fun i => (i.zero, i.size, i.bytes)) = some (some (.int .u8 0), 1, 1) := by kernel_rfl

end Go.Proofs.Ytappehjcbjplaaa
