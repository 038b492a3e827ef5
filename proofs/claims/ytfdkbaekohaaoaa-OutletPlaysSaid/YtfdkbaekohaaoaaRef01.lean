
/-
  What the document's own answers of layer 1 do, a contract each.
-/
import Derived.Test.YtfdkbaekohaaoaaProg
import Derived.Test.YtfdkbaekohaaoaaWireMath
import Derived.Test.YtfdkbaekohaaoaaSame
import Derived.Deep.QuietTactic
import Derived.BigQuiet
import Derived.Outline
namespace Go.Proofs.Ytfdkbaekohaaoaa
open Go.RowKit

theorem power_any (s : Int) (w : World) (h0 : 0 ≤ s) (h4 : s ≤ 4) :
    Calls Try.prog 31 #[.int .i64 s] w fun e w' => e = .returned (.int .i64 (256 ^ s.toNat)) ∧ w = w' := by
  obtain ⟨S, rfl⟩ := Int.eq_ofNat_of_zero_le h0
  go_enter Try.func31, Try.ntmps31
  go_wp2
  go_loop [3, 4] (fun n i => ∃ k : Nat, k ≤ S ∧ i = .int .i64 k ∧ n = .int .i64 (256 ^ k)) (fun _ i => S - (intOf i).toNat)
  case atStart => exact ⟨0, Nat.zero_le _, rfl, rfl⟩
  case round =>
    obtain ⟨k, hk, rfl, rfl⟩ := hrel
    by_cases hlt : k < S
    · obtain ⟨p, hp⟩ : ∃ p : Int, p = 256 ^ k := ⟨_, rfl⟩
      have hb : 1 ≤ p ∧ p ≤ 16777216 := by
        rw [hp]
        rcases (show k = 0 ∨ k = 1 ∨ k = 2 ∨ k = 3 by omega) with rfl | rfl | rfl | rfl <;> decide
      have HP := Lib.hid hp
      rw [← hp]
      clear hp
      go_wp2
      go_round
      case rel => exact ⟨k + 1, by omega, by go_num, by rw [Int.pow_succ, ← HP.out]; go_num⟩
      case measure => simp [intOf]; omega
    · obtain rfl : k = S := by omega
      go_wp2
      go_ret
      exact ⟨rfl, rfl⟩

theorem refPut_own (n s : Int) (w : World) (h1 : 1 ≤ s) (h4 : s ≤ 4) (h0 : 0 ≤ n) (hn : n < 256 ^ s.toNat) :
    Calls Try.prog 27 #[.int .i64 n, .int .i64 s] w fun e w' => ∃ v, e = .returned (.tuple #[v, .int .i64 0]) ∧ w'.ownsRow w.heap.size 5 1 v (putL n s.toNat).length ((putL n s.toNat).map (Value.int .u8)) ∧ Below w.heap.size w w' := by
  obtain ⟨S, rfl⟩ := Int.eq_ofNat_of_zero_le (by omega : 0 ≤ s)
  obtain ⟨i0, hi, hz0, hz1, hz2⟩ := info_parts Try.info5'
  obtain ⟨p, hp⟩ : ∃ p : Int, p = 256 ^ (S : Int).toNat := ⟨_, rfl⟩
  rw [← hp] at hn
  have HP := Lib.hid hp
  clear hp
  have d1 : decide ((S : Int) < 1) = false := decide_eq_false (by omega)
  have d2 : decide ((4 : Int) < (S : Int)) = false := decide_eq_false (by omega)
  have d3 : decide (n < 0) = false := decide_eq_false (by omega)
  have d4 : decide (p ≤ n) = false := decide_eq_false (by omega)
  go_enter Try.func27, Try.ntmps27
  go_wp2_with (first
    | (go_at_call 31; refine (power_any _ _ (by omega) (by omega)).mono ?_; rintro e w' ⟨rfl, rfl⟩; rw [← HP.out])
    | (at_make; refine wpList_make_full _ rfl _ _ 27 rfl w.heap.size 5 i0 (.int .u8 0) 1 Try.underlying27 hi hz0 hz1 .i64 .i64 _ _ S rfl rfl rfl rfl (by rw [hz2]; omega) (by unfold maxLen; omega) (Nat.le_refl _) ?_; intro w1 hown hgrow))
  have hbel : Below w.heap.size w w1 := (Below.refl _ _).grown hgrow (Nat.le_refl _) (fun k h => by simp at h)
  have hown0 : w1.ownsRow w.heap.size 5 1 (.slice (some ⟨w.heap.size, 0, none⟩) S S) S ((rowP n S 0).map (Value.int .u8)) := by
    rw [rowP_zero]; exact made_zeros hown
  clear hown hgrow d1 d2 d3 d4
  go_loopw [7, 8] (fun l i wr => ∃ k : Nat, k ≤ S ∧ i = .int .i64 ((S : Int) - 1 - k) ∧ l = .int .i64 (n / 256 ^ k) ∧ wr.ownsRow w.heap.size 5 1 (.slice (some ⟨w.heap.size, 0, none⟩) S S) S ((rowP n S k).map (Value.int .u8)) ∧ Below w.heap.size w wr)
      (fun _ i _ => (intOf i + 1).toNat)
  case atStart => exact ⟨0, Nat.zero_le _, by simp, by simp, hown0, hbel⟩
  case round =>
    clear hown0 hbel
    obtain ⟨k, hk, rfl, rfl, hown, hbel⟩ := hrel
    obtain ⟨q, hq⟩ : ∃ q : Int, q = n / 256 ^ k := ⟨_, rfl⟩
    have hq0 : 0 ≤ q := by rw [hq]; exact Int.ediv_nonneg h0 (Int.le_of_lt (Int.pow_pos (by omega)))
    have hqm : q ≤ 4294967295 := by
      have h1 : q ≤ n := by rw [hq]; exact Int.ediv_le_self _ h0
      have h2 : (256 : Int) ^ S ≤ 4294967296 := by
        rcases (show S = 1 ∨ S = 2 ∨ S = 3 ∨ S = 4 by omega) with h | h | h | h <;> rw [h] <;> decide
      have := HP.out
      rw [Int.toNat_natCast] at this
      omega
    by_cases hlt : k < S
    · have hcell := owned_cell hown (S - 1 - k) (by omega)
      have hfr := hown.frozenAt (S - 1 - k)
      have hown' := owned_store hown (S - 1 - k) (n / 256 ^ k % 256)
      have hset := Lib.hid (rowP_set n S k hlt)
      rw [hset.out] at hown'
      have HQ := Lib.hid hq
      rw [← hq] at hown' ⊢
      clear hq hn
      go_wp2
      go_roundw
      case rel => exact ⟨k + 1, by omega, by go_num, (by rw [Int.pow_succ, ← Int.ediv_ediv_of_nonneg (Int.le_of_lt (Int.pow_pos (by omega))), ← HQ.out]), hown', hbel.setCell (Nat.le_refl _) _⟩
      case measure => simp [intOf]; omega
    · obtain rfl : k = S := by omega
      go_wp2
      go_ret2
      rw [rowP_whole] at hown
      rw [Int.toNat_natCast]
      exact ⟨_, rfl, (by rw [putL_length]; exact hown), hbel⟩
theorem refPut_yes (n s : Int) (w : World) (h1 : 1 ≤ s) (h4 : s ≤ 4) (h0 : 0 ≤ n) (hn : n < 256 ^ s.toNat) :
    Calls Try.prog 27 #[.int .i64 n, .int .i64 s] w fun e w' => ∃ v, e = .returned (.tuple #[v, .int .i64 0]) ∧ Sl .u8 w' v (putL n s.toNat) ∧ Below w.heap.size w w' :=
  (refPut_own n s w h1 h4 h0 hn).mono fun e w' ⟨v, he, ho, hb⟩ => ⟨v, he, Sl.owned ho (putL_fit _ _) (by rw [putL_length]; unfold maxLen; omega), hb⟩

theorem refPut_no (n s : Int) (w : World) (h : s < 1 ∨ 4 < s ∨ n < 0 ∨ 256 ^ s.toNat ≤ n) :
    Calls Try.prog 27 #[.int .i64 n, .int .i64 s] w fun e w' => e = .returned (.tuple #[.slice none 0 0, .int .i64 1]) ∧ w = w' := by
  by_cases c1 : s < 1
  · have d1 : decide (s < 1) = true := decide_eq_true c1
    clear h
    go_enter Try.func27, Try.ntmps27
    go_wp2_with fail
    go_ret2
    exact ⟨rfl, rfl⟩
  · have d1 : decide (s < 1) = false := decide_eq_false c1
    by_cases c2 : 4 < s
    · have d2 : decide (4 < s) = true := decide_eq_true c2
      clear h
      go_enter Try.func27, Try.ntmps27
      go_wp2_with fail
      go_ret2
      exact ⟨rfl, rfl⟩
    · have d2 : decide (4 < s) = false := decide_eq_false c2
      by_cases c3 : n < 0
      · have d3 : decide (n < 0) = true := decide_eq_true c3
        clear h
        go_enter Try.func27, Try.ntmps27
        go_wp2_with fail
        go_ret2
        exact ⟨rfl, rfl⟩
      · have d3 : decide (n < 0) = false := decide_eq_false c3
        have hb : 256 ^ s.toNat ≤ n := by rcases h with h | h | h | h <;> first | exact h | (exfalso; omega)
        obtain ⟨p, hp⟩ : ∃ p : Int, p = 256 ^ s.toNat := ⟨_, rfl⟩
        have d4 : decide (p ≤ n) = true := decide_eq_true (by rw [hp]; exact hb)
        have HP := Lib.hid hp
        clear h hb hp
        go_enter Try.func27, Try.ntmps27
        go_wp2_with (go_at_call 31; refine (power_any _ _ (by omega) (by omega)).mono ?_; rintro e w' ⟨rfl, rfl⟩; rw [← HP.out])
        go_ret2
        exact ⟨rfl, rfl⟩

end Go.Proofs.Ytfdkbaekohaaoaa
