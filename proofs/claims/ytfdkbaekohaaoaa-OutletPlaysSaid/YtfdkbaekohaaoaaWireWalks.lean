
/-
  What the calls of package wire do, a contract each.
-/
import Derived.Test.YtfdkbaekohaaoaaProg
import Derived.Test.YtfdkbaekohaaoaaWireMath
import Derived.Deep.QuietTactic
import Derived.BigQuiet
import Derived.Outline
namespace Go.Proofs.Ytfdkbaekohaaoaa
open Go.RowKit

theorem isSize_yes (n : Int) (w : World) (h1 : 1 ≤ n) (h4 : n ≤ 4) : Calls Try.prog 29 #[.int .i64 n] w fun e w' => e = .returned (.bool true) ∧ w = w' := by
  have d1 : decide (1 ≤ n) = true := decide_eq_true h1
  have d2 : decide (n ≤ 4) = true := decide_eq_true h4
  go_enter Try.func29, Try.ntmps29
  go_wp2
  go_ret
  exact ⟨rfl, rfl⟩
theorem isSize_no (n : Int) (w : World) (h : n < 1 ∨ 4 < n) : Calls Try.prog 29 #[.int .i64 n] w fun e w' => e = .returned (.bool false) ∧ w = w' := by
  rcases h with h | h
  · have d1 : decide (1 ≤ n) = false := decide_eq_false (by omega)
    go_enter Try.func29, Try.ntmps29
    go_wp2
    go_ret
    exact ⟨rfl, rfl⟩
  · have d1 : decide (1 ≤ n) = true := decide_eq_true (by omega)
    have d2 : decide (n ≤ 4) = false := decide_eq_false (by omega)
    go_enter Try.func29, Try.ntmps29
    go_wp2
    go_ret
    exact ⟨rfl, rfl⟩

theorem fits_any (n s : Int) (t : Bool) (w : World) (h1 : 1 ≤ s) (h4 : s ≤ 4) (h0 : 0 ≤ n) (ht : (n / 2 ^ (8 * s).toNat == 0) = t) :
    Calls Try.prog 30 #[.int .i64 n, .int .i64 s] w fun e w' => e = .returned (.bool t) ∧ w = w' := by
  have d1 : decide (0 ≤ n) = true := decide_eq_true h0
  go_enter Try.func30, Try.ntmps30
  go_wp2
  go_ret
  exact ⟨rfl, rfl⟩
theorem fits_neg (n s : Int) (w : World) (h0 : n < 0) :
    Calls Try.prog 30 #[.int .i64 n, .int .i64 s] w fun e w' => e = .returned (.bool false) ∧ w = w' := by
  have d1 : decide (0 ≤ n) = false := decide_eq_false (by omega)
  go_enter Try.func30, Try.ntmps30
  go_wp2
  go_ret
  exact ⟨rfl, rfl⟩

theorem Try.info5 : (Try.prog.info? 5).map (fun i => (i.zero, i.size, i.bytes)) = some (some (.int .u8 0), 1, 1) := by kernel_rfl

theorem put_own (n s : Int) (w : World) (h1 : 1 ≤ s) (h4 : s ≤ 4) (h0 : 0 ≤ n) (hn : n < 256 ^ s.toNat) :
    Calls Try.prog 25 #[.int .i64 n, .int .i64 s] w fun e w' => ∃ v, e = .returned (.tuple #[v, .int .i64 0]) ∧ w'.ownsRow w.heap.size 5 1 v (putL n s.toNat).length ((putL n s.toNat).map (Value.int .u8)) ∧ Below w.heap.size w w' := by
  obtain ⟨S, rfl⟩ := Int.eq_ofNat_of_zero_le (by omega : 0 ≤ s)
  rw [Int.toNat_natCast] at hn
  obtain ⟨i0, hi, hz0, hz1, hz2⟩ := info_parts Try.info5
  have ht := Lib.hid (show (n / 2 ^ (8 * (S : Int)).toNat == 0) = true by
    rw [show (8 * (S : Int)).toNat = 8 * S by omega, div_pow8, Int.ediv_eq_zero_of_lt h0 hn]; rfl)
  clear hn
  go_enter Try.func25, Try.ntmps25
  go_wp2_with (first
    | (go_at_call 30; refine (fits_any _ _ true _ (by omega) (by omega) (by omega) ht.out).mono ?_; rintro e w' ⟨rfl, rfl⟩)
    | (go_at_call 29; refine (isSize_yes _ _ (by omega) (by omega)).mono ?_; rintro e w' ⟨rfl, rfl⟩)
    | (at_make; refine wpList_make_full _ rfl _ _ 27 rfl w.heap.size 5 i0 (.int .u8 0) 1 Try.underlying27 hi hz0 hz1 .i64 .i64 _ _ S rfl rfl rfl rfl (by rw [hz2]; omega) (by unfold maxLen; omega) (Nat.le_refl _) ?_; intro w1 hown hgrow))
  have hbel : Below w.heap.size w w1 := (Below.refl _ _).grown hgrow (Nat.le_refl _) (fun k h => by simp at h)
  have hown0 : w1.ownsRow w.heap.size 5 1 (.slice (some ⟨w.heap.size, 0, none⟩) S S) S ((rowP n S 0).map (Value.int .u8)) := by
    rw [rowP_zero]; exact made_zeros hown
  clear hown hgrow ht
  go_loopw [7, 20] (fun u i wr => ∃ k : Nat, k ≤ S ∧ i = .int .i64 k ∧ wr.ownsRow w.heap.size 5 1 (.slice (some ⟨w.heap.size, 0, none⟩) S S) S ((rowP n S k).map (Value.int .u8)) ∧ Below w.heap.size w wr)
      (fun _ i _ => S - (intOf i).toNat)
  case atStart => exact ⟨0, Nat.zero_le _, rfl, hown0, hbel⟩
  case round =>
    clear hown0 hbel
    obtain ⟨k, hk, rfl, hown, hbel⟩ := hrel
    by_cases hlt : k < S
    · have hcell := owned_cell hown (S - 1 - k) (by omega)
      have hfr := hown.frozenAt (S - 1 - k)
      have hown' := owned_store hown (S - 1 - k) (n / 2 ^ (8 * k) % 256)
      have hset := Lib.hid (rowP_set n S k hlt)
      rw [div_pow8, hset.out, ← div_pow8] at hown'
      go_wp2
      go_roundw
      case rel => exact ⟨k + 1, by omega, by go_num, hown', hbel.setCell (Nat.le_refl _) _⟩
      case measure => simp [intOf]; omega
    · obtain rfl : k = S := by omega
      go_wp2
      go_ret2
      rw [rowP_whole] at hown
      rw [Int.toNat_natCast]
      exact ⟨_, rfl, (by rw [putL_length]; exact hown), hbel⟩
theorem put_yes (n s : Int) (w : World) (h1 : 1 ≤ s) (h4 : s ≤ 4) (h0 : 0 ≤ n) (hn : n < 256 ^ s.toNat) :
    Calls Try.prog 25 #[.int .i64 n, .int .i64 s] w fun e w' => ∃ v, e = .returned (.tuple #[v, .int .i64 0]) ∧ Sl .u8 w' v (putL n s.toNat) ∧ Below w.heap.size w w' :=
  (put_own n s w h1 h4 h0 hn).mono fun e w' ⟨v, he, ho, hb⟩ => ⟨v, he, Sl.owned ho (putL_fit _ _) (by rw [putL_length]; unfold maxLen; omega), hb⟩

theorem put_no (n s : Int) (w : World) (h : s < 1 ∨ 4 < s ∨ n < 0 ∨ 256 ^ s.toNat ≤ n) :
    Calls Try.prog 25 #[.int .i64 n, .int .i64 s] w fun e w' => e = .returned (.tuple #[.slice none 0 0, .int .i64 1]) ∧ w = w' := by
  by_cases hs : s < 1 ∨ 4 < s
  · clear h
    go_enter Try.func25, Try.ntmps25
    go_wp2_with (go_at_call 29; refine (isSize_no _ _ (by omega)).mono ?_; rintro e w' ⟨rfl, rfl⟩)
    go_ret2
    exact ⟨rfl, rfl⟩
  · have h1 : 1 ≤ s := by omega
    have h4 : s ≤ 4 := by omega
    by_cases hn : n < 0
    · clear h hs
      go_enter Try.func25, Try.ntmps25
      go_wp2_with (first
        | (go_at_call 30; refine (fits_neg _ _ _ (by omega)).mono ?_; rintro e w' ⟨rfl, rfl⟩)
        | (go_at_call 29; refine (isSize_yes _ _ (by omega) (by omega)).mono ?_; rintro e w' ⟨rfl, rfl⟩))
      go_ret2
      exact ⟨rfl, rfl⟩
    · have hb : 256 ^ s.toNat ≤ n := by rcases h with h | h | h | h <;> first | exact h | (exfalso; omega)
      have ht := Lib.hid (show (n / 2 ^ (8 * s).toNat == 0) = false by
        obtain ⟨S, rfl⟩ := Int.eq_ofNat_of_zero_le (by omega : 0 ≤ s)
        rw [Int.toNat_natCast] at hb
        rw [show (8 * (S : Int)).toNat = 8 * S by omega, div_pow8]
        have hp : (0 : Int) < 256 ^ S := Int.pow_pos (by omega)
        have : 1 ≤ n / 256 ^ S := (Int.le_ediv_iff_mul_le hp).2 (by omega)
        simp; omega)
      clear hb h hs
      go_enter Try.func25, Try.ntmps25
      go_wp2_with (first
        | (go_at_call 30; refine (fits_any _ _ false _ (by omega) (by omega) (by omega) ht.out).mono ?_; rintro e w' ⟨rfl, rfl⟩)
        | (go_at_call 29; refine (isSize_yes _ _ (by omega) (by omega)).mono ?_; rintro e w' ⟨rfl, rfl⟩))
      go_ret2
      exact ⟨rfl, rfl⟩

end Go.Proofs.Ytfdkbaekohaaoaa
