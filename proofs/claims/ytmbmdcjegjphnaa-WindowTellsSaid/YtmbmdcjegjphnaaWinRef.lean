
/-
  Layer 15's reference: Right, Grow, Take, Shift, Room.
-/
import Derived.Test.YtmbmdcjegjphnaaProg
import Derived.Test.YtmbmdcjegjphnaaKit
import Derived.Test.YtmbmdcjegjphnaaBits
import Derived.Test.YtmbmdcjegjphnaaAdr
import Derived.Deep.LoopGhost
import Derived.Deep.QuietTactic
import Derived.Lib.SliceRun
namespace Go.Proofs.Ytmbmdcjegjphnaa
set_option maxRecDepth 20000
open Go.RowKit

def winB (w : Int) : Bool := decide (-2147483648 ≤ w ∧ w ≤ 2147483647)
def growW (w n : Int) : Int × Bool := if winB w = true ∧ 0 ≤ n ∧ n ≤ 2147483647 ∧ n ≤ 2147483647 - w then (w + n, true) else (w, false)
def takeW (w n : Int) : Int × Bool := if winB w = true ∧ 0 ≤ n ∧ n ≤ w then (w - n, true) else (w, false)
def shiftW (w n : Int) : Int × Bool := if winB w = true ∧ -2147483647 ≤ n ∧ n ≤ 2147483647 ∧ winB (w + n) = true then (w + n, true) else (w, false)
def roomW (n : Int) (l : List Int) : Int := max (l.foldl min n) 0
def tupW (x : Int × Bool) : Value := .tuple #[.int .i64 x.1, .bool x.2]
theorem winB_rng {w : Int} (h : winB w = true) : -2147483648 ≤ w ∧ w ≤ 2147483647 := of_decide_eq_true h
theorem refWin_any (x : Int) (w : World) :
    Calls Try.prog 12 #[.int .i64 x] w fun e w' => e = .returned (.bool (winB x)) ∧ w' = w := by
  have HD := Lib.hid (show winB x = (decide (-2147483648 ≤ x) && decide (x ≤ 2147483647)) by unfold winB; rw [Bool.decide_and])
  obtain ⟨b, hb⟩ : ∃ b, decide (-2147483648 ≤ x) = b := ⟨_, rfl⟩
  rw [hb] at HD
  cases b
  all_goals
    go_enter Try.func12, Try.ntmps12
    go_wp2_with fail
    go_ret
    exact ⟨by rw [HD.out]; rfl, rfl⟩
set_option maxHeartbeats 1000000 in
theorem refGrow_any (x n : Int) (w : World) :
    Calls Try.prog 6 #[.int .i64 x, .int .i64 n] w fun e w' => e = .returned (tupW (growW x n)) ∧ w' = w := by
  by_cases h : winB x = true ∧ 0 ≤ n ∧ n ≤ 2147483647 ∧ n ≤ 2147483647 - x
  · have HG := Lib.hid (show growW x n = (x + n, true) by unfold growW; rw [if_pos h])
    have HW := Lib.hid h.1
    have hx := winB_rng h.1
    obtain ⟨_, h2, h3, h4⟩ := h
    have d1 : decide (n < 0) = false := decide_eq_false (by omega)
    have d2 : decide (2147483647 < n) = false := decide_eq_false (by omega)
    have d3 : decide (2147483647 - x < n) = false := decide_eq_false (by omega)
    go_enter Try.func6, Try.ntmps6
    go_wp2_with fail
    refine (refWin_any _ _).mono ?_
    rintro e w1 ⟨rfl, rfl⟩
    rw [HW.out]
    go_wp2_with fail
    go_ret2
    exact ⟨by rw [HG.out]; rfl, rfl⟩
  · have HG := Lib.hid (show growW x n = (x, false) by unfold growW; rw [if_neg h])
    obtain ⟨b, hb⟩ : ∃ b, winB x = b := ⟨_, rfl⟩
    have HW := Lib.hid hb
    cases b
    · clear h hb
      go_enter Try.func6, Try.ntmps6
      go_wp2_with fail
      refine (refWin_any _ _).mono ?_
      rintro e w1 ⟨rfl, rfl⟩
      rw [HW.out]
      go_wp2_with fail
      go_ret2
      exact ⟨by rw [HG.out]; rfl, rfl⟩
    · have hx := winB_rng hb
      have HN := Lib.hid (show ¬ (0 ≤ n ∧ n ≤ 2147483647 ∧ n ≤ 2147483647 - x) from fun q => h ⟨hb, q⟩)
      clear h hb
      go_enter Try.func6, Try.ntmps6
      go_wp2_with fail
      refine (refWin_any _ _).mono ?_
      rintro e w1 ⟨rfl, rfl⟩
      rw [HW.out]
      go_wp2_with fail
      all_goals first
        | (exfalso; have := HN.out; omega)
        | (go_ret2; exact ⟨by rw [HG.out]; rfl, rfl⟩)
set_option maxHeartbeats 1000000 in
theorem refTake_any (x n : Int) (w : World) :
    Calls Try.prog 8 #[.int .i64 x, .int .i64 n] w fun e w' => e = .returned (tupW (takeW x n)) ∧ w' = w := by
  obtain ⟨b, hb⟩ : ∃ b, winB x = b := ⟨_, rfl⟩
  have HW := Lib.hid hb
  cases b
  · have HG := Lib.hid (show takeW x n = (x, false) by unfold takeW; rw [if_neg (fun q => by rw [hb] at q; cases q.1)])
    clear hb
    go_enter Try.func8, Try.ntmps8
    go_wp2_with fail
    refine (refWin_any _ _).mono ?_
    rintro e w1 ⟨rfl, rfl⟩
    rw [HW.out]
    go_wp2_with fail
    go_ret2
    exact ⟨by rw [HG.out]; rfl, rfl⟩
  · have hx := winB_rng hb
    by_cases h : 0 ≤ n ∧ n ≤ x
    · have HG := Lib.hid (show takeW x n = (x - n, true) by unfold takeW; rw [if_pos ⟨hb, h⟩])
      obtain ⟨h1, h2⟩ := h
      have d1 : decide (n < 0) = false := decide_eq_false (by omega)
      have d2 : decide (x < n) = false := decide_eq_false (by omega)
      clear hb
      go_enter Try.func8, Try.ntmps8
      go_wp2_with fail
      refine (refWin_any _ _).mono ?_
      rintro e w1 ⟨rfl, rfl⟩
      rw [HW.out]
      go_wp2_with fail
      go_ret2
      exact ⟨by rw [HG.out]; rfl, rfl⟩
    · have HG := Lib.hid (show takeW x n = (x, false) by unfold takeW; rw [if_neg (fun q => h q.2)])
      have HN := Lib.hid h
      clear h hb
      go_enter Try.func8, Try.ntmps8
      go_wp2_with fail
      refine (refWin_any _ _).mono ?_
      rintro e w1 ⟨rfl, rfl⟩
      rw [HW.out]
      go_wp2_with fail
      all_goals first
        | (exfalso; have := HN.out; omega)
        | (go_ret2; exact ⟨by rw [HG.out]; rfl, rfl⟩)
set_option maxHeartbeats 1000000 in
theorem refShift_any (x n : Int) (w : World) :
    Calls Try.prog 10 #[.int .i64 x, .int .i64 n] w fun e w' => e = .returned (tupW (shiftW x n)) ∧ w' = w := by
  obtain ⟨b, hb⟩ : ∃ b, winB x = b := ⟨_, rfl⟩
  have HW := Lib.hid hb
  cases b
  · have HG := Lib.hid (show shiftW x n = (x, false) by unfold shiftW; rw [if_neg (fun q => by rw [hb] at q; cases q.1)])
    clear hb
    go_enter Try.func10, Try.ntmps10
    go_wp2_with fail
    refine (refWin_any _ _).mono ?_
    rintro e w1 ⟨rfl, rfl⟩
    rw [HW.out]
    go_wp2_with fail
    go_ret2
    exact ⟨by rw [HG.out]; rfl, rfl⟩
  · have hx := winB_rng hb
    by_cases h : -2147483647 ≤ n ∧ n ≤ 2147483647
    · obtain ⟨h1, h2⟩ := h
      have d1 : decide (n < -2147483647) = false := decide_eq_false (by omega)
      have d2 : decide (2147483647 < n) = false := decide_eq_false (by omega)
      obtain ⟨c, hc⟩ : ∃ c, winB (x + n) = c := ⟨_, rfl⟩
      have HC := Lib.hid hc
      have HG := Lib.hid (show shiftW x n = (bif c then x + n else x, c) by
        unfold shiftW
        cases c
        · rw [if_neg (fun q => by rw [hc] at q; cases q.2.2.2)]; rfl
        · rw [if_pos ⟨hb, h1, h2, hc⟩]; rfl)
      clear hb hc
      go_enter Try.func10, Try.ntmps10
      go_wp2_with fail
      refine (refWin_any _ _).mono ?_
      rintro e w1 ⟨rfl, rfl⟩
      rw [HW.out]
      go_wp2_with fail
      refine (refWin_any _ _).mono ?_
      rintro e w1 ⟨rfl, rfl⟩
      rw [HC.out]
      cases c
      all_goals
        go_wp2_with fail
        go_ret2
        exact ⟨by rw [HG.out]; rfl, rfl⟩
    · have HG := Lib.hid (show shiftW x n = (x, false) by unfold shiftW; rw [if_neg (fun q => h ⟨q.2.1, q.2.2.1⟩)])
      have HN := Lib.hid h
      clear h hb
      go_enter Try.func10, Try.ntmps10
      go_wp2_with fail
      refine (refWin_any _ _).mono ?_
      rintro e w1 ⟨rfl, rfl⟩
      rw [HW.out]
      go_wp2_with fail
      all_goals first
        | (exfalso; have := HN.out; omega)
        | (go_ret2; exact ⟨by rw [HG.out]; rfl, rfl⟩)
set_option maxHeartbeats 1000000 in
theorem refRoom_any (n : Int) (v : Value) (l : List Int) (w : World) (h : Sl .i64 w v l) :
    Calls Try.prog 14 #[.int .i64 n, v] w fun e w' => e = .returned (.int .i64 (roomW n l)) ∧ w' = w := by
  have hml := h.len
  unfold maxLen at hml
  obtain ⟨a, c, rfl, _⟩ := id h
  obtain ⟨N, hN⟩ : ∃ N, N = l.length := ⟨_, rfl⟩
  rw [← hN] at h hml ⊢
  have HN := Lib.hid hN
  clear hN
  go_enter Try.func14, Try.ntmps14
  go_wp2_with fail
  go_loopg [5, 6] N (fun q s5 s6 wr => ∃ k : Nat, k + q = N ∧ s6 = .int .i64 k ∧ (∃ z : Int, s5 = .int .i64 z ∧ Hid (z = (l.take k).foldl min n)) ∧ wr = w)
  case atStart => exact ⟨0, by omega, rfl, ⟨n, rfl, Lib.hid rfl⟩, rfl⟩
  case round =>
    obtain ⟨k, hkq, rfl, ⟨z, rfl, HL⟩, rfl⟩ := hrel
    have HKQ := Lib.hid hkq
    have hk : k ≤ N := by omega
    clear hkq
    by_cases hlt : k < N
    · obtain ⟨b, off, rfl, hb, c0⟩ := h.adr k (by rw [← HN.out]; exact hlt)
      have hl : (l.take (k + 1)).foldl min n = min z (at0 l k) := by rw [take_at0 l k (by rw [← HN.out]; exact hlt), List.foldl_append, HL.out]; rfl
      obtain ⟨y, hy⟩ : ∃ y, at0 l k = y := ⟨_, rfl⟩
      rw [hy] at hl c0
      have HE := Lib.hid hl
      clear hl hy
      go_wp2_with fail
      all_goals
        go_roundg (N - (k + 1))
        case measure => have := HKQ.out; omega
        case rel => exact ⟨k + 1, by omega, by go_num, ⟨_, rfl, Lib.hid (by rw [HE.out]; omega)⟩, rfl⟩
    · obtain rfl : k = N := by omega
      have HE := Lib.hid (show z = l.foldl min n by rw [HL.out, List.take_of_length_le (by rw [HN.out]; exact Nat.le_refl _)])
      clear hlt hk
      go_wp2_with fail
      all_goals
        go_ret
        refine ⟨?_, rfl⟩
        unfold roomW
        rw [← HE.out]
        first
          | (rw [show max z 0 = 0 by omega]; rfl)
          | (rw [show max z 0 = z by omega]; rfl)
end Go.Proofs.Ytmbmdcjegjphnaa
