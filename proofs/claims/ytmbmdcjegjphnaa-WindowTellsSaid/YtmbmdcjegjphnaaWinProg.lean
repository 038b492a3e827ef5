
/-
  Layer 15: the program's own functions: within, Right, Grow, Take, Shift, Room.
-/
import Derived.Test.YtmbmdcjegjphnaaWinRef
namespace Go.Proofs.Ytmbmdcjegjphnaa
set_option maxRecDepth 20000
open Go.RowKit

def winIn (n a b : Int) : Bool := decide (a ≤ n) && decide (n ≤ b)
theorem winIn_yes {n a b : Int} (h : a ≤ n ∧ n ≤ b) : winIn n a b = true := by
  unfold winIn
  rw [decide_eq_true h.1, decide_eq_true h.2]; rfl
theorem winIn_no {n a b : Int} (h : ¬ (a ≤ n ∧ n ≤ b)) : winIn n a b = false := by
  unfold winIn
  by_cases h1 : a ≤ n
  · rw [decide_eq_true h1, decide_eq_false (fun q => h ⟨h1, q⟩)]; rfl
  · rw [decide_eq_false h1]; rfl
theorem winIn_rng {n a b : Int} (h : winIn n a b = true) : a ≤ n ∧ n ≤ b := by
  by_cases q : a ≤ n ∧ n ≤ b
  · exact q
  · rw [winIn_no q] at h; cases h
theorem winIn_win (x : Int) : winIn x (-2147483648) 2147483647 = winB x := by
  unfold winIn winB; rw [Bool.decide_and]
theorem winIn_any (n a b : Int) (w : World) :
    Calls Try.prog 15 #[.int .i64 n, .int .i64 a, .int .i64 b] w fun e w' => e = .returned (.bool (winIn n a b)) ∧ w' = w := by
  have HD := Lib.hid (show winIn n a b = (decide (a ≤ n) && decide (n ≤ b)) from rfl)
  obtain ⟨c, hc⟩ : ∃ c, decide (a ≤ n) = c := ⟨_, rfl⟩
  rw [hc] at HD
  cases c
  all_goals
    go_enter Try.func15, Try.ntmps15
    go_wp2_with fail
    go_ret
    exact ⟨by rw [HD.out]; rfl, rfl⟩
theorem win_same (x : Int) (w : World) :
    Calls Try.prog 11 #[.int .i64 x] w fun e w' => e = .returned (.bool (winB x)) ∧ w' = w := by
  go_enter Try.func11, Try.ntmps11
  go_wp2_with fail
  refine (winIn_any _ _ _ _).mono ?_
  rintro e w1 ⟨rfl, rfl⟩
  go_wp2_with fail
  go_ret
  exact ⟨by rw [winIn_win]; rfl, rfl⟩
set_option maxHeartbeats 1000000 in
theorem take_same (x n : Int) (w : World) :
    Calls Try.prog 7 #[.int .i64 x, .int .i64 n] w fun e w' => e = .returned (tupW (takeW x n)) ∧ w' = w := by
  obtain ⟨b, hb⟩ : ∃ b, winB x = b := ⟨_, rfl⟩
  have HW := Lib.hid hb
  cases b
  · have HG := Lib.hid (show takeW x n = (x, false) by unfold takeW; rw [if_neg (fun q => by rw [hb] at q; cases q.1)])
    clear hb
    go_enter Try.func7, Try.ntmps7
    go_wp2_with fail
    refine (win_same _ _).mono ?_
    rintro e w1 ⟨rfl, rfl⟩
    rw [HW.out]
    go_wp2_with fail
    go_ret2
    exact ⟨by rw [HG.out]; rfl, rfl⟩
  · have hx := winB_rng hb
    by_cases h : 0 ≤ n ∧ n ≤ x
    · have HG := Lib.hid (show takeW x n = (x - n, true) by unfold takeW; rw [if_pos ⟨hb, h⟩])
      have HI := Lib.hid (winIn_yes h)
      obtain ⟨h1, h2⟩ := h
      clear hb
      go_enter Try.func7, Try.ntmps7
      go_wp2_with fail
      refine (win_same _ _).mono ?_
      rintro e w1 ⟨rfl, rfl⟩
      rw [HW.out]
      go_wp2_with fail
      refine (winIn_any _ _ _ _).mono ?_
      rintro e w1 ⟨rfl, rfl⟩
      rw [HI.out]
      go_wp2_with fail
      go_ret2
      exact ⟨by rw [HG.out]; rfl, rfl⟩
    · have HG := Lib.hid (show takeW x n = (x, false) by unfold takeW; rw [if_neg (fun q => h q.2)])
      have HI := Lib.hid (winIn_no h)
      clear h hb
      go_enter Try.func7, Try.ntmps7
      go_wp2_with fail
      refine (win_same _ _).mono ?_
      rintro e w1 ⟨rfl, rfl⟩
      rw [HW.out]
      go_wp2_with fail
      refine (winIn_any _ _ _ _).mono ?_
      rintro e w1 ⟨rfl, rfl⟩
      rw [HI.out]
      go_wp2_with fail
      go_ret2
      exact ⟨by rw [HG.out]; rfl, rfl⟩
set_option maxHeartbeats 1000000 in
theorem shift_same (x n : Int) (w : World) :
    Calls Try.prog 9 #[.int .i64 x, .int .i64 n] w fun e w' => e = .returned (tupW (shiftW x n)) ∧ w' = w := by
  obtain ⟨b, hb⟩ : ∃ b, winB x = b := ⟨_, rfl⟩
  have HW := Lib.hid hb
  cases b
  · have HG := Lib.hid (show shiftW x n = (x, false) by unfold shiftW; rw [if_neg (fun q => by rw [hb] at q; cases q.1)])
    clear hb
    go_enter Try.func9, Try.ntmps9
    go_wp2_with fail
    refine (win_same _ _).mono ?_
    rintro e w1 ⟨rfl, rfl⟩
    rw [HW.out]
    go_wp2_with fail
    go_ret2
    exact ⟨by rw [HG.out]; rfl, rfl⟩
  · have hx := winB_rng hb
    by_cases h : -2147483647 ≤ n ∧ n ≤ 2147483647
    · have HI := Lib.hid (winIn_yes h)
      obtain ⟨h1, h2⟩ := h
      obtain ⟨c, hc⟩ : ∃ c, winB (x + n) = c := ⟨_, rfl⟩
      have HC := Lib.hid hc
      have HG := Lib.hid (show shiftW x n = (bif c then x + n else x, c) by
        unfold shiftW
        cases c
        · rw [if_neg (fun q => by rw [hc] at q; cases q.2.2.2)]; rfl
        · rw [if_pos ⟨hb, h1, h2, hc⟩]; rfl)
      clear hb hc
      go_enter Try.func9, Try.ntmps9
      go_wp2_with fail
      refine (win_same _ _).mono ?_
      rintro e w1 ⟨rfl, rfl⟩
      rw [HW.out]
      go_wp2_with fail
      refine (winIn_any _ _ _ _).mono ?_
      rintro e w1 ⟨rfl, rfl⟩
      rw [HI.out]
      go_wp2_with fail
      refine (win_same _ _).mono ?_
      rintro e w1 ⟨rfl, rfl⟩
      rw [HC.out]
      cases c
      all_goals
        go_wp2_with fail
        go_ret2
        exact ⟨by rw [HG.out]; rfl, rfl⟩
    · have HG := Lib.hid (show shiftW x n = (x, false) by unfold shiftW; rw [if_neg (fun q => h ⟨q.2.1, q.2.2.1⟩)])
      have HI := Lib.hid (winIn_no h)
      clear h hb
      go_enter Try.func9, Try.ntmps9
      go_wp2_with fail
      refine (win_same _ _).mono ?_
      rintro e w1 ⟨rfl, rfl⟩
      rw [HW.out]
      go_wp2_with fail
      refine (winIn_any _ _ _ _).mono ?_
      rintro e w1 ⟨rfl, rfl⟩
      rw [HI.out]
      go_wp2_with fail
      go_ret2
      exact ⟨by rw [HG.out]; rfl, rfl⟩
theorem grow_shift (x n : Int) (h : 0 ≤ n ∧ n ≤ 2147483647) : growW x n = shiftW x n := by
  unfold growW shiftW
  by_cases hb : winB x = true
  · have hx := winB_rng hb
    by_cases q : n ≤ 2147483647 - x
    · rw [if_pos ⟨hb, h.1, h.2, q⟩, if_pos ⟨hb, by omega, h.2, decide_eq_true (by omega)⟩]
    · rw [if_neg (fun p => q p.2.2.2), if_neg (fun p => by have := winB_rng p.2.2.2; omega)]
  · rw [if_neg (fun p => hb p.1), if_neg (fun p => hb p.1)]
set_option maxHeartbeats 1000000 in
theorem grow_same (x n : Int) (w : World) :
    Calls Try.prog 5 #[.int .i64 x, .int .i64 n] w fun e w' => e = .returned (tupW (growW x n)) ∧ w' = w := by
  by_cases h : 0 ≤ n ∧ n ≤ 2147483647
  · have HI := Lib.hid (winIn_yes h)
    have HG := Lib.hid (grow_shift x n h)
    clear h
    go_enter Try.func5, Try.ntmps5
    go_wp2_with fail
    refine (winIn_any _ _ _ _).mono ?_
    rintro e w1 ⟨rfl, rfl⟩
    rw [HI.out]
    go_wp2_with fail
    refine (shift_same _ _ _).mono ?_
    rintro e w1 ⟨rfl, rfl⟩
    rw [← HG.out]
    unfold tupW
    go_wp2_with fail
    go_ret2
    exact ⟨rfl, rfl⟩
  · have HI := Lib.hid (winIn_no h)
    have HG := Lib.hid (show growW x n = (x, false) by unfold growW; rw [if_neg (fun q => h ⟨q.2.1, q.2.2.1⟩)])
    clear h
    go_enter Try.func5, Try.ntmps5
    go_wp2_with fail
    refine (winIn_any _ _ _ _).mono ?_
    rintro e w1 ⟨rfl, rfl⟩
    rw [HI.out]
    go_wp2_with fail
    go_ret2
    exact ⟨by rw [HG.out]; rfl, rfl⟩
set_option maxHeartbeats 1000000 in
theorem room_same (n : Int) (v : Value) (l : List Int) (w : World) (h : Sl .i64 w v l) :
    Calls Try.prog 13 #[.int .i64 n, v] w fun e w' => e = .returned (.int .i64 (roomW n l)) ∧ w' = w := by
  have hml := h.len
  unfold maxLen at hml
  obtain ⟨a, c, rfl, _⟩ := id h
  obtain ⟨N, hN⟩ : ∃ N, N = l.length := ⟨_, rfl⟩
  rw [← hN] at h hml ⊢
  have HN := Lib.hid hN
  clear hN
  go_enter Try.func13, Try.ntmps13
  go_wp2_with fail
  go_loopg [0, 6, 9] N (fun q s0 s6 s9 wr => ∃ k : Nat, k + q = N ∧ s9 = .int .i64 k ∧ (∃ z : Int, s0 = .int .i64 z ∧ Hid (z = (l.take k).foldl min n)) ∧ wr = w)
  case atStart => exact ⟨0, by omega, rfl, ⟨n, rfl, Lib.hid rfl⟩, rfl⟩
  case round =>
    obtain ⟨k, hkq, rfl, ⟨z, rfl, HL⟩, rfl⟩ := hrel
    have HKQ := Lib.hid hkq
    have hk : k ≤ N := by omega
    clear hkq
    by_cases hlt : k < N
    · obtain ⟨b, off, rfl, hb, c0⟩ := h.adr k (by rw [← HN.out]; exact hlt)
      have hl : (l.take (k + 1)).foldl min n = min z (at0 l k) := by rw [take_at0 l k (by rw [← HN.out]; exact hlt), List.foldl_append, HL.out]; rfl
      obtain ⟨y, hy⟩ : ∃ y, at0 l k = y := ⟨_, rfl⟩
      rw [hy] at hl c0
      have HE := Lib.hid hl
      clear hl hy
      go_wp2_with fail
      all_goals
        go_roundg (N - (k + 1))
        case measure => have := HKQ.out; omega
        case rel => exact ⟨k + 1, by omega, by go_num, ⟨_, rfl, Lib.hid (by rw [HE.out]; omega)⟩, rfl⟩
    · obtain rfl : k = N := by omega
      have HE := Lib.hid (show z = l.foldl min n by rw [HL.out, List.take_of_length_le (by rw [HN.out]; exact Nat.le_refl _)])
      clear hlt hk
      go_wp2_with fail
      all_goals
        go_ret
        refine ⟨?_, rfl⟩
        unfold roomW
        rw [← HE.out]
        first
          | (rw [show max z 0 = 0 by omega]; rfl)
          | (rw [show max z 0 = z by omega]; rfl)

theorem pWin_any (x : Int) (w : World) :
    Calls Try.prog 11 #[.int .i64 x] w fun e w' => e = .returned (.bool (winB x)) ∧ Below w.heap.size w w' := by
  refine (win_same x w).mono ?_
  rintro e w1 ⟨rfl, rfl⟩
  exact ⟨rfl, Below.refl _ _⟩
theorem pGrow_any (x n : Int) (w : World) :
    Calls Try.prog 5 #[.int .i64 x, .int .i64 n] w fun e w' => e = .returned (tupW (growW x n)) ∧ Below w.heap.size w w' := by
  refine (grow_same x n w).mono ?_
  rintro e w1 ⟨rfl, rfl⟩
  exact ⟨rfl, Below.refl _ _⟩
theorem pTake_any (x n : Int) (w : World) :
    Calls Try.prog 7 #[.int .i64 x, .int .i64 n] w fun e w' => e = .returned (tupW (takeW x n)) ∧ Below w.heap.size w w' := by
  refine (take_same x n w).mono ?_
  rintro e w1 ⟨rfl, rfl⟩
  exact ⟨rfl, Below.refl _ _⟩
theorem pShift_any (x n : Int) (w : World) :
    Calls Try.prog 9 #[.int .i64 x, .int .i64 n] w fun e w' => e = .returned (tupW (shiftW x n)) ∧ Below w.heap.size w w' := by
  refine (shift_same x n w).mono ?_
  rintro e w1 ⟨rfl, rfl⟩
  exact ⟨rfl, Below.refl _ _⟩
theorem pRoom_any (n : Int) (v : Value) (l : List Int) (w : World) (h : Sl .i64 w v l) (_ : l.length ≤ 1000) :
    Calls Try.prog 13 #[.int .i64 n, v] w fun e w' => e = .returned (.int .i64 (roomW n l)) ∧ Below w.heap.size w w' := by
  refine (room_same n v l w h).mono ?_
  rintro e w1 ⟨rfl, rfl⟩
  exact ⟨rfl, Below.refl _ _⟩
end Go.Proofs.Ytmbmdcjegjphnaa
