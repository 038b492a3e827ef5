
/-
  Layer 15's statement: WindowTells.
-/
import Derived.Test.YtmbmdcjegjphnaaWinProg
namespace Go.Proofs.Ytmbmdcjegjphnaa
set_option maxRecDepth 20000
open Go.RowKit

theorem a15 : tupW (growW 2147483640 7) = .tuple #[.int .i64 2147483647, .bool true] ∧ tupW (growW 2147483640 8) = .tuple #[.int .i64 2147483640, .bool false] ∧ tupW (takeW 5 6) = .tuple #[.int .i64 5, .bool false] ∧
    tupW (shiftW 5 (-9)) = .tuple #[.int .i64 (-4), .bool true] ∧ tupW (shiftW (-2147483648) (-1)) = .tuple #[.int .i64 (-2147483648), .bool false] ∧ roomW 9 [7, 8] = 7 ∧ roomW 9 [-1] = 0 ∧ winB (-4) = true := by
  refine ⟨?_, ?_, ?_, ?_, ?_, ?_, ?_, ?_⟩
  · rw [show growW 2147483640 7 = (2147483647, true) by decide]; rfl
  · rw [show growW 2147483640 8 = (2147483640, false) by decide]; rfl
  · rw [show takeW 5 6 = (5, false) by decide]; rfl
  · rw [show shiftW 5 (-9) = (-4, true) by decide]; rfl
  · rw [show shiftW (-2147483648) (-1) = (-2147483648, false) by decide]; rfl
  · decide
  · decide
  · decide
set_option maxHeartbeats 2000000 in
theorem alive15 (w : World) :
    Calls Try.prog 4 #[] w fun e w' => e = .returned (.bool true) ∧ Below w.heap.size w w' := by
  obtain ⟨a1, a2, a3, a4, a5, a6, a7, a8⟩ := a15
  have A1 := Lib.hid a1
  have A2 := Lib.hid a2
  have A3 := Lib.hid a3
  have A4 := Lib.hid a4
  have A5 := Lib.hid a5
  have A6 := Lib.hid a6
  have A7 := Lib.hid a7
  have A8 := Lib.hid a8
  clear a1 a2 a3 a4 a5 a6 a7 a8
  go_enter Try.func4, Try.ntmps4
  go_wp2_with fail
  refine (pGrow_any 2147483640 7 _).mono ?_
  rintro e w1 ⟨rfl, hb⟩
  have H1 := Lib.hid (hb)
  clear hb
  rw [A1.out]
  go_wp2_with fail
  refine (pGrow_any 2147483640 8 _).mono ?_
  rintro e w2 ⟨rfl, hb⟩
  have H2 := Lib.hid (H1.out.trans (hb.mono H1.out.size))
  clear hb
  rw [A2.out]
  go_wp2_with fail
  refine (pTake_any 5 6 _).mono ?_
  rintro e w3 ⟨rfl, hb⟩
  have H3 := Lib.hid (H2.out.trans (hb.mono H2.out.size))
  clear hb
  rw [A3.out]
  go_wp2_with fail
  refine (pShift_any 5 (-9) _).mono ?_
  rintro e w4 ⟨rfl, hb⟩
  have H4 := Lib.hid (H3.out.trans (hb.mono H3.out.size))
  clear hb
  rw [A4.out]
  go_wp2_with fail
  refine (pShift_any (-2147483648) (-1) _).mono ?_
  rintro e w5 ⟨rfl, hb⟩
  have H5 := Lib.hid (H4.out.trans (hb.mono H4.out.size))
  clear hb
  rw [A5.out]
  go_wp2_with fail
  refine (pRoom_any 9 _ [7, 8] _ (Sl.lit [7, 8] (by simp) rfl rfl (by decide) (by decide)) (by decide)).mono ?_
  rintro e w6 ⟨rfl, hb⟩
  have hb := ((Below.refl _ _).alloc (Nat.le_refl _) _).trans (hb.mono (by simp))
  have H6 := Lib.hid (H5.out.trans (hb.mono H5.out.size))
  clear hb
  rw [A6.out]
  go_wp2_with fail
  refine (pRoom_any 9 _ [-1] _ (Sl.lit [-1] (by simp) rfl rfl (by decide) (by decide)) (by decide)).mono ?_
  rintro e w7 ⟨rfl, hb⟩
  have hb := ((Below.refl _ _).alloc (Nat.le_refl _) _).trans (hb.mono (by simp))
  have H7 := Lib.hid (H6.out.trans (hb.mono H6.out.size))
  clear hb
  rw [A7.out]
  go_wp2_with fail
  refine (pWin_any (-4) _).mono ?_
  rintro e w8 ⟨rfl, hb⟩
  have H8 := Lib.hid (H7.out.trans (hb.mono H7.out.size))
  clear hb
  rw [A8.out]
  go_wp2_with fail
  go_ret
  exact ⟨rfl, H8.out⟩
set_option maxHeartbeats 2000000 in
theorem tells15_any (x n : Int) (v : Value) (l : List Int) (w : World) (h : Sl .i64 w v l) :
    Calls Try.prog 3 #[.int .i64 x, .int .i64 n, v] w fun e w' => e = .returned (.bool true) ∧ Below w.heap.size w w' := by
  have HS := Lib.hid h
  have hml := h.len
  unfold maxLen at hml
  obtain ⟨a, c, rfl, _⟩ := id h
  by_cases hg : l.length ≤ 100
  · have HL := Lib.hid (show l.length ≤ 1000 by omega)
    have d1 : decide ((100 : Int) < (l.length : Int)) = false := decide_eq_false (by omega)
    obtain ⟨g, hgr⟩ : ∃ g, growW x n = g := ⟨_, rfl⟩
    obtain ⟨t, htk⟩ : ∃ g, takeW x n = g := ⟨_, rfl⟩
    obtain ⟨s, hsh⟩ : ∃ g, shiftW x n = g := ⟨_, rfl⟩
    have G := Lib.hid (show tupW (growW x n) = .tuple #[.int .i64 g.1, .bool g.2] by rw [hgr]; rfl)
    have T := Lib.hid (show tupW (takeW x n) = .tuple #[.int .i64 t.1, .bool t.2] by rw [htk]; rfl)
    have S := Lib.hid (show tupW (shiftW x n) = .tuple #[.int .i64 s.1, .bool s.2] by rw [hsh]; rfl)
    have q1 : (g.1 == g.1) = true := beq_self_eq_true _
    have q2 : (g.2 == g.2) = true := beq_self_eq_true _
    have q3 : (t.1 == t.1) = true := beq_self_eq_true _
    have q4 : (t.2 == t.2) = true := beq_self_eq_true _
    have q5 : (s.1 == s.1) = true := beq_self_eq_true _
    have q6 : (s.2 == s.2) = true := beq_self_eq_true _
    have q7 : (winB x == winB x) = true := beq_self_eq_true _
    have q8 : (roomW n l == roomW n l) = true := beq_self_eq_true _
    clear h hg hgr htk hsh
    go_enter Try.func3, Try.ntmps3
    go_wp2_with fail
    refine (pGrow_any x n _).mono ?_
    rintro e w1 ⟨rfl, hb⟩
    have H1 := Lib.hid (hb)
    clear hb
    rw [G.out]
    go_wp2_with fail
    refine (refGrow_any x n _).mono ?_
    rintro e w2 ⟨rfl, rfl⟩
    rw [G.out]
    go_wp2_with fail
    refine (pTake_any x n _).mono ?_
    rintro e w3 ⟨rfl, hb⟩
    have H3 := Lib.hid (H1.out.trans (hb.mono H1.out.size))
    clear hb
    rw [T.out]
    go_wp2_with fail
    refine (refTake_any x n _).mono ?_
    rintro e w4 ⟨rfl, rfl⟩
    rw [T.out]
    go_wp2_with fail
    refine (pShift_any x n _).mono ?_
    rintro e w5 ⟨rfl, hb⟩
    have H5 := Lib.hid (H3.out.trans (hb.mono H3.out.size))
    clear hb
    rw [S.out]
    go_wp2_with fail
    refine (refShift_any x n _).mono ?_
    rintro e w6 ⟨rfl, rfl⟩
    rw [S.out]
    go_wp2_with fail
    refine (alive15 _).mono ?_
    rintro e w7 ⟨rfl, hb⟩
    have H7 := Lib.hid (H5.out.trans (hb.mono H5.out.size))
    clear hb
    go_wp2_with fail
    refine (pWin_any x _).mono ?_
    rintro e w8 ⟨rfl, hb⟩
    have H8 := Lib.hid (H7.out.trans (hb.mono H7.out.size))
    clear hb
    go_wp2_with fail
    refine (refWin_any x _).mono ?_
    rintro e w9 ⟨rfl, rfl⟩
    go_wp2_with fail
    refine (pRoom_any n _ l _ (HS.out.below H8.out) HL.out).mono ?_
    rintro e w10 ⟨rfl, hb⟩
    have H10 := Lib.hid (H8.out.trans (hb.mono H8.out.size))
    clear hb
    go_wp2_with fail
    refine (refRoom_any n _ l _ (HS.out.below H10.out)).mono ?_
    rintro e w11 ⟨rfl, rfl⟩
    go_wp2_with fail
    go_ret
    exact ⟨rfl, H10.out⟩
  · have d1 : decide ((100 : Int) < (l.length : Int)) = true := decide_eq_true (by omega)
    clear h hg
    go_enter Try.func3, Try.ntmps3
    go_wp2_with fail
    refine (alive15 _).mono ?_
    rintro e w1 ⟨rfl, hb⟩
    have H1 := Lib.hid (hb)
    clear hb
    go_wp2_with fail
    go_ret
    exact ⟨rfl, H1.out⟩
end Go.Proofs.Ytmbmdcjegjphnaa
