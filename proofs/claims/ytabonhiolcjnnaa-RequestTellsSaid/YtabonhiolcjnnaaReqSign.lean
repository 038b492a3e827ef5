
/-
  Layer 10, the program's own: tokens, names, values, numbers.
-/
import Derived.Test.YtabonhiolcjnnaaReqHigh
namespace Go.Proofs.Ytabonhiolcjnnaa
set_option maxRecDepth 20000
open Go.RowKit

def signS : ByteArray := tx [33, 35, 36, 37, 38, 39, 42, 43, 45, 46, 94, 95, 124, 126, 96]
theorem signS_asc : Asc signS := fun k hk => by
  have : ∀ k, k < 15 → at0 (nums signS) k < 128 := by decide +kernel
  exact this k hk
theorem signS_low : ∀ r : Nat, r < 128 → decide (0 ≤ Lib.indexByte signS.data.toList r.toUInt8) = signB r := by decide +kernel
theorem isCap_any (r : Int) (w : World) :
    Calls Try.prog 19 #[.int .i32 r] w fun e w' => e = .returned (.bool (decide (65 ≤ r ∧ r ≤ 90))) ∧ w' = w := by
  have HD := Lib.hid (show decide (65 ≤ r ∧ r ≤ 90) = (decide (65 ≤ r) && decide (r ≤ 90)) by rw [Bool.decide_and])
  obtain ⟨b, hb⟩ : ∃ b, decide (65 ≤ r) = b := ⟨_, rfl⟩
  rw [hb] at HD
  cases b
  all_goals
    go_enter Try.func19, Try.ntmps19
    go_wp2_with fail
    go_ret
    exact ⟨by rw [HD.out]; rfl, rfl⟩
theorem isFig_any (r : Int) (w : World) :
    Calls Try.prog 36 #[.int .i32 r] w fun e w' => e = .returned (.bool (figB r)) ∧ w' = w := by
  have HD := Lib.hid (show figB r = (decide (48 ≤ r) && decide (r ≤ 57)) by unfold figB; rw [Bool.decide_and])
  obtain ⟨b, hb⟩ : ∃ b, decide (48 ≤ r) = b := ⟨_, rfl⟩
  rw [hb] at HD
  cases b
  all_goals
    go_enter Try.func36, Try.ntmps36
    go_wp2_with fail
    go_ret
    exact ⟨by rw [HD.out]; rfl, rfl⟩
theorem isBlank_any (r : Int) (w : World) :
    Calls Try.prog 22 #[.int .i32 r] w fun e w' => e = .returned (.bool (!edgeC r)) ∧ w' = w := by
  have HD := Lib.hid (show (!edgeC r) = ((r == 9) || (r == 32)) by unfold edgeC; rw [Bool.not_not])
  obtain ⟨b, hb⟩ : ∃ b, (r == 9) = b := ⟨_, rfl⟩
  rw [hb] at HD
  cases b
  all_goals
    go_enter Try.func22, Try.ntmps22
    go_wp2_with fail
    go_ret
    exact ⟨by rw [HD.out]; rfl, rfl⟩
set_option maxHeartbeats 1000000 in
theorem hasRune_low (r : Int) (w : World) (h0 : 0 ≤ r) (h1 : r < 128) :
    Calls Try.prog 37 #[.string signS, .int .i32 r] w fun e w' => e = .returned (.bool (signB r)) ∧ w' = w := by
  have HS : Hid (decide (0 ≤ Lib.indexByte signS.data.toList r.toNat.toUInt8) = signB r) := by
    have := signS_low r.toNat (by omega)
    rw [show ((r.toNat : Nat) : Int) = r by omega] at this
    exact Lib.hid this
  have HH := Lib.hid (And.intro h0 h1)
  clear h0 h1
  obtain ⟨s, hs⟩ : ∃ s, signS = s := ⟨_, rfl⟩
  rw [hs] at HS ⊢
  go_enter Try.func37, Try.ntmps37
  go_wp2_with fail
  refine (idxRune_low _ _ _ HH.out.1 HH.out.2).mono ?_
  rintro e w' ⟨rfl, rfl⟩
  go_wp2_with fail
  go_ret
  exact ⟨by rw [← HS.out]; rfl, rfl⟩
set_option maxHeartbeats 1000000 in
theorem hasRune_high (r : Int) (w : World) (h : 128 ≤ r) :
    Calls Try.prog 37 #[.string signS, .int .i32 r] w fun e w' => e = .returned (.bool false) ∧ Below w.heap.size w w' := by
  have HH := Lib.hid h
  have HS := Lib.hid (show signS.size = 15 from rfl)
  have HA := Lib.hid signS_asc
  clear h
  obtain ⟨s, hs⟩ : ∃ s, signS = s := ⟨_, rfl⟩
  rw [hs] at HS HA ⊢
  go_enter Try.func37, Try.ntmps37
  go_wp2_with fail
  refine (idxRune_high _ _ _ HS.out HA.out HH.out).mono ?_
  rintro e w' ⟨rfl, hb⟩
  have HB := Lib.hid hb
  clear hb
  go_wp2_with fail
  go_ret
  exact ⟨rfl, HB.out⟩
set_option maxHeartbeats 2000000 in
theorem ofTok_low (r : Int) (w : World) (h0 : 0 ≤ r) (h1 : r < 128) :
    Calls Try.prog 31 #[.int .i32 r] w fun e w' => e = .returned (.bool (tokC false r)) ∧ w' = w := by
  have HH := Lib.hid (And.intro h0 h1)
  have HD := Lib.hid (show tokC false r = (decide (65 ≤ r ∧ r ≤ 90) || (decide (97 ≤ r) && decide (r ≤ 122)) || figB r || signB r) by
    unfold tokC; rw [Bool.decide_and (97 ≤ r) (r ≤ 122), Bool.not_false, Bool.and_true, Bool.or_comm (decide (97 ≤ r) && _)])
  obtain ⟨b1, hb1⟩ : ∃ b, decide (65 ≤ r ∧ r ≤ 90) = b := ⟨_, rfl⟩
  obtain ⟨b2, hb2⟩ : ∃ b, decide (97 ≤ r) = b := ⟨_, rfl⟩
  obtain ⟨b3, hb3⟩ : ∃ b, decide (r ≤ 122) = b := ⟨_, rfl⟩
  obtain ⟨b4, hb4⟩ : ∃ b, figB r = b := ⟨_, rfl⟩
  rw [hb1, hb2, hb3, hb4] at HD
  have HB1 := Lib.hid hb1
  have HB4 := Lib.hid hb4
  clear h0 h1 hb1 hb4
  cases b1
  · cases b2
    · cases b4
      · go_enter Try.func31, Try.ntmps31
        go_wp2_with fail
        refine (isCap_any _ _).mono ?_
        rintro e w' ⟨rfl, rfl⟩
        rw [HB1.out]
        go_wp2_with fail
        refine (isFig_any _ _).mono ?_
        rintro e w' ⟨rfl, rfl⟩
        rw [HB4.out]
        go_wp2_with fail
        refine (hasRune_low _ _ HH.out.1 HH.out.2).mono ?_
        rintro e w' ⟨rfl, rfl⟩
        go_wp2_with fail
        go_ret
        exact ⟨by rw [HD.out]; rfl, rfl⟩
      · go_enter Try.func31, Try.ntmps31
        go_wp2_with fail
        refine (isCap_any _ _).mono ?_
        rintro e w' ⟨rfl, rfl⟩
        rw [HB1.out]
        go_wp2_with fail
        refine (isFig_any _ _).mono ?_
        rintro e w' ⟨rfl, rfl⟩
        rw [HB4.out]
        go_wp2_with fail
        go_ret
        exact ⟨by rw [HD.out]; rfl, rfl⟩
    · cases b3
      · cases b4
        · go_enter Try.func31, Try.ntmps31
          go_wp2_with fail
          refine (isCap_any _ _).mono ?_
          rintro e w' ⟨rfl, rfl⟩
          rw [HB1.out]
          go_wp2_with fail
          refine (isFig_any _ _).mono ?_
          rintro e w' ⟨rfl, rfl⟩
          rw [HB4.out]
          go_wp2_with fail
          refine (hasRune_low _ _ HH.out.1 HH.out.2).mono ?_
          rintro e w' ⟨rfl, rfl⟩
          go_wp2_with fail
          go_ret
          exact ⟨by rw [HD.out]; rfl, rfl⟩
        · go_enter Try.func31, Try.ntmps31
          go_wp2_with fail
          refine (isCap_any _ _).mono ?_
          rintro e w' ⟨rfl, rfl⟩
          rw [HB1.out]
          go_wp2_with fail
          refine (isFig_any _ _).mono ?_
          rintro e w' ⟨rfl, rfl⟩
          rw [HB4.out]
          go_wp2_with fail
          go_ret
          exact ⟨by rw [HD.out]; rfl, rfl⟩
      · go_enter Try.func31, Try.ntmps31
        go_wp2_with fail
        refine (isCap_any _ _).mono ?_
        rintro e w' ⟨rfl, rfl⟩
        rw [HB1.out]
        go_wp2_with fail
        go_ret
        exact ⟨by rw [HD.out]; rfl, rfl⟩
  · go_enter Try.func31, Try.ntmps31
    go_wp2_with fail
    refine (isCap_any _ _).mono ?_
    rintro e w' ⟨rfl, rfl⟩
    rw [HB1.out]
    go_wp2_with fail
    go_ret
    exact ⟨by rw [HD.out]; rfl, rfl⟩
set_option maxHeartbeats 2000000 in
theorem ofTok_high (r : Int) (w : World) (h : 128 ≤ r) :
    Calls Try.prog 31 #[.int .i32 r] w fun e w' => e = .returned (.bool false) ∧ Below w.heap.size w w' := by
  have HH := Lib.hid h
  have HB1 := Lib.hid (show decide (65 ≤ r ∧ r ≤ 90) = false from decide_eq_false (by omega))
  have HB4 := Lib.hid (high_fig h)
  have d2 : decide (97 ≤ r) = true := decide_eq_true (by omega)
  have d3 : decide (r ≤ 122) = false := decide_eq_false (by omega)
  clear h
  go_enter Try.func31, Try.ntmps31
  go_wp2_with fail
  refine (isCap_any _ _).mono ?_
  rintro e w' ⟨rfl, rfl⟩
  rw [HB1.out]
  go_wp2_with fail
  refine (isFig_any _ _).mono ?_
  rintro e w' ⟨rfl, rfl⟩
  rw [HB4.out]
  go_wp2_with fail
  refine (hasRune_high _ _ HH.out).mono ?_
  rintro e w2 ⟨rfl, hb⟩
  have HB := Lib.hid hb
  clear hb
  go_wp2_with fail
  go_ret
  exact ⟨rfl, HB.out⟩
end Go.Proofs.Ytabonhiolcjnnaa
