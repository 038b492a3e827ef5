
/-
  Package item: the kind that an item's first bits tell.
-/
import Derived.Test.YtimggejonppegaaDoorItTab
import Derived.Test.YtimggejonppegaaDoorPrefDec
import Derived.WalkMore
import Derived.Deep.LoopGhost
namespace Go.Proofs.YtimggejonppegaaDoor
open Go.RowKit

set_option maxRecDepth 20000 in
theorem isSet_any (b : Int) (m : Nat) (w : World) (h0 : 0 ≤ b) (h1 : b ≤ 255) (hm : m ≤ 7) :
    Calls Tryd.prog 38 #[.int .i64 b, .int .i64 m] w fun e w' => e = .returned (.bool (decide (b / 2 ^ m % 2 = 1))) ∧ w = w' := by
  have hp : (0 : Int) < 2 ^ m := Int.pow_pos (by decide)
  have HM : Hid (bits .and .i64 (b / 2 ^ m) 1 = b / 2 ^ m % 2) := by
    have h2 : b / 2 ^ m ≤ 255 := Int.le_trans (Int.ediv_le_self _ h0) h1
    have := i64_mask 1 (b / 2 ^ m) (by decide) (by decide) (Int.ediv_nonneg h0 (Int.le_of_lt hp)) h2
    exact this
  go_enter Tryd.func38, Tryd.ntmps38
  go_wp2_with fail
  go_ret
  refine ⟨?_, rfl⟩
  show Ending.returned (.bool (bits .and .i64 (b / 2 ^ m) 1 == 1)) = _
  rw [HM.out, Bool.beq_eq_decide_eq]

/-- the kind of a first byte -/
def kindI (c : Int) : Int := if 128 ≤ c then 0 else if 64 ≤ c then 1 else if 32 ≤ c then 4 else if 16 ≤ c then 3 else 2
theorem kindI_bound (c : Int) : 0 ≤ kindI c ∧ kindI c < 5 := by unfold kindI; split <;> (try split) <;> (try split) <;> (try split) <;> omega
/-- the bits from one on are those of a kind -/
def alike (k c : Int) (j : Nat) : Prop := c / 2 ^ j = aboveI k / 2 ^ j
theorem alike_step {k c : Int} {m : Nat} (h : alike k c (m + 1)) (he : c / 2 ^ m % 2 = aboveI k / 2 ^ m % 2) : alike k c m := by
  unfold alike at *
  have hp : (0 : Int) < 2 ^ m := Int.pow_pos (by decide)
  rw [Int.pow_succ, ← Int.ediv_ediv_of_nonneg (Int.le_of_lt hp), ← Int.ediv_ediv_of_nonneg (Int.le_of_lt hp)] at h
  omega
theorem alike_up {k c : Int} {m : Nat} (h : alike k c m) : ∀ d, alike k c (m + d) := by
  unfold alike at *
  intro d
  have hp : (0 : Int) < 2 ^ m := Int.pow_pos (by decide)
  rw [Int.pow_add, ← Int.ediv_ediv_of_nonneg (Int.le_of_lt hp), ← Int.ediv_ediv_of_nonneg (Int.le_of_lt hp), h]
theorem alike_not {k c : Int} {m b : Nat} (hb : b ≤ m) (h : c / 2 ^ m % 2 ≠ aboveI k / 2 ^ m % 2) : ¬ alike k c b := by
  intro h2
  obtain ⟨d, rfl⟩ := Nat.exists_eq_add_of_le hb
  have := alike_up h2 d
  unfold alike at this
  rw [this] at h
  exact h rfl
theorem alike_top {k c : Int} (h0 : 0 ≤ c) (h1 : c ≤ 255) : alike k c 8 := by
  have e : aboveI k / 2 ^ 8 = 0 := by unfold aboveI; split <;> (try split) <;> (try split) <;> (try split) <;> decide
  rw [alike, e]
  omega
theorem kindI_of {k c : Int} (k0 : 0 ≤ k) (k4 : k < 5) (h0 : 0 ≤ c) (h1 : c ≤ 255) (h : alike k c (bitsI k).toNat) : kindI c = k := by
  rcases kind_cases k0 k4 with rfl | rfl | rfl | rfl | rfl <;>
  · simp [alike, bitsI, aboveI] at h
    unfold kindI
    split <;> (try split) <;> (try split) <;> (try split) <;> omega
theorem kindI_is (c : Int) (h0 : 0 ≤ c) (h1 : c ≤ 255) : alike (kindI c) c (bitsI (kindI c)).toNat := by
  unfold kindI
  split
  · simp [alike, bitsI, aboveI]; omega
  split
  · simp [alike, bitsI, aboveI]; omega
  split
  · simp [alike, bitsI, aboveI]; omega
  split
  · simp [alike, bitsI, aboveI]; omega
  · simp [alike, bitsI, aboveI]; omega

/-- a row of the table -/
def rowV (k : Int) : Value := .agg #[.int .i64 (bitsI k), .int .i64 (aboveI k), .int .i64 (leastI k), .bool (textsI k)]
theorem row_index0 (q : IntKind) (W : World) : (Instr.index 44 (.agg shCells) (.int q 0)).run Tryd.prog W = .ok (rowV 0) W := by kernel_rfl
theorem row_index1 (q : IntKind) (W : World) : (Instr.index 44 (.agg shCells) (.int q 1)).run Tryd.prog W = .ok (rowV 1) W := by kernel_rfl
theorem row_index2 (q : IntKind) (W : World) : (Instr.index 44 (.agg shCells) (.int q 2)).run Tryd.prog W = .ok (rowV 2) W := by kernel_rfl
theorem row_index3 (q : IntKind) (W : World) : (Instr.index 44 (.agg shCells) (.int q 3)).run Tryd.prog W = .ok (rowV 3) W := by kernel_rfl
theorem row_index4 (q : IntKind) (W : World) : (Instr.index 44 (.agg shCells) (.int q 4)).run Tryd.prog W = .ok (rowV 4) W := by kernel_rfl
theorem row_index (k : Nat) (hk : k < 5) (q : IntKind) (W : World) : (Instr.index 44 (.agg shCells) (.int q k)).run Tryd.prog W = .ok (rowV k) W := by
  have h : k = 0 ∨ k = 1 ∨ k = 2 ∨ k = 3 ∨ k = 4 := by omega
  rcases h with rfl | rfl | rfl | rfl | rfl
  · exact row_index0 q W
  · exact row_index1 q W
  · exact row_index2 q W
  · exact row_index3 q W
  · exact row_index4 q W
theorem shUnder : Tryd.prog.underlying 44 = some (.array 5 43) := by kernel_rfl
theorem shSize : (Tryd.prog.info? 44).map (·.size) = some shCells.size := by kernel_rfl

set_option maxHeartbeats 8000000 in
set_option maxRecDepth 20000 in
theorem kindOf_any (c : Int) (w : World) (hT : ShT w) (h0 : 0 ≤ c) (h1 : c ≤ 255) :
    Calls Tryd.prog 21 #[.int .i64 c] w fun e w' => e = .returned (.int .i64 (kindI c)) ∧ Below w.heap.size w w' := by
  obtain ⟨tt, fr, ht⟩ := hT
  go_enter Tryd.func21, Tryd.ntmps21
  go_wp2_with fail
  go_step3
  go_wp2_with fail
  go_step3
  go_wp2_with (with_reducible refine wpList_load_row rfl 44 (.global 0) rfl 0 rfl tt shCells fr _ ht shUnder rfl shSize ?_)
  have HT := Lib.hid ht
  clear ht
  go_loopg [3, 8] 5 (fun g s3 s8 wr => ∃ k : Nat, k + g = 5 ∧ s8 = .int .i64 k ∧ s3 = .int .i64 0 ∧ Hid (∀ i : Nat, i < k → ¬ alike i c (bitsI i).toNat) ∧ Hid (Below w.heap.size w wr))
  case atStart => exact ⟨0, rfl, rfl, rfl, Lib.hid (fun i h => by omega), Lib.hid (Below.refl _ _)⟩
  case round =>
    obtain ⟨k, hkg, rfl, rfl, HN, HB⟩ := hrel
    have HKG := Lib.hid hkg
    have hk : k ≤ 5 := by omega
    clear hkg
    by_cases hlt : k < 5
    · have hx := row_index k hlt
      obtain ⟨m, hm, hm4, hm7⟩ : ∃ m : Nat, bitsI k = m ∧ 4 ≤ m ∧ m ≤ 7 := by
        rcases kind_cases (k := k) (by omega) (by omega) with h | h | h | h | h <;> rw [h]
        · exact ⟨7, by decide⟩
        · exact ⟨6, by decide⟩
        · exact ⟨4, by decide⟩
        · exact ⟨4, by decide⟩
        · exact ⟨5, by decide⟩
      have ha : 0 ≤ aboveI k ∧ aboveI k ≤ 255 := by unfold aboveI; split <;> (try split) <;> (try split) <;> (try split) <;> omega
      obtain ⟨A, hA⟩ : ∃ A, aboveI k = A := ⟨_, rfl⟩
      obtain ⟨L, hL⟩ : ∃ L, leastI k = L := ⟨_, rfl⟩
      obtain ⟨T, hT⟩ : ∃ T, textsI k = T := ⟨_, rfl⟩
      rw [rowV, hm, hA, hL, hT] at hx
      rw [hA] at ha
      obtain ⟨a0, a1⟩ := ha
      have HA := Lib.hid hA
      have HM := Lib.hid hm
      clear hA hL hT hm
      go_wp2_with fail
      have HW : Hid ((wr.alloc (.cells #[.int .i64 m, .int .i64 A, .int .i64 L, .bool T] 43)).heap[wr.heap.size]? = some (.cells #[.int .i64 m, .int .i64 A, .int .i64 L, .bool T] 43 (0, 0)) ∧ Below w.heap.size w (wr.alloc (.cells #[.int .i64 m, .int .i64 A, .int .i64 L, .bool T] 43))) := ⟨heap_alloc_new _ _, HB.out.alloc HB.out.size _⟩
      obtain ⟨g0, hg0⟩ : ∃ g0, gk = g0 := ⟨_, rfl⟩
      subst hg0
      obtain ⟨R, hR⟩ : ∃ R, wr.heap.size = R := ⟨_, rfl⟩
      rw [hR] at HW ⊢
      clear hx hR
      go_loopg [6] 8 (fun g s6 wx => ∃ b : Nat, b ≤ 7 ∧ b + 1 = g ∧ s6 = .int .i64 b ∧ m ≤ b + 1 ∧ Hid (alike k c (b + 1)) ∧ Hid (wx.heap[R]? = some (.cells #[.int .i64 m, .int .i64 A, .int .i64 L, .bool T] 43 (0, 0)) ∧ Below w.heap.size w wx))
      case atStart => exact ⟨7, by omega, rfl, rfl, by omega, Lib.hid (alike_top h0 h1), HW⟩
      case round =>
        obtain ⟨b, hb7, hbg, rfl, hmb, HL, HX⟩ := hrel
        have HBG := Lib.hid hbg
        clear hbg HW HB
        by_cases hge : m ≤ b
        · have c0 := blk_cell (j := 0) HX.out.1 rfl
          have c1 := blk_cell (j := 1) HX.out.1 rfl
          have q0 : wr.cell? ⟨R, 0, none⟩ = some (.int .i64 m) := c0
          have q1 : wr.cell? ⟨R, 1, none⟩ = some (.int .i64 A) := c1
          clear c0 c1
          have d1 : decide ((m : Int) ≤ (b : Int)) = true := decide_eq_true (by omega)
          have S1 : Hid (∀ W : World, Calls Tryd.prog 38 #[.int .i64 c, .int .i64 b] W fun e w' => e = .returned (.bool (decide (c / 2 ^ b % 2 = 1))) ∧ w' = W) := fun W => (isSet_any c b W h0 h1 (by omega)).mono (fun e w' h => ⟨h.1, h.2.symm⟩)
          have S2 : Hid (∀ W : World, Calls Tryd.prog 38 #[.int .i64 A, .int .i64 b] W fun e w' => e = .returned (.bool (decide (A / 2 ^ b % 2 = 1))) ∧ w' = W) := fun W => (isSet_any A b W a0 a1 (by omega)).mono (fun e w' h => ⟨h.1, h.2.symm⟩)
          by_cases he : c / 2 ^ b % 2 = A / 2 ^ b % 2
          · have hne : (!(decide (c / 2 ^ b % 2 = 1) == decide (A / 2 ^ b % 2 = 1))) = false := by rw [he]; simp
            have HS := Lib.hid (alike_step HL.out (by rw [HA.out]; exact he))
            clear he
            obtain ⟨u, hu⟩ : ∃ u, decide (c / 2 ^ b % 2 = 1) = u := ⟨_, rfl⟩
            obtain ⟨v, hv⟩ : ∃ v, decide (A / 2 ^ b % 2 = 1) = v := ⟨_, rfl⟩
            rw [hu] at hne S1
            rw [hv] at hne S2
            clear hu hv
            go_wp2_with fail
            go_quiet ((go_at_call 38; first | exact Calls.quiet_of_same (S1.out _) | exact Calls.quiet_of_same (S2.out _)))
            go_wp2_with fail
            go_roundg b
            case measure => have := HBG.out; omega
            case rel =>
              obtain ⟨b', rfl⟩ : ∃ b', b = b' + 1 := ⟨b - 1, by omega⟩
              exact ⟨b', by omega, by omega, by go_num, by omega, HS, Lib.hid ⟨HX.out.1, below_drewN HX.out.2 _⟩⟩
          · have hne : (!(decide (c / 2 ^ b % 2 = 1) == decide (A / 2 ^ b % 2 = 1))) = true := by
              have h1 : c / 2 ^ b % 2 = 0 ∨ c / 2 ^ b % 2 = 1 := by omega
              have h2 : A / 2 ^ b % 2 = 0 ∨ A / 2 ^ b % 2 = 1 := by omega
              rcases h1 with h1 | h1 <;> rcases h2 with h2 | h2 <;> simp [h1, h2] at he ⊢
            have HS := Lib.hid (alike_not (k := k) (m := b) (b := (bitsI k).toNat) (by rw [HM.out]; omega) (by rw [HA.out]; exact he))
            clear he
            obtain ⟨u, hu⟩ : ∃ u, decide (c / 2 ^ b % 2 = 1) = u := ⟨_, rfl⟩
            obtain ⟨v, hv⟩ : ∃ v, decide (A / 2 ^ b % 2 = 1) = v := ⟨_, rfl⟩
            rw [hu] at hne S1
            rw [hv] at hne S2
            clear hu hv
            go_wp2_with fail
            go_quiet ((go_at_call 38; first | exact Calls.quiet_of_same (S1.out _) | exact Calls.quiet_of_same (S2.out _)))
            go_wp2_with fail
            go_roundg (5 - (k + 1))
            case measure => have := HKG.out; omega
            case rel =>
              refine ⟨k + 1, by omega, by go_num, rfl, Lib.hid (fun i hi => ?_), Lib.hid (below_drewN HX.out.2 _)⟩
              by_cases hik : i = k
              · rw [hik]; exact HS.out
              · exact HN.out i (by omega)
        · have hend : m = b + 1 := by omega
          have c0 : wr.cell? ⟨R, 0, none⟩ = some (.int .i64 m) := blk_cell (j := 0) HX.out.1 rfl
          have d1 : decide ((m : Int) ≤ (b : Int)) = false := decide_eq_false (by omega)
          have HK : Hid (kindI c = k) := kindI_of (by omega) (by omega) h0 h1 (by rw [HM.out, hend]; exact HL.out)
          clear hend
          go_wp2_with fail
          try rw [Exit.noGoto_ret]
          go_ret
          exact ⟨by rw [HK.out]; rfl, HX.out.2⟩
    · obtain rfl : k = 5 := by omega
      exfalso
      have h5 := kindI_bound c
      have := kindI_is c h0 h1
      refine HN.out (kindI c).toNat (by omega) ?_
      rw [Int.toNat_of_nonneg h5.1]
      exact this
end Go.Proofs.YtimggejonppegaaDoor
