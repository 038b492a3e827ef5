/-
  WireBack: its walk, in six ways: whether the two numbers fit, whether the bytes are a number's.
-/
import Derived.Test.YtfcaaahjoiddhaaLaw01b
namespace Go.Proofs.Ytfcaaahjoiddhaa
open Go.RowKit

/-- a number fits -/
def Fits (n s : Int) : Prop := 1 ≤ s ∧ s ≤ 4 ∧ 0 ≤ n ∧ n < 256 ^ s.toNat
theorem fits_not {n s : Int} (h : ¬ Fits n s) : s < 1 ∨ 4 < s ∨ n < 0 ∨ 256 ^ s.toNat ≤ n := by unfold Fits at h; omega

theorem back_long (p q s : Int) (v : Value) (zs : List Int) (w : World) (hv : Sl .u8 w v zs) (h : 300 < zs.length) :
    Calls Try.prog 4 #[.agg #[.int .i64 p, .int .i64 q], .int .i64 s, v] w fun e w' => e = .returned (.bool true) ∧ Below w.heap.size w w' := by
  obtain ⟨a, cap, rfl, _⟩ := hv
  have hb0 := (Below.refl w.heap.size w).alloc (Nat.le_refl _) (.cells #[.int .i64 p, .int .i64 q] 33)
  go_enter Try.func4, Try.ntmps4
  go_wp2_with (go_at_call 5; refine (alive_any _).mono ?_; rintro e w' ⟨rfl, hb⟩)
  go_ret
  exact ⟨rfl, hb0.trans (hb.mono (by simp))⟩

theorem back_An (p q s : Int) (v : Value) (zs : List Int) (w : World) (hv : Sl .u8 w v zs) (hl : zs.length ≤ 300) (hp : s < 1 ∨ 4 < s ∨ p < 0 ∨ 256 ^ s.toNat ≤ p) (hg : zs.length < 1 ∨ 4 < zs.length) :
    Calls Try.prog 4 #[.agg #[.int .i64 p, .int .i64 q], .int .i64 s, v] w fun e w' => e = .returned (.bool true) ∧ Below w.heap.size w w' := by
  obtain ⟨a, cap, rfl, _⟩ := id hv
  have hmax := hv.len
  unfold maxLen at hmax
  have hb0 := (Below.refl w.heap.size w).alloc (Nat.le_refl _) (.cells #[.int .i64 p, .int .i64 q] 33)
  have hv0 := hv.alloc (.cells #[.int .i64 p, .int .i64 q] 33)
  clear hv
  go_enter Try.func4, Try.ntmps4
  go_wp2_with fail
  refine (put_no p s _ hp).mono ?_
  rintro e w' ⟨rfl, rfl⟩
  go_wp2_with fail
  refine (put_any q s _).mono ?_
  rintro e w1 ⟨y, rfl, hy, hb1⟩
  have hb := hb0.trans (hb1.mono (by simp))
  have hv1 := hv0.below hb1
  clear hb0 hb1 hv0
  go_wp2_with fail
  go_quiet (fail)
  go_wp2_with fail
  refine (get_no _ zs _ (hv1.drewN _) hg).mono ?_
  rintro e w' ⟨rfl, rfl⟩
  go_wp2_with fail
  have hz := hb.size
  refine (alive_any _).mono ?_
  rintro e w9 ⟨rfl, hb9⟩
  go_wp2_with fail
  go_ret
  exact ⟨rfl, (below_drewN hb _).trans (hb9.mono hz)⟩

theorem back_Ay (p q s : Int) (v : Value) (zs : List Int) (w : World) (hv : Sl .u8 w v zs) (hl : zs.length ≤ 300) (hp : s < 1 ∨ 4 < s ∨ p < 0 ∨ 256 ^ s.toNat ≤ p) (hg : 1 ≤ zs.length ∧ zs.length ≤ 4) :
    Calls Try.prog 4 #[.agg #[.int .i64 p, .int .i64 q], .int .i64 s, v] w fun e w' => e = .returned (.bool true) ∧ Below w.heap.size w w' := by
  obtain ⟨a, cap, rfl, _⟩ := id hv
  have hmax := hv.len
  unfold maxLen at hmax
  have hb0 := (Below.refl w.heap.size w).alloc (Nat.le_refl _) (.cells #[.int .i64 p, .int .i64 q] 33)
  have hv0 := hv.alloc (.cells #[.int .i64 p, .int .i64 q] 33)
  have hg1 : (1 : Int) ≤ (zs.length : Int) := by omega
  have hg2 : (zs.length : Int) ≤ 4 := by omega
  have hg3 := (num_bound _ zs rfl hv.fit).1
  have hg4 : num zs < 256 ^ (zs.length : Int).toNat := by rw [Int.toNat_natCast]; exact (num_bound _ zs rfl hv.fit).2
  have HG := Lib.hid (show putL (num zs) (zs.length : Int).toNat = zs by rw [Int.toNat_natCast]; exact putL_num _ zs rfl hv.fit)
  clear hv
  go_enter Try.func4, Try.ntmps4
  go_wp2_with fail
  refine (put_no p s _ hp).mono ?_
  rintro e w' ⟨rfl, rfl⟩
  go_wp2_with fail
  refine (put_any q s _).mono ?_
  rintro e w1 ⟨y, rfl, hy, hb1⟩
  have hb := hb0.trans (hb1.mono (by simp))
  have hv1 := hv0.below hb1
  clear hb0 hb1 hv0
  go_wp2_with fail
  go_quiet (fail)
  go_wp2_with fail
  refine (get_yes _ zs _ (hv1.drewN _) hg.1 hg.2).mono ?_
  rintro e w' ⟨rfl, rfl⟩
  go_wp2_with fail
  refine (put_yes _ _ _ hg1 hg2 hg3 hg4).mono ?_
  rintro e w7 ⟨own, rfl, how, hb7⟩
  have hb7' := (below_drewN hb _).trans (hb7.mono hb.size)
  have hv7 := (hv1.drewN _).below hb7
  go_wp2_with fail
  refine (same_any _ _ _ _ _ how hv7).mono ?_
  rintro e w8 ⟨rfl, n8, rfl⟩
  rw [decide_eq_true HG.out]
  go_wp2_with fail
  have hz := hb7'.size
  refine (alive_any _).mono ?_
  rintro e w9 ⟨rfl, hb9⟩
  go_wp2_with fail
  go_ret
  exact ⟨rfl, (below_drewN hb7' _).trans (hb9.mono hz)⟩

theorem back_Bn (p q s : Int) (v : Value) (zs : List Int) (w : World) (hv : Sl .u8 w v zs) (hl : zs.length ≤ 300) (hp : Fits p s) (hq : s < 1 ∨ 4 < s ∨ q < 0 ∨ 256 ^ s.toNat ≤ q) (hg : zs.length < 1 ∨ 4 < zs.length) :
    Calls Try.prog 4 #[.agg #[.int .i64 p, .int .i64 q], .int .i64 s, v] w fun e w' => e = .returned (.bool true) ∧ Below w.heap.size w w' := by
  obtain ⟨a, cap, rfl, _⟩ := id hv
  have hmax := hv.len
  unfold maxLen at hmax
  have hb0 := (Below.refl w.heap.size w).alloc (Nat.le_refl _) (.cells #[.int .i64 p, .int .i64 q] 33)
  have hv0 := hv.alloc (.cells #[.int .i64 p, .int .i64 q] 33)
  clear hv
  have hc0 : (w.alloc (.cells #[.int .i64 p, .int .i64 q] 33)).cell? ⟨w.heap.size, 0, none⟩ = some (.int .i64 p) := by simp
  have hc1 : (w.alloc (.cells #[.int .i64 p, .int .i64 q] 33)).cell? ⟨w.heap.size, 1, none⟩ = some (.int .i64 q) := by simp
  have hs4 : (putL p s.toNat).length ≤ 4 := by have := hp.2.1; rw [putL_length]; omega
  have hs1 : 1 ≤ (putL p s.toNat).length := by have := hp.1; rw [putL_length]; omega
  have HN := Lib.hid (num_putL s.toNat p hp.2.2.1 hp.2.2.2)
  go_enter Try.func4, Try.ntmps4
  go_wp2_with fail
  refine (put_yes p s _ hp.1 hp.2.1 hp.2.2.1 hp.2.2.2).mono ?_
  rintro e w1 ⟨x, rfl, hx, hb1⟩
  have hb1' := hb0.trans (hb1.mono (by simp))
  have hv1' := hv0.below hb1
  have hcp := (hb1.cell (p := ⟨w.heap.size, 0, none⟩) (by simp)).trans hc0
  have hcq := (hb1.cell (p := ⟨w.heap.size, 1, none⟩) (by simp)).trans hc1
  have hlt1 : w.heap.size < w1.heap.size := by have := hb1.size; simp at this; omega
  clear hb0 hb1 hv0 hc0 hc1
  go_wp2_with fail
  refine (put_no q s _ hq).mono ?_
  rintro e w' ⟨rfl, rfl⟩
  have hb := hb1'
  have hv1 := hv1'
  clear hb1' hv1'
  go_wp2_with fail
  refine (get_yes x _ _ hx hs1 hs4).mono ?_
  rintro e w' ⟨rfl, rfl⟩
  rw [HN.out]
  go_wp2_with fail
  go_quiet (fail)
  go_wp2_with fail
  refine (get_no _ zs _ (hv1.drewN _) hg).mono ?_
  rintro e w' ⟨rfl, rfl⟩
  go_wp2_with fail
  have hz := hb.size
  refine (alive_any _).mono ?_
  rintro e w9 ⟨rfl, hb9⟩
  go_wp2_with fail
  go_ret
  exact ⟨rfl, (below_drewN hb _).trans (hb9.mono hz)⟩

theorem back_By (p q s : Int) (v : Value) (zs : List Int) (w : World) (hv : Sl .u8 w v zs) (hl : zs.length ≤ 300) (hp : Fits p s) (hq : s < 1 ∨ 4 < s ∨ q < 0 ∨ 256 ^ s.toNat ≤ q) (hg : 1 ≤ zs.length ∧ zs.length ≤ 4) :
    Calls Try.prog 4 #[.agg #[.int .i64 p, .int .i64 q], .int .i64 s, v] w fun e w' => e = .returned (.bool true) ∧ Below w.heap.size w w' := by
  obtain ⟨a, cap, rfl, _⟩ := id hv
  have hmax := hv.len
  unfold maxLen at hmax
  have hb0 := (Below.refl w.heap.size w).alloc (Nat.le_refl _) (.cells #[.int .i64 p, .int .i64 q] 33)
  have hv0 := hv.alloc (.cells #[.int .i64 p, .int .i64 q] 33)
  have hg1 : (1 : Int) ≤ (zs.length : Int) := by omega
  have hg2 : (zs.length : Int) ≤ 4 := by omega
  have hg3 := (num_bound _ zs rfl hv.fit).1
  have hg4 : num zs < 256 ^ (zs.length : Int).toNat := by rw [Int.toNat_natCast]; exact (num_bound _ zs rfl hv.fit).2
  have HG := Lib.hid (show putL (num zs) (zs.length : Int).toNat = zs by rw [Int.toNat_natCast]; exact putL_num _ zs rfl hv.fit)
  clear hv
  have hc0 : (w.alloc (.cells #[.int .i64 p, .int .i64 q] 33)).cell? ⟨w.heap.size, 0, none⟩ = some (.int .i64 p) := by simp
  have hc1 : (w.alloc (.cells #[.int .i64 p, .int .i64 q] 33)).cell? ⟨w.heap.size, 1, none⟩ = some (.int .i64 q) := by simp
  have hs4 : (putL p s.toNat).length ≤ 4 := by have := hp.2.1; rw [putL_length]; omega
  have hs1 : 1 ≤ (putL p s.toNat).length := by have := hp.1; rw [putL_length]; omega
  have HN := Lib.hid (num_putL s.toNat p hp.2.2.1 hp.2.2.2)
  go_enter Try.func4, Try.ntmps4
  go_wp2_with fail
  refine (put_yes p s _ hp.1 hp.2.1 hp.2.2.1 hp.2.2.2).mono ?_
  rintro e w1 ⟨x, rfl, hx, hb1⟩
  have hb1' := hb0.trans (hb1.mono (by simp))
  have hv1' := hv0.below hb1
  have hcp := (hb1.cell (p := ⟨w.heap.size, 0, none⟩) (by simp)).trans hc0
  have hcq := (hb1.cell (p := ⟨w.heap.size, 1, none⟩) (by simp)).trans hc1
  have hlt1 : w.heap.size < w1.heap.size := by have := hb1.size; simp at this; omega
  clear hb0 hb1 hv0 hc0 hc1
  go_wp2_with fail
  refine (put_no q s _ hq).mono ?_
  rintro e w' ⟨rfl, rfl⟩
  have hb := hb1'
  have hv1 := hv1'
  clear hb1' hv1'
  go_wp2_with fail
  refine (get_yes x _ _ hx hs1 hs4).mono ?_
  rintro e w' ⟨rfl, rfl⟩
  rw [HN.out]
  go_wp2_with fail
  go_quiet (fail)
  go_wp2_with fail
  refine (get_yes _ zs _ (hv1.drewN _) hg.1 hg.2).mono ?_
  rintro e w' ⟨rfl, rfl⟩
  go_wp2_with fail
  refine (put_yes _ _ _ hg1 hg2 hg3 hg4).mono ?_
  rintro e w7 ⟨own, rfl, how, hb7⟩
  have hb7' := (below_drewN hb _).trans (hb7.mono hb.size)
  have hv7 := (hv1.drewN _).below hb7
  go_wp2_with fail
  refine (same_any _ _ _ _ _ how hv7).mono ?_
  rintro e w8 ⟨rfl, n8, rfl⟩
  rw [decide_eq_true HG.out]
  go_wp2_with fail
  have hz := hb7'.size
  refine (alive_any _).mono ?_
  rintro e w9 ⟨rfl, hb9⟩
  go_wp2_with fail
  go_ret
  exact ⟨rfl, (below_drewN hb7' _).trans (hb9.mono hz)⟩

theorem back_Cn (p q s : Int) (v : Value) (zs : List Int) (w : World) (hv : Sl .u8 w v zs) (hl : zs.length ≤ 300) (hp : Fits p s) (hq : Fits q s) (hg : zs.length < 1 ∨ 4 < zs.length) :
    Calls Try.prog 4 #[.agg #[.int .i64 p, .int .i64 q], .int .i64 s, v] w fun e w' => e = .returned (.bool true) ∧ Below w.heap.size w w' := by
  obtain ⟨a, cap, rfl, _⟩ := id hv
  have hmax := hv.len
  unfold maxLen at hmax
  have hb0 := (Below.refl w.heap.size w).alloc (Nat.le_refl _) (.cells #[.int .i64 p, .int .i64 q] 33)
  have hv0 := hv.alloc (.cells #[.int .i64 p, .int .i64 q] 33)
  clear hv
  have hc0 : (w.alloc (.cells #[.int .i64 p, .int .i64 q] 33)).cell? ⟨w.heap.size, 0, none⟩ = some (.int .i64 p) := by simp
  have hc1 : (w.alloc (.cells #[.int .i64 p, .int .i64 q] 33)).cell? ⟨w.heap.size, 1, none⟩ = some (.int .i64 q) := by simp
  have hs4 : (putL p s.toNat).length ≤ 4 := by have := hp.2.1; rw [putL_length]; omega
  have hs1 : 1 ≤ (putL p s.toNat).length := by have := hp.1; rw [putL_length]; omega
  have HN := Lib.hid (num_putL s.toNat p hp.2.2.1 hp.2.2.2)
  have HLS := Lib.hid (show lessL (putL p s.toNat) (putL q s.toNat) = decide (p < q) by
    rw [lessL_num _ _ (by rw [putL_length, putL_length]) (putL_fit _ _) (putL_fit _ _), num_putL _ _ hp.2.2.1 hp.2.2.2, num_putL _ _ hq.2.2.1 hq.2.2.2])
  go_enter Try.func4, Try.ntmps4
  go_wp2_with fail
  refine (put_yes p s _ hp.1 hp.2.1 hp.2.2.1 hp.2.2.2).mono ?_
  rintro e w1 ⟨x, rfl, hx, hb1⟩
  have hb1' := hb0.trans (hb1.mono (by simp))
  have hv1' := hv0.below hb1
  have hcp := (hb1.cell (p := ⟨w.heap.size, 0, none⟩) (by simp)).trans hc0
  have hcq := (hb1.cell (p := ⟨w.heap.size, 1, none⟩) (by simp)).trans hc1
  have hlt1 : w.heap.size < w1.heap.size := by have := hb1.size; simp at this; omega
  clear hb0 hb1 hv0 hc0 hc1
  go_wp2_with fail
  refine (put_yes q s _ hq.1 hq.2.1 hq.2.2.1 hq.2.2.2).mono ?_
  rintro e w2 ⟨y, rfl, hy, hb2⟩
  have hx2 := hx.below hb2
  have hb := hb1'.trans (hb2.mono hb1'.size)
  have hv1 := hv1'.below hb2
  have hcp2 := (hb2.cell (p := ⟨w.heap.size, 0, none⟩) hlt1).trans hcp
  have hcq2 := (hb2.cell (p := ⟨w.heap.size, 1, none⟩) hlt1).trans hcq
  clear hb1' hv1' hcp hcq hb2 hx
  go_wp2_with fail
  refine (get_yes x _ _ hx2 hs1 hs4).mono ?_
  rintro e w' ⟨rfl, rfl⟩
  rw [HN.out]
  go_wp2_with fail
  have hless : Hid (∀ n, Calls Try.prog 12 #[x, y] (w2.drewN n) fun e w' => e = .returned (.bool (decide (p < q))) ∧ ∃ m, w' = (w2.drewN n).drewN m) := by
    intro n
    have h := less_any x y _ _ _ (hx2.drewN n) (hy.drewN n)
    rw [HLS.out] at h
    exact h
  go_quiet ((go_at_call 12; exact Calls.quiet_of (hless.out _)))
  go_wp2_with fail
  refine (get_no _ zs _ (hv1.drewN _) hg).mono ?_
  rintro e w' ⟨rfl, rfl⟩
  go_wp2_with fail
  have hz := hb.size
  refine (alive_any _).mono ?_
  rintro e w9 ⟨rfl, hb9⟩
  go_wp2_with fail
  go_ret
  exact ⟨rfl, (below_drewN hb _).trans (hb9.mono hz)⟩

theorem back_Cy (p q s : Int) (v : Value) (zs : List Int) (w : World) (hv : Sl .u8 w v zs) (hl : zs.length ≤ 300) (hp : Fits p s) (hq : Fits q s) (hg : 1 ≤ zs.length ∧ zs.length ≤ 4) :
    Calls Try.prog 4 #[.agg #[.int .i64 p, .int .i64 q], .int .i64 s, v] w fun e w' => e = .returned (.bool true) ∧ Below w.heap.size w w' := by
  obtain ⟨a, cap, rfl, _⟩ := id hv
  have hmax := hv.len
  unfold maxLen at hmax
  have hb0 := (Below.refl w.heap.size w).alloc (Nat.le_refl _) (.cells #[.int .i64 p, .int .i64 q] 33)
  have hv0 := hv.alloc (.cells #[.int .i64 p, .int .i64 q] 33)
  have hg1 : (1 : Int) ≤ (zs.length : Int) := by omega
  have hg2 : (zs.length : Int) ≤ 4 := by omega
  have hg3 := (num_bound _ zs rfl hv.fit).1
  have hg4 : num zs < 256 ^ (zs.length : Int).toNat := by rw [Int.toNat_natCast]; exact (num_bound _ zs rfl hv.fit).2
  have HG := Lib.hid (show putL (num zs) (zs.length : Int).toNat = zs by rw [Int.toNat_natCast]; exact putL_num _ zs rfl hv.fit)
  clear hv
  have hc0 : (w.alloc (.cells #[.int .i64 p, .int .i64 q] 33)).cell? ⟨w.heap.size, 0, none⟩ = some (.int .i64 p) := by simp
  have hc1 : (w.alloc (.cells #[.int .i64 p, .int .i64 q] 33)).cell? ⟨w.heap.size, 1, none⟩ = some (.int .i64 q) := by simp
  have hs4 : (putL p s.toNat).length ≤ 4 := by have := hp.2.1; rw [putL_length]; omega
  have hs1 : 1 ≤ (putL p s.toNat).length := by have := hp.1; rw [putL_length]; omega
  have HN := Lib.hid (num_putL s.toNat p hp.2.2.1 hp.2.2.2)
  have HLS := Lib.hid (show lessL (putL p s.toNat) (putL q s.toNat) = decide (p < q) by
    rw [lessL_num _ _ (by rw [putL_length, putL_length]) (putL_fit _ _) (putL_fit _ _), num_putL _ _ hp.2.2.1 hp.2.2.2, num_putL _ _ hq.2.2.1 hq.2.2.2])
  go_enter Try.func4, Try.ntmps4
  go_wp2_with fail
  refine (put_yes p s _ hp.1 hp.2.1 hp.2.2.1 hp.2.2.2).mono ?_
  rintro e w1 ⟨x, rfl, hx, hb1⟩
  have hb1' := hb0.trans (hb1.mono (by simp))
  have hv1' := hv0.below hb1
  have hcp := (hb1.cell (p := ⟨w.heap.size, 0, none⟩) (by simp)).trans hc0
  have hcq := (hb1.cell (p := ⟨w.heap.size, 1, none⟩) (by simp)).trans hc1
  have hlt1 : w.heap.size < w1.heap.size := by have := hb1.size; simp at this; omega
  clear hb0 hb1 hv0 hc0 hc1
  go_wp2_with fail
  refine (put_yes q s _ hq.1 hq.2.1 hq.2.2.1 hq.2.2.2).mono ?_
  rintro e w2 ⟨y, rfl, hy, hb2⟩
  have hx2 := hx.below hb2
  have hb := hb1'.trans (hb2.mono hb1'.size)
  have hv1 := hv1'.below hb2
  have hcp2 := (hb2.cell (p := ⟨w.heap.size, 0, none⟩) hlt1).trans hcp
  have hcq2 := (hb2.cell (p := ⟨w.heap.size, 1, none⟩) hlt1).trans hcq
  clear hb1' hv1' hcp hcq hb2 hx
  go_wp2_with fail
  refine (get_yes x _ _ hx2 hs1 hs4).mono ?_
  rintro e w' ⟨rfl, rfl⟩
  rw [HN.out]
  go_wp2_with fail
  have hless : Hid (∀ n, Calls Try.prog 12 #[x, y] (w2.drewN n) fun e w' => e = .returned (.bool (decide (p < q))) ∧ ∃ m, w' = (w2.drewN n).drewN m) := by
    intro n
    have h := less_any x y _ _ _ (hx2.drewN n) (hy.drewN n)
    rw [HLS.out] at h
    exact h
  go_quiet ((go_at_call 12; exact Calls.quiet_of (hless.out _)))
  go_wp2_with fail
  refine (get_yes _ zs _ (hv1.drewN _) hg.1 hg.2).mono ?_
  rintro e w' ⟨rfl, rfl⟩
  go_wp2_with fail
  refine (put_yes _ _ _ hg1 hg2 hg3 hg4).mono ?_
  rintro e w7 ⟨own, rfl, how, hb7⟩
  have hb7' := (below_drewN hb _).trans (hb7.mono hb.size)
  have hv7 := (hv1.drewN _).below hb7
  go_wp2_with fail
  refine (same_any _ _ _ _ _ how hv7).mono ?_
  rintro e w8 ⟨rfl, n8, rfl⟩
  rw [decide_eq_true HG.out]
  go_wp2_with fail
  have hz := hb7'.size
  refine (alive_any _).mono ?_
  rintro e w9 ⟨rfl, hb9⟩
  go_wp2_with fail
  go_ret
  exact ⟨rfl, (below_drewN hb7' _).trans (hb9.mono hz)⟩

theorem back_any (p q s : Int) (v : Value) (zs : List Int) (w : World) (hv : Sl .u8 w v zs) :
    Calls Try.prog 4 #[.agg #[.int .i64 p, .int .i64 q], .int .i64 s, v] w fun e w' => e = .returned (.bool true) ∧ Below w.heap.size w w' := by
  by_cases h : 300 < zs.length
  · exact back_long p q s v zs w hv h
  · have hl : zs.length ≤ 300 := by omega
    by_cases hg : zs.length < 1 ∨ 4 < zs.length
    · by_cases hp : Fits p s
      · by_cases hq : Fits q s
        · exact back_Cn p q s v zs w hv hl hp hq hg
        · exact back_Bn p q s v zs w hv hl hp (fits_not hq) hg
      · exact back_An p q s v zs w hv hl (fits_not hp) hg
    · have hg : 1 ≤ zs.length ∧ zs.length ≤ 4 := by omega
      by_cases hp : Fits p s
      · by_cases hq : Fits q s
        · exact back_Cy p q s v zs w hv hl hp hq hg
        · exact back_By p q s v zs w hv hl hp (fits_not hq) hg
      · exact back_Ay p q s v zs w hv hl (fits_not hp) hg

end Go.Proofs.Ytfcaaahjoiddhaa
