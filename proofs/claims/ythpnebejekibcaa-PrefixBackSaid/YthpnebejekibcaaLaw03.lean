/-
  The statements of layer 3: their walks.
-/
import Derived.Test.YthpnebejekibcaaRef03
import Derived.Deep.RegionWith
namespace Go.Proofs.Ythpnebejekibcaa
open Go.RowKit

def encE (n b a : Int) : Int := if encOk n b a then 0 else 1
def encR (n b a : Int) : List Int := if encOk n b a then encP (fullP b) a n else []
theorem encP_max {n b a : Int} : (encP (fullP b) a n).length ≤ maxLen := by
  have := (encP_length (fullP b) a n).2; unfold maxLen; omega
theorem prefEnc_any (n b a : Int) (w : World) : Calls Try.prog 6 #[.int .i64 n, .int .i64 b, .int .i64 a] w fun e w' => ∃ v, e = .returned (.tuple #[v, .int .i64 (encE n b a)]) ∧ Sl .u8 w' v (encR n b a) ∧ Below w.heap.size w w' := by
  by_cases h : encOk n b a
  · rw [encE, encR, if_pos h, if_pos h]
    exact (prefEnc_own n b a w h).mono fun e w' ⟨v, he, ho, hb⟩ => ⟨v, he, Sl.of_own ho h.fit encP_max, hb⟩
  · rw [encE, encR, if_neg h, if_neg h]
    exact (prefEnc_no n b a w h).mono fun e w' ⟨he, hw⟩ => ⟨_, he, by rw [← hw]; exact Sl.nil _ _, by rw [← hw]; exact Below.refl _ _⟩
theorem refEnc3_any (n b a : Int) (w : World) : Calls Try.prog 7 #[.int .i64 n, .int .i64 b, .int .i64 a] w fun e w' => ∃ v, e = .returned (.tuple #[v, .int .i64 (encE n b a)]) ∧ Sl .u8 w' v (encR n b a) ∧ Below w.heap.size w w' := by
  by_cases h : encOk n b a
  · rw [encE, encR, if_pos h, if_pos h]
    exact (refEnc3_own n b a w h).mono fun e w' ⟨v, he, ho, hb⟩ => ⟨v, he, Sl.of_own ho h.fit encP_max, hb⟩
  · rw [encE, encR, if_neg h, if_neg h]
    exact (refEnc3_no n b a w h).mono fun e w' ⟨he, hw⟩ => ⟨_, he, by rw [← hw]; exact Sl.nil _ _, by rw [← hw]; exact Below.refl _ _⟩
theorem prefDec_any (v : Value) (zs : List Int) (b : Int) (w : World) (hv : Sl .u8 w v zs) :
    Calls Try.prog 9 #[v, .int .i64 b] w fun e w' => e = .returned (.tuple #[.int .i64 (decA b zs).1, .int .i64 (decA b zs).2.1, .int .i64 (decA b zs).2.2]) ∧ ∃ n, w' = w.drewN n := by
  by_cases h : 1 ≤ b ∧ b ≤ 8
  · rw [decA, if_pos h]; exact prefDec_yes v zs b w hv h
  · rw [decA, if_neg h]
    exact (prefDec_no v b w h).mono fun e w' ⟨he, hw⟩ => ⟨he, 0, hw.symm⟩
theorem refDec3_any (v : Value) (zs : List Int) (b : Int) (w : World) (hv : Sl .u8 w v zs) :
    Calls Try.prog 10 #[v, .int .i64 b] w fun e w' => e = .returned (.tuple #[.int .i64 (decA b zs).1, .int .i64 (decA b zs).2.1, .int .i64 (decA b zs).2.2]) ∧ w = w' := by
  by_cases h : 1 ≤ b ∧ b ≤ 8
  · rw [decA, if_pos h]; exact refDec3_yes v zs b w hv h
  · rw [decA, if_neg h]; exact refDec3_no v b w h
/-- the same, where the answer is known -/
theorem prefDec_is (v : Value) (zs : List Int) (b : Int) (w : World) (hv : Sl .u8 w v zs) (x y z : Int) (h : decA b zs = (x, y, z)) :
    Calls Try.prog 9 #[v, .int .i64 b] w fun e w' => e = .returned (.tuple #[.int .i64 x, .int .i64 y, .int .i64 z]) ∧ ∃ n, w' = w.drewN n := by
  have := prefDec_any v zs b w hv
  rw [h] at this
  exact this

theorem al1 : encE 10 5 64 = 0 := by decide +kernel
theorem al2 : encR 10 5 64 = [74] := by decide +kernel
theorem al3 : encE 1337 5 0 = 0 := by decide +kernel
theorem al4 : encR 1337 5 0 = [31, 154, 10] := by decide +kernel
theorem al5 : ¬ encOk 1 5 16 := by decide +kernel
theorem al6 : decA 5 [255, 154, 10, 9] = (1337, 3, 0) := by decide +kernel
theorem al7 : decA 5 [31, 154] = (0, 0, 2) := by decide +kernel
theorem al8 : decA 5 [31, 128, 128, 128, 128] = (0, 0, 3) := by decide +kernel
theorem al9 : decA 5 [31, 128, 128, 128, 0] = (31, 5, 0) := by decide +kernel
theorem al10 : decA 8 [255, 255, 255, 255, 7] = (0, 0, 3) := by decide +kernel

set_option maxHeartbeats 1000000 in
theorem alive03 (w : World) : Calls Try.prog 5 #[] w fun e w' => e = .returned (.bool true) ∧ Below w.heap.size w w' := by
  go_enter Try.func5, Try.ntmps5
  go_wp2_with fail
  refine (prefEnc_any 10 5 64 _).mono ?_
  rintro e w1 ⟨x, rfl, hx, hb1⟩
  rw [al1]
  rw [al2] at hx
  go_wp2_with fail
  refine (prefEnc_any 1337 5 0 _).mono ?_
  rintro e w2 ⟨y, rfl, hy, hb2⟩
  rw [al3]
  rw [al4] at hy
  have hB2 := hb1.trans (hb2.mono hb1.size)
  have hx2 := hx.below hb2
  clear hx hb1 hb2
  go_wp2_with fail
  refine (prefEnc_no 1 5 16 _ al5).mono ?_
  rintro e w' ⟨rfl, rfl⟩
  have grow : ∀ (W W' : World) (o : Obj), (∃ n, W' = (W.alloc o).drewN n) → Below w.heap.size w W ∧ Sl .u8 W x [74] ∧ Sl .u8 W y [31, 154, 10] → Below w.heap.size w W' ∧ Sl .u8 W' x [74] ∧ Sl .u8 W' y [31, 154, 10] := by
    rintro W W' o ⟨n, rfl⟩ ⟨h1, h2, h3⟩
    exact ⟨below_drewN (h1.alloc h1.size o) n, (h2.alloc o).drewN n, (h3.alloc o).drewN n⟩
  have g0 := Lib.hid (And.intro hB2 (And.intro hx2 hy))
  have GR := Lib.hid grow
  clear grow hB2 hx2 hy
  go_wp2_with fail
  refine (prefDec_is _ [255, 154, 10, 9] 5 _ (Sl.lit [255, 154, 10, 9] rfl rfl rfl (by decide) (by decide)) 1337 3 0 al6).mono ?_
  rintro e W0 ⟨rfl, hw⟩
  have g1 := Lib.hid (GR.out _ _ _ hw g0.out)
  clear hw g0
  go_wp2_with fail
  refine (prefDec_is _ [31, 154] 5 _ (Sl.lit [31, 154] rfl rfl rfl (by decide) (by decide)) 0 0 2 al7).mono ?_
  rintro e W1 ⟨rfl, hw⟩
  have g2 := Lib.hid (GR.out _ _ _ hw g1.out)
  clear hw g1
  go_wp2_with fail
  refine (prefDec_is _ [31, 128, 128, 128, 128] 5 _ (Sl.lit [31, 128, 128, 128, 128] rfl rfl rfl (by decide) (by decide)) 0 0 3 al8).mono ?_
  rintro e W2 ⟨rfl, hw⟩
  have g3 := Lib.hid (GR.out _ _ _ hw g2.out)
  clear hw g2
  go_wp2_with fail
  refine (prefDec_is _ [31, 128, 128, 128, 0] 5 _ (Sl.lit [31, 128, 128, 128, 0] rfl rfl rfl (by decide) (by decide)) 31 5 0 al9).mono ?_
  rintro e W3 ⟨rfl, hw⟩
  have g4 := Lib.hid (GR.out _ _ _ hw g3.out)
  clear hw g3
  go_wp2_with fail
  refine (prefDec_is _ [255, 255, 255, 255, 7] 8 _ (Sl.lit [255, 255, 255, 255, 7] rfl rfl rfl (by decide) (by decide)) 0 0 3 al10).mono ?_
  rintro e W4 ⟨rfl, hw⟩
  have g5 := Lib.hid (GR.out _ _ _ hw g4.out)
  clear hw g4
  obtain ⟨g1, g2, g3⟩ := g5.out
  clear g5 GR
  go_wp2_with fail
  refine (same_any x _ [74] [74] _ (g2.alloc _) (Sl.lit [74] rfl rfl rfl (by decide) (by decide))).mono ?_
  rintro e w' ⟨rfl, n6, rfl⟩
  rw [show decide (([74] : List Int) = [74]) = true from by decide]
  go_wp2_with fail
  refine (same_any y _ [31, 154, 10] [31, 154, 10] _ (((g3.alloc _).drewN _).alloc _) ?_).mono ?_
  · exact Sl.lit [31, 154, 10] (by simp) rfl rfl (by decide) (by decide)
  rintro e w' ⟨rfl, n7, rfl⟩
  rw [show decide (([31, 154, 10] : List Int) = [31, 154, 10]) = true from by decide]
  go_wp2_with fail
  go_ret
  have hz := g1.size
  exact ⟨rfl, below_drewN ((below_drewN (g1.alloc hz _) _).alloc (by simpa using Nat.le_succ_of_le hz) _) _⟩

theorem tells3_any (n p q : Int) (v : Value) (zs : List Int) (w : World) (hv : Sl .u8 w v zs) :
    Calls Try.prog 3 #[.int .i64 n, .agg #[.int .i64 p, .int .i64 q], v] w fun e w' => e = .returned (.bool true) ∧ Below w.heap.size w w' := by
  obtain ⟨a, cap, rfl, _⟩ := id hv
  have hmax := hv.len
  unfold maxLen at hmax
  have hb0 := (Below.refl w.heap.size w).alloc (Nat.le_refl _) (.cells #[.int .i64 p, .int .i64 q] 22)
  by_cases h : 300 < zs.length
  · go_enter Try.func3, Try.ntmps3
    go_wp2_with (go_at_call 5; refine (alive03 _).mono ?_; rintro e w' ⟨rfl, hb⟩)
    go_ret
    exact ⟨rfl, hb0.trans (hb.mono (by simp))⟩
  · have hv0 := hv.alloc (.cells #[.int .i64 p, .int .i64 q] 22)
    have hcp : (w.alloc (.cells #[.int .i64 p, .int .i64 q] 22)).cell? ⟨w.heap.size, 0, none⟩ = some (.int .i64 p) := by simp
    have hcq : (w.alloc (.cells #[.int .i64 p, .int .i64 q] 22)).cell? ⟨w.heap.size, 1, none⟩ = some (.int .i64 q) := by simp
    go_enter Try.func3, Try.ntmps3
    go_wp2_with fail
    refine (prefEnc_any n p q _).mono ?_
    rintro e w1 ⟨x, rfl, hx, hb1⟩
    have hp1 := (hb1.cell (p := ⟨w.heap.size, 0, none⟩) (by simp)).trans hcp
    have hq1 := (hb1.cell (p := ⟨w.heap.size, 1, none⟩) (by simp)).trans hcq
    have hv1 := hv0.below hb1
    have hB1 := hb0.trans (hb1.mono (by simp))
    have hz1 : w.heap.size < w1.heap.size := by have := hb1.size; simp at this; omega
    clear hb0 hb1 hv0 hcp hcq
    go_wp2_with fail
    refine (refEnc3_any n p q _).mono ?_
    rintro e w2 ⟨y, rfl, hy, hb2⟩
    have hp2 := (hb2.cell (p := ⟨w.heap.size, 0, none⟩) hz1).trans hp1
    have hv2 := hv1.below hb2
    have hx2 := hx.below hb2
    have hB2 := hB1.trans (hb2.mono hB1.size)
    clear hb2 hv1 hp1 hq1 hx hB1
    go_wp2_with fail
    refine (same_any x y _ _ _ hx2 hy).mono ?_
    rintro e w3 ⟨rfl, n3, rfl⟩
    rw [decide_eq_true rfl]
    go_wp2_with fail
    refine (prefDec_any _ zs p _ (hv2.drewN _)).mono ?_
    rintro e w3 ⟨rfl, n4, hw3⟩
    have hp3 : w3.cell? ⟨w.heap.size, 0, none⟩ = some (.int .i64 p) := by rw [hw3]; exact hp2
    have hv3 : Sl .u8 w3 (.slice a zs.length cap) zs := by rw [hw3]; exact (hv2.drewN _).drewN _
    have hB4 : Below w.heap.size w w3 := by rw [hw3]; exact below_drewN (below_drewN hB2 n3) n4
    clear hw3 hp2 hv2 hB2
    obtain ⟨d1, hd1⟩ : ∃ d, (decA p zs).1 = d := ⟨_, rfl⟩
    obtain ⟨d2, hd2⟩ : ∃ d, (decA p zs).2.1 = d := ⟨_, rfl⟩
    obtain ⟨d3, hd3⟩ : ∃ d, (decA p zs).2.2 = d := ⟨_, rfl⟩
    rw [hd1, hd2, hd3]
    have HD1 := Lib.hid hd1
    have HD2 := Lib.hid hd2
    have HD3 := Lib.hid hd3
    clear hd1 hd2 hd3
    go_wp2_with fail
    refine (refDec3_any _ zs p _ hv3).mono ?_
    rintro e w' ⟨rfl, rfl⟩
    rw [HD1.out, HD2.out, HD3.out]
    have hz4 := hB4.size
    go_wp2_with fail
    refine (alive03 _).mono ?_
    rintro e w5 ⟨rfl, hb5⟩
    go_wp2_with fail
    go_ret
    exact ⟨rfl, hB4.trans (hb5.mono hz4)⟩

end Go.Proofs.Ythpnebejekibcaa
