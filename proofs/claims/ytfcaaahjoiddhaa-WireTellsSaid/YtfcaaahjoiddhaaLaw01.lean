/-
  The statements of layer 1: their walks.
-/
import Derived.Test.YtfcaaahjoiddhaaWireWalks
import Derived.Test.YtfcaaahjoiddhaaRef01
import Derived.Deep.RegionWith
namespace Go.Proofs.Ytfcaaahjoiddhaa
open Go.RowKit

theorem alive_any (w : World) : Calls Try.prog 5 #[] w fun e w' => e = .returned (.bool true) ∧ Below w.heap.size w w' := by
  go_enter Try.func5, Try.ntmps5
  go_wp2_with fail
  refine (put_yes 258 3 _ (by decide) (by decide) (by decide) (by decide)).mono ?_
  rintro e w1 ⟨x, rfl, hx, hb1⟩
  have e1 : putL 258 (3 : Int).toNat = [0, 1, 2] := by decide
  rw [e1] at hx
  clear e1
  go_wp2_with fail
  refine (get_yes x _ _ hx (by decide) (by decide)).mono ?_
  rintro e w' ⟨rfl, rfl⟩
  rw [show num [0, 1, 2] = 258 from by decide]
  go_wp2_with fail
  refine (put_no 256 1 _ (by decide)).mono ?_
  rintro e w' ⟨rfl, rfl⟩
  go_wp2_with fail
  refine (cut_yes _ [1, 2, 3] 2 _ (Sl.lit [1, 2, 3] rfl rfl rfl (by decide) (by decide)) (by decide) (by decide) (by decide) (by decide)).mono ?_
  rintro e w2 ⟨r, rfl, hr, hb2⟩
  have e2 : ([1, 2, 3] : List Int).drop (2 : Int).toNat = [3] := by decide
  rw [show num (List.take (2 : Int).toNat [1, 2, 3]) = 258 from by decide]
  rw [e2] at hr
  clear e2
  have hb2' : Below w.heap.size w w2 := (hb1.alloc hb1.size _).trans (hb2.mono (by have := hb1.size; simp; omega))
  have hx2 := hx.below (((Below.refl _ _).alloc (Nat.le_refl _) (.cells #[.int .u8 1, .int .u8 2, .int .u8 3] 5)).trans (hb2.mono (by simp)))
  clear hb2 hx
  go_wp2_with fail
  refine (cut_more _ [1, 2, 3] 4 _ (Sl.lit [1, 2, 3] rfl rfl rfl (by decide) (by decide)) (by decide) (by decide) (by decide)).mono ?_
  rintro e w' ⟨rfl, rfl⟩
  go_wp2_with fail
  refine (same_any x _ [0, 1, 2] [0, 1, 2] _ ((hx2.alloc _).alloc _) ?_).mono ?_
  · exact Sl.lit [0, 1, 2] (by simp) rfl rfl (by decide) (by decide)
  rintro e w3 ⟨rfl, n3, rfl⟩
  rw [show decide (([0, 1, 2] : List Int) = [0, 1, 2]) = true from by decide]
  go_wp2_with fail
  refine (same_any r _ [3] [3] _ ((((hr.alloc _).alloc _).drewN _).alloc _) ?_).mono ?_
  · exact Sl.lit [3] (by simp) rfl rfl (by decide) (by decide)
  rintro e w3 ⟨rfl, n4, rfl⟩
  rw [show decide (([3] : List Int) = [3]) = true from by decide]
  go_wp2_with fail
  go_ret
  have hz := hb2'.size
  exact ⟨rfl, by repeat (first | exact hb2' | apply Below.drew | apply below_drewN | refine Below.alloc ?_ (by first | exact hz | (simp; omega) | simp) _)⟩

/-- what Put answers, whatever it is given -/
def putE (n s : Int) : Int := if s < 1 ∨ 4 < s ∨ n < 0 ∨ 256 ^ s.toNat ≤ n then 1 else 0
def putR (n s : Int) : List Int := if s < 1 ∨ 4 < s ∨ n < 0 ∨ 256 ^ s.toNat ≤ n then [] else putL n s.toNat
theorem put_any (n s : Int) (w : World) : Calls Try.prog 6 #[.int .i64 n, .int .i64 s] w fun e w' => ∃ v, e = .returned (.tuple #[v, .int .i64 (putE n s)]) ∧ Sl .u8 w' v (putR n s) ∧ Below w.heap.size w w' := by
  by_cases h : s < 1 ∨ 4 < s ∨ n < 0 ∨ 256 ^ s.toNat ≤ n
  · rw [putE, putR, if_pos h, if_pos h]
    exact (put_no n s w h).mono fun e w' ⟨he, hw⟩ => ⟨_, he, by rw [← hw]; exact Sl.nil _ _, by rw [← hw]; exact Below.refl _ _⟩
  · rw [putE, putR, if_neg h, if_neg h]
    exact put_yes n s w (by omega) (by omega) (by omega) (by omega)
theorem refPut_any (n s : Int) (w : World) : Calls Try.prog 7 #[.int .i64 n, .int .i64 s] w fun e w' => ∃ v, e = .returned (.tuple #[v, .int .i64 (putE n s)]) ∧ Sl .u8 w' v (putR n s) ∧ Below w.heap.size w w' := by
  by_cases h : s < 1 ∨ 4 < s ∨ n < 0 ∨ 256 ^ s.toNat ≤ n
  · rw [putE, putR, if_pos h, if_pos h]
    exact (refPut_no n s w h).mono fun e w' ⟨he, hw⟩ => ⟨_, he, by rw [← hw]; exact Sl.nil _ _, by rw [← hw]; exact Below.refl _ _⟩
  · rw [putE, putR, if_neg h, if_neg h]
    exact refPut_yes n s w (by omega) (by omega) (by omega) (by omega)
def getE (zs : List Int) : Int := if zs.length < 1 ∨ 4 < zs.length then 1 else 0
def getN (zs : List Int) : Int := if zs.length < 1 ∨ 4 < zs.length then 0 else num zs
theorem get_any (v : Value) (zs : List Int) (w : World) (h : Sl .u8 w v zs) : Calls Try.prog 9 #[v] w fun e w' => e = .returned (.tuple #[.int .i64 (getN zs), .int .i64 (getE zs)]) ∧ w = w' := by
  by_cases hl : zs.length < 1 ∨ 4 < zs.length
  · rw [getE, getN, if_pos hl, if_pos hl]
    exact get_no v zs w h hl
  · rw [getE, getN, if_neg hl, if_neg hl]
    exact get_yes v zs w h (by omega) (by omega)
theorem refGet_any (v : Value) (zs : List Int) (w : World) (h : Sl .u8 w v zs) : Calls Try.prog 10 #[v] w fun e w' => e = .returned (.tuple #[.int .i64 (getN zs), .int .i64 (getE zs)]) ∧ w = w' := by
  by_cases hl : zs.length < 1 ∨ 4 < zs.length
  · rw [getE, getN, if_pos hl, if_pos hl]
    exact refGet_no v zs w h hl
  · rw [getE, getN, if_neg hl, if_neg hl]
    exact refGet_yes v zs w h (by omega) (by omega)

theorem tells_long (n s : Int) (v : Value) (zs : List Int) (w : World) (hv : Sl .u8 w v zs) (h : 300 < zs.length) :
    Calls Try.prog 3 #[.int .i64 n, .int .i64 s, v] w fun e w' => e = .returned (.bool true) ∧ Below w.heap.size w w' := by
  obtain ⟨a, cap, rfl, _⟩ := hv
  go_enter Try.func3, Try.ntmps3
  go_wp2_with (go_at_call 5; refine (alive_any _).mono ?_; rintro e w' ⟨rfl, hb⟩)
  go_ret
  exact ⟨rfl, hb⟩

theorem tells_size (n s : Int) (v : Value) (zs : List Int) (w : World) (hv : Sl .u8 w v zs) (hl : zs.length ≤ 300) (h : s < 1 ∨ 4 < s) :
    Calls Try.prog 3 #[.int .i64 n, .int .i64 s, v] w fun e w' => e = .returned (.bool true) ∧ Below w.heap.size w w' := by
  obtain ⟨a, cap, rfl, _⟩ := id hv
  have hmax := hv.len
  unfold maxLen at hmax
  have hd : (s < 1) ∨ (¬ s < 1 ∧ 4 < s) := by omega
  go_enter Try.func3, Try.ntmps3
  go_wp2_with fail
  refine (put_any n s _).mono ?_
  rintro e w1 ⟨x, rfl, hx, hb1⟩
  go_wp2_with fail
  refine (refPut_any n s _).mono ?_
  rintro e w2 ⟨y, rfl, hy, hb2⟩
  have hz1 := hb1.size
  have hb2' := hb1.trans (hb2.mono hz1)
  go_wp2_with fail
  refine (same_any x y _ _ _ (hx.below hb2) hy).mono ?_
  rintro e w3 ⟨rfl, n3, rfl⟩
  rw [decide_eq_true rfl]
  have hv3 := (hv.below hb2').drewN n3
  have hb3 := below_drewN hb2' n3
  go_wp2_with fail
  refine (get_any _ zs _ hv3).mono ?_
  rintro e w' ⟨rfl, rfl⟩
  go_wp2_with fail
  refine (refGet_any _ zs _ hv3).mono ?_
  rintro e w' ⟨rfl, rfl⟩
  go_wp2_with fail
  refine (cut_size _ s _ h).mono ?_
  rintro e w' ⟨rfl, rfl⟩
  rcases hd with hd | ⟨hd, hd2⟩
  · have d1 : decide (s < 1) = true := decide_eq_true hd
    clear h hd
    have hz3 := hb3.size
    go_wp2_with fail
    refine (alive_any _).mono ?_
    rintro e w4 ⟨rfl, hb4⟩
    go_wp2_with fail
    go_ret
    exact ⟨rfl, hb3.trans (hb4.mono hz3)⟩
  · have d1 : decide (s < 1) = false := decide_eq_false (by omega)
    have d2 : decide (4 < s) = true := decide_eq_true hd2
    clear h hd hd2
    have hz3 := hb3.size
    go_wp2_with fail
    refine (alive_any _).mono ?_
    rintro e w4 ⟨rfl, hb4⟩
    go_wp2_with fail
    go_ret
    exact ⟨rfl, hb3.trans (hb4.mono hz3)⟩

theorem tells_more (n s : Int) (v : Value) (zs : List Int) (w : World) (hv : Sl .u8 w v zs) (hl : zs.length ≤ 300) (h1 : 1 ≤ s) (h4 : s ≤ 4) (h : (zs.length : Int) < s) :
    Calls Try.prog 3 #[.int .i64 n, .int .i64 s, v] w fun e w' => e = .returned (.bool true) ∧ Below w.heap.size w w' := by
  obtain ⟨a, cap, rfl, _⟩ := id hv
  have hmax := hv.len
  unfold maxLen at hmax
  have d1 : decide (s < 1) = false := decide_eq_false (by omega)
  have d2 : decide (4 < s) = false := decide_eq_false (by omega)
  go_enter Try.func3, Try.ntmps3
  go_wp2_with fail
  refine (put_any n s _).mono ?_
  rintro e w1 ⟨x, rfl, hx, hb1⟩
  go_wp2_with fail
  refine (refPut_any n s _).mono ?_
  rintro e w2 ⟨y, rfl, hy, hb2⟩
  have hz1 := hb1.size
  have hb2' := hb1.trans (hb2.mono hz1)
  go_wp2_with fail
  refine (same_any x y _ _ _ (hx.below hb2) hy).mono ?_
  rintro e w3 ⟨rfl, n3, rfl⟩
  rw [decide_eq_true rfl]
  have hv3 := (hv.below hb2').drewN n3
  have hb3 := below_drewN hb2' n3
  go_wp2_with fail
  refine (get_any _ zs _ hv3).mono ?_
  rintro e w' ⟨rfl, rfl⟩
  go_wp2_with fail
  refine (refGet_any _ zs _ hv3).mono ?_
  rintro e w' ⟨rfl, rfl⟩
  go_wp2_with fail
  refine (cut_more _ zs s _ hv3 h1 h4 h).mono ?_
  rintro e w' ⟨rfl, rfl⟩
  have hz3 := hb3.size
  go_wp2_with fail
  refine (alive_any _).mono ?_
  rintro e w4 ⟨rfl, hb4⟩
  go_wp2_with fail
  go_ret
  exact ⟨rfl, hb3.trans (hb4.mono hz3)⟩

theorem tells_cut (n s : Int) (v : Value) (zs : List Int) (w : World) (hv : Sl .u8 w v zs) (hl : zs.length ≤ 300) (h1 : 1 ≤ s) (h4 : s ≤ 4) (h : s ≤ (zs.length : Int)) :
    Calls Try.prog 3 #[.int .i64 n, .int .i64 s, v] w fun e w' => e = .returned (.bool true) ∧ Below w.heap.size w w' := by
  obtain ⟨a, cap, rfl, _⟩ := id hv
  have hmax := hv.len
  unfold maxLen at hmax
  have d1 : decide (s < 1) = false := decide_eq_false (by omega)
  have d2 : decide (4 < s) = false := decide_eq_false (by omega)
  go_enter Try.func3, Try.ntmps3
  go_wp2_with fail
  refine (put_any n s _).mono ?_
  rintro e w1 ⟨x, rfl, hx, hb1⟩
  go_wp2_with fail
  refine (refPut_any n s _).mono ?_
  rintro e w2 ⟨y, rfl, hy, hb2⟩
  have hz1 := hb1.size
  have hb2' := hb1.trans (hb2.mono hz1)
  go_wp2_with fail
  refine (same_any x y _ _ _ (hx.below hb2) hy).mono ?_
  rintro e w3 ⟨rfl, n3, rfl⟩
  rw [decide_eq_true rfl]
  have hv3 := (hv.below hb2').drewN n3
  have hb3 := below_drewN hb2' n3
  go_wp2_with fail
  refine (get_any _ zs _ hv3).mono ?_
  rintro e w' ⟨rfl, rfl⟩
  go_wp2_with fail
  refine (refGet_any _ zs _ hv3).mono ?_
  rintro e w' ⟨rfl, rfl⟩
  go_wp2_with fail
  refine (cut_yes _ zs s _ hv3 h1 h4 h (by omega)).mono ?_
  rintro e w4 ⟨r, rfl, hr, hb4⟩
  have hz3 := hb3.size
  have hb4' := hb3.trans (hb4.mono hz3)
  have hv4 := hv3.below hb4
  obtain ⟨vt, hrt, hvt⟩ := hv4.upto Try.slice22 Try.size22 s (by omega) h
  obtain ⟨vd, hrd, hvd⟩ := hv4.from_ Try.slice22 Try.size22 s (by omega) h
  go_wp2_with fail
  refine (refGet_yes _ _ _ hvt (by simp; omega) (by simp; omega)).mono ?_
  rintro e w' ⟨rfl, rfl⟩
  go_wp2_with fail
  refine (same_any _ _ _ _ _ hr hvd).mono ?_
  rintro e w5 ⟨rfl, n5, rfl⟩
  rw [decide_eq_true rfl]
  go_wp2_with fail
  refine (alive_any _).mono ?_
  rintro e w6 ⟨rfl, hb6⟩
  have hz4 := hb4'.size
  go_wp2_with fail
  go_ret
  exact ⟨rfl, (below_drewN hb4' n5).trans (hb6.mono hz4)⟩

theorem tells_any (n s : Int) (v : Value) (zs : List Int) (w : World) (hv : Sl .u8 w v zs) :
    Calls Try.prog 3 #[.int .i64 n, .int .i64 s, v] w fun e w' => e = .returned (.bool true) ∧ Below w.heap.size w w' := by
  by_cases h : 300 < zs.length
  · exact tells_long n s v zs w hv h
  · by_cases h1 : s < 1 ∨ 4 < s
    · exact tells_size n s v zs w hv (by omega) h1
    · by_cases h2 : (zs.length : Int) < s
      · exact tells_more n s v zs w hv (by omega) (by omega) (by omega) h2
      · exact tells_cut n s v zs w hv (by omega) (by omega) (by omega) (by omega)

end Go.Proofs.Ytfcaaahjoiddhaa
