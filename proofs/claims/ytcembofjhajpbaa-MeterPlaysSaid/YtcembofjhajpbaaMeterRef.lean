
/-
  Layer 18's reference: Right, Begin, Clear, Tick, Count.
-/
import Derived.Test.YtcembofjhajpbaaMeterMath
import Derived.Test.YtcembofjhajpbaaBits
import Derived.Test.YtcembofjhajpbaaTurn
import Derived.Test.YtcembofjhajpbaaProg
import Derived.Test.YtcembofjhajpbaaRegion
import Derived.Deep.LoopGhost
import Derived.BigQuiet
import Derived.Deep.QuietTactic
namespace Go.Proofs.Ytcembofjhajpbaa
set_option maxRecDepth 20000
open Go.RowKit

def RmAt (W : World) (R : Nat) (s : St18) : Prop := W.heap[R]? = some (.cells (cells18 s) 39 (0, 0))
theorem RmAt.lt {W : World} {R : Nat} {s : St18} (h : RmAt W R s) : R < W.heap.size := (Array.getElem?_eq_some_iff.1 h).1
theorem RmAt.turn {W W' : World} {R : Nat} {s : St18} {S : Nat → Prop} (h : RmAt W R s) (ht : Turn S W W') (h0 : ¬ S R) : RmAt W' R s := ht.obj h h0
theorem RmAt.below {W W' : World} {R : Nat} {s : St18} (h : RmAt W R s) (hb : Below W.heap.size W W') : RmAt W' R s := h.turn (Turn.of_below hb (S := fun _ => False)) id
theorem turn_set18 {W : World} (T j : Nat) (u : Value) : Turn (fun k => k = T) W (W.setCell ⟨T, j, none⟩ u) := Turn.of_grown ⟨rfl, rfl, rfl, by simp [World.setCell], fun k _ hne => Below.heap_setCell _ _ _ _ (fun e => hne (by rw [show k = T from e]))⟩
set_option maxHeartbeats 1000000 in
theorem rclear18_any (R : Nat) (s : St18) (n : Int) (w : World) (h : RmAt w R s) (ho : Ok18 s) :
    Calls Try.prog 9 #[.pointer (some ⟨R, 0, none⟩), .int .i64 n] w fun e w' => e = .returned (.int .i64 (kindE n)) ∧ RmAt w' R (clearS s n) ∧ Turn (fun k => k = R) w w' := by
  by_cases hk : kind6 n
  · obtain ⟨k, rfl⟩ : ∃ k : Nat, n = k := ⟨n.toNat, by unfold kind6 at hk; omega⟩
    have hk6 : k < 6 := by unfold kind6 at hk; omega
    have HE := Lib.hid (show kindE (k : Int) = 0 ∧ clearS s (k : Int) = { s with cnt := s.cnt.set k 0 } from ⟨if_pos hk, by unfold clearS; rw [if_pos hk, Int.toNat_natCast]⟩)
    have d1 : decide ((k : Int) < 0) = false := decide_eq_false (by omega)
    have d2 : decide ((5 : Int) < (k : Int)) = false := decide_eq_false (by omega)
    have d3 : decide (5 < k) = false := decide_eq_false (by omega)
    have c0 : w.cell? ⟨R, 6 + k, none⟩ = some (.int .i64 (at0 s.cnt k)) := blk_cell h (cells18_cnt ho.l.1 ho.n hk6)
    have g0 : w.frozen? ⟨R, 6 + k, none⟩ = false := blk_free h
    have hlt := h.lt
    clear hk
    go_enter Try.func9, Try.ntmps9
    go_wp2_with fail
    go_ret
    refine ⟨by rw [HE.out.1]; rfl, ?_, turn_set18 _ _ _⟩
    rw [HE.out.2]
    have h1 := heap_setCell_same w R (6 + k) _ _ (.int .i64 0) h
    rw [cells18_set ho.l.1] at h1
    exact h1
  · have HE := Lib.hid (show kindE n = 1 ∧ clearS s n = s from ⟨if_neg hk, if_neg hk⟩)
    have HH := Lib.hid h
    have hn : n < 0 ∨ (¬ n < 0 ∧ 5 < n) := by unfold kind6 at hk; omega
    clear hk h
    rcases hn with h1 | ⟨h1, h2⟩
    · have d1 : decide (n < 0) = true := decide_eq_true h1
      clear h1
      go_enter Try.func9, Try.ntmps9
      go_wp2_with fail
      go_ret
      exact ⟨by rw [HE.out.1]; rfl, by rw [HE.out.2]; exact HH.out, Turn.of_below (Below.refl _ _)⟩
    · have d1 : decide (n < 0) = false := decide_eq_false h1
      have d2 : decide (5 < n) = true := decide_eq_true h2
      clear h1 h2
      go_enter Try.func9, Try.ntmps9
      go_wp2_with fail
      go_ret
      exact ⟨by rw [HE.out.1]; rfl, by rw [HE.out.2]; exact HH.out, Turn.of_below (Below.refl _ _)⟩
theorem zeros_step (l : List Int) (k : Nat) (hk : k < l.length) : (List.replicate k (0 : Int) ++ l.drop k).set k 0 = List.replicate (k + 1) (0 : Int) ++ l.drop (k + 1) := by
  rw [List.set_append_right _ _ (by simp), List.length_replicate, Nat.sub_self, List.drop_eq_getElem_cons hk, List.set_cons_zero, List.replicate_succ', List.append_assoc]
  rfl
set_option maxHeartbeats 1000000 in
theorem rtick18_any (R : Nat) (s : St18) (w : World) (h : RmAt w R s) (ho : Ok18 s) :
    Calls Try.prog 11 #[.pointer (some ⟨R, 0, none⟩)] w fun e w' => e = .returned (.tuple #[]) ∧ RmAt w' R (tickS s) ∧ Turn (fun k => k = R) w w' := by
  have HH := Lib.hid (And.intro h ho)
  clear h ho
  go_enter Try.func11, Try.ntmps11
  go_wp2_with fail
  go_loopg [2] 5 (fun m s2 wr => ∃ k : Nat, k + m = 5 ∧ s2 = .int .i64 k ∧ Hid (RmAt wr R { s with cnt := List.replicate k 0 ++ s.cnt.drop k } ∧ Turn (fun k => k = R) w wr))
  case atStart => exact ⟨0, by omega, rfl, Lib.hid ⟨by simpa using HH.out.1, Turn.of_below (Below.refl _ _)⟩⟩
  case round =>
    obtain ⟨k, hkq, rfl, HW⟩ := hrel
    have HKQ := Lib.hid hkq
    have hk : k ≤ 5 := by omega
    clear hkq
    by_cases hlt : k < 5
    · have d1 : decide ((k : Int) < 5) = true := decide_eq_true (by omega)
      have hlen : (List.replicate k (0 : Int) ++ s.cnt.drop k).length = 6 := by rw [List.length_append, List.length_replicate, List.length_drop, HH.out.2.n]; omega
      have c0 : wr.cell? ⟨R, 6 + k, none⟩ = some (.int .i64 (at0 (List.replicate k (0 : Int) ++ s.cnt.drop k) k)) := blk_cell HW.out.1 (cells18_cnt (s := { s with cnt := List.replicate k 0 ++ s.cnt.drop k }) HH.out.2.l.1 hlen (by omega))
      have g0 : wr.frozen? ⟨R, 6 + k, none⟩ = false := blk_free HW.out.1
      have hRl := HW.out.1.lt
      have hk6 : k < 6 := by omega
      have HLt := Lib.hid hlt
      clear hlen hlt
      go_wp2_with fail
      have HW2 := Lib.hid (show RmAt (wr.setCell ⟨R, 6 + k, none⟩ (.int .i64 0)) R { s with cnt := List.replicate (k + 1) 0 ++ s.cnt.drop (k + 1) } ∧ Turn (fun k => k = R) w (wr.setCell ⟨R, 6 + k, none⟩ (.int .i64 0)) from by
        have h1 := heap_setCell_same wr R (6 + k) _ _ (.int .i64 0) HW.out.1
        rw [cells18_set (s := { s with cnt := List.replicate k 0 ++ s.cnt.drop k }) HH.out.2.l.1] at h1
        dsimp only at h1
        rw [zeros_step _ _ (by rw [HH.out.2.n]; omega)] at h1
        exact ⟨h1, HW.out.2.trans (turn_set18 _ _ _)⟩)
      go_roundg (5 - (k + 1))
      case measure => have := HKQ.out; have := HLt.out; omega
      case rel => exact ⟨k + 1, by have := HLt.out; omega, by go_num, HW2⟩
    · obtain rfl : k = 5 := by omega
      go_wp2_with fail
      refine bodyPost_end (results_none rfl _ _ _) rfl ?_
      exact ⟨rfl, HW.out.1, HW.out.2⟩
set_option maxHeartbeats 2000000 in
theorem rcount18_any (R : Nat) (s : St18) (n : Int) (w : World) (h : RmAt w R s) (ho : Ok18 s) :
    Calls Try.prog 13 #[.pointer (some ⟨R, 0, none⟩), .int .i64 n] w fun e w' => e = .returned (.tuple #[.bool (countO s n), .int .i64 (kindE n)]) ∧ RmAt w' R (countS s n) ∧ Turn (fun k => k = R) w w' := by
  by_cases hk : kind6 n
  · obtain ⟨k, rfl⟩ : ∃ k : Nat, n = k := ⟨n.toNat, by unfold kind6 at hk; omega⟩
    have hk6 : k < 6 := by unfold kind6 at hk; omega
    have HE := Lib.hid (show kindE (k : Int) = 0 ∧ countS s (k : Int) = { s with cnt := s.cnt.set k (bumpN s k) } ∧ countO s (k : Int) = decide (at0 s.lim k < bumpN s k) from ⟨if_pos hk, by unfold countS; rw [if_pos hk, Int.toNat_natCast], by unfold countO; rw [if_pos hk, Int.toNat_natCast]⟩)
    have d1 : decide ((k : Int) < 0) = false := decide_eq_false (by omega)
    have d2 : decide ((5 : Int) < (k : Int)) = false := decide_eq_false (by omega)
    have d3 : decide (5 < k) = false := decide_eq_false (by omega)
    have c0 : w.cell? ⟨R, 6 + k, none⟩ = some (.int .i64 (at0 s.cnt k)) := blk_cell h (cells18_cnt ho.l.1 ho.n hk6)
    have c1 : w.cell? ⟨R, k, none⟩ = some (.int .i64 (at0 s.lim k)) := blk_cell h (cells18_lim ho.l.1 hk6)
    have g0 : w.frozen? ⟨R, 6 + k, none⟩ = false := blk_free h
    have hlt := h.lt
    have hc := ho.c (at0 s.cnt k) (at0_mem (by rw [ho.n]; exact hk6))
    have hl := ho.l.2 (at0 s.lim k) (at0_mem (by rw [ho.l.1]; exact hk6))
    have HH := Lib.hid (And.intro h ho)
    have hb : bumpN s k = if at0 s.cnt k ≤ at0 s.lim k then at0 s.cnt k + 1 else at0 s.cnt k := rfl
    clear hk h ho
    obtain ⟨c, hcc⟩ : ∃ c, at0 s.cnt k = c := ⟨_, rfl⟩
    obtain ⟨l, hll⟩ : ∃ l, at0 s.lim k = l := ⟨_, rfl⟩
    rw [hcc, hll] at hb
    rw [hcc] at c0 hc
    rw [hll] at c1 hl HE
    have hce := hcc
    have HLe := Lib.hid hll
    clear hcc hll
    by_cases hcl : c ≤ l
    · rw [if_pos hcl] at hb
      have HD := Lib.hid (show bumpN s k = c + 1 from hb)
      have d4 : decide (c ≤ l) = true := decide_eq_true hcl
      clear hb
      obtain ⟨hc0, hc1⟩ := hc
      obtain ⟨hl0, hl1⟩ := hl
      go_enter Try.func13, Try.ntmps13
      go_wp2_with fail
      go_quiet (fail)
      go_wp2_with fail
      have HB := Lib.hid (show Below w.heap.size w (w.drewN nq) from below_drewN (Below.refl _ _) _)
      have HRm := Lib.hid (HH.out.1.below HB.out)
      generalize w.drewN nq = w2 at HB HRm ⊢
      have HK := Lib.hid hk6
      have HAdd := Lib.hid (show IntKind.i64.wrap (c + 1) = c + 1 from wrap_i64_small (by omega) (by omega))
      have HCe := Lib.hid hce
      have HC := Lib.hid (show ∀ w3, Below w2.heap.size w2 w3 → w3.cell? ⟨R, 6 + k, none⟩ = some (.int .i64 c) from fun w3 hb => by
        have h1 := blk_cell (HRm.out.below hb) (cells18_cnt HH.out.2.l.1 HH.out.2.n HK.out)
        rw [HCe.out] at h1
        exact h1)
      clear c0 c1 g0 hlt d4 hce
      refine wp_region_table 10 [25, 26, 27, 28, 29, 30, 31, 32, 33, 34] [[], [], [(0, 25)], [(2, 27)], [(3, 28), (1, 26)], [(4, 29)], [(5, 30)], [(0, 25)], [(7, 32)], [(8, 33), (1, 26)]]
        (fun i v w' => match i with
          | 0 => v = .pointer (some ⟨R, 0, none⟩)
          | 1 => v = .int .i64 (k : Int)
          | 2 => v = .pointer (some ⟨R, 0, none⟩)
          | 3 => v = .pointer (some ⟨R, 6, none⟩)
          | 4 => v = .pointer (some ⟨R, 6 + k, none⟩)
          | 5 => v = .int .i64 c
          | 6 => v = .int .i64 (c + 1)
          | 7 => v = .pointer (some ⟨R, 0, none⟩)
          | 8 => v = .pointer (some ⟨R, 6, none⟩)
          | 9 => v = .pointer (some ⟨R, 6 + k, none⟩)
          | _ => True) (by kernel_rfl) (by kernel_rfl) ?tStab ?tOps ?tRest
      case tStab =>
        intro i v w3 w4 h hb
        match i, h with
        | 0, h | 1, h | 2, h | 3, h | 4, h | 5, h | 6, h | 7, h | 8, h | 9, h => exact h
        | i + 10, _ => trivial
      case tOps =>
        simp only [List.take_succ_cons, List.take_zero, opsOk]
        refine ⟨?_, ?_, ?_, ?_, ?_, ?_, ?_, ?_, ?_, ?_, trivial⟩
        · intro ρ w3 hc hf ho hB hj
          have x0 : ρ (.tmp 0) = .pointer (some ⟨R, 0, none⟩) := ho 0 (by decide)
          simp [gives, go_sem, x0, Below.refl]
        · intro ρ w3 hc hf ho hB hj
          have x0 : ρ (.tmp 1) = .int .i64 (k : Int) := ho 1 (by decide)
          simp [gives, go_sem, x0, Below.refl]
        · intro ρ w3 hc hf ho hB hj
          have x0 : ρ (.tmp 25) = .pointer (some ⟨R, 0, none⟩) := hj (0, 25) (by simp)
          simp [gives, go_sem, x0, Below.refl]
        · intro ρ w3 hc hf ho hB hj
          have x0 : ρ (.tmp 27) = .pointer (some ⟨R, 0, none⟩) := hj (2, 27) (by simp)
          simp [gives, go_sem, x0, Below.refl]
        · intro ρ w3 hc hf ho hB hj
          have x0 : ρ (.tmp 28) = .pointer (some ⟨R, 6, none⟩) := hj (3, 28) (by simp)
          have x1 : ρ (.tmp 26) = .int .i64 (k : Int) := hj (1, 26) (by simp)
          have i1 : (k : Int) < 6 := by have := HK.out; omega
          simp [gives, go_sem, x0, x1, i1, Below.refl]
        · intro ρ w3 hc hf ho hB hj
          have x0 : ρ (.tmp 29) = .pointer (some ⟨R, 6 + k, none⟩) := hj (4, 29) (by simp)
          have i2 := HC.out w3 hB
          simp [gives, go_sem, x0, i2, Below.refl]
        · intro ρ w3 hc hf ho hB hj
          have x0 : ρ (.tmp 30) = .int .i64 c := hj (5, 30) (by simp)
          have i3 := HAdd.out
          simp [gives, go_sem, x0, hc, i3, Below.refl]
        · intro ρ w3 hc hf ho hB hj
          have x0 : ρ (.tmp 25) = .pointer (some ⟨R, 0, none⟩) := hj (0, 25) (by simp)
          simp [gives, go_sem, x0, Below.refl]
        · intro ρ w3 hc hf ho hB hj
          have x0 : ρ (.tmp 32) = .pointer (some ⟨R, 0, none⟩) := hj (7, 32) (by simp)
          simp [gives, go_sem, x0, Below.refl]
        · intro ρ w3 hc hf ho hB hj
          have x0 : ρ (.tmp 33) = .pointer (some ⟨R, 6, none⟩) := hj (8, 33) (by simp)
          have x1 : ρ (.tmp 26) = .int .i64 (k : Int) := hj (1, 26) (by simp)
          have i1 : (k : Int) < 6 := by have := HK.out; omega
          simp [gives, go_sem, x0, x1, i1, Below.refl]
      case tRest =>
        intro X w3 hBw hX
        have x0 : X 0 = .pointer (some ⟨R, 0, none⟩) := hX 0 (by decide)
        have x1 : X 1 = .int .i64 (k : Int) := hX 1 (by decide)
        have x2 : X 2 = .pointer (some ⟨R, 0, none⟩) := hX 2 (by decide)
        have x3 : X 3 = .pointer (some ⟨R, 6, none⟩) := hX 3 (by decide)
        have x4 : X 4 = .pointer (some ⟨R, 6 + k, none⟩) := hX 4 (by decide)
        have x5 : X 5 = .int .i64 c := hX 5 (by decide)
        have x6 : X 6 = .int .i64 (c + 1) := hX 6 (by decide)
        have x7 : X 7 = .pointer (some ⟨R, 0, none⟩) := hX 7 (by decide)
        have x8 : X 8 = .pointer (some ⟨R, 6, none⟩) := hX 8 (by decide)
        have x9 : X 9 = .pointer (some ⟨R, 6 + k, none⟩) := hX 9 (by decide)
        simp only [putAll, List.getD_cons_zero, List.getD_cons_succ, Act.put, List.setIfInBounds_toArray, List.set_cons_zero, List.set_cons_succ, List.drop_succ_cons, List.drop_zero]
        rw [x0, x1, x2, x3, x4, x5, x6, x7, x8, x9]
        clear x0 x1 x2 x3 x4 x5 x6 x7 x8 x9
        have HR3 := Lib.hid (HRm.out.below hBw)
        have HT3 := Lib.hid (HB.out.trans (hBw.mono HB.out.size))
        clear hBw hX
        have c0 := blk_cell HR3.out (cells18_cnt HH.out.2.l.1 HH.out.2.n HK.out)
        have g0 : w3.frozen? ⟨R, 6 + k, none⟩ = false := blk_free HR3.out
        have hlt := HR3.out.lt
        go_wp2_with fail
        have h1 := heap_setCell_same w3 R (6 + k) _ _ (.int .i64 (c + 1)) HR3.out
        rw [cells18_set HH.out.2.l.1] at h1
        have HR4 := Lib.hid (show RmAt (w3.setCell ⟨R, 6 + k, none⟩ (.int .i64 (c + 1))) R { s with cnt := s.cnt.set k (c + 1) } ∧ Turn (fun k => k = R) w (w3.setCell ⟨R, 6 + k, none⟩ (.int .i64 (c + 1))) from ⟨h1, (Turn.of_below HT3.out).trans (turn_set18 _ _ _)⟩)
        clear h1 c0 g0 hlt
        generalize w3.setCell ⟨R, 6 + k, none⟩ (.int .i64 (c + 1)) = w4 at HR4 ⊢
        have c0 : w4.cell? ⟨R, 6 + k, none⟩ = some (.int .i64 (c + 1)) := by
          have h1 := blk_cell HR4.out.1 (cells18_cnt (s := { s with cnt := s.cnt.set k (c + 1) }) (k := k) HH.out.2.l.1 (by simp [HH.out.2.n]) HK.out)
          dsimp only at h1
          rw [show at0 (s.cnt.set k (c + 1)) k = c + 1 by simp [at0, HH.out.2.n, HK.out]] at h1
          exact h1
        have c1 : w4.cell? ⟨R, k, none⟩ = some (.int .i64 l) := by
          have h1 := blk_cell HR4.out.1 (cells18_lim (s := { s with cnt := s.cnt.set k (c + 1) }) (k := k) HH.out.2.l.1 HK.out)
          dsimp only at h1
          rw [HLe.out] at h1
          exact h1
        have hlt := HR4.out.1.lt
        go_quiet (fail)
        go_wp2_with fail
        go_ret2
        refine ⟨?_, ?_, HR4.out.2.trans (Turn.of_below (below_drewN (Below.refl _ _) _))⟩
        · rw [HE.out.1, HE.out.2.2, HD.out]; rfl
        · rw [HE.out.2.1, HD.out]; exact HR4.out.1.below (below_drewN (Below.refl _ _) _)
    · rw [if_neg hcl] at hb
      have HD := Lib.hid (show bumpN s k = c from hb)
      have d4 : decide (c ≤ l) = false := decide_eq_false hcl
      have d5 : decide (l < c) = true := decide_eq_true (by omega)
      have HCe := Lib.hid hce
      have HK := Lib.hid hk6
      have HD5 := Lib.hid d5
      clear hb hcl hce
      go_enter Try.func13, Try.ntmps13
      go_wp2_with fail
      go_quiet (fail)
      go_wp2_with fail
      go_quiet (fail)
      go_wp2_with fail
      go_ret2
      have hset : ({ s with cnt := s.cnt.set k c } : St18) = s := by
        have : s.cnt.set k c = s.cnt := by
          rw [← HCe.out]
          apply List.ext_getElem?
          intro i
          by_cases hi : i = k
          · subst hi
            rw [List.getElem?_set_self (by rw [HH.out.2.n]; exact HK.out), List.getElem?_eq_getElem (by rw [HH.out.2.n]; exact HK.out)]
            simp [at0, HH.out.2.n, HK.out]
          · rw [List.getElem?_set_ne (by omega)]
        rw [this]
      refine ⟨?_, ?_, Turn.of_below (below_drewN (below_drewN (Below.refl _ _) _) _)⟩
      · rw [HE.out.1, HE.out.2.2, HD.out, HD5.out]; rfl
      · rw [HE.out.2.1, HD.out, hset]; exact HH.out.1.below (below_drewN (below_drewN (Below.refl _ _) _) _)
  · have HE := Lib.hid (show kindE n = 1 ∧ countS s n = s ∧ countO s n = false from ⟨if_neg hk, if_neg hk, if_neg hk⟩)
    have HH := Lib.hid h
    have hn : n < 0 ∨ (¬ n < 0 ∧ 5 < n) := by unfold kind6 at hk; omega
    clear hk h
    rcases hn with h1 | ⟨h1, h2⟩
    · have d1 : decide (n < 0) = true := decide_eq_true h1
      clear h1
      go_enter Try.func13, Try.ntmps13
      go_wp2_with fail
      go_ret2
      exact ⟨by rw [HE.out.1, HE.out.2.2]; rfl, by rw [HE.out.2.1]; exact HH.out, Turn.of_below (Below.refl _ _)⟩
    · have d1 : decide (n < 0) = false := decide_eq_false h1
      have d2 : decide (5 < n) = true := decide_eq_true h2
      clear h1 h2
      go_enter Try.func13, Try.ntmps13
      go_wp2_with fail
      go_ret2
      exact ⟨by rw [HE.out.1, HE.out.2.2]; rfl, by rw [HE.out.2.1]; exact HH.out, Turn.of_below (Below.refl _ _)⟩
theorem rbegin18_any (l0 l1 l2 l3 l4 l5 : Int) (w : World) : Calls Try.prog 7 #[.agg #[.int .i64 l0, .int .i64 l1, .int .i64 l2, .int .i64 l3, .int .i64 l4, .int .i64 l5]] w fun e w' =>
    ∃ R, e = .returned (.pointer (some ⟨R, 0, none⟩)) ∧ RmAt w' R (new18 [l0, l1, l2, l3, l4, l5]) ∧ w.heap.size ≤ R ∧ Below w.heap.size w w' := by
  obtain ⟨W1, hW1⟩ : ∃ W1, w.alloc (.cells #[.int .i64 l0, .int .i64 l1, .int .i64 l2, .int .i64 l3, .int .i64 l4, .int .i64 l5] 22) = W1 := ⟨_, rfl⟩
  have HB := Lib.hid (show Below w.heap.size w W1 ∧ W1.heap[w.heap.size]? = some (.cells #[.int .i64 l0, .int .i64 l1, .int .i64 l2, .int .i64 l3, .int .i64 l4, .int .i64 l5] 22 (0, 0)) from by rw [← hW1]; exact ⟨(Below.refl _ _).alloc (Nat.le_refl _) _, heap_alloc_new w _⟩)
  have q0 := blk_cell (j := 0) HB.out.2 rfl
  have q1 := blk_cell (j := 1) HB.out.2 rfl
  have q2 := blk_cell (j := 2) HB.out.2 rfl
  have q3 := blk_cell (j := 3) HB.out.2 rfl
  have q4 := blk_cell (j := 4) HB.out.2 rfl
  have q5 := blk_cell (j := 5) HB.out.2 rfl
  have q6 := (Array.getElem?_eq_some_iff.1 HB.out.2).1
  go_enter Try.func7, Try.ntmps7
  go_wp2_with fail
  go_ret
  exact ⟨_, rfl, heap_alloc_new W1 _, HB.out.1.size, HB.out.1.alloc HB.out.1.size _⟩
set_option maxHeartbeats 1000000 in
theorem rright18_any (lim : List Int) (w : World) (hl : lim.length = 6) : Calls Try.prog 6 #[.agg (lim.map (Value.int .i64)).toArray] w fun e w' => e = .returned (.bool (decide (limOk lim))) ∧ Below w.heap.size w w' := by
  have HL := Lib.hid hl
  obtain ⟨l0, l1, l2, l3, l4, l5, rfl⟩ := six hl
  obtain ⟨W1, hW1⟩ : ∃ W1, w.alloc (.cells #[.int .i64 l0, .int .i64 l1, .int .i64 l2, .int .i64 l3, .int .i64 l4, .int .i64 l5] 22) = W1 := ⟨_, rfl⟩
  obtain ⟨g, hg⟩ : ∃ g, w.heap.size = g := ⟨_, rfl⟩
  have HG := Lib.hid hg
  have HB := Lib.hid (show Below g w W1 ∧ W1.heap[g]? = some (.cells #[.int .i64 l0, .int .i64 l1, .int .i64 l2, .int .i64 l3, .int .i64 l4, .int .i64 l5] 22 (0, 0)) from by rw [← hW1, ← hg]; exact ⟨(Below.refl _ _).alloc (Nat.le_refl _) _, heap_alloc_new w _⟩)
  simp only [List.map_cons, List.map_nil]
  clear hl
  obtain ⟨lim, hlim⟩ : ∃ lim, [l0, l1, l2, l3, l4, l5] = lim := ⟨_, rfl⟩
  have HC := Lib.hid (show ∀ k, k < 6 → W1.cell? ⟨g, k, none⟩ = some (.int .i64 (at0 lim k)) from fun k hk => blk_cell HB.out.2 (by
    rw [show (#[Value.int .i64 l0, .int .i64 l1, .int .i64 l2, .int .i64 l3, .int .i64 l4, .int .i64 l5] : Array Value) = (lim.map (Value.int .i64)).toArray by rw [← hlim]; rfl]
    have h6 : lim.length = 6 := by rw [← hlim]; rfl
    simp [at0, show k < lim.length by omega]))
  rw [hlim] at HL ⊢
  have hgl := (Array.getElem?_eq_some_iff.1 HB.out.2).1
  clear hlim
  go_enter Try.func6, Try.ntmps6
  go_wp2_with fail
  clear hW1
  go_loopg [3] 6 (fun m s3 wr => ∃ k : Nat, k + m = 6 ∧ s3 = .int .i64 k ∧ Hid (∀ x ∈ lim.take k, 0 ≤ x ∧ x ≤ 10000) ∧ wr = W1)
  case atStart => exact ⟨0, by omega, rfl, Lib.hid (by simp), rfl⟩
  case round =>
    obtain ⟨k, hkq, rfl, HT, rfl⟩ := hrel
    have HKQ := Lib.hid hkq
    have hk : k ≤ 6 := by omega
    clear hkq
    by_cases hlt : k < 6
    · have d1 : decide ((k : Int) < 6) = true := decide_eq_true (by omega)
      have c0 := HC.out k hlt
      have hst : lim.take (k + 1) = lim.take k ++ [at0 lim k] := take_at0 lim k (by rw [HL.out]; exact hlt)
      have hmem : at0 lim k ∈ lim := at0_mem (by rw [HL.out]; exact hlt)
      obtain ⟨y, hy⟩ : ∃ y, at0 lim k = y := ⟨_, rfl⟩
      rw [hy] at c0 hst hmem
      have HY := Lib.hid (And.intro hst hmem)
      clear hy hst hmem
      by_cases h1 : y < 0
      · have q1 : decide (y < 0) = true := decide_eq_true h1
        have HD := Lib.hid (show decide (limOk lim) = false from decide_eq_false (fun e => by have := e.2 y HY.out.2; omega))
        clear h1
        go_wp2_with fail
        go_ret
        exact ⟨by rw [HD.out]; rfl, by rw [HG.out]; exact HB.out.1⟩
      · have q1 : decide (y < 0) = false := decide_eq_false h1
        by_cases h2 : 10000 < y
        · have q2 : decide (10000 < y) = true := decide_eq_true h2
          have HD := Lib.hid (show decide (limOk lim) = false from decide_eq_false (fun e => by have := e.2 y HY.out.2; omega))
          clear h1 h2
          go_wp2_with fail
          go_ret
          exact ⟨by rw [HD.out]; rfl, by rw [HG.out]; exact HB.out.1⟩
        · have q2 : decide (10000 < y) = false := decide_eq_false h2
          have HN := Lib.hid (show ∀ x ∈ lim.take (k + 1), 0 ≤ x ∧ x ≤ 10000 from fun x hx => by
            rw [HY.out.1] at hx
            rcases List.mem_append.1 hx with hx | hx
            · exact HT.out x hx
            · rw [List.mem_singleton] at hx; omega)
          clear h1 h2
          go_wp2_with fail
          go_roundg (6 - (k + 1))
          case measure => have := HKQ.out; omega
          case rel => exact ⟨k + 1, by omega, by go_num, HN, rfl⟩
    · obtain rfl : k = 6 := by omega
      have HD := Lib.hid (show decide (limOk lim) = true from decide_eq_true ⟨HL.out, fun x hx => HT.out x (by rw [List.take_of_length_le (by rw [HL.out]; exact Nat.le_refl _)]; exact hx)⟩)
      clear hlt hk
      go_wp2_with fail
      go_ret
      exact ⟨by rw [HD.out]; rfl, by rw [HG.out]; exact HB.out.1⟩
end Go.Proofs.Ytcembofjhajpbaa
