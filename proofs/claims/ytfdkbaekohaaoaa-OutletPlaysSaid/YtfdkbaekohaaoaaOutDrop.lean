
/-
  Layer 14's outlet: drop (written by wip/tools/gen14p.py).
-/
import Derived.Test.YtfdkbaekohaaoaaOutClone
namespace Go.Proofs.Ytfdkbaekohaaoaa
set_option maxRecDepth 20000
open Go.RowKit

set_option maxHeartbeats 4000000 in
theorem drop14_any {T : Nat} {cv : Value} {cs : List Int} {went : Nat} (w : World) (n : Nat) (h : OuObj w T cv cs went) (hn : went + n ≤ cs.length) (hl : cs.length ≤ 20000000) :
    Calls Try.prog 19 #[.pointer (some ⟨T, 0, none⟩), .int .i64 n] w fun e w' =>
      e = .returned (.tuple #[]) ∧ ∃ cv' cs' went', OuObj w' T cv' cs' went' ∧ cs'.drop went' = cs.drop (went + n) ∧ cs'.length ≤ 2 * (cs.drop (went + n)).length ∧ (cv'.ownBlock = cv.ownBlock ∨ ∀ g, cv'.ownBlock = some g → w.heap.size ≤ g) ∧ Turn (fun k => k = T) w w' := by
  obtain ⟨f0, f1, f2⟩ := h.blk.cells
  have g1 := h.blk.free 1
  have HH := Lib.hid h
  obtain ⟨m, hm⟩ : ∃ m, went + n = m := ⟨_, rfl⟩
  have hmi := Lib.hid (show ((went : Int) + (n : Int)) = (m : Int) by omega)
  have HL := Lib.hid (show m ≤ cs.length ∧ cs.length ≤ 20000000 from ⟨by omega, hl⟩)
  have ht1 : went ≤ 20000000 := by omega
  have ht2 : n ≤ 20000000 := by omega
  rw [hm] at hn ⊢
  obtain ⟨zs, hzs⟩ : ∃ zs, cs.drop m = zs := ⟨_, rfl⟩
  rw [hzs]
  have HZ := Lib.hid hzs
  clear h hm hzs
  go_enter Try.func19, Try.ntmps19
  go_wp2_with fail
  rw [hmi.out]
  have HW1 := Lib.hid (show OuObj (w.setCell ⟨T, 1, none⟩ (.int .i64 m)) T cv cs m ∧ Turn (fun k => k = T) w (w.setCell ⟨T, 1, none⟩ (.int .i64 m)) from ⟨HH.out.go m HL.out.1, turn_set14 _ _ _⟩)
  generalize w.setCell ⟨T, 1, none⟩ (.int .i64 m) = w1 at HW1 ⊢
  clear f0 f1 f2 g1
  obtain ⟨f0, f1, f2⟩ := HW1.out.1.blk.cells
  obtain ⟨r, hr⟩ : ∃ r, cs.length - m = r := ⟨_, rfl⟩
  have HLn : Hid (∀ k, Calls Try.prog 15 #[.pointer (some ⟨T, 0, none⟩)] (w1.drewN k) fun e w' => e = .returned (.int .i64 (r : Int)) ∧ ∃ m, w' = (w1.drewN k).drewN m) := Lib.hid (by
    intro k
    have h1 := len14_obj (w1.drewN k) (HW1.out.1.below (below_drewN (Below.refl _ _) k))
    rw [hr] at h1
    exact h1)
  by_cases h1 : r ≤ m
  · have d1 : decide ((r : Int) ≤ (m : Int)) = true := decide_eq_true (by omega)
    have d2 : decide (r ≤ m) = true := decide_eq_true h1
    clear h1
    go_quiet ((go_at_call 15; exact Calls.quiet_of (HLn.out _)))
    go_wp2_with fail
    have HW2 := Lib.hid (show OuObj (w1.drewN nq) T cv cs m from HW1.out.1.below (below_drewN (Below.refl _ _) nq))
    have HT2 := Lib.hid (show Turn (fun k => k = T) w (w1.drewN nq) from HW1.out.2.trans (Turn.of_below (below_drewN (Below.refl _ _) nq)))
    generalize w1.drewN nq = W2 at HW2 HT2 ⊢
    clear f0 f1 f2 HLn d1 d2
    obtain ⟨L, hL⟩ : ∃ L, cs.length = L := ⟨_, rfl⟩
    obtain ⟨a, c, rfl, _⟩ := id HW2.out.sl
    obtain ⟨vr, hrun, hvr⟩ := HW2.out.sl.from_ Try.sliceD14 Try.sizeD14 (m : Int) (by omega) (by omega)
    rw [Int.toNat_natCast, HZ.out] at hvr
    rw [hL] at hrun HW2
    have HD := Lib.hid (show zs.length ≤ 1000000000 by rw [← HZ.out, List.length_drop]; omega)
    have HVf := Lib.hid (And.intro hrun hvr)
    clear hrun hvr hL hl hn hr ht1 ht2
    refine wp_region_late 14 [19, 20, 21, 22, 23, 24, 25, 26, 27, 28, 29, 30, 31, 32] [[], [], [], [(2, 21)], [(3, 22)], [(4, 23)], [], [(6, 25)], [(7, 26)], [(8, 27)], [(5, 24), (9, 28)], [(10, 29)], [(0, 19)], [(12, 31)]] [1]
      (fun i v w' => match i with
        | 0 => v = .pointer (some ⟨T, 0, none⟩)
        | 1 => v = .pointer (some ⟨T, 0, none⟩)
        | 2 => v = .pointer (some ⟨T, 0, none⟩)
        | 3 => v = .pointer (some ⟨T, 0, none⟩)
        | 4 => v = .pointer (some ⟨T, 0, none⟩)
        | 5 => v = .slice a L c
        | 6 => v = .pointer (some ⟨T, 0, none⟩)
        | 7 => v = .pointer (some ⟨T, 0, none⟩)
        | 8 => v = .pointer (some ⟨T, 1, none⟩)
        | 9 => v = .int .i64 m
        | 10 => Sl .u8 w' v zs
        | 11 => Cln W2.heap.size zs v w'
        | 12 => v = .pointer (some ⟨T, 0, none⟩)
        | 13 => v = .pointer (some ⟨T, 0, none⟩)
        | _ => True) (by kernel_rfl) (by kernel_rfl) ?tStab ?tOps ?tLate ?tRest
    case tStab =>
      intro i v w3 w4 h hb
      match i, h with
      | 0, h | 1, h | 2, h | 3, h | 4, h | 5, h | 6, h | 7, h | 8, h | 9, h | 12, h | 13, h => exact h
      | 10, h => exact Sl.below h hb
      | 11, h => exact Cln.below h hb
      | i + 14, _ => trivial
    case tOps =>
      simp only [List.take_succ_cons, List.take_zero, opsOk]
      refine ⟨?_, ?_, ?_, ?_, ?_, ?_, ?_, ?_, ?_, ?_, ?_, ?_, ?_, ?_, trivial⟩
      · intro ρ w3 hc hf ho hB hj
        have x0 : ρ (.tmp 0) = .pointer (some ⟨T, 0, none⟩) := ho 0 (by decide)
        simp [gives, go_sem, x0, Below.refl]
      · intro ρ w3 hc hf ho hB hj
        have x0 : ρ (.tmp 0) = .pointer (some ⟨T, 0, none⟩) := ho 0 (by decide)
        simp [gives, go_sem, x0, Below.refl]
      · intro ρ w3 hc hf ho hB hj
        have x0 : ρ (.tmp 0) = .pointer (some ⟨T, 0, none⟩) := ho 0 (by decide)
        simp [gives, go_sem, x0, Below.refl]
      · intro ρ w3 hc hf ho hB hj
        have x0 : ρ (.tmp 21) = .pointer (some ⟨T, 0, none⟩) := hj (2, 21) (by simp)
        simp [gives, go_sem, x0, Below.refl]
      · intro ρ w3 hc hf ho hB hj
        have x0 : ρ (.tmp 22) = .pointer (some ⟨T, 0, none⟩) := hj (3, 22) (by simp)
        simp [gives, go_sem, x0, Below.refl]
      · intro ρ w3 hc hf ho hB hj
        have x0 : ρ (.tmp 23) = .pointer (some ⟨T, 0, none⟩) := hj (4, 23) (by simp)
        obtain ⟨f0, f1, f2⟩ := (HW2.out.below hB).blk.cells
        simp [gives, go_sem, x0, f0, Below.refl]
      · intro ρ w3 hc hf ho hB hj
        have x0 : ρ (.tmp 0) = .pointer (some ⟨T, 0, none⟩) := ho 0 (by decide)
        simp [gives, go_sem, x0, Below.refl]
      · intro ρ w3 hc hf ho hB hj
        have x0 : ρ (.tmp 25) = .pointer (some ⟨T, 0, none⟩) := hj (6, 25) (by simp)
        simp [gives, go_sem, x0, Below.refl]
      · intro ρ w3 hc hf ho hB hj
        have x0 : ρ (.tmp 26) = .pointer (some ⟨T, 0, none⟩) := hj (7, 26) (by simp)
        simp [gives, go_sem, x0, Below.refl]
      · intro ρ w3 hc hf ho hB hj
        have x0 : ρ (.tmp 27) = .pointer (some ⟨T, 1, none⟩) := hj (8, 27) (by simp)
        obtain ⟨f0, f1, f2⟩ := (HW2.out.below hB).blk.cells
        simp [gives, go_sem, x0, f1, Below.refl]
      · intro ρ w3 hc hf ho hB hj
        have x0 : ρ (.tmp 24) = .slice a L c := hj (5, 24) (by simp)
        have x1 : ρ (.tmp 28) = .int .i64 m := hj (9, 28) (by simp)
        have i1 := HVf.out.1 .i64
        simp [gives, go_sem, x0, x1, i1]
        exact ⟨HVf.out.2.below hB, Below.refl _ _⟩
      · intro ρ w3 hc hf ho hB hj
        have x0 : Sl .u8 w3 (ρ (.tmp 29)) zs := hj (10, 29) (by simp)
        obtain ⟨gv, hgv⟩ : ∃ gv, ρ (.tmp 29) = gv := ⟨_, rfl⟩
        rw [hgv] at x0
        simp [gives, go_sem, hf, hgv]
        exact (clone14_any _ zs w3 x0 HD.out).mono fun e w' ⟨v, h1, h2, h3⟩ => ⟨v, h1, h2.mono hB.size, h3⟩
      · intro ρ w3 hc hf ho hB hj
        have x0 : ρ (.tmp 19) = .pointer (some ⟨T, 0, none⟩) := hj (0, 19) (by simp)
        simp [gives, go_sem, x0, Below.refl]
      · intro ρ w3 hc hf ho hB hj
        have x0 : ρ (.tmp 31) = .pointer (some ⟨T, 0, none⟩) := hj (12, 31) (by simp)
        simp [gives, go_sem, x0, Below.refl]
    case tLate =>
      intro i hi _ o ho
      obtain rfl := List.mem_singleton.1 hi
      obtain rfl := Option.some.inj ho
      intro ρ w3 hc ho _ hj
      have x0 : ρ (.tmp 0) = .pointer (some ⟨T, 0, none⟩) := ho 0 (by decide)
      exact ⟨_, fun w' => by simp [go_sem, x0], rfl⟩
    case tRest =>
      intro X w3 hBw hX
      have x0 : X 0 = .pointer (some ⟨T, 0, none⟩) := hX 0 (by decide)
      have x1 : X 1 = .pointer (some ⟨T, 0, none⟩) := hX 1 (by decide)
      have x2 : X 2 = .pointer (some ⟨T, 0, none⟩) := hX 2 (by decide)
      have x3 : X 3 = .pointer (some ⟨T, 0, none⟩) := hX 3 (by decide)
      have x4 : X 4 = .pointer (some ⟨T, 0, none⟩) := hX 4 (by decide)
      have x5 : X 5 = .slice a L c := hX 5 (by decide)
      have x6 : X 6 = .pointer (some ⟨T, 0, none⟩) := hX 6 (by decide)
      have x7 : X 7 = .pointer (some ⟨T, 0, none⟩) := hX 7 (by decide)
      have x8 : X 8 = .pointer (some ⟨T, 1, none⟩) := hX 8 (by decide)
      have x9 : X 9 = .int .i64 m := hX 9 (by decide)
      have x10 := hX 10 (by decide)
      have x11 := hX 11 (by decide)
      have x12 : X 12 = .pointer (some ⟨T, 0, none⟩) := hX 12 (by decide)
      have x13 : X 13 = .pointer (some ⟨T, 0, none⟩) := hX 13 (by decide)
      simp only [putAll, List.getD_cons_zero, List.getD_cons_succ, Act.put, List.setIfInBounds_toArray, List.set_cons_zero, List.set_cons_succ, List.drop_succ_cons, List.drop_zero]
      rw [x0, x1, x2, x3, x4, x5, x6, x7, x8, x9, x12, x13]
      obtain ⟨hc1, hc2⟩ := x11
      obtain ⟨ac, cc, e11, _⟩ := id hc2
      rw [e11] at hc1 hc2 ⊢
      have HC := Lib.hid (And.intro hc1 hc2)
      have HW4 := Lib.hid (show OuObj w3 T (.slice a L c) cs m from HW2.out.below hBw)
      have HT4 := Lib.hid (show Turn (fun k => k = T) w w3 from HT2.out.trans (Turn.of_below hBw))
      have HSz := Lib.hid (show w.heap.size ≤ W2.heap.size ∧ T < W2.heap.size from ⟨HT2.out.size, HW2.out.blk.lt⟩)
      clear hBw hX hc1 hc2 x0 x1 x2 x3 x4 x5 x6 x7 x8 x9 x10 x12 x13 e11
      have f0 := HW4.out.blk.cells.1
      have f1 := HW4.out.blk.cells.2.1
      have f2 := HW4.out.blk.cells.2.2
      have g0 := HW4.out.blk.free 0
      have g1 := HW4.out.blk.free 1
      go_wp2_with fail
      refine Calm.intro ?_
      go_wp2_with fail
      refine bodyPost_end (results_none rfl _ _ _) rfl ?_
      obtain ⟨hc1, hc2⟩ := HC.out
      have hne : ∀ g, (Value.slice ac zs.length cc).ownBlock = some g → g ≠ T := fun g hg => by have := (hc1.lt g hg).1; have := HSz.out.2; omega
      refine ⟨rfl, .slice ac zs.length cc, zs, 0, ⟨heap_setCell_same _ T 1 _ _ _ (heap_setCell_same _ T 0 _ _ _ HW4.out.blk), owned_turn (owned_turn (owned_mono hc1 (Nat.zero_le _)) (turn_set14 _ _ _) hne) (turn_set14 _ _ _) hne, (hc2.turn (turn_set14 _ _ _) hne).turn (turn_set14 _ _ _) hne, Nat.zero_le _, hne⟩, rfl, by omega, .inr (fun g hg => Nat.le_trans HSz.out.1 (hc1.lt g hg).1), (HT4.out.trans (turn_set14 _ _ _)).trans (turn_set14 _ _ _)⟩
  · have d1 : decide ((r : Int) ≤ (m : Int)) = false := decide_eq_false (by omega)
    have d2 : decide (r ≤ m) = false := decide_eq_false h1
    have HQ := Lib.hid (show cs.length ≤ 2 * zs.length by rw [← HZ.out, List.length_drop]; omega)
    clear h1
    go_quiet ((go_at_call 15; exact Calls.quiet_of (HLn.out _)))
    go_wp2_with fail
    refine bodyPost_end (results_none rfl _ _ _) rfl ?_
    exact ⟨rfl, cv, cs, m, HW1.out.1.below (below_drewN (Below.refl _ _) _), HZ.out, HQ.out, .inl rfl, HW1.out.2.trans (Turn.of_below (below_drewN (Below.refl _ _) _))⟩
end Go.Proofs.Ytfdkbaekohaaoaa
