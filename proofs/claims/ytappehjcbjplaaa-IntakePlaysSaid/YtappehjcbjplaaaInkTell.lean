
/-
  Layer 13's intake: tell (written by wip/tools/gen13t.py).
-/
import Derived.Test.YtappehjcbjplaaaInkCalls
import Derived.Test.YtappehjcbjplaaaRegion
namespace Go.Proofs.Ytappehjcbjplaaa
set_option maxRecDepth 20000
open Go.RowKit

set_option maxHeartbeats 4000000 in
theorem tell_obj {T : Nat} {most : Int} {begun : Bool} {cv : Value} {cs : List Int} {told : Nat} {over : Int} (w : World) (n : Nat) (h : IkObj w T most begun cv cs told over) (hn : told + n ≤ cs.length) (hl : cs.length ≤ 100000000) :
    Calls Try.prog 25 #[.pointer (some ⟨T, 0, none⟩), .int .i64 n] w fun e w' =>
      e = .returned (.tuple #[]) ∧ ∃ cv' cs' told', IkObj w' T most begun cv' cs' told' over ∧ cs'.drop told' = cs.drop (told + n) ∧ 2 * told' ≤ cs'.length ∧ (cv'.ownBlock = cv.ownBlock ∨ cv'.ownBlock = none) ∧ Turn (fun k => k = T) w w' := by
  obtain ⟨f0, f1, f2, f3, f4, f5⟩ := h.blk.cells
  have g3 := h.blk.free 3
  have HH := Lib.hid h
  have hle := h.le
  obtain ⟨m, hm⟩ : ∃ m, told + n = m := ⟨_, rfl⟩
  have HM := Lib.hid hm
  have hmi := Lib.hid (show ((told : Int) + (n : Int)) = (m : Int) by omega)
  have HL := Lib.hid (show m ≤ cs.length ∧ cs.length ≤ 100000000 from ⟨by omega, hl⟩)
  have ht1 : told ≤ 100000000 := by omega
  have ht2 : n ≤ 100000000 := by omega
  rw [hm] at hn ⊢
  clear h hm
  go_enter Try.func25, Try.ntmps25
  go_wp2_with fail
  rw [hmi.out]
  have HW1 := Lib.hid (show IkObj (w.setCell ⟨T, 3, none⟩ (.int .i64 m)) T most begun cv cs m over ∧ Turn (fun k => k = T) w (w.setCell ⟨T, 3, none⟩ (.int .i64 m)) from
    ⟨⟨heap_setCell_same _ T 3 _ _ _ HH.out.blk, HH.out.came.turn (turn_set _ _ _) HH.out.ne, HL.out.1, HH.out.ne⟩, turn_set _ _ _⟩)
  generalize w.setCell ⟨T, 3, none⟩ (.int .i64 m) = w1 at HW1 ⊢
  clear f0 f1 f2 f3 f4 f5 g3
  refine (len_obj w1 HW1.out.1).mono ?_
  rintro e w2 ⟨rfl, nq, hw2⟩
  have HW2 := Lib.hid (show IkObj w2 T most begun cv cs m over from by rw [hw2]; exact HW1.out.1.below (below_drewN (Below.refl _ _) nq))
  have HT2 := Lib.hid (show Turn (fun k => k = T) w w2 from by rw [hw2]; exact HW1.out.2.trans (Turn.of_below (below_drewN (Below.refl _ _) nq)))
  clear hw2 HH
  obtain ⟨f0, f1, f2, f3, f4, f5⟩ := HW2.out.blk.cells
  have g2 := HW2.out.blk.free 2
  have g3 := HW2.out.blk.free 3
  obtain ⟨r, hr⟩ : ∃ r, cs.length - m = r := ⟨_, rfl⟩
  rw [hr]
  by_cases h0 : r = 0
  · have d0 : ((r : Int) == 0) = true := by rw [h0]; rfl
    have HD := Lib.hid (show cs.drop m = [] from List.drop_eq_nil_of_le (by omega))
    clear hr h0 hle hn hl
    go_wp2_with fail
    refine bodyPost_end (results_none rfl _ _ _) rfl ?_
    exact ⟨rfl, .slice none 0 0, [], 0, ⟨heap_setCell_same _ T 3 _ _ _ (heap_setCell_same _ T 2 _ _ _ HW2.out.blk), CamB.nil _, Nat.le_refl _, fun g hg => by cases hg⟩, by rw [HD.out]; rfl, Nat.le_refl _, .inr rfl, (HT2.out.trans (turn_set _ _ _)).trans (turn_set _ _ _)⟩
  · have d0 : ((r : Int) == 0) = false := by rw [beq_eq_false_iff_ne]; omega
    by_cases h1 : r ≤ m
    · have d1 : decide (r ≤ m) = true := decide_eq_true h1
      obtain ⟨L, hL⟩ : ∃ L, cs.length = L := ⟨_, rfl⟩
      obtain ⟨a, c, rfl, _⟩ := id HW2.out.came.sl
      obtain ⟨bf, off, hrun, hvf, hab⟩ := Sl.full_ Try.sliceB Try.sizeB HW2.out.came.sl m (by omega)
      obtain ⟨D, hD⟩ : ∃ D, (cs.drop m).length = D := ⟨_, rfl⟩
      rw [hD] at hrun hvf
      have HVs := Lib.hid (And.intro hvf hab)
      rw [hL] at hrun HW2 f2 hl hn hr
      have HVf := Lib.hid hrun
      have HD := Lib.hid (show (cs.drop m).length = D ∧ 0 < D by rw [← hD, List.length_drop, hL]; omega)
      clear hrun hvf hab h0 h1 hr hn hle hD
      go_wp2_with fail
      clear f0 f1 f2 f3 f4 f5 g2 g3 hL hl
      refine wp_region_table 22 [31, 32, 33, 34, 35, 36, 37, 38, 39, 40, 41, 42, 43, 44, 45, 46, 47, 48, 49, 50, 51, 52] [[], [], [(1, 32)], [(2, 33)], [(3, 34)], [], [(5, 36)], [(6, 37)], [(7, 38)], [], [(9, 40)], [(10, 41)], [(11, 42)], [(12, 43)], [], [(14, 45)], [(15, 46)], [(16, 47)], [(17, 48)], [(4, 35), (8, 39), (13, 44), (18, 49)], [(0, 31)], [(20, 51)]]
        (fun i v w' => match i with
          | 0 => v = .pointer (some ⟨T, 0, none⟩)
          | 1 => v = .pointer (some ⟨T, 0, none⟩)
          | 2 => v = .pointer (some ⟨T, 0, none⟩)
          | 3 => v = .pointer (some ⟨T, 2, none⟩)
          | 4 => v = .slice a L c
          | 5 => v = .pointer (some ⟨T, 0, none⟩)
          | 6 => v = .pointer (some ⟨T, 0, none⟩)
          | 7 => v = .pointer (some ⟨T, 3, none⟩)
          | 8 => v = .int .i64 m
          | 9 => v = .pointer (some ⟨T, 0, none⟩)
          | 10 => v = .pointer (some ⟨T, 0, none⟩)
          | 11 => v = .pointer (some ⟨T, 2, none⟩)
          | 12 => v = .slice a L c
          | 13 => v = .int .i64 L
          | 14 => v = .pointer (some ⟨T, 0, none⟩)
          | 15 => v = .pointer (some ⟨T, 0, none⟩)
          | 16 => v = .pointer (some ⟨T, 2, none⟩)
          | 17 => v = .slice a L c
          | 18 => v = .int .i64 L
          | 19 => v = .slice (some ⟨bf, off, none⟩) D D
          | 20 => v = .pointer (some ⟨T, 0, none⟩)
          | 21 => v = .pointer (some ⟨T, 2, none⟩)
          | _ => True) (by kernel_rfl) (by kernel_rfl) ?tStab ?tOps ?tRest
      case tStab =>
        intro i v w3 w4 h hb
        match i, h with
        | 0, h | 1, h | 2, h | 3, h | 4, h | 5, h | 6, h | 7, h | 8, h | 9, h | 10, h | 11, h | 12, h | 13, h | 14, h | 15, h | 16, h | 17, h | 18, h | 19, h | 20, h | 21, h => exact h
        | i + 22, _ => trivial
      case tOps =>
        simp only [List.take_succ_cons, List.take_zero, opsOk]
        refine ⟨?_, ?_, ?_, ?_, ?_, ?_, ?_, ?_, ?_, ?_, ?_, ?_, ?_, ?_, ?_, ?_, ?_, ?_, ?_, ?_, ?_, ?_, trivial⟩
        · intro ρ w3 hc hf ho hB hj
          have x0 : ρ (.tmp 0) = .pointer (some ⟨T, 0, none⟩) := ho 0 (by decide)
          simp [gives, go_sem, x0, Below.refl]
        · intro ρ w3 hc hf ho hB hj
          have x0 : ρ (.tmp 0) = .pointer (some ⟨T, 0, none⟩) := ho 0 (by decide)
          simp [gives, go_sem, x0, Below.refl]
        · intro ρ w3 hc hf ho hB hj
          have x0 : ρ (.tmp 32) = .pointer (some ⟨T, 0, none⟩) := hj (1, 32) (by simp)
          simp [gives, go_sem, x0, Below.refl]
        · intro ρ w3 hc hf ho hB hj
          have x0 : ρ (.tmp 33) = .pointer (some ⟨T, 0, none⟩) := hj (2, 33) (by simp)
          simp [gives, go_sem, x0, Below.refl]
        · intro ρ w3 hc hf ho hB hj
          have x0 : ρ (.tmp 34) = .pointer (some ⟨T, 2, none⟩) := hj (3, 34) (by simp)
          obtain ⟨f0, f1, f2, f3, f4, f5⟩ := IkBlk.cells (HW2.out.blk.below hB)
          simp [gives, go_sem, x0, f2, Below.refl]
        · intro ρ w3 hc hf ho hB hj
          have x0 : ρ (.tmp 0) = .pointer (some ⟨T, 0, none⟩) := ho 0 (by decide)
          simp [gives, go_sem, x0, Below.refl]
        · intro ρ w3 hc hf ho hB hj
          have x0 : ρ (.tmp 36) = .pointer (some ⟨T, 0, none⟩) := hj (5, 36) (by simp)
          simp [gives, go_sem, x0, Below.refl]
        · intro ρ w3 hc hf ho hB hj
          have x0 : ρ (.tmp 37) = .pointer (some ⟨T, 0, none⟩) := hj (6, 37) (by simp)
          simp [gives, go_sem, x0, Below.refl]
        · intro ρ w3 hc hf ho hB hj
          have x0 : ρ (.tmp 38) = .pointer (some ⟨T, 3, none⟩) := hj (7, 38) (by simp)
          obtain ⟨f0, f1, f2, f3, f4, f5⟩ := IkBlk.cells (HW2.out.blk.below hB)
          simp [gives, go_sem, x0, f3, Below.refl]
        · intro ρ w3 hc hf ho hB hj
          have x0 : ρ (.tmp 0) = .pointer (some ⟨T, 0, none⟩) := ho 0 (by decide)
          simp [gives, go_sem, x0, Below.refl]
        · intro ρ w3 hc hf ho hB hj
          have x0 : ρ (.tmp 40) = .pointer (some ⟨T, 0, none⟩) := hj (9, 40) (by simp)
          simp [gives, go_sem, x0, Below.refl]
        · intro ρ w3 hc hf ho hB hj
          have x0 : ρ (.tmp 41) = .pointer (some ⟨T, 0, none⟩) := hj (10, 41) (by simp)
          simp [gives, go_sem, x0, Below.refl]
        · intro ρ w3 hc hf ho hB hj
          have x0 : ρ (.tmp 42) = .pointer (some ⟨T, 2, none⟩) := hj (11, 42) (by simp)
          obtain ⟨f0, f1, f2, f3, f4, f5⟩ := IkBlk.cells (HW2.out.blk.below hB)
          simp [gives, go_sem, x0, f2, Below.refl]
        · intro ρ w3 hc hf ho hB hj
          have x0 : ρ (.tmp 43) = .slice a L c := hj (12, 43) (by simp)
          simp [gives, go_sem, x0, Below.refl]
        · intro ρ w3 hc hf ho hB hj
          have x0 : ρ (.tmp 0) = .pointer (some ⟨T, 0, none⟩) := ho 0 (by decide)
          simp [gives, go_sem, x0, Below.refl]
        · intro ρ w3 hc hf ho hB hj
          have x0 : ρ (.tmp 45) = .pointer (some ⟨T, 0, none⟩) := hj (14, 45) (by simp)
          simp [gives, go_sem, x0, Below.refl]
        · intro ρ w3 hc hf ho hB hj
          have x0 : ρ (.tmp 46) = .pointer (some ⟨T, 0, none⟩) := hj (15, 46) (by simp)
          simp [gives, go_sem, x0, Below.refl]
        · intro ρ w3 hc hf ho hB hj
          have x0 : ρ (.tmp 47) = .pointer (some ⟨T, 2, none⟩) := hj (16, 47) (by simp)
          obtain ⟨f0, f1, f2, f3, f4, f5⟩ := IkBlk.cells (HW2.out.blk.below hB)
          simp [gives, go_sem, x0, f2, Below.refl]
        · intro ρ w3 hc hf ho hB hj
          have x0 : ρ (.tmp 48) = .slice a L c := hj (17, 48) (by simp)
          simp [gives, go_sem, x0, Below.refl]
        · intro ρ w3 hc hf ho hB hj
          have x0 : ρ (.tmp 35) = .slice a L c := hj (4, 35) (by simp)
          have x1 : ρ (.tmp 39) = .int .i64 m := hj (8, 39) (by simp)
          have x2 : ρ (.tmp 44) = .int .i64 L := hj (13, 44) (by simp)
          have x3 : ρ (.tmp 49) = .int .i64 L := hj (18, 49) (by simp)
          have i1 := HVf.out .i64 .i64 .i64
          simp [gives, go_sem, x0, x1, x2, x3, i1, Below.refl]
        · intro ρ w3 hc hf ho hB hj
          have x0 : ρ (.tmp 31) = .pointer (some ⟨T, 0, none⟩) := hj (0, 31) (by simp)
          simp [gives, go_sem, x0, Below.refl]
        · intro ρ w3 hc hf ho hB hj
          have x0 : ρ (.tmp 51) = .pointer (some ⟨T, 0, none⟩) := hj (20, 51) (by simp)
          simp [gives, go_sem, x0, Below.refl]
      case tRest =>
        intro X w3 hBw hX
        have x0 : X 0 = .pointer (some ⟨T, 0, none⟩) := hX 0 (by decide)
        have x1 : X 1 = .pointer (some ⟨T, 0, none⟩) := hX 1 (by decide)
        have x2 : X 2 = .pointer (some ⟨T, 0, none⟩) := hX 2 (by decide)
        have x3 : X 3 = .pointer (some ⟨T, 2, none⟩) := hX 3 (by decide)
        have x4 : X 4 = .slice a L c := hX 4 (by decide)
        have x5 : X 5 = .pointer (some ⟨T, 0, none⟩) := hX 5 (by decide)
        have x6 : X 6 = .pointer (some ⟨T, 0, none⟩) := hX 6 (by decide)
        have x7 : X 7 = .pointer (some ⟨T, 3, none⟩) := hX 7 (by decide)
        have x8 : X 8 = .int .i64 m := hX 8 (by decide)
        have x9 : X 9 = .pointer (some ⟨T, 0, none⟩) := hX 9 (by decide)
        have x10 : X 10 = .pointer (some ⟨T, 0, none⟩) := hX 10 (by decide)
        have x11 : X 11 = .pointer (some ⟨T, 2, none⟩) := hX 11 (by decide)
        have x12 : X 12 = .slice a L c := hX 12 (by decide)
        have x13 : X 13 = .int .i64 L := hX 13 (by decide)
        have x14 : X 14 = .pointer (some ⟨T, 0, none⟩) := hX 14 (by decide)
        have x15 : X 15 = .pointer (some ⟨T, 0, none⟩) := hX 15 (by decide)
        have x16 : X 16 = .pointer (some ⟨T, 2, none⟩) := hX 16 (by decide)
        have x17 : X 17 = .slice a L c := hX 17 (by decide)
        have x18 : X 18 = .int .i64 L := hX 18 (by decide)
        have x19 : X 19 = .slice (some ⟨bf, off, none⟩) D D := hX 19 (by decide)
        have x20 : X 20 = .pointer (some ⟨T, 0, none⟩) := hX 20 (by decide)
        have x21 : X 21 = .pointer (some ⟨T, 2, none⟩) := hX 21 (by decide)
        simp only [putAll, List.getD_cons_zero, List.getD_cons_succ, Act.put, List.setIfInBounds_toArray, List.set_cons_zero, List.set_cons_succ, List.drop_succ_cons, List.drop_zero]
        rw [x0, x1, x2, x3, x4, x5, x6, x7, x8, x9, x10, x11, x12, x13, x14, x15, x16, x17, x18, x19, x20, x21]
        have HW4 := Lib.hid (show IkObj w3 T most begun (.slice a L c) cs m over from HW2.out.below hBw)
        have HT4 := Lib.hid (show Turn (fun k => k = T) w w3 from HT2.out.trans (Turn.of_below hBw))
        have HVs4 := Lib.hid (HVs.out.1.below hBw)
        clear hBw hX
        have f2 := HW4.out.blk.cells.2.2.1
        have f3 := HW4.out.blk.cells.2.2.2.1
        have g2 := HW4.out.blk.free 2
        have g3 := HW4.out.blk.free 3
        go_wp2_with fail
        refine bodyPost_end (results_none rfl _ _ _) rfl ?_
        have hne : ∀ g, (Value.slice (some ⟨bf, off, none⟩) D D).ownBlock = some g → g ≠ T := fun g hg => by
          cases hg
          refine HW4.out.ne bf ?_
          have := HVs.out.2
          cases a with
          | none => cases this
          | some x => exact this
        have hcam : CamB ((w3.setCell ⟨T, 2, none⟩ (.slice (some ⟨bf, off, none⟩) D D)).setCell ⟨T, 3, none⟩ (.int .i64 0)) (.slice (some ⟨bf, off, none⟩) D D) (cs.drop m) :=
          ⟨(HVs4.out.turn (turn_set _ _ _) hne).turn (turn_set _ _ _) hne, .inr ⟨by rw [HD.out.1]; exact HD.out.2, bf, off, by rw [HD.out.1]⟩⟩
        refine ⟨rfl, .slice (some ⟨bf, off, none⟩) D D, cs.drop m, 0, ⟨heap_setCell_same _ T 3 _ _ _ (heap_setCell_same _ T 2 _ _ _ HW4.out.blk), hcam, Nat.zero_le _, hne⟩, rfl, Nat.zero_le _, .inl ?_, (HT4.out.trans (turn_set _ _ _)).trans (turn_set _ _ _)⟩
        have := HVs.out.2
        cases a with
        | none => cases this
        | some x => exact this.symm
    · have d1 : decide (r ≤ m) = false := decide_eq_false h1
      have HQ := Lib.hid (show 2 * m ≤ cs.length by omega)
      clear hr h0 h1 hn hle hl
      go_wp2_with fail
      refine bodyPost_end (results_none rfl _ _ _) rfl ?_
      exact ⟨rfl, cv, cs, m, HW2.out, rfl, HQ.out, .inl rfl, HT2.out⟩
end Go.Proofs.Ytappehjcbjplaaa
