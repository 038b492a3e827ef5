
/-
  The document's own Next of layer 2.
-/
import Derived.Test.YtfdkbaekohaaoaaRef02
import Derived.Test.YtfdkbaekohaaoaaOwn
import Derived.Test.YtfdkbaekohaaoaaRegion
namespace Go.Proofs.Ytfdkbaekohaaoaa
open Go.RowKit

theorem Try.sliceR : Try.prog.underlying 27 = some (.slice (Try.prog.elem 27)) := by kernel_rfl
theorem Try.sizeR (w : World) : (sizeOf (Try.prog.elem 27)).run Try.prog w = .ok 1 w := by kernel_rfl

theorem refNext_short (v : Value) (zs : List Int) (most : Int) (w : World) (hv : Sl .u8 w v zs) (hl : zs.length < 9) :
    Calls Try.prog 22 #[v, .int .i64 most] w fun e w' => ∃ fv, e = .returned (.tuple #[fv, .int .i64 0, .int .i64 2]) ∧ FrT w' 5 fv Fr.zero ∧ Below w.heap.size w w' := by
  obtain ⟨a, cap, rfl, _⟩ := id hv
  go_enter Try.func22, Try.ntmps22
  go_wp2
  refine bodyPost_ret (results_row_tmp2 rfl _ _ w.heap.size 40 _ (0, 0) _ rfl (heap_alloc_new w _) Try.underlying40 rfl (by kernel_rfl)) rfl ?_
  exact ⟨_, rfl, FrT.zero _ _, (Below.refl _ _).alloc (Nat.le_refl _) _⟩

theorem refNext_full (v : Value) (zs : List Int) (most : Int) (w : World) (hv : Sl .u8 w v zs) (hl : 9 ≤ zs.length) (hm : most < num (zs.take 3)) :
    Calls Try.prog 22 #[v, .int .i64 most] w fun e w' => ∃ fv, e = .returned (.tuple #[fv, .int .i64 0, .int .i64 4]) ∧ FrT w' 5 fv Fr.zero ∧ Below w.heap.size w w' := by
  obtain ⟨b, off, cap, rfl, hlc, hcm, _, _⟩ := (hv.parts.resolve_left (fun h => by rw [h.1] at hl; simp at hl)).2
  have hmax := hv.len
  unfold maxLen at hmax hcm
  have hnb := num_head hv.fit hl
  rw [num_three (by omega)] at hm hnb
  have h0 := hv.fit.byte 0
  have h1 := hv.fit.byte 1
  have h2 := hv.fit.byte 2
  have l0 : 0 < zs.length := by omega
  have l1 : (1 : Int) < (zs.length : Int) := by omega
  have l2 : (2 : Int) < (zs.length : Int) := by omega
  have d1 : decide ((zs.length : Int) < 9) = false := decide_eq_false (by omega)
  have d2 : decide (most < 65536 * at0 zs 0 + 256 * at0 zs 1 + at0 zs 2) = true := decide_eq_true hm
  go_enter Try.func22, Try.ntmps22
  go_wp2
  have hB0 := (Below.refl _ w).alloc (Nat.le_refl _) (.cells #[.int .i64 0, .int .i64 0, .int .i64 0, .slice none 0 0] 40)
  have hG0 := heap_alloc_new w (.cells #[.int .i64 0, .int .i64 0, .int .i64 0, .slice none 0 0] 40)
  have hv1 := hv.alloc (.cells #[.int .i64 0, .int .i64 0, .int .i64 0, .slice none 0 0] 40)
  have hs1 : w.heap.size < (w.alloc (.cells #[.int .i64 0, .int .i64 0, .int .i64 0, .slice none 0 0] 40)).heap.size := by simp
  obtain ⟨W1, hW1⟩ : ∃ W1, w.alloc (.cells #[.int .i64 0, .int .i64 0, .int .i64 0, .slice none 0 0] 40) = W1 := ⟨_, rfl⟩
  rw [hW1] at hB0 hG0 hv1 hs1 ⊢
  clear hW1
  have c0 := hv1.at_ 0 (by omega)
  have c1 := hv1.at_ 1 (by omega)
  have c2 := hv1.at_ 2 (by omega)
  rw [Nat.add_zero] at c0
  go_quiet (fail)
  have g0 := blk_cell (j := 0) hG0 rfl
  have g1 := blk_cell (j := 1) hG0 rfl
  have g2 := blk_cell (j := 2) hG0 rfl
  have g3 := blk_cell (j := 3) hG0 rfl
  have f0 := blk_free (j := 0) hG0
  have f1 := blk_free (j := 1) hG0
  have f2 := blk_free (j := 2) hG0
  have f3 := blk_free (j := 3) hG0
  have HG := Lib.hid hG0
  clear hG0
  go_wp2
  have hs6 := set4 (W := W1.drewN nq) HG.out (.int .i64 0) (.int .i64 0) (.int .i64 0) (.slice none 0 0)
  have hg6 := set4_grown (W1.drewN nq) w.heap.size (.int .i64 0) (.int .i64 0) (.int .i64 0) (.slice none 0 0)
  refine bodyPost_ret (results_row_tmp2 rfl _ _ w.heap.size 40 #[.int .i64 0, .int .i64 0, .int .i64 0, .slice none 0 0] (0, 0) _ rfl hs6 Try.underlying40 rfl (by kernel_rfl)) rfl ?_
  exact ⟨_, rfl, FrT.zero _ _, (below_drewN hB0 nq).grown hg6 (Nat.le_of_lt hs1) (fun k hk => by cases hk; exact Nat.le_refl _)⟩

theorem refNext_more (v : Value) (zs : List Int) (most : Int) (w : World) (hv : Sl .u8 w v zs) (hl : 9 ≤ zs.length) (hm : num (zs.take 3) ≤ most) (hk : (zs.length : Int) < 9 + num (zs.take 3)) :
    Calls Try.prog 22 #[v, .int .i64 most] w fun e w' => ∃ fv, e = .returned (.tuple #[fv, .int .i64 0, .int .i64 2]) ∧ FrT w' 5 fv Fr.zero ∧ Below w.heap.size w w' := by
  obtain ⟨b, off, cap, rfl, hlc, hcm, _, _⟩ := (hv.parts.resolve_left (fun h => by rw [h.1] at hl; simp at hl)).2
  have hmax := hv.len
  unfold maxLen at hmax hcm
  have hnb := num_head hv.fit hl
  have HN := Lib.hid (num_three (zs := zs) (by omega))
  obtain ⟨N, hN⟩ : ∃ N : Nat, num (zs.take 3) = (N : Int) := ⟨(num (zs.take 3)).toNat, by omega⟩
  rw [hN] at hm hk hnb
  have HN2 : Hid (65536 * at0 zs 0 + 256 * at0 zs 1 + at0 zs 2 = (N : Int)) := by show _ = _; rw [← hN, HN.out]
  clear hN HN
  have h0 := hv.fit.byte 0
  have h1 := hv.fit.byte 1
  have h2 := hv.fit.byte 2
  have l0 : 0 < zs.length := by omega
  have l1 : (1 : Int) < (zs.length : Int) := by omega
  have l2 : (2 : Int) < (zs.length : Int) := by omega
  have d1 : decide ((zs.length : Int) < 9) = false := decide_eq_false (by omega)
  have d2 : decide (most < (N : Int)) = false := decide_eq_false (by omega)
  have d3 : decide ((zs.length : Int) - 9 < (N : Int)) = true := decide_eq_true (by omega)
  go_enter Try.func22, Try.ntmps22
  go_wp2
  have hB0 := (Below.refl _ w).alloc (Nat.le_refl _) (.cells #[.int .i64 0, .int .i64 0, .int .i64 0, .slice none 0 0] 40)
  have hG0 := heap_alloc_new w (.cells #[.int .i64 0, .int .i64 0, .int .i64 0, .slice none 0 0] 40)
  have hv1 := hv.alloc (.cells #[.int .i64 0, .int .i64 0, .int .i64 0, .slice none 0 0] 40)
  have hs1 : w.heap.size < (w.alloc (.cells #[.int .i64 0, .int .i64 0, .int .i64 0, .slice none 0 0] 40)).heap.size := by simp
  obtain ⟨W1, hW1⟩ : ∃ W1, w.alloc (.cells #[.int .i64 0, .int .i64 0, .int .i64 0, .slice none 0 0] 40) = W1 := ⟨_, rfl⟩
  rw [hW1] at hB0 hG0 hv1 hs1 ⊢
  clear hW1
  have c0 := hv1.at_ 0 (by omega)
  have c1 := hv1.at_ 1 (by omega)
  have c2 := hv1.at_ 2 (by omega)
  rw [Nat.add_zero] at c0
  go_quiet (fail)
  rw [HN2.out]
  have g0 := blk_cell (j := 0) hG0 rfl
  have g1 := blk_cell (j := 1) hG0 rfl
  have g2 := blk_cell (j := 2) hG0 rfl
  have g3 := blk_cell (j := 3) hG0 rfl
  have f0 := blk_free (j := 0) hG0
  have f1 := blk_free (j := 1) hG0
  have f2 := blk_free (j := 2) hG0
  have f3 := blk_free (j := 3) hG0
  have HG := Lib.hid hG0
  clear hG0
  go_wp2
  have hs6 := set4 (W := W1.drewN nq) HG.out (.int .i64 0) (.int .i64 0) (.int .i64 0) (.slice none 0 0)
  have hg6 := set4_grown (W1.drewN nq) w.heap.size (.int .i64 0) (.int .i64 0) (.int .i64 0) (.slice none 0 0)
  refine bodyPost_ret (results_row_tmp2 rfl _ _ w.heap.size 40 #[.int .i64 0, .int .i64 0, .int .i64 0, .slice none 0 0] (0, 0) _ rfl hs6 Try.underlying40 rfl (by kernel_rfl)) rfl ?_
  exact ⟨_, rfl, FrT.zero _ _, (below_drewN hB0 nq).grown hg6 (Nat.le_of_lt hs1) (fun k hk => by cases hk; exact Nat.le_refl _)⟩

set_option maxHeartbeats 1000000 in
theorem refNext_ok (v : Value) (zs : List Int) (most : Int) (w : World) (hv : Sl .u8 w v zs) (hl : 9 ≤ zs.length) (hm : num (zs.take 3) ≤ most) (hk : 9 + num (zs.take 3) ≤ (zs.length : Int)) :
    Calls Try.prog 22 #[v, .int .i64 most] w fun e w' => ∃ fv, e = .returned (.tuple #[fv, .int .i64 (9 + num (zs.take 3)), .int .i64 0]) ∧
      FrT w' 5 fv ⟨at0 zs 3, at0 zs 4, num ((zs.drop 5).take 4) % 2147483648, (zs.drop 9).take (num (zs.take 3)).toNat⟩ ∧ Below w.heap.size w w' := by
  rw [num_id hv.fit hl]
  obtain ⟨b, off, cap, rfl, hlc, hcm, _, _⟩ := (hv.parts.resolve_left (fun h => by rw [h.1] at hl; simp at hl)).2
  have hmax := hv.len
  unfold maxLen at hmax hcm
  have hnb := num_head hv.fit hl
  have HN := Lib.hid (num_three (zs := zs) (by omega))
  obtain ⟨N, hN⟩ : ∃ N : Nat, num (zs.take 3) = (N : Int) := ⟨(num (zs.take 3)).toNat, by omega⟩
  rw [hN] at hm hk hnb ⊢
  have HN2 : Hid (65536 * at0 zs 0 + 256 * at0 zs 1 + at0 zs 2 = (N : Int)) := by show _ = _; rw [← hN, HN.out]
  clear hN HN
  have h0 := hv.fit.byte 0
  have h1 := hv.fit.byte 1
  have h2 := hv.fit.byte 2
  have l0 : 0 < zs.length := by omega
  have l1 : (1 : Int) < (zs.length : Int) := by omega
  have l2 : (2 : Int) < (zs.length : Int) := by omega
  have d1 : decide ((zs.length : Int) < 9) = false := decide_eq_false (by omega)
  have d2 : decide (most < (N : Int)) = false := decide_eq_false (by omega)
  rw [Int.toNat_natCast]
  have d3 : decide ((zs.length : Int) - 9 < (N : Int)) = false := decide_eq_false (by omega)
  have h5 := hv.fit.byte 5
  have h6 := hv.fit.byte 6
  have h7 := hv.fit.byte 7
  have h8 := hv.fit.byte 8
  have l5 : (5 : Int) < (zs.length : Int) := by omega
  have l6 : (6 : Int) < (zs.length : Int) := by omega
  have l7 : (7 : Int) < (zs.length : Int) := by omega
  have l8 : (8 : Int) < (zs.length : Int) := by omega
  go_enter Try.func22, Try.ntmps22
  go_wp2
  have hB0 := (Below.refl _ w).alloc (Nat.le_refl _) (.cells #[.int .i64 0, .int .i64 0, .int .i64 0, .slice none 0 0] 40)
  have hG0 := heap_alloc_new w (.cells #[.int .i64 0, .int .i64 0, .int .i64 0, .slice none 0 0] 40)
  have hv1 := hv.alloc (.cells #[.int .i64 0, .int .i64 0, .int .i64 0, .slice none 0 0] 40)
  have hs1 : w.heap.size < (w.alloc (.cells #[.int .i64 0, .int .i64 0, .int .i64 0, .slice none 0 0] 40)).heap.size := by simp
  obtain ⟨W1, hW1⟩ : ∃ W1, w.alloc (.cells #[.int .i64 0, .int .i64 0, .int .i64 0, .slice none 0 0] 40) = W1 := ⟨_, rfl⟩
  rw [hW1] at hB0 hG0 hv1 hs1 ⊢
  clear hW1
  have c0 := hv1.at_ 0 (by omega)
  have c1 := hv1.at_ 1 (by omega)
  have c2 := hv1.at_ 2 (by omega)
  rw [Nat.add_zero] at c0
  go_quiet (fail)
  rw [HN2.out]
  clear c0 c1 c2 h0 h1 h2
  have c5 := hv1.at_ 5 (by omega)
  have c6 := hv1.at_ 6 (by omega)
  have c7 := hv1.at_ 7 (by omega)
  have c8 := hv1.at_ 8 (by omega)
  go_wp2
  go_quiet (fail)
  go_wp2
  refine wp_region_any (by kernel_rfl) ?_
  change wpAny _ _ _ _ _ _ _ (World.drew _)
  generalize hW2 : World.drew _ = W2
  have hB2 : Below W1.heap.size W1 W2 := by rw [← hW2]; exact (below_drewN (below_drewN (Below.refl _ _) _) _).drew
  clear hW2 c5 c6 c7 c8 h5 h6 h7 h8 l5 l6 l7 l8
  have hv2 := hv1.below hB2
  have hlr : ((zs.drop 9).take N).length = N := by simp; omega
  obtain ⟨vr, hrr, hvr⟩ := hv2.range Try.sliceR Try.sizeR 9 (9 + N) (by decide) (by omega) hk
  rw [List.drop_take, show (9 + (N : Int)).toNat - (9 : Int).toNat = N by omega, show (9 : Int).toNat = 9 from rfl] at hvr
  have l3 : (3 : Int) < (zs.length : Int) := by omega
  have l4 : (4 : Int) < (zs.length : Int) := by omega
  refine wpAny_early 16 78 (.int .i64 N) (by kernel_rfl) (by kernel_rfl) (by kernel_rfl) (fun _ _ _ h => h) rfl (fun o ho => by obtain rfl := Option.some.inj ho; exact Or.inl ⟨rfl, fun w => rfl⟩) ?_
  simp only [Act.put, List.setIfInBounds_toArray, List.set_cons_zero, List.set_cons_succ]
  refine wpAny_early 17 79 (.int .i64 (9 + N)) (by kernel_rfl) (by kernel_rfl) (by kernel_rfl) (fun _ _ _ h => h) rfl (fun o ho => by obtain rfl := Option.some.inj ho; exact Or.inl ⟨rfl, fun w => by simp [go_sem]; exact wrap_i64_small (by omega) (by omega)⟩) ?_
  simp only [Act.put, List.setIfInBounds_toArray, List.set_cons_zero, List.set_cons_succ]
  refine wpAny_table 18 [62, 63, 64, 65, 66, 67, 68, 69, 70, 71, 72, 73, 74, 75, 76, 77, 78, 79] [[], [(0, 62)], [(1, 63)], [(2, 64)], [], [(4, 66)], [(5, 67)], [(6, 68)], [], [], [], [], [(11, 73)], [(10, 72), (12, 74)], [(9, 71), (13, 75)], [(3, 65), (7, 69), (8, 70), (14, 76)], [], [(16, 78)]] [16, 17]
    (fun i v w' => match i with
      | 0 => v = .slice (some ⟨b, off, none⟩) zs.length cap
      | 1 => v = .pointer (some ⟨b, off + 3, none⟩)
      | 2 => v = .int .u8 (at0 zs 3)
      | 3 => v = .int .i64 (at0 zs 3)
      | 4 => v = .slice (some ⟨b, off, none⟩) zs.length cap
      | 5 => v = .pointer (some ⟨b, off + 4, none⟩)
      | 6 => v = .int .u8 (at0 zs 4)
      | 7 => v = .int .i64 (at0 zs 4)
      | 8 => v = .int .i64 (16777216 * (at0 zs 5 % 128) + 65536 * at0 zs 6 + 256 * at0 zs 7 + at0 zs 8)
      | 9 => ∃ g, v = .slice (some ⟨g, 0, none⟩) 0 0 ∧ w'.ownsRow W2.heap.size 5 1 (.slice (some ⟨g, 0, none⟩) 0 0) 0 []
      | 10 => v = .slice (some ⟨b, off, none⟩) zs.length cap
      | 11 => v = .int .i64 N
      | 12 => v = .int .i64 (9 + N)
      | 13 => v = vr
      | 14 => w'.ownsRow W2.heap.size 5 1 v ((zs.drop 9).take N).length (((zs.drop 9).take N).map (Value.int .u8))
      | 15 => ∃ pv, v = .agg #[.int .i64 (at0 zs 3), .int .i64 (at0 zs 4), .int .i64 (16777216 * (at0 zs 5 % 128) + 65536 * at0 zs 6 + 256 * at0 zs 7 + at0 zs 8), pv] ∧ w'.ownsRow W2.heap.size 5 1 pv ((zs.drop 9).take N).length (((zs.drop 9).take N).map (Value.int .u8))
      | 16 => v = .int .i64 N
      | 17 => v = .int .i64 (9 + N)
      | _ => True) (by kernel_rfl) (by kernel_rfl) (by kernel_rfl) ?tEarly (by kernel_rfl) ?tStab ?tOps ?tRest
  case tEarly =>
    intro i hi
    simp only [List.mem_cons, List.not_mem_nil, or_false] at hi
    rcases hi with rfl | rfl
    · rfl
    · rfl
  case tStab =>
    intro i v w3 w4 h hb
    match i, h with
    | 0, h | 1, h | 2, h | 3, h | 4, h | 5, h | 6, h | 7, h | 8, h | 10, h | 11, h | 12, h | 13, h | 16, h | 17, h => exact h
    | 9, ⟨g, e, ho⟩ => exact ⟨g, e, owned_below ho hb⟩
    | 14, ho => exact owned_below ho hb
    | 15, ⟨pv, e, ho⟩ => exact ⟨pv, e, owned_below ho hb⟩
    | i + 18, _ => trivial
  case tOps =>
    simp only [List.take_succ_cons, List.take_zero, opsOk]
    refine ⟨?_, ?_, ?_, ?_, ?_, ?_, ?_, ?_, ?_, ?_, ?_, ?_, ?_, ?_, ?_, ?_, ?_, ?_, trivial⟩
    · intro ρ w3 hc hf ho hB hj
      have x0 : ρ (.tmp 0) = .slice (some ⟨b, off, none⟩) zs.length cap := ho 0 (by decide)
      simp [gives, go_sem, x0, Below.refl]
    · intro ρ w3 hc hf ho hB hj
      have x0 : ρ (.tmp 62) = .slice (some ⟨b, off, none⟩) zs.length cap := hj (0, 62) (by simp)
      simp [gives, go_sem, x0, hc, l3, Below.refl]
    · intro ρ w3 hc hf ho hB hj
      have x0 : ρ (.tmp 63) = .pointer (some ⟨b, off + 3, none⟩) := hj (1, 63) (by simp)
      have cc := (hv2.below hB).at_ 3 (by omega)
      simp [gives, go_sem, x0, cc, Below.refl]
    · intro ρ w3 hc hf ho hB hj
      have x0 : ρ (.tmp 64) = .int .u8 (at0 zs 3) := hj (2, 64) (by simp)
      simp [gives, go_sem, x0, Below.refl]
      have hb3 := hv.fit.byte 3; exact wrap_i64_small (by omega) (by omega)
    · intro ρ w3 hc hf ho hB hj
      have x0 : ρ (.tmp 0) = .slice (some ⟨b, off, none⟩) zs.length cap := ho 0 (by decide)
      simp [gives, go_sem, x0, Below.refl]
    · intro ρ w3 hc hf ho hB hj
      have x0 : ρ (.tmp 66) = .slice (some ⟨b, off, none⟩) zs.length cap := hj (4, 66) (by simp)
      simp [gives, go_sem, x0, hc, l4, Below.refl]
    · intro ρ w3 hc hf ho hB hj
      have x0 : ρ (.tmp 67) = .pointer (some ⟨b, off + 4, none⟩) := hj (5, 67) (by simp)
      have cc := (hv2.below hB).at_ 4 (by omega)
      simp [gives, go_sem, x0, cc, Below.refl]
    · intro ρ w3 hc hf ho hB hj
      have x0 : ρ (.tmp 68) = .int .u8 (at0 zs 4) := hj (6, 68) (by simp)
      simp [gives, go_sem, x0, Below.refl]
      have hb4 := hv.fit.byte 4; exact wrap_i64_small (by omega) (by omega)
    · intro ρ w3 hc hf ho hB hj
      have x0 : ρ (.tmp 8) = .int .i64 (16777216 * (at0 zs 5 % 128) + 65536 * at0 zs 6 + 256 * at0 zs 7 + at0 zs 8) := ho 8 (by decide)
      simp [gives, go_sem, x0, Below.refl]
    · intro ρ w3 hc hf ho hB hj
      simp [gives, go_sem]
      exact ⟨World.ownsRow_made _ _ 0 hB.size (by decide) rfl, (Below.refl _ _).alloc (Nat.le_refl _) _⟩
    · intro ρ w3 hc hf ho hB hj
      have x0 : ρ (.tmp 0) = .slice (some ⟨b, off, none⟩) zs.length cap := ho 0 (by decide)
      simp [gives, go_sem, x0, Below.refl]
    · intro ρ w3 hc hf ho hB hj
      have x0 : ρ (.tmp 7) = .int .i64 N := ho 7 (by decide)
      simp [gives, go_sem, x0, Below.refl]
    · intro ρ w3 hc hf ho hB hj
      have x0 : ρ (.tmp 73) = .int .i64 N := hj (11, 73) (by simp)
      simp [gives, go_sem, x0, hc, Below.refl]
      exact wrap_i64_small (by omega) (by omega)
    · intro ρ w3 hc hf ho hB hj
      have x0 : ρ (.tmp 72) = .slice (some ⟨b, off, none⟩) zs.length cap := hj (10, 72) (by simp)
      have x1 : ρ (.tmp 74) = .int .i64 (9 + N) := hj (12, 74) (by simp)
      simp [gives, go_sem, x0, x1, hc, hrr, Below.refl]
    · intro ρ w3 hc hf ho hB hj
      obtain ⟨g, x0, ho0⟩ := hj (9, 71) (by simp)
      have x1 : ρ (.tmp 75) = vr := hj (13, 75) (by simp)
      refine gives_fresh_ints (.tmp 71) (.tmp 75) 27 rfl W2.heap.size 5 .u8 1 Try.underlying27 Try.info5' g x0 ho0 vr ((zs.drop 9).take N) x1 (hvr.below hB) (by rw [hlr]; omega) (by rw [hlr]; unfold maxLen; omega) hB.size ?_
      intro v' w' ho' hb'
      exact ⟨ho', hb'⟩
    · intro ρ w3 hc hf ho hB hj
      have x0 : ρ (.tmp 65) = .int .i64 (at0 zs 3) := hj (3, 65) (by simp)
      have x1 : ρ (.tmp 69) = .int .i64 (at0 zs 4) := hj (7, 69) (by simp)
      have x2 : ρ (.tmp 70) = .int .i64 (16777216 * (at0 zs 5 % 128) + 65536 * at0 zs 6 + 256 * at0 zs 7 + at0 zs 8) := hj (8, 70) (by simp)
      have x3 := hj (14, 76) (by simp)
      obtain ⟨pv, hpv⟩ : ∃ pv, ρ (.tmp 76) = pv := ⟨_, rfl⟩
      dsimp only at x3
      rw [hpv] at x3
      obtain ⟨ao, cp, rfl, _⟩ := owned_shape x3
      simp [gives, go_sem, x0, x1, x2, hpv, Below.refl]
      simpa using x3
    · intro ρ w3 hc hf ho hB hj
      have x0 : ρ (.tmp 7) = .int .i64 N := ho 7 (by decide)
      simp [gives, go_sem, x0, Below.refl]
    · intro ρ w3 hc hf ho hB hj
      have x0 : ρ (.tmp 78) = .int .i64 N := hj (16, 78) (by simp)
      simp [gives, go_sem, x0, hc, Below.refl]
      exact wrap_i64_small (by omega) (by omega)
  case tRest =>
    intro x w3 hb hx
    obtain ⟨pv, x15, ho15⟩ := hx 15 (by decide)
    rw [hlr] at ho15
    obtain ⟨ao, cp, rfl, _⟩ := owned_shape ho15
    have x17 : x 17 = .int .i64 (9 + N) := hx 17 (by decide)
    simp only [putAll, List.getD_cons_zero, List.getD_cons_succ, Act.put, List.setIfInBounds_toArray, List.set_cons_zero, List.set_cons_succ, List.drop_succ_cons, List.drop_zero]
    rw [x15, x17]
    have hB3 := hB2.trans (hb.mono hB2.size)
    have hG3 := (hB3.block w.heap.size hs1).trans hG0
    have hpw : w.heap.size < W2.heap.size := by have := hB2.size; omega
    clear hx hb hG0
    have g0 := blk_cell (j := 0) hG3 rfl
    have g1 := blk_cell (j := 1) hG3 rfl
    have g2 := blk_cell (j := 2) hG3 rfl
    have g3 := blk_cell (j := 3) hG3 rfl
    have f0 := blk_free (j := 0) hG3
    have f1 := blk_free (j := 1) hG3
    have f2 := blk_free (j := 2) hG3
    have f3 := blk_free (j := 3) hG3
    have HG := Lib.hid hG3
    clear hG3
    go_wp2
    have hs6 := set4 HG.out (.int .i64 (at0 zs 3)) (.int .i64 (at0 zs 4)) (.int .i64 (16777216 * (at0 zs 5 % 128) + 65536 * at0 zs 6 + 256 * at0 zs 7 + at0 zs 8)) (.slice ao N cp)
    have hg6 := set4_grown w3 w.heap.size (.int .i64 (at0 zs 3)) (.int .i64 (at0 zs 4)) (.int .i64 (16777216 * (at0 zs 5 % 128) + 65536 * at0 zs 6 + 256 * at0 zs 7 + at0 zs 8)) (.slice ao N cp)
    refine bodyPost_ret (results_row_tmp2 rfl _ _ w.heap.size 40 _ (0, 0) _ rfl hs6 Try.underlying40 rfl (by kernel_rfl)) rfl ?_
    have ho6 := owned_kept ho15 hg6 (fun g hg e => by have := (ho15.lt g hg).1; simp only [Option.some.injEq] at e; omega)
    refine ⟨_, rfl, ⟨.slice ao N cp, rfl, ?_, Ty.of_own ho6⟩, ?_⟩
    · exact Sl.of_own ho6 ((hv.fit.drop 9).take N) (by rw [hlr]; unfold maxLen; omega)
    · exact (hB0.trans (hB3.mono hB0.size)).grown hg6 (by have := hB0.size; have := hB3.size; omega) (fun k hk => by cases hk; exact Nat.le_refl _)

theorem refNext_any (v : Value) (zs : List Int) (most : Int) (w : World) (hv : Sl .u8 w v zs) :
    Calls Try.prog 22 #[v, .int .i64 most] w fun e w' => ∃ fv, e = .returned (.tuple #[fv, .int .i64 (nextN zs most), .int .i64 (nextE zs most)]) ∧ FrT w' 5 fv (nextF zs most) ∧ Below w.heap.size w w' := by
  by_cases h1 : zs.length < 9
  · have e : nextE zs most = 2 := by rw [nextE, if_pos h1]
    rw [nextN, nextF, e, if_neg (by decide), if_neg (by decide)]
    exact refNext_short v zs most w hv h1
  · by_cases h2 : most < num (zs.take 3)
    · have e : nextE zs most = 4 := by rw [nextE, if_neg h1, if_pos h2]
      rw [nextN, nextF, e, if_neg (by decide), if_neg (by decide)]
      exact refNext_full v zs most w hv (by omega) h2
    · by_cases h3 : (zs.length : Int) < 9 + num (zs.take 3)
      · have e : nextE zs most = 2 := by rw [nextE, if_neg h1, if_neg h2, if_pos h3]
        rw [nextN, nextF, e, if_neg (by decide), if_neg (by decide)]
        exact refNext_more v zs most w hv (by omega) (by omega) h3
      · have e : nextE zs most = 0 := by rw [nextE, if_neg h1, if_neg h2, if_neg h3]
        rw [nextN, nextF, e, if_pos rfl, if_pos rfl]
        exact refNext_ok v zs most w hv (by omega) (by omega) (by omega)

end Go.Proofs.Ytfdkbaekohaaoaa
