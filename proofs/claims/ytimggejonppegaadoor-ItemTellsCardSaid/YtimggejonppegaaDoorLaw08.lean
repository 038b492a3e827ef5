
/-
  The statements of layer 8: their live question.
-/
import Derived.Test.YtimggejonppegaaDoorItAny
namespace Go.Proofs.YtimggejonppegaaDoor
open Go.RowKit

theorem al8_s1 : litS (nums ⟨#[47, 120]⟩) = [2, 47, 120] := by decide +kernel
theorem al8_e1 : encT 1 4 ⟨#[]⟩ ⟨#[47, 120]⟩ = ([68, 2, 47, 120], 0) := by
  rw [encT, if_pos (by decide), encI_one (by decide) (by decide), al8_s1]
  decide +kernel
theorem al8_e2 : encT 0 62 ⟨#[]⟩ ⟨#[]⟩ = ([190], 0) := by
  rw [encT, if_pos (by decide), encI_plain (by decide)]
  decide +kernel
theorem al8_e3 : encT 2 1 ⟨#[97]⟩ ⟨#[]⟩ = ([], 1) := by rw [encT, if_neg (by decide)]
theorem al8_l1 : decL 9 [1, 97, 1, 98, 9] = ([97], 2, 0) := by decide +kernel
theorem al8_l2 : decL 9 [1, 98, 9] = ([98], 2, 0) := by decide +kernel
theorem al8_l3 : decL 9 [1, 97, 2, 98] = ([97], 2, 0) := by decide +kernel
theorem al8_l4 : decL 9 [2, 98] = ([], 0, 2) := by decide +kernel
theorem al8_d1 : decI 9 [16, 1, 97, 1, 98, 9] = ⟨3, 0, [97], [98], 5, 0⟩ := by
  have hd : decP (fullP (bitsI 3)) [16, 1, 97, 1, 98, 9] = (0, 1, 0) := by decide +kernel
  rw [decI_two (by decide) (by decide +kernel) hd (by decide) (by decide), decNV]
  simp only [show min (9 : Int) 65536 = 9 from by decide, show List.drop (1 : Int).toNat [(16 : Int), 1, 97, 1, 98, 9] = [1, 97, 1, 98, 9] from rfl, al8_l1]
  rw [if_neg (by simp), decV]
  simp only [show min (9 : Int) 65536 = 9 from by decide, show List.drop ((1 : Int) + 2).toNat [(16 : Int), 1, 97, 1, 98, 9] = [1, 98, 9] from rfl, al8_l2]
  rfl
theorem al8_d2 : decI 9 [63, 225, 31] = ⟨4, 4096, [], [], 3, 0⟩ := by
  have hd : decP (fullP (bitsI 4)) [63, 225, 31] = (4096, 3, 0) := by decide +kernel
  rw [decI_plain (by decide) (by decide +kernel) hd (by decide) (by decide)]
theorem al8_d3 : decI 9 [128] = .err 3 := by
  have hd : decP (fullP (bitsI 0)) [128] = (0, 1, 0) := by decide +kernel
  exact decI_less (by decide) (by decide +kernel) hd (by decide)
theorem al8_d4 : decI 9 [0, 1, 97, 2, 98] = .err 2 := by
  have hd : decP (fullP (bitsI 2)) [0, 1, 97, 2, 98] = (0, 1, 0) := by decide +kernel
  rw [decI_two (by decide) (by decide +kernel) hd (by decide) (by decide), decNV]
  simp only [show min (9 : Int) 65536 = 9 from by decide, show List.drop (1 : Int).toNat [(0 : Int), 1, 97, 2, 98] = [1, 97, 2, 98] from rfl, al8_l3]
  rw [if_neg (by simp), decV]
  simp only [show min (9 : Int) 65536 = 9 from by decide, show List.drop ((1 : Int) + 2).toNat [(0 : Int), 1, 97, 2, 98] = [2, 98] from rfl, al8_l4]
  rfl
theorem al8_v1 : (decI 9 [16, 1, 97, 1, 98, 9]).val = .tuple #[.agg #[.int .i64 3, .int .i64 0, .string ⟨#[97]⟩, .string ⟨#[98]⟩], .int .i64 5, .int .i64 0] := by rw [al8_d1]; rfl
theorem al8_v2 : (decI 9 [63, 225, 31]).val = .tuple #[.agg #[.int .i64 4, .int .i64 4096, .string ⟨#[]⟩, .string ⟨#[]⟩], .int .i64 3, .int .i64 0] := by rw [al8_d2]; rfl
theorem al8_v3 : (decI 9 [128]).val = .tuple #[.agg #[.int .i64 0, .int .i64 0, .string ⟨#[]⟩, .string ⟨#[]⟩], .int .i64 0, .int .i64 3] := by rw [al8_d3]; rfl
theorem al8_v4 : (decI 9 [0, 1, 97, 2, 98]).val = .tuple #[.agg #[.int .i64 0, .int .i64 0, .string ⟨#[]⟩, .string ⟨#[]⟩], .int .i64 0, .int .i64 2] := by rw [al8_d4]; rfl

/-- what is kept through the live question -/
structure Al8 (w W : World) (a b : Value) : Prop where
  sa : Sl .u8 W a [68, 2, 47, 120]
  sb : Sl .u8 W b [190]
  bel : Below w.heap.size w W
theorem Al8.go {w W W' : World} {a b : Value} (h : Al8 w W a b) (hb : Below W.heap.size W W') : Al8 w W' a b := ⟨h.sa.below hb, h.sb.below hb, h.bel.trans (hb.mono h.bel.size)⟩

set_option maxHeartbeats 4000000 in
set_option maxRecDepth 20000 in
theorem alive08 (w : World) (hT : ShT w) : Calls Tryd.prog 5 #[] w fun e w' => e = .returned (.bool true) ∧ Below w.heap.size w w' := by
  have HT : Hid (∀ W, Below w.heap.size w W → ShT W) := fun W h => hT.low h hT.lt
  have HT0 := Lib.hid hT
  clear hT
  go_enter Tryd.func5, Tryd.ntmps5
  go_wp2_with fail
  refine (iEnc_any 1 4 ⟨#[]⟩ ⟨#[47, 120]⟩ _ HT0.out).mono ?_
  rintro e w1 ⟨a, rfl, ha, hb1⟩
  rw [al8_e1] at ha ⊢
  have H1 := Lib.hid (And.intro ha hb1)
  clear ha hb1
  go_wp2_with fail
  refine (iEnc_any 0 62 ⟨#[]⟩ ⟨#[]⟩ _ (HT.out _ H1.out.2)).mono ?_
  rintro e w2 ⟨b, rfl, hb, hb2⟩
  rw [al8_e2] at hb ⊢
  have H2 : Hid (Al8 w w2 a b) := ⟨H1.out.1.below hb2, hb, H1.out.2.trans (hb2.mono H1.out.2.size)⟩
  clear hb hb2 H1
  go_wp2_with fail
  refine (iEnc_any 2 1 ⟨#[97]⟩ ⟨#[]⟩ _ (HT.out _ H2.out.bel)).mono ?_
  rintro e w3 ⟨c, rfl, hc, hb3⟩
  rw [al8_e3]
  have H3 := Lib.hid (H2.out.go hb3)
  clear hc hb3 H2
  rcases H3.out.sa.parts with ⟨h, _⟩ | ⟨_, blk, off, ca, rfl, _, _, _, _⟩
  · cases h
  obtain ⟨ab, cb, rfl, _⟩ := id H3.out.sb
  go_wp2_with fail
  refine (iDec_any _ [16, 1, 97, 1, 98, 9] 9 _ (Sl.lit [16, 1, 97, 1, 98, 9] rfl rfl rfl (by decide) (by decide)) (by decide) (HT.out _ (H3.out.bel.alloc H3.out.bel.size _))).mono ?_
  rintro e w4 ⟨rfl, hb4⟩
  rw [al8_v1]
  have H4 := Lib.hid (H3.out.go (((Below.refl _ _).alloc (Nat.le_refl _) _).trans (hb4.mono (by simp))))
  clear hb4 H3
  go_wp2_with fail
  have hX4 : ItAt (w4.alloc (.cells #[.int .i64 3, .int .i64 0, .string ⟨#[97]⟩, .string ⟨#[98]⟩] 23)) w4.heap.size 23 3 0 ⟨#[97]⟩ ⟨#[98]⟩ := heap_alloc_new _ _
  refine (iDec_any _ [63, 225, 31] 9 _ (Sl.lit [63, 225, 31] (by simp) rfl rfl (by decide) (by decide)) (by decide) (HT.out _ ((H4.out.bel.alloc H4.out.bel.size _).alloc (by have := H4.out.bel.size; simp; omega) _))).mono ?_
  rintro e w5 ⟨rfl, hb5⟩
  rw [al8_v2]
  have hg5 : Below (w4.alloc (.cells #[.int .i64 3, .int .i64 0, .string ⟨#[97]⟩, .string ⟨#[98]⟩] 23)).heap.size (w4.alloc (.cells #[.int .i64 3, .int .i64 0, .string ⟨#[97]⟩, .string ⟨#[98]⟩] 23)) w5 := ((Below.refl _ _).alloc (Nat.le_refl _) _).trans (hb5.mono (by simp))
  have H5 : Hid (Al8 w w5 _ _ ∧ ItAt w5 w4.heap.size 23 3 0 ⟨#[97]⟩ ⟨#[98]⟩) := ⟨H4.out.go (((Below.refl _ _).alloc (Nat.le_refl _) _).trans (hg5.mono (by simp))), hX4.grown hg5⟩
  clear hb5 hg5 hX4 H4
  go_wp2_with fail
  have hY5 : ItAt (w5.alloc (.cells #[.int .i64 4, .int .i64 4096, .string ⟨#[]⟩, .string ⟨#[]⟩] 23)) w5.heap.size 23 4 4096 ⟨#[]⟩ ⟨#[]⟩ := heap_alloc_new _ _
  refine (iDec_any _ [128] 9 _ (Sl.lit [128] (by simp) rfl rfl (by decide) (by decide)) (by decide) (HT.out _ ((H5.out.1.bel.alloc H5.out.1.bel.size _).alloc (by have := H5.out.1.bel.size; simp; omega) _))).mono ?_
  rintro e w6 ⟨rfl, hb6⟩
  rw [al8_v3]
  have hg6 : Below (w5.alloc (.cells #[.int .i64 4, .int .i64 4096, .string ⟨#[]⟩, .string ⟨#[]⟩] 23)).heap.size (w5.alloc (.cells #[.int .i64 4, .int .i64 4096, .string ⟨#[]⟩, .string ⟨#[]⟩] 23)) w6 := ((Below.refl _ _).alloc (Nat.le_refl _) _).trans (hb6.mono (by simp))
  have hh6 : Below w5.heap.size w5 w6 := ((Below.refl _ _).alloc (Nat.le_refl _) _).trans (hg6.mono (by simp))
  have H6 : Hid (Al8 w w6 _ _ ∧ ItAt w6 w4.heap.size 23 3 0 ⟨#[97]⟩ ⟨#[98]⟩ ∧ ItAt w6 w5.heap.size 23 4 4096 ⟨#[]⟩ ⟨#[]⟩) := ⟨H5.out.1.go hh6, H5.out.2.grown hh6, hY5.grown hg6⟩
  clear hb6 hg6 hh6 hY5 H5
  go_wp2_with fail
  refine (iDec_any _ [0, 1, 97, 2, 98] 9 _ (Sl.lit [0, 1, 97, 2, 98] (by simp) rfl rfl (by decide) (by decide)) (by decide) (HT.out _ ((H6.out.1.bel.alloc H6.out.1.bel.size _).alloc (by have := H6.out.1.bel.size; simp; omega) _))).mono ?_
  rintro e w7 ⟨rfl, hb7⟩
  rw [al8_v4]
  have hh7 : Below w6.heap.size w6 w7 := ((Below.refl w6.heap.size w6).alloc (Nat.le_refl _) _).trans (((Below.refl _ _).alloc (Nat.le_refl _) _).mono (by simp) |>.trans (hb7.mono (by simp; omega)))
  have H7 : Hid (Al8 w w7 _ _ ∧ ItAt w7 w4.heap.size 23 3 0 ⟨#[97]⟩ ⟨#[98]⟩ ∧ ItAt w7 w5.heap.size 23 4 4096 ⟨#[]⟩ ⟨#[]⟩) := ⟨H6.out.1.go hh7, H6.out.2.1.grown hh7, H6.out.2.2.grown hh7⟩
  clear hb7 hh7 H6
  have a0 : w7.cell? ⟨blk, off, none⟩ = some (.int .u8 68) := by have := H7.out.1.sa.at_ 0 (by decide); rwa [Nat.add_zero] at this
  have hbl := World.block_lt_of_cell? _ _ a0
  go_wp2_with fail
  refine (same_any _ _ [190] [190] _ ((H7.out.1.sb.alloc _).alloc _) (Sl.lit [190] (by simp) rfl rfl (by decide) (by decide))).mono ?_
  rintro e w' ⟨rfl, n8, rfl⟩
  rw [decide_eq_true rfl]
  have hh8 : Below w7.heap.size w7 (((w7.alloc (.cells #[.int .i64 0, .int .i64 0, .string ⟨#[]⟩, .string ⟨#[]⟩] 23)).alloc (.cells ([190].map (Value.int .u8)).toArray 5)).drewN n8) := below_drewN (((Below.refl _ _).alloc (Nat.le_refl _) _).alloc (by simp) _) n8
  have hX := H7.out.2.1.grown hh8
  have hY := H7.out.2.2.grown hh8
  have H8 := Lib.hid (H7.out.1.bel.trans (hh8.mono H7.out.1.bel.size))
  obtain ⟨W8, hW8⟩ : ∃ W8, (((w7.alloc (.cells #[.int .i64 0, .int .i64 0, .string ⟨#[]⟩, .string ⟨#[]⟩] 23)).alloc (.cells ([190].map (Value.int .u8)).toArray 5)).drewN n8) = W8 := ⟨_, rfl⟩
  rw [hW8] at hX hY H8 ⊢
  have c0 := hX.c0
  have c1 := hX.c1
  have c2 := hX.c2
  have c3 := hX.c3
  have b0 := hY.c0
  have b1 := hY.c1
  have b2 := hY.c2
  have b3 := hY.c3
  have heq : ∀ w, (binOp .eql 23 (.agg #[.int .i64 3, .int .i64 0, .string ⟨#[97]⟩, .string ⟨#[98]⟩]) (.agg #[.int .i64 3, .int .i64 0, .string ⟨#[97]⟩, .string ⟨#[98]⟩])).run Tryd.prog w = .ok (.bool true) w := fun w => by rw [it_eql, eqI_self]
  have heq2 : ∀ w, (binOp .eql 23 (.agg #[.int .i64 4, .int .i64 4096, .string ⟨#[]⟩, .string ⟨#[]⟩]) (.agg #[.int .i64 4, .int .i64 4096, .string ⟨#[]⟩, .string ⟨#[]⟩])).run Tryd.prog w = .ok (.bool true) w := fun w => by rw [it_eql, eqI_self]
  clear hh8 hX hY hW8 H7 a0 hbl
  go_wp2_with fail
  go_ret
  exact ⟨rfl, H8.out⟩
end Go.Proofs.YtimggejonppegaaDoor
