
/-
  Layer 14's live question.
-/
import Derived.Test.YtfdkbaekohaaoaaOutProg
import Derived.WalkMore
namespace Go.Proofs.Ytfdkbaekohaaoaa
set_option maxRecDepth 20000
open Go.RowKit

/-- the outlet, from a number on -/
structure Lo (w W : World) (T : Nat) (O : Option Nat) (q : List Int) : Prop where
  a : OutAt W T O q
  b : Below w.heap.size w W
  gT : w.heap.size ≤ T
  gO : ∀ g, O = some g → w.heap.size ≤ g
section
variable {w W W' : World} {T : Nat} {O O' : Option Nat} {q q' : List Int}
theorem Lo.grown (h : Lo w W T O q) (hb : Below W.heap.size W W') : Lo w W' T O q := ⟨h.a.turn (Turn.of_below hb (S := fun _ => False)) id (fun _ _ => id), h.b.trans (hb.mono h.b.size), h.gT, h.gO⟩
theorem Lo.step (h : Lo w W T O q) (ha : OutAt W' T O' q') (ht : Turn (fun k => k = T ∨ O = some k) W W') (hO : O' = O ∨ ∀ g, O' = some g → W.heap.size ≤ g) : Lo w W' T O' q' := by
  have hs := h.b.size
  refine ⟨ha, ht.base h.b hs (fun k hk => hk.elim (fun e => by rw [e]; exact h.gT) (h.gO k)), h.gT, fun g hg => ?_⟩
  rcases hO with rfl | hO
  · exact h.gO g hg
  · have := hO g hg; omega
end
/-- three empty frames, side by side -/
theorem SlF.three {W : World} {g : Nat} (h : W.heap[g]? = some (.cells #[.int .i64 0, .int .i64 0, .int .i64 0, .slice none 0 0, .int .i64 0, .int .i64 0, .int .i64 0, .slice none 0 0, .int .i64 0, .int .i64 0, .int .i64 0, .slice none 0 0] 40 (0, 0))) :
    SlF W (.slice (some ⟨g, 0, none⟩) 3 3) [(⟨0, 0, 0, []⟩, .slice none 0 0), (⟨0, 0, 0, []⟩, .slice none 0 0), (⟨0, 0, 0, []⟩, .slice none 0 0)] := by
  refine ⟨fun p hp => ?_, _, 3, rfl, by decide, by decide, .inr ⟨g, 0, rfl, (Array.getElem?_eq_some_iff.1 h).1, fun i p hip => ?_⟩⟩
  · simp only [List.mem_cons, List.not_mem_nil, or_false, or_self] at hp
    subst hp
    exact Sl.nil _ _
  · match i, hip with
    | 0, hip => cases hip; exact ⟨blk_cell (j := 0) h rfl, blk_cell (j := 1) h rfl, blk_cell (j := 2) h rfl, blk_cell (j := 3) h rfl⟩
    | 1, hip => cases hip; exact ⟨blk_cell (j := 4) h rfl, blk_cell (j := 5) h rfl, blk_cell (j := 6) h rfl, blk_cell (j := 7) h rfl⟩
    | 2, hip => cases hip; exact ⟨blk_cell (j := 8) h rfl, blk_cell (j := 9) h rfl, blk_cell (j := 10) h rfl, blk_cell (j := 11) h rfl⟩
def q14a : List Int := [0, 0, 1, 6, 0, 0, 0, 0, 0, 5]
def q14b : List Int := [5, 0, 0, 0, 0, 0, 0, 0, 0, 0, 0, 0, 0, 0, 0, 0, 0, 0, 0]
theorem al14_1 : pushL [] ⟨6, 0, 0, [5]⟩ = q14a ∧ pushE ⟨6, 0, 0, [5]⟩ = 0 := by decide +kernel
theorem al14_2 : pushL q14a ⟨256, 0, 0, []⟩ = q14a ∧ pushE ⟨256, 0, 0, []⟩ = 1 := by decide +kernel
theorem al14_3 : q14a.take (drainN 9 q14a.length) = [0, 0, 1, 6, 0, 0, 0, 0, 0] ∧ q14a.drop (drainN 9 q14a.length) = [5] := by decide +kernel
theorem al14_4 : fillL 12 [5] [⟨0, 0, 0, []⟩, ⟨0, 0, 0, []⟩, ⟨0, 0, 0, []⟩] = (q14b, 2) := by decide +kernel
theorem al14_5 : q14b.take (drainN 99 q14b.length) = q14b ∧ q14b.drop (drainN 99 q14b.length) = [] := by decide +kernel
set_option maxHeartbeats 4000000 in
theorem alive14 (w : World) : Calls Try.prog 6 #[] w fun e w' => e = .returned (.bool true) ∧ Below w.heap.size w w' := by
  go_enter Try.func6, Try.ntmps6
  go_wp2_with fail
  refine (pNew14 w).mono ?_
  rintro e w1 ⟨T, O, rfl, hT, hO, ha, hb⟩
  have H1 := Lib.hid (show Lo w w1 T O [] from ⟨ha, hb, hT, hO⟩)
  clear hT hO ha hb
  go_wp2_with fail
  have HB2 := Lib.hid ((Below.refl w1.heap.size w1).alloc (Nat.le_refl _) (.cells #[.int .u8 5] 5))
  have HS2 := Lib.hid (show Sl .u8 (w1.alloc (.cells #[.int .u8 5] 5)) (.slice (some ⟨w1.heap.size, 0, none⟩) 1 1) [5] from Sl.lit [5] rfl rfl rfl (by decide) (by decide))
  have H2 := Lib.hid (H1.out.grown HB2.out)
  refine (pPush14_any T O [] _ ⟨6, 0, 0, [5]⟩ _ H2.out.a ⟨_, rfl, HS2.out⟩ (by decide) (by decide)).mono ?_
  rintro e w3 ⟨O3, rfl, h1, h2, h3⟩
  rw [al14_1.1] at h1
  rw [al14_1.2]
  have H3 := Lib.hid (H2.out.step h1 h2 h3)
  clear h1 h2 h3
  go_wp2_with fail
  refine (pPush14_any T O3 q14a _ ⟨256, 0, 0, []⟩ w3 H3.out.a ⟨_, rfl, Sl.nil _ _⟩ (by decide) (by decide)).mono ?_
  rintro e w4 ⟨O4, rfl, h1, h2, h3⟩
  rw [al14_2.1] at h1
  rw [al14_2.2]
  have H4 := Lib.hid (H3.out.step h1 h2 h3)
  clear h1 h2 h3
  go_wp2_with fail
  refine (pDrain14_any T O4 q14a 9 w4 H4.out.a (by decide)).mono ?_
  rintro e w5 ⟨v5, O5, rfl, hv, h1, h2, h3, h4⟩
  rw [al14_3.1] at hv
  rw [al14_3.2] at h1
  obtain ⟨a5, c5, rfl, _⟩ := id hv
  have H5 := Lib.hid (show Lo w w5 T O5 [5] ∧ Sl .u8 w5 (.slice a5 ([0, 0, 1, 6, 0, 0, 0, 0, 0] : List Int).length c5) [0, 0, 1, 6, 0, 0, 0, 0, 0] ∧ ∀ g, (Value.slice a5 ([0, 0, 1, 6, 0, 0, 0, 0, 0] : List Int).length c5).ownBlock = some g → g ≠ T ∧ O5 ≠ some g ∧ g < w5.heap.size from
    ⟨H4.out.step h1 h2 h3, hv, fun g hg => ⟨fun e => by have := (h4 g hg).1; have := H4.out.a.lt.1; omega, (h4 g hg).2.2, (h4 g hg).2.1⟩⟩)
  clear hv h1 h2 h3 h4
  go_wp2_with fail
  obtain ⟨W6, hW6⟩ : ∃ W6, w5.alloc (.cells #[.int .i64 0, .int .i64 0, .int .i64 0, .slice none 0 0, .int .i64 0, .int .i64 0, .int .i64 0, .slice none 0 0, .int .i64 0, .int .i64 0, .int .i64 0, .slice none 0 0] 40) = W6 := ⟨_, rfl⟩
  rw [hW6]
  have HB6 := Lib.hid (show Below w5.heap.size w5 W6 by rw [← hW6]; exact (Below.refl _ _).alloc (Nat.le_refl _) _)
  have HG6 := Lib.hid (show W6.heap[w5.heap.size]? = some (.cells #[.int .i64 0, .int .i64 0, .int .i64 0, .slice none 0 0, .int .i64 0, .int .i64 0, .int .i64 0, .slice none 0 0, .int .i64 0, .int .i64 0, .int .i64 0, .slice none 0 0] 40 (0, 0)) by rw [← hW6]; exact heap_alloc_new _ _)
  have H6 := Lib.hid (show Lo w W6 T O5 [5] ∧ Sl .u8 W6 (.slice a5 ([0, 0, 1, 6, 0, 0, 0, 0, 0] : List Int).length c5) [0, 0, 1, 6, 0, 0, 0, 0, 0] from ⟨H5.out.1.grown HB6.out, H5.out.2.1.below HB6.out⟩)
  clear hW6
  refine (pFill14_any T O5 [5] 12 _ [(⟨0, 0, 0, []⟩, .slice none 0 0), (⟨0, 0, 0, []⟩, .slice none 0 0), (⟨0, 0, 0, []⟩, .slice none 0 0)] W6 H6.out.1.a (fun w' ht => SlF.three (ht.obj HG6.out (fun e => by
    have hl := H5.out.1.a.lt
    rcases e with e | e
    · omega
    · have := hl.2 _ e; omega))) (by decide) (by decide) (fun p hp => by
      simp only [List.mem_cons, List.not_mem_nil, or_false, or_self] at hp
      subst hp
      decide)).mono ?_
  rintro e w7 ⟨O7, rfl, h1, h2, h3⟩
  rw [show ([(⟨0, 0, 0, []⟩, .slice none 0 0), (⟨0, 0, 0, []⟩, .slice none 0 0), (⟨0, 0, 0, []⟩, .slice none 0 0)] : List (Fr × Value)).map (·.1) = [⟨0, 0, 0, []⟩, ⟨0, 0, 0, []⟩, ⟨0, 0, 0, []⟩] from rfl, al14_4] at h1 ⊢
  have H7 := Lib.hid (show Lo w w7 T O7 q14b ∧ Sl .u8 w7 (.slice a5 ([0, 0, 1, 6, 0, 0, 0, 0, 0] : List Int).length c5) [0, 0, 1, 6, 0, 0, 0, 0, 0] ∧ ∀ g, (Value.slice a5 ([0, 0, 1, 6, 0, 0, 0, 0, 0] : List Int).length c5).ownBlock = some g → g ≠ T ∧ O7 ≠ some g from by
    refine ⟨H6.out.1.step h1 h2 h3, H6.out.2.turn h2 (fun g hg e => e.elim (H5.out.2.2 g hg).1 (H5.out.2.2 g hg).2.1), fun g hg => ⟨(H5.out.2.2 g hg).1, fun e => ?_⟩⟩
    rcases h3 with h3 | h3
    · exact (H5.out.2.2 g hg).2.1 (h3 ▸ e)
    · have := h3 g e; have := (H5.out.2.2 g hg).2.2; have := HB6.out.size; omega)
  clear h1 h2 h3
  go_wp2_with fail
  refine (pDrain14_any T O7 q14b 99 w7 H7.out.1.a (by decide)).mono ?_
  rintro e w8 ⟨v8, O8, rfl, hv, h1, h2, h3, h4⟩
  rw [al14_5.1] at hv
  rw [al14_5.2] at h1
  obtain ⟨a8, c8, rfl, _⟩ := id hv
  have H8 := Lib.hid (show Lo w w8 T O8 [] ∧ Sl .u8 w8 (.slice a5 ([0, 0, 1, 6, 0, 0, 0, 0, 0] : List Int).length c5) [0, 0, 1, 6, 0, 0, 0, 0, 0] ∧ Sl .u8 w8 (.slice a8 q14b.length c8) q14b from
    ⟨H7.out.1.step h1 h2 h3, H7.out.2.1.turn h2 (fun g hg e => e.elim (H7.out.2.2 g hg).1 (H7.out.2.2 g hg).2), hv⟩)
  clear hv h1 h2 h3 h4
  have e9 : ([0, 0, 1, 6, 0, 0, 0, 0, 0] : List Int).length = 9 := rfl
  have e19 : q14b.length = 19 := rfl
  rw [e9] at H5 H6 H7 H8
  rw [e19] at H8
  simp only [e19]
  clear e9 e19
  go_wp2_with fail
  have HB9 := Lib.hid ((Below.refl w8.heap.size w8).alloc (Nat.le_refl _) (.cells #[.int .u8 0, .int .u8 0, .int .u8 1, .int .u8 6, .int .u8 0, .int .u8 0, .int .u8 0, .int .u8 0, .int .u8 0] 5))
  refine (same_any _ _ [0, 0, 1, 6, 0, 0, 0, 0, 0] [0, 0, 1, 6, 0, 0, 0, 0, 0] _ (H8.out.2.1.below HB9.out) (Sl.lit [0, 0, 1, 6, 0, 0, 0, 0, 0] rfl rfl rfl (by decide) (by decide))).mono ?_
  rintro e w10 ⟨rfl, n10, hw10⟩
  rw [show decide (([0, 0, 1, 6, 0, 0, 0, 0, 0] : List Int) = [0, 0, 1, 6, 0, 0, 0, 0, 0]) = true from rfl]
  have H10 := Lib.hid (show Lo w w10 T O8 [] ∧ Sl .u8 w10 (.slice a8 19 c8) q14b from by
    have hb : Below w8.heap.size w8 w10 := by rw [hw10]; exact below_drewN HB9.out _
    exact ⟨H8.out.1.grown hb, H8.out.2.2.below hb⟩)
  clear hw10
  obtain ⟨ad, e8, hcell⟩ := H10.out.2.cells (by decide)
  obtain ⟨_, _, e', _, _, _, h3⟩ := H10.out.2
  simp only [Value.slice.injEq] at e'
  rcases h3 with ⟨h3, _⟩ | ⟨b, off, e2, hbl, _⟩
  · exact absurd h3 (by decide)
  rw [← e'.1] at e2
  obtain rfl := e8.symm.trans e2 |> Option.some.inj
  subst e8
  have hc0 := hcell 0 (.int .u8 5) rfl
  rw [Go.WideShapes.add_plain, Nat.add_zero] at hc0
  clear hcell e' e2
  go_wp2_with fail
  refine (pLen14_any T O8 [] w10 H10.out.1.a (by decide)).mono ?_
  rintro e w11 ⟨rfl, hb11⟩
  have H11 := Lib.hid (H10.out.1.grown hb11)
  clear hb11
  go_wp2_with fail
  go_ret
  exact ⟨rfl, H11.out.b⟩
end Go.Proofs.Ytfdkbaekohaaoaa
