
/-
  Layer 17's live question (written by wip/tools/gen17a.py).
-/
import Derived.Test.YtcompnndnelamaaStrmProg
import Derived.WalkMore
namespace Go.Proofs.Ytcompnndnelamaa
set_option maxRecDepth 20000
open Go.RowKit

/-- the table, from a number on -/
structure Lo17 (w W : World) (T : Nat) (B : Nat → Prop) (s : St17) : Prop where
  a : TbAt W T B s
  b : Below w.heap.size w W
  g : ∀ k, B k → w.heap.size ≤ k
section
variable {w W W' : World} {T : Nat} {B B' : Nat → Prop} {s s' : St17}
theorem Lo17.grown (h : Lo17 w W T B s) (hb : Below W.heap.size W W') : Lo17 w W' T B s := ⟨h.a.turn (Turn.of_below hb (S := fun _ => False)) (fun _ _ => id), h.b.trans (hb.mono h.b.size), h.g⟩
theorem Lo17.step (h : Lo17 w W T B s) (ha : TbAt W' T B' s') (ht : Turn B W W') (hB : ∀ g, B' g → B g ∨ W.heap.size ≤ g) : Lo17 w W' T B' s' :=
  ⟨ha, ht.base h.b h.b.size h.g, fun k hk => (hB k hk).elim (h.g k) (Nat.le_trans h.b.size)⟩
end
def s17_1 : St17 := openS (St17.new 2 1) 5
def s17_2 : St17 := openS s17_1 3
def s17_3 : St17 := openS s17_2 7
def s17_4 : St17 := openS s17_3 9
def s17_5 : St17 := openS s17_4 8
def s17_6 : St17 := closeS s17_5 5 true
def s17_7 : St17 := closeS s17_6 7 true
def s17_8 : St17 := closeS s17_7 7 false
theorem e17_1 : openE (St17.new 2 1) 5 = 0 := by decide +kernel
theorem e17_2 : openE s17_1 3 = 6 := by decide +kernel
theorem e17_3 : openE s17_2 7 = 0 := by decide +kernel
theorem e17_4 : openE s17_3 9 = 4 := by decide +kernel
theorem e17_5 : openE s17_4 8 = 1 := by decide +kernel
theorem e17_6 : closeE s17_5 5 = 0 := by decide +kernel
theorem e17_7 : closeE s17_6 7 = 0 := by decide +kernel
theorem e17_8 : closeE s17_7 7 = 5 := by decide +kernel
theorem k17_3 : kindT s17_8 3 = 3 := by decide +kernel
theorem k17_5 : kindT s17_8 5 = 3 := by decide +kernel
theorem k17_7 : kindT s17_8 7 = 2 := by decide +kernel
theorem k17_9 : kindT s17_8 9 = 3 := by decide +kernel
theorem k17_11 : kindT s17_8 11 = 0 := by decide +kernel
theorem k17_8 : kindT s17_8 8 = 0 := by decide +kernel
theorem h17_8 : s17_8.hi = 9 ∧ s17_8.A = [] ∧ s17_8.L = [7] := by decide +kernel
set_option maxHeartbeats 4000000 in
theorem alive17 (w : World) : Calls Try.prog 5 #[] w fun e w' => e = .returned (.bool true) ∧ Below w.heap.size w w' := by
  go_enter Try.func5, Try.ntmps5
  go_wp2_with fail
  refine (pNew17_yes 2 1 w (by decide)).mono ?_
  rintro e w0 ⟨T, B0, rfl, h1, h2, h3⟩
  have H0 := Lib.hid (show Lo17 w w0 T B0 (St17.new 2 1) from ⟨h1, h3, h2⟩)
  clear h1 h2 h3
  go_wp2_with fail
  refine (pOpen17 T _ _ 5 w0 H0.out.a).mono ?_
  rintro e w1 ⟨B1, rfl, h1, h2, h3⟩
  rw [e17_1]
  have H1 := Lib.hid (show Lo17 w w1 T B1 s17_1 from H0.out.step h1 h2 h3)
  clear h1 h2 h3
  go_wp2_with fail
  refine (pOpen17 T _ _ 3 w1 H1.out.a).mono ?_
  rintro e w2 ⟨B2, rfl, h1, h2, h3⟩
  rw [e17_2]
  have H2 := Lib.hid (show Lo17 w w2 T B2 s17_2 from H1.out.step h1 h2 h3)
  clear h1 h2 h3
  go_wp2_with fail
  refine (pOpen17 T _ _ 7 w2 H2.out.a).mono ?_
  rintro e w3 ⟨B3, rfl, h1, h2, h3⟩
  rw [e17_3]
  have H3 := Lib.hid (show Lo17 w w3 T B3 s17_3 from H2.out.step h1 h2 h3)
  clear h1 h2 h3
  go_wp2_with fail
  refine (pOpen17 T _ _ 9 w3 H3.out.a).mono ?_
  rintro e w4 ⟨B4, rfl, h1, h2, h3⟩
  rw [e17_4]
  have H4 := Lib.hid (show Lo17 w w4 T B4 s17_4 from H3.out.step h1 h2 h3)
  clear h1 h2 h3
  go_wp2_with fail
  refine (pOpen17 T _ _ 8 w4 H4.out.a).mono ?_
  rintro e w5 ⟨B5, rfl, h1, h2, h3⟩
  rw [e17_5]
  have H5 := Lib.hid (show Lo17 w w5 T B5 s17_5 from H4.out.step h1 h2 h3)
  clear h1 h2 h3
  go_wp2_with fail
  refine (pClose17 T _ _ 5 true w5 H5.out.a).mono ?_
  rintro e w6 ⟨B6, rfl, h1, h2, h3⟩
  rw [e17_6]
  have H6 := Lib.hid (show Lo17 w w6 T B6 s17_6 from H5.out.step h1 h2 h3)
  clear h1 h2 h3
  go_wp2_with fail
  refine (pClose17 T _ _ 7 true w6 H6.out.a).mono ?_
  rintro e w7 ⟨B7, rfl, h1, h2, h3⟩
  rw [e17_7]
  have H7 := Lib.hid (show Lo17 w w7 T B7 s17_7 from H6.out.step h1 h2 h3)
  clear h1 h2 h3
  go_wp2_with fail
  refine (pClose17 T _ _ 7 false w7 H7.out.a).mono ?_
  rintro e w8 ⟨B8, rfl, h1, h2, h3⟩
  rw [e17_8]
  have H8 := Lib.hid (show Lo17 w w8 T B8 s17_8 from H7.out.step h1 h2 h3)
  clear h1 h2 h3
  go_wp2_with fail
  refine (pKind17 T _ _ 3 w8 H8.out.a).mono ?_
  rintro e w9 ⟨rfl, hb⟩
  rw [k17_3]
  have H9 := Lib.hid (H8.out.grown hb)
  clear hb
  go_wp2_with fail
  refine (pKind17 T _ _ 5 w9 H9.out.a).mono ?_
  rintro e w10 ⟨rfl, hb⟩
  rw [k17_5]
  have H10 := Lib.hid (H9.out.grown hb)
  clear hb
  go_wp2_with fail
  refine (pKind17 T _ _ 7 w10 H10.out.a).mono ?_
  rintro e w11 ⟨rfl, hb⟩
  rw [k17_7]
  have H11 := Lib.hid (H10.out.grown hb)
  clear hb
  go_wp2_with fail
  refine (pKind17 T _ _ 9 w11 H11.out.a).mono ?_
  rintro e w12 ⟨rfl, hb⟩
  rw [k17_9]
  have H12 := Lib.hid (H11.out.grown hb)
  clear hb
  go_wp2_with fail
  refine (pKind17 T _ _ 11 w12 H12.out.a).mono ?_
  rintro e w13 ⟨rfl, hb⟩
  rw [k17_11]
  have H13 := Lib.hid (H12.out.grown hb)
  clear hb
  go_wp2_with fail
  refine (pKind17 T _ _ 8 w13 H13.out.a).mono ?_
  rintro e w14 ⟨rfl, hb⟩
  rw [k17_8]
  have H14 := Lib.hid (H13.out.grown hb)
  clear hb
  go_wp2_with fail
  refine (pHighest17 T _ _ w14 H14.out.a).mono ?_
  rintro e w15 ⟨rfl, hb⟩
  rw [h17_8.1]
  have H15 := Lib.hid (H14.out.grown hb)
  clear hb
  go_wp2_with fail
  refine (pActive17 T _ _ w15 H15.out.a).mono ?_
  rintro e w16 ⟨v, rfl, hv, hb⟩
  rw [h17_8.2.1] at hv
  obtain ⟨av, cv, rfl, _⟩ := hv
  have H16 := Lib.hid (H15.out.grown hb)
  clear hb
  go_wp2_with fail
  refine (pLate17 T _ _ w16 H16.out.a).mono ?_
  rintro e w17 ⟨v, rfl, hv, hb⟩
  rw [h17_8.2.2] at hv
  have HV := Lib.hid hv
  obtain ⟨lv, kv, rfl, _⟩ := id hv
  have H17 := Lib.hid (H16.out.grown hb)
  clear hb hv
  go_wp2_with fail
  have HB := Lib.hid ((Below.refl w17.heap.size w17).alloc (Nat.le_refl _) (.cells #[.int .i64 7] 3))
  refine (ints17_any _ _ [7] [7] _ (HV.out.below HB.out) (Sl.lit [7] rfl rfl rfl (by decide) (by decide))).mono ?_
  rintro e wz ⟨rfl, n, hwz⟩
  have HZ := Lib.hid (H17.out.grown (show Below w17.heap.size w17 wz by rw [hwz]; exact below_drewN HB.out _))
  rw [show decide (([7] : List Int) = [7]) = true from rfl]
  clear hwz
  go_wp2_with fail
  go_ret
  exact ⟨rfl, HZ.out.b⟩
end Go.Proofs.Ytcompnndnelamaa
