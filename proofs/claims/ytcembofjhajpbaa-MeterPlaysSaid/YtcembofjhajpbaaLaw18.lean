
/-
  Layer 18's live question (written by wip/tools/gen18a.py).
-/
import Derived.Test.YtcembofjhajpbaaMeterProg
import Derived.Test.YtcembofjhajpbaaArrEql
import Derived.WalkMore
namespace Go.Proofs.Ytcembofjhajpbaa
set_option maxRecDepth 20000
open Go.RowKit

/-- the meter, from a number on -/
structure Lo18 (w W : World) (T : Nat) (B : Nat → Prop) (s : St18) : Prop where
  a : MtAt W T B s
  b : Below w.heap.size w W
  g : ∀ k, B k → w.heap.size ≤ k
section
variable {w W W' : World} {T : Nat} {B B' : Nat → Prop} {s s' : St18}
theorem Lo18.grown (h : Lo18 w W T B s) (hb : Below W.heap.size W W') : Lo18 w W' T B s := ⟨h.a.turn (Turn.of_below hb (S := fun _ => False)) (fun _ _ => id), h.b.trans (hb.mono h.b.size), h.g⟩
theorem Lo18.step (h : Lo18 w W T B s) (ha : MtAt W' T B' s') (ht : Turn B W W') (hB : ∀ g, B' g → B g ∨ W.heap.size ≤ g) : Lo18 w W' T B' s' :=
  ⟨ha, ht.base h.b h.b.size h.g, fun k hk => (hB k hk).elim (h.g k) (Nat.le_trans h.b.size)⟩
end
theorem Try.guard18 : Try.prog.eqGuardType Try.prog.depth 22 = false := by kernel_rfl
theorem arr6_self (c0 c1 c2 c3 c4 c5 : Int) (h : wf6 c0 c1 c2 c3 c4 c5) (w : World) : (binOp .eql 22 (.agg #[.int .i64 c0, .int .i64 c1, .int .i64 c2, .int .i64 c3, .int .i64 c4, .int .i64 c5]) (.agg #[.int .i64 c0, .int .i64 c1, .int .i64 c2, .int .i64 c3, .int .i64 c4, .int .i64 c5])).run Try.prog w = .ok (.bool true) w := by
  have h1 := arr6_eql c0 c1 c2 c3 c4 c5 c0 c1 c2 c3 c4 c5 w h h
  rw [decide_eq_true ⟨rfl, rfl, rfl, rfl, rfl, rfl⟩] at h1
  exact h1
theorem arr6_nself (c0 c1 c2 c3 c4 c5 : Int) (h : wf6 c0 c1 c2 c3 c4 c5) (w : World) : (binOp .neq 22 (.agg #[.int .i64 c0, .int .i64 c1, .int .i64 c2, .int .i64 c3, .int .i64 c4, .int .i64 c5]) (.agg #[.int .i64 c0, .int .i64 c1, .int .i64 c2, .int .i64 c3, .int .i64 c4, .int .i64 c5])).run Try.prog w = .ok (.bool false) w := by
  have h1 := arr6_neq c0 c1 c2 c3 c4 c5 c0 c1 c2 c3 c4 c5 w h h
  rw [decide_eq_true ⟨rfl, rfl, rfl, rfl, rfl, rfl⟩] at h1
  exact h1
def s18_1 : St18 := countS (new18 [1, 0, 0, 0, 0, 1]) 0
def s18_2 : St18 := countS s18_1 0
def s18_3 : St18 := countS s18_2 0
def s18_4 : St18 := countS s18_3 5
def s18_5 : St18 := tickS s18_4
def s18_6 : St18 := countS s18_5 0
def s18_7 : St18 := countS s18_6 5
def s18_8 : St18 := clearS s18_7 5
def s18_9 : St18 := countS s18_8 6
theorem e18_1 : countO (new18 [1, 0, 0, 0, 0, 1]) 0 = false ∧ kindE 0 = 0 := by decide +kernel
theorem e18_2 : countO s18_1 0 = true ∧ kindE 0 = 0 := by decide +kernel
theorem e18_3 : countO s18_2 0 = true ∧ kindE 0 = 0 := by decide +kernel
theorem e18_4 : countO s18_3 5 = false ∧ kindE 5 = 0 := by decide +kernel
theorem e18_6 : countO s18_5 0 = false ∧ kindE 0 = 0 := by decide +kernel
theorem e18_7 : countO s18_6 5 = true ∧ kindE 5 = 0 := by decide +kernel
theorem e18_8 : kindE 5 = 0 := by decide +kernel
theorem e18_9 : countO s18_8 6 = false ∧ kindE 6 = 1 := by decide +kernel
theorem c18_9 : s18_9.cnt = [1, 0, 0, 0, 0, 0] := by decide +kernel
set_option maxHeartbeats 4000000 in
theorem alive18 (w : World) : Calls Try.prog 4 #[] w fun e w' => e = .returned (.bool true) ∧ Below w.heap.size w w' := by
  have hgd := Try.guard18
  have heq := arr6_self 1 0 0 0 0 0 (by unfold wf6; decide)
  go_enter Try.func4, Try.ntmps4
  go_wp2_with fail
  refine (pNew18_yes [1, 0, 0, 0, 0, 1] w (by decide)).mono ?_
  rintro e w0 ⟨T, B0, rfl, h1, h2, h3⟩
  have H0 := Lib.hid (show Lo18 w w0 T B0 (new18 [1, 0, 0, 0, 0, 1]) from ⟨h1, h3, h2⟩)
  clear h1 h2 h3
  go_wp2_with fail
  refine (pCount18 T _ _ 0 w0 H0.out.a).mono ?_
  rintro e w1 ⟨B1, rfl, h1, h2, h3⟩
  rw [e18_1.1, e18_1.2]
  have H1 := Lib.hid (show Lo18 w w1 T B1 s18_1 from H0.out.step h1 h2 h3)
  clear h1 h2 h3
  go_wp2_with fail
  refine (pCount18 T _ _ 0 w1 H1.out.a).mono ?_
  rintro e w2 ⟨B2, rfl, h1, h2, h3⟩
  rw [e18_2.1, e18_2.2]
  have H2 := Lib.hid (show Lo18 w w2 T B2 s18_2 from H1.out.step h1 h2 h3)
  clear h1 h2 h3
  go_wp2_with fail
  refine (pCount18 T _ _ 0 w2 H2.out.a).mono ?_
  rintro e w3 ⟨B3, rfl, h1, h2, h3⟩
  rw [e18_3.1, e18_3.2]
  have H3 := Lib.hid (show Lo18 w w3 T B3 s18_3 from H2.out.step h1 h2 h3)
  clear h1 h2 h3
  go_wp2_with fail
  refine (pCount18 T _ _ 5 w3 H3.out.a).mono ?_
  rintro e w4 ⟨B4, rfl, h1, h2, h3⟩
  rw [e18_4.1, e18_4.2]
  have H4 := Lib.hid (show Lo18 w w4 T B4 s18_4 from H3.out.step h1 h2 h3)
  clear h1 h2 h3
  go_wp2_with fail
  refine (pTick18 T _ _ w4 H4.out.a).mono ?_
  rintro e w5 ⟨B5, rfl, h1, h2, h3⟩
  have H5 := Lib.hid (show Lo18 w w5 T B5 s18_5 from H4.out.step h1 h2 h3)
  clear h1 h2 h3
  go_wp2_with fail
  refine (pCount18 T _ _ 0 w5 H5.out.a).mono ?_
  rintro e w6 ⟨B6, rfl, h1, h2, h3⟩
  rw [e18_6.1, e18_6.2]
  have H6 := Lib.hid (show Lo18 w w6 T B6 s18_6 from H5.out.step h1 h2 h3)
  clear h1 h2 h3
  go_wp2_with fail
  refine (pCount18 T _ _ 5 w6 H6.out.a).mono ?_
  rintro e w7 ⟨B7, rfl, h1, h2, h3⟩
  rw [e18_7.1, e18_7.2]
  have H7 := Lib.hid (show Lo18 w w7 T B7 s18_7 from H6.out.step h1 h2 h3)
  clear h1 h2 h3
  go_wp2_with fail
  refine (pClear18 T _ _ 5 w7 H7.out.a).mono ?_
  rintro e w8 ⟨B8, rfl, h1, h2, h3⟩
  rw [e18_8]
  have H8 := Lib.hid (show Lo18 w w8 T B8 s18_8 from H7.out.step h1 h2 h3)
  clear h1 h2 h3
  go_wp2_with fail
  refine (pCount18 T _ _ 6 w8 H8.out.a).mono ?_
  rintro e w9 ⟨B9, rfl, h1, h2, h3⟩
  rw [e18_9.1, e18_9.2]
  have H9 := Lib.hid (show Lo18 w w9 T B9 s18_9 from H8.out.step h1 h2 h3)
  clear h1 h2 h3
  go_wp2_with fail
  refine (pNew18_no [-1, 0, 0, 0, 0, 0] w9 rfl (by decide)).mono ?_
  rintro e w10 ⟨rfl, hb⟩
  have H10 := Lib.hid (H9.out.grown hb)
  clear hb
  go_wp2_with fail
  refine (pCounts18 T _ _ w10 H10.out.a).mono ?_
  rintro e w11 ⟨rfl, hb⟩
  rw [c18_9]
  have H11 := Lib.hid (H10.out.grown hb)
  clear hb
  unfold arrL
  simp only [List.map_cons, List.map_nil]
  go_wp2_with fail
  go_ret
  exact ⟨rfl, H11.out.b⟩
end Go.Proofs.Ytcembofjhajpbaa
