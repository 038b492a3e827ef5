
/-
  Layer 16's statements: the live question, LifeTells.
-/
import Derived.Test.YtkljnijpmkacmaaDoorLifeProg
import Derived.Test.YtkljnijpmkacmaaDoorQuiet
import Derived.Laws.StructEq
namespace Go.Proofs.YtkljnijpmkacmaaDoor
set_option maxRecDepth 20000
open Go.RowKit

/-- what After answers, named -/
theorem life_at (s e : Int) : ∃ a b c d, lifeN s e = (a, b, c, d) ∧ lifeV (lifeN s e) = .tuple #[.agg #[.int .i64 a, .int .i64 b, .bool c], .int .i64 d] := by
  obtain ⟨⟨a, b, c, d⟩, h⟩ : ∃ x, lifeN s e = x := ⟨_, rfl⟩
  exact ⟨a, b, c, d, h, by rw [h]; rfl⟩
set_option maxHeartbeats 4000000 in
theorem alive16 (w : World) (HT : Hid (LfT w)) :
    Calls Tryd.prog 7 #[] w fun e w' => e = .returned (.bool true) ∧ Below w.heap.size w w' := by
  go_enter Tryd.func7, Tryd.ntmps7
  go_wp2_with fail
  refine (pAfter_any 0 0 _ HT.out).mono ?_
  rintro e w1 ⟨rfl, hb⟩
  have H1 := Lib.hid (hb)
  clear hb
  rw [show lifeV (lifeN 0 0) = .tuple #[.agg #[.int .i64 1, .int .i64 0, .bool false], .int .i64 0] from rfl]
  have hal := (Below.refl w1.heap.size w1).alloc (Nat.le_refl _) (.cells #[.int .i64 1, .int .i64 0, .bool false] 25)
  replace H1 := Lib.hid (H1.out.trans (hal.mono H1.out.size))
  clear hal
  have N1 := Lib.hid (NxAt.new w1 25 1 0 false)
  go_wp2_with fail
  refine (pAfter_any 1 0 _ (HT.out.below H1.out)).mono ?_
  rintro e w2 ⟨rfl, hb⟩
  replace N1 := Lib.hid (N1.out.grown hb)
  have H2 := Lib.hid (H1.out.trans (hb.mono H1.out.size))
  clear hb
  rw [show lifeV (lifeN 1 0) = .tuple #[.agg #[.int .i64 1, .int .i64 1, .bool false], .int .i64 0] from rfl]
  have hal := (Below.refl w2.heap.size w2).alloc (Nat.le_refl _) (.cells #[.int .i64 1, .int .i64 1, .bool false] 25)
  replace N1 := Lib.hid (N1.out.grown hal)
  replace H2 := Lib.hid (H2.out.trans (hal.mono H2.out.size))
  clear hal
  have N2 := Lib.hid (NxAt.new w2 25 1 1 false)
  go_wp2_with fail
  refine (pAfter_any 2 7 _ (HT.out.below H2.out)).mono ?_
  rintro e w3 ⟨rfl, hb⟩
  replace N1 := Lib.hid (N1.out.grown hb)
  replace N2 := Lib.hid (N2.out.grown hb)
  have H3 := Lib.hid (H2.out.trans (hb.mono H2.out.size))
  clear hb
  rw [show lifeV (lifeN 2 7) = .tuple #[.agg #[.int .i64 4, .int .i64 0, .bool false], .int .i64 0] from rfl]
  have hal := (Below.refl w3.heap.size w3).alloc (Nat.le_refl _) (.cells #[.int .i64 4, .int .i64 0, .bool false] 25)
  replace N1 := Lib.hid (N1.out.grown hal)
  replace N2 := Lib.hid (N2.out.grown hal)
  replace H3 := Lib.hid (H3.out.trans (hal.mono H3.out.size))
  clear hal
  have N3 := Lib.hid (NxAt.new w3 25 4 0 false)
  go_wp2_with fail
  refine (pAfter_any 3 6 _ (HT.out.below H3.out)).mono ?_
  rintro e w4 ⟨rfl, hb⟩
  replace N1 := Lib.hid (N1.out.grown hb)
  replace N2 := Lib.hid (N2.out.grown hb)
  replace N3 := Lib.hid (N3.out.grown hb)
  have H4 := Lib.hid (H3.out.trans (hb.mono H3.out.size))
  clear hb
  rw [show lifeV (lifeN 3 6) = .tuple #[.agg #[.int .i64 0, .int .i64 0, .bool false], .int .i64 6] from rfl]
  have hal := (Below.refl w4.heap.size w4).alloc (Nat.le_refl _) (.cells #[.int .i64 0, .int .i64 0, .bool false] 25)
  replace N1 := Lib.hid (N1.out.grown hal)
  replace N2 := Lib.hid (N2.out.grown hal)
  replace N3 := Lib.hid (N3.out.grown hal)
  replace H4 := Lib.hid (H4.out.trans (hal.mono H4.out.size))
  clear hal
  have N4 := Lib.hid (NxAt.new w4 25 0 0 false)
  go_wp2_with fail
  refine (pAfter_any 4 2 _ (HT.out.below H4.out)).mono ?_
  rintro e w5 ⟨rfl, hb⟩
  replace N1 := Lib.hid (N1.out.grown hb)
  replace N2 := Lib.hid (N2.out.grown hb)
  replace N3 := Lib.hid (N3.out.grown hb)
  replace N4 := Lib.hid (N4.out.grown hb)
  have H5 := Lib.hid (H4.out.trans (hb.mono H4.out.size))
  clear hb
  rw [show lifeV (lifeN 4 2) = .tuple #[.agg #[.int .i64 4, .int .i64 5, .bool true], .int .i64 0] from rfl]
  have hal := (Below.refl w5.heap.size w5).alloc (Nat.le_refl _) (.cells #[.int .i64 4, .int .i64 5, .bool true] 25)
  replace N1 := Lib.hid (N1.out.grown hal)
  replace N2 := Lib.hid (N2.out.grown hal)
  replace N3 := Lib.hid (N3.out.grown hal)
  replace N4 := Lib.hid (N4.out.grown hal)
  replace H5 := Lib.hid (H5.out.trans (hal.mono H5.out.size))
  clear hal
  have N5 := Lib.hid (NxAt.new w5 25 4 5 true)
  go_wp2_with fail
  refine (pAfter_any 5 0 _ (HT.out.below H5.out)).mono ?_
  rintro e w6 ⟨rfl, hb⟩
  replace N1 := Lib.hid (N1.out.grown hb)
  replace N2 := Lib.hid (N2.out.grown hb)
  replace N3 := Lib.hid (N3.out.grown hb)
  replace N4 := Lib.hid (N4.out.grown hb)
  replace N5 := Lib.hid (N5.out.grown hb)
  have H6 := Lib.hid (H5.out.trans (hb.mono H5.out.size))
  clear hb
  rw [show lifeV (lifeN 5 0) = .tuple #[.agg #[.int .i64 0, .int .i64 0, .bool false], .int .i64 1] from rfl]
  have hal := (Below.refl w6.heap.size w6).alloc (Nat.le_refl _) (.cells #[.int .i64 0, .int .i64 0, .bool false] 25)
  replace N1 := Lib.hid (N1.out.grown hal)
  replace N2 := Lib.hid (N2.out.grown hal)
  replace N3 := Lib.hid (N3.out.grown hal)
  replace N4 := Lib.hid (N4.out.grown hal)
  replace N5 := Lib.hid (N5.out.grown hal)
  replace H6 := Lib.hid (H6.out.trans (hal.mono H6.out.size))
  clear hal
  have N6 := Lib.hid (NxAt.new w6 25 0 0 false)
  have c10 := N1.out.c0
  have c11 := N1.out.c1
  have c12 := N1.out.c2
  have s1 := N1.out.lt
  have c20 := N2.out.c0
  have c21 := N2.out.c1
  have c22 := N2.out.c2
  have s2 := N2.out.lt
  have c30 := N3.out.c0
  have c31 := N3.out.c1
  have c32 := N3.out.c2
  have s3 := N3.out.lt
  have c50 := N5.out.c0
  have c51 := N5.out.c1
  have c52 := N5.out.c2
  have s5 := N5.out.lt
  have q1 := nx_eql
  go_wp2_with fail
  refine (pHears_any 3 _).mono ?_
  rintro e w7 ⟨rfl, hb⟩
  have H7 := Lib.hid (H6.out.trans (hb.mono H6.out.size))
  clear hb
  rw [show ((3 : Int) == 1 || (3 : Int) == 3) = true from rfl]
  go_wp2_with fail
  refine (pSays_any 3 _).mono ?_
  rintro e w8 ⟨rfl, hb⟩
  have H8 := Lib.hid (H7.out.trans (hb.mono H7.out.size))
  clear hb
  rw [show ((3 : Int) == 1 || (3 : Int) == 2) = false from rfl]
  go_wp2_with fail
  go_ret
  exact ⟨rfl, H8.out⟩
set_option maxHeartbeats 4000000 in
theorem tells16_any (s e : Int) (w : World) (HT : Hid (LfT w)) :
    Calls Tryd.prog 3 #[.int .i64 s, .int .i64 e] w fun x w' => x = .returned (.bool true) ∧ Below w.heap.size w w' := by
  obtain ⟨a, b, c, d, _, hv⟩ := life_at s e
  have HV := Lib.hid hv
  have q1 : (a == a) = true := beq_self_eq_true _
  have q2 : (b == b) = true := beq_self_eq_true _
  have q3 : (c == c) = true := beq_self_eq_true _
  have q4 : (d == d) = true := beq_self_eq_true _
  clear hv
  obtain ⟨b1, e1⟩ : ∃ x, (s == 1) = x := ⟨_, rfl⟩
  obtain ⟨b2, e2⟩ : ∃ x, (s == 2) = x := ⟨_, rfl⟩
  obtain ⟨b3, e3⟩ : ∃ x, (s == 3) = x := ⟨_, rfl⟩
  have E1 := Lib.hid (show (s == 1 || s == 3) = (b1 || b3) by rw [e1, e3])
  have E2 := Lib.hid (show (s == 1 || s == 2) = (b1 || b2) by rw [e1, e2])
  go_enter Tryd.func3, Tryd.ntmps3
  go_wp2_with fail
  refine (pAfter_any s e _ HT.out).mono ?_
  rintro e w1 ⟨rfl, hb⟩
  have H1 := Lib.hid (hb)
  clear hb
  rw [HV.out]
  have hal := (Below.refl w1.heap.size w1).alloc (Nat.le_refl _) (.cells #[.int .i64 a, .int .i64 b, .bool c] 25)
  replace H1 := Lib.hid (H1.out.trans (hal.mono H1.out.size))
  clear hal
  have N1 := Lib.hid (NxAt.new w1 25 a b c)
  go_wp2_with fail
  refine (refAfter_any s e _).mono ?_
  rintro e w2 ⟨rfl, hb⟩
  replace N1 := Lib.hid (N1.out.grown hb)
  have H2 := Lib.hid (H1.out.trans (hb.mono H1.out.size))
  clear hb
  rw [HV.out]
  have hal := (Below.refl w2.heap.size w2).alloc (Nat.le_refl _) (.cells #[.int .i64 a, .int .i64 b, .bool c] 31)
  replace N1 := Lib.hid (N1.out.grown hal)
  replace H2 := Lib.hid (H2.out.trans (hal.mono H2.out.size))
  clear hal
  have N2 := Lib.hid (NxAt.new w2 31 a b c)
  go_wp2_with fail
  refine (alive16 _ (Lib.hid (HT.out.below H2.out))).mono ?_
  rintro e w3 ⟨rfl, hb⟩
  replace N1 := Lib.hid (N1.out.grown hb)
  replace N2 := Lib.hid (N2.out.grown hb)
  have H3 := Lib.hid (H2.out.trans (hb.mono H2.out.size))
  clear hb
  have c10 := N1.out.c0
  have c11 := N1.out.c1
  have c12 := N1.out.c2
  have s1 := N1.out.lt
  have c20 := N2.out.c0
  have c21 := N2.out.c1
  have c22 := N2.out.c2
  have s2 := N2.out.lt
  go_wp2_with fail
  cases b1 <;> cases b2 <;> cases b3
  all_goals
    refine (pHears_any s _).mono ?_
    rintro e w4 ⟨rfl, hb⟩
    have H4 := Lib.hid (H3.out.trans (hb.mono H3.out.size))
    clear hb
    rw [E1.out]
    go_wp2_with fail
    refine (pSays_any s _).mono ?_
    rintro e w5 ⟨rfl, hb⟩
    have H5 := Lib.hid (H4.out.trans (hb.mono H4.out.size))
    clear hb
    rw [E2.out]
    go_wp2_with fail
    go_ret
    exact ⟨rfl, H5.out⟩
end Go.Proofs.YtkljnijpmkacmaaDoor
