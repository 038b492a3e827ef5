
/-
  ItemTells: its walk.
-/
import Derived.Test.YtimggejonppegaaDoorLaw08
import Derived.Test.YtimggejonppegaaDoorItRefDec
import Derived.Test.YtimggejonppegaaDoorQuiet
namespace Go.Proofs.YtimggejonppegaaDoor
open Go.RowKit

theorem load_it {o : Oper} {ρ : Operand → Value} {w : World} (x : Operand) (g : Nat) (k n : Int) (a b : ByteArray) (ho : o.op = .load 23 x) (hx : ρ x = .pointer (some ⟨g, 0, none⟩)) (hB : ItAt w g 23 k n a b) :
    (execOp ρ o).run Tryd.prog w = .ok (.value (.agg #[.int .i64 k, .int .i64 n, .string a, .string b])) w := by
  have c0 := hB.c0
  have c1 := hB.c1
  have c2 := hB.c2
  have c3 := hB.c3
  unfold execOp
  simp [ho, hx, go_sem, c0, c1, c2, c3]
theorem load_it30 {o : Oper} {ρ : Operand → Value} {w : World} (x : Operand) (g : Nat) (k n : Int) (a b : ByteArray) (ho : o.op = .load 30 x) (hx : ρ x = .pointer (some ⟨g, 0, none⟩)) (hB : ItAt w g 30 k n a b) :
    (execOp ρ o).run Tryd.prog w = .ok (.value (.agg #[.int .i64 k, .int .i64 n, .string a, .string b])) w := by
  have c0 := hB.c0
  have c1 := hB.c1
  have c2 := hB.c2
  have c3 := hB.c3
  unfold execOp
  simp [ho, hx, go_sem, c0, c1, c2, c3]
theorem quiet_it {C : World → Prop} {o : Oper} {r : Act} (x : Operand) (g : Nat) (k n : Int) (a b : ByteArray) (ho : o.op = .load 23 x) (hx : r.eval x = .pointer (some ⟨g, 0, none⟩)) (hB : ∀ w, C w → ItAt w g 23 k n a b) :
    ∀ w, C w → o.quietAt Tryd.prog r C w (.agg #[.int .i64 k, .int .i64 n, .string a, .string b]) := fun w hw => by
  unfold Oper.quietAt
  rw [load_it x g k n a b ho hx (hB w hw)]
  exact ⟨rfl, rfl⟩
theorem quiet_it30 {C : World → Prop} {o : Oper} {r : Act} (x : Operand) (g : Nat) (k n : Int) (a b : ByteArray) (ho : o.op = .load 30 x) (hx : r.eval x = .pointer (some ⟨g, 0, none⟩)) (hB : ∀ w, C w → ItAt w g 30 k n a b) :
    ∀ w, C w → o.quietAt Tryd.prog r C w (.agg #[.int .i64 k, .int .i64 n, .string a, .string b]) := fun w hw => by
  unfold Oper.quietAt
  rw [load_it30 x g k n a b ho hx (hB w hw)]
  exact ⟨rfl, rfl⟩

theorem eql_it30 {o : Oper} {ρ : Operand → Value} (x y : Operand) (k n : Int) (a b : ByteArray) (w : World) (ho : o.op = .binOp .eql 30 x y 30) (hx : ρ x = .agg #[.int .i64 k, .int .i64 n, .string a, .string b]) (hy : ρ y = .agg #[.int .i64 k, .int .i64 n, .string a, .string b]) :
    (execOp ρ o).run Tryd.prog w = .ok (.value (.bool true)) w := by
  have hg : Tryd.prog.eqGuardType Tryd.prog.depth 30 = false := by kernel_rfl
  unfold execOp
  simp [ho, hx, hy, run_eqGuard_agg w .eql 30 x y _ _ hg, it30_eql, eqI_self]

theorem tells08_long (k n : Int) (a b : ByteArray) (v : Value) (zs : List Int) (most : Int) (w : World) (hv : Sl .u8 w v zs) (hT : ShT w) (h : ¬ (a.size ≤ 300 ∧ b.size ≤ 300 ∧ zs.length ≤ 300)) :
    Calls Tryd.prog 3 #[itV k n a b, v, .int .i64 most] w fun e w' => e = .returned (.bool true) ∧ Below w.heap.size w w' := by
  unfold itV
  obtain ⟨av, cv, rfl, _⟩ := id hv
  have HT := Lib.hid hT
  have hB := (Below.refl w.heap.size w).alloc (Nat.le_refl _) (.cells #[.int .i64 k, .int .i64 n, .string a, .string b] 23)
  by_cases h1 : 300 < a.size
  · have d1 : decide (300 < (a.size : Int)) = true := decide_eq_true (by omega)
    clear h h1 hv hT
    go_enter Tryd.func3, Tryd.ntmps3
    go_wp2_with fail
    refine (alive08 _ (HT.out.low hB HT.out.lt)).mono ?_
    rintro e w1 ⟨rfl, hb⟩
    go_wp2_with fail
    go_ret
    exact ⟨rfl, hB.trans (hb.mono (by simp))⟩
  by_cases h2 : 300 < b.size
  · have d1 : decide (300 < (a.size : Int)) = false := decide_eq_false (by omega)
    have d2 : decide (300 < (b.size : Int)) = true := decide_eq_true (by omega)
    clear h h1 h2 hv hT
    go_enter Tryd.func3, Tryd.ntmps3
    go_wp2_with fail
    refine (alive08 _ (HT.out.low hB HT.out.lt)).mono ?_
    rintro e w1 ⟨rfl, hb⟩
    go_wp2_with fail
    go_ret
    exact ⟨rfl, hB.trans (hb.mono (by simp))⟩
  · have d1 : decide (300 < (a.size : Int)) = false := decide_eq_false (by omega)
    have d2 : decide (300 < (b.size : Int)) = false := decide_eq_false (by omega)
    have d3 : decide (300 < (zs.length : Int)) = true := decide_eq_true (by omega)
    clear h h1 h2 hv hT
    go_enter Tryd.func3, Tryd.ntmps3
    go_wp2_with fail
    refine (alive08 _ (HT.out.low hB HT.out.lt)).mono ?_
    rintro e w1 ⟨rfl, hb⟩
    go_wp2_with fail
    go_ret
    exact ⟨rfl, hB.trans (hb.mono (by simp))⟩

set_option maxHeartbeats 4000000 in
set_option maxRecDepth 20000 in
theorem tells08 (k n : Int) (a b : ByteArray) (v : Value) (zs : List Int) (most : Int) (w : World) (hv : Sl .u8 w v zs) (hT : ShT w) (h : a.size ≤ 300 ∧ b.size ≤ 300 ∧ zs.length ≤ 300) :
    Calls Tryd.prog 3 #[itV k n a b, v, .int .i64 most] w fun e w' => e = .returned (.bool true) ∧ Below w.heap.size w w' := by
  obtain ⟨av, cv, rfl, _⟩ := id hv
  have HV := Lib.hid hv
  have HT : Hid (∀ W, Below w.heap.size w W → ShT W) := fun W h => hT.low h hT.lt
  have d1 : decide (300 < (a.size : Int)) = false := decide_eq_false (by omega)
  have d2 : decide (300 < (b.size : Int)) = false := decide_eq_false (by omega)
  have d3 : decide (300 < (zs.length : Int)) = false := decide_eq_false (by omega)
  have HZ := Lib.hid h.2.2
  obtain ⟨R, hR⟩ : ∃ R, decide (rightI k n a b) = R := ⟨_, rfl⟩
  have HRA : Hid (∀ W, ShT W → Calls Tryd.prog 12 #[.agg #[.int .i64 k, .int .i64 n, .string a, .string b]] W fun e w' => e = .returned (.bool R) ∧ Below W.heap.size W w') := fun W hW => by rw [← hR]; exact right_any k n a b W hW
  have HRB : Hid (∀ W, Calls Tryd.prog 13 #[.agg #[.int .i64 k, .int .i64 n, .string a, .string b]] W fun e w' => e = .returned (.bool R) ∧ Below W.heap.size W w') := fun W => by rw [← hR]; exact refRight_any k n a b W
  obtain ⟨cs, E, hE⟩ : ∃ cs E, encT k n a b = (cs, E) := ⟨_, _, rfl⟩
  have HE1 : Hid (∀ W, ShT W → Calls Tryd.prog 6 #[.agg #[.int .i64 k, .int .i64 n, .string a, .string b]] W fun e w' => ∃ v, e = .returned (.tuple #[v, .int .i64 E]) ∧ Sl .u8 w' v cs ∧ Below W.heap.size W w') := fun W hW => by have := iEnc_any k n a b W hW; rw [hE] at this; exact this
  have HE2 : Hid (∀ W, Calls Tryd.prog 7 #[.agg #[.int .i64 k, .int .i64 n, .string a, .string b]] W fun e w' => ∃ v, e = .returned (.tuple #[v, .int .i64 E]) ∧ Sl .u8 w' v cs ∧ Below W.heap.size W w') := fun W => by have := refIEnc_any k n a b W; rw [hE] at this; exact this
  obtain ⟨yk, yn, yas, ybs, yat, ye, hd⟩ : ∃ yk yn ya yb yat ye, decI most zs = ⟨yk, yn, ya, yb, yat, ye⟩ := ⟨_, _, _, _, _, _, rfl⟩
  obtain ⟨ya, hya⟩ : ∃ ya, strOfNums yas = ya := ⟨_, rfl⟩
  obtain ⟨yb, hyb⟩ : ∃ yb, strOfNums ybs = yb := ⟨_, rfl⟩
  have HD : Hid ((decI most zs).val = .tuple #[.agg #[.int .i64 yk, .int .i64 yn, .string ya, .string yb], .int .i64 yat, .int .i64 ye]) := by show _ = _; rw [hd, DecO.val, itV, hya, hyb]
  clear hd hya hyb hE hR h hT hv
  unfold itV
  go_enter Tryd.func3, Tryd.ntmps3
  go_wp2_with fail
  have hX0 : ItAt (w.alloc (.cells #[.int .i64 k, .int .i64 n, .string a, .string b] 23)) w.heap.size 23 k n a b := heap_alloc_new _ _
  have hB0 := (Below.refl w.heap.size w).alloc (Nat.le_refl _) (.cells #[.int .i64 k, .int .i64 n, .string a, .string b] 23)
  refine (HE1.out _ (HT.out _ hB0)).mono ?_
  rintro e w1 ⟨c, rfl, hc, hb1⟩
  have hX1 := hX0.grown hb1
  have hB1 := hB0.trans (hb1.mono hB0.size)
  have c0 := hX1.c0
  have c1 := hX1.c1
  have c2 := hX1.c2
  have c3 := hX1.c3
  clear hb1 hX0 hB0
  go_wp2_with fail
  refine (of_any k n a b _).mono ?_
  rintro e w2 ⟨rfl, hb2⟩
  unfold itV
  go_wp2_with fail
  refine (HE2.out _).mono ?_
  rintro e w3 ⟨d, rfl, hd, hb3⟩
  have hc3 := (hc.below hb2).below hb3
  have hX3 := (hX1.grown hb2).grown hb3
  have hB3 := (hB1.trans (hb2.mono hB1.size)).trans (hb3.mono (Nat.le_trans hB1.size hb2.size))
  obtain ⟨ac, cc, rfl, _⟩ := id hc3
  obtain ⟨ad, cd, rfl, _⟩ := id hd
  clear c0 c1 c2 c3 hb2 hb3 hX1 hB1 hc
  go_wp2_with fail
  refine (same_any _ _ cs cs _ hc3 hd).mono ?_
  rintro e w4 ⟨rfl, n4, rfl⟩
  rw [decide_eq_true rfl]
  have hX4 := hX3.grown (below_drewN (Below.refl _ _) n4)
  have hB4 := below_drewN hB3 n4
  have H4 := Lib.hid (And.intro hB4 hX4)
  clear hX3 hB3 hc3 hd hX4 hB4
  go_wp2_with fail
  refine (iDec_any _ zs most _ (HV.out.below H4.out.1) (by have := HZ.out; omega) (HT.out _ H4.out.1)).mono ?_
  rintro e w5 ⟨rfl, hb5⟩
  rw [HD.out]
  have H5 := Lib.hid (And.intro (H4.out.1.trans (hb5.mono H4.out.1.size)) (H4.out.2.grown hb5))
  clear hb5 H4
  go_wp2_with fail
  have hY5 : ItAt (w5.alloc (.cells #[.int .i64 yk, .int .i64 yn, .string ya, .string yb] 23)) w5.heap.size 23 yk yn ya yb := heap_alloc_new _ _
  have hg5 : Below w5.heap.size w5 (w5.alloc (.cells #[.int .i64 yk, .int .i64 yn, .string ya, .string yb] 23)) := (Below.refl _ _).alloc (Nat.le_refl _) _
  have hB5 := H5.out.1.trans (hg5.mono H5.out.1.size)
  refine (refIDec_any _ zs most _ (HV.out.below hB5) (by have := HZ.out; omega)).mono ?_
  rintro e w6 ⟨rfl, hb6⟩
  rw [HD.out]
  have H6 := Lib.hid (And.intro (hB5.trans (hb6.mono hB5.size)) (And.intro ((H5.out.2.grown hg5).grown hb6) (hY5.grown hb6)))
  clear hb6 hY5 hg5 hB5 H5
  go_wp2_with fail
  have hg6 : Below w6.heap.size w6 (w6.alloc (.cells #[.int .i64 yk, .int .i64 yn, .string ya, .string yb] 30)) := (Below.refl _ _).alloc (Nat.le_refl _) _
  have hZ6 : ItAt (w6.alloc (.cells #[.int .i64 yk, .int .i64 yn, .string ya, .string yb] 30)) w6.heap.size 30 yk yn ya yb := heap_alloc_new _ _
  have H8 := Lib.hid (And.intro (H6.out.1.trans (hg6.mono H6.out.1.size)) (And.intro (H6.out.2.1.grown hg6) (And.intro (H6.out.2.2.grown hg6) hZ6)))
  have HT8 := Lib.hid (HT.out _ H8.out.1)
  obtain ⟨W8, hW8⟩ : ∃ W8, w6.alloc (.cells #[.int .i64 yk, .int .i64 yn, .string ya, .string yb] 30) = W8 := ⟨_, rfl⟩
  rw [hW8] at H8 HT8 ⊢
  clear hg6 hZ6 H6 hW8 HE1 HE2 HD
  refine wp_region_quiet (C := fun w' => Below W8.heap.size W8 w') (by kernel_rfl) (by kernel_rfl) (Below.refl _ _).drew ?_
  refine quiet_take (.bool true) rfl (quiet_call 5 _ _ rfl [] rfl (enters_of Tryd.func5 (by kernel_rfl) rfl) fun w hw => (alive08 _ (HT8.out.low hw HT8.out.lt)).mono fun e w' ⟨he, hb⟩ => ⟨he, Below.trans hw (hb.mono (Below.size hw))⟩) ?_
  simp only [Act.put, List.setIfInBounds_toArray, List.set_cons_zero, List.set_cons_succ]
  refine quiet_take (.bool true) rfl (quiet_pure (fun w => rfl)) ?_
  simp only [Act.put, List.setIfInBounds_toArray, List.set_cons_zero, List.set_cons_succ]
  refine quiet_take _ rfl (quiet_it (.tmp 3) w.heap.size k n a b rfl rfl fun w hw => H8.out.2.1.grown hw) ?_
  simp only [Act.put, List.setIfInBounds_toArray, List.set_cons_zero, List.set_cons_succ]
  refine quiet_take (.bool R) rfl (quiet_call 12 _ _ rfl [(.agg #[.int .i64 k, .int .i64 n, .string a, .string b])] rfl (enters_of Tryd.func12 (by kernel_rfl) rfl) fun w hw => (HRA.out _ (HT8.out.low hw HT8.out.lt)).mono fun e w' ⟨he, hb⟩ => ⟨he, Below.trans hw (hb.mono (Below.size hw))⟩) ?_
  simp only [Act.put, List.setIfInBounds_toArray, List.set_cons_zero, List.set_cons_succ]
  refine quiet_take _ rfl (quiet_it (.tmp 3) w.heap.size k n a b rfl rfl fun w hw => H8.out.2.1.grown hw) ?_
  simp only [Act.put, List.setIfInBounds_toArray, List.set_cons_zero, List.set_cons_succ]
  refine quiet_take (.agg #[.int .i64 k, .int .i64 n, .string a, .string b]) rfl (quiet_call 8 _ _ rfl [(.agg #[.int .i64 k, .int .i64 n, .string a, .string b])] rfl (enters_of Tryd.func8 (by kernel_rfl) rfl) fun w hw => (of_any k n a b _).mono fun e w' ⟨he, hb⟩ => ⟨he, Below.trans hw (hb.mono (Below.size hw))⟩) ?_
  simp only [Act.put, List.setIfInBounds_toArray, List.set_cons_zero, List.set_cons_succ]
  refine quiet_take (.bool R) rfl (quiet_call 13 _ _ rfl [(.agg #[.int .i64 k, .int .i64 n, .string a, .string b])] rfl (enters_of Tryd.func13 (by kernel_rfl) rfl) fun w hw => (HRB.out _).mono fun e w' ⟨he, hb⟩ => ⟨he, Below.trans hw (hb.mono (Below.size hw))⟩) ?_
  simp only [Act.put, List.setIfInBounds_toArray, List.set_cons_zero, List.set_cons_succ]
  refine quiet_take (.bool true) rfl (quiet_pure (fun w => by simp [go_sem])) ?_
  simp only [Act.put, List.setIfInBounds_toArray, List.set_cons_zero, List.set_cons_succ]
  refine quiet_take (.bool true) rfl (quiet_pure (fun w => rfl)) ?_
  simp only [Act.put, List.setIfInBounds_toArray, List.set_cons_zero, List.set_cons_succ]
  refine quiet_take (.bool true) rfl (quiet_pure (fun w => rfl)) ?_
  simp only [Act.put, List.setIfInBounds_toArray, List.set_cons_zero, List.set_cons_succ]
  refine quiet_take (.bool true) rfl (quiet_pure (fun w => rfl)) ?_
  simp only [Act.put, List.setIfInBounds_toArray, List.set_cons_zero, List.set_cons_succ]
  refine quiet_take (.bool true) rfl (quiet_pure (fun w => rfl)) ?_
  simp only [Act.put, List.setIfInBounds_toArray, List.set_cons_zero, List.set_cons_succ]
  refine quiet_take (.bool true) rfl (quiet_pure (fun w => rfl)) ?_
  simp only [Act.put, List.setIfInBounds_toArray, List.set_cons_zero, List.set_cons_succ]
  refine quiet_take (.int .i64 E) rfl (quiet_pure (fun w => rfl)) ?_
  simp only [Act.put, List.setIfInBounds_toArray, List.set_cons_zero, List.set_cons_succ]
  refine quiet_take (.int .i64 E) rfl (quiet_pure (fun w => rfl)) ?_
  simp only [Act.put, List.setIfInBounds_toArray, List.set_cons_zero, List.set_cons_succ]
  refine quiet_take (.bool true) rfl (quiet_pure (fun w => by simp [go_sem])) ?_
  simp only [Act.put, List.setIfInBounds_toArray, List.set_cons_zero, List.set_cons_succ]
  refine quiet_take (.bool true) rfl (quiet_pure (fun w => rfl)) ?_
  simp only [Act.put, List.setIfInBounds_toArray, List.set_cons_zero, List.set_cons_succ]
  refine quiet_take (.bool true) rfl (quiet_pure (fun w => rfl)) ?_
  simp only [Act.put, List.setIfInBounds_toArray, List.set_cons_zero, List.set_cons_succ]
  refine quiet_take _ rfl (quiet_it (.tmp 12) w5.heap.size yk yn ya yb rfl rfl fun w hw => H8.out.2.2.1.grown hw) ?_
  simp only [Act.put, List.setIfInBounds_toArray, List.set_cons_zero, List.set_cons_succ]
  refine quiet_take (.agg #[.int .i64 yk, .int .i64 yn, .string ya, .string yb]) rfl (quiet_call 8 _ _ rfl [(.agg #[.int .i64 yk, .int .i64 yn, .string ya, .string yb])] rfl (enters_of Tryd.func8 (by kernel_rfl) rfl) fun w hw => (of_any yk yn ya yb _).mono fun e w' ⟨he, hb⟩ => ⟨he, Below.trans hw (hb.mono (Below.size hw))⟩) ?_
  simp only [Act.put, List.setIfInBounds_toArray, List.set_cons_zero, List.set_cons_succ]
  refine quiet_take _ rfl (quiet_it30 (.tmp 15) w6.heap.size yk yn ya yb rfl rfl fun w hw => H8.out.2.2.2.grown hw) ?_
  simp only [Act.put, List.setIfInBounds_toArray, List.set_cons_zero, List.set_cons_succ]
  refine quiet_take (.bool true) rfl (quiet_pure (fun w => eql_it30 (.tmp 81) (.tmp 82) yk yn ya yb w rfl rfl rfl)) ?_
  simp only [Act.put, List.setIfInBounds_toArray, List.set_cons_zero, List.set_cons_succ]
  refine quiet_take (.bool true) rfl (quiet_pure (fun w => rfl)) ?_
  simp only [Act.put, List.setIfInBounds_toArray, List.set_cons_zero, List.set_cons_succ]
  refine quiet_take (.bool true) rfl (quiet_pure (fun w => rfl)) ?_
  simp only [Act.put, List.setIfInBounds_toArray, List.set_cons_zero, List.set_cons_succ]
  refine quiet_take (.int .i64 yat) rfl (quiet_pure (fun w => rfl)) ?_
  simp only [Act.put, List.setIfInBounds_toArray, List.set_cons_zero, List.set_cons_succ]
  refine quiet_take (.int .i64 yat) rfl (quiet_pure (fun w => rfl)) ?_
  simp only [Act.put, List.setIfInBounds_toArray, List.set_cons_zero, List.set_cons_succ]
  refine quiet_take (.bool true) rfl (quiet_pure (fun w => by simp [go_sem])) ?_
  simp only [Act.put, List.setIfInBounds_toArray, List.set_cons_zero, List.set_cons_succ]
  refine quiet_take (.bool true) rfl (quiet_pure (fun w => rfl)) ?_
  simp only [Act.put, List.setIfInBounds_toArray, List.set_cons_zero, List.set_cons_succ]
  refine quiet_take (.bool true) rfl (quiet_pure (fun w => rfl)) ?_
  simp only [Act.put, List.setIfInBounds_toArray, List.set_cons_zero, List.set_cons_succ]
  refine quiet_take (.int .i64 ye) rfl (quiet_pure (fun w => rfl)) ?_
  simp only [Act.put, List.setIfInBounds_toArray, List.set_cons_zero, List.set_cons_succ]
  refine quiet_take (.int .i64 ye) rfl (quiet_pure (fun w => rfl)) ?_
  simp only [Act.put, List.setIfInBounds_toArray, List.set_cons_zero, List.set_cons_succ]
  refine quiet_take (.bool true) rfl (quiet_pure (fun w => by simp [go_sem])) ?_
  simp only [Act.put, List.setIfInBounds_toArray, List.set_cons_zero, List.set_cons_succ]
  refine quiet_take (.bool true) rfl (quiet_pure (fun w => rfl)) ?_
  simp only [Act.put, List.setIfInBounds_toArray, List.set_cons_zero, List.set_cons_succ]
  refine quiet_take (.bool true) rfl (quiet_pure (fun w => rfl)) ?_
  simp only [Act.put, List.setIfInBounds_toArray, List.set_cons_zero, List.set_cons_succ]
  refine wpQuiet_nil fun w9 hb9 => ?_
  have HB9 := Lib.hid (H8.out.1.trans (Below.mono hb9 H8.out.1.size))
  clear hb9
  go_wp2_with fail
  go_ret
  exact ⟨rfl, HB9.out⟩

theorem tells08_any (k n : Int) (a b : ByteArray) (v : Value) (zs : List Int) (most : Int) (w : World) (hv : Sl .u8 w v zs) (hT : ShT w) :
    Calls Tryd.prog 3 #[itV k n a b, v, .int .i64 most] w fun e w' => e = .returned (.bool true) ∧ Below w.heap.size w w' := by
  by_cases h : a.size ≤ 300 ∧ b.size ≤ 300 ∧ zs.length ≤ 300
  · exact tells08 k n a b v zs most w hv hT h
  · exact tells08_long k n a b v zs most w hv hT h
end Go.Proofs.YtimggejonppegaaDoor
