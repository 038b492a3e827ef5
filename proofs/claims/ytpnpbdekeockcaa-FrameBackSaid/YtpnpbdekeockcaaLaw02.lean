/-
  The statements of layer 2: their live question.
-/
import Derived.Test.YtpnpbdekeockcaaFrameAll
import Derived.Test.YtpnpbdekeockcaaFrameWalks
import Derived.Test.YtpnpbdekeockcaaFrameEnc
import Derived.Test.YtpnpbdekeockcaaRef01
import Derived.Test.YtpnpbdekeockcaaRegion
namespace Go.Proofs.Ytpnpbdekeockcaa
open Go.RowKit

/-- the only operation that is ready -/
theorem wpAny_only {P : Program} {md : Region.Mode} {ops : Array Oper} {Q : Exit → Act → World → Prop} (i : Nat) (d : Tmp) {fuel : Nat} {listed : Array Bool} {a : Act} {w : World}
    (hr : Region.ready md ops listed = [i]) (hd : (ops[i]?).map (fun o => (o.dst, o.guard)) = some (some d, none)) (R : Value → World → Prop) (h : ∀ o, ops[i]? = some o → gives P o a.eval w R)
    (hK : ∀ v w', R v w' → wpAny P md ops Q fuel (listed.setIfInBounds i true) (a.put (some d) v) w') : wpAny P md ops Q (fuel + 1) listed a w := by
  refine wpAny_all hr (by simp) fun j hj => ?_
  simp only [List.mem_singleton] at hj
  subst hj
  cases ho : ops[j]? with
  | none => rw [ho] at hd; cases hd
  | some o =>
    rw [ho] at hd
    simp only [Option.map_some, Option.some.injEq, Prod.mk.injEq] at hd
    unfold wpOp
    simp only [ho, wanted_none hd.2, if_true]
    exact .inl (wp_of_gives (h o ho) (by rw [hd.1]; exact hK))
theorem gives_call {P : Program} {o : Oper} {ρ : Operand → Value} {w : World} {R : Value → World → Prop} (f : FuncId) (xs : Array Operand) (ts : Array TypeId) (ho : o.op = .call { callee := .value (.func f), args := xs, argTypes := ts })
    (hf : ρ (.func f) = .func (.func f) #[] #[]) (vals : List Value) (hx : xs.toList.map ρ = vals) (he : ∀ args w, (callFunc f args).run P w = .ok (.enter f args) w)
    (h : Calls P f vals.toArray w fun e w'' => ∃ v, e = .returned v ∧ R v w'') : gives P o ρ w R := by
  have hx' : xs.map ρ = vals.toArray := by rw [← hx, ← Array.toList_map, Array.toArray_toList]
  rw [← hx'] at h
  unfold gives execOp
  simp [ho, resolve, invoke, go_sem, hf, he]
  exact h

/-- a row of the call's own that isn't empty lies in a block -/
theorem owned_block' {w : World} {base : Nat} {e : TypeId} {n : Nat} {v : Value} {xs : List Value} (h : w.ownsRow base e 1 v n xs) (h0 : 0 < n) :
    ∃ g cap cs, v = .slice (some ⟨g, 0, none⟩) n cap ∧ n ≤ cap ∧ cap ≤ maxLen ∧ base ≤ g ∧ w.heap[g]? = some (.cells cs e (0, 0)) := by
  obtain ⟨h1, ⟨rfl, h2⟩ | ⟨g, cap, cur, rfl, hg, hblk, hnc, hcm, hcs, ht⟩⟩ := h
  · omega
  · exact ⟨g, cap, cur, rfl, hnc, hcm, hg, hblk⟩

set_option maxHeartbeats 1000000 in
theorem alive02 (w : World) : Calls Try.prog 5 #[] w fun e w' => e = .returned (.bool true) ∧ Below w.heap.size w w' := by
  go_enter Try.func5, Try.ntmps5
  go_wp2_with fail
  have hp1 := Sl.lit (w := w) (g := w.heap.size) (n := 2) (k := .u8) (e := 5) (cs := #[.int .u8 7, .int .u8 8]) [7, 8] rfl rfl rfl (by decide) (by decide)
  have hB1 := (Below.refl w.heap.size w).alloc (Nat.le_refl _) (.cells #[.int .u8 7, .int .u8 8] 5)
  refine (encode_yes _ ⟨6, 1, 258, [7, 8]⟩ _ ⟨_, rfl, hp1⟩ (by decide)).mono ?_
  rintro e w1 ⟨v1, rfl, hO1, hb1⟩
  obtain ⟨e1, he1⟩ : ∃ e1, e1 = (Fr.mk 6 1 258 [7, 8]).enc := ⟨_, rfl⟩
  have hE1 : e1 = [0, 0, 2, 6, 1, 0, 0, 1, 2, 7, 8] := by rw [he1]; decide
  rw [← he1, hE1] at hO1
  clear he1 hE1 e1
  have hB1' := hB1.trans (hb1.mono hB1.size)
  have hO1' := owned_mono hO1 hB1.size
  clear hO1 hB1 hb1 hp1
  obtain ⟨g, cap, cs, rfl, hgc, hcm, hgw, hblk⟩ := owned_block' hO1' (by decide)
  have hS1 := Sl.of_own hO1' (by intro n hn; revert n; decide) (by decide)
  simp only [List.length_cons, List.length_nil, Nat.reduceAdd] at hO1' hgc ⊢
  go_wp2_with fail
  have hS8 : Sl .u8 (w1.alloc (.cells #[.int .u8 0, .int .u8 0, .int .u8 2, .int .u8 6, .int .u8 1, .int .u8 0, .int .u8 0, .int .u8 1, .int .u8 2, .int .u8 7, .int .u8 8] 5)) (.slice (some ⟨w1.heap.size, 0, none⟩) 11 11) [0, 0, 2, 6, 1, 0, 0, 1, 2, 7, 8] := Sl.lit [0, 0, 2, 6, 1, 0, 0, 1, 2, 7, 8] rfl rfl rfl (by decide) (by decide)
  refine (same_any _ _ _ _ _ (hS1.alloc _) hS8).mono ?_
  clear hS8
  rintro e w2 ⟨rfl, n2, rfl⟩
  rw [decide_eq_true rfl]
  have hB2 := below_drewN (hB1'.alloc hB1'.size (.cells #[.int .u8 0, .int .u8 0, .int .u8 2, .int .u8 6, .int .u8 1, .int .u8 0, .int .u8 0, .int .u8 1, .int .u8 2, .int .u8 7, .int .u8 8] 5)) n2
  have hO2 := owned_below hO1' (below_drewN ((Below.refl _ _).alloc (Nat.le_refl _) (.cells #[.int .u8 0, .int .u8 0, .int .u8 2, .int .u8 6, .int .u8 1, .int .u8 0, .int .u8 0, .int .u8 1, .int .u8 2, .int .u8 7, .int .u8 8] 5)) n2)
  have hb2 := (below_drewN ((Below.refl _ _).alloc (Nat.le_refl _) (.cells #[.int .u8 0, .int .u8 0, .int .u8 2, .int .u8 6, .int .u8 1, .int .u8 0, .int .u8 0, .int .u8 1, .int .u8 2, .int .u8 7, .int .u8 8] 5)) n2).block g (Array.getElem?_eq_some_iff.1 hblk).1 |>.trans hblk
  obtain ⟨W2, hW2⟩ : ∃ W2, (w1.alloc (.cells #[.int .u8 0, .int .u8 0, .int .u8 2, .int .u8 6, .int .u8 1, .int .u8 0, .int .u8 0, .int .u8 1, .int .u8 2, .int .u8 7, .int .u8 8] 5)).drewN n2 = W2 := ⟨_, rfl⟩
  rw [hW2] at hB2 hO2 hb2 ⊢
  clear hW2 hS1 hO1' hB1' hblk
  have c5 := owned_cell hO2 5 (by decide)
  rw [show at0 [0, 0, 2, 6, 1, 0, 0, 1, 2, 7, 8] 5 = 0 from by decide] at c5
  have f5 := blk_free (j := 5) hb2
  have hO3 := owned_store hO2 5 128
  rw [show ([0, 0, 2, 6, 1, 0, 0, 1, 2, 7, 8] : List Int).set 5 128 = [0, 0, 2, 6, 1, 128, 0, 1, 2, 7, 8] from rfl] at hO3
  have hB3 := hB2.setCell (p := ⟨g, 5, none⟩) hgw (.int .u8 128)
  clear hO2 hb2
  have h5 : (5 : Int) < ((11 : Nat) : Int) := by decide
  have hS3 := Sl.of_own hO3 (by intro n hn; revert n; decide) (by decide)
  have hz3 : (W2.setCell ⟨g, 5, none⟩ (.int .u8 128)).heap.size = W2.heap.size := by simp
  have hemp : ((W2.setCell ⟨g, 5, none⟩ (.int .u8 128)).alloc (.cells #[] 5)).ownsRow W2.heap.size 5 1 (.slice (some ⟨W2.heap.size, 0, none⟩) 0 0) 0 (([] : List Int).map (Value.int .u8)) := by
    have := World.ownsRow_made (base := W2.heap.size) (e := 5) (size := 1) (W2.setCell ⟨g, 5, none⟩ (.int .u8 128)) #[] 0 (by simp) (by decide) rfl
    simpa using this
  go_wp2_with (first
    | (at_builtin; refine app_ints rfl (.tmp 35) (.tmp 36) 23 rfl W2.heap.size 5 .u8 1 Try.underlying23 Try.info5' _ 0 [] rfl hemp _ [0, 0, 2, 6, 1, 128, 0, 1, 2, 7, 8] rfl (hS3.alloc _) (by decide) (by decide) (by simp) ?_; intro v4 w4 hO4 hc4 hg4; obtain ⟨a4, cp4, rfl, _⟩ := owned_shape hO4; have hz4 : W2.heap.size ≤ w4.heap.size := by (have := hc4.size; simp at this; omega))
    | (at_builtin; refine app_ints rfl (.tmp 37) (.tmp 38) 23 rfl W2.heap.size 5 .u8 1 Try.underlying23 Try.info5' _ _ [0, 0, 2, 6, 1, 128, 0, 1, 2, 7, 8] rfl (hO4.alloc _) _ [9] rfl (Sl.lit' [9] rfl rfl rfl (by intro n hn; revert n; decide) (by decide)) (by decide) (by decide) (by simp; omega) ?_; intro v5 w5 hO5 hc5 hg5; obtain ⟨a5, cp5, rfl, _⟩ := owned_shape hO5))
  have hb5 : Below W2.heap.size (W2.setCell ⟨g, 5, none⟩ (.int .u8 128)) w5 := ((Below.refl _ _).alloc (Nat.le_of_eq hz3.symm) _).trans (hc4.trans (((Below.refl _ _).alloc hz4 _).trans hc5))
  have hB5 := hB3.trans (hb5.mono hB2.size)
  have hS5 := hS3.below (w' := w5) (by rw [hz3]; exact hb5)
  have hA5 := Sl.of_own hO5 (by intro n hn; revert n; decide) (by decide)
  simp only [List.length_cons, List.length_nil, Nat.reduceAdd, List.cons_append, List.nil_append] at hA5
  clear hb5 hc5 hg5 hO5 hc4 hg4 hO4 hz4 hemp hz3 hS3 hB3 hO3 c5 f5 h5 hB2 hgc hcm
  obtain ⟨hcap1, hcap2⟩ : 11 ≤ cap ∧ cap ≤ maxLen := by
    obtain ⟨_, _, e, h1, h2, _⟩ := id hS5
    simp only [Value.slice.injEq] at e
    obtain ⟨_, _, rfl⟩ := e
    exact ⟨h1, h2⟩
  refine (next_any _ _ 2 _ hA5).mono ?_
  rintro e w6 ⟨fv, rfl, ⟨pv, rfl, hpv, _⟩, hb6⟩
  have hB6 := hB5.trans (hb6.mono hB5.size)
  have hS6 := hS5.below hb6
  clear hA5 hB5 hS5 hb6
  rw [show nextF [0, 0, 2, 6, 1, 128, 0, 1, 2, 7, 8, 9] 2 = ⟨6, 1, 258, [7, 8]⟩ from by decide] at hpv ⊢
  rw [show nextN [0, 0, 2, 6, 1, 128, 0, 1, 2, 7, 8, 9] 2 = 11 from by decide, show nextE [0, 0, 2, 6, 1, 128, 0, 1, 2, 7, 8, 9] 2 = 0 from by decide]
  obtain ⟨ap, cpp, rfl, _⟩ := id hpv
  clear hpv
  dsimp only [List.length_cons, List.length_nil, Nat.reduceAdd]
  go_wp2_with fail
  have hB7 := hB6.alloc hB6.size (.cells #[.int .i64 6, .int .i64 1, .int .i64 258, .slice ap 2 cpp] 25)
  have hS7 := hS6.alloc (.cells #[.int .i64 6, .int .i64 1, .int .i64 258, .slice ap 2 cpp] 25)
  have hF7 : Bx (w6.alloc (.cells #[.int .i64 6, .int .i64 1, .int .i64 258, .slice ap 2 cpp] 25)) w6.heap.size 25 ⟨6, 1, 258, [7, 8]⟩ (.slice ap 2 cpp) := Bx.new w6 _ ⟨6, 1, 258, [7, 8]⟩ _
  clear hB6 hS6
  refine (next_any _ _ 1 _ hS7).mono ?_
  rintro e w8 ⟨fv, rfl, ⟨pv, rfl, hpv, _⟩, hb8⟩
  have hB8 := hB7.trans (hb8.mono hB7.size)
  have hS8 := hS7.below hb8
  have hF8 := hF7.below hb8
  clear hB7 hS7 hF7 hb8
  rw [show nextF [0, 0, 2, 6, 1, 128, 0, 1, 2, 7, 8] 1 = Fr.zero from by decide] at hpv ⊢
  rw [show nextN [0, 0, 2, 6, 1, 128, 0, 1, 2, 7, 8] 1 = 0 from by decide, show nextE [0, 0, 2, 6, 1, 128, 0, 1, 2, 7, 8] 1 = 4 from by decide]
  obtain ⟨ap2, cpp2, rfl, _⟩ := id hpv
  clear hpv
  dsimp only [Fr.zero, List.length_cons, List.length_nil, Nat.reduceAdd]
  obtain ⟨vc, hrc, hvc⟩ := hS8.upto Try.sliceB Try.sizeB 10 (by decide) (by decide)
  rw [show ([0, 0, 2, 6, 1, 128, 0, 1, 2, 7, 8] : List Int).take (10 : Int).toNat = [0, 0, 2, 6, 1, 128, 0, 1, 2, 7] from rfl] at hvc
  go_wp2_with fail
  have hvc' := hvc.alloc (.cells #[.int .i64 0, .int .i64 0, .int .i64 0, .slice ap2 0 cpp2] 25)
  have hB9 := hB8.alloc hB8.size (.cells #[.int .i64 0, .int .i64 0, .int .i64 0, .slice ap2 0 cpp2] 25)
  have hS9 := hS8.alloc (.cells #[.int .i64 0, .int .i64 0, .int .i64 0, .slice ap2 0 cpp2] 25)
  have hF9 := hF8.below ((Below.refl _ _).alloc (Nat.le_refl _) (.cells #[.int .i64 0, .int .i64 0, .int .i64 0, .slice ap2 0 cpp2] 25))
  clear hB8 hS8 hF8 hvc hrc
  refine (next_any _ _ 9 _ hvc').mono ?_
  rintro e w10 ⟨fv, rfl, ⟨pv, rfl, hpv, _⟩, hb10⟩
  have hB10 := hB9.trans (hb10.mono hB9.size)
  have hS10 := hS9.below hb10
  have hF10 := hF9.below hb10
  clear hB9 hS9 hF9 hb10 hvc'
  rw [show nextF [0, 0, 2, 6, 1, 128, 0, 1, 2, 7] 9 = Fr.zero from by decide] at hpv ⊢
  rw [show nextN [0, 0, 2, 6, 1, 128, 0, 1, 2, 7] 9 = 0 from by decide, show nextE [0, 0, 2, 6, 1, 128, 0, 1, 2, 7] 9 = 2 from by decide]
  obtain ⟨ap3, cpp3, rfl, _⟩ := id hpv
  clear hpv
  dsimp only [Fr.zero, List.length_cons, List.length_nil, Nat.reduceAdd]
  go_wp2_with fail
  have hB11 := hB10.alloc hB10.size (.cells #[.int .i64 0, .int .i64 0, .int .i64 0, .slice ap3 0 cpp3] 25)
  have hS11 := hS10.alloc (.cells #[.int .i64 0, .int .i64 0, .int .i64 0, .slice ap3 0 cpp3] 25)
  have hF11 := hF10.below ((Below.refl _ _).alloc (Nat.le_refl _) (.cells #[.int .i64 0, .int .i64 0, .int .i64 0, .slice ap3 0 cpp3] 25))
  clear hB10 hS10 hF10
  refine wp_region_any (by kernel_rfl) ?_
  change wpAny _ _ _ _ _ _ _ (World.drew _)
  generalize hW12 : World.drew _ = W12
  have hB12 : Below w.heap.size w W12 := by rw [← hW12]; exact hB11.drew
  have hS12 : Sl .u8 W12 (.slice (some ⟨g, 0, none⟩) 11 cap) [0, 0, 2, 6, 1, 128, 0, 1, 2, 7, 8] := by rw [← hW12]; exact hS11.drew
  have hF12 := hF11.below (W' := W12) (by rw [← hW12]; exact (Below.refl _ _).drew)
  clear hB11 hS11 hF11 hW12
  have hvd : Sl .u8 W12 (.slice (some ⟨g, 0, none⟩) 5 cap) [0, 0, 2, 6, 1] := by
    have h := Sl.run_cut hS12 0 5 (by decide) (by decide)
    have e : sliced (some ⟨g, 0, none⟩) 0 5 cap 1 = .slice (some ⟨g, 0, none⟩) 5 cap := by simp [sliced, Addr.add]
    rw [e] at h
    exact h
  have hc5 : (5 : Int) ≤ (cap : Int) := by omega
  refine wpAny_early 1 59 (.slice (some ⟨g, 0, none⟩) 11 cap) (by kernel_rfl) (by kernel_rfl) (by kernel_rfl) (fun _ _ _ h => h) rfl (fun o ho => by obtain rfl := Option.some.inj ho; exact Or.inl ⟨rfl, fun w => rfl⟩) ?_
  simp only [Act.put, List.setIfInBounds_toArray, List.set_cons_zero, List.set_cons_succ]
  refine wpAny_early 3 61 (.slice (some ⟨g, 0, none⟩) 11 cap) (by kernel_rfl) (by kernel_rfl) (by kernel_rfl) (fun _ _ _ h => h) rfl (fun o ho => by obtain rfl := Option.some.inj ho; exact Or.inl ⟨rfl, fun w => rfl⟩) ?_
  simp only [Act.put, List.setIfInBounds_toArray, List.set_cons_zero, List.set_cons_succ]
  refine wpAny_early 4 62 (.slice (some ⟨g, 0, none⟩) 5 cap) (by kernel_rfl) (by kernel_rfl) (by kernel_rfl) (fun _ _ _ h => h) rfl (fun o ho => by obtain rfl := Option.some.inj ho; exact Or.inl ⟨rfl, fun w => by simp [go_sem, hc5]⟩) ?_
  simp only [Act.put, List.setIfInBounds_toArray, List.set_cons_zero, List.set_cons_succ]
  refine wpAny_only 0 58 (by kernel_rfl) rfl (fun v w' => v = .slice (some ⟨W12.heap.size, 0, none⟩) 0 0 ∧ w' = W12.alloc (.cells #[] 5)) (by intro o ho; simp only [List.getElem?_toArray, List.getElem?_cons_zero, Option.some.injEq] at ho; subst ho; simp [gives, go_sem]) ?_
  rintro _ _ ⟨rfl, rfl⟩
  simp only [Act.put, List.setIfInBounds_toArray, List.set_cons_zero, List.set_cons_succ]
  refine wpAny_only 2 60 (by kernel_rfl) rfl (fun v w' => w'.ownsRow W12.heap.size 5 1 v 11 (([0, 0, 2, 6, 1, 128, 0, 1, 2, 7, 8] : List Int).map (Value.int .u8)) ∧ Below W12.heap.size W12 w') ?_ ?_
  · intro o ho; simp only [List.getElem?_toArray, List.getElem?_cons_succ, List.getElem?_cons_zero, Option.some.injEq] at ho; subst ho
    refine gives_app_ints (.tmp 58) (.tmp 59) 23 rfl W12.heap.size 5 .u8 1 Try.underlying23 Try.info5' _ 0 [] rfl (World.ownsRow_made _ _ 0 (Nat.le_refl _) (by decide) rfl) _ [0, 0, 2, 6, 1, 128, 0, 1, 2, 7, 8] rfl (hS12.alloc _) (by decide) (by decide) (by simp) ?_
    intro v' w' ho hb _
    exact ⟨ho, ((Below.refl _ _).alloc (Nat.le_refl _) _).trans hb⟩
  rintro v13 w13 ⟨hO13, hb13⟩
  obtain ⟨a13, cp13, rfl, _⟩ := owned_shape hO13
  simp only [Act.put, List.setIfInBounds_toArray, List.set_cons_zero, List.set_cons_succ]
  refine wpAny_only 5 63 (by kernel_rfl) rfl (fun v w' => w'.ownsRow W12.heap.size 5 1 v 16 (([0, 0, 2, 6, 1, 128, 0, 1, 2, 7, 8, 0, 0, 2, 6, 1] : List Int).map (Value.int .u8)) ∧ Below W12.heap.size W12 w') ?_ ?_
  · intro o ho; simp only [List.getElem?_toArray, List.getElem?_cons_succ, List.getElem?_cons_zero, Option.some.injEq] at ho; subst ho
    refine gives_app_ints (.tmp 60) (.tmp 62) 23 rfl W12.heap.size 5 .u8 1 Try.underlying23 Try.info5' _ _ [0, 0, 2, 6, 1, 128, 0, 1, 2, 7, 8] rfl hO13 _ [0, 0, 2, 6, 1] rfl (hvd.below hb13) (by decide) (by decide) hb13.size ?_
    intro v' w' ho hb _
    exact ⟨ho, hb13.trans hb⟩
  rintro v14 w14 ⟨hO14, hb14⟩
  obtain ⟨a14, cp14, rfl, _⟩ := owned_shape hO14
  simp only [Act.put, List.setIfInBounds_toArray, List.set_cons_zero, List.set_cons_succ]
  have hA14 := Sl.of_own hO14 (by intro n hn; revert n; decide) (by decide)
  refine wpAny_only 6 64 (by kernel_rfl) rfl (fun v w' => (∃ al cl, v = .tuple #[.slice al 1 cl, .int .i64 11, .int .i64 2]) ∧ Below W12.heap.size W12 w') ?_ ?_
  · intro o ho; simp only [List.getElem?_toArray, List.getElem?_cons_succ, List.getElem?_cons_zero, Option.some.injEq] at ho; subst ho
    refine gives_call 15 _ _ rfl rfl [.slice a14 16 cp14, .int .i64 99] rfl (enters_of Try.func15 (by kernel_rfl) rfl) ?_
    refine (all_any _ _ 99 _ hA14 (by decide)).mono ?_
    rintro e w' ⟨vl, ps, rfl, hps, hsl, hb⟩
    obtain ⟨_, al, cl, rfl, _⟩ := hsl
    have hps1 := congrArg List.length hps
    rw [List.length_map, show (allOf 99 [0, 0, 2, 6, 1, 128, 0, 1, 2, 7, 8, 0, 0, 2, 6, 1]).1.length = 1 from by decide] at hps1
    rw [hps1, show (allOf 99 [0, 0, 2, 6, 1, 128, 0, 1, 2, 7, 8, 0, 0, 2, 6, 1]).2.1 = 11 from by decide, show (allOf 99 [0, 0, 2, 6, 1, 128, 0, 1, 2, 7, 8, 0, 0, 2, 6, 1]).2.2 = 2 from by decide]
    exact ⟨_, rfl, ⟨al, cl, rfl⟩, hb14.trans (hb.mono hb14.size)⟩
  rintro v15 w15 ⟨⟨al, cl, rfl⟩, hb15⟩
  simp only [Act.put, List.setIfInBounds_toArray, List.set_cons_zero, List.set_cons_succ]
  refine wpAny_only 7 57 (by kernel_rfl) rfl (fun v w' => v = .tuple #[.slice al 1 cl, .int .i64 11, .int .i64 2] ∧ w15 = w') (by intro o ho; simp only [List.getElem?_toArray, List.getElem?_cons_succ, List.getElem?_cons_zero, Option.some.injEq] at ho; subst ho; simp [gives, go_sem]) ?_
  rintro _ _ ⟨rfl, rfl⟩
  simp only [Act.put, List.setIfInBounds_toArray, List.set_cons_zero, List.set_cons_succ]
  refine wpAny_early 8 65 (.slice al 1 cl) (by kernel_rfl) (by kernel_rfl) (by kernel_rfl) (fun _ _ _ h => h) rfl (fun o ho => by obtain rfl := Option.some.inj ho; exact Or.inl ⟨rfl, fun w => rfl⟩) ?_
  simp only [Act.put, List.setIfInBounds_toArray, List.set_cons_zero, List.set_cons_succ]
  refine wpAny_early 9 66 (.int .i64 11) (by kernel_rfl) (by kernel_rfl) (by kernel_rfl) (fun _ _ _ h => h) rfl (fun o ho => by obtain rfl := Option.some.inj ho; exact Or.inl ⟨rfl, fun w => rfl⟩) ?_
  simp only [Act.put, List.setIfInBounds_toArray, List.set_cons_zero, List.set_cons_succ]
  refine wpAny_early 10 67 (.int .i64 2) (by kernel_rfl) (by kernel_rfl) (by kernel_rfl) (fun _ _ _ h => h) rfl (fun o ho => by obtain rfl := Option.some.inj ho; exact Or.inl ⟨rfl, fun w => rfl⟩) ?_
  simp only [Act.put, List.setIfInBounds_toArray, List.set_cons_zero, List.set_cons_succ]
  refine wpAny_only 11 14 (by kernel_rfl) rfl (fun v w' => v = .slice al 1 cl ∧ w15 = w') (by intro o ho; simp only [List.getElem?_toArray, List.getElem?_cons_succ, List.getElem?_cons_zero, Option.some.injEq] at ho; subst ho; simp [gives, go_sem]) ?_
  rintro _ _ ⟨rfl, rfl⟩
  simp only [Act.put, List.setIfInBounds_toArray, List.set_cons_zero, List.set_cons_succ]
  refine wpAny_only 12 15 (by kernel_rfl) rfl (fun v w' => v = .int .i64 11 ∧ w15 = w') (by intro o ho; simp only [List.getElem?_toArray, List.getElem?_cons_succ, List.getElem?_cons_zero, Option.some.injEq] at ho; subst ho; simp [gives, go_sem]) ?_
  rintro _ _ ⟨rfl, rfl⟩
  simp only [Act.put, List.setIfInBounds_toArray, List.set_cons_zero, List.set_cons_succ]
  refine wpAny_only 13 16 (by kernel_rfl) rfl (fun v w' => v = .int .i64 2 ∧ w15 = w') (by intro o ho; simp only [List.getElem?_toArray, List.getElem?_cons_succ, List.getElem?_cons_zero, Option.some.injEq] at ho; subst ho; simp [gives, go_sem]) ?_
  rintro _ _ ⟨rfl, rfl⟩
  simp only [Act.put, List.setIfInBounds_toArray, List.set_cons_zero, List.set_cons_succ]
  refine wpAny_done (by kernel_rfl) ?_ _
  have hB15 := hB12.trans (hb15.mono hB12.size)
  have hF15 := hF12.below hb15
  clear hB12 hS12 hF12 hvd hb13 hO13 hO14 hb14 hA14 hb15
  go_wp2_with fail
  refine (encode_no _ ⟨0, 0, -1, []⟩ _ ⟨_, rfl, Sl.nil _ _⟩ (by decide)).mono ?_
  rintro e w16 ⟨rfl, hb16⟩
  have hB16 := hB15.trans (hb16.mono hB15.size)
  have hF16 := hF15.below hb16
  have c0 : w16.cell? ⟨w6.heap.size, 0, none⟩ = some (.int .i64 6) := hF16.c0
  have c2 : w16.cell? ⟨w6.heap.size, 2, none⟩ = some (.int .i64 258) := hF16.c2
  have c3 : w16.cell? ⟨w6.heap.size, 3, none⟩ = some (.slice ap 2 cpp) := hF16.c3
  clear hB15 hF15 hb16 hF16
  go_wp2_with fail
  go_ret
  exact ⟨rfl, hB16⟩
end Go.Proofs.Ytpnpbdekeockcaa
