/-
  FrameTells: its walk.
-/
import Derived.Test.YtpnpbdekeockcaaLaw02
import Derived.Test.YtpnpbdekeockcaaRef02List
import Derived.Test.YtpnpbdekeockcaaRef02All
import Derived.Test.YtpnpbdekeockcaaRef02Enc
import Derived.Test.YtpnpbdekeockcaaRef02Next
namespace Go.Proofs.Ytpnpbdekeockcaa
open Go.RowKit

/-- what Encode answers -/
def encE (f : Fr) : Int := if f.right then 0 else 1
def encR (f : Fr) : List Int := if f.right then f.enc else []
theorem encode_any (v : Value) (f : Fr) (w : World) (h : FrV w v f) : Calls Try.prog 6 #[v] w fun e w' => ∃ v', e = .returned (.tuple #[v', .int .i64 (encE f)]) ∧ Sl .u8 w' v' (encR f) ∧ Below w.heap.size w w' := by
  by_cases hr : f.right
  · rw [encE, encR, if_pos hr, if_pos hr]
    refine (encode_yes v f w h hr).mono ?_
    rintro e w' ⟨v', he, ho, hb⟩
    obtain ⟨pv, _, hp⟩ := h
    exact ⟨v', he, Sl.of_own ho (Fr.enc_fit hr hp.fit) (by have := hr.2.2.2.2.2.2; rw [Fr.enc_length]; unfold maxLen; omega), hb⟩
  · rw [encE, encR, if_neg hr, if_neg hr]
    exact (encode_no v f w h hr).mono fun e w' ⟨he, hb⟩ => ⟨_, he, Sl.nil _ _, hb⟩
theorem refEncode_any (v : Value) (f : Fr) (w : World) (h : FrV w v f) : Calls Try.prog 7 #[v] w fun e w' => ∃ v', e = .returned (.tuple #[v', .int .i64 (encE f)]) ∧ Sl .u8 w' v' (encR f) ∧ Below w.heap.size w w' := by
  by_cases hr : f.right
  · rw [encE, encR, if_pos hr, if_pos hr]
    refine (refEncode_yes v f w h hr).mono ?_
    rintro e w' ⟨v', he, ho, hb⟩
    obtain ⟨pv, _, hp⟩ := h
    exact ⟨v', he, Sl.of_own ho (Fr.enc_fit hr hp.fit) (by have := hr.2.2.2.2.2.2; rw [Fr.enc_length]; unfold maxLen; omega), hb⟩
  · rw [encE, encR, if_neg hr, if_neg hr]
    exact (refEncode_no v f w h hr).mono fun e w' ⟨he, hb⟩ => ⟨_, he, Sl.nil _ _, hb⟩

set_option maxHeartbeats 1000000 in
theorem tells_long (f o : Fr) (pf po b : Value) (zs : List Int) (most : Int) (w : World) (hf : Sl .u8 w pf f.pay) (ho : Sl .u8 w po o.pay) (hb : Sl .u8 w b zs) (hl : 2000 < zs.length ∨ 2000 < f.pay.length ∨ 2000 < o.pay.length) :
    Calls Try.prog 3 #[.agg #[.int .i64 f.kind, .int .i64 f.flags, .int .i64 f.stream, pf, .int .i64 o.kind, .int .i64 o.flags, .int .i64 o.stream, po], b, .int .i64 most] w fun e w' => e = .returned (.bool true) ∧ Below w.heap.size w w' := by
  obtain ⟨af, cf, rfl, _⟩ := id hf
  obtain ⟨ao, co, rfl, _⟩ := id ho
  obtain ⟨ab, cb, rfl, _⟩ := id hb
  have hb0 : ∀ o1 o2 o3, Below w.heap.size w (((w.alloc o1).alloc o2).alloc o3) := fun o1 o2 o3 => (((Below.refl w.heap.size w).alloc (Nat.le_refl _) o1).alloc (by simp) o2).alloc (by simp; omega) o3
  clear hf ho hb
  by_cases h1 : 2000 < zs.length
  · have d1 : decide ((2000 : Int) < (zs.length : Int)) = true := decide_eq_true (by omega)
    clear hl h1
    go_enter Try.func3, Try.ntmps3
    go_wp2_with (go_at_call 5; refine (alive02 _).mono ?_; rintro e w' ⟨rfl, hb⟩)
    go_ret
    exact ⟨rfl, (hb0 _ _ _).trans (hb.mono (by simp; omega))⟩
  · have d1 : decide ((2000 : Int) < (zs.length : Int)) = false := decide_eq_false (by omega)
    by_cases h2 : 2000 < f.pay.length
    · have d2 : decide ((2000 : Int) < (f.pay.length : Int)) = true := decide_eq_true (by omega)
      clear hl h1 h2
      go_enter Try.func3, Try.ntmps3
      go_wp2_with (go_at_call 5; refine (alive02 _).mono ?_; rintro e w' ⟨rfl, hb⟩)
      go_ret
      exact ⟨rfl, (hb0 _ _ _).trans (hb.mono (by simp; omega))⟩
    · have d2 : decide ((2000 : Int) < (f.pay.length : Int)) = false := decide_eq_false (by omega)
      have h3 : 2000 < o.pay.length := by
        rcases hl with h | h | h
        · exact absurd h h1
        · exact absurd h h2
        · exact h
      have d3 : decide ((2000 : Int) < (o.pay.length : Int)) = true := decide_eq_true (Int.ofNat_lt.mpr h3)
      clear hl h1 h2 h3
      go_enter Try.func3, Try.ntmps3
      go_wp2_with (go_at_call 5; refine (alive02 _).mono ?_; rintro e w' ⟨rfl, hb⟩)
      go_ret
      exact ⟨rfl, (hb0 _ _ _).trans (hb.mono (by simp; omega))⟩

/-- a load of a frame that lies in a block of its own; a call: what they leave of a class of worlds that only grow -/
theorem quiet_take {P : Program} {ops : Array Oper} {C : World → Prop} {Q : Act → Prop} {o : Oper} {rest : List Oper} {a : Act} (v : Value) (hw : Region.wanted o (yielded ops a.tmps) = true) (h : ∀ w, C w → o.quietAt P a C w v) (hr : wpQuiet P ops C Q rest (a.put o.dst v)) : wpQuiet P ops C Q (o :: rest) a :=
  wpQuiet_step fun K hK => by rw [if_pos hw]; exact ⟨v, h, hK _ hr⟩
theorem quiet_pure {P : Program} {C : World → Prop} {o : Oper} {a : Act} {v : Value} (h : ∀ w, (execOp a.eval o).run P w = .ok (.value v) w) : ∀ w, C w → o.quietAt P a C w v := fun w _ => by
  unfold Oper.quietAt; rw [h w]; exact ⟨rfl, rfl⟩
theorem quiet_call {P : Program} {C : World → Prop} {o : Oper} {a : Act} {v : Value} (f : FuncId) (xs : Array Operand) (ts : Array TypeId) (ho : o.op = .call { callee := .value (.func f), args := xs, argTypes := ts })
    (vals : List Value) (hx : xs.toList.map a.eval = vals) (he : ∀ args w, (callFunc f args).run P w = .ok (.enter f args) w) (h : ∀ w, C w → Calls P f vals.toArray w fun e w'' => e = .returned v ∧ C w'') : ∀ w, C w → o.quietAt P a C w v := fun w hw => by
  have hx' : xs.map a.eval = vals.toArray := by rw [← hx, ← Array.toList_map, Array.toArray_toList]
  have h' := h w hw
  rw [← hx'] at h'
  unfold Oper.quietAt execOp
  simp [ho, resolve, invoke, go_sem, he, Oper.quietUpon]
  exact h'

theorem load_frame {o : Oper} {ρ : Operand → Value} {w : World} (x : Operand) (B : Nat) (f : Fr) (pv : Value) (ho : o.op = .load 25 x) (hx : ρ x = .pointer (some ⟨B, 0, none⟩)) (hB : Bx w B 25 f pv) :
    (execOp ρ o).run Try.prog w = .ok (.value (.agg #[.int .i64 f.kind, .int .i64 f.flags, .int .i64 f.stream, pv])) w := by
  have c0 := hB.c0
  have c1 := hB.c1
  have c2 := hB.c2
  have c3 := hB.c3
  unfold execOp
  simp [ho, hx, go_sem, c0, c1, c2, c3]
theorem quiet_load {C : World → Prop} {o : Oper} {a : Act} (x : Operand) (B : Nat) (f : Fr) (pv : Value) (ho : o.op = .load 25 x) (hx : a.eval x = .pointer (some ⟨B, 0, none⟩)) (hB : ∀ w, C w → Bx w B 25 f pv) :
    ∀ w, C w → o.quietAt Try.prog a C w (.agg #[.int .i64 f.kind, .int .i64 f.flags, .int .i64 f.stream, pv]) := fun w hw => by
  unfold Oper.quietAt
  rw [load_frame x B f pv ho hx (hB w hw)]
  exact ⟨rfl, rfl⟩

set_option maxHeartbeats 2000000 in
theorem tells02 (f o : Fr) (pf po b : Value) (zs : List Int) (most : Int) (w : World) (hf : Sl .u8 w pf f.pay) (ho : Sl .u8 w po o.pay) (hb : Sl .u8 w b zs) (h1 : zs.length ≤ 2000) (h2 : f.pay.length ≤ 2000) (h3 : o.pay.length ≤ 2000) :
    Calls Try.prog 3 #[.agg #[.int .i64 f.kind, .int .i64 f.flags, .int .i64 f.stream, pf, .int .i64 o.kind, .int .i64 o.flags, .int .i64 o.stream, po], b, .int .i64 most] w fun e w' => e = .returned (.bool true) ∧ Below w.heap.size w w' := by
  obtain ⟨af, cf, rfl, _⟩ := id hf
  obtain ⟨ao, co, rfl, _⟩ := id ho
  obtain ⟨ab, cb, rfl, _⟩ := id hb
  have d1 : decide ((2000 : Int) < (zs.length : Int)) = false := decide_eq_false (by omega)
  have d2 : decide ((2000 : Int) < (f.pay.length : Int)) = false := decide_eq_false (by omega)
  have d3 : decide ((2000 : Int) < (o.pay.length : Int)) = false := decide_eq_false (by omega)
  go_enter Try.func3, Try.ntmps3
  go_wp2_with fail
  have hB0 : Below w.heap.size w (((w.alloc (.cells #[.int .i64 f.kind, .int .i64 f.flags, .int .i64 f.stream, .slice af f.pay.length cf, .int .i64 o.kind, .int .i64 o.flags, .int .i64 o.stream, .slice ao o.pay.length co] 26)).alloc (.cells #[.int .i64 f.kind, .int .i64 f.flags, .int .i64 f.stream, .slice af f.pay.length cf] 25)).alloc (.cells #[.int .i64 o.kind, .int .i64 o.flags, .int .i64 o.stream, .slice ao o.pay.length co] 25)) := (((Below.refl w.heap.size w).alloc (Nat.le_refl _) _).alloc (by simp) _).alloc (by simp; omega) _
  have hf0 : Sl .u8 (((w.alloc (.cells #[.int .i64 f.kind, .int .i64 f.flags, .int .i64 f.stream, .slice af f.pay.length cf, .int .i64 o.kind, .int .i64 o.flags, .int .i64 o.stream, .slice ao o.pay.length co] 26)).alloc (.cells #[.int .i64 f.kind, .int .i64 f.flags, .int .i64 f.stream, .slice af f.pay.length cf] 25)).alloc (.cells #[.int .i64 o.kind, .int .i64 o.flags, .int .i64 o.stream, .slice ao o.pay.length co] 25)) (.slice af f.pay.length cf) f.pay := ((hf.alloc _).alloc _).alloc _
  have ho0 : Sl .u8 (((w.alloc (.cells #[.int .i64 f.kind, .int .i64 f.flags, .int .i64 f.stream, .slice af f.pay.length cf, .int .i64 o.kind, .int .i64 o.flags, .int .i64 o.stream, .slice ao o.pay.length co] 26)).alloc (.cells #[.int .i64 f.kind, .int .i64 f.flags, .int .i64 f.stream, .slice af f.pay.length cf] 25)).alloc (.cells #[.int .i64 o.kind, .int .i64 o.flags, .int .i64 o.stream, .slice ao o.pay.length co] 25)) (.slice ao o.pay.length co) o.pay := ((ho.alloc _).alloc _).alloc _
  have hb0 : Sl .u8 (((w.alloc (.cells #[.int .i64 f.kind, .int .i64 f.flags, .int .i64 f.stream, .slice af f.pay.length cf, .int .i64 o.kind, .int .i64 o.flags, .int .i64 o.stream, .slice ao o.pay.length co] 26)).alloc (.cells #[.int .i64 f.kind, .int .i64 f.flags, .int .i64 f.stream, .slice af f.pay.length cf] 25)).alloc (.cells #[.int .i64 o.kind, .int .i64 o.flags, .int .i64 o.stream, .slice ao o.pay.length co] 25)) (.slice ab zs.length cb) zs := ((hb.alloc _).alloc _).alloc _
  have F0 : Bx (((w.alloc (.cells #[.int .i64 f.kind, .int .i64 f.flags, .int .i64 f.stream, .slice af f.pay.length cf, .int .i64 o.kind, .int .i64 o.flags, .int .i64 o.stream, .slice ao o.pay.length co] 26)).alloc (.cells #[.int .i64 f.kind, .int .i64 f.flags, .int .i64 f.stream, .slice af f.pay.length cf] 25)).alloc (.cells #[.int .i64 o.kind, .int .i64 o.flags, .int .i64 o.stream, .slice ao o.pay.length co] 25)) (w.heap.size + 1) 25 f (.slice af f.pay.length cf) := (Below.heap_alloc _ _ _ (by simp)).trans (heap_alloc2_new _ _ _)
  have O0 : Bx (((w.alloc (.cells #[.int .i64 f.kind, .int .i64 f.flags, .int .i64 f.stream, .slice af f.pay.length cf, .int .i64 o.kind, .int .i64 o.flags, .int .i64 o.stream, .slice ao o.pay.length co] 26)).alloc (.cells #[.int .i64 f.kind, .int .i64 f.flags, .int .i64 f.stream, .slice af f.pay.length cf] 25)).alloc (.cells #[.int .i64 o.kind, .int .i64 o.flags, .int .i64 o.stream, .slice ao o.pay.length co] 25)) (w.heap.size + 1 + 1) 25 o (.slice ao o.pay.length co) := by
    have := heap_alloc_new ((w.alloc (.cells #[.int .i64 f.kind, .int .i64 f.flags, .int .i64 f.stream, .slice af f.pay.length cf, .int .i64 o.kind, .int .i64 o.flags, .int .i64 o.stream, .slice ao o.pay.length co] 26)).alloc (.cells #[.int .i64 f.kind, .int .i64 f.flags, .int .i64 f.stream, .slice af f.pay.length cf] 25)) (.cells #[.int .i64 o.kind, .int .i64 o.flags, .int .i64 o.stream, .slice ao o.pay.length co] 25)
    simpa [Bx] using this
  obtain ⟨W0, hW0⟩ : ∃ W0, (((w.alloc (.cells #[.int .i64 f.kind, .int .i64 f.flags, .int .i64 f.stream, .slice af f.pay.length cf, .int .i64 o.kind, .int .i64 o.flags, .int .i64 o.stream, .slice ao o.pay.length co] 26)).alloc (.cells #[.int .i64 f.kind, .int .i64 f.flags, .int .i64 f.stream, .slice af f.pay.length cf] 25)).alloc (.cells #[.int .i64 o.kind, .int .i64 o.flags, .int .i64 o.stream, .slice ao o.pay.length co] 25)) = W0 := ⟨_, rfl⟩
  rw [hW0] at hB0 hf0 ho0 hb0 F0 O0 ⊢
  clear hW0 hf ho hb
  refine (encode_any _ f _ ⟨_, rfl, hf0⟩).mono ?_
  rintro e w1 ⟨vx, rfl, hx, hb1⟩
  have hf1 := hf0.below hb1
  have F1 := F0.below hb1
  have c0 := F1.c0
  have c1 := F1.c1
  have c2 := F1.c2
  have c3 := F1.c3
  go_wp2_with fail
  clear c0 c1 c2 c3
  refine (refEncode_any _ f _ ⟨_, rfl, hf1⟩).mono ?_
  rintro e w2 ⟨vy, rfl, hy, hb2⟩
  have hx2 := hx.below hb2
  have hB2 := hB0.trans ((hb1.trans (hb2.mono hb1.size)).mono hB0.size)
  have h02 := hb1.trans (hb2.mono hb1.size)
  clear hx hb1 hb2 hf1 F1
  go_wp2_with fail
  refine (same_any _ _ _ _ _ hx2 hy).mono ?_
  rintro e w3 ⟨rfl, n3, rfl⟩
  rw [decide_eq_true rfl]
  go_wp2_with fail
  have hB3 := below_drewN hB2 n3
  have h03 := below_drewN h02 n3
  have hf3 := hf0.below h03
  have ho3 := ho0.below h03
  have hb3 := hb0.below h03
  have F3 := F0.below h03
  have O3 := O0.below h03
  obtain ⟨W3, hW3⟩ : ∃ W3, w2.drewN n3 = W3 := ⟨_, rfl⟩
  rw [hW3] at hB3 hf3 ho3 hb3 F3 O3 ⊢
  clear hW3 h03 h02 hB2 hx2 hy hB0 hf0 ho0 hb0 F0 O0
  obtain ⟨E, hE⟩ : ∃ E, encE f = E := ⟨_, rfl⟩
  rw [hE]
  clear hE
  refine wp_region_quiet (C := fun w' => Below W3.heap.size W3 w') (by kernel_rfl) (by kernel_rfl) (Below.refl _ _).drew ?_
  refine quiet_take (.bool true) rfl (quiet_pure (fun w => rfl)) ?_
  simp only [Act.put, List.setIfInBounds_toArray, List.set_cons_zero, List.set_cons_succ]
  refine quiet_take (.bool false) rfl (quiet_pure (fun w => rfl)) ?_
  simp only [Act.put, List.setIfInBounds_toArray, List.set_cons_zero, List.set_cons_succ]
  refine quiet_take (.bool false) rfl (quiet_pure (fun w => rfl)) ?_
  simp only [Act.put, List.setIfInBounds_toArray, List.set_cons_zero, List.set_cons_succ]
  refine quiet_take (.int .i64 E) rfl (quiet_pure (fun w => rfl)) ?_
  simp only [Act.put, List.setIfInBounds_toArray, List.set_cons_zero, List.set_cons_succ]
  refine quiet_take (.int .i64 E) rfl (quiet_pure (fun w => rfl)) ?_
  simp only [Act.put, List.setIfInBounds_toArray, List.set_cons_zero, List.set_cons_succ]
  refine quiet_take (.bool false) rfl (quiet_pure (fun w => by simp [go_sem])) ?_
  simp only [Act.put, List.setIfInBounds_toArray, List.set_cons_zero, List.set_cons_succ]
  refine quiet_take (.bool false) rfl (quiet_pure (fun w => rfl)) ?_
  simp only [Act.put, List.setIfInBounds_toArray, List.set_cons_zero, List.set_cons_succ]
  refine quiet_take (.bool false) rfl (quiet_pure (fun w => rfl)) ?_
  simp only [Act.put, List.setIfInBounds_toArray, List.set_cons_zero, List.set_cons_succ]
  refine quiet_take _ rfl (quiet_load (.tmp 7) (w.heap.size + 1) f _ rfl rfl fun w hw => F3.below hw) ?_
  simp only [Act.put, List.setIfInBounds_toArray, List.set_cons_zero, List.set_cons_succ]
  refine quiet_take (.bool (decide f.right)) rfl (quiet_call 9 _ _ rfl [.agg #[.int .i64 f.kind, .int .i64 f.flags, .int .i64 f.stream, .slice af f.pay.length cf]] rfl (enters_of Try.func9 (by kernel_rfl) rfl) fun w hw => (right_any _ f w ⟨_, rfl, hf3.below hw⟩).mono fun e w' ⟨he, hb⟩ => ⟨he, Below.trans hw (hb.mono (Below.size hw))⟩) ?_
  simp only [Act.put, List.setIfInBounds_toArray, List.set_cons_zero, List.set_cons_succ]
  refine quiet_take _ rfl (quiet_load (.tmp 7) (w.heap.size + 1) f _ rfl rfl fun w hw => F3.below hw) ?_
  simp only [Act.put, List.setIfInBounds_toArray, List.set_cons_zero, List.set_cons_succ]
  refine quiet_take (.bool (decide f.right)) rfl (quiet_call 10 _ _ rfl [.agg #[.int .i64 f.kind, .int .i64 f.flags, .int .i64 f.stream, .slice af f.pay.length cf]] rfl (enters_of Try.func10 (by kernel_rfl) rfl) fun w hw => (refRight_any _ f w ⟨_, rfl, hf3.below hw⟩).mono fun e w' ⟨he, hb⟩ => ⟨he, Below.trans hw (hb.mono (Below.size hw))⟩) ?_
  simp only [Act.put, List.setIfInBounds_toArray, List.set_cons_zero, List.set_cons_succ]
  refine quiet_take (.bool false) rfl (quiet_pure (fun w => by simp [go_sem])) ?_
  simp only [Act.put, List.setIfInBounds_toArray, List.set_cons_zero, List.set_cons_succ]
  refine quiet_take (.bool false) rfl (quiet_pure (fun w => rfl)) ?_
  simp only [Act.put, List.setIfInBounds_toArray, List.set_cons_zero, List.set_cons_succ]
  refine quiet_take (.bool false) rfl (quiet_pure (fun w => rfl)) ?_
  simp only [Act.put, List.setIfInBounds_toArray, List.set_cons_zero, List.set_cons_succ]
  refine quiet_take _ rfl (quiet_load (.tmp 7) (w.heap.size + 1) f _ rfl rfl fun w hw => F3.below hw) ?_
  simp only [Act.put, List.setIfInBounds_toArray, List.set_cons_zero, List.set_cons_succ]
  refine quiet_take _ rfl (quiet_load (.tmp 8) (w.heap.size + 1 + 1) o _ rfl rfl fun w hw => O3.below hw) ?_
  simp only [Act.put, List.setIfInBounds_toArray, List.set_cons_zero, List.set_cons_succ]
  refine quiet_take (.bool (decide (f = o))) rfl (quiet_call 11 _ _ rfl [.agg #[.int .i64 f.kind, .int .i64 f.flags, .int .i64 f.stream, .slice af f.pay.length cf], .agg #[.int .i64 o.kind, .int .i64 o.flags, .int .i64 o.stream, .slice ao o.pay.length co]] rfl (enters_of Try.func11 (by kernel_rfl) rfl) fun w hw => (same_frame _ _ f o w ⟨_, rfl, hf3.below hw⟩ ⟨_, rfl, ho3.below hw⟩).mono fun e w' ⟨he, hb⟩ => ⟨he, Below.trans hw (hb.mono (Below.size hw))⟩) ?_
  simp only [Act.put, List.setIfInBounds_toArray, List.set_cons_zero, List.set_cons_succ]
  refine quiet_take _ rfl (quiet_load (.tmp 7) (w.heap.size + 1) f _ rfl rfl fun w hw => F3.below hw) ?_
  simp only [Act.put, List.setIfInBounds_toArray, List.set_cons_zero, List.set_cons_succ]
  refine quiet_take _ rfl (quiet_load (.tmp 8) (w.heap.size + 1 + 1) o _ rfl rfl fun w hw => O3.below hw) ?_
  simp only [Act.put, List.setIfInBounds_toArray, List.set_cons_zero, List.set_cons_succ]
  refine quiet_take (.bool (decide (f = o))) rfl (quiet_call 12 _ _ rfl [.agg #[.int .i64 f.kind, .int .i64 f.flags, .int .i64 f.stream, .slice af f.pay.length cf], .agg #[.int .i64 o.kind, .int .i64 o.flags, .int .i64 o.stream, .slice ao o.pay.length co]] rfl (enters_of Try.func12 (by kernel_rfl) rfl) fun w hw => (refSame_frame _ _ f o w ⟨_, rfl, hf3.below hw⟩ ⟨_, rfl, ho3.below hw⟩).mono fun e w' ⟨he, hb⟩ => ⟨he, Below.trans hw (hb.mono (Below.size hw))⟩) ?_
  simp only [Act.put, List.setIfInBounds_toArray, List.set_cons_zero, List.set_cons_succ]
  refine quiet_take (.bool false) rfl (quiet_pure (fun w => by simp [go_sem])) ?_
  simp only [Act.put, List.setIfInBounds_toArray, List.set_cons_zero, List.set_cons_succ]
  refine quiet_take (.bool false) rfl (quiet_pure (fun w => rfl)) ?_
  simp only [Act.put, List.setIfInBounds_toArray, List.set_cons_zero, List.set_cons_succ]
  refine wpQuiet_nil fun w4 hb4 => ?_
  have hB4 := hB3.trans (Below.mono hb4 hB3.size)
  have hb4' := hb3.below hb4
  clear hb4 hB3 hf3 ho3 hb3 F3 O3
  go_wp2_with fail
  obtain ⟨F, hF⟩ : ∃ F, nextF zs most = F := ⟨_, rfl⟩
  obtain ⟨N, hN⟩ : ∃ N, nextN zs most = N := ⟨_, rfl⟩
  obtain ⟨G, hG⟩ : ∃ G, nextE zs most = G := ⟨_, rfl⟩
  refine (next_any _ zs most _ hb4').mono ?_
  rintro e w5 ⟨fv, rfl, ⟨p5, rfl, hp5, _⟩, hb5⟩
  have hb5' := hb4'.below hb5
  have hB5 := hB4.trans (hb5.mono hB4.size)
  clear hb4' hB4 hb5
  rw [hF] at hp5
  rw [hF, hN, hG]
  obtain ⟨a5, k5, rfl, _⟩ := id hp5
  go_wp2_with fail
  have hB6 := hB5.alloc hB5.size (.cells #[.int .i64 F.kind, .int .i64 F.flags, .int .i64 F.stream, .slice a5 F.pay.length k5] 25)
  have hb6' := hb5'.alloc (.cells #[.int .i64 F.kind, .int .i64 F.flags, .int .i64 F.stream, .slice a5 F.pay.length k5] 25)
  have hp6 := hp5.alloc (.cells #[.int .i64 F.kind, .int .i64 F.flags, .int .i64 F.stream, .slice a5 F.pay.length k5] 25)
  have X6 := Bx.new w5 25 F (.slice a5 F.pay.length k5)
  clear hB5 hb5' hp5
  refine (refNext_any _ zs most _ hb6').mono ?_
  rintro e w7 ⟨fv, rfl, ⟨p7, rfl, hp7, _⟩, hb7⟩
  have hb7' := hb6'.below hb7
  have hB7 := hB6.trans (hb7.mono hB6.size)
  have hq7 := hp6.below hb7
  have X7 := X6.below hb7
  clear hb6' hB6 hb7 hp6 X6
  rw [hF] at hp7
  rw [hF, hN, hG]
  clear hF hN hG
  obtain ⟨a7, k7, rfl, _⟩ := id hp7
  have x0 := X7.c0
  have x1 := X7.c1
  have x2 := X7.c2
  have x3 := X7.c3
  have hlt := X7.lt
  have ne1 : ¬ w5.heap.size = w7.heap.size := by omega
  have ne2 : ¬ w7.heap.size = w5.heap.size := by omega
  go_wp2_with fail
  have hB8 := hB7.alloc hB7.size (.cells #[.int .i64 F.kind, .int .i64 F.flags, .int .i64 F.stream, .slice a7 F.pay.length k7] 25)
  have hb8 := hb7'.alloc (.cells #[.int .i64 F.kind, .int .i64 F.flags, .int .i64 F.stream, .slice a7 F.pay.length k7] 25)
  refine (refSame_frame _ _ F F _ ⟨_, rfl, hq7.alloc (.cells #[.int .i64 F.kind, .int .i64 F.flags, .int .i64 F.stream, .slice a7 F.pay.length k7] 25)⟩ ⟨_, rfl, hp7.alloc (.cells #[.int .i64 F.kind, .int .i64 F.flags, .int .i64 F.stream, .slice a7 F.pay.length k7] 25)⟩).mono ?_
  rintro e w9 ⟨rfl, hc9⟩
  rw [decide_eq_true rfl]
  have hB9 := hB8.trans (hc9.mono hB8.size)
  have hb9 := hb8.below hc9
  clear hB7 hb7' hq7 hp7 X7 x0 x1 x2 x3 hlt ne1 ne2 hB8 hb8 hc9
  go_wp2_with fail
  refine (all_any _ zs most _ hb9 (by omega)).mono ?_
  rintro e w10 ⟨vl, ps, rfl, hps, hsl, hc10⟩
  have hB10 := hB9.trans (hc10.mono hB9.size)
  have hb10 := hb9.below hc10
  clear hB9 hb9 hc10
  obtain ⟨A2, hA2⟩ : ∃ A2, (allOf most zs).2.1 = A2 := ⟨_, rfl⟩
  obtain ⟨A3, hA3⟩ : ∃ A3, (allOf most zs).2.2 = A3 := ⟨_, rfl⟩
  rw [hA2, hA3]
  obtain ⟨al, kl, rfl, _⟩ := id hsl.2
  go_wp2_with fail
  refine (refAll_any _ zs most _ hb10 (by omega)).mono ?_
  rintro e w11 ⟨vm, qs, rfl, hqs, hsm, hc11⟩
  have hB11 := hB10.trans (hc11.mono hB10.size)
  have hsl' := hsl.below hc11
  clear hB10 hb10 hc11 hsl
  rw [hA2, hA3]
  clear hA2 hA3
  obtain ⟨am, km, rfl, _⟩ := id hsm.2
  go_wp2_with fail
  refine (refList_any _ _ ps qs _ hsl' hsm).mono ?_
  rintro e w12 ⟨rfl, hc12⟩
  rw [decide_eq_true (hps.trans hqs.symm)]
  have hB12 := hB11.trans (hc12.mono hB11.size)
  clear hB11 hc12 hsl' hsm hps hqs
  go_wp2_with fail
  refine (alive02 _).mono ?_
  rintro e w13 ⟨rfl, hc13⟩
  have hB13 := hB12.trans (hc13.mono hB12.size)
  clear hB12 hc13
  go_wp2_with fail
  go_ret
  exact ⟨rfl, hB13⟩

theorem tells02_any (f o : Fr) (pf po b : Value) (zs : List Int) (most : Int) (w : World) (hf : Sl .u8 w pf f.pay) (ho : Sl .u8 w po o.pay) (hb : Sl .u8 w b zs) :
    Calls Try.prog 3 #[.agg #[.int .i64 f.kind, .int .i64 f.flags, .int .i64 f.stream, pf, .int .i64 o.kind, .int .i64 o.flags, .int .i64 o.stream, po], b, .int .i64 most] w fun e w' => e = .returned (.bool true) ∧ Below w.heap.size w w' := by
  by_cases h : 2000 < zs.length ∨ 2000 < f.pay.length ∨ 2000 < o.pay.length
  · exact tells_long f o pf po b zs most w hf ho hb h
  · exact tells02 f o pf po b zs most w hf ho hb (by omega) (by omega) (by omega)
end Go.Proofs.Ytpnpbdekeockcaa
