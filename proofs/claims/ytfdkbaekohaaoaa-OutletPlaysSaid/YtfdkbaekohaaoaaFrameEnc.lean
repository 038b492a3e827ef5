
/-
  frame.Encode.
-/
import Derived.Test.YtfdkbaekohaaoaaFrameWalks
import Derived.Test.YtfdkbaekohaaoaaOwn
namespace Go.Proofs.Ytfdkbaekohaaoaa
open Go.RowKit

theorem encode_no (v : Value) (f : Fr) (w : World) (h : FrV w v f) (hr : ¬ f.right) : Calls Try.prog 20 #[v] w fun e w' => e = .returned (.tuple #[.slice none 0 0, .int .i64 1]) ∧ Below w.heap.size w w' := by
  obtain ⟨pv, rfl, hp⟩ := h
  have HR := Lib.hid (decide_eq_false hr)
  clear hr
  go_enter Try.func20, Try.ntmps20
  go_wp2_with fail
  refine (right_any _ f _ ⟨pv, rfl, hp.alloc _⟩).mono ?_
  rintro e w1 ⟨rfl, hb1⟩
  rw [HR.out]
  go_wp2_with fail
  go_ret2
  exact ⟨rfl, ((Below.refl _ _).alloc (Nat.le_refl _) _).trans (hb1.mono (by simp))⟩

theorem part0 (a b c d : Int) (w : World) : (Instr.index 59 (.agg #[.int .i64 a, .int .i64 3, .int .i64 b, .int .i64 1, .int .i64 c, .int .i64 1, .int .i64 d, .int .i64 4]) (.int .i64 0)).run Try.prog w = .ok (.agg #[.int .i64 a, .int .i64 3]) w := by kernel_rfl
theorem part1 (a b c d : Int) (w : World) : (Instr.index 59 (.agg #[.int .i64 a, .int .i64 3, .int .i64 b, .int .i64 1, .int .i64 c, .int .i64 1, .int .i64 d, .int .i64 4]) (.int .i64 1)).run Try.prog w = .ok (.agg #[.int .i64 b, .int .i64 1]) w := by kernel_rfl
theorem part2 (a b c d : Int) (w : World) : (Instr.index 59 (.agg #[.int .i64 a, .int .i64 3, .int .i64 b, .int .i64 1, .int .i64 c, .int .i64 1, .int .i64 d, .int .i64 4]) (.int .i64 2)).run Try.prog w = .ok (.agg #[.int .i64 c, .int .i64 1]) w := by kernel_rfl
theorem part3 (a b c d : Int) (w : World) : (Instr.index 59 (.agg #[.int .i64 a, .int .i64 3, .int .i64 b, .int .i64 1, .int .i64 c, .int .i64 1, .int .i64 d, .int .i64 4]) (.int .i64 3)).run Try.prog w = .ok (.agg #[.int .i64 d, .int .i64 4]) w := by kernel_rfl

theorem encode_yes (v : Value) (f : Fr) (w : World) (h : FrV w v f) (hr : f.right) : Calls Try.prog 20 #[v] w fun e w' => ∃ v', e = .returned (.tuple #[v', .int .i64 0]) ∧ w'.ownsRow w.heap.size 5 1 v' f.enc.length (f.enc.map (Value.int .u8)) ∧ Below w.heap.size w w' := by
  obtain ⟨pv, rfl, hp⟩ := h
  have HR := Lib.hid (decide_eq_true hr)
  have hfit := hp.fit
  obtain ⟨r1, r2, r3, r4, r5, r6, r7⟩ := hr
  obtain ⟨a, cap, rfl, _⟩ := id hp
  obtain ⟨i0, hi, hz0, hz1, hz2⟩ := info_parts Try.info5
  go_enter Try.func20, Try.ntmps20
  go_wp2_with fail
  have bx := Bx.new w 40 f (.slice a f.pay.length cap)
  have hp0 := hp.alloc (.cells #[.int .i64 f.kind, .int .i64 f.flags, .int .i64 f.stream, .slice a f.pay.length cap] 40)
  have hB0 := (Below.refl _ w).alloc (Nat.le_refl _) (.cells #[.int .i64 f.kind, .int .i64 f.flags, .int .i64 f.stream, .slice a f.pay.length cap] 40)
  obtain ⟨W0, hW0⟩ : ∃ W0, w.alloc (.cells #[.int .i64 f.kind, .int .i64 f.flags, .int .i64 f.stream, .slice a f.pay.length cap] 40) = W0 := ⟨_, rfl⟩
  rw [hW0] at bx hp0 hB0 ⊢
  clear hW0
  refine (right_any _ f _ ⟨_, rfl, hp0⟩).mono ?_
  rintro e w1 ⟨rfl, hB1⟩
  rw [HR.out]
  have c0 := (bx.below hB1).c0
  have c1 := (bx.below hB1).c1
  have c2 := (bx.below hB1).c2
  have c3 := (bx.below hB1).c3
  have hz1' := hB1.size
  go_wp2_with (at_make; refine wpList_make_own _ rfl _ _ 27 rfl W0.heap.size 5 i0 (.int .u8 0) 1 Try.underlying27 hi hz0 hz1 .i64 .i64 _ (9 + f.pay.length) rfl rfl (by omega) (by rw [hz2]; omega) (by unfold maxLen; omega) hB1.size ?_; intro w2 hown hgrow; have hB2 := hB1.grown hgrow hz1' (fun k h => by simp at h); have bx2 := bx.below hB2; have d0 := bx2.c0; have d1 := bx2.c1; have d2 := bx2.c2; have d3 := bx2.c3)
  have i0 := part0 f.pay.length f.kind f.flags f.stream
  have i1 := part1 f.pay.length f.kind f.flags f.stream
  have i2 := part2 f.pay.length f.kind f.flags f.stream
  have i3 := part3 f.pay.length f.kind f.flags f.stream
  have own0 : w2.ownsRow W0.heap.size 5 1 (Value.slice (some { block := w1.heap.size, off := 0 }) 0 (9 + f.pay.length)) 0 (([] : List Int).map (Value.int .u8)) := hown
  clear c0 c1 c2 c3 d0 d1 d2 d3 hown hgrow bx2 hz1' hB1
  refine wp_loop_rounds 5 ?_
  rw [rounds_succ]
  go_wp2_with fail
  refine (put_yes (f.pay.length : Int) 3 _ (by decide) (by decide) (by omega) (by simp; omega)).mono ?_
  rintro e x0 ⟨v0, rfl, hx0, hb0⟩
  have hA0 := hB2.trans ((((Below.refl _ _).alloc (Nat.le_refl _) _).trans (hb0.mono (by simp))).mono hB2.size)
  have hO0 := owned_below own0 (((Below.refl _ _).alloc (Nat.le_refl _) _).trans (hb0.mono (by simp)))
  clear hb0 own0 hB2
  go_wp2_with (at_builtin; refine app_ints rfl (.tmp 42) (.tmp 43) 27 rfl W0.heap.size 5 .u8 1 Try.underlying27 Try.info5 _ _ ([] : List Int) rfl hO0 _ _ rfl hx0 (by simp [putL_length]) (by unfold maxLen; simp [putL_length]) hA0.size ?_; intro u0 y0 own1 hc0 hg0)
  have hB3 := hA0.trans hc0
  clear hO0 hA0 hc0 hg0 hx0
  rw [rounds_succ]
  go_wp2_with fail
  refine (put_yes f.kind 1 _ (by decide) (by decide) (by omega) (by simp; omega)).mono ?_
  rintro e x1 ⟨v1, rfl, hx1, hb1⟩
  have hA1 := hB3.trans ((((Below.refl _ _).alloc (Nat.le_refl _) _).trans (hb1.mono (by simp))).mono hB3.size)
  have hO1 := owned_below own1 (((Below.refl _ _).alloc (Nat.le_refl _) _).trans (hb1.mono (by simp)))
  clear hb1 own1 hB3
  go_wp2_with (at_builtin; refine app_ints rfl (.tmp 42) (.tmp 43) 27 rfl W0.heap.size 5 .u8 1 Try.underlying27 Try.info5 _ _ (([] : List Int) ++ putL (f.pay.length : Int) (3 : Int).toNat) rfl hO1 _ _ rfl hx1 (by simp [putL_length]) (by unfold maxLen; simp [putL_length]) hA1.size ?_; intro u1 y1 own2 hc1 hg1)
  have hB4 := hA1.trans hc1
  clear hO1 hA1 hc1 hg1 hx1
  rw [rounds_succ]
  go_wp2_with fail
  refine (put_yes f.flags 1 _ (by decide) (by decide) (by omega) (by simp; omega)).mono ?_
  rintro e x2 ⟨v2, rfl, hx2, hb2⟩
  have hA2 := hB4.trans ((((Below.refl _ _).alloc (Nat.le_refl _) _).trans (hb2.mono (by simp))).mono hB4.size)
  have hO2 := owned_below own2 (((Below.refl _ _).alloc (Nat.le_refl _) _).trans (hb2.mono (by simp)))
  clear hb2 own2 hB4
  go_wp2_with (at_builtin; refine app_ints rfl (.tmp 42) (.tmp 43) 27 rfl W0.heap.size 5 .u8 1 Try.underlying27 Try.info5 _ _ ((([] : List Int) ++ putL (f.pay.length : Int) (3 : Int).toNat) ++ putL f.kind (1 : Int).toNat) rfl hO2 _ _ rfl hx2 (by simp [putL_length]) (by unfold maxLen; simp [putL_length]) hA2.size ?_; intro u2 y2 own3 hc2 hg2)
  have hB5 := hA2.trans hc2
  clear hO2 hA2 hc2 hg2 hx2
  rw [rounds_succ]
  go_wp2_with fail
  refine (put_yes f.stream 4 _ (by decide) (by decide) (by omega) (by simp; omega)).mono ?_
  rintro e x3 ⟨v3, rfl, hx3, hb3⟩
  have hA3 := hB5.trans ((((Below.refl _ _).alloc (Nat.le_refl _) _).trans (hb3.mono (by simp))).mono hB5.size)
  have hO3 := owned_below own3 (((Below.refl _ _).alloc (Nat.le_refl _) _).trans (hb3.mono (by simp)))
  clear hb3 own3 hB5
  go_wp2_with (at_builtin; refine app_ints rfl (.tmp 42) (.tmp 43) 27 rfl W0.heap.size 5 .u8 1 Try.underlying27 Try.info5 _ _ (((([] : List Int) ++ putL (f.pay.length : Int) (3 : Int).toNat) ++ putL f.kind (1 : Int).toNat) ++ putL f.flags (1 : Int).toNat) rfl hO3 _ _ rfl hx3 (by simp [putL_length]) (by unfold maxLen; simp [putL_length]) hA3.size ?_; intro u3 y3 own4 hc3 hg3)
  have hB6 := hA3.trans hc3
  clear hO3 hA3 hc3 hg3 hx3
  rw [rounds_succ]
  have e0 := (bx.below hB6).c3
  have hp6 := hp0.below hB6
  go_wp2_with (at_builtin; refine app_ints rfl (.tmp 46) (.tmp 48) 27 rfl W0.heap.size 5 .u8 1 Try.underlying27 Try.info5 _ _ ((((([] : List Int) ++ putL (f.pay.length : Int) (3 : Int).toNat) ++ putL f.kind (1 : Int).toNat) ++ putL f.flags (1 : Int).toNat) ++ putL f.stream (4 : Int).toNat) rfl own4 _ _ rfl hp6 (by simp [putL_length]; omega) (by unfold maxLen; simp [putL_length]; omega) hB6.size ?_; intro u5 y5 own5 hc5 hg5)
  go_ret2
  refine ⟨_, rfl, ?_, hB0.trans ((hB6.trans hc5).mono hB0.size)⟩
  have := owned_mono own5 hB0.size
  have el : ((((([] : List Int) ++ putL (f.pay.length : Int) (3 : Int).toNat) ++ putL f.kind (1 : Int).toNat) ++ putL f.flags (1 : Int).toNat) ++ putL f.stream (4 : Int).toNat) ++ f.pay = f.enc := by
    simp only [Fr.enc, List.nil_append, show (3 : Int).toNat = 3 from rfl, show (1 : Int).toNat = 1 from rfl, show (4 : Int).toNat = 4 from rfl, putL_one r1 r2, putL_one r3 r4, List.append_assoc, List.cons_append]
  rw [el] at this
  rw [Fr.enc_length]
  have hl : f.enc.length = 9 + f.pay.length := f.enc_length
  simpa [putL_length, Nat.add_assoc] using this

end Go.Proofs.Ytfdkbaekohaaoaa
