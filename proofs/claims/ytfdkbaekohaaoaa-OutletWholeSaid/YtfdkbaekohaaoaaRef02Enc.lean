
/-
  The document's own Encode of layer 2.
-/
import Derived.Test.YtfdkbaekohaaoaaRef02
import Derived.Test.YtfdkbaekohaaoaaOwn
namespace Go.Proofs.Ytfdkbaekohaaoaa
open Go.RowKit

/-- the second row, which lies in its own block, is left by what is appended to the first -/
theorem own_src_kept {w2 w3 w4 : World} {B1 : Nat} {v2 v3 : Value} {n2 n3 : Nat} {e : TypeId} {xs ys : List Value} {o : Obj} (h3 : w3.ownsRow w2.heap.size e 1 v3 n3 ys) (h2 : w2.ownsRow B1 e 1 v2 n2 xs) (_ : Below w2.heap.size w2 w3)
    (hg : (w3.alloc o).grownBy w4 v2.ownBlock) : w4.ownsRow w2.heap.size e 1 v3 n3 ys := by
  refine owned_kept (h3.alloc o) hg fun g hg3 hg2 => ?_
  have := (h3.lt g hg3).1
  have := (h2.lt g hg2).2
  omega
theorem refEncode_no (v : Value) (f : Fr) (w : World) (h : FrV w v f) (hr : ¬ f.right) : Calls Try.prog 21 #[v] w fun e w' => e = .returned (.tuple #[.slice none 0 0, .int .i64 1]) ∧ Below w.heap.size w w' := by
  obtain ⟨pv, rfl, hp⟩ := h
  have HR := Lib.hid (decide_eq_false hr)
  clear hr
  go_enter Try.func21, Try.ntmps21
  go_wp2_with fail
  refine (refRight_any _ f _ ⟨pv, rfl, hp.alloc _⟩).mono ?_
  rintro e w1 ⟨rfl, hb1⟩
  rw [HR.out]
  go_wp2_with fail
  go_ret2
  exact ⟨rfl, ((Below.refl _ _).alloc (Nat.le_refl _) _).trans (hb1.mono (by simp))⟩

theorem refEncode_yes (v : Value) (f : Fr) (w : World) (h : FrV w v f) (hr : f.right) : Calls Try.prog 21 #[v] w fun e w' => ∃ v', e = .returned (.tuple #[v', .int .i64 0]) ∧ w'.ownsRow w.heap.size 5 1 v' f.enc.length (f.enc.map (Value.int .u8)) ∧ Below w.heap.size w w' := by
  obtain ⟨pv, rfl, hp⟩ := h
  have HR := Lib.hid (decide_eq_true hr)
  have hfit := hp.fit
  obtain ⟨r1, r2, r3, r4, r5, r6, r7⟩ := hr
  obtain ⟨a, cap, rfl, _⟩ := id hp
  go_enter Try.func21, Try.ntmps21
  go_wp2_with fail
  have bx := Bx.new w 40 f (.slice a f.pay.length cap)
  have hp0 := hp.alloc (.cells #[.int .i64 f.kind, .int .i64 f.flags, .int .i64 f.stream, .slice a f.pay.length cap] 40)
  have hB0 := (Below.refl _ w).alloc (Nat.le_refl _) (.cells #[.int .i64 f.kind, .int .i64 f.flags, .int .i64 f.stream, .slice a f.pay.length cap] 40)
  obtain ⟨W0, hW0⟩ : ∃ W0, w.alloc (.cells #[.int .i64 f.kind, .int .i64 f.flags, .int .i64 f.stream, .slice a f.pay.length cap] 40) = W0 := ⟨_, rfl⟩
  rw [hW0] at bx hp0 hB0 ⊢
  clear hW0
  refine (refRight_any _ f _ ⟨_, rfl, hp0⟩).mono ?_
  rintro e w1 ⟨rfl, hB1⟩
  rw [HR.out]
  have c3 := (bx.below hB1).c3
  go_wp2_with fail
  refine (refPut_own (f.pay.length : Int) 3 _ (by decide) (by decide) (by omega) (by simp; omega)).mono ?_
  rintro e w2 ⟨v2, rfl, hO2, hb2⟩
  clear c3
  have hB2 := hB1.trans (hb2.mono hB1.size)
  have c2 := (bx.below hB2).c2
  go_wp2_with fail
  refine (refPut_own f.stream 4 _ (by decide) (by decide) (by omega) (by simp; omega)).mono ?_
  rintro e w3 ⟨v3, rfl, hO3, hb3⟩
  clear c2
  have hB3 := hB2.trans (hb3.mono hB2.size)
  have c0 := (bx.below hB3).c0
  have c1 := (bx.below hB3).c1
  have hO3' := owned_mono (owned_below hO2 hb3) hB1.size
  have hI3 := Sl.of_own hO3 (putL_fit _ _) (by unfold maxLen; simp [putL_length])
  have hz3 := hB3.size
  have hp3 := hp0.below hB3
  have c3 := (bx.below hB3).c3
  go_wp2_with (first
    | (at_builtin; refine app_ints rfl (.tmp 26) (.tmp 33) 27 rfl W0.heap.size 5 .u8 1 Try.underlying27 Try.info5' _ _ (putL (f.pay.length : Int) (3 : Int).toNat) rfl (hO3'.alloc _) _ _ rfl (Sl.lit' [f.kind, f.flags] rfl rfl rfl (fit_bytes2 r1 r2 r3 r4) (by simp [maxLen])) (by simp [putL_length]) (by unfold maxLen; simp [putL_length]) (by simp; omega) ?_; intro v4 w4 hO4 hc4 hg4; have hB4 := (hB3.alloc hz3 _).trans hc4; have d3 := (bx.below hB4).c3; have hI4 := Sl.of_own (own_src_kept hO3 hO2 hb3 hg4) (putL_fit _ _) (by unfold maxLen; simp [putL_length]))
    | (at_builtin; (refine app_ints rfl (.tmp 35) (.tmp 36) 27 rfl W0.heap.size 5 .u8 1 Try.underlying27 Try.info5' _ _ (putL (f.pay.length : Int) (3 : Int).toNat ++ [f.kind, f.flags]) rfl hO4 _ _ rfl hI4 (by simp [putL_length]) (by unfold maxLen; simp [putL_length]) hB4.size ?_; intro v5 w5 hO5 hc5 hg5; have hB5 := hB4.trans hc5; have e3 := (bx.below hB5).c3; have hp5 := hp0.below hB5))
    | (at_builtin; (refine app_ints rfl (.tmp 38) (.tmp 40) 27 rfl W0.heap.size 5 .u8 1 Try.underlying27 Try.info5' _ _ ((putL (f.pay.length : Int) (3 : Int).toNat ++ [f.kind, f.flags]) ++ putL f.stream (4 : Int).toNat) rfl hO5 _ _ rfl hp5 (by simp [putL_length]; omega) (by unfold maxLen; simp [putL_length]; omega) hB5.size ?_; intro v6 w6 hO6 hc6 hg6)))
  go_ret2
  refine ⟨_, rfl, ?_, hB0.trans ((hB5.trans hc6).mono hB0.size)⟩
  have := owned_mono hO6 hB0.size
  have el : ((putL (f.pay.length : Int) (3 : Int).toNat ++ [f.kind, f.flags]) ++ putL f.stream (4 : Int).toNat) ++ f.pay = f.enc := by
    simp only [Fr.enc, show (3 : Int).toNat = 3 from rfl, show (4 : Int).toNat = 4 from rfl, List.append_assoc, List.cons_append, List.nil_append]
  rw [el] at this
  rw [Fr.enc_length]
  simpa [putL_length, Nat.add_assoc] using this

end Go.Proofs.Ytfdkbaekohaaoaa
