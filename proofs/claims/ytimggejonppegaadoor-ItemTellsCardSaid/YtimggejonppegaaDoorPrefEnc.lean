
/-
  prefix.Encode.
-/
import Derived.Test.YtimggejonppegaaDoorPrefWalks
import Derived.Test.YtimggejonppegaaDoorSame
namespace Go.Proofs.YtimggejonppegaaDoor
open Go.RowKit

/-- there are such a number, such a prefix, and such bits above it -/
def encOk (n b a : Int) : Prop := (0 ≤ n ∧ n ≤ 16777215) ∧ (1 ≤ b ∧ b ≤ 8) ∧ (0 ≤ a ∧ a ≤ 255 ∧ a % (fullP b + 1) = 0)
instance (n b a : Int) : Decidable (encOk n b a) := by unfold encOk; infer_instance
theorem above_bound {a b : Int} (h1 : 1 ≤ b) (h8 : b ≤ 8) (h2 : a ≤ 255) (h : a % (fullP b + 1) = 0) : a + fullP b ≤ 255 := by
  rcases bits_cases h1 h8 with rfl | rfl | rfl | rfl | rfl | rfl | rfl | rfl <;> (simp only [fullP, Int.reduceToNat, Int.reducePow, Int.reduceSub, Int.reduceAdd] at h ⊢; omega)
theorem encOk.fit {n b a : Int} (h : encOk n b a) : Fit .u8 (encP (fullP b) a n) :=
  encP_fit _ _ _ (by have := fullP_bound h.2.1.1 h.2.1.2; omega) h.2.2.1 (above_bound h.2.1.1 h.2.1.2 h.2.2.2.1 h.2.2.2.2) h.1.1 h.1.2

theorem prefEnc_no (n b a : Int) (w : World) (h : ¬ encOk n b a) :
    Calls Tryd.prog 14 #[.int .i64 n, .int .i64 b, .int .i64 a] w fun e w' => e = .returned (.tuple #[.slice none 0 0, .int .i64 1]) ∧ w = w' := by
  by_cases h1 : 0 ≤ n ∧ n ≤ 16777215
  · by_cases h2 : 1 ≤ b ∧ b ≤ 8
    · have h3 : ¬ (0 ≤ a ∧ a ≤ 255 ∧ a % (fullP b + 1) = 0) := fun h3 => h ⟨h1, h2, h3⟩
      have D1 := Lib.hid (decide_eq_true h1)
      have D2 := Lib.hid (decide_eq_true h2)
      have D3 := Lib.hid (decide_eq_false h3)
      obtain ⟨b1, b8⟩ := h2
      clear h h1 h3
      go_enter Tryd.func14, Tryd.ntmps14
      go_wp2_with (first
        | (go_at_call 29; refine (isNumber_any _ _).mono ?_; rintro e w' ⟨rfl, rfl⟩; rw [D1.out])
        | (go_at_call 30; refine (isPrefix_any _ _).mono ?_; rintro e w' ⟨rfl, rfl⟩; rw [D2.out])
        | (go_at_call 31; refine (isAbove_any _ _ _ (by omega) (by omega)).mono ?_; rintro e w' ⟨rfl, rfl⟩; rw [D3.out]))
      go_ret2
      exact ⟨rfl, rfl⟩
    · have D1 := Lib.hid (decide_eq_true h1)
      have D2 := Lib.hid (decide_eq_false h2)
      clear h h1 h2
      go_enter Tryd.func14, Tryd.ntmps14
      go_wp2_with (first
        | (go_at_call 29; refine (isNumber_any _ _).mono ?_; rintro e w' ⟨rfl, rfl⟩; rw [D1.out])
        | (go_at_call 30; refine (isPrefix_any _ _).mono ?_; rintro e w' ⟨rfl, rfl⟩; rw [D2.out]))
      go_ret2
      exact ⟨rfl, rfl⟩
  · have D1 := Lib.hid (decide_eq_false h1)
    clear h h1
    go_enter Tryd.func14, Tryd.ntmps14
    go_wp2_with (go_at_call 29; refine (isNumber_any _ _).mono ?_; rintro e w' ⟨rfl, rfl⟩; rw [D1.out])
    go_ret2
    exact ⟨rfl, rfl⟩

theorem prefEnc_own (n b a : Int) (w : World) (h : encOk n b a) :
    Calls Tryd.prog 14 #[.int .i64 n, .int .i64 b, .int .i64 a] w fun e w' => ∃ v, e = .returned (.tuple #[v, .int .i64 0]) ∧ w'.ownsRow w.heap.size 5 1 v (encP (fullP b) a n).length ((encP (fullP b) a n).map (Value.int .u8)) ∧ Below w.heap.size w w' := by
  obtain ⟨h1, h2, h3⟩ := h
  have hab := above_bound h2.1 h2.2 h3.2.1 h3.2.2
  have D1 := Lib.hid (decide_eq_true h1)
  have D2 := Lib.hid (decide_eq_true h2)
  have D3 := Lib.hid (decide_eq_true h3)
  have hm := fullP_bound h2.1 h2.2
  obtain ⟨b1, b8⟩ := h2
  obtain ⟨n0, n1⟩ := h1
  have a0 := h3.1
  clear h3
  obtain ⟨m, hM⟩ : ∃ m, fullP b = m := ⟨_, rfl⟩
  have HM := Lib.hid hM
  rw [hM] at hab hm ⊢
  have D3' : Hid (decide (0 ≤ a ∧ a ≤ 255 ∧ a % (fullP b + 1) = 0) = true) := D3
  clear D3 hM
  by_cases hlt : n < m
  · have HE := Lib.hid (show encP m a n = [a + n] by rw [encP, if_pos hlt])
    go_enter Tryd.func14, Tryd.ntmps14
    go_wp2_with (first
        | (go_at_call 29; refine (isNumber_any _ _).mono ?_; rintro e w' ⟨rfl, rfl⟩; rw [D1.out])
        | (go_at_call 30; refine (isPrefix_any _ _).mono ?_; rintro e w' ⟨rfl, rfl⟩; rw [D2.out])
        | (go_at_call 32; refine (full_any _ _ (by omega) (by omega)).mono ?_; rintro e w' ⟨rfl, rfl⟩; rw [HM.out])
        | (go_at_call 31; refine (isAbove_any _ _ _ (by omega) (by omega)).mono ?_; rintro e w' ⟨rfl, rfl⟩; rw [D3'.out]))
    go_ret2
    rw [HE.out]
    exact ⟨_, rfl, owned_lit [a + n] (Nat.le_refl _) rfl rfl rfl (by simp [maxLen]), (Below.refl _ _).alloc (Nat.le_refl _) _⟩
  · have HE := Lib.hid (show encP m a n = [a + m] ++ grpL 4 (n - m) by rw [encP, if_neg hlt]; rfl)
    go_enter Tryd.func14, Tryd.ntmps14
    go_wp2_with (first
        | (go_at_call 29; refine (isNumber_any _ _).mono ?_; rintro e w' ⟨rfl, rfl⟩; rw [D1.out])
        | (go_at_call 30; refine (isPrefix_any _ _).mono ?_; rintro e w' ⟨rfl, rfl⟩; rw [D2.out])
        | (go_at_call 32; refine (full_any _ _ (by omega) (by omega)).mono ?_; rintro e w' ⟨rfl, rfl⟩; rw [HM.out])
        | (go_at_call 31; refine (isAbove_any _ _ _ (by omega) (by omega)).mono ?_; rintro e w' ⟨rfl, rfl⟩; rw [D3'.out]))
    all_goals
      go_loopw [9, 10] (fun v u wr => ∃ (out : List Int) (f : Nat) (r : Int), u = .int .i64 r ∧ wr.ownsRow w.heap.size 5 1 v out.length (out.map (Value.int .u8)) ∧ Hid (out ++ grpL f r = encP m a n) ∧ Hid (r < 128 * 128 ^ f) ∧ 0 ≤ r ∧ r ≤ 16777215 ∧ out.length + f ≤ 5 ∧ Below w.heap.size w wr) (fun _ u _ => (intOf u).toNat)
      case atStart =>
        refine ⟨[a + m], 4, n - m, ?_, ?_, HE.out.symm, (by show n - m < 128 * 128 ^ 4; omega), by omega, by omega, by simp, (Below.refl _ _).alloc (Nat.le_refl _) _⟩
        · first | rfl | (congr 1; omega)
        · have h0 : (w.alloc (.cells #[.int .u8 (a + m)] 5)).ownsRow w.heap.size 5 1 (.slice (some ⟨w.heap.size, 0, none⟩) 1 1) 1 ([a + m].map (Value.int .u8)) := owned_lit [a + m] (Nat.le_refl w.heap.size) rfl rfl rfl (by simp [maxLen])
          first | exact h0 | (have e : n = m := (by omega); subst e; exact h0)
      case round =>
        obtain ⟨out, f, r, rfl, hO, HQ, HR, r0, r1, hl, hB⟩ := hrel
        obtain ⟨ao, cap, rfl, _⟩ := owned_shape hO
        by_cases hr : r < 128
        · have d1 : decide (128 ≤ r) = false := decide_eq_false (by omega)
          have HG := Lib.hid (grpL_small (f := f) hr)
          have hz := hB.size
          go_wp2_with (at_builtin; refine app_ints rfl (.tmp 53) (.tmp 56) 24 rfl w.heap.size 5 .u8 1 Tryd.underlying24 Tryd.info5' _ out.length out rfl (hO.alloc _) _ [r] rfl (Sl.lit' [r] rfl rfl rfl (by intro z hz; rw [List.mem_singleton] at hz; subst hz; exact WalkArith.wf_u8 (by omega)) (by simp [maxLen])) (by simp; omega) (by simp [maxLen]; omega) (by simp; omega) ?_; intro v4 w4 hO4 hc4 hg4)
          go_ret2
          rw [← HQ.out, HG.out]
          exact ⟨_, rfl, by simpa using hO4, (hB.alloc hz _).trans hc4⟩
        · have d1 : decide (128 ≤ r) = true := decide_eq_true (by omega)
          obtain ⟨f, rfl⟩ : ∃ g, f = g + 1 := by
            cases f with
            | zero => have := HR.out; simp at this; omega
            | succ g => exact ⟨g, rfl⟩
          have HG := Lib.hid (grpL_great (f := f) (r := r) (by omega))
          have hz := hB.size
          go_wp2_with (at_builtin; refine app_ints rfl (.tmp 46) (.tmp 51) 24 rfl w.heap.size 5 .u8 1 Tryd.underlying24 Tryd.info5' _ out.length out rfl (hO.alloc _) _ [r % 128 + 128] rfl (Sl.lit' [r % 128 + 128] rfl rfl rfl (by intro z hz; rw [List.mem_singleton] at hz; subst hz; exact WalkArith.wf_u8 (by omega)) (by simp [maxLen])) (by simp; omega) (by simp [maxLen]; omega) (by simp; omega) ?_; intro v4 w4 hO4 hc4 hg4)
          go_roundw
          case rel =>
            refine ⟨out ++ [r % 128 + 128], f, r / 128, rfl, by simpa using hO4, ?_, ?_, by omega, by omega, by simp; omega, (hB.alloc hz _).trans hc4⟩
            · show _ = _
              rw [← HQ.out, HG.out, Int.add_comm]
              simp
            · show _ < _
              have h1 := HR.out
              rw [Int.pow_succ] at h1
              exact Int.ediv_lt_of_lt_mul (by omega) (by rw [Int.mul_comm _ 128] at h1; rw [Int.mul_comm _ 128]; exact h1)
          case measure => simp [intOf]; omega

end Go.Proofs.YtimggejonppegaaDoor
