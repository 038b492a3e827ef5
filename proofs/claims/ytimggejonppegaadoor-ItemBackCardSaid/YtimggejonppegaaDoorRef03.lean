
/-
  The document's own answers of layer 3.
-/
import Derived.Test.YtimggejonppegaaDoorPrefDec
namespace Go.Proofs.YtimggejonppegaaDoor
open Go.RowKit

theorem power3_any (b : Int) (w : World) (h1 : 1 ≤ b) (h8 : b ≤ 8) :
    Calls Tryd.prog 36 #[.int .i64 b] w fun e w' => e = .returned (.int .i64 (fullP b + 1)) ∧ w = w' := by
  obtain ⟨S, rfl⟩ := Int.eq_ofNat_of_zero_le (by omega : 0 ≤ b)
  have HS := Lib.hid (show fullP (S : Int) + 1 = 2 ^ S by simp [fullP])
  go_enter Tryd.func36, Tryd.ntmps36
  go_wp2_with fail
  go_loop [3, 4] (fun n i => ∃ k : Nat, k ≤ S ∧ i = .int .i64 k ∧ n = .int .i64 (2 ^ k)) (fun _ i => S - (intOf i).toNat)
  case atStart => exact ⟨0, Nat.zero_le _, rfl, rfl⟩
  case round =>
    obtain ⟨k, hk, rfl, rfl⟩ := hrel
    by_cases hlt : k < S
    · obtain ⟨p, hp⟩ : ∃ p : Int, p = 2 ^ k := ⟨_, rfl⟩
      have hb : 1 ≤ p ∧ p ≤ 128 := by
        rw [hp]
        rcases (show k = 0 ∨ k = 1 ∨ k = 2 ∨ k = 3 ∨ k = 4 ∨ k = 5 ∨ k = 6 ∨ k = 7 by omega) with rfl | rfl | rfl | rfl | rfl | rfl | rfl | rfl <;> decide
      have HP := Lib.hid hp
      rw [← hp]
      clear hp
      go_wp2_with fail
      go_round
      case rel => exact ⟨k + 1, by omega, by go_num, by rw [Int.pow_succ, ← HP.out, Int.mul_comm]⟩
      case measure => simp [intOf]; omega
    · obtain rfl : k = S := by omega
      go_wp2_with fail
      go_ret
      exact ⟨by rw [HS.out]; rfl, rfl⟩

theorem refEnc3_no (n b a : Int) (w : World) (h : ¬ encOk n b a) :
    Calls Tryd.prog 17 #[.int .i64 n, .int .i64 b, .int .i64 a] w fun e w' => e = .returned (.tuple #[.slice none 0 0, .int .i64 1]) ∧ w = w' := by
  by_cases hr : 0 ≤ n ∧ n ≤ 16777215 ∧ 1 ≤ b ∧ b ≤ 8 ∧ 0 ≤ a ∧ a ≤ 255
  · obtain ⟨n0, n1, b1, b8, a0, a1⟩ := hr
    have h3 : (a % (fullP b + 1) != 0) = true := by
      rw [bne_iff_ne]
      exact fun h0 => h ⟨⟨n0, n1⟩, ⟨b1, b8⟩, a0, a1, h0⟩
    clear h
    have hm := fullP_bound b1 b8
    obtain ⟨m, hM⟩ : ∃ m, fullP b = m := ⟨_, rfl⟩
    have HM := Lib.hid hM
    rw [hM] at h3 hm
    clear hM
    go_enter Tryd.func17, Tryd.ntmps17
    go_wp2_with (go_at_call 36; refine (power3_any _ _ (by omega) (by omega)).mono ?_; rintro e w' ⟨rfl, rfl⟩; rw [HM.out])
    go_ret2
    exact ⟨rfl, rfl⟩
  · clear h
    have hr : n < 0 ∨ 16777215 < n ∨ b < 1 ∨ 8 < b ∨ a < 0 ∨ 255 < a := by omega
    have H := Lib.hid hr
    clear hr
    go_enter Tryd.func17, Tryd.ntmps17
    go_wp2_with fail
    all_goals first
      | (exfalso; have := H.out; omega)
      | (go_ret2; exact ⟨rfl, rfl⟩)

theorem refEnc3_own (n b a : Int) (w : World) (h : encOk n b a) :
    Calls Tryd.prog 17 #[.int .i64 n, .int .i64 b, .int .i64 a] w fun e w' => ∃ v, e = .returned (.tuple #[v, .int .i64 0]) ∧ w'.ownsRow w.heap.size 5 1 v (encP (fullP b) a n).length ((encP (fullP b) a n).map (Value.int .u8)) ∧ Below w.heap.size w w' := by
  obtain ⟨h1, h2, h3⟩ := h
  have hab := above_bound h2.1 h2.2 h3.2.1 h3.2.2
  have hm := fullP_bound h2.1 h2.2
  obtain ⟨b1, b8⟩ := h2
  obtain ⟨n0, n1⟩ := h1
  obtain ⟨a0, a1, ha⟩ := h3
  have hq : (a % (fullP b + 1) != 0) = false := by simp [ha]
  obtain ⟨m, hM⟩ : ∃ m, fullP b = m := ⟨_, rfl⟩
  have HM := Lib.hid hM
  rw [hM] at hab hm hq ⊢
  clear hM ha
  by_cases hlt : n < m
  · have HE := Lib.hid (show encP m a n = [a + n] by rw [encP, if_pos hlt])
    go_enter Tryd.func17, Tryd.ntmps17
    go_wp2_with (go_at_call 36; refine (power3_any _ _ (by omega) (by omega)).mono ?_; rintro e w' ⟨rfl, rfl⟩; rw [HM.out])
    go_ret2
    rw [HE.out]
    exact ⟨_, rfl, owned_lit [a + n] (Nat.le_refl _) rfl rfl rfl (by simp [maxLen]), (Below.refl _ _).alloc (Nat.le_refl _) _⟩
  · have HE := Lib.hid (show encP m a n = [a + m] ++ grpL 4 (n - m) by rw [encP, if_neg hlt]; rfl)
    go_enter Tryd.func17, Tryd.ntmps17
    go_wp2_with (go_at_call 36; refine (power3_any _ _ (by omega) (by omega)).mono ?_; rintro e w' ⟨rfl, rfl⟩; rw [HM.out])
    go_loopw [9, 10] (fun v u wr => ∃ (out : List Int) (f : Nat) (r : Int), u = .int .i64 r ∧ wr.ownsRow w.heap.size 5 1 v out.length (out.map (Value.int .u8)) ∧ Hid (out ++ grpL f r = encP m a n) ∧ Hid (r < 128 * 128 ^ f) ∧ 0 ≤ r ∧ r ≤ 16777215 ∧ out.length + f ≤ 5 ∧ Below w.heap.size w wr) (fun _ u _ => (intOf u).toNat)
    case atStart =>
      exact ⟨[a + m], 4, n - m, rfl, owned_lit [a + m] (Nat.le_refl w.heap.size) rfl rfl rfl (by simp [maxLen]), HE.out.symm, (by show n - m < 128 * 128 ^ 4; omega), by omega, by omega, by simp, (Below.refl _ _).alloc (Nat.le_refl _) _⟩
    case round =>
      obtain ⟨out, f, r, rfl, hO, HQ, HR, r0, r1, hl, hB⟩ := hrel
      obtain ⟨ao, cap, rfl, _⟩ := owned_shape hO
      by_cases hr : r < 128
      · have d1 : decide (128 ≤ r) = false := decide_eq_false (by omega)
        have HG := Lib.hid (grpL_small (f := f) hr)
        have hz := hB.size
        go_wp2_with (at_builtin; refine app_ints rfl (.tmp 68) (.tmp 71) 24 rfl w.heap.size 5 .u8 1 Tryd.underlying24 Tryd.info5' _ out.length out rfl (hO.alloc _) _ [r] rfl (Sl.lit' [r] rfl rfl rfl (by intro z hz; rw [List.mem_singleton] at hz; subst hz; exact WalkArith.wf_u8 (by omega)) (by simp [maxLen])) (by simp; omega) (by simp [maxLen]; omega) (by simp; omega) ?_; intro v4 w4 hO4 hc4 hg4)
        go_ret2
        rw [← HQ.out, HG.out]
        exact ⟨_, rfl, by simpa using hO4, (hB.alloc hz _).trans hc4⟩
      · have d1 : decide (128 ≤ r) = true := decide_eq_true (by omega)
        obtain ⟨f, rfl⟩ : ∃ g, f = g + 1 := by
          cases f with
          | zero => have := HR.out; simp at this; omega
          | succ g => exact ⟨g, rfl⟩
        have HG := Lib.hid (grpL_great (f := f) (r := r) (by omega))
        have hz := hB.size
        go_wp2_with (at_builtin; refine app_ints rfl (.tmp 59) (.tmp 64) 24 rfl w.heap.size 5 .u8 1 Tryd.underlying24 Tryd.info5' _ out.length out rfl (hO.alloc _) _ [128 + r % 128] rfl (Sl.lit' [128 + r % 128] rfl rfl rfl (by intro z hz; rw [List.mem_singleton] at hz; subst hz; exact WalkArith.wf_u8 (by omega)) (by simp [maxLen])) (by simp; omega) (by simp [maxLen]; omega) (by simp; omega) ?_; intro v4 w4 hO4 hc4 hg4)
        go_roundw
        case rel =>
          refine ⟨out ++ [128 + r % 128], f, r / 128, rfl, by simpa using hO4, ?_, ?_, by omega, by omega, by simp; omega, (hB.alloc hz _).trans hc4⟩
          · show _ = _
            rw [← HQ.out, HG.out]
            simp
          · show _ < _
            have h1 := HR.out
            rw [Int.pow_succ] at h1
            exact Int.ediv_lt_of_lt_mul (by omega) (by rw [Int.mul_comm _ 128] at h1; rw [Int.mul_comm _ 128]; exact h1)
        case measure => simp [intOf]; omega

theorem refDec3_no (v : Value) (b : Int) (w : World) (h : ¬ (1 ≤ b ∧ b ≤ 8)) :
    Calls Tryd.prog 25 #[v, .int .i64 b] w fun e w' => e = .returned (tup3 (0, 0, 1)) ∧ w = w' := by
  have H := Lib.hid (show b < 1 ∨ 8 < b by omega)
  clear h
  go_enter Tryd.func25, Tryd.ntmps25
  go_wp2_with fail
  all_goals first
    | (exfalso; have := H.out; omega)
    | (go_ret3; exact ⟨rfl, rfl⟩)

theorem refDec3_yes (v : Value) (zs : List Int) (b : Int) (w : World) (hv : Sl .u8 w v zs) (h : 1 ≤ b ∧ b ≤ 8) :
    Calls Tryd.prog 25 #[v, .int .i64 b] w fun e w' => e = .returned (tup3 (decP (fullP b) zs)) ∧ w = w' := by
  obtain ⟨b1, b8⟩ := h
  have hmax := hv.len
  unfold maxLen at hmax
  rcases hv.parts with ⟨rfl, a, cap, rfl⟩ | ⟨hp, blk, off, cap, rfl, hlc, hcm, hb, hc⟩
  · clear hv
    go_enter Tryd.func25, Tryd.ntmps25
    go_wp2_with fail
    go_ret3
    exact ⟨rfl, rfl⟩
  · have hz := hv.fit.byte 0
    have hm := fullP_bound b1 b8
    have hfit := hv.fit
    have hc0 := hc 0 hp
    rw [Nat.add_zero] at hc0
    clear hv
    obtain ⟨m, hM⟩ : ∃ m, fullP b = m := ⟨_, rfl⟩
    have HM := Lib.hid hM
    rw [hM] at hm ⊢
    clear hM
    have hne : ((zs.length : Int) == 0) = false := by simp; intro e; subst e; simp at hp
    have hq0 : 0 ≤ at0 zs 0 % (m + 1) := Int.emod_nonneg _ (by omega)
    have hq1 : at0 zs 0 % (m + 1) < m + 1 := Int.emod_lt_of_pos _ (by omega)
    by_cases hlt : at0 zs 0 % (m + 1) < m
    · have HD := Lib.hid (show decP m zs = (at0 zs 0 % (m + 1), 1, 0) by rw [decP, if_neg (by simp; intro e; subst e; simp at hp), if_pos hlt])
      clear hc
      go_enter Tryd.func25, Tryd.ntmps25
      go_wp2_with (go_at_call 36; refine (power3_any _ _ (by omega) (by omega)).mono ?_; rintro e w' ⟨rfl, rfl⟩; rw [HM.out])
      go_ret3
      exact ⟨by rw [HD.out]; rfl, rfl⟩
    · have HD := Lib.hid (show decP m zs = decF zs 4 1 1 (at0 zs 0 % (m + 1)) by rw [decP, if_neg (by simp; intro e; subst e; simp at hp), if_neg hlt, show at0 zs 0 % (m + 1) = m by omega])
      go_enter Tryd.func25, Tryd.ntmps25
      go_wp2_with (go_at_call 36; refine (power3_any _ _ (by omega) (by omega)).mono ?_; rintro e w' ⟨rfl, rfl⟩; rw [HM.out])
      clear hc0 hne
      go_loop [8, 9, 10] (fun u s i => ∃ (f k : Nat) (t n : Int), 1 ≤ k ∧ k + f = 5 ∧ i = .int .i64 k ∧ u = .int .i64 n ∧ s = .int .i64 t ∧ Hid (decF zs f k t n = decP m zs) ∧ 0 ≤ n ∧ n ≤ 16777215 ∧ 1 ≤ t ∧ Hid (t = 128 ^ (k - 1))) (fun _ _ i => 5 - (intOf i).toNat)
      case atStart => exact ⟨4, 1, 1, at0 zs 0 % (m + 1), by omega, by omega, rfl, rfl, rfl, HD.out.symm, by omega, by omega, by omega, rfl⟩
      case round =>
        obtain ⟨f, k, t, n, k1, k5, rfl, rfl, rfl, HR, n0, n1, t1, HT⟩ := hrel
        cases f with
        | zero =>
          have d : decide ((k : Int) < 5) = false := decide_eq_false (by omega)
          go_wp2_with fail
          go_ret3
          exact ⟨by rw [← HR.out]; rfl, rfl⟩
        | succ f =>
          have d : decide ((k : Int) < 5) = true := decide_eq_true (by omega)
          have ht : t ≤ 2097152 := by
            have := HT.out
            rcases (show k = 1 ∨ k = 2 ∨ k = 3 ∨ k = 4 by omega) with rfl | rfl | rfl | rfl <;> (simp at this; omega)
          by_cases hlk : k < zs.length
          · have dk : decide ((zs.length : Int) ≤ (k : Int)) = false := decide_eq_false (by omega)
            have hck := hc k hlk
            have hg := hfit.byte k
            have hgm : 0 ≤ at0 zs k % 128 ∧ at0 zs k % 128 ≤ 127 := by omega
            have hp0 : 0 ≤ t * (at0 zs k % 128) := Int.mul_nonneg (by omega) hgm.1
            have hp1 : t * (at0 zs k % 128) ≤ 2097152 * 127 := Int.mul_le_mul ht hgm.2 hgm.1 (by omega)
            by_cases hbig : 16777215 < n + t * (at0 zs k % 128)
            · have HE := Lib.hid (decF_over (f := f) hlk hbig)
              go_wp2_with fail
              go_ret3
              exact ⟨by rw [← HR.out, HE.out]; rfl, rfl⟩
            · by_cases h7 : at0 zs k < 128
              · have HE := Lib.hid (decF_last (f := f) (t := t) (n := n) hlk (by omega) h7)
                go_wp2_with fail
                go_ret3
                exact ⟨by rw [← HR.out, HE.out]; rfl, rfl⟩
              · have HE := Lib.hid (decF_go (f := f) (t := t) (n := n) hlk (by omega) (by omega))
                go_wp2_with fail
                go_round
                case rel => exact ⟨f, k + 1, 128 * t, n + t * (at0 zs k % 128), by omega, by omega, by go_num, rfl, rfl, (by show _ = _; rw [← HR.out, HE.out]), by omega, by omega, by omega, (by show 128 * t = 128 ^ (k + 1 - 1); rw [HT.out, show k + 1 - 1 = (k - 1) + 1 by omega, Int.pow_succ, Int.mul_comm])⟩
                case measure => simp [intOf]; omega
          · have dk : decide ((zs.length : Int) ≤ (k : Int)) = true := decide_eq_true (by omega)
            have HE := Lib.hid (decF_end (f := f) (t := t) (n := n) (i := k) (zs := zs) (by omega))
            go_wp2_with fail
            go_ret3
            exact ⟨by rw [← HR.out, HE.out]; rfl, rfl⟩

end Go.Proofs.YtimggejonppegaaDoor
