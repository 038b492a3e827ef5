
/-
  prefix.Decode.
-/
import Derived.Test.YtimggejonppegaaDoorPrefEnc
import Derived.Test.YtimggejonppegaaDoorBits
import Derived.WalkMore
namespace Go.Proofs.YtimggejonppegaaDoor
open Go.RowKit

/-- what Decode answers, whatever it is given -/
def decA (b : Int) (zs : List Int) : Int × Int × Int := if 1 ≤ b ∧ b ≤ 8 then decP (fullP b) zs else (0, 0, 1)
/-- the answer as a value -/
def tup3 (d : Int × Int × Int) : Value := .tuple #[.int .i64 d.1, .int .i64 d.2.1, .int .i64 d.2.2]
theorem ret_tup3 {d : Int × Int × Int} {x y z : Int} (h : (x, y, z) = d) : Ending.returned (.tuple #[.int .i64 x, .int .i64 y, .int .i64 z]) = .returned (tup3 d) := by subst h; rfl
theorem i64_mask (b z : Int) (h1 : 1 ≤ b) (h8 : b ≤ 8) (h0 : 0 ≤ z) (hz : z ≤ 255) : bits .and .i64 z (fullP b) = z % (fullP b + 1) := by
  have hm := fullP_bound h1 h8
  rw [i64_and z (fullP b) h0 (by omega) (by omega) (by omega)]
  obtain ⟨Z, rfl⟩ := Int.eq_ofNat_of_zero_le h0
  rcases bits_cases h1 h8 with rfl | rfl | rfl | rfl | rfl | rfl | rfl | rfl
  · rw [show (fullP 1).toNat = 2 ^ 1 - 1 from rfl, Int.toNat_natCast, Nat.and_two_pow_sub_one_eq_mod]; rfl
  · rw [show (fullP 2).toNat = 2 ^ 2 - 1 from rfl, Int.toNat_natCast, Nat.and_two_pow_sub_one_eq_mod]; rfl
  · rw [show (fullP 3).toNat = 2 ^ 3 - 1 from rfl, Int.toNat_natCast, Nat.and_two_pow_sub_one_eq_mod]; rfl
  · rw [show (fullP 4).toNat = 2 ^ 4 - 1 from rfl, Int.toNat_natCast, Nat.and_two_pow_sub_one_eq_mod]; rfl
  · rw [show (fullP 5).toNat = 2 ^ 5 - 1 from rfl, Int.toNat_natCast, Nat.and_two_pow_sub_one_eq_mod]; rfl
  · rw [show (fullP 6).toNat = 2 ^ 6 - 1 from rfl, Int.toNat_natCast, Nat.and_two_pow_sub_one_eq_mod]; rfl
  · rw [show (fullP 7).toNat = 2 ^ 7 - 1 from rfl, Int.toNat_natCast, Nat.and_two_pow_sub_one_eq_mod]; rfl
  · rw [show (fullP 8).toNat = 2 ^ 8 - 1 from rfl, Int.toNat_natCast, Nat.and_two_pow_sub_one_eq_mod]; rfl

theorem decF_end {zs : List Int} {f i : Nat} {t n : Int} (h : zs.length ≤ i) : decF zs (f + 1) i t n = (0, 0, 2) := by rw [decF, if_pos h]
theorem decF_over {zs : List Int} {f i : Nat} {t n : Int} (h : i < zs.length) (h2 : 16777215 < n + t * (at0 zs i % 128)) : decF zs (f + 1) i t n = (0, 0, 3) := by rw [decF, if_neg (by omega), if_pos h2]
theorem decF_last {zs : List Int} {f i : Nat} {t n : Int} (h : i < zs.length) (h2 : n + t * (at0 zs i % 128) ≤ 16777215) (h3 : at0 zs i < 128) : decF zs (f + 1) i t n = (n + t * (at0 zs i % 128), (i : Int) + 1, 0) := by rw [decF, if_neg (by omega), if_neg (by omega), if_pos h3]
theorem decF_go {zs : List Int} {f i : Nat} {t n : Int} (h : i < zs.length) (h2 : n + t * (at0 zs i % 128) ≤ 16777215) (h3 : 128 ≤ at0 zs i) : decF zs (f + 1) i t n = decF zs f (i + 1) (128 * t) (n + t * (at0 zs i % 128)) := by rw [decF, if_neg (by omega), if_neg (by omega), if_neg (by omega)]

theorem prefDec_no (v : Value) (b : Int) (w : World) (h : ¬ (1 ≤ b ∧ b ≤ 8)) :
    Calls Tryd.prog 22 #[v, .int .i64 b] w fun e w' => e = .returned (tup3 (0, 0, 1)) ∧ w = w' := by
  have D2 := Lib.hid (decide_eq_false h)
  clear h
  go_enter Tryd.func22, Tryd.ntmps22
  go_wp2_with fail
  go_step3
  go_wp2_with (go_at_call 30; refine (isPrefix_any _ _).mono ?_; rintro e w' ⟨rfl, rfl⟩; rw [D2.out])
  rw [Exit.noGoto_ret]
  go_ret3
  exact ⟨rfl, rfl⟩

theorem prefDec_yes (v : Value) (zs : List Int) (b : Int) (w : World) (hv : Sl .u8 w v zs) (h : 1 ≤ b ∧ b ≤ 8) :
    Calls Tryd.prog 22 #[v, .int .i64 b] w fun e w' => e = .returned (tup3 (decP (fullP b) zs)) ∧ ∃ n, w' = w.drewN n := by
  have D2 := Lib.hid (decide_eq_true h)
  obtain ⟨b1, b8⟩ := h
  have hmax := hv.len
  unfold maxLen at hmax
  rcases hv.parts with ⟨rfl, a, cap, rfl⟩ | ⟨hp, blk, off, cap, rfl, hlc, hcm, hb, hc⟩
  · clear hv
    go_enter Tryd.func22, Tryd.ntmps22
    go_wp2_with fail
    go_step3
    go_wp2_with (go_at_call 30; refine (isPrefix_any _ _).mono ?_; rintro e w' ⟨rfl, rfl⟩; rw [D2.out])
    rw [Exit.noGoto_ret]
    go_ret3
    exact ⟨rfl, 0, rfl⟩
  · have hz := hv.fit.byte 0
    have hm := fullP_bound b1 b8
    have hmask := i64_mask b (at0 zs 0) b1 b8 hz.1 hz.2
    have hfit := hv.fit
    have hc0 := hc 0 hp
    rw [Nat.add_zero] at hc0
    clear hv
    obtain ⟨m, hM⟩ : ∃ m, fullP b = m := ⟨_, rfl⟩
    have HM := Lib.hid hM
    rw [hM] at hm hmask ⊢
    have HK := Lib.hid hmask
    clear hM hmask
    have hne : ((zs.length : Int) == 0) = false := by simp; intro e; subst e; simp at hp
    have hq0 : 0 ≤ at0 zs 0 % (m + 1) := Int.emod_nonneg _ (by omega)
    have hq1 : at0 zs 0 % (m + 1) < m + 1 := Int.emod_lt_of_pos _ (by omega)
    by_cases hlt : at0 zs 0 % (m + 1) < m
    · have HD := Lib.hid (show decP m zs = (at0 zs 0 % (m + 1), 1, 0) by rw [decP, if_neg (by simp; intro e; subst e; simp at hp), if_pos hlt])
      obtain ⟨q, hq⟩ : ∃ q, at0 zs 0 % (m + 1) = q := ⟨_, rfl⟩
      rw [hq] at hlt hq0 hq1 HD
      have HQ := Lib.hid hq
      clear hq hc
      go_enter Tryd.func22, Tryd.ntmps22
      go_wp2_with fail
      go_step3
      go_wp2_with (go_at_call 30; refine (isPrefix_any _ _).mono ?_; rintro e w' ⟨rfl, rfl⟩; rw [D2.out])
      go_quiet ((go_at_call 32; exact Calls.quiet_of_same ((full_any _ _ (by omega) (by omega)).mono (fun e w' h => ⟨h.1, h.2.symm⟩))))
      rw [HM.out, HK.out, HQ.out]
      go_wp2_with (go_at_call 32; refine (full_any _ _ (by omega) (by omega)).mono ?_; rintro e w' ⟨rfl, rfl⟩; rw [HM.out])
      rw [Exit.noGoto_ret]
      go_ret3
      exact ⟨by rw [HD.out]; rfl, _, rfl⟩
    · have HD := Lib.hid (show decP m zs = decF zs 4 1 1 m by rw [decP, if_neg (by simp; intro e; subst e; simp at hp), if_neg hlt])
      have HQ := Lib.hid (show at0 zs 0 % (m + 1) = m by omega)
      clear hlt hq0 hq1
      go_enter Tryd.func22, Tryd.ntmps22
      go_wp2_with fail
      go_step3
      go_wp2_with (go_at_call 30; refine (isPrefix_any _ _).mono ?_; rintro e w' ⟨rfl, rfl⟩; rw [D2.out])
      go_quiet ((go_at_call 32; exact Calls.quiet_of_same ((full_any _ _ (by omega) (by omega)).mono (fun e w' h => ⟨h.1, h.2.symm⟩))))
      rw [HM.out, HK.out, HQ.out]
      go_wp2_with (go_at_call 32; refine (full_any _ _ (by omega) (by omega)).mono ?_; rintro e w' ⟨rfl, rfl⟩; rw [HM.out])
      go_step3
      go_wp2_with fail
      clear hc0 hne
      go_loop [8, 9] (fun u i => ∃ (k : Nat) (n : Int), 1 ≤ k ∧ k ≤ 5 ∧ k ≤ zs.length ∧ i = .int .i64 k ∧ u = .int .i64 n ∧ Hid (decF zs (5 - k) k (128 ^ (k - 1)) n = decP m zs) ∧ 0 ≤ n ∧ Hid (n ≤ 254 + 128 ^ (k - 1))) (fun _ i => 5 - (intOf i).toNat)
      case atStart => exact ⟨1, m, by omega, by omega, by omega, rfl, rfl, HD.out.symm, by omega, (by show m ≤ 254 + 128 ^ 0; omega)⟩
      case round =>
        obtain ⟨k, n, k1, k5, kl, rfl, rfl, HR, n0, HN⟩ := hrel
        rcases (show k = 1 ∨ k = 2 ∨ k = 3 ∨ k = 4 ∨ k = 5 by omega) with rfl | rfl | rfl | rfl | rfl
        · have hn : n ≤ 255 := by have := HN.out; simpa using this
          by_cases hlt : 1 < zs.length
          · have hck := hc 1 hlt
            have hg := hfit.byte 1
            by_cases h7 : 128 ≤ at0 zs 1
            · go_wp2_with fail
              go_round
              case rel =>
                refine ⟨2, n + at0 zs 1 % 128, by omega, by omega, by omega, rfl, rfl, ?_, by omega, (by show _ ≤ (254 + 128 ^ 1 : Int); omega)⟩
                show decF zs 3 2 128 _ = _
                rw [← HR.out]
                show _ = decF zs 4 1 1 n
                rw [decF_go hlt (by omega) h7]
                congr 1 <;> omega
              case measure => simp [intOf]
            · have HD5 := Lib.hid (decide_eq_true (show 0 ≤ n + at0 zs 1 % 128 ∧ n + at0 zs 1 % 128 ≤ 16777215 by omega))
              have HE := Lib.hid (decF_last (f := 3) (t := 1) (n := n) (i := 1) hlt (by omega) (by omega))
              go_wp2_with (go_at_call 29; refine (isNumber_any _ _).mono ?_; rintro e w' ⟨rfl, rfl⟩; rw [HD5.out])
              rw [Exit.noGoto_ret]
              go_ret3
              exact ⟨Eq.trans (b := Ending.returned (.tuple #[.int .i64 (n + at0 zs 1 % 128), .int .i64 2, .int .i64 0])) rfl (ret_tup3 (by rw [← HR.out]; refine Eq.trans ?_ HE.out.symm; refine Prod.ext ?_ (Prod.ext ?_ rfl) <;> dsimp only <;> omega)), _, rfl⟩
          · have heq : ((1 : Int) == (zs.length : Int)) = true := by rw [show zs.length = 1 by omega]; rfl
            have HE := Lib.hid (decF_end (f := 3) (t := 1) (n := n) (i := 1) (zs := zs) (by omega))
            go_wp2_with fail
            go_ret3
            exact ⟨by rw [← HR.out]; exact congrArg (fun d => Ending.returned (tup3 d)) HE.out.symm, _, rfl⟩
        · have hn : n ≤ 382 := by have := HN.out; simpa using this
          by_cases hlt : 2 < zs.length
          · have hck := hc 2 hlt
            have hg := hfit.byte 2
            by_cases h7 : 128 ≤ at0 zs 2
            · go_wp2_with fail
              go_round
              case rel =>
                refine ⟨3, n + at0 zs 2 % 128 * 128, by omega, by omega, by omega, rfl, rfl, ?_, by omega, (by show _ ≤ (254 + 128 ^ 2 : Int); omega)⟩
                show decF zs 2 3 16384 _ = _
                rw [← HR.out]
                show _ = decF zs 3 2 128 n
                rw [decF_go hlt (by omega) h7]
                congr 1 <;> omega
              case measure => simp [intOf]
            · have HD5 := Lib.hid (decide_eq_true (show 0 ≤ n + at0 zs 2 % 128 * 128 ∧ n + at0 zs 2 % 128 * 128 ≤ 16777215 by omega))
              have HE := Lib.hid (decF_last (f := 2) (t := 128) (n := n) (i := 2) hlt (by omega) (by omega))
              go_wp2_with (go_at_call 29; refine (isNumber_any _ _).mono ?_; rintro e w' ⟨rfl, rfl⟩; rw [HD5.out])
              rw [Exit.noGoto_ret]
              go_ret3
              exact ⟨Eq.trans (b := Ending.returned (.tuple #[.int .i64 (n + at0 zs 2 % 128 * 128), .int .i64 3, .int .i64 0])) rfl (ret_tup3 (by rw [← HR.out]; refine Eq.trans ?_ HE.out.symm; refine Prod.ext ?_ (Prod.ext ?_ rfl) <;> dsimp only <;> omega)), _, rfl⟩
          · have heq : ((2 : Int) == (zs.length : Int)) = true := by rw [show zs.length = 2 by omega]; rfl
            have HE := Lib.hid (decF_end (f := 2) (t := 128) (n := n) (i := 2) (zs := zs) (by omega))
            go_wp2_with fail
            go_ret3
            exact ⟨by rw [← HR.out]; exact congrArg (fun d => Ending.returned (tup3 d)) HE.out.symm, _, rfl⟩
        · have hn : n ≤ 16638 := by have := HN.out; simpa using this
          by_cases hlt : 3 < zs.length
          · have hck := hc 3 hlt
            have hg := hfit.byte 3
            by_cases h7 : 128 ≤ at0 zs 3
            · go_wp2_with fail
              go_round
              case rel =>
                refine ⟨4, n + at0 zs 3 % 128 * 16384, by omega, by omega, by omega, rfl, rfl, ?_, by omega, (by show _ ≤ (254 + 128 ^ 3 : Int); omega)⟩
                show decF zs 1 4 2097152 _ = _
                rw [← HR.out]
                show _ = decF zs 2 3 16384 n
                rw [decF_go hlt (by omega) h7]
                congr 1 <;> omega
              case measure => simp [intOf]
            · have HD5 := Lib.hid (decide_eq_true (show 0 ≤ n + at0 zs 3 % 128 * 16384 ∧ n + at0 zs 3 % 128 * 16384 ≤ 16777215 by omega))
              have HE := Lib.hid (decF_last (f := 1) (t := 16384) (n := n) (i := 3) hlt (by omega) (by omega))
              go_wp2_with (go_at_call 29; refine (isNumber_any _ _).mono ?_; rintro e w' ⟨rfl, rfl⟩; rw [HD5.out])
              rw [Exit.noGoto_ret]
              go_ret3
              exact ⟨Eq.trans (b := Ending.returned (.tuple #[.int .i64 (n + at0 zs 3 % 128 * 16384), .int .i64 4, .int .i64 0])) rfl (ret_tup3 (by rw [← HR.out]; refine Eq.trans ?_ HE.out.symm; refine Prod.ext ?_ (Prod.ext ?_ rfl) <;> dsimp only <;> omega)), _, rfl⟩
          · have heq : ((3 : Int) == (zs.length : Int)) = true := by rw [show zs.length = 3 by omega]; rfl
            have HE := Lib.hid (decF_end (f := 1) (t := 16384) (n := n) (i := 3) (zs := zs) (by omega))
            go_wp2_with fail
            go_ret3
            exact ⟨by rw [← HR.out]; exact congrArg (fun d => Ending.returned (tup3 d)) HE.out.symm, _, rfl⟩
        · have hn : n ≤ 2097406 := by have := HN.out; simpa using this
          by_cases hlt : 4 < zs.length
          · have hck := hc 4 hlt
            have hg := hfit.byte 4
            by_cases h7 : 128 ≤ at0 zs 4
            · go_wp2_with fail
              go_round
              case rel =>
                refine ⟨5, n + at0 zs 4 % 128 * 2097152, by omega, by omega, by omega, rfl, rfl, ?_, by omega, (by show _ ≤ (254 + 128 ^ 4 : Int); omega)⟩
                show decF zs 0 5 _ _ = _
                rw [← HR.out]
                show (0, 0, 3) = decF zs 1 4 2097152 n
                by_cases hbig : 16777215 < n + 2097152 * (at0 zs 4 % 128)
                · rw [decF_over hlt hbig]
                · rw [decF_go hlt (by omega) h7]; rfl
              case measure => simp [intOf]
            by_cases hbig : 16777215 < n + at0 zs 4 % 128 * 2097152
            · have HD5 := Lib.hid (decide_eq_false (show ¬ (0 ≤ n + at0 zs 4 % 128 * 2097152 ∧ n + at0 zs 4 % 128 * 2097152 ≤ 16777215) by omega))
              have HE := Lib.hid (decF_over (f := 0) (t := 2097152) (n := n) (i := 4) hlt (by omega))
              go_wp2_with (go_at_call 29; refine (isNumber_any _ _).mono ?_; rintro e w' ⟨rfl, rfl⟩; rw [HD5.out])
              rw [Exit.noGoto_ret]
              go_ret3
              exact ⟨by rw [← HR.out]; exact congrArg (fun d => Ending.returned (tup3 d)) HE.out.symm, _, rfl⟩
            · have HD5 := Lib.hid (decide_eq_true (show 0 ≤ n + at0 zs 4 % 128 * 2097152 ∧ n + at0 zs 4 % 128 * 2097152 ≤ 16777215 by omega))
              have HE := Lib.hid (decF_last (f := 0) (t := 2097152) (n := n) (i := 4) hlt (by omega) (by omega))
              go_wp2_with (go_at_call 29; refine (isNumber_any _ _).mono ?_; rintro e w' ⟨rfl, rfl⟩; rw [HD5.out])
              rw [Exit.noGoto_ret]
              go_ret3
              exact ⟨Eq.trans (b := Ending.returned (.tuple #[.int .i64 (n + at0 zs 4 % 128 * 2097152), .int .i64 5, .int .i64 0])) rfl (ret_tup3 (by rw [← HR.out]; refine Eq.trans ?_ HE.out.symm; refine Prod.ext ?_ (Prod.ext ?_ rfl) <;> dsimp only <;> omega)), _, rfl⟩
          · have heq : ((4 : Int) == (zs.length : Int)) = true := by rw [show zs.length = 4 by omega]; rfl
            have HE := Lib.hid (decF_end (f := 0) (t := 2097152) (n := n) (i := 4) (zs := zs) (by omega))
            go_wp2_with fail
            go_ret3
            exact ⟨by rw [← HR.out]; exact congrArg (fun d => Ending.returned (tup3 d)) HE.out.symm, _, rfl⟩
        · go_wp2_with fail
          go_ret3
          exact ⟨by rw [← HR.out]; rfl, _, rfl⟩
end Go.Proofs.YtimggejonppegaaDoor
