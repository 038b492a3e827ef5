/-
  The statement HuffBack: its walk.
-/
import Derived.Test.YtlmecnnednejmaaLaw04a
namespace Go.Proofs.Ytlmecnnednejmaa
open Go.RowKit

theorem decB_err {most : Int} {zs : List Int} (h : (decB most zs).2 ≠ 0) : (decB most zs).1 = [] := by
  rw [decB] at h ⊢
  exact dec_err h

set_option maxHeartbeats 1000000 in
set_option maxRecDepth 20000 in
theorem back4_any (v : Value) (zs : List Int) (most : Nat) (w : World) (hv : Sl .u8 w v zs) (hm : most < 256) :
    Calls Try.prog 4 #[v, .int .u8 most] w fun e w' => e = .returned (.bool true) ∧ Below w.heap.size w w' := by
  obtain ⟨a, cap, rfl, _⟩ := id hv
  have hmax := hv.len
  unfold maxLen at hmax
  have hfit := hv.fit
  by_cases h : 200 < zs.length
  · go_enter Try.func4, Try.ntmps4
    go_wp2_with (go_at_call 6; refine (alive04 _).mono ?_; rintro e w' ⟨rfl, hb⟩)
    go_ret
    exact ⟨rfl, hb⟩
  · have hz : zs.length ≤ 1000000 := by omega
    have hz200 : zs.length ≤ 200 := by omega
    go_enter Try.func4, Try.ntmps4
    go_wp2_with fail
    refine (enc_any _ zs _ hv hz).mono ?_
    rintro e w1 ⟨x, rfl, hx, hb1⟩
    have HS1 : Hid (Sl .u8 w1 x (enc zs) ∧ Sl .u8 w1 (.slice a zs.length cap) zs ∧ Below w.heap.size w w1) := ⟨hx, hv.below hb1, hb1⟩
    obtain ⟨ax, cx, rfl, _⟩ := id hx
    have hxl : (enc zs).length ≤ 800 := by rw [enc_length]; have := sizeT_le zs hfit; omega
    have HXL := Lib.hid (enc_length zs)
    obtain ⟨NX, hNX⟩ : ∃ NX, (enc zs).length = NX := ⟨_, rfl⟩
    have HNX := Lib.hid hNX
    rw [hNX] at hxl HXL HS1 ⊢
    clear hNX hx hb1
    go_wp2_with fail
    refine (dec_is _ (enc zs) zs.length _ HS1.out.1 (by rw [HNX.out]; omega) zs 0 (dec_enc hfit (by omega))).mono ?_
    rintro e w2 ⟨y, rfl, hy, hb2⟩
    have HS2 : Hid (Sl .u8 w2 y zs ∧ Sl .u8 w2 (.slice ax NX cx) (enc zs) ∧ Sl .u8 w2 (.slice a zs.length cap) zs ∧ Below w.heap.size w w2) := ⟨hy, HS1.out.1.below hb2, HS1.out.2.1.below hb2, HS1.out.2.2.trans (hb2.mono HS1.out.2.2.size)⟩
    clear hy hb2 HS1
    go_wp2_with fail
    refine (same_any y _ _ _ _ HS2.out.1 HS2.out.2.2.1).mono ?_
    rintro e w' ⟨rfl, n3, rfl⟩
    rw [decide_eq_true rfl]
    have HS3 : Hid (Sl .u8 (w2.drewN n3) (.slice ax NX cx) (enc zs) ∧ Sl .u8 (w2.drewN n3) (.slice a zs.length cap) zs ∧ Below w.heap.size w (w2.drewN n3)) := ⟨HS2.out.2.1.drewN _, HS2.out.2.2.1.drewN _, below_drewN HS2.out.2.2.2 _⟩
    clear HS2
    obtain ⟨W3, hW3⟩ : ∃ W3, w2.drewN n3 = W3 := ⟨_, rfl⟩
    rw [hW3] at HS3 ⊢
    clear hW3
    have hemp : (W3.alloc (.cells #[] 5)).ownsRow W3.heap.size 5 1 (.slice (some ⟨W3.heap.size, 0, none⟩) 0 0) 0 (([] : List Int).map (Value.int .u8)) := by
      have := World.ownsRow_made (base := W3.heap.size) (e := 5) (size := 1) W3 #[] 0 (by simp) (by decide) rfl
      simpa using this
    go_wp2_with (first
      | (at_builtin; refine app_ints rfl (.tmp 31) (.tmp 32) 22 rfl W3.heap.size 5 .u8 1 Try.underlying22 Try.info5' _ 0 [] rfl hemp _ (enc zs) rfl (HS3.out.1.alloc _) (by rw [HNX.out]; simp; omega) (by rw [HNX.out]; simp [maxLen]; omega) (by simp) ?_; intro v4 w4 hO4 hc4 hg4; simp only [List.length_nil, Nat.zero_add, List.nil_append] at hO4; obtain ⟨a4, cp4, rfl, _⟩ := owned_shape hO4; have hz4 : W3.heap.size ≤ w4.heap.size := by (have := hc4.size; simp at this; omega))
      | (at_builtin; refine app_ints rfl (.tmp 33) (.tmp 34) 22 rfl W3.heap.size 5 .u8 1 Try.underlying22 Try.info5' _ (enc zs).length (enc zs) rfl (hO4.alloc _) _ [255] rfl (Sl.lit' [255] rfl rfl rfl (by intro n hn; revert n; decide) (by decide)) (by rw [HNX.out]; simp; omega) (by rw [HNX.out]; simp [maxLen]; omega) (by simp; omega) ?_; intro v5 w5 hO5 hc5 hg5; obtain ⟨a5, cp5, rfl, _⟩ := owned_shape hO5))
    simp only [List.length_cons, List.length_nil, Nat.reduceAdd] at hO5
    have hb5 : Below W3.heap.size W3 w5 := ((Below.refl _ _).alloc (Nat.le_refl _) _).trans (hc4.trans (((Below.refl _ _).alloc hz4 _).trans hc5))
    have hfx : Fit .u8 (enc zs ++ [255]) := (enc_fit zs).append (by intro n hn; revert n; decide)
    have hA5 : Sl .u8 w5 (.slice a5 ((enc zs).length + 1) cp5) (enc zs ++ [255]) := Sl.of_own hO5 hfx (by rw [List.length_append, HNX.out]; unfold maxLen; simp; omega)
    have HS5 : Hid (Sl .u8 w5 (.slice a5 ((enc zs).length + 1) cp5) (enc zs ++ [255]) ∧ Sl .u8 w5 (.slice a zs.length cap) zs ∧ Below w.heap.size w w5) := ⟨hA5, HS3.out.2.1.below hb5, HS3.out.2.2.trans (hb5.mono HS3.out.2.2.size)⟩
    clear hb5 hA5 hO5 hc5 hg5 hO4 hc4 hg4 hz4 hemp HS3 hfx
    refine (dec_is _ (enc zs ++ [255]) ((zs.length : Int) + 9) _ HS5.out.1 (by rw [List.length_append, HNX.out]; simp; omega) [] 3 (dec_enc255 hfit (by omega))).mono ?_
    rintro e w6 ⟨u, rfl, _, hb6⟩
    have HS6 : Hid (Sl .u8 w6 (.slice a zs.length cap) zs ∧ Below w.heap.size w w6) := ⟨HS5.out.2.1.below hb6, HS5.out.2.2.trans (hb6.mono HS5.out.2.2.size)⟩
    clear hb6 HS5
    go_wp2_with fail
    refine (Size_any _ zs _ HS6.out.1 hz).mono ?_
    rintro e w' ⟨rfl, n7, rfl⟩
    rw [← HXL.out]
    have HS7 : Hid (Sl .u8 (w6.drewN n7) (.slice a zs.length cap) zs ∧ Below w.heap.size w (w6.drewN n7)) := ⟨HS6.out.1.drewN _, below_drewN HS6.out.2 _⟩
    clear HS6
    go_wp2_with fail
    refine (dec_any _ zs most _ HS7.out.1 hz).mono ?_
    rintro e w8 ⟨z, rfl, hzv, hb8⟩
    have HS8 : Hid (Sl .u8 w8 z (decB most zs).1 ∧ Sl .u8 w8 (.slice a zs.length cap) zs ∧ Below w.heap.size w w8) := ⟨hzv, HS7.out.1.below hb8, HS7.out.2.trans (hb8.mono HS7.out.2.size)⟩
    obtain ⟨az, cz, rfl, _⟩ := id hzv
    clear hb8 HS7 hzv
    obtain ⟨d2, hd2⟩ : ∃ d, (decB most zs).2 = d := ⟨_, rfl⟩
    obtain ⟨d1, hd1⟩ : ∃ d, (decB most zs).1 = d := ⟨_, rfl⟩
    have HD2 := Lib.hid hd2
    have HD1 := Lib.hid hd1
    rw [hd1] at HS8
    rw [hd2, hd1]
    clear hd1 hd2
    by_cases hg : d2 = 0
    · have hE := enc_dec (t := d1) hfit (show decB most zs = (d1, 0) by rw [← HD1.out, ← hg, ← HD2.out])
      have HEZ := Lib.hid hE.1
      have hlm : d1.length ≤ most := by have := hE.2.2; omega
      have hl1 : d1.length ≤ 1000000 := by omega
      have dg : ((d2 : Int) != 0) = false := by rw [hg]; rfl
      clear hg hE
      go_wp2_with fail
      refine (enc_any _ d1 _ HS8.out.1 hl1).mono ?_
      rintro e w9 ⟨q, rfl, hq, hb9⟩
      rw [HEZ.out] at hq
      have HS9 : Hid (Sl .u8 w9 q zs ∧ Sl .u8 w9 (.slice a zs.length cap) zs ∧ Below w.heap.size w w9) := ⟨hq, HS8.out.2.1.below hb9, HS8.out.2.2.trans (hb9.mono HS8.out.2.2.size)⟩
      clear hq hb9
      go_wp2_with fail
      refine (same_any q _ _ _ _ HS9.out.1 HS9.out.2.1).mono ?_
      rintro e w' ⟨rfl, n10, rfl⟩
      rw [decide_eq_true rfl]
      have HB10 := Lib.hid (below_drewN HS9.out.2.2 n10)
      go_wp2_with fail
      refine (alive04 _).mono ?_
      rintro e w11 ⟨rfl, hb11⟩
      have HB11 := Lib.hid (HB10.out.trans (hb11.mono (by exact HB10.out.size)))
      clear hb11
      go_wp2_with fail
      go_ret
      exact ⟨rfl, HB11.out⟩
    · have hnil : d1 = [] := by
        rw [← HD1.out]
        exact decB_err (by rw [HD2.out]; exact hg)
      have dg : ((d2 : Int) != 0) = true := by rw [bne_iff_ne]; exact hg
      have hl0 : Hid (d1.length = 0) := by show _ = _; rw [hnil]; rfl
      rw [hl0.out]
      clear hg hnil
      go_wp2_with fail
      refine (alive04 _).mono ?_
      rintro e w11 ⟨rfl, hb11⟩
      have HB11 := Lib.hid (HS8.out.2.2.trans (hb11.mono HS8.out.2.2.size))
      clear hb11
      go_wp2_with fail
      go_ret
      exact ⟨rfl, HB11.out⟩
theorem back4_int (v : Value) (zs : List Int) (most : Int) (w : World) (hv : Sl .u8 w v zs) (hm : (Lit.int .u8 most).wf = true) :
    Calls Try.prog 4 #[v, .int .u8 most] w fun e w' => e = .returned (.bool true) ∧ Below w.heap.size w w' := by
  have h1 := bounds_u8 hm
  obtain ⟨M, rfl⟩ := Int.eq_ofNat_of_zero_le h1.1
  exact back4_any v zs M w hv (by omega)
end Go.Proofs.Ytlmecnnednejmaa
