
/-
  The statements of layer 5: their live question.
-/
import Derived.Test.YtncfggdkffghdaaLaw04
import Derived.Test.YtncfggdkffghdaaRef05
import Derived.Test.YtncfggdkffghdaaRef05Dec
namespace Go.Proofs.Ytncfggdkffghdaa
open Go.RowKit

theorem ct_nums : nums ⟨#[51, 48, 50]⟩ = cText := by decide +kernel
theorem zt_nums : nums ⟨#[0]⟩ = [0] := by decide +kernel
theorem ct_str : strOfNums cText = ⟨#[51, 48, 50]⟩ := by decide +kernel
theorem zFit : Fit .u8 [0] := by intro n hn; revert n; decide
theorem ct_true : lit true cText = [130, 100, 2] := by rw [lit, head, body, if_pos rfl, al_enc2]; decide +kernel
theorem ct_false : lit false cText = [3, 51, 48, 50] := by decide +kernel
theorem ct_short : litS cText = [130, 100, 2] := by rw [litS, al_size, ← ct_true]; rfl
theorem zt_size : sizeT [0] = 2 := by decide +kernel
theorem zt_short : litS [0] = [1, 0] := by rw [litS, zt_size]; decide +kernel
theorem al5_enc : encL true ⟨#[51, 48, 50]⟩ = ([130, 100, 2], 0) := by rw [encL, if_pos (by decide), ct_nums, ct_true]
theorem al5_enc2 : encL false ⟨#[51, 48, 50]⟩ = ([3, 51, 48, 50], 0) := by rw [encL, if_pos (by decide), ct_nums, ct_false]
theorem al5_dec : tupL (decL 3 [130, 100, 2, 9]) = .tuple #[.string ⟨#[51, 48, 50]⟩, .int .i64 3, .int .i64 0] := by
  have h := decL_lit true cFit (by decide) [9] (most := 3) (by decide)
  rw [ct_true] at h
  rw [show ([130, 100, 2, 9] : List Int) = [130, 100, 2] ++ [9] from rfl, h, tupL, ct_str]
  rfl
theorem al5_full : tupL (decL 2 [130, 100, 2]) = .tuple #[.string ⟨#[]⟩, .int .i64 0, .int .i64 4] := by
  have h := decL_full true cFit (by decide) (by decide)
  rw [ct_true, show (cText.length : Int) - 1 = 2 by decide] at h
  rw [h]
  rfl
theorem al5_more : tupL (decL 9 [3, 51, 48]) = .tuple #[.string ⟨#[]⟩, .int .i64 0, .int .i64 2] := by
  have h := decL_cut false cFit (by decide) (most := 9) (j := 3) (by rw [ct_false]; decide)
  rw [ct_false] at h
  rw [show ([3, 51, 48] : List Int) = [3, 51, 48, 50].take 3 from rfl, h]
  rfl

set_option maxHeartbeats 2000000 in
set_option maxRecDepth 20000 in
theorem alive05 (w : World) : Calls Try.prog 5 #[] w fun e w' => e = .returned (.bool true) ∧ Below w.heap.size w w' := by
  go_enter Try.func5, Try.ntmps5
  go_wp2_with fail
  refine (litEnc_any true _ _).mono ?_
  rintro e w1 ⟨a, rfl, ha, hb1⟩
  rw [al5_enc] at ha ⊢
  have H1 := Lib.hid (And.intro ha hb1)
  clear ha hb1
  go_wp2_with fail
  refine (litEnc_any false _ _).mono ?_
  rintro e w2 ⟨b, rfl, hb, hb2⟩
  rw [al5_enc2] at hb ⊢
  have H2 := Lib.hid (And.intro hb (And.intro (H1.out.1.below hb2) (H1.out.2.trans (hb2.mono H1.out.2.size))))
  clear hb hb2 H1
  go_wp2_with fail
  refine (litDec_any _ [130, 100, 2, 9] 3 _ (Sl.lit [130, 100, 2, 9] rfl rfl rfl (by decide) (by decide)) (by decide)).mono ?_
  rintro e w3 ⟨rfl, hb3⟩
  rw [al5_dec]
  have grow : Hid (∀ (W W' : World) (o : Obj), Below (W.alloc o).heap.size (W.alloc o) W' → (Sl .u8 W b [3, 51, 48, 50] ∧ Sl .u8 W a [130, 100, 2] ∧ Below w.heap.size w W) → (Sl .u8 W' b [3, 51, 48, 50] ∧ Sl .u8 W' a [130, 100, 2] ∧ Below w.heap.size w W')) := by
    rintro W W' o h ⟨h1, h2, h3⟩
    exact ⟨(h1.alloc o).below h, (h2.alloc o).below h, (h3.alloc h3.size o).trans (h.mono (by have := h3.size; simp; omega))⟩
  have H3 := Lib.hid (grow.out _ _ _ hb3 H2.out)
  clear hb3 H2
  go_wp2_with fail
  refine (litDec_any _ [130, 100, 2] 2 _ (Sl.lit [130, 100, 2] rfl rfl rfl (by decide) (by decide)) (by decide)).mono ?_
  rintro e w4 ⟨rfl, hb4⟩
  rw [al5_full]
  have H4 := Lib.hid (grow.out _ _ _ hb4 H3.out)
  clear hb4 H3
  go_wp2_with fail
  refine (litDec_any _ [3, 51, 48] 9 _ (Sl.lit [3, 51, 48] rfl rfl rfl (by decide) (by decide)) (by decide)).mono ?_
  rintro e w5 ⟨rfl, hb5⟩
  rw [al5_more]
  have H5 := Lib.hid (grow.out _ _ _ hb5 H4.out)
  clear hb5 H4
  have growN : Hid (∀ (W : World) (o : Obj) (n : Nat), (Sl .u8 W b [3, 51, 48, 50] ∧ Sl .u8 W a [130, 100, 2] ∧ Below w.heap.size w W) → (Sl .u8 ((W.alloc o).drewN n) b [3, 51, 48, 50] ∧ Sl .u8 ((W.alloc o).drewN n) a [130, 100, 2] ∧ Below w.heap.size w ((W.alloc o).drewN n))) := by
    rintro W o n ⟨h1, h2, h3⟩
    exact ⟨(h1.alloc o).drewN n, (h2.alloc o).drewN n, below_drewN (h3.alloc h3.size o) n⟩
  go_wp2_with fail
  refine (same_any a _ _ [130, 100, 2] _ (H5.out.2.1.alloc _) (Sl.lit [130, 100, 2] rfl rfl rfl (by decide) (by decide))).mono ?_
  rintro e w' ⟨rfl, n6, rfl⟩
  rw [decide_eq_true rfl]
  have H6 := Lib.hid (growN.out _ (.cells ([130, 100, 2].map (Value.int .u8)).toArray 5) n6 H5.out)
  clear H5
  obtain ⟨W6, hW6⟩ : ∃ W6, (w5.alloc (.cells ([130, 100, 2].map (Value.int .u8)).toArray 5)).drewN n6 = W6 := ⟨_, rfl⟩
  rw [hW6] at H6 ⊢
  clear hW6
  go_wp2_with fail
  refine (same_any b _ _ [3, 51, 48, 50] _ (H6.out.1.alloc _) (Sl.lit [3, 51, 48, 50] rfl rfl rfl (by decide) (by decide))).mono ?_
  rintro e w' ⟨rfl, n7, rfl⟩
  rw [decide_eq_true rfl]
  have H7 := Lib.hid (growN.out _ (.cells ([3, 51, 48, 50].map (Value.int .u8)).toArray 5) n7 H6.out)
  clear H6
  obtain ⟨W7, hW7⟩ : ∃ W7, (W6.alloc (.cells ([3, 51, 48, 50].map (Value.int .u8)).toArray 5)).drewN n7 = W7 := ⟨_, rfl⟩
  rw [hW7] at H7 ⊢
  clear hW7
  go_wp2_with fail
  refine (short_any _ _ (by decide)).mono ?_
  rintro e w8 ⟨c, rfl, hc, hb8⟩
  rw [ct_nums, ct_short] at hc
  have H8 := Lib.hid (And.intro hc (And.intro (H7.out.2.1.below hb8) (H7.out.2.2.trans (hb8.mono H7.out.2.2.size))))
  clear hc hb8 H7
  go_wp2_with fail
  refine (same_any c a _ _ _ H8.out.1 H8.out.2.1).mono ?_
  rintro e w' ⟨rfl, n9, rfl⟩
  rw [decide_eq_true rfl]
  have H9 := Lib.hid (below_drewN H8.out.2.2 n9)
  clear H8
  go_wp2_with fail
  refine (short_any _ _ (by decide)).mono ?_
  rintro e w10 ⟨d, rfl, hd, hb10⟩
  rw [zt_nums, zt_short] at hd
  have H10 := Lib.hid (And.intro hd (H9.out.trans (hb10.mono H9.out.size)))
  clear hd hb10 H9
  go_wp2_with fail
  refine (same_any d _ _ [1, 0] _ (H10.out.1.alloc _) (Sl.lit [1, 0] rfl rfl rfl (by decide) (by decide))).mono ?_
  rintro e w' ⟨rfl, n11, rfl⟩
  rw [decide_eq_true rfl]
  have H11 := Lib.hid (below_drewN (H10.out.2.alloc H10.out.2.size (.cells ([1, 0].map (Value.int .u8)).toArray 5)) n11)
  clear H10
  go_wp2_with fail
  go_ret
  exact ⟨rfl, H11.out⟩
end Go.Proofs.Ytncfggdkffghdaa
