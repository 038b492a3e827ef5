/-
  The statements of layer 4: their live question.
-/
import Derived.Test.YtlmecnnednejmaaLaw04
import Derived.Laws.BytesArg
namespace Go.Proofs.Ytlmecnnednejmaa
open Go.RowKit

theorem al_str : strOfNums aText = ⟨#[119, 119, 119, 46, 101, 120, 97, 109, 112, 108, 101, 46, 99, 111, 109]⟩ := by decide +kernel
theorem al_str2 : strOfNums cText = ⟨#[51, 48, 50]⟩ := by decide +kernel

set_option maxHeartbeats 2000000 in
set_option maxRecDepth 20000 in
theorem alive04 (w : World) : Calls Try.prog 6 #[] w fun e w' => e = .returned (.bool true) ∧ Below w.heap.size w w' := by
  have hcv := Lib.run_convert_bytes_const (P := Try.prog) w 22 5 (aText.map (Value.int .u8)).toArray 15 15 Try.underlying22 Try.underlying5
  simp only [aText, List.map_cons, List.map_nil] at hcv
  go_enter Try.func6, Try.ntmps6
  go_wp2_with fail
  refine (enc_any _ aText _ (Sl.mark aText rfl rfl rfl aFit (by decide)) (by decide)).mono ?_
  rintro e w1 ⟨bv, rfl, hb, hb1⟩
  rw [al_enc] at hb
  have hB1 := ((Below.refl w.heap.size w).alloc (Nat.le_refl _) (.cells (aText.map (Value.int .u8)).toArray 5 (15, 16))).trans (hb1.mono (by simp))
  have HS := Lib.hid (And.intro hb hB1)
  clear hb hb1 hB1 hcv
  go_wp2_with fail
  refine (dec_is bv aBytes 15 w1 HS.out.1 (by decide) _ _ al_dec).mono ?_
  rintro e w2 ⟨sv, rfl, hs, hb2⟩
  have HS2 := Lib.hid (And.intro (HS.out.1.below hb2) (And.intro hs (HS.out.2.trans (hb2.mono HS.out.2.size))))
  clear hs hb2 HS
  go_wp2_with fail
  refine (dec_is bv aBytes 14 w2 HS2.out.1 (by decide) _ _ al_full).mono ?_
  rintro e w3 ⟨xv, rfl, _, hb3⟩
  have HS3 := Lib.hid (And.intro (HS2.out.1.below hb3) (And.intro (HS2.out.2.1.below hb3) (HS2.out.2.2.trans (hb3.mono HS2.out.2.2.size))))
  clear hb3 HS2
  have grow : Hid (∀ (W W' : World) (o : Obj), Below (W.alloc o).heap.size (W.alloc o) W' → (Sl .u8 W bv aBytes ∧ Sl .u8 W sv aText ∧ Below w.heap.size w W) → (Sl .u8 W' bv aBytes ∧ Sl .u8 W' sv aText ∧ Below w.heap.size w W')) := by
    rintro W W' o h ⟨h1, h2, h3⟩
    exact ⟨(h1.alloc o).below h, (h2.alloc o).below h, (h3.alloc h3.size o).trans (h.mono (by have := h3.size; simp; omega))⟩
  go_wp2_with fail
  refine (dec_is _ [255, 255, 255, 255] 99 _ (Sl.lit [255, 255, 255, 255] rfl rfl rfl (by decide) (by decide)) (by decide) _ _ al_end).mono ?_
  rintro e w4 ⟨yv, rfl, _, hb4⟩
  have HS4 := Lib.hid (grow.out _ _ _ hb4 HS3.out)
  clear hb4 HS3
  go_wp2_with fail
  refine (dec_is _ [24] 99 _ (Sl.lit [24] rfl rfl rfl (by decide) (by decide)) (by decide) _ _ al_rest).mono ?_
  rintro e w5 ⟨zv, rfl, _, hb5⟩
  have HS5 := Lib.hid (grow.out _ _ _ hb5 HS4.out)
  clear hb5 HS4
  go_wp2_with fail
  refine (dec_is _ [100, 2] 9 _ (Sl.lit [100, 2] rfl rfl rfl (by decide) (by decide)) (by decide) _ _ al_dec2).mono ?_
  rintro e w6 ⟨tv, rfl, ht, hb6⟩
  have HS6 := Lib.hid (And.intro ht (grow.out _ _ _ hb6 HS5.out))
  clear ht hb6 HS5 grow
  go_wp2_with fail
  refine (same_any bv _ aBytes aBytes _ (HS6.out.2.1.alloc _) (Sl.lit aBytes rfl rfl rfl (by decide) (by decide))).mono ?_
  rintro e w' ⟨rfl, n7, rfl⟩
  rw [decide_eq_true rfl]
  have HS7 : Hid (Sl .u8 ((w6.alloc (.cells (aBytes.map (Value.int .u8)).toArray 5)).drewN n7) tv cText ∧ Sl .u8 ((w6.alloc (.cells (aBytes.map (Value.int .u8)).toArray 5)).drewN n7) sv aText ∧ Below w.heap.size w ((w6.alloc (.cells (aBytes.map (Value.int .u8)).toArray 5)).drewN n7)) :=
    ⟨(HS6.out.1.alloc _).drewN _, (HS6.out.2.2.1.alloc _).drewN _, below_drewN (HS6.out.2.2.2.alloc HS6.out.2.2.2.size _) _⟩
  obtain ⟨W7, hW7⟩ : ∃ W7, (w6.alloc (.cells (aBytes.map (Value.int .u8)).toArray 5)).drewN n7 = W7 := ⟨_, rfl⟩
  rw [hW7] at HS7 ⊢
  clear hW7 HS6
  rcases HS7.out.2.1.parts with ⟨h0, _⟩ | ⟨_, b1, o1, c1, rfl, _, _, _, hcs⟩
  · cases h0
  rcases HS7.out.1.parts with ⟨h0, _⟩ | ⟨_, b2, o2, c2, rfl, _, _, hlt2, hct⟩
  · cases h0
  have hc1 := run_convert_bytes_arg (P := Try.prog) W7 22 5 Try.underlying22 Try.underlying5 b1 o1 15 c1 aText rfl hcs 9 Try.underlying9
  have hc2 := run_convert_bytes_arg (P := Try.prog) W7 22 5 Try.underlying22 Try.underlying5 b2 o2 3 c2 cText rfl hct 9 Try.underlying9
  rw [al_str] at hc1
  rw [al_str2] at hc2
  clear hcs hct hlt2
  simp only [show aText.length = 15 from rfl, show cText.length = 3 from rfl]
  go_wp2_with fail
  refine (Length_any 97 _).mono ?_
  rintro e w' ⟨rfl, n8, rfl⟩
  rw [al_len]
  go_wp2_with fail
  refine (Code_any 97 _).mono ?_
  rintro e w9 ⟨rfl, hb9⟩
  rw [al_code]
  have HB9 := Lib.hid ((below_drewN HS7.out.2.2 n8).trans (hb9.mono (by exact HS7.out.2.2.size)))
  clear hb9 hc1 hc2
  go_wp2_with fail
  refine (Code_any 256 _).mono ?_
  rintro e w10 ⟨rfl, hb10⟩
  rw [al_codeE]
  have HB10 := Lib.hid (HB9.out.trans (hb10.mono HB9.out.size))
  clear hb10 HB9
  have hcv := Lib.run_convert_bytes_const (P := Try.prog) w10 22 5 (cText.map (Value.int .u8)).toArray 3 3 Try.underlying22 Try.underlying5
  simp only [cText, List.map_cons, List.map_nil] at hcv
  go_wp2_with fail
  refine (Size_any _ cText _ (Sl.mark cText rfl rfl rfl cFit (by decide)) (by decide)).mono ?_
  rintro e w' ⟨rfl, n11, rfl⟩
  rw [al_size]
  go_wp2_with fail
  go_ret
  exact ⟨rfl, below_drewN (HB10.out.alloc HB10.out.size _) _⟩
end Go.Proofs.Ytlmecnnednejmaa
