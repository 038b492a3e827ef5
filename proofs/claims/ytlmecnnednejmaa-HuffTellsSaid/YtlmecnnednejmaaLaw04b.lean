/-
  The statement HuffTells: its walk.
-/
import Derived.Test.YtlmecnnednejmaaLaw04a
import Derived.Test.YtlmecnnednejmaaRef04Enc
namespace Go.Proofs.Ytlmecnnednejmaa
open Go.RowKit

set_option maxHeartbeats 1000000 in
theorem tells4_any (c most : Int) (v : Value) (zs : List Int) (w : World) (hv : Sl .u8 w v zs) :
    Calls Try.prog 3 #[.int .i64 c, v, .int .i64 most] w fun e w' => e = .returned (.bool true) ∧ Below w.heap.size w w' := by
  obtain ⟨a, cap, rfl, _⟩ := id hv
  have hmax := hv.len
  unfold maxLen at hmax
  by_cases h : 200 < zs.length
  · go_enter Try.func3, Try.ntmps3
    go_wp2_with (go_at_call 6; refine (alive04 _).mono ?_; rintro e w' ⟨rfl, hb⟩)
    go_ret
    exact ⟨rfl, hb⟩
  · have hz : zs.length ≤ 1000000 := by omega
    obtain ⟨L, hL⟩ : ∃ L, lenZ c = L := ⟨_, rfl⟩
    obtain ⟨K, hK⟩ : ∃ K, codeZ c = K := ⟨_, rfl⟩
    have HL := Lib.hid hL
    have HK := Lib.hid hK
    clear hL hK
    go_enter Try.func3, Try.ntmps3
    go_wp2_with fail
    refine (Length_any c _).mono ?_
    rintro e w' ⟨rfl, n1, rfl⟩
    rw [HL.out]
    go_wp2_with fail
    refine (refLength_any c _).mono ?_
    rintro e w2 ⟨rfl, hb2⟩
    rw [HL.out]
    have HS2 : Hid (Sl .u8 w2 (.slice a zs.length cap) zs ∧ Below w.heap.size w w2) := ⟨(hv.drewN n1).below hb2, (below_drewN (Below.refl _ _) n1).trans hb2⟩
    clear hb2
    go_wp2_with fail
    refine (Code_any c _).mono ?_
    rintro e w3 ⟨rfl, hb3⟩
    rw [HK.out]
    have HS3 := Lib.hid (And.intro (HS2.out.1.below hb3) (HS2.out.2.trans (hb3.mono HS2.out.2.size)))
    clear hb3 HS2
    go_wp2_with fail
    refine (refCode_any c _).mono ?_
    rintro e w4 ⟨rfl, hb4⟩
    rw [HK.out]
    have HS4 := Lib.hid (And.intro (HS3.out.1.below hb4) (HS3.out.2.trans (hb4.mono HS3.out.2.size)))
    clear hb4 HS3
    go_wp2_with fail
    refine (enc_any _ zs _ HS4.out.1 hz).mono ?_
    rintro e w5 ⟨x, rfl, hx, hb5⟩
    have HS5 := Lib.hid (And.intro hx (And.intro (HS4.out.1.below hb5) (HS4.out.2.trans (hb5.mono HS4.out.2.size))))
    clear hx hb5 HS4
    go_wp2_with fail
    refine (refEnc_any _ zs _ HS5.out.2.1 hz).mono ?_
    rintro e w6 ⟨y, rfl, hy, hb6⟩
    have HS6 := Lib.hid (And.intro hy (And.intro (HS5.out.1.below hb6) (And.intro (HS5.out.2.1.below hb6) (HS5.out.2.2.trans (hb6.mono HS5.out.2.2.size)))))
    clear hy hb6 HS5
    go_wp2_with fail
    refine (same_any x y _ _ _ HS6.out.2.1 HS6.out.1).mono ?_
    rintro e w' ⟨rfl, n7, rfl⟩
    rw [decide_eq_true rfl]
    have HS7 : Hid (Sl .u8 (w6.drewN n7) (.slice a zs.length cap) zs ∧ Below w.heap.size w (w6.drewN n7)) := ⟨HS6.out.2.2.1.drewN _, below_drewN HS6.out.2.2.2 _⟩
    clear HS6
    go_wp2_with fail
    refine (dec_any _ zs most _ HS7.out.1 hz).mono ?_
    rintro e w8 ⟨p, rfl, hp, hb8⟩
    have HS8 := Lib.hid (And.intro hp (And.intro (HS7.out.1.below hb8) (HS7.out.2.trans (hb8.mono HS7.out.2.size))))
    clear hp hb8 HS7
    obtain ⟨d2, hd2⟩ : ∃ d, (decB most zs).2 = d := ⟨_, rfl⟩
    have HD2 := Lib.hid hd2
    rw [hd2]
    clear hd2
    go_wp2_with fail
    refine (refDec_any _ zs most _ HS8.out.2.1 hz).mono ?_
    rintro e w9 ⟨q, rfl, hq, hb9⟩
    rw [HD2.out]
    have HS9 := Lib.hid (And.intro hq (And.intro (HS8.out.1.below hb9) (And.intro (HS8.out.2.1.below hb9) (HS8.out.2.2.trans (hb9.mono HS8.out.2.2.size)))))
    clear hq hb9 HS8
    go_wp2_with fail
    refine (same_any p q _ _ _ HS9.out.2.1 HS9.out.1).mono ?_
    rintro e w' ⟨rfl, n10, rfl⟩
    rw [decide_eq_true rfl]
    go_wp2_with fail
    refine (alive04 _).mono ?_
    rintro e w11 ⟨rfl, hb11⟩
    have HS11 : Hid (Sl .u8 w11 (.slice a zs.length cap) zs ∧ Below w.heap.size w w11) := ⟨(HS9.out.2.2.1.drewN n10).below hb11, (below_drewN HS9.out.2.2.2 n10).trans (hb11.mono HS9.out.2.2.2.size)⟩
    clear hb11 HS9
    go_wp2_with fail
    refine (Size_any _ zs _ HS11.out.1 hz).mono ?_
    rintro e w' ⟨rfl, n12, rfl⟩
    go_wp2_with fail
    refine (refSize_any _ zs _ (HS11.out.1.drewN n12) hz).mono ?_
    rintro e w13 ⟨rfl, hb13⟩
    have HB13 := Lib.hid ((below_drewN HS11.out.2 n12).trans (hb13.mono (by exact HS11.out.2.size)))
    clear hb13
    go_wp2_with fail
    go_ret
    exact ⟨rfl, HB13.out⟩
end Go.Proofs.Ytlmecnnednejmaa
