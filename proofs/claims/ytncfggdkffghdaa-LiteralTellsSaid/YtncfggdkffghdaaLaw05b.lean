
/-
  The statement LiteralTells: its walk.
-/
import Derived.Test.YtncfggdkffghdaaLaw05
namespace Go.Proofs.Ytncfggdkffghdaa
open Go.RowKit

set_option maxHeartbeats 1000000 in
theorem tells5_any (s : ByteArray) (v : Value) (zs : List Int) (most : Int) (w : World) (hv : Sl .u8 w v zs) (hsm : s.size ≤ maxLen) :
    Calls Try.prog 3 #[.string s, v, .int .i64 most] w fun e w' => e = .returned (.bool true) ∧ Below w.heap.size w w' := by
  obtain ⟨a, cap, rfl, _⟩ := id hv
  have hmax := hv.len
  unfold maxLen at hmax hsm
  by_cases hs : 300 < s.size
  · go_enter Try.func3, Try.ntmps3
    go_wp2_with (go_at_call 5; refine (alive05 _).mono ?_; rintro e w' ⟨rfl, hb⟩)
    go_ret
    exact ⟨rfl, hb⟩
  by_cases h : 300 < zs.length
  · go_enter Try.func3, Try.ntmps3
    go_wp2_with (go_at_call 5; refine (alive05 _).mono ?_; rintro e w' ⟨rfl, hb⟩)
    go_ret
    exact ⟨rfl, hb⟩
  have hz : zs.length ≤ 1000000 := by omega
  have HV := Lib.hid hv
  clear hv
  obtain ⟨sq, hsq⟩ : ∃ sq, ((zs.length : Int) % 2 == 1) = sq := ⟨_, rfl⟩
  have HSQ := Lib.hid hsq
  clear hsq
  obtain ⟨E, hE⟩ : ∃ E, (encL sq s).2 = E := ⟨_, rfl⟩
  have HE := Lib.hid hE
  clear hE
  obtain ⟨t, p, e, hD⟩ : ∃ t p e, decL most zs = (t, p, e) := ⟨_, _, _, rfl⟩
  have HD := Lib.hid hD
  clear hD
  go_enter Try.func3, Try.ntmps3
  go_wp2_with fail
  rw [HSQ.out]
  refine (litEnc_any sq s _).mono ?_
  rintro e w1 ⟨x, rfl, hx, hb1⟩
  rw [HE.out]
  have H1 := Lib.hid (And.intro hx (And.intro (HV.out.below hb1) hb1))
  clear hx hb1 HV
  go_wp2_with fail
  rw [HSQ.out]
  refine (refEnc5_any sq s _).mono ?_
  rintro e w2 ⟨y, rfl, hy, hb2⟩
  rw [HE.out]
  have H2 := Lib.hid (And.intro hy (And.intro (H1.out.1.below hb2) (And.intro (H1.out.2.1.below hb2) (H1.out.2.2.trans (hb2.mono H1.out.2.2.size)))))
  clear hy hb2 H1
  go_wp2_with fail
  refine (same_any x y _ _ _ H2.out.2.1 H2.out.1).mono ?_
  rintro e w' ⟨rfl, n3, rfl⟩
  rw [decide_eq_true rfl]
  have H3 : Hid (Sl .u8 (w2.drewN n3) (.slice a zs.length cap) zs ∧ Below w.heap.size w (w2.drewN n3)) := ⟨H2.out.2.2.1.drewN _, below_drewN H2.out.2.2.2 _⟩
  clear H2
  go_wp2_with fail
  refine (short_any s _ (by omega)).mono ?_
  rintro e w4 ⟨x', rfl, hx, hb4⟩
  have H4 := Lib.hid (And.intro hx (And.intro (H3.out.1.below hb4) (H3.out.2.trans (hb4.mono H3.out.2.size))))
  clear hx hb4 H3
  go_wp2_with fail
  refine (refShort_any s _ (by omega)).mono ?_
  rintro e w5 ⟨y', rfl, hy, hb5⟩
  have H5 := Lib.hid (And.intro hy (And.intro (H4.out.1.below hb5) (And.intro (H4.out.2.1.below hb5) (H4.out.2.2.trans (hb5.mono H4.out.2.2.size)))))
  clear hy hb5 H4
  go_wp2_with fail
  refine (same_any x' y' _ _ _ H5.out.2.1 H5.out.1).mono ?_
  rintro e w' ⟨rfl, n6, rfl⟩
  rw [decide_eq_true rfl]
  have H6 : Hid (Sl .u8 (w5.drewN n6) (.slice a zs.length cap) zs ∧ Below w.heap.size w (w5.drewN n6)) := ⟨H5.out.2.2.1.drewN _, below_drewN H5.out.2.2.2 _⟩
  clear H5
  go_wp2_with fail
  refine (litDec_any _ zs most _ H6.out.1 hz).mono ?_
  rintro e w7 ⟨rfl, hb7⟩
  rw [HD.out, tupL]
  have H7 := Lib.hid (And.intro (H6.out.1.below hb7) (H6.out.2.trans (hb7.mono H6.out.2.size)))
  clear hb7 H6
  go_wp2_with fail
  refine (refDec5_any _ zs most _ H7.out.1 hz).mono ?_
  rintro e w8 ⟨rfl, hb8⟩
  rw [HD.out, tupL]
  have H8 := Lib.hid (H7.out.2.trans (hb8.mono H7.out.2.size))
  clear hb8 H7
  go_wp2_with fail
  refine (alive05 _).mono ?_
  rintro e w9 ⟨rfl, hb9⟩
  have H9 := Lib.hid (H8.out.trans (hb9.mono H8.out.size))
  clear hb9 H8
  go_wp2_with fail
  go_ret
  exact ⟨rfl, H9.out⟩
end Go.Proofs.Ytncfggdkffghdaa
