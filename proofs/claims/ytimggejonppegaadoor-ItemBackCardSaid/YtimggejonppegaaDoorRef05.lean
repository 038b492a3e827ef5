
/-
  The document's own answers for layer 5: a text's bytes, the shorter ones.
-/
import Derived.Test.YtimggejonppegaaDoorRef03
import Derived.Test.YtimggejonppegaaDoorRef04Enc
import Derived.Test.YtimggejonppegaaDoorLit
namespace Go.Proofs.YtimggejonppegaaDoor
open Go.RowKit

set_option maxHeartbeats 1000000 in
theorem refEnc5_any (sq : Bool) (s : ByteArray) (w : World) :
    Calls Tryd.prog 37 #[.string s, .bool sq] w fun e w' => ∃ v, e = .returned (.tuple #[v, .int .i64 (encL sq s).2]) ∧ Sl .u8 w' v (encL sq s).1 ∧ Below w.heap.size w w' := by
  by_cases hs : s.size ≤ 65536
  · have HE := Lib.hid (show encL sq s = (lit sq (nums s), 0) by rw [encL, if_pos hs])
    have hz : (nums s).length ≤ 1000000 := by rw [nums_length]; omega
    have hf := nums_fit s
    have HOK := Lib.hid (encOk_lit sq hf hz)
    have hbl := body_length sq hf
    have hhl := head_length sq hf hz
    have d1 : decide (65536 < (s.size : Int)) = false := decide_eq_false (by omega)
    obtain ⟨v, W, hc, hv, hb⟩ := str_bytes (P := Tryd.prog) w 9 24 5 s Tryd.underlying9 Tryd.underlying24 Tryd.underlying5 (by unfold maxLen; omega)
    have HS := Lib.hid (And.intro hv hb)
    clear hv hb
    cases sq
    · obtain ⟨ax, cx, hxe, _⟩ := id HS.out.1
      subst hxe
      obtain ⟨NX, hNX⟩ : ∃ NX, (body false (nums s)).length = NX := ⟨_, rfl⟩
      have HNX := Lib.hid hNX
      have hx : (nums s).length = NX := hNX
      rw [hNX] at HOK hbl
      rw [hx] at HS hc
      clear hNX hx
      go_enter Tryd.func37, Tryd.ntmps37
      go_wp2_with fail
      refine (refEnc3_own NX 7 (above false) _ HOK.out).mono ?_
      rintro e w2 ⟨y, rfl, hO, hb2⟩
      obtain ⟨ay, cy, rfl, _⟩ := owned_shape hO
      have hfit2 := HOK.out.fit
      have HB2 : Hid (Sl .u8 w2 (.slice ax NX cx) (body false (nums s)) ∧ Below w.heap.size w w2) := ⟨HS.out.1.below hb2, HS.out.2.trans (hb2.mono HS.out.2.size)⟩
      have hsz := hb2.size
      have hw1 := HS.out.2.size
      have hh : (encP (fullP 7) (above false) NX).length ≤ 5 := by rw [← HNX.out]; exact hhl.2
      clear HS hb2
      go_wp2_with (at_builtin; refine app_ints rfl (.tmp 26) (.tmp 27) 24 rfl W.heap.size 5 .u8 1 Tryd.underlying24 Tryd.info5' _ _ (encP (fullP 7) (above false) NX) rfl hO _ (body false (nums s)) rfl HB2.out.1 (by rw [HNX.out]; omega) (by rw [HNX.out]; unfold maxLen; omega) hsz ?_; intro v3 w3 hO3 hb3 hg3; obtain ⟨a3, c3, rfl, _⟩ := owned_shape hO3)
      go_ret2
      rw [HE.out]
      refine ⟨_, rfl, Sl.of_own (base := W.heap.size) (e := 5) (zs := lit false (nums s)) (n := (lit false (nums s)).length) ?_ (lit_fit false hf hz) ?_, ?_⟩
      · have e : lit false (nums s) = encP (fullP 7) (above false) NX ++ body false (nums s) := by rw [lit, head, HNX.out]
        rw [e, List.length_append]
        exact hO3
      · have := lit_length false hf hz; unfold maxLen; omega
      · exact HB2.out.2.trans (hb3.mono hw1)
    · obtain ⟨v2, W2, hc2, hv2, hb2⟩ := str_bytes (P := Tryd.prog) W 9 24 5 s Tryd.underlying9 Tryd.underlying24 Tryd.underlying5 (by unfold maxLen; omega)
      have HS2 := Lib.hid (And.intro hv2 (HS.out.2.trans (hb2.mono HS.out.2.size)))
      clear hv2 hb2 HS
      go_enter Tryd.func37, Tryd.ntmps37
      go_wp2_with fail
      refine (refEnc_any v2 (nums s) _ HS2.out.1 hz).mono ?_
      rintro e w1 ⟨x, rfl, hx, hb1⟩
      have HS : Hid (Sl .u8 w1 x (body true (nums s)) ∧ Below w.heap.size w w1) := ⟨hx, HS2.out.2.trans (hb1.mono HS2.out.2.size)⟩
      obtain ⟨ax, cx, rfl, _⟩ := id hx
      obtain ⟨NX, hNX⟩ : ∃ NX, (body true (nums s)).length = NX := ⟨_, rfl⟩
      have HNX := Lib.hid hNX
      have hxn : (enc (nums s)).length = NX := hNX
      rw [hNX] at HOK hbl
      rw [hxn] at HS ⊢
      clear hNX hx hb1 HS2 hxn
      go_wp2_with fail
      refine (refEnc3_own NX 7 (above true) _ HOK.out).mono ?_
      rintro e w2 ⟨y, rfl, hO, hb2⟩
      obtain ⟨ay, cy, rfl, _⟩ := owned_shape hO
      have HB2 : Hid (Sl .u8 w2 (.slice ax NX cx) (body true (nums s)) ∧ Below w.heap.size w w2) := ⟨HS.out.1.below hb2, HS.out.2.trans (hb2.mono HS.out.2.size)⟩
      have hsz := hb2.size
      have hw1 := HS.out.2.size
      have hh : (encP (fullP 7) (above true) NX).length ≤ 5 := by rw [← HNX.out]; exact hhl.2
      clear HS hb2
      go_wp2_with (at_builtin; refine app_ints rfl (.tmp 26) (.tmp 27) 24 rfl w1.heap.size 5 .u8 1 Tryd.underlying24 Tryd.info5' _ _ (encP (fullP 7) (above true) NX) rfl hO _ (body true (nums s)) rfl HB2.out.1 (by rw [HNX.out]; omega) (by rw [HNX.out]; unfold maxLen; omega) hsz ?_; intro v3 w3 hO3 hb3 hg3; obtain ⟨a3, c3, rfl, _⟩ := owned_shape hO3)
      go_ret2
      rw [HE.out]
      refine ⟨_, rfl, Sl.of_own (base := w1.heap.size) (e := 5) (zs := lit true (nums s)) (n := (lit true (nums s)).length) ?_ (lit_fit true hf hz) ?_, ?_⟩
      · have e : lit true (nums s) = encP (fullP 7) (above true) NX ++ body true (nums s) := by rw [lit, head, HNX.out]
        rw [e, List.length_append]
        exact hO3
      · have := lit_length true hf hz; unfold maxLen; omega
      · exact HB2.out.2.trans (hb3.mono hw1)
  · have HE := Lib.hid (show encL sq s = ([], 1) by rw [encL, if_neg hs])
    have d1 : decide (65536 < (s.size : Int)) = true := decide_eq_true (by omega)
    clear hs
    go_enter Tryd.func37, Tryd.ntmps37
    go_wp2_with fail
    go_ret2
    rw [HE.out]
    exact ⟨_, rfl, Sl.nil _ _, Below.refl _ _⟩

theorem refShort_any (s : ByteArray) (w : World) (hs : s.size ≤ 65536) :
    Calls Tryd.prog 20 #[.string s] w fun e w' => ∃ v, e = .returned v ∧ Sl .u8 w' v (litS (nums s)) ∧ Below w.heap.size w w' := by
  have HF := Lib.hid (show encL false s = (lit false (nums s), 0) by rw [encL, if_pos hs])
  have HT := Lib.hid (show encL true s = (lit true (nums s), 0) by rw [encL, if_pos hs])
  have HI := Lib.hid (litS_is (nums s))
  go_enter Tryd.func20, Tryd.ntmps20
  go_wp2_with fail
  refine (refEnc5_any false s _).mono ?_
  rintro e w1 ⟨x, rfl, hx, hb1⟩
  rw [HF.out] at hx ⊢
  have HS1 := Lib.hid (And.intro hx hb1)
  obtain ⟨ax, cx, rfl, _⟩ := id hx
  clear hx hb1
  go_wp2_with fail
  refine (refEnc5_any true s _).mono ?_
  rintro e w2 ⟨y, rfl, hy, hb2⟩
  rw [HT.out] at hy ⊢
  have HS2 := Lib.hid (And.intro hy (And.intro (HS1.out.1.below hb2) (HS1.out.2.trans (hb2.mono HS1.out.2.size))))
  obtain ⟨ay, cy, rfl, _⟩ := id hy
  clear hy hb2 HS1
  obtain ⟨A, hA⟩ : ∃ A, (lit false (nums s)).length = A := ⟨_, rfl⟩
  obtain ⟨B, hB⟩ : ∃ B, (lit true (nums s)).length = B := ⟨_, rfl⟩
  simp only [hA, hB] at HS2 HI ⊢
  by_cases h : A ≤ B
  · have HE : Hid (litS (nums s) = lit false (nums s)) := HI.out.trans (if_pos h)
    have d2 : decide ((A : Int) ≤ (B : Int)) = true := decide_eq_true (by omega)
    go_wp2_with fail
    go_ret
    rw [HE.out]
    exact ⟨_, rfl, HS2.out.2⟩
  · have HE : Hid (litS (nums s) = lit true (nums s)) := HI.out.trans (if_neg h)
    have d2 : decide ((A : Int) ≤ (B : Int)) = false := decide_eq_false (by omega)
    go_wp2_with fail
    go_ret
    rw [HE.out]
    exact ⟨_, rfl, HS2.out.1, HS2.out.2.2⟩
end Go.Proofs.YtimggejonppegaaDoor
