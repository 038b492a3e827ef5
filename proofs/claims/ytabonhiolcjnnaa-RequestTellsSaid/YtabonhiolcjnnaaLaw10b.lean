
/-
  Layer 10's statement: RequestTells.
-/
import Derived.Test.YtabonhiolcjnnaaLaw10a
namespace Go.Proofs.Ytabonhiolcjnnaa
set_option maxRecDepth 20000
open Go.RowKit

set_option maxHeartbeats 4000000 in
theorem tells10_any (v : Value) (fs : List Fd) (s : ByteArray) (w : World) (h : SlD w v fs) :
    Calls Try.prog 3 #[v, .string s] w fun e w' => e = .returned (.bool true) ∧ Below w.heap.size w w' := by
  have HS := Lib.hid h
  have HF := Lib.hid (fits10_any v fs w h)
  obtain ⟨a, c, rfl, hc1, hc2⟩ := h.shape
  clear h
  obtain ⟨ok, hok⟩ : ∃ ok, fitB fs = ok := ⟨_, rfl⟩
  rw [hok] at HF
  obtain ⟨x, hx⟩ : ∃ x : Int, x = (s.size : Int) := ⟨_, rfl⟩
  have hl1 : ∀ W, (Builtin.len_ #[9] 3 #[.string s]).run Try.prog W = .ok (.int .i64 x) W := fun W => by
    rw [run_len_string W _ _ s Try.underlying9, hx]; rfl
  by_cases hg : ok = true ∧ x ≤ 300
  · obtain ⟨rfl, hle⟩ := hg
    have hm := fitB_mild hok
    have HM := Lib.hid hm.1
    have HL := Lib.hid (show fs.length ≤ 1000 by have := hm.2; omega)
    have HX := Lib.hid (show s.size ≤ 1000000 by omega)
    have d1 : decide (300 < x) = false := decide_eq_false (by omega)
    clear hm hok hx hle
    go_enter Try.func3, Try.ntmps3
    go_wp2_with fail
    refine HF.out.mono ?_
    rintro e w0 ⟨rfl, rfl⟩
    go_wp2_with fail
    refine (pName_any s _ HX.out).mono ?_
    rintro e w1 ⟨rfl, hb⟩
    have H1 := Lib.hid hb
    clear hb
    go_wp2_with fail
    refine (refName_any s _ HX.out).mono ?_
    rintro e w2 ⟨rfl, rfl⟩
    have q1 : (tokB true (nums s) == tokB true (nums s)) = true := beq_self_eq_true _
    go_wp2_with fail
    refine (pValue_any s _ HX.out).mono ?_
    rintro e w3 ⟨rfl, hb⟩
    have H3 := Lib.hid (H1.out.trans (hb.mono H1.out.size))
    clear hb H1
    go_wp2_with fail
    refine (refValue_any s _ HX.out).mono ?_
    rintro e w4 ⟨rfl, rfl⟩
    have q2 : (valB (nums s) == valB (nums s)) = true := beq_self_eq_true _
    go_wp2_with fail
    refine (alive10 _).mono ?_
    rintro e w5 ⟨rfl, hb⟩
    have H5 := Lib.hid (H3.out.trans (hb.mono H3.out.size))
    clear hb H3
    go_wp2_with fail
    refine (pReq_any _ fs _ (HS.out.below H5.out) HM.out HL.out).mono ?_
    rintro e w6 ⟨rfl, hb⟩
    have H6 := Lib.hid (H5.out.trans (hb.mono H5.out.size))
    clear hb H5
    go_wp2_with fail
    refine (refReq_any _ fs _ (HS.out.below H6.out) HM.out).mono ?_
    rintro e w7 ⟨rfl, hb⟩
    have H7 := Lib.hid (H6.out.trans (hb.mono H6.out.size))
    clear hb H6
    go_wp2_with fail
    refine (pTrail_any _ fs _ (HS.out.below H7.out) HM.out HL.out).mono ?_
    rintro e w8 ⟨rfl, hb⟩
    have H8 := Lib.hid (H7.out.trans (hb.mono H7.out.size))
    clear hb H7
    go_wp2_with fail
    refine (refTrail_any _ fs _ (HS.out.below H8.out) HM.out).mono ?_
    rintro e w9 ⟨rfl, hb⟩
    have H9 := Lib.hid (H8.out.trans (hb.mono H8.out.size))
    clear hb H8
    go_wp2_with fail
    refine (pResp_any _ fs _ (HS.out.below H9.out) HM.out HL.out).mono ?_
    rintro e w10 ⟨rfl, hb⟩
    have H10 := Lib.hid (H9.out.trans (hb.mono H9.out.size))
    clear hb H9
    go_wp2_with fail
    refine (refResp_any _ fs _ (HS.out.below H10.out) HM.out).mono ?_
    rintro e w11 ⟨rfl, hb⟩
    have H11 := Lib.hid (H10.out.trans (hb.mono H10.out.size))
    clear hb H10
    go_wp2_with fail
    refine (pLen_any _ fs _ (HS.out.below H11.out) HM.out HL.out).mono ?_
    rintro e w12 ⟨rfl, hb⟩
    have H12 := Lib.hid (H11.out.trans (hb.mono H11.out.size))
    clear hb H11
    go_wp2_with fail
    refine (refLen_any _ fs _ (HS.out.below H12.out) HM.out).mono ?_
    rintro e w13 ⟨rfl, rfl⟩
    go_wp2_with fail
    go_ret
    exact ⟨rfl, H12.out⟩
  · cases ok
    · clear hg hok hx
      go_enter Try.func3, Try.ntmps3
      go_wp2_with fail
      refine HF.out.mono ?_
      rintro e w0 ⟨rfl, rfl⟩
      go_wp2_with fail
      refine (alive10 _).mono ?_
      rintro e w5 ⟨rfl, hb⟩
      have HB := Lib.hid hb
      clear hb
      go_wp2_with fail
      go_ret
      exact ⟨rfl, HB.out⟩
    · have d1 : decide (300 < x) = true := decide_eq_true (by
        by_cases q : x ≤ 300
        · exact absurd ⟨rfl, q⟩ hg
        · omega)
      clear hg hok hx
      go_enter Try.func3, Try.ntmps3
      go_wp2_with fail
      refine HF.out.mono ?_
      rintro e w0 ⟨rfl, rfl⟩
      go_wp2_with fail
      refine (alive10 _).mono ?_
      rintro e w5 ⟨rfl, hb⟩
      have HB := Lib.hid hb
      clear hb
      go_wp2_with fail
      go_ret
      exact ⟨rfl, HB.out⟩
end Go.Proofs.Ytabonhiolcjnnaa
