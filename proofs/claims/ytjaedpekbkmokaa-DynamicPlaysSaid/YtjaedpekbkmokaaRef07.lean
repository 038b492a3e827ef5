
/-
  Layer 7's reference: Sum, fit, Get.
-/
import Derived.Test.YtjaedpekbkmokaaDynOps
import Derived.Deep.LoopGhost
namespace Go.Proofs.Ytjaedpekbkmokaa
open Go.RowKit

theorem szF_le {fs : List Fd} {k : Nat} {f : Fd} (h : fs[k]? = some f) : szF f ≤ sumF fs := by
  have := sumF_take_drop fs k
  have := sumF_drop h
  omega
theorem small_of {f : Fd} (h : szF f ≤ 1000000000) : small f := by unfold szF at h; unfold small; omega
set_option maxHeartbeats 1000000 in
theorem refSum_any (v : Value) (fs : List Fd) (w : World) (h : SlD w v fs) (hz : sumF fs ≤ 1000000000) :
    Calls Try.prog 27 #[v] w fun e w' => e = .returned (.int .i64 (sumF fs : Nat)) ∧ Below w.heap.size w w' := by
  obtain ⟨a, c, rfl, hc1, hc2⟩ := h.shape
  unfold maxLen at hc2
  have hl := sumF_len fs
  obtain ⟨N, hN⟩ : ∃ N, N = fs.length := ⟨_, rfl⟩
  rw [← hN] at h hc1 hl ⊢
  have HN := Lib.hid hN
  clear hN
  go_enter Try.func27, Try.ntmps27
  go_wp2_with fail
  go_loopg [3, 4] N (fun q s3 s4 wr => ∃ k : Nat, k + q = N ∧ s4 = .int .i64 k ∧ (∃ z : Nat, s3 = .int .i64 z ∧ Hid (z = sumF (fs.take k))) ∧ Hid (Below w.heap.size w wr))
  case atStart => exact ⟨0, by omega, rfl, ⟨0, rfl, Lib.hid rfl⟩, Lib.hid (Below.refl _ _)⟩
  case round =>
    obtain ⟨k, hkq, rfl, ⟨z, rfl, HZ⟩, HB⟩ := hrel
    have HKQ := Lib.hid hkq
    have hk : k ≤ N := by omega
    clear hkq
    by_cases hlt : k < N
    · obtain ⟨f, hf⟩ : ∃ f, fs[k]? = some f := ⟨fs[k]'(by rw [← HN.out]; exact hlt), List.getElem?_eq_getElem (by rw [← HN.out]; exact hlt)⟩
      have hzk : z ≤ 1000000000 := by
        have := sumF_take_drop fs k
        have := HZ.out
        omega
      have hfs := szF_le hf
      have hsm : small f := small_of (by omega)
      obtain ⟨b, off, rfl, hbl, hcell⟩ := (h.below HB.out).at_ (i := k) (by rw [← HN.out]; exact hlt)
      obtain ⟨c0, c1⟩ := hcell f hf
      have HST := Lib.hid (sumF_take_succ hf)
      obtain ⟨S, hS⟩ : ∃ S : Nat, S = szF f := ⟨_, rfl⟩
      have hsa := refSize_any f hsm
      rw [← hS] at hfs hsa
      have HS := Lib.hid hS
      have HSA := Lib.hid hsa
      clear hcell hf hS hsa
      go_wp2_with fail
      refine (HSA.out _).mono ?_
      rintro e w1 ⟨rfl, hb1⟩
      have HB1 := Lib.hid (HB.out.trans (hb1.mono HB.out.size))
      clear hb1
      go_wp2_with fail
      go_roundg (N - (k + 1))
      case measure => have := HKQ.out; omega
      case rel => exact ⟨k + 1, by omega, by go_num, ⟨z + S, by go_num, (by show _ = _; rw [HST.out, ← HZ.out, HS.out])⟩, HB1⟩
    · obtain rfl : k = N := by omega
      have e : z = sumF fs := by
        rw [HZ.out, HN.out, List.take_of_length_le (Nat.le_refl _)]
      have HE := Lib.hid e
      clear hlt hk
      go_wp2_with fail
      go_ret
      exact ⟨by rw [← HE.out]; rfl, HB.out⟩
/-- what the going through has brought so far -/
def FitAt (w : World) (most : Int) (fs : List Fd) (k : Nat) (u : Value) (W : World) : Prop := Below w.heap.size w W ∧ RowF W w.heap.size u (fs.take k) ∧ fitF most (fs.take k) = fs.take k
theorem fit_stop {most : Int} {fs : List Fd} {k : Nat} {f : Fd} (hf : fs[k]? = some f) (h : fitF most (fs.take k) = fs.take k) (hgo : most < (sumF (fs.take (k + 1)) : Nat)) : fitF most fs = fs.take k := by
  obtain ⟨hl, rfl⟩ := List.getElem?_eq_some_iff.1 hf
  have e := sumF_take_succ hf
  rw [fitF_split fs k h, List.drop_eq_getElem_cons hl, fitF, if_pos (by omega), List.append_nil]
set_option maxHeartbeats 1000000 in
theorem refFit_any (v : Value) (fs : List Fd) (most : Int) (w : World) (h : SlD w v fs) (hz : sumF fs ≤ 1000000000) :
    Calls Try.prog 22 #[v, .int .i64 most] w fun e w' => ∃ v', e = .returned v' ∧ RowF w' w.heap.size v' (fitF most fs) ∧ Below w.heap.size w w' := by
  obtain ⟨i0, hi, hz0, hz1, hz2⟩ := info_parts sizeFld
  obtain ⟨a, c, rfl, hc1, hc2⟩ := h.shape
  unfold maxLen at hc2
  have hl := sumF_len fs
  obtain ⟨N, hN⟩ : ∃ N, N = fs.length := ⟨_, rfl⟩
  rw [← hN] at h hc1 hl ⊢
  have HN := Lib.hid hN
  clear hN
  go_enter Try.func22, Try.ntmps22
  go_wp2_with fail
  go_loopg [5, 6] N (fun q s5 s6 wr => ∃ k : Nat, k + q = N ∧ s6 = .int .i64 k ∧ Hid (FitAt w most fs k s5 wr))
  case atStart => exact ⟨0, by omega, rfl, Lib.hid ⟨Below.refl _ _, RowF.nil _ _, rfl⟩⟩
  case round =>
    obtain ⟨k, hkq, rfl, HF⟩ := hrel
    have HKQ := Lib.hid hkq
    have hk : k ≤ N := by omega
    clear hkq
    obtain ⟨au, cu, eu⟩ := HF.out.2.1.shape
    have hlk : (fs.take k).length = k := by rw [List.length_take, ← HN.out]; omega
    rw [hlk] at eu
    subst eu
    by_cases hlt : k < N
    · obtain ⟨f, hf⟩ : ∃ f, fs[k]? = some f := ⟨fs[k]'(by rw [← HN.out]; exact hlt), List.getElem?_eq_getElem (by rw [← HN.out]; exact hlt)⟩
      obtain ⟨b, off, rfl, hbl, hcell⟩ := (h.below HF.out.1).at_ (i := k) (by rw [← HN.out]; exact hlt)
      have hcell0 := hcell f hf
      have hup := (h.below HF.out.1).upto (hi := k + 1) (by rw [← HN.out]; omega) (by omega)
      obtain ⟨Z, hZ⟩ : ∃ Z : Nat, Z = sumF (fs.take (k + 1)) := ⟨_, rfl⟩
      have hsm := refSum_any _ _ wr hup (by have := sumF_take_drop fs (k + 1); omega)
      rw [← hZ] at hsm
      have HSM := Lib.hid hsm
      have HZ := Lib.hid hZ
      have HFF := Lib.hid hf
      have HC := Lib.hid hcell0
      have ek : ((k + 1 : Nat) : Int) = (k : Int) + 1 := by omega
      clear hcell hcell0 hup hsm hZ hf
      go_wp2_with fail
      refine (HSM.out).mono ?_
      rintro e w1 ⟨rfl, hb1⟩
      have c0 := (hb1.cell (p := ⟨b, off + k * 2, none⟩) hbl).trans HC.out.1
      have c1 := (hb1.cell (p := ⟨b, off + k * 2 + 1, none⟩) hbl).trans HC.out.2
      have HF1 : Hid (FitAt w most fs k (.slice au k cu) w1) := ⟨HF.out.1.trans (hb1.mono HF.out.1.size), HF.out.2.1.below hb1, HF.out.2.2⟩
      clear hb1
      by_cases hgo : most < (Z : Int)
      · have HE := Lib.hid (fit_stop HFF.out HF.out.2.2 (by rw [← HZ.out]; exact hgo))
        have d : decide (most < (Z : Int)) = true := decide_eq_true hgo
        clear hgo
        go_wp2_with fail
        go_ret
        exact ⟨_, rfl, by rw [HE.out]; exact HF1.out.2.1, HF1.out.1⟩
      · have d : decide (most < (Z : Int)) = false := decide_eq_false hgo
        have HE := Lib.hid (fitF_all (most := most) (fs.take (k + 1)) (by rw [← HZ.out]; omega))
        have HT := Lib.hid (show fs.take (k + 1) = fs.take k ++ [f] by rw [List.take_add_one, HFF.out]; rfl)
        have hru := HF1.out.2.1
        unfold RowF at hru
        rw [hlk] at hru
        have hsz1 := HF1.out.1.size
        clear hgo
        go_wp2_with (at_builtin; refine app_row rfl (.tmp 21) (.tmp 26) 46 rfl w.heap.size 32 i0 _ 2 32 Try.underlying46 hi hz0 hz1 hz2 rfl (by decide) (.slice au k cu) k (fcs (fs.take k)) rfl (hru.alloc _) (some ⟨w1.heap.size, 0, none⟩) 1 1 (fcs [f]) rfl (fun h => by cases h) rfl (fun ad hd => by cases hd; exact fcs_one_at _ _ f (FldAt.new _ _ _)) (fcs_oneCell _) (by unfold maxLen; omega) (by omega) (by simp; omega) ?_; intro v2 w2 hown2 hb2 hg2; obtain ⟨a2, c2, rfl, _⟩ := owned_shape hown2; have HO2 := Lib.hid (And.intro hown2 (And.intro hb2 hg2.size)); clear hown2 hb2 hg2)
        go_roundg (N - (k + 1))
        case measure => have := HKQ.out; omega
        case rel =>
          refine ⟨k + 1, by omega, by go_num, ?_⟩
          obtain ⟨hown2, hb2, hs2⟩ := HO2.out
          simp at hs2
          have hbw : Below w.heap.size w1 (w1.alloc (.cells #[.string f.1, .string f.2] 32)) := (Below.refl _ _).alloc hsz1 _
          refine (show FitAt _ _ _ _ _ _ from ⟨HF1.out.1.trans (hbw.trans hb2), ?_, HE.out⟩)
          unfold RowF
          rw [HT.out, List.length_append, hlk, List.length_singleton, fcs_append]
          exact hown2
    · obtain rfl : k = N := by omega
      have HE := Lib.hid (show fitF most fs = fs.take k by
        have := HF.out.2.2
        rwa [List.take_of_length_le (by rw [HN.out]; exact Nat.le_refl _)] at this ⊢)
      clear hlt hk
      go_wp2_with fail
      go_ret
      exact ⟨_, rfl, by rw [HE.out]; exact HF.out.2.1, HF.out.1⟩
end Go.Proofs.Ytjaedpekbkmokaa
