
/-
  Layer 10's reference: Response; the law's Fits.
-/
import Derived.Test.YtabonhiolcjnnaaReqReq
namespace Go.Proofs.Ytabonhiolcjnnaa
set_option maxRecDepth 20000
open Go.RowKit

set_option maxHeartbeats 2000000 in
theorem refResp_any (v : Value) (fs : List Fd) (w : World) (h : SlD w v fs) (hm : Mild fs) :
    Calls Try.prog 15 #[v] w fun e w' => e = .returned (.bool (respB fs)) ∧ Below w.heap.size w w' := by
  obtain ⟨a, c, rfl, hc1, hc2⟩ := h.shape
  unfold maxLen at hc2
  cases fs with
  | nil =>
    go_enter Try.func15, Try.ntmps15
    go_wp2_with fail
    go_ret
    exact ⟨rfl, Below.refl _ _⟩
  | cons f r =>
    obtain ⟨N, hN⟩ : ∃ N, N = (f :: r).length := ⟨_, rfl⟩
    have HN := Lib.hid hN
    have hp : 1 ≤ N := by rw [hN]; simp
    rw [← hN] at h hc1 ⊢
    obtain ⟨b, off, rfl, hbl, hcell⟩ := h.at_ (i := 0) (by simp)
    obtain ⟨c0, c1⟩ := hcell f rfl
    rw [Nat.zero_mul, Nat.add_zero] at c0 c1
    obtain ⟨tl, htl, hsl⟩ := SlD.from_ (P := Try.prog) (t := 22) slcFd (fun _ => by kernel_rfl) h 1 (by rw [← hN]; exact hp)
    have htl : ∀ (kl : IntKind) (w1 : World), (Instr.slice 22 (.slice (some ⟨b, off, none⟩) N c) (some (.int kl (1 : Int))) none none).run Try.prog w1 = .ok tl w1 := htl
    have HTL := Lib.hid (show SlD w tl r from hsl)
    have HM := Lib.hid hm
    obtain ⟨sz, hsz⟩ : ∃ sz : Int, sz = (f.2.size : Int) := ⟨_, rfl⟩
    have hln : ∀ W, (Builtin.len_ #[9] 3 #[.string f.2]).run Try.prog W = .ok (.int .i64 sz) W := fun W => by
      rw [run_len_string W _ _ f.2 Try.underlying9, hsz]; rfl
    obtain ⟨n, hn⟩ : ∃ n, numB (nums f.2) = n := ⟨_, rfl⟩
    obtain ⟨t, ht⟩ : ∃ t, trailB r = t := ⟨_, rfl⟩
    obtain ⟨x1, e1⟩ : ∃ x, eqB f.1 nStat = x := ⟨_, rfl⟩
    obtain ⟨x2, e2⟩ : ∃ x, (sz == 3) = x := ⟨_, rfl⟩
    obtain ⟨x3, e3⟩ : ∃ x, decide (200 ≤ n) = x := ⟨_, rfl⟩
    obtain ⟨x4, e4⟩ : ∃ x, decide (n ≤ 599) = x := ⟨_, rfl⟩
    have HQ := Lib.hid (show respB (f :: r) = (x1 && (x2 && (x3 && (x4 && t)))) by
      rw [respB, e1, hn, e3, e4, ht, show decide (f.2.size = 3) = x2 by
        rw [← e2, hsz]
        by_cases h3 : f.2.size = 3
        · rw [decide_eq_true h3, h3]; rfl
        · rw [decide_eq_false h3]; exact (beq_eq_false_iff_ne.2 (by omega)).symm])
    simp only [eqB, nStat, tx, ByteArray.toList_mk] at e1
    have HNM := Lib.hid hn
    have HT := Lib.hid ht
    have hB : Hid (∀ W, Below w.heap.size w W → W.cell? ⟨b, off, none⟩ = some (.string f.1)) := fun W hW => (hW.cell (p := ⟨b, off, none⟩) hbl).trans c0
    clear hcell hsl hm hsz hn ht hN
    go_enter Try.func15, Try.ntmps15
    go_wp2_with fail
    refine (refNumber_any _ _ (HM.out f List.mem_cons_self).2).mono ?_
    rintro e w1 ⟨rfl, rfl⟩
    rw [HNM.out]
    go_wp2_with fail
    refine (refTrail_any _ _ _ HTL.out (fun g hg => HM.out g (List.mem_cons_of_mem _ hg))).mono ?_
    rintro e w2 ⟨rfl, hb⟩
    rw [HT.out]
    have d0 := hB.out w2 hb
    have HB := Lib.hid hb
    clear hb c0 c1
    cases x1
    · go_wp2_with fail
      go_ret
      exact ⟨by rw [HQ.out]; rfl, HB.out⟩
    cases x2
    · go_wp2_with fail
      go_ret
      exact ⟨by rw [HQ.out]; rfl, HB.out⟩
    cases x3
    · go_wp2_with fail
      go_ret
      exact ⟨by rw [HQ.out]; rfl, HB.out⟩
    cases x4
    · go_wp2_with fail
      go_ret
      exact ⟨by rw [HQ.out]; rfl, HB.out⟩
    go_wp2_with fail
    go_ret
    exact ⟨by rw [HQ.out]; rfl, HB.out⟩
end Go.Proofs.Ytabonhiolcjnnaa
