
/-
  Layer 11, the program's own: the payload without its padding.
-/
import Derived.Test.YtohghphegcnfkaaPayCalls
namespace Go.Proofs.Ytohghphegcnfkaa
set_option maxRecDepth 20000
open Go.RowKit

set_option maxHeartbeats 2000000 in
theorem unpadded_any (v : Value) (f : Fr) (w : World) (h : FrV w v f) (h0 : 0 ≤ f.flags) (h1 : f.flags ≤ 255) :
    Calls Try.prog 24 #[v] w fun e w' => ∃ bv, e = .returned (.tuple #[bv, .int .i64 (unpadF f).1]) ∧ Sl .u8 w' bv (unpadF f).2 ∧ Below w.heap.size w w' := by
  obtain ⟨pv, rfl, hp⟩ := h
  have hpl := hp.len
  unfold maxLen at hpl
  obtain ⟨a, cap, rfl, hcp, _⟩ := id hp
  obtain ⟨N, hN⟩ : ∃ N, N = f.pay.length := ⟨_, rfl⟩
  rw [← hN] at hp hpl hcp ⊢
  have hal := (Below.refl w.heap.size w).alloc (Nat.le_refl _) (.cells #[.int .i64 f.kind, .int .i64 f.flags, .int .i64 f.stream, .slice a N cap] 51)
  have hbx := Bx.new w 51 f (.slice a N cap)
  have HF : Hid (FrV (w.alloc (.cells #[.int .i64 f.kind, .int .i64 f.flags, .int .i64 f.stream, .slice a N cap] 51)) (.agg #[.int .i64 f.kind, .int .i64 f.flags, .int .i64 f.stream, .slice a N cap]) f) := Lib.hid ⟨_, rfl, hp.below hal⟩
  have c0 := hbx.c0
  have c1 := hbx.c1
  have c2 := hbx.c2
  have c3 := hbx.c3
  have hsz := hbx.lt
  have HBX := Lib.hid hbx
  have HP := Lib.hid (hp.below hal)
  have HB := Lib.hid hal
  have HN := Lib.hid hN
  clear hbx hal hp hN
  go_enter Try.func24, Try.ntmps24
  go_wp2_with fail
  refine (phas_any _ f 8 _ HF.out h0 h1 (by omega)).mono ?_
  rintro e w1 ⟨rfl, hb⟩
  have hP1 := HP.out.below hb
  have HB1 := Lib.hid (HB.out.trans (hb.mono HB.out.size))
  have hbx1 := HBX.out.below hb
  have c0 := hbx1.c0
  have c1 := hbx1.c1
  have c2 := hbx1.c2
  have c3 := hbx1.c3
  have hsz := hbx1.lt
  clear HF HP HB HBX hb hbx1
  cases hf8 : flagB f 8
  · go_wp2_with fail
    go_ret2
    rw [unpad_flag hf8]
    exact ⟨_, rfl, hP1, HB1.out⟩
  · cases hpay : f.pay with
    | nil =>
      obtain rfl : N = 0 := by rw [HN.out, hpay]; rfl
      clear hP1
      go_wp2_with fail
      go_ret2
      rw [unpad_nil hf8 hpay]
      exact ⟨_, rfl, Sl.nil _ _, HB1.out⟩
    | cons n r =>
      have HNr := Lib.hid (show N = r.length + 1 by rw [HN.out, hpay]; rfl)
      rw [hpay] at hP1
      have hn0 : 0 ≤ n ∧ n ≤ 255 := by have := hP1.fit.byte 0; exact this
      obtain ⟨b0, o0, rfl⟩ : ∃ b o, a = some ⟨b, o, none⟩ := by
        obtain ⟨a', cap', e, _, _, _, h3⟩ := hP1
        simp only [Value.slice.injEq] at e
        rcases h3 with ⟨h3, _⟩ | ⟨b, off, h3, _⟩
        · cases h3
        · exact ⟨b, off, e.1.trans h3⟩
      have x0 : w1.cell? ⟨b0, o0, none⟩ = some (.int .u8 n) := by have := hP1.at_ 0 (by simp); simpa [at0] using this
      have hNp : 0 < N := by have := HNr.out; omega
      obtain ⟨vr, hrr, hvr⟩ := hP1.from_ Try.sliceB11 Try.sizeB11 1 (by omega) (by simp; omega)
      rw [show (n :: r).drop (1 : Int).toNat = r from rfl] at hvr
      have hb0 : b0 < w1.heap.size := by
        rcases Nat.lt_or_ge b0 w1.heap.size with h | h
        · exact h
        · rw [show w1.cell? ⟨b0, o0, none⟩ = none by simp [World.cell?, Array.getElem?_eq_none h]] at x0
          cases x0
      obtain ⟨ar, cr, rfl, hcr, hcr2, _⟩ := id hvr
      have hrl := hvr.len
      unfold maxLen at hrl hcr2
      obtain ⟨M, hM⟩ : ∃ M, M = r.length := ⟨_, rfl⟩
      rw [← hM] at hrr hvr hcr hrl
      have HM := Lib.hid hM
      clear hM hP1
      go_wp2_with fail
      go_quiet (fail)
      have hv2 := hvr.drewN nq
      have hB2 := Lib.hid (below_drewN HB1.out nq)
      generalize w1.drewN nq = w2 at *
      clear hvr hb0 x0 c0 c1 c2 c3 hsz
      by_cases hlt : (M : Int) < n
      · have HU := Lib.hid (unpad_less hf8 hpay (by rw [← HM.out]; exact hlt))
        have d1 : decide ((M : Int) < n) = true := decide_eq_true hlt
        clear hlt
        go_wp2_with fail
        go_ret2
        rw [HU.out]
        exact ⟨_, rfl, Sl.nil _ _, hB2.out⟩
      · have HU := Lib.hid (unpad_cut hf8 hpay (by rw [← HM.out]; exact hlt))
        have d1 : decide ((M : Int) < n) = false := decide_eq_false hlt
        obtain ⟨vu, hru, hvu⟩ := hv2.upto Try.sliceB11 Try.sizeB11 ((M : Int) - n) (by omega) (by rw [← HM.out]; omega)
        rw [show ((M : Int) - n).toNat = r.length - n.toNat by rw [← HM.out]; omega] at hvu
        clear hlt
        go_wp2_with fail
        go_ret2
        rw [HU.out]
        exact ⟨_, rfl, hvu, hB2.out⟩
end Go.Proofs.Ytohghphegcnfkaa
