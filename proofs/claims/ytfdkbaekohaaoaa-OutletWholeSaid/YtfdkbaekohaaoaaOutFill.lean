
/-
  Layer 14's outlet: Fill.
-/
import Derived.Test.YtfdkbaekohaaoaaOutDrain
import Derived.Deep.LoopGhost
import Derived.WalkMore
namespace Go.Proofs.Ytfdkbaekohaaoaa
set_option maxRecDepth 20000
open Go.RowKit

set_option maxHeartbeats 4000000 in
theorem pFill14_any (T : Nat) (O : Option Nat) (q : List Int) (n : Int) (lv : Value) (fs : List (Fr × Value)) (w : World) (h : OutAt w T O q) (hf : ∀ w', Turn (fun k => k = T ∨ O = some k) w w' → SlF w' lv fs) (hq : q.length ≤ 10000000) (hn : fs.length ≤ 1000) (hp : ∀ p ∈ fs, p.1.pay.length ≤ 10000) :
    Calls Try.prog 11 #[.pointer (some ⟨T, 0, none⟩), .int .i64 n, lv] w fun e w' =>
    ∃ O', e = .returned (.int .i64 ((fillL n q (fs.map (·.1))).2 : Nat)) ∧ OutAt w' T O' (fillL n q (fs.map (·.1))).1 ∧ Turn (fun k => k = T ∨ O = some k) w w' ∧ (O' = O ∨ ∀ g, O' = some g → w.heap.size ≤ g) := by
  obtain ⟨hfp, a, c, rfl, hc1, hc2, _⟩ := hf w (Turn.of_below (Below.refl _ _))
  unfold maxLen at hc2
  obtain ⟨N, hN⟩ : ∃ N, N = fs.length := ⟨_, rfl⟩
  rw [← hN] at hf hc1 hn ⊢
  have HN := Lib.hid hN
  have HF := Lib.hid hf
  have HP := Lib.hid (And.intro hq hp)
  have HV := Lib.hid h
  clear hN hf hfp hq hp h
  go_enter Try.func11, Try.ntmps11
  go_wp2_with fail
  go_step3
  go_wp2_with fail
  go_step3
  go_wp2_with fail
  go_loopg [8] N (fun m s8 wr => ∃ k : Nat, k + m = N ∧ s8 = .int .i64 k ∧ ∃ O1 xs, Hid (OutAt wr T O1 xs ∧ Turn (fun k => k = T ∨ O = some k) w wr ∧ (O1 = O ∨ ∀ g, O1 = some g → w.heap.size ≤ g)) ∧ Hid (fillL n q (fs.map (·.1)) = ((fillL n xs ((fs.drop k).map (·.1))).1, (fillL n xs ((fs.drop k).map (·.1))).2 + k) ∧ xs.length ≤ 10000000 + k * 10009))
  case atStart => exact ⟨0, by omega, rfl, O, q, Lib.hid ⟨HV.out, Turn.of_below (Below.refl _ _), .inl rfl⟩, Lib.hid ⟨by simp, by have := HP.out.1; omega⟩⟩
  case round =>
    obtain ⟨k, hkq, rfl, O1, xs, HW, HY⟩ := hrel
    have HKQ := Lib.hid hkq
    have hk : k ≤ N := by omega
    clear hkq HV
    go_wp2_with fail
    refine (pLen14_any T O1 xs wr HW.out.1 (by have := HY.out.2; omega)).mono ?_
    rintro e w2 ⟨rfl, hb2⟩
    have HW2 := Lib.hid (show OutAt w2 T O1 xs ∧ Turn (fun k => k = T ∨ O = some k) w w2 ∧ (O1 = O ∨ ∀ g, O1 = some g → w.heap.size ≤ g) from ⟨HW.out.1.turn (Turn.of_below hb2 (S := fun _ => False)) id (fun _ _ => id), HW.out.2.1.trans (Turn.of_below hb2), HW.out.2.2⟩)
    clear HW hb2
    by_cases hge : n ≤ (xs.length : Int)
    · have HE := Lib.hid (show fillL n q (fs.map (·.1)) = (xs, k) from by rw [HY.out.1, fillL_full _ _ _ hge]; simp)
      have d0 : decide ((xs.length : Int) < n) = false := decide_eq_false (by omega)
      clear hge
      go_wp2_with fail
      rw [Exit.noGoto_ret]
      go_ret
      exact ⟨_, by rw [HE.out]; rfl, by rw [HE.out]; exact HW2.out.1, HW2.out.2.1, HW2.out.2.2⟩
    · have HG := Lib.hid hge
      have d0 : decide ((xs.length : Int) < n) = true := decide_eq_true (by omega)
      clear hge
      by_cases hlt : k < N
      · have d1 : ((k : Int) == (N : Int)) = false := by rw [beq_eq_false_iff_ne]; omega
        have hf2 := HF.out w2 HW2.out.2.1
        obtain ⟨p, hp⟩ : ∃ p, fs[k]? = some p := ⟨fs[k]'(by rw [← HN.out]; exact hlt), List.getElem?_eq_getElem (by rw [← HN.out]; exact hlt)⟩
        have HD := Lib.hid (show (fs.drop k).map (·.1) = p.1 :: (fs.drop (k + 1)).map (·.1) from by
          have hk' : k < fs.length := by rw [← HN.out]; exact hlt
          rw [List.drop_eq_getElem_cons hk']
          have : fs[k] = p := (List.getElem?_eq_some_iff.1 hp).2
          rw [this]; rfl)
        obtain ⟨hfp, a', c', e', _, _, h3⟩ := hf2
        simp only [Value.slice.injEq] at e'
        obtain ⟨rfl, -, rfl⟩ := e'
        rcases h3 with ⟨h3, _⟩ | ⟨b, off, rfl, hbl, hcell⟩
        · exfalso; rw [← HN.out] at h3; omega
        obtain ⟨g0, g1, g2, g3⟩ := hcell k p hp
        have hpm := List.mem_of_getElem? hp
        have HFV := Lib.hid (show FrV w2 (.agg #[.int .i64 p.1.kind, .int .i64 p.1.flags, .int .i64 p.1.stream, p.2]) p.1 from ⟨_, rfl, hfp p hpm⟩)
        have HPL := Lib.hid (HP.out.2 p hpm)
        obtain ⟨pa, pc, hpv, _⟩ := hfp p hpm
        rw [hpv] at g3 HFV
        clear hcell hp hpm hpv hfp
        go_wp2_with fail
        refine (pPush14_any T O1 xs _ p.1 w2 HW2.out.1 HFV.out (by have := HY.out.2; omega) (by have := HPL.out; omega)).mono ?_
        rintro e w3 ⟨O2, rfl, h1, h2, h3⟩
        have HW3 := Lib.hid (show OutAt w3 T O2 (pushL xs p.1) ∧ Turn (fun k => k = T ∨ O = some k) w w3 ∧ (O2 = O ∨ ∀ g, O2 = some g → w.heap.size ≤ g) from by
          obtain ⟨_, ht, hO⟩ := HW2.out
          have hs := ht.size
          refine ⟨h1, ht.trans' h2 (fun k hk hS => ?_), ?_⟩
          · rcases hS with hS | hS
            · exact .inl hS
            · rcases hO with hO | hO
              · exact .inr (hO ▸ hS)
              · have := hO k hS; omega
          · rcases h3 with h3 | h3
            · rw [h3]; exact hO
            · exact .inr (fun g hg => by have := h3 g hg; omega))
        clear g0 g1 g2 g3 hbl h1 h2 h3
        by_cases hr : p.1.right
        · have HE := Lib.hid (show fillL n q (fs.map (·.1)) = ((fillL n (xs ++ p.1.enc) ((fs.drop (k + 1)).map (·.1))).1, (fillL n (xs ++ p.1.enc) ((fs.drop (k + 1)).map (·.1))).2 + (k + 1)) ∧ (xs ++ p.1.enc).length ≤ 10000000 + (k + 1) * 10009 from by
            refine ⟨?_, ?_⟩
            · rw [HY.out.1, HD.out, fillL_step _ _ _ _ (Int.not_le.2 HG.out) hr]
              simp [Nat.add_assoc, Nat.add_comm 1 k]
            · have h1 := HY.out.2
              have h2 := HPL.out
              rw [List.length_append, Fr.enc_length]
              omega)
          rw [show pushL xs p.1 = xs ++ p.1.enc from if_pos hr] at HW3
          rw [show pushE p.1 = 0 from if_pos hr]
          clear hr
          go_wp2_with fail
          go_roundg (N - (k + 1))
          case measure => have := HKQ.out; omega
          case rel => exact ⟨k + 1, by omega, by go_num, O2, _, HW3, HE⟩
        · have HE := Lib.hid (show fillL n q (fs.map (·.1)) = (xs, k) from by rw [HY.out.1, HD.out, fillL_bad _ _ _ _ (Int.not_le.2 HG.out) hr]; simp)
          rw [show pushL xs p.1 = xs from if_neg hr] at HW3
          rw [show pushE p.1 = 1 from if_neg hr]
          clear hr
          go_wp2_with fail
          rw [Exit.noGoto_ret]
          go_ret
          exact ⟨_, by rw [HE.out]; rfl, by rw [HE.out]; exact HW3.out.1, HW3.out.2.1, HW3.out.2.2⟩
      · obtain rfl : k = N := by omega
        have d1 : ((k : Int) == (k : Int)) = true := by simp
        have HE := Lib.hid (show fillL n q (fs.map (·.1)) = (xs, k) from by
          rw [HY.out.1, List.drop_of_length_le (by rw [HN.out]; exact Nat.le_refl _)]
          simp [fillL])
        go_wp2_with fail
        rw [Exit.noGoto_ret]
        go_ret
        exact ⟨_, by rw [HE.out]; rfl, by rw [HE.out]; exact HW2.out.1, HW2.out.2.1, HW2.out.2.2⟩

set_option maxHeartbeats 1000000 in
theorem pFill14_nil (n : Int) (lv : Value) (fs : List (Fr × Value)) (w : World) (hf : SlF w lv fs) : Calls Try.prog 11 #[.pointer none, .int .i64 n, lv] w fun e w' => e = .returned (.int .i64 0) ∧ Below w.heap.size w w' := by
  obtain ⟨hfp, a, c, rfl, hc1, hc2, _⟩ := id hf
  unfold maxLen at hc2
  obtain ⟨N, hN⟩ : ∃ N, N = fs.length := ⟨_, rfl⟩
  rw [← hN] at hf hc1 ⊢
  have HN := Lib.hid hN
  have HF := Lib.hid hf
  clear hN hf hfp
  go_enter Try.func11, Try.ntmps11
  go_wp2_with fail
  go_step3
  go_wp2_with fail
  go_step3
  go_wp2_with fail
  go_loopg [8] 0 (fun m s8 wr => m = 0 ∧ s8 = .int .i64 0 ∧ Hid (Below w.heap.size w wr))
  case atStart => exact ⟨rfl, rfl, Lib.hid (Below.refl _ _)⟩
  case round =>
    obtain ⟨_, rfl, HB⟩ := hrel
    go_wp2_with fail
    refine (pLen14_nil wr).mono ?_
    rintro e w2 ⟨rfl, hb2⟩
    have HB2 := Lib.hid (HB.out.trans (hb2.mono HB.out.size))
    clear hb2 HB
    by_cases hge : n ≤ 0
    · have d0 : decide (0 < n) = false := decide_eq_false (by omega)
      clear hge
      go_wp2_with fail
      rw [Exit.noGoto_ret]
      go_ret
      exact ⟨rfl, HB2.out⟩
    · have d0 : decide (0 < n) = true := decide_eq_true (by omega)
      clear hge
      by_cases hlt : 0 < N
      · have d1 : ((0 : Int) == (N : Int)) = false := by rw [beq_eq_false_iff_ne]; omega
        have hf2 := HF.out.below HB2.out
        obtain ⟨p, hp⟩ : ∃ p, fs[0]? = some p := ⟨fs[0]'(by rw [← HN.out]; exact hlt), List.getElem?_eq_getElem (by rw [← HN.out]; exact hlt)⟩
        obtain ⟨hfp, a', c', e', _, _, h3⟩ := hf2
        simp only [Value.slice.injEq] at e'
        obtain ⟨rfl, -, rfl⟩ := e'
        rcases h3 with ⟨h3, _⟩ | ⟨b, off, rfl, hbl, hcell⟩
        · exfalso; rw [← HN.out] at h3; omega
        obtain ⟨g0, g1, g2, g3⟩ := hcell 0 p hp
        have hpm := List.mem_of_getElem? hp
        have HFV := Lib.hid (show FrV w2 (.agg #[.int .i64 p.1.kind, .int .i64 p.1.flags, .int .i64 p.1.stream, p.2]) p.1 from ⟨_, rfl, hfp p hpm⟩)
        obtain ⟨pa, pc, hpv, _⟩ := hfp p hpm
        rw [hpv] at g3 HFV
        simp only [Nat.zero_mul, Nat.add_zero] at g0 g1 g2 g3
        clear hcell hp hpm hpv hfp
        go_wp2_with fail
        refine (pPush14_nil _ p.1 w2 HFV.out).mono ?_
        rintro e w3 ⟨rfl, hb3⟩
        have HB3 := Lib.hid (HB2.out.trans (hb3.mono HB2.out.size))
        clear g0 g1 g2 g3 hbl hb3
        go_wp2_with fail
        rw [Exit.noGoto_ret]
        go_ret
        exact ⟨rfl, HB3.out⟩
      · obtain rfl : N = 0 := by omega
        go_wp2_with fail
        rw [Exit.noGoto_ret]
        go_ret
        exact ⟨rfl, HB2.out⟩
end Go.Proofs.Ytfdkbaekohaaoaa
