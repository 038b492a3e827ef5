
/-
  Layer 11, the program's own: what frames say, kind by kind (written by wip/tools/gen11r.py): headers.
-/
import Derived.Test.YtohghphegcnfkaaPayRead4
namespace Go.Proofs.Ytohghphegcnfkaa
set_option maxRecDepth 20000
open Go.RowKit

set_option maxHeartbeats 4000000 in
theorem head_any (v : Value) (f : Fr) (w : World) (h : FrV w v f) (h0 : 0 ≤ f.flags) (h1 : f.flags ≤ 255) (hl : f.pay.length ≤ 100000000) :
    Calls Try.prog 15 #[v] w fun e w' => AnsW w' e (headF f) ∧ Below w.heap.size w w' := by
  obtain ⟨pv, rfl, hp⟩ := h
  obtain ⟨a, cap, rfl, hcp, hcm, _⟩ := id hp
  unfold maxLen at hcm
  obtain ⟨N, hN⟩ : ∃ N, N = f.pay.length := ⟨_, rfl⟩
  rw [← hN] at hp hl hcp ⊢
  have HN := Lib.hid hN
  have HS := Lib.hid (Spk11.new w f (.slice a N cap) hp)
  have HP := Lib.hid hp
  clear hp hN
  have c0 := HS.out.box.c0
  have c1 := HS.out.box.c1
  have c2 := HS.out.box.c2
  have c3 := HS.out.box.c3
  have hsz := HS.out.box.lt
  unfold ptA faA at HS c0 c1 c2 c3 hsz
  go_enter Try.func15, Try.ntmps15
  obtain ⟨z, hz⟩ : ∃ z, (f.stream == 0) = z := ⟨_, rfl⟩
  have HZ := Lib.hid hz
  cases z
  · have s0 := Lib.hid (show ¬ f.stream = 0 by simpa using HZ.out)
    go_wp2_with fail
    refine (unpadded_any _ f _ (HS.out.fr HP.out) h0 h1).mono ?_
    rintro e w1 ⟨bv, rfl, hbv, hb⟩
    have HBV := Lib.hid hbv
    obtain ⟨ab, cb, rfl, hcb, hcb2, _⟩ := id hbv
    obtain ⟨M, hM⟩ : ∃ M, M = (unpadF f).2.length := ⟨_, rfl⟩
    rw [← hM] at HBV hcb ⊢
    have HM := Lib.hid hM
    unfold maxLen at hcb2
    clear hbv hM
    have HS2 := Lib.hid (HS.out.grown hb)
    clear hb c0 c1 c2 c3 hsz 
    have c0 := HS2.out.box.c0
    have c1 := HS2.out.box.c1
    have c2 := HS2.out.box.c2
    have c3 := HS2.out.box.c3
    have hsz := HS2.out.box.lt
    obtain ⟨cd, hcd⟩ : ∃ cd, cd = (unpadF f).1 := ⟨_, rfl⟩
    rw [← hcd]
    have HCD := Lib.hid hcd
    clear hcd
    obtain ⟨y, hy⟩ : ∃ y, (cd != 0) = y := ⟨_, rfl⟩
    have HY := Lib.hid hy
    cases y
    · have u0 : Hid ((unpadF f).1 = 0) := Lib.hid (by have := HY.out; simp only [bne_eq_false_iff_eq] at this; rw [← HCD.out]; exact this)
      have hlu := unpad_len f
      go_wp2_with fail
      refine (phas_any _ f 32 _ (HS2.out.fr HP.out) h0 h1 (by omega)).mono ?_
      rintro e w2 ⟨rfl, hb⟩
      have HBV2 := Lib.hid (HBV.out.below hb)
      have HS3 := Lib.hid (HS2.out.grown hb)
      clear hb c0 c1 c2 c3 hsz HBV
      have c0 := HS3.out.box.c0
      have c1 := HS3.out.box.c1
      have c2 := HS3.out.box.c2
      have c3 := HS3.out.box.c3
      have hsz := HS3.out.box.lt
      cases q32 : flagB f 32
      · have HE := Lib.hid (show headF f = okP (Pt.mk (unpadF f).2 [] 0 0 0 0 (flagB f 1) (flagB f 4) false) by
          unfold headF; rw [if_neg s0.out, if_neg (show ¬ (unpadF f).1 ≠ 0 from fun q => q u0.out), q32, if_neg (by simp), if_neg (by simp)]; rfl)
        go_wp2_with fail
        refine wp_region_table 11 [44, 45, 46, 47, 48, 49, 50, 51, 52, 53, 54] [[], [(0, 44)], [], [(2, 46)], [], [(4, 48)], [(1, 45), (3, 47), (5, 49)], [(6, 50)], [(7, 51)], [(7, 51)], [(7, 51)]]
          (fun i v w' => match i with
            | 0 => v = .slice ab M cb
            | 1 => Clo11 w' v ((unpadF f).2)
            | 2 => v = .agg #[.int .i64 f.kind, .int .i64 f.flags, .int .i64 f.stream, .slice a N cap]
            | 3 => v = .bool (flagB f 1)
            | 4 => v = .agg #[.int .i64 f.kind, .int .i64 f.flags, .int .i64 f.stream, .slice a N cap]
            | 5 => v = .bool (flagB f 4)
            | 6 => PtW w' v (Pt.mk (unpadF f).2 [] 0 0 0 0 (flagB f 1) (flagB f 4) false)
            | 7 => Said11 w' v (Pt.mk (unpadF f).2 [] 0 0 0 0 (flagB f 1) (flagB f 4) false)
            | 8 => PtW w' v (Pt.mk (unpadF f).2 [] 0 0 0 0 (flagB f 1) (flagB f 4) false)
            | 9 => v = .agg (faA 0 0)
            | 10 => v = .bool true
            | _ => True) (by kernel_rfl) (by kernel_rfl) ?tStab ?tOps ?tRest
        case tStab =>
          intro i v w3 w4 h hb
          match i, h with
          | 0, h | 2, h | 3, h | 4, h | 5, h | 9, h | 10, h => exact h
          | 1, h => exact h.below hb
          | 6, h => exact h.below hb
          | 7, h => exact h.below hb
          | 8, h => exact h.below hb
          | i + 11, _ => trivial
        case tOps =>
          simp only [List.take_succ_cons, List.take_zero, opsOk]
          refine ⟨?_, ?_, ?_, ?_, ?_, ?_, ?_, ?_, ?_, ?_, ?_, trivial⟩
          · intro ρ w3 hc hf ho hB hj
            have x0 : ρ (.tmp 5) = .slice ab M cb := ho 5 (by decide)
            simp [gives, go_sem, x0, Below.refl]
          · intro ρ w3 hc hf ho hB hj
            have x0 : ρ (.tmp 44) = .slice ab M cb := hj (0, 44) (by simp)
            simp [gives, go_sem, x0, hf]
            exact (clone11_any _ ((unpadF f).2) _ (HBV2.out.below hB) (by rw [← HN.out] at hlu; omega)).mono (by rintro e w4 ⟨bv, rfl, h1, h2, hb⟩; exact ⟨_, rfl, ⟨h1, h2⟩, hb⟩)
          · intro ρ w3 hc hf ho hB hj
            have x0 : ρ (.tmp 1) = .pointer (some ⟨w.heap.size, 0, none⟩) := ho 1 (by decide)
            have c0 := (HS3.out.grown hB).box.c0
            have c1 := (HS3.out.grown hB).box.c1
            have c2 := (HS3.out.grown hB).box.c2
            have c3 := (HS3.out.grown hB).box.c3
            simp [gives, go_sem, x0, c0, c1, c2, c3, Below.refl]
          · intro ρ w3 hc hf ho hB hj
            have x0 : ρ (.tmp 46) = .agg #[.int .i64 f.kind, .int .i64 f.flags, .int .i64 f.stream, .slice a N cap] := hj (2, 46) (by simp)
            simp [gives, go_sem, x0, hc, hf]
            exact (phas_any _ f 1 _ ⟨_, rfl, HP.out.below (HS3.out.out.b.trans (hB.mono HS3.out.out.b.size))⟩ h0 h1 (by omega)).mono (by rintro e w4 ⟨rfl, hb⟩; exact ⟨_, rfl, rfl, hb⟩)
          · intro ρ w3 hc hf ho hB hj
            have x0 : ρ (.tmp 1) = .pointer (some ⟨w.heap.size, 0, none⟩) := ho 1 (by decide)
            have c0 := (HS3.out.grown hB).box.c0
            have c1 := (HS3.out.grown hB).box.c1
            have c2 := (HS3.out.grown hB).box.c2
            have c3 := (HS3.out.grown hB).box.c3
            simp [gives, go_sem, x0, c0, c1, c2, c3, Below.refl]
          · intro ρ w3 hc hf ho hB hj
            have x0 : ρ (.tmp 48) = .agg #[.int .i64 f.kind, .int .i64 f.flags, .int .i64 f.stream, .slice a N cap] := hj (4, 48) (by simp)
            simp [gives, go_sem, x0, hc, hf]
            exact (phas_any _ f 4 _ ⟨_, rfl, HP.out.below (HS3.out.out.b.trans (hB.mono HS3.out.out.b.size))⟩ h0 h1 (by omega)).mono (by rintro e w4 ⟨rfl, hb⟩; exact ⟨_, rfl, rfl, hb⟩)
          · intro ρ w3 hc hf ho hB hj
            have x0 : Clo11 w3 (ρ (.tmp 45)) ((unpadF f).2) := hj (1, 45) (by simp)
            have x1 : ρ (.tmp 47) = .bool (flagB f 1) := hj (3, 47) (by simp)
            have x2 : ρ (.tmp 49) = .bool (flagB f 4) := hj (5, 49) (by simp)
            obtain ⟨ac, cc, ec, hc1⟩ := Clo11.shape x0
            simp [gives, go_sem, x1, x2, ec]
            exact ⟨PtW.mk (p := Pt.mk (unpadF f).2 [] 0 0 0 0 (flagB f 1) (flagB f 4) false) (by have := x0.1; rw [ec] at this; exact this) (by have := x0.2; rw [ec] at this; exact this) rfl, Below.refl _ _⟩
          · intro ρ w3 hc hf ho hB hj
            have x0 : PtW w3 (ρ (.tmp 50)) (Pt.mk (unpadF f).2 [] 0 0 0 0 (flagB f 1) (flagB f 4) false) := hj (6, 50) (by simp)
            simp [gives, go_sem, hf]
            exact (says_any _ (Pt.mk (unpadF f).2 [] 0 0 0 0 (flagB f 1) (flagB f 4) false) _ x0).mono (by rintro e w4 ⟨⟨qv, rfl, hq⟩, hb⟩; exact ⟨_, rfl, ⟨qv, rfl, hq⟩, hb⟩)
          · intro ρ w3 hc hf ho hB hj
            have x0 : Said11 w3 (ρ (.tmp 51)) (Pt.mk (unpadF f).2 [] 0 0 0 0 (flagB f 1) (flagB f 4) false) := hj (7, 51) (by simp)
            obtain ⟨qv, hu, hq⟩ := x0
            simp [gives, go_sem, hu]
            exact ⟨hq, Below.refl _ _⟩
          · intro ρ w3 hc hf ho hB hj
            have x0 : Said11 w3 (ρ (.tmp 51)) (Pt.mk (unpadF f).2 [] 0 0 0 0 (flagB f 1) (flagB f 4) false) := hj (7, 51) (by simp)
            obtain ⟨qv, hu, hq⟩ := x0
            simp [gives, go_sem, hu, Below.refl]
          · intro ρ w3 hc hf ho hB hj
            have x0 : Said11 w3 (ρ (.tmp 51)) (Pt.mk (unpadF f).2 [] 0 0 0 0 (flagB f 1) (flagB f 4) false) := hj (7, 51) (by simp)
            obtain ⟨qv, hu, hq⟩ := x0
            simp [gives, go_sem, hu, Below.refl]
        case tRest =>
          intro X w3 hBw hX
          have x0 : X 0 = .slice ab M cb := hX 0 (by decide)
          have x1 := hX 1 (by decide)
          have x2 : X 2 = .agg #[.int .i64 f.kind, .int .i64 f.flags, .int .i64 f.stream, .slice a N cap] := hX 2 (by decide)
          have x3 : X 3 = .bool (flagB f 1) := hX 3 (by decide)
          have x4 : X 4 = .agg #[.int .i64 f.kind, .int .i64 f.flags, .int .i64 f.stream, .slice a N cap] := hX 4 (by decide)
          have x5 : X 5 = .bool (flagB f 4) := hX 5 (by decide)
          have x6 := hX 6 (by decide)
          have x7 := hX 7 (by decide)
          have x8 := hX 8 (by decide)
          have x9 : X 9 = .agg (faA 0 0) := hX 9 (by decide)
          have x10 : X 10 = .bool true := hX 10 (by decide)
          simp only [putAll, List.getD_cons_zero, List.getD_cons_succ, Act.put, List.setIfInBounds_toArray, List.set_cons_zero, List.set_cons_succ, List.drop_succ_cons, List.drop_zero]
          rw [x0, x2, x3, x4, x5, x9, x10]
          have HO := Lib.hid (HS3.out.out.grown hBw)
          have HQ := Lib.hid x8
          clear x8 hX hBw
          go_wp2_with (first | (refine store_pt11 rfl (.tmp 2) (.tmp 52) rfl w (w.heap.size + 1) _ _ rfl rfl HQ.out HO.out ?_; intro W hP hF hp hb) | (refine store_fa11 rfl (.tmp 3) (.tmp 53) rfl w (w.heap.size + 1) _ _ 0 0 (Nat.le_succ _) rfl rfl hp hP hF hb ?_; intro W2 hP2 hF2 hp2 hb2))
          refine bodyPost_ret (ans_results rfl _ _ (w.heap.size + 1) _ 0 0 rfl rfl hP2 hF2) rfl ?_
          rw [HE.out]
          exact ⟨⟨_, rfl, hp2⟩, hb2⟩
      · by_cases h5 : M < 5
        · have HE := Lib.hid (show headF f = wrongP 6 0 by
            unfold headF; rw [if_neg s0.out, if_neg (show ¬ (unpadF f).1 ≠ 0 from fun q => q u0.out), if_pos ⟨q32, by rw [← HM.out]; exact h5⟩])
          have d5 : decide ((M : Int) < 5) = true := decide_eq_true (by omega)
          clear h5
          go_wp2_with fail
          refine (broken_any 6 _).mono ?_
          rintro e w9 ⟨⟨qv, rfl, hq⟩, hb9⟩
          have HO := Lib.hid (HS3.out.out.grown hb9)
          clear hb9 c0 c1 c2 c3 hsz
          go_wp2_with (first | (refine store_pt11 rfl (.tmp 2) (.tmp 32) rfl w (w.heap.size + 1) _ _ rfl rfl hq HO.out ?_; intro W hP hF hp hb) | (refine store_fa11 rfl (.tmp 3) (.tmp 33) rfl w (w.heap.size + 1) _ _ 6 0 (Nat.le_succ _) rfl rfl hp hP hF hb ?_; intro W2 hP2 hF2 hp2 hb2))
          refine bodyPost_ret (ans_results rfl _ _ (w.heap.size + 1) _ 6 0 rfl rfl hP2 hF2) rfl ?_
          rw [HE.out]
          exact ⟨⟨_, rfl, hp2⟩, hb2⟩
        · have H5 := Lib.hid h5
          have d5 : decide ((M : Int) < 5) = false := decide_eq_false (by omega)
          clear h5
          go_wp2_with fail
          refine (isItself_any _ _ f (unpadF f).2 _ (HS3.out.fr HP.out) HBV2.out (by rw [← HM.out]; have := H5.out; omega)).mono ?_
          rintro e w3 ⟨rfl, hb⟩
          have HBV3 := Lib.hid (HBV2.out.below hb)
          have HS4 := Lib.hid (HS3.out.grown hb)
          clear hb c0 c1 c2 c3 hsz HBV2
          have c0 := HS4.out.box.c0
          have c1 := HS4.out.box.c1
          have c2 := HS4.out.box.c2
          have c3 := HS4.out.box.c3
          have hsz := HS4.out.box.lt
          by_cases hi : lowF (unpadF f).2 = f.stream
          · have HE := Lib.hid (show headF f = wrongP 1 0 by
              unfold headF; rw [if_neg s0.out, if_neg (show ¬ (unpadF f).1 ≠ 0 from fun q => q u0.out), if_neg (fun q => H5.out (by rw [HM.out]; exact q.2)), if_pos ⟨q32, hi⟩])
            rw [decide_eq_true hi]
            clear hi
            go_wp2_with fail
            refine (broken_any 1 _).mono ?_
            rintro e w9 ⟨⟨qv, rfl, hq⟩, hb9⟩
            have HO := Lib.hid (HS4.out.out.grown hb9)
            clear hb9 c0 c1 c2 c3 hsz
            go_wp2_with (first | (refine store_pt11 rfl (.tmp 2) (.tmp 39) rfl w (w.heap.size + 1) _ _ rfl rfl hq HO.out ?_; intro W hP hF hp hb) | (refine store_fa11 rfl (.tmp 3) (.tmp 40) rfl w (w.heap.size + 1) _ _ 1 0 (Nat.le_succ _) rfl rfl hp hP hF hb ?_; intro W2 hP2 hF2 hp2 hb2))
            refine bodyPost_ret (ans_results rfl _ _ (w.heap.size + 1) _ 1 0 rfl rfl hP2 hF2) rfl ?_
            rw [HE.out]
            exact ⟨⟨_, rfl, hp2⟩, hb2⟩
          · have HE := Lib.hid (show headF f = okP (Pt.mk ((unpadF f).2.drop 5) [] 0 0 0 0 (flagB f 1) (flagB f 4) false) by
              unfold headF; rw [if_neg s0.out, if_neg (show ¬ (unpadF f).1 ≠ 0 from fun q => q u0.out), if_neg (fun q => H5.out (by rw [HM.out]; exact q.2)), if_neg (fun q => hi q.2), q32]; rfl)
            rw [decide_eq_false hi]
            clear hi
            have hMl : M ≤ N := by rw [HN.out, HM.out]; exact hlu
            obtain ⟨vr, hrr, hvr⟩ := HBV3.out.from_ Try.sliceB11 Try.sizeB11 5 (by omega) (by rw [← HM.out]; have := H5.out; omega)
            rw [show (5 : Int).toNat = 5 from rfl] at hvr
            have hzl : ((unpadF f).2.drop 5).length ≤ 1000000000 := by have := HM.out; simp; omega
            obtain ⟨zs, hzs⟩ : ∃ zs, zs = (unpadF f).2.drop 5 := ⟨_, rfl⟩
            rw [← hzs] at hvr HE hzl
            have HZL := Lib.hid hzl
            have HVR := Lib.hid hvr
            clear hvr hzl hzs
            go_wp2_with fail
            refine wp_region_table 11 [44, 45, 46, 47, 48, 49, 50, 51, 52, 53, 54] [[], [(0, 44)], [], [(2, 46)], [], [(4, 48)], [(1, 45), (3, 47), (5, 49)], [(6, 50)], [(7, 51)], [(7, 51)], [(7, 51)]]
              (fun i v w' => match i with
                | 0 => v = vr
                | 1 => Clo11 w' v (zs)
                | 2 => v = .agg #[.int .i64 f.kind, .int .i64 f.flags, .int .i64 f.stream, .slice a N cap]
                | 3 => v = .bool (flagB f 1)
                | 4 => v = .agg #[.int .i64 f.kind, .int .i64 f.flags, .int .i64 f.stream, .slice a N cap]
                | 5 => v = .bool (flagB f 4)
                | 6 => PtW w' v (Pt.mk zs [] 0 0 0 0 (flagB f 1) (flagB f 4) false)
                | 7 => Said11 w' v (Pt.mk zs [] 0 0 0 0 (flagB f 1) (flagB f 4) false)
                | 8 => PtW w' v (Pt.mk zs [] 0 0 0 0 (flagB f 1) (flagB f 4) false)
                | 9 => v = .agg (faA 0 0)
                | 10 => v = .bool true
                | _ => True) (by kernel_rfl) (by kernel_rfl) ?tStab ?tOps ?tRest
            case tStab =>
              intro i v w3 w4 h hb
              match i, h with
              | 0, h | 2, h | 3, h | 4, h | 5, h | 9, h | 10, h => exact h
              | 1, h => exact h.below hb
              | 6, h => exact h.below hb
              | 7, h => exact h.below hb
              | 8, h => exact h.below hb
              | i + 11, _ => trivial
            case tOps =>
              simp only [List.take_succ_cons, List.take_zero, opsOk]
              refine ⟨?_, ?_, ?_, ?_, ?_, ?_, ?_, ?_, ?_, ?_, ?_, trivial⟩
              · intro ρ w3 hc hf ho hB hj
                have x0 : ρ (.tmp 5) = vr := ho 5 (by decide)
                simp [gives, go_sem, x0, Below.refl]
              · intro ρ w3 hc hf ho hB hj
                have x0 : ρ (.tmp 44) = vr := hj (0, 44) (by simp)
                simp [gives, go_sem, x0, hf]
                exact (clone11_any _ (zs) _ (HVR.out.below hB) HZL.out).mono (by rintro e w4 ⟨bv, rfl, h1, h2, hb⟩; exact ⟨_, rfl, ⟨h1, h2⟩, hb⟩)
              · intro ρ w3 hc hf ho hB hj
                have x0 : ρ (.tmp 1) = .pointer (some ⟨w.heap.size, 0, none⟩) := ho 1 (by decide)
                have c0 := (HS4.out.grown hB).box.c0
                have c1 := (HS4.out.grown hB).box.c1
                have c2 := (HS4.out.grown hB).box.c2
                have c3 := (HS4.out.grown hB).box.c3
                simp [gives, go_sem, x0, c0, c1, c2, c3, Below.refl]
              · intro ρ w3 hc hf ho hB hj
                have x0 : ρ (.tmp 46) = .agg #[.int .i64 f.kind, .int .i64 f.flags, .int .i64 f.stream, .slice a N cap] := hj (2, 46) (by simp)
                simp [gives, go_sem, x0, hc, hf]
                exact (phas_any _ f 1 _ ⟨_, rfl, HP.out.below (HS4.out.out.b.trans (hB.mono HS4.out.out.b.size))⟩ h0 h1 (by omega)).mono (by rintro e w4 ⟨rfl, hb⟩; exact ⟨_, rfl, rfl, hb⟩)
              · intro ρ w3 hc hf ho hB hj
                have x0 : ρ (.tmp 1) = .pointer (some ⟨w.heap.size, 0, none⟩) := ho 1 (by decide)
                have c0 := (HS4.out.grown hB).box.c0
                have c1 := (HS4.out.grown hB).box.c1
                have c2 := (HS4.out.grown hB).box.c2
                have c3 := (HS4.out.grown hB).box.c3
                simp [gives, go_sem, x0, c0, c1, c2, c3, Below.refl]
              · intro ρ w3 hc hf ho hB hj
                have x0 : ρ (.tmp 48) = .agg #[.int .i64 f.kind, .int .i64 f.flags, .int .i64 f.stream, .slice a N cap] := hj (4, 48) (by simp)
                simp [gives, go_sem, x0, hc, hf]
                exact (phas_any _ f 4 _ ⟨_, rfl, HP.out.below (HS4.out.out.b.trans (hB.mono HS4.out.out.b.size))⟩ h0 h1 (by omega)).mono (by rintro e w4 ⟨rfl, hb⟩; exact ⟨_, rfl, rfl, hb⟩)
              · intro ρ w3 hc hf ho hB hj
                have x0 : Clo11 w3 (ρ (.tmp 45)) (zs) := hj (1, 45) (by simp)
                have x1 : ρ (.tmp 47) = .bool (flagB f 1) := hj (3, 47) (by simp)
                have x2 : ρ (.tmp 49) = .bool (flagB f 4) := hj (5, 49) (by simp)
                obtain ⟨ac, cc, ec, hc1⟩ := Clo11.shape x0
                simp [gives, go_sem, x1, x2, ec]
                exact ⟨PtW.mk (p := Pt.mk zs [] 0 0 0 0 (flagB f 1) (flagB f 4) false) (by have := x0.1; rw [ec] at this; exact this) (by have := x0.2; rw [ec] at this; exact this) rfl, Below.refl _ _⟩
              · intro ρ w3 hc hf ho hB hj
                have x0 : PtW w3 (ρ (.tmp 50)) (Pt.mk zs [] 0 0 0 0 (flagB f 1) (flagB f 4) false) := hj (6, 50) (by simp)
                simp [gives, go_sem, hf]
                exact (says_any _ (Pt.mk zs [] 0 0 0 0 (flagB f 1) (flagB f 4) false) _ x0).mono (by rintro e w4 ⟨⟨qv, rfl, hq⟩, hb⟩; exact ⟨_, rfl, ⟨qv, rfl, hq⟩, hb⟩)
              · intro ρ w3 hc hf ho hB hj
                have x0 : Said11 w3 (ρ (.tmp 51)) (Pt.mk zs [] 0 0 0 0 (flagB f 1) (flagB f 4) false) := hj (7, 51) (by simp)
                obtain ⟨qv, hu, hq⟩ := x0
                simp [gives, go_sem, hu]
                exact ⟨hq, Below.refl _ _⟩
              · intro ρ w3 hc hf ho hB hj
                have x0 : Said11 w3 (ρ (.tmp 51)) (Pt.mk zs [] 0 0 0 0 (flagB f 1) (flagB f 4) false) := hj (7, 51) (by simp)
                obtain ⟨qv, hu, hq⟩ := x0
                simp [gives, go_sem, hu, Below.refl]
              · intro ρ w3 hc hf ho hB hj
                have x0 : Said11 w3 (ρ (.tmp 51)) (Pt.mk zs [] 0 0 0 0 (flagB f 1) (flagB f 4) false) := hj (7, 51) (by simp)
                obtain ⟨qv, hu, hq⟩ := x0
                simp [gives, go_sem, hu, Below.refl]
            case tRest =>
              intro X w3 hBw hX
              have x0 : X 0 = vr := hX 0 (by decide)
              have x1 := hX 1 (by decide)
              have x2 : X 2 = .agg #[.int .i64 f.kind, .int .i64 f.flags, .int .i64 f.stream, .slice a N cap] := hX 2 (by decide)
              have x3 : X 3 = .bool (flagB f 1) := hX 3 (by decide)
              have x4 : X 4 = .agg #[.int .i64 f.kind, .int .i64 f.flags, .int .i64 f.stream, .slice a N cap] := hX 4 (by decide)
              have x5 : X 5 = .bool (flagB f 4) := hX 5 (by decide)
              have x6 := hX 6 (by decide)
              have x7 := hX 7 (by decide)
              have x8 := hX 8 (by decide)
              have x9 : X 9 = .agg (faA 0 0) := hX 9 (by decide)
              have x10 : X 10 = .bool true := hX 10 (by decide)
              simp only [putAll, List.getD_cons_zero, List.getD_cons_succ, Act.put, List.setIfInBounds_toArray, List.set_cons_zero, List.set_cons_succ, List.drop_succ_cons, List.drop_zero]
              rw [x0, x2, x3, x4, x5, x9, x10]
              have HO := Lib.hid (HS4.out.out.grown hBw)
              have HQ := Lib.hid x8
              clear x8 hX hBw
              go_wp2_with (first | (refine store_pt11 rfl (.tmp 2) (.tmp 52) rfl w (w.heap.size + 1) _ _ rfl rfl HQ.out HO.out ?_; intro W hP hF hp hb) | (refine store_fa11 rfl (.tmp 3) (.tmp 53) rfl w (w.heap.size + 1) _ _ 0 0 (Nat.le_succ _) rfl rfl hp hP hF hb ?_; intro W2 hP2 hF2 hp2 hb2))
              refine bodyPost_ret (ans_results rfl _ _ (w.heap.size + 1) _ 0 0 rfl rfl hP2 hF2) rfl ?_
              rw [HE.out]
              exact ⟨⟨_, rfl, hp2⟩, hb2⟩
    · have HE := Lib.hid (show headF f = wrongP cd 0 by
        have u0 : (unpadF f).1 ≠ 0 := by have := HY.out; simp only [bne_iff_ne, ne_eq] at this; rw [← HCD.out]; exact this
        unfold headF; rw [if_neg s0.out, if_pos u0, HCD.out])
      go_wp2_with fail
      refine (broken_any cd _).mono ?_
      rintro e w9 ⟨⟨qv, rfl, hq⟩, hb9⟩
      have HO := Lib.hid (HS2.out.out.grown hb9)
      clear hb9 c0 c1 c2 c3 hsz
      go_wp2_with (first | (refine store_pt11 rfl (.tmp 2) (.tmp 23) rfl w (w.heap.size + 1) _ _ rfl rfl hq HO.out ?_; intro W hP hF hp hb) | (refine store_fa11 rfl (.tmp 3) (.tmp 24) rfl w (w.heap.size + 1) _ _ cd 0 (Nat.le_succ _) rfl rfl hp hP hF hb ?_; intro W2 hP2 hF2 hp2 hb2))
      refine bodyPost_ret (ans_results rfl _ _ (w.heap.size + 1) _ cd 0 rfl rfl hP2 hF2) rfl ?_
      rw [HE.out]
      exact ⟨⟨_, rfl, hp2⟩, hb2⟩
  · have HE := Lib.hid (show headF f = wrongP 1 0 by
      have s0 : f.stream = 0 := by simpa using HZ.out
      unfold headF; rw [if_pos s0])
    go_wp2_with fail
    refine (broken_any 1 _).mono ?_
    rintro e w9 ⟨⟨qv, rfl, hq⟩, hb9⟩
    have HO := Lib.hid (HS.out.out.grown hb9)
    clear hb9 c0 c1 c2 c3 hsz
    go_wp2_with (first | (refine store_pt11 rfl (.tmp 2) (.tmp 11) rfl w (w.heap.size + 1) _ _ rfl rfl hq HO.out ?_; intro W hP hF hp hb) | (refine store_fa11 rfl (.tmp 3) (.tmp 12) rfl w (w.heap.size + 1) _ _ 1 0 (Nat.le_succ _) rfl rfl hp hP hF hb ?_; intro W2 hP2 hF2 hp2 hb2))
    refine bodyPost_ret (ans_results rfl _ _ (w.heap.size + 1) _ 1 0 rfl rfl hP2 hF2) rfl ?_
    rw [HE.out]
    exact ⟨⟨_, rfl, hp2⟩, hb2⟩
end Go.Proofs.Ytohghphegcnfkaa
