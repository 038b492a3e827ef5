
/-
  Layer 11, the program's own: what frames say, kind by kind (written by wip/tools/gen11r.py): ping, goAway.
-/
import Derived.Test.YtohghphegcnfkaaPayRead1
namespace Go.Proofs.Ytohghphegcnfkaa
set_option maxRecDepth 20000
open Go.RowKit

set_option maxHeartbeats 4000000 in
theorem ping_any (v : Value) (f : Fr) (w : World) (h : FrV w v f) (h0 : 0 ≤ f.flags) (h1 : f.flags ≤ 255) (hl : f.pay.length ≤ 100000000) :
    Calls Try.prog 20 #[v] w fun e w' => AnsW w' e (pingF f) ∧ Below w.heap.size w w' := by
  obtain ⟨pv, rfl, hp⟩ := h
  obtain ⟨a, cap, rfl, hcp, hcm, _⟩ := id hp
  unfold maxLen at hcm
  obtain ⟨N, hN⟩ : ∃ N, N = f.pay.length := ⟨_, rfl⟩
  rw [← hN] at hp hl hcp ⊢
  have HN := Lib.hid hN
  have HS := Lib.hid (Spk11.new w f (.slice a N cap) hp)
  have HP := Lib.hid hp
  clear hp hN
  have c0 := HS.out.box.c0
  have c1 := HS.out.box.c1
  have c2 := HS.out.box.c2
  have c3 := HS.out.box.c3
  have hsz := HS.out.box.lt
  unfold ptA faA at HS c0 c1 c2 c3 hsz
  go_enter Try.func20, Try.ntmps20
  obtain ⟨z, hz⟩ : ∃ z, (f.stream != 0) = z := ⟨_, rfl⟩
  obtain ⟨y, hy⟩ : ∃ y, ((N : Int) != 8) = y := ⟨_, rfl⟩
  have HY := Lib.hid hy
  have HZ := Lib.hid hz
  cases z
  · have s0 : Hid (f.stream = 0) := Lib.hid (by simpa using HZ.out)
    cases y
    · have h8 : Hid (f.pay.length = 8) := Lib.hid (by have := HY.out; rw [← HN.out]; simp only [bne_eq_false_iff_eq] at this; omega)
      have HE := Lib.hid (show pingF f = okP (Pt.mk f.pay [] 0 0 0 0 false false (flagB f 1)) by
        unfold pingF; rw [if_neg (show ¬ f.stream ≠ 0 from fun q => q s0.out), if_neg (show ¬ f.pay.length ≠ 8 from fun q => q h8.out)]; rfl)
      go_wp2_with fail
      refine wp_region_table 10 [22, 23, 24, 25, 26, 27, 28, 29, 30, 31] [[], [(0, 22)], [(1, 23)], [], [(3, 25)], [(2, 24), (4, 26)], [(5, 27)], [(6, 28)], [(6, 28)], [(6, 28)]]
        (fun i v w' => match i with
          | 0 => v = .pointer (some ⟨w.heap.size, 3, none⟩)
          | 1 => v = .slice a N cap
          | 2 => Clo11 w' v (f.pay)
          | 3 => v = .agg #[.int .i64 f.kind, .int .i64 f.flags, .int .i64 f.stream, .slice a N cap]
          | 4 => v = .bool (flagB f 1)
          | 5 => PtW w' v (Pt.mk f.pay [] 0 0 0 0 false false (flagB f 1))
          | 6 => Said11 w' v (Pt.mk f.pay [] 0 0 0 0 false false (flagB f 1))
          | 7 => PtW w' v (Pt.mk f.pay [] 0 0 0 0 false false (flagB f 1))
          | 8 => v = .agg (faA 0 0)
          | 9 => v = .bool true
          | _ => True) (by kernel_rfl) (by kernel_rfl) ?tStab ?tOps ?tRest
      case tStab =>
        intro i v w3 w4 h hb
        match i, h with
        | 0, h | 1, h | 3, h | 4, h | 8, h | 9, h => exact h
        | 2, h => exact h.below hb
        | 5, h => exact h.below hb
        | 6, h => exact h.below hb
        | 7, h => exact h.below hb
        | i + 10, _ => trivial
      case tOps =>
        simp only [List.take_succ_cons, List.take_zero, opsOk]
        refine ⟨?_, ?_, ?_, ?_, ?_, ?_, ?_, ?_, ?_, ?_, trivial⟩
        · intro ρ w3 hc hf ho hB hj
          have x0 : ρ (.tmp 1) = .pointer (some ⟨w.heap.size, 0, none⟩) := ho 1 (by decide)
          simp [gives, go_sem, x0, Below.refl]
        · intro ρ w3 hc hf ho hB hj
          have x0 : ρ (.tmp 22) = .pointer (some ⟨w.heap.size, 3, none⟩) := hj (0, 22) (by simp)
          have cc := (HS.out.grown hB).box.c3
          simp [gives, go_sem, x0, cc, Below.refl]
        · intro ρ w3 hc hf ho hB hj
          have x0 : ρ (.tmp 23) = .slice a N cap := hj (1, 23) (by simp)
          simp [gives, go_sem, x0, hf]
          exact (clone11_any _ (f.pay) _ (HP.out.below (HS.out.out.b.trans (hB.mono HS.out.out.b.size))) (by rw [← HN.out]; omega)).mono (by rintro e w4 ⟨bv, rfl, h1, h2, hb⟩; exact ⟨_, rfl, ⟨h1, h2⟩, hb⟩)
        · intro ρ w3 hc hf ho hB hj
          have x0 : ρ (.tmp 1) = .pointer (some ⟨w.heap.size, 0, none⟩) := ho 1 (by decide)
          have c0 := (HS.out.grown hB).box.c0
          have c1 := (HS.out.grown hB).box.c1
          have c2 := (HS.out.grown hB).box.c2
          have c3 := (HS.out.grown hB).box.c3
          simp [gives, go_sem, x0, c0, c1, c2, c3, Below.refl]
        · intro ρ w3 hc hf ho hB hj
          have x0 : ρ (.tmp 25) = .agg #[.int .i64 f.kind, .int .i64 f.flags, .int .i64 f.stream, .slice a N cap] := hj (3, 25) (by simp)
          simp [gives, go_sem, x0, hc, hf]
          exact (phas_any _ f 1 _ ⟨_, rfl, HP.out.below (HS.out.out.b.trans (hB.mono HS.out.out.b.size))⟩ h0 h1 (by omega)).mono (by rintro e w4 ⟨rfl, hb⟩; exact ⟨_, rfl, rfl, hb⟩)
        · intro ρ w3 hc hf ho hB hj
          have x0 : Clo11 w3 (ρ (.tmp 24)) (f.pay) := hj (2, 24) (by simp)
          have x1 : ρ (.tmp 26) = .bool (flagB f 1) := hj (4, 26) (by simp)
          obtain ⟨ac, cc, ec, hc1⟩ := Clo11.shape x0
          simp [gives, go_sem, x1, ec]
          exact ⟨PtW.mk (p := Pt.mk f.pay [] 0 0 0 0 false false (flagB f 1)) (by have := x0.1; rw [ec] at this; exact this) (by have := x0.2; rw [ec] at this; exact this) rfl, Below.refl _ _⟩
        · intro ρ w3 hc hf ho hB hj
          have x0 : PtW w3 (ρ (.tmp 27)) (Pt.mk f.pay [] 0 0 0 0 false false (flagB f 1)) := hj (5, 27) (by simp)
          simp [gives, go_sem, hf]
          exact (says_any _ (Pt.mk f.pay [] 0 0 0 0 false false (flagB f 1)) _ x0).mono (by rintro e w4 ⟨⟨qv, rfl, hq⟩, hb⟩; exact ⟨_, rfl, ⟨qv, rfl, hq⟩, hb⟩)
        · intro ρ w3 hc hf ho hB hj
          have x0 : Said11 w3 (ρ (.tmp 28)) (Pt.mk f.pay [] 0 0 0 0 false false (flagB f 1)) := hj (6, 28) (by simp)
          obtain ⟨qv, hu, hq⟩ := x0
          simp [gives, go_sem, hu]
          exact ⟨hq, Below.refl _ _⟩
        · intro ρ w3 hc hf ho hB hj
          have x0 : Said11 w3 (ρ (.tmp 28)) (Pt.mk f.pay [] 0 0 0 0 false false (flagB f 1)) := hj (6, 28) (by simp)
          obtain ⟨qv, hu, hq⟩ := x0
          simp [gives, go_sem, hu, Below.refl]
        · intro ρ w3 hc hf ho hB hj
          have x0 : Said11 w3 (ρ (.tmp 28)) (Pt.mk f.pay [] 0 0 0 0 false false (flagB f 1)) := hj (6, 28) (by simp)
          obtain ⟨qv, hu, hq⟩ := x0
          simp [gives, go_sem, hu, Below.refl]
      case tRest =>
        intro X w3 hBw hX
        have x0 : X 0 = .pointer (some ⟨w.heap.size, 3, none⟩) := hX 0 (by decide)
        have x1 : X 1 = .slice a N cap := hX 1 (by decide)
        have x2 := hX 2 (by decide)
        have x3 : X 3 = .agg #[.int .i64 f.kind, .int .i64 f.flags, .int .i64 f.stream, .slice a N cap] := hX 3 (by decide)
        have x4 : X 4 = .bool (flagB f 1) := hX 4 (by decide)
        have x5 := hX 5 (by decide)
        have x6 := hX 6 (by decide)
        have x7 := hX 7 (by decide)
        have x8 : X 8 = .agg (faA 0 0) := hX 8 (by decide)
        have x9 : X 9 = .bool true := hX 9 (by decide)
        simp only [putAll, List.getD_cons_zero, List.getD_cons_succ, Act.put, List.setIfInBounds_toArray, List.set_cons_zero, List.set_cons_succ, List.drop_succ_cons, List.drop_zero]
        rw [x0, x1, x3, x4, x8, x9]
        have HO := Lib.hid (HS.out.out.grown hBw)
        have HQ := Lib.hid x7
        clear x7 hX hBw
        go_wp2_with (first | (refine store_pt11 rfl (.tmp 2) (.tmp 29) rfl w (w.heap.size + 1) _ _ rfl rfl HQ.out HO.out ?_; intro W hP hF hp hb) | (refine store_fa11 rfl (.tmp 3) (.tmp 30) rfl w (w.heap.size + 1) _ _ 0 0 (Nat.le_succ _) rfl rfl hp hP hF hb ?_; intro W2 hP2 hF2 hp2 hb2))
        refine bodyPost_ret (ans_results rfl _ _ (w.heap.size + 1) _ 0 0 rfl rfl hP2 hF2) rfl ?_
        rw [HE.out]
        exact ⟨⟨_, rfl, hp2⟩, hb2⟩
    · have HE := Lib.hid (show pingF f = wrongP 6 0 by
        have h8 : f.pay.length ≠ 8 := by have := HY.out; simp only [bne_iff_ne, ne_eq] at this; rw [← HN.out]; omega
        unfold pingF; rw [if_neg (show ¬ f.stream ≠ 0 from fun q => q s0.out), if_pos h8])
      go_wp2_with fail
      refine (broken_any 6 _).mono ?_
      rintro e w9 ⟨⟨qv, rfl, hq⟩, hb9⟩
      have HO := Lib.hid (HS.out.out.grown hb9)
      clear hb9 c0 c1 c2 c3 hsz
      go_wp2_with (first | (refine store_pt11 rfl (.tmp 2) (.tmp 19) rfl w (w.heap.size + 1) _ _ rfl rfl hq HO.out ?_; intro W hP hF hp hb) | (refine store_fa11 rfl (.tmp 3) (.tmp 20) rfl w (w.heap.size + 1) _ _ 6 0 (Nat.le_succ _) rfl rfl hp hP hF hb ?_; intro W2 hP2 hF2 hp2 hb2))
      refine bodyPost_ret (ans_results rfl _ _ (w.heap.size + 1) _ 6 0 rfl rfl hP2 hF2) rfl ?_
      rw [HE.out]
      exact ⟨⟨_, rfl, hp2⟩, hb2⟩
  · have HE := Lib.hid (show pingF f = wrongP 1 0 by
      have s0 : f.stream ≠ 0 := by simpa using HZ.out
      unfold pingF; rw [if_pos s0])
    go_wp2_with fail
    refine (broken_any 1 _).mono ?_
    rintro e w9 ⟨⟨qv, rfl, hq⟩, hb9⟩
    have HO := Lib.hid (HS.out.out.grown hb9)
    clear hb9 c0 c1 c2 c3 hsz
    go_wp2_with (first | (refine store_pt11 rfl (.tmp 2) (.tmp 10) rfl w (w.heap.size + 1) _ _ rfl rfl hq HO.out ?_; intro W hP hF hp hb) | (refine store_fa11 rfl (.tmp 3) (.tmp 11) rfl w (w.heap.size + 1) _ _ 1 0 (Nat.le_succ _) rfl rfl hp hP hF hb ?_; intro W2 hP2 hF2 hp2 hb2))
    refine bodyPost_ret (ans_results rfl _ _ (w.heap.size + 1) _ 1 0 rfl rfl hP2 hF2) rfl ?_
    rw [HE.out]
    exact ⟨⟨_, rfl, hp2⟩, hb2⟩
set_option maxHeartbeats 4000000 in
theorem away_any (v : Value) (f : Fr) (w : World) (h : FrV w v f) (_ : 0 ≤ f.flags) (_ : f.flags ≤ 255) (_ : f.pay.length ≤ 100000000) :
    Calls Try.prog 21 #[v] w fun e w' => AnsW w' e (awayF f) ∧ Below w.heap.size w w' := by
  obtain ⟨pv, rfl, hp⟩ := h
  obtain ⟨a, cap, rfl, hcp, hcm, _⟩ := id hp
  unfold maxLen at hcm
  obtain ⟨N, hN⟩ : ∃ N, N = f.pay.length := ⟨_, rfl⟩
  rw [← hN] at hp hcp ⊢
  have HN := Lib.hid hN
  have HS := Lib.hid (Spk11.new w f (.slice a N cap) hp)
  have HP := Lib.hid hp
  clear hp hN
  have c0 := HS.out.box.c0
  have c1 := HS.out.box.c1
  have c2 := HS.out.box.c2
  have c3 := HS.out.box.c3
  have hsz := HS.out.box.lt
  unfold ptA faA at HS c0 c1 c2 c3 hsz
  go_enter Try.func21, Try.ntmps21
  obtain ⟨z, hz⟩ : ∃ z, (f.stream != 0) = z := ⟨_, rfl⟩
  obtain ⟨y, hy⟩ : ∃ y, decide ((N : Int) < 8) = y := ⟨_, rfl⟩
  have HY := Lib.hid hy
  have HZ := Lib.hid hz
  cases z
  · have s0 : Hid (f.stream = 0) := Lib.hid (by simpa using HZ.out)
    cases y
    · have HL8 : Hid (8 ≤ f.pay.length) := Lib.hid (by have := HY.out; rw [← HN.out]; simp only [decide_eq_false_iff_not] at this; omega)
      have HL : Hid (4 ≤ f.pay.length) := Lib.hid (by have := HL8.out; omega)
      obtain ⟨vr, hrr, hvr⟩ := HP.out.from_ Try.sliceB11 Try.sizeB11 4 (by omega) (by have := HL8.out; omega)
      have HVR : Hid (Sl .u8 w vr (f.pay.drop 4)) := Lib.hid hvr
      clear hvr
      have HE := Lib.hid (show awayF f = okP (Pt.mk [] [] (num ((f.pay.drop 4).take 4)) (lowF f.pay) 0 0 false false false) by
        unfold awayF; rw [if_neg (show ¬ f.stream ≠ 0 from fun q => q s0.out), if_neg (show ¬ f.pay.length < 8 by have := HL8.out; omega)]; rfl)
      go_wp2_with fail
      refine wp_region_table 12 [22, 23, 24, 25, 26, 27, 28, 29, 30, 31, 32, 33] [[], [(0, 22)], [(1, 23)], [], [(3, 25)], [(4, 26)], [(5, 27)], [(2, 24), (6, 28)], [(7, 29)], [(8, 30)], [(8, 30)], [(8, 30)]]
        (fun i v w' => match i with
          | 0 => v = .pointer (some ⟨w.heap.size, 3, none⟩)
          | 1 => v = .slice a N cap
          | 2 => v = .int .i64 (lowF f.pay)
          | 3 => v = .pointer (some ⟨w.heap.size, 3, none⟩)
          | 4 => v = .slice a N cap
          | 5 => v = vr
          | 6 => v = .int .i64 (num ((f.pay.drop 4).take 4))
          | 7 => PtW w' v (Pt.mk [] [] (num ((f.pay.drop 4).take 4)) (lowF f.pay) 0 0 false false false)
          | 8 => Said11 w' v (Pt.mk [] [] (num ((f.pay.drop 4).take 4)) (lowF f.pay) 0 0 false false false)
          | 9 => PtW w' v (Pt.mk [] [] (num ((f.pay.drop 4).take 4)) (lowF f.pay) 0 0 false false false)
          | 10 => v = .agg (faA 0 0)
          | 11 => v = .bool true
          | _ => True) (by kernel_rfl) (by kernel_rfl) ?tStab ?tOps ?tRest
      case tStab =>
        intro i v w3 w4 h hb
        match i, h with
        | 0, h | 1, h | 2, h | 3, h | 4, h | 5, h | 6, h | 10, h | 11, h => exact h
        | 7, h => exact h.below hb
        | 8, h => exact h.below hb
        | 9, h => exact h.below hb
        | i + 12, _ => trivial
      case tOps =>
        simp only [List.take_succ_cons, List.take_zero, opsOk]
        refine ⟨?_, ?_, ?_, ?_, ?_, ?_, ?_, ?_, ?_, ?_, ?_, ?_, trivial⟩
        · intro ρ w3 hc hf ho hB hj
          have x0 : ρ (.tmp 1) = .pointer (some ⟨w.heap.size, 0, none⟩) := ho 1 (by decide)
          simp [gives, go_sem, x0, Below.refl]
        · intro ρ w3 hc hf ho hB hj
          have x0 : ρ (.tmp 22) = .pointer (some ⟨w.heap.size, 3, none⟩) := hj (0, 22) (by simp)
          have cc := (HS.out.grown hB).box.c3
          simp [gives, go_sem, x0, cc, Below.refl]
        · intro ρ w3 hc hf ho hB hj
          have x0 : ρ (.tmp 23) = .slice a N cap := hj (1, 23) (by simp)
          simp [gives, go_sem, x0, hf]
          exact (lowered_any _ f.pay _ (HP.out.below (HS.out.out.b.trans (hB.mono HS.out.out.b.size))) HL.out).mono (by rintro e w4 ⟨rfl, rfl⟩; exact ⟨_, rfl, rfl, Below.refl _ _⟩)
        · intro ρ w3 hc hf ho hB hj
          have x0 : ρ (.tmp 1) = .pointer (some ⟨w.heap.size, 0, none⟩) := ho 1 (by decide)
          simp [gives, go_sem, x0, Below.refl]
        · intro ρ w3 hc hf ho hB hj
          have x0 : ρ (.tmp 25) = .pointer (some ⟨w.heap.size, 3, none⟩) := hj (3, 25) (by simp)
          have cc := (HS.out.grown hB).box.c3
          simp [gives, go_sem, x0, cc, Below.refl]
        · intro ρ w3 hc hf ho hB hj
          have x0 : ρ (.tmp 26) = .slice a N cap := hj (4, 26) (by simp)
          simp [gives, go_sem, x0, hc, hrr, Below.refl]
        · intro ρ w3 hc hf ho hB hj
          have x0 : ρ (.tmp 27) = vr := hj (5, 27) (by simp)
          simp [gives, go_sem, x0, hc, hf]
          exact (pnumber_any _ (f.pay.drop 4) 4 _ (HVR.out.below (HS.out.out.b.trans (hB.mono HS.out.out.b.size))) (by omega) (by omega) (by have := HL8.out; simp; omega)).mono (by rintro e w4 ⟨rfl, rfl⟩; exact ⟨_, rfl, rfl, Below.refl _ _⟩)
        · intro ρ w3 hc hf ho hB hj
          have x0 : ρ (.tmp 24) = .int .i64 (lowF f.pay) := hj (2, 24) (by simp)
          have x1 : ρ (.tmp 28) = .int .i64 (num ((f.pay.drop 4).take 4)) := hj (6, 28) (by simp)
          simp [gives, go_sem, x0, x1]
          exact ⟨PtW.mk (p := Pt.mk [] [] (num ((f.pay.drop 4).take 4)) (lowF f.pay) 0 0 false false false) (Sl.nil _ _) (Apart11.bare _ _ _) rfl, Below.refl _ _⟩
        · intro ρ w3 hc hf ho hB hj
          have x0 : PtW w3 (ρ (.tmp 29)) (Pt.mk [] [] (num ((f.pay.drop 4).take 4)) (lowF f.pay) 0 0 false false false) := hj (7, 29) (by simp)
          simp [gives, go_sem, hf]
          exact (says_any _ (Pt.mk [] [] (num ((f.pay.drop 4).take 4)) (lowF f.pay) 0 0 false false false) _ x0).mono (by rintro e w4 ⟨⟨qv, rfl, hq⟩, hb⟩; exact ⟨_, rfl, ⟨qv, rfl, hq⟩, hb⟩)
        · intro ρ w3 hc hf ho hB hj
          have x0 : Said11 w3 (ρ (.tmp 30)) (Pt.mk [] [] (num ((f.pay.drop 4).take 4)) (lowF f.pay) 0 0 false false false) := hj (8, 30) (by simp)
          obtain ⟨qv, hu, hq⟩ := x0
          simp [gives, go_sem, hu]
          exact ⟨hq, Below.refl _ _⟩
        · intro ρ w3 hc hf ho hB hj
          have x0 : Said11 w3 (ρ (.tmp 30)) (Pt.mk [] [] (num ((f.pay.drop 4).take 4)) (lowF f.pay) 0 0 false false false) := hj (8, 30) (by simp)
          obtain ⟨qv, hu, hq⟩ := x0
          simp [gives, go_sem, hu, Below.refl]
        · intro ρ w3 hc hf ho hB hj
          have x0 : Said11 w3 (ρ (.tmp 30)) (Pt.mk [] [] (num ((f.pay.drop 4).take 4)) (lowF f.pay) 0 0 false false false) := hj (8, 30) (by simp)
          obtain ⟨qv, hu, hq⟩ := x0
          simp [gives, go_sem, hu, Below.refl]
      case tRest =>
        intro X w3 hBw hX
        have x0 : X 0 = .pointer (some ⟨w.heap.size, 3, none⟩) := hX 0 (by decide)
        have x1 : X 1 = .slice a N cap := hX 1 (by decide)
        have x2 : X 2 = .int .i64 (lowF f.pay) := hX 2 (by decide)
        have x3 : X 3 = .pointer (some ⟨w.heap.size, 3, none⟩) := hX 3 (by decide)
        have x4 : X 4 = .slice a N cap := hX 4 (by decide)
        have x5 : X 5 = vr := hX 5 (by decide)
        have x6 : X 6 = .int .i64 (num ((f.pay.drop 4).take 4)) := hX 6 (by decide)
        have x7 := hX 7 (by decide)
        have x8 := hX 8 (by decide)
        have x9 := hX 9 (by decide)
        have x10 : X 10 = .agg (faA 0 0) := hX 10 (by decide)
        have x11 : X 11 = .bool true := hX 11 (by decide)
        simp only [putAll, List.getD_cons_zero, List.getD_cons_succ, Act.put, List.setIfInBounds_toArray, List.set_cons_zero, List.set_cons_succ, List.drop_succ_cons, List.drop_zero]
        rw [x0, x1, x2, x3, x4, x5, x6, x10, x11]
        have HO := Lib.hid (HS.out.out.grown hBw)
        have HQ := Lib.hid x9
        clear x9 hX hBw
        go_wp2_with (first | (refine store_pt11 rfl (.tmp 2) (.tmp 31) rfl w (w.heap.size + 1) _ _ rfl rfl HQ.out HO.out ?_; intro W hP hF hp hb) | (refine store_fa11 rfl (.tmp 3) (.tmp 32) rfl w (w.heap.size + 1) _ _ 0 0 (Nat.le_succ _) rfl rfl hp hP hF hb ?_; intro W2 hP2 hF2 hp2 hb2))
        refine bodyPost_ret (ans_results rfl _ _ (w.heap.size + 1) _ 0 0 rfl rfl hP2 hF2) rfl ?_
        rw [HE.out]
        exact ⟨⟨_, rfl, hp2⟩, hb2⟩
    · have HE := Lib.hid (show awayF f = wrongP 6 0 by
        have h8 : f.pay.length < 8 := by have := HY.out; simp only [decide_eq_true_iff] at this; rw [← HN.out]; omega
        unfold awayF; rw [if_neg (show ¬ f.stream ≠ 0 from fun q => q s0.out), if_pos h8])
      go_wp2_with fail
      refine (broken_any 6 _).mono ?_
      rintro e w9 ⟨⟨qv, rfl, hq⟩, hb9⟩
      have HO := Lib.hid (HS.out.out.grown hb9)
      clear hb9 c0 c1 c2 c3 hsz
      go_wp2_with (first | (refine store_pt11 rfl (.tmp 2) (.tmp 19) rfl w (w.heap.size + 1) _ _ rfl rfl hq HO.out ?_; intro W hP hF hp hb) | (refine store_fa11 rfl (.tmp 3) (.tmp 20) rfl w (w.heap.size + 1) _ _ 6 0 (Nat.le_succ _) rfl rfl hp hP hF hb ?_; intro W2 hP2 hF2 hp2 hb2))
      refine bodyPost_ret (ans_results rfl _ _ (w.heap.size + 1) _ 6 0 rfl rfl hP2 hF2) rfl ?_
      rw [HE.out]
      exact ⟨⟨_, rfl, hp2⟩, hb2⟩
  · have HE := Lib.hid (show awayF f = wrongP 1 0 by
      have s0 : f.stream ≠ 0 := by simpa using HZ.out
      unfold awayF; rw [if_pos s0])
    go_wp2_with fail
    refine (broken_any 1 _).mono ?_
    rintro e w9 ⟨⟨qv, rfl, hq⟩, hb9⟩
    have HO := Lib.hid (HS.out.out.grown hb9)
    clear hb9 c0 c1 c2 c3 hsz
    go_wp2_with (first | (refine store_pt11 rfl (.tmp 2) (.tmp 10) rfl w (w.heap.size + 1) _ _ rfl rfl hq HO.out ?_; intro W hP hF hp hb) | (refine store_fa11 rfl (.tmp 3) (.tmp 11) rfl w (w.heap.size + 1) _ _ 1 0 (Nat.le_succ _) rfl rfl hp hP hF hb ?_; intro W2 hP2 hF2 hp2 hb2))
    refine bodyPost_ret (ans_results rfl _ _ (w.heap.size + 1) _ 1 0 rfl rfl hP2 hF2) rfl ?_
    rw [HE.out]
    exact ⟨⟨_, rfl, hp2⟩, hb2⟩
end Go.Proofs.Ytohghphegcnfkaa
