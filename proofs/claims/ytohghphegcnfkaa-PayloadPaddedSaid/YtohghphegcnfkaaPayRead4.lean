
/-
  Layer 11, the program's own: what frames say, kind by kind (written by wip/tools/gen11r.py): data.
-/
import Derived.Test.YtohghphegcnfkaaPayRead1
namespace Go.Proofs.Ytohghphegcnfkaa
set_option maxRecDepth 20000
open Go.RowKit

theorem unpad_len (f : Fr) : (unpadF f).2.length ≤ f.pay.length := by
  unfold unpadF
  cases flagB f 8
  · exact Nat.le_refl _
  · simp only [cond_true]
    cases f.pay with
    | nil => simp
    | cons n r =>
      simp only
      split
      · simp
      · simp; omega
set_option maxHeartbeats 4000000 in
theorem data_any (v : Value) (f : Fr) (w : World) (h : FrV w v f) (h0 : 0 ≤ f.flags) (h1 : f.flags ≤ 255) (hl : f.pay.length ≤ 100000000) :
    Calls Try.prog 14 #[v] w fun e w' => AnsW w' e (dataF f) ∧ Below w.heap.size w w' := by
  obtain ⟨pv, rfl, hp⟩ := h
  obtain ⟨a, cap, rfl, hcp, hcm, _⟩ := id hp
  unfold maxLen at hcm
  obtain ⟨N, hN⟩ : ∃ N, N = f.pay.length := ⟨_, rfl⟩
  rw [← hN] at hp hl hcp ⊢
  have HN := Lib.hid hN
  have HS := Lib.hid (Spk11.new w f (.slice a N cap) hp)
  have HP := Lib.hid hp
  clear hp hN
  have c0 := HS.out.box.c0
  have c1 := HS.out.box.c1
  have c2 := HS.out.box.c2
  have c3 := HS.out.box.c3
  have hsz := HS.out.box.lt
  unfold ptA faA at HS c0 c1 c2 c3 hsz
  go_enter Try.func14, Try.ntmps14
  obtain ⟨z, hz⟩ : ∃ z, (f.stream == 0) = z := ⟨_, rfl⟩
  have HZ := Lib.hid hz
  cases z
  · have s0 := Lib.hid (show ¬ f.stream = 0 by simpa using HZ.out)
    go_wp2_with fail
    refine (unpadded_any _ f _ (HS.out.fr HP.out) h0 h1).mono ?_
    rintro e w1 ⟨bv, rfl, hbv, hb⟩
    have HBV := Lib.hid hbv
    obtain ⟨ab, cb, rfl, hcb, hcb2, _⟩ := id hbv
    obtain ⟨M, hM⟩ : ∃ M, M = (unpadF f).2.length := ⟨_, rfl⟩
    rw [← hM] at HBV hcb ⊢
    have HM := Lib.hid hM
    unfold maxLen at hcb2
    clear hbv hM
    have HS2 := Lib.hid (HS.out.grown hb)
    clear hb c0 c1 c2 c3 hsz 
    have c0 := HS2.out.box.c0
    have c1 := HS2.out.box.c1
    have c2 := HS2.out.box.c2
    have c3 := HS2.out.box.c3
    have hsz := HS2.out.box.lt
    obtain ⟨cd, hcd⟩ : ∃ cd, cd = (unpadF f).1 := ⟨_, rfl⟩
    rw [← hcd]
    have HCD := Lib.hid hcd
    clear hcd
    obtain ⟨y, hy⟩ : ∃ y, (cd != 0) = y := ⟨_, rfl⟩
    have HY := Lib.hid hy
    cases y
    · have u0 : Hid ((unpadF f).1 = 0) := Lib.hid (by have := HY.out; simp only [bne_eq_false_iff_eq] at this; rw [← HCD.out]; exact this)
      have HE := Lib.hid (show dataF f = okP (Pt.mk (unpadF f).2 [] 0 0 0 (N : Int) (flagB f 1) false false) by
        unfold dataF; rw [if_neg s0.out, if_neg (show ¬ (unpadF f).1 ≠ 0 from fun q => q u0.out), HN.out]; rfl)
      have hlu := unpad_len f
      go_wp2_with fail
      refine wp_region_table 12 [26, 27, 28, 29, 30, 31, 32, 33, 34, 35, 36, 37] [[], [(0, 26)], [], [(2, 28)], [], [(4, 30)], [(5, 31)], [(1, 27), (3, 29), (6, 32)], [(7, 33)], [(8, 34)], [(8, 34)], [(8, 34)]]
        (fun i v w' => match i with
          | 0 => v = .slice ab M cb
          | 1 => Clo11 w' v ((unpadF f).2)
          | 2 => v = .agg #[.int .i64 f.kind, .int .i64 f.flags, .int .i64 f.stream, .slice a N cap]
          | 3 => v = .bool (flagB f 1)
          | 4 => v = .pointer (some ⟨w.heap.size, 3, none⟩)
          | 5 => v = .slice a N cap
          | 6 => v = .int .i64 (N : Int)
          | 7 => PtW w' v (Pt.mk (unpadF f).2 [] 0 0 0 (N : Int) (flagB f 1) false false)
          | 8 => Said11 w' v (Pt.mk (unpadF f).2 [] 0 0 0 (N : Int) (flagB f 1) false false)
          | 9 => PtW w' v (Pt.mk (unpadF f).2 [] 0 0 0 (N : Int) (flagB f 1) false false)
          | 10 => v = .agg (faA 0 0)
          | 11 => v = .bool true
          | _ => True) (by kernel_rfl) (by kernel_rfl) ?tStab ?tOps ?tRest
      case tStab =>
        intro i v w3 w4 h hb
        match i, h with
        | 0, h | 2, h | 3, h | 4, h | 5, h | 6, h | 10, h | 11, h => exact h
        | 1, h => exact h.below hb
        | 7, h => exact h.below hb
        | 8, h => exact h.below hb
        | 9, h => exact h.below hb
        | i + 12, _ => trivial
      case tOps =>
        simp only [List.take_succ_cons, List.take_zero, opsOk]
        refine ⟨?_, ?_, ?_, ?_, ?_, ?_, ?_, ?_, ?_, ?_, ?_, ?_, trivial⟩
        · intro ρ w3 hc hf ho hB hj
          have x0 : ρ (.tmp 5) = .slice ab M cb := ho 5 (by decide)
          simp [gives, go_sem, x0, Below.refl]
        · intro ρ w3 hc hf ho hB hj
          have x0 : ρ (.tmp 26) = .slice ab M cb := hj (0, 26) (by simp)
          simp [gives, go_sem, x0, hf]
          exact (clone11_any _ ((unpadF f).2) _ (HBV.out.below hB) (by rw [← HN.out] at hlu; omega)).mono (by rintro e w4 ⟨bv, rfl, h1, h2, hb⟩; exact ⟨_, rfl, ⟨h1, h2⟩, hb⟩)
        · intro ρ w3 hc hf ho hB hj
          have x0 : ρ (.tmp 1) = .pointer (some ⟨w.heap.size, 0, none⟩) := ho 1 (by decide)
          have c0 := (HS2.out.grown hB).box.c0
          have c1 := (HS2.out.grown hB).box.c1
          have c2 := (HS2.out.grown hB).box.c2
          have c3 := (HS2.out.grown hB).box.c3
          simp [gives, go_sem, x0, c0, c1, c2, c3, Below.refl]
        · intro ρ w3 hc hf ho hB hj
          have x0 : ρ (.tmp 28) = .agg #[.int .i64 f.kind, .int .i64 f.flags, .int .i64 f.stream, .slice a N cap] := hj (2, 28) (by simp)
          simp [gives, go_sem, x0, hc, hf]
          exact (phas_any _ f 1 _ ⟨_, rfl, HP.out.below (HS2.out.out.b.trans (hB.mono HS2.out.out.b.size))⟩ h0 h1 (by omega)).mono (by rintro e w4 ⟨rfl, hb⟩; exact ⟨_, rfl, rfl, hb⟩)
        · intro ρ w3 hc hf ho hB hj
          have x0 : ρ (.tmp 1) = .pointer (some ⟨w.heap.size, 0, none⟩) := ho 1 (by decide)
          simp [gives, go_sem, x0, Below.refl]
        · intro ρ w3 hc hf ho hB hj
          have x0 : ρ (.tmp 30) = .pointer (some ⟨w.heap.size, 3, none⟩) := hj (4, 30) (by simp)
          have cc := (HS2.out.grown hB).box.c3
          simp [gives, go_sem, x0, cc, Below.refl]
        · intro ρ w3 hc hf ho hB hj
          have x0 : ρ (.tmp 31) = .slice a N cap := hj (5, 31) (by simp)
          simp [gives, go_sem, x0, Below.refl]
        · intro ρ w3 hc hf ho hB hj
          have x0 : Clo11 w3 (ρ (.tmp 27)) ((unpadF f).2) := hj (1, 27) (by simp)
          have x1 : ρ (.tmp 29) = .bool (flagB f 1) := hj (3, 29) (by simp)
          have x2 : ρ (.tmp 32) = .int .i64 (N : Int) := hj (6, 32) (by simp)
          obtain ⟨ac, cc, ec, hc1⟩ := Clo11.shape x0
          simp [gives, go_sem, x1, x2, ec]
          exact ⟨PtW.mk (p := Pt.mk (unpadF f).2 [] 0 0 0 (N : Int) (flagB f 1) false false) (by have := x0.1; rw [ec] at this; exact this) (by have := x0.2; rw [ec] at this; exact this) rfl, Below.refl _ _⟩
        · intro ρ w3 hc hf ho hB hj
          have x0 : PtW w3 (ρ (.tmp 33)) (Pt.mk (unpadF f).2 [] 0 0 0 (N : Int) (flagB f 1) false false) := hj (7, 33) (by simp)
          simp [gives, go_sem, hf]
          exact (says_any _ (Pt.mk (unpadF f).2 [] 0 0 0 (N : Int) (flagB f 1) false false) _ x0).mono (by rintro e w4 ⟨⟨qv, rfl, hq⟩, hb⟩; exact ⟨_, rfl, ⟨qv, rfl, hq⟩, hb⟩)
        · intro ρ w3 hc hf ho hB hj
          have x0 : Said11 w3 (ρ (.tmp 34)) (Pt.mk (unpadF f).2 [] 0 0 0 (N : Int) (flagB f 1) false false) := hj (8, 34) (by simp)
          obtain ⟨qv, hu, hq⟩ := x0
          simp [gives, go_sem, hu]
          exact ⟨hq, Below.refl _ _⟩
        · intro ρ w3 hc hf ho hB hj
          have x0 : Said11 w3 (ρ (.tmp 34)) (Pt.mk (unpadF f).2 [] 0 0 0 (N : Int) (flagB f 1) false false) := hj (8, 34) (by simp)
          obtain ⟨qv, hu, hq⟩ := x0
          simp [gives, go_sem, hu, Below.refl]
        · intro ρ w3 hc hf ho hB hj
          have x0 : Said11 w3 (ρ (.tmp 34)) (Pt.mk (unpadF f).2 [] 0 0 0 (N : Int) (flagB f 1) false false) := hj (8, 34) (by simp)
          obtain ⟨qv, hu, hq⟩ := x0
          simp [gives, go_sem, hu, Below.refl]
      case tRest =>
        intro X w3 hBw hX
        have x0 : X 0 = .slice ab M cb := hX 0 (by decide)
        have x1 := hX 1 (by decide)
        have x2 : X 2 = .agg #[.int .i64 f.kind, .int .i64 f.flags, .int .i64 f.stream, .slice a N cap] := hX 2 (by decide)
        have x3 : X 3 = .bool (flagB f 1) := hX 3 (by decide)
        have x4 : X 4 = .pointer (some ⟨w.heap.size, 3, none⟩) := hX 4 (by decide)
        have x5 : X 5 = .slice a N cap := hX 5 (by decide)
        have x6 : X 6 = .int .i64 (N : Int) := hX 6 (by decide)
        have x7 := hX 7 (by decide)
        have x8 := hX 8 (by decide)
        have x9 := hX 9 (by decide)
        have x10 : X 10 = .agg (faA 0 0) := hX 10 (by decide)
        have x11 : X 11 = .bool true := hX 11 (by decide)
        simp only [putAll, List.getD_cons_zero, List.getD_cons_succ, Act.put, List.setIfInBounds_toArray, List.set_cons_zero, List.set_cons_succ, List.drop_succ_cons, List.drop_zero]
        rw [x0, x2, x3, x4, x5, x6, x10, x11]
        have HO := Lib.hid (HS2.out.out.grown hBw)
        have HQ := Lib.hid x9
        clear x9 hX hBw
        go_wp2_with (first | (refine store_pt11 rfl (.tmp 2) (.tmp 35) rfl w (w.heap.size + 1) _ _ rfl rfl HQ.out HO.out ?_; intro W hP hF hp hb) | (refine store_fa11 rfl (.tmp 3) (.tmp 36) rfl w (w.heap.size + 1) _ _ 0 0 (Nat.le_succ _) rfl rfl hp hP hF hb ?_; intro W2 hP2 hF2 hp2 hb2))
        refine bodyPost_ret (ans_results rfl _ _ (w.heap.size + 1) _ 0 0 rfl rfl hP2 hF2) rfl ?_
        rw [HE.out]
        exact ⟨⟨_, rfl, hp2⟩, hb2⟩
    · have HE := Lib.hid (show dataF f = wrongP cd 0 by
        have u0 : (unpadF f).1 ≠ 0 := by have := HY.out; simp only [bne_iff_ne, ne_eq] at this; rw [← HCD.out]; exact this
        unfold dataF; rw [if_neg s0.out, if_pos u0, HCD.out])
      go_wp2_with fail
      refine (broken_any cd _).mono ?_
      rintro e w9 ⟨⟨qv, rfl, hq⟩, hb9⟩
      have HO := Lib.hid (HS2.out.out.grown hb9)
      clear hb9 c0 c1 c2 c3 hsz
      go_wp2_with (first | (refine store_pt11 rfl (.tmp 2) (.tmp 23) rfl w (w.heap.size + 1) _ _ rfl rfl hq HO.out ?_; intro W hP hF hp hb) | (refine store_fa11 rfl (.tmp 3) (.tmp 24) rfl w (w.heap.size + 1) _ _ cd 0 (Nat.le_succ _) rfl rfl hp hP hF hb ?_; intro W2 hP2 hF2 hp2 hb2))
      refine bodyPost_ret (ans_results rfl _ _ (w.heap.size + 1) _ cd 0 rfl rfl hP2 hF2) rfl ?_
      rw [HE.out]
      exact ⟨⟨_, rfl, hp2⟩, hb2⟩
  · have HE := Lib.hid (show dataF f = wrongP 1 0 by
      have s0 : f.stream = 0 := by simpa using HZ.out
      unfold dataF; rw [if_pos s0])
    go_wp2_with fail
    refine (broken_any 1 _).mono ?_
    rintro e w9 ⟨⟨qv, rfl, hq⟩, hb9⟩
    have HO := Lib.hid (HS.out.out.grown hb9)
    clear hb9 c0 c1 c2 c3 hsz
    go_wp2_with (first | (refine store_pt11 rfl (.tmp 2) (.tmp 11) rfl w (w.heap.size + 1) _ _ rfl rfl hq HO.out ?_; intro W hP hF hp hb) | (refine store_fa11 rfl (.tmp 3) (.tmp 12) rfl w (w.heap.size + 1) _ _ 1 0 (Nat.le_succ _) rfl rfl hp hP hF hb ?_; intro W2 hP2 hF2 hp2 hb2))
    refine bodyPost_ret (ans_results rfl _ _ (w.heap.size + 1) _ 1 0 rfl rfl hP2 hF2) rfl ?_
    rw [HE.out]
    exact ⟨⟨_, rfl, hp2⟩, hb2⟩
end Go.Proofs.Ytohghphegcnfkaa
