
/-
  Layer 11, the program's own: what frames say, kind by kind (written by wip/tools/gen11r.py): reset, continuation.
-/
import Derived.Test.YtohghphegcnfkaaPayRead0
namespace Go.Proofs.Ytohghphegcnfkaa
set_option maxRecDepth 20000
open Go.RowKit

theorem PtW.mk {w : World} {bv : Value} {p : Pt} (h1 : Sl .u8 w bv p.bytes) (h2 : Apart11 w bv) (h3 : p.pairs = []) : PtW w (.agg (ptA bv (.slice none 0 0) p)) p :=
  ⟨_, _, rfl, h1, h3 ▸ ⟨none, 0, rfl, Nat.le_refl _, by simp, .inl ⟨rfl, fun _ => rfl⟩⟩, h2, Apart11.bare _ _ _⟩
/-- a copy of bytes -/
def Clo11 (w : World) (v : Value) (zs : List Int) : Prop := Sl .u8 w v zs ∧ Apart11 w v
theorem Clo11.below {w w' : World} {v : Value} {zs : List Int} (h : Clo11 w v zs) (hb : Below w.heap.size w w') : Clo11 w' v zs := ⟨h.1.below hb, h.2.below hb⟩
theorem Clo11.shape {w : World} {v : Value} {zs : List Int} (h : Clo11 w v zs) : ∃ a c, v = .slice a zs.length c ∧ zs.length ≤ c := by
  obtain ⟨⟨a, c, e, h, _⟩, _⟩ := h; exact ⟨a, c, e, h⟩
/-- what says answers -/
def Said11 (w : World) (v : Value) (p : Pt) : Prop := ∃ qv, v = .tuple #[qv, .agg (faA 0 0), .bool true] ∧ PtW w qv p
theorem Said11.below {w w' : World} {v : Value} {p : Pt} (h : Said11 w v p) (hb : Below w.heap.size w w') : Said11 w' v p := by
  obtain ⟨qv, e, h⟩ := h; exact ⟨qv, e, h.below hb⟩
set_option maxHeartbeats 4000000 in
theorem reset_any (v : Value) (f : Fr) (w : World) (h : FrV w v f) (_ : 0 ≤ f.flags) (_ : f.flags ≤ 255) (_ : f.pay.length ≤ 100000000) :
    Calls Try.prog 17 #[v] w fun e w' => AnsW w' e (resetF f) ∧ Below w.heap.size w w' := by
  obtain ⟨pv, rfl, hp⟩ := h
  obtain ⟨a, cap, rfl, hcp, hcm, _⟩ := id hp
  unfold maxLen at hcm
  obtain ⟨N, hN⟩ : ∃ N, N = f.pay.length := ⟨_, rfl⟩
  rw [← hN] at hp hcp ⊢
  have HN := Lib.hid hN
  have HS := Lib.hid (Spk11.new w f (.slice a N cap) hp)
  have HP := Lib.hid hp
  clear hp hN
  have c0 := HS.out.box.c0
  have c1 := HS.out.box.c1
  have c2 := HS.out.box.c2
  have c3 := HS.out.box.c3
  have hsz := HS.out.box.lt
  unfold ptA faA at HS c0 c1 c2 c3 hsz
  go_enter Try.func17, Try.ntmps17
  obtain ⟨z, hz⟩ : ∃ z, (f.stream == 0) = z := ⟨_, rfl⟩
  obtain ⟨y, hy⟩ : ∃ y, ((N : Int) != 4) = y := ⟨_, rfl⟩
  have HE := Lib.hid (show resetF f = if z then wrongP 1 0 else if y then wrongP 6 0 else okP { Pt.zero with code := num f.pay } by
    unfold resetF
    rw [← hz, ← hy, HN.out]
    simp only [beq_iff_eq, bne_iff_ne, ne_eq]
    by_cases h4 : f.pay.length = 4
    · simp [h4]
    · rw [if_pos h4, if_pos (show ¬ ((f.pay.length : Int) = 4) by omega)])
  have HY := Lib.hid hy
  cases z
  · cases y
    · have h4 : Hid (f.pay.length = 4) := Lib.hid (by have := HY.out; rw [← HN.out]; simp only [bne_eq_false_iff_eq] at this; omega)
      go_wp2_with fail
      refine (pnumber_any _ f.pay 4 _ (HP.out.below HS.out.out.b) (by omega) (by omega) (by have := h4.out; omega)).mono ?_
      rintro e w1 ⟨rfl, rfl⟩
      rw [show (4 : Int).toNat = 4 from rfl, List.take_of_length_le (by have := h4.out; omega)]
      go_wp2_with fail
      refine (says_any _ { Pt.zero with code := num f.pay } _ (PtW.mk (Sl.nil _ _) (Apart11.bare _ _ _) rfl)).mono ?_
      rintro e w9 ⟨⟨qv, rfl, hq⟩, hb9⟩
      have HO := Lib.hid (HS.out.out.grown hb9)
      clear hb9 c0 c1 c2 c3 hsz
      go_wp2_with (first | (refine store_pt11 rfl (.tmp 2) (.tmp 27) rfl w (w.heap.size + 1) _ _ rfl rfl hq HO.out ?_; intro W hP hF hp hb) | (refine store_fa11 rfl (.tmp 3) (.tmp 28) rfl w (w.heap.size + 1) _ _ 0 0 (Nat.le_succ _) rfl rfl hp hP hF hb ?_; intro W2 hP2 hF2 hp2 hb2))
      refine bodyPost_ret (ans_results rfl _ _ (w.heap.size + 1) _ 0 0 rfl rfl hP2 hF2) rfl ?_
      rw [show resetF f = okP { Pt.zero with code := num f.pay } from HE.out]
      exact ⟨⟨_, rfl, hp2⟩, hb2⟩
    · go_wp2_with fail
      refine (broken_any 6 _).mono ?_
      rintro e w9 ⟨⟨qv, rfl, hq⟩, hb9⟩
      have HO := Lib.hid (HS.out.out.grown hb9)
      clear hb9 c0 c1 c2 c3 hsz
      go_wp2_with (first | (refine store_pt11 rfl (.tmp 2) (.tmp 19) rfl w (w.heap.size + 1) _ _ rfl rfl hq HO.out ?_; intro W hP hF hp hb) | (refine store_fa11 rfl (.tmp 3) (.tmp 20) rfl w (w.heap.size + 1) _ _ 6 0 (Nat.le_succ _) rfl rfl hp hP hF hb ?_; intro W2 hP2 hF2 hp2 hb2))
      refine bodyPost_ret (ans_results rfl _ _ (w.heap.size + 1) _ 6 0 rfl rfl hP2 hF2) rfl ?_
      rw [show resetF f = wrongP 6 0 from HE.out]
      exact ⟨⟨_, rfl, hp2⟩, hb2⟩
  · go_wp2_with fail
    refine (broken_any 1 _).mono ?_
    rintro e w9 ⟨⟨qv, rfl, hq⟩, hb9⟩
    have HO := Lib.hid (HS.out.out.grown hb9)
    clear hb9 c0 c1 c2 c3 hsz
    go_wp2_with (first | (refine store_pt11 rfl (.tmp 2) (.tmp 10) rfl w (w.heap.size + 1) _ _ rfl rfl hq HO.out ?_; intro W hP hF hp hb) | (refine store_fa11 rfl (.tmp 3) (.tmp 11) rfl w (w.heap.size + 1) _ _ 1 0 (Nat.le_succ _) rfl rfl hp hP hF hb ?_; intro W2 hP2 hF2 hp2 hb2))
    refine bodyPost_ret (ans_results rfl _ _ (w.heap.size + 1) _ 1 0 rfl rfl hP2 hF2) rfl ?_
    rw [show resetF f = wrongP 1 0 from HE.out]
    exact ⟨⟨_, rfl, hp2⟩, hb2⟩
set_option maxHeartbeats 4000000 in
theorem cont_any (v : Value) (f : Fr) (w : World) (h : FrV w v f) (h0 : 0 ≤ f.flags) (h1 : f.flags ≤ 255) (hl : f.pay.length ≤ 100000000) :
    Calls Try.prog 23 #[v] w fun e w' => AnsW w' e (contF f) ∧ Below w.heap.size w w' := by
  obtain ⟨pv, rfl, hp⟩ := h
  obtain ⟨a, cap, rfl, hcp, hcm, _⟩ := id hp
  unfold maxLen at hcm
  obtain ⟨N, hN⟩ : ∃ N, N = f.pay.length := ⟨_, rfl⟩
  rw [← hN] at hp hl hcp ⊢
  have HN := Lib.hid hN
  have HS := Lib.hid (Spk11.new w f (.slice a N cap) hp)
  have HP := Lib.hid hp
  clear hp hN
  have c0 := HS.out.box.c0
  have c1 := HS.out.box.c1
  have c2 := HS.out.box.c2
  have c3 := HS.out.box.c3
  have hsz := HS.out.box.lt
  unfold ptA faA at HS c0 c1 c2 c3 hsz
  go_enter Try.func23, Try.ntmps23
  obtain ⟨z, hz⟩ : ∃ z, (f.stream == 0) = z := ⟨_, rfl⟩
  have HE := Lib.hid (show contF f = if z then wrongP 1 0 else okP (Pt.mk f.pay [] 0 0 0 0 false (flagB f 4) false) by
    unfold contF
    rw [← hz]
    simp only [beq_iff_eq]
    rfl)
  cases z
  · go_wp2_with fail
    refine wp_region_table 10 [12, 13, 14, 15, 16, 17, 18, 19, 20, 21] [[], [(0, 12)], [(1, 13)], [], [(3, 15)], [(2, 14), (4, 16)], [(5, 17)], [(6, 18)], [(6, 18)], [(6, 18)]]
      (fun i v w' => match i with
        | 0 => v = .pointer (some ⟨w.heap.size, 3, none⟩)
        | 1 => v = .slice a N cap
        | 2 => Clo11 w' v (f.pay)
        | 3 => v = .agg #[.int .i64 f.kind, .int .i64 f.flags, .int .i64 f.stream, .slice a N cap]
        | 4 => v = .bool (flagB f 4)
        | 5 => PtW w' v (Pt.mk f.pay [] 0 0 0 0 false (flagB f 4) false)
        | 6 => Said11 w' v (Pt.mk f.pay [] 0 0 0 0 false (flagB f 4) false)
        | 7 => PtW w' v (Pt.mk f.pay [] 0 0 0 0 false (flagB f 4) false)
        | 8 => v = .agg (faA 0 0)
        | 9 => v = .bool true
        | _ => True) (by kernel_rfl) (by kernel_rfl) ?tStab ?tOps ?tRest
    case tStab =>
      intro i v w3 w4 h hb
      match i, h with
      | 0, h | 1, h | 3, h | 4, h | 8, h | 9, h => exact h
      | 2, h => exact h.below hb
      | 5, h => exact h.below hb
      | 6, h => exact h.below hb
      | 7, h => exact h.below hb
      | i + 10, _ => trivial
    case tOps =>
      simp only [List.take_succ_cons, List.take_zero, opsOk]
      refine ⟨?_, ?_, ?_, ?_, ?_, ?_, ?_, ?_, ?_, ?_, trivial⟩
      · intro ρ w3 hc hf ho hB hj
        have x0 : ρ (.tmp 1) = .pointer (some ⟨w.heap.size, 0, none⟩) := ho 1 (by decide)
        simp [gives, go_sem, x0, Below.refl]
      · intro ρ w3 hc hf ho hB hj
        have x0 : ρ (.tmp 12) = .pointer (some ⟨w.heap.size, 3, none⟩) := hj (0, 12) (by simp)
        have cc := (HS.out.grown hB).box.c3
        simp [gives, go_sem, x0, cc, Below.refl]
      · intro ρ w3 hc hf ho hB hj
        have x0 : ρ (.tmp 13) = .slice a N cap := hj (1, 13) (by simp)
        simp [gives, go_sem, x0, hf]
        exact (clone11_any _ (f.pay) _ (HP.out.below (HS.out.out.b.trans (hB.mono HS.out.out.b.size))) (by rw [← HN.out]; omega)).mono (by rintro e w4 ⟨bv, rfl, h1, h2, hb⟩; exact ⟨_, rfl, ⟨h1, h2⟩, hb⟩)
      · intro ρ w3 hc hf ho hB hj
        have x0 : ρ (.tmp 1) = .pointer (some ⟨w.heap.size, 0, none⟩) := ho 1 (by decide)
        have c0 := (HS.out.grown hB).box.c0
        have c1 := (HS.out.grown hB).box.c1
        have c2 := (HS.out.grown hB).box.c2
        have c3 := (HS.out.grown hB).box.c3
        simp [gives, go_sem, x0, c0, c1, c2, c3, Below.refl]
      · intro ρ w3 hc hf ho hB hj
        have x0 : ρ (.tmp 15) = .agg #[.int .i64 f.kind, .int .i64 f.flags, .int .i64 f.stream, .slice a N cap] := hj (3, 15) (by simp)
        simp [gives, go_sem, x0, hc, hf]
        exact (phas_any _ f 4 _ ⟨_, rfl, HP.out.below (HS.out.out.b.trans (hB.mono HS.out.out.b.size))⟩ h0 h1 (by omega)).mono (by rintro e w4 ⟨rfl, hb⟩; exact ⟨_, rfl, rfl, hb⟩)
      · intro ρ w3 hc hf ho hB hj
        have x0 : Clo11 w3 (ρ (.tmp 14)) (f.pay) := hj (2, 14) (by simp)
        have x1 : ρ (.tmp 16) = .bool (flagB f 4) := hj (4, 16) (by simp)
        obtain ⟨ac, cc, ec, hc1⟩ := Clo11.shape x0
        simp [gives, go_sem, x1, ec]
        exact ⟨PtW.mk (p := Pt.mk f.pay [] 0 0 0 0 false (flagB f 4) false) (by have := x0.1; rw [ec] at this; exact this) (by have := x0.2; rw [ec] at this; exact this) rfl, Below.refl _ _⟩
      · intro ρ w3 hc hf ho hB hj
        have x0 : PtW w3 (ρ (.tmp 17)) (Pt.mk f.pay [] 0 0 0 0 false (flagB f 4) false) := hj (5, 17) (by simp)
        simp [gives, go_sem, hf]
        exact (says_any _ (Pt.mk f.pay [] 0 0 0 0 false (flagB f 4) false) _ x0).mono (by rintro e w4 ⟨⟨qv, rfl, hq⟩, hb⟩; exact ⟨_, rfl, ⟨qv, rfl, hq⟩, hb⟩)
      · intro ρ w3 hc hf ho hB hj
        have x0 : Said11 w3 (ρ (.tmp 18)) (Pt.mk f.pay [] 0 0 0 0 false (flagB f 4) false) := hj (6, 18) (by simp)
        obtain ⟨qv, hu, hq⟩ := x0
        simp [gives, go_sem, hu]
        exact ⟨hq, Below.refl _ _⟩
      · intro ρ w3 hc hf ho hB hj
        have x0 : Said11 w3 (ρ (.tmp 18)) (Pt.mk f.pay [] 0 0 0 0 false (flagB f 4) false) := hj (6, 18) (by simp)
        obtain ⟨qv, hu, hq⟩ := x0
        simp [gives, go_sem, hu, Below.refl]
      · intro ρ w3 hc hf ho hB hj
        have x0 : Said11 w3 (ρ (.tmp 18)) (Pt.mk f.pay [] 0 0 0 0 false (flagB f 4) false) := hj (6, 18) (by simp)
        obtain ⟨qv, hu, hq⟩ := x0
        simp [gives, go_sem, hu, Below.refl]
    case tRest =>
      intro X w3 hBw hX
      have x0 : X 0 = .pointer (some ⟨w.heap.size, 3, none⟩) := hX 0 (by decide)
      have x1 : X 1 = .slice a N cap := hX 1 (by decide)
      have x2 := hX 2 (by decide)
      have x3 : X 3 = .agg #[.int .i64 f.kind, .int .i64 f.flags, .int .i64 f.stream, .slice a N cap] := hX 3 (by decide)
      have x4 : X 4 = .bool (flagB f 4) := hX 4 (by decide)
      have x5 := hX 5 (by decide)
      have x6 := hX 6 (by decide)
      have x7 := hX 7 (by decide)
      have x8 : X 8 = .agg (faA 0 0) := hX 8 (by decide)
      have x9 : X 9 = .bool true := hX 9 (by decide)
      simp only [putAll, List.getD_cons_zero, List.getD_cons_succ, Act.put, List.setIfInBounds_toArray, List.set_cons_zero, List.set_cons_succ, List.drop_succ_cons, List.drop_zero]
      rw [x0, x1, x3, x4, x8, x9]
      have HO := Lib.hid (HS.out.out.grown hBw)
      have HQ := Lib.hid x7
      clear x7 hX hBw
      go_wp2_with (first | (refine store_pt11 rfl (.tmp 2) (.tmp 19) rfl w (w.heap.size + 1) _ _ rfl rfl HQ.out HO.out ?_; intro W hP hF hp hb) | (refine store_fa11 rfl (.tmp 3) (.tmp 20) rfl w (w.heap.size + 1) _ _ 0 0 (Nat.le_succ _) rfl rfl hp hP hF hb ?_; intro W2 hP2 hF2 hp2 hb2))
      refine bodyPost_ret (ans_results rfl _ _ (w.heap.size + 1) _ 0 0 rfl rfl hP2 hF2) rfl ?_
      rw [show contF f = okP (Pt.mk f.pay [] 0 0 0 0 false (flagB f 4) false) from HE.out]
      exact ⟨⟨_, rfl, hp2⟩, hb2⟩
  · go_wp2_with fail
    refine (broken_any 1 _).mono ?_
    rintro e w9 ⟨⟨qv, rfl, hq⟩, hb9⟩
    have HO := Lib.hid (HS.out.out.grown hb9)
    clear hb9 c0 c1 c2 c3 hsz
    go_wp2_with (first | (refine store_pt11 rfl (.tmp 2) (.tmp 9) rfl w (w.heap.size + 1) _ _ rfl rfl hq HO.out ?_; intro W hP hF hp hb) | (refine store_fa11 rfl (.tmp 3) (.tmp 10) rfl w (w.heap.size + 1) _ _ 1 0 (Nat.le_succ _) rfl rfl hp hP hF hb ?_; intro W2 hP2 hF2 hp2 hb2))
    refine bodyPost_ret (ans_results rfl _ _ (w.heap.size + 1) _ 1 0 rfl rfl hP2 hF2) rfl ?_
    rw [show contF f = wrongP 1 0 from HE.out]
    exact ⟨⟨_, rfl, hp2⟩, hb2⟩
end Go.Proofs.Ytohghphegcnfkaa
