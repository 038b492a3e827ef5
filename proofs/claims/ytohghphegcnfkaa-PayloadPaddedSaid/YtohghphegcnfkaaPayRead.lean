
/-
  Layer 11, the program's own: Read (written by the session's own program; the methods: XPayRead1 to XPayRead7).
-/
import Derived.Test.YtohghphegcnfkaaPayKinds
import Derived.Test.YtohghphegcnfkaaPayRead2
import Derived.Test.YtohghphegcnfkaaPayRead3
import Derived.Test.YtohghphegcnfkaaPayRead5
import Derived.Test.YtohghphegcnfkaaPayRead6
import Derived.Test.YtohghphegcnfkaaPayRead7
namespace Go.Proofs.Ytohghphegcnfkaa
set_option maxRecDepth 20000
open Go.RowKit

/-- Read's own blocks: the frame, the answer's -/
structure Rdr11 (w : World) (f : Fr) (pv : Value) (W : World) : Prop where
  box : Bx W w.heap.size 25 f pv
  out : Out11 w (w.heap.size + 1) W
theorem Rdr11.grown {w W W' : World} {f : Fr} {pv : Value} (h : Rdr11 w f pv W) (hb : Below W.heap.size W W') : Rdr11 w f pv W' := ⟨h.box.below hb, h.out.grown hb⟩
theorem Rdr11.new (w : World) (f : Fr) (pv : Value) : Rdr11 w f pv (((w.alloc (.cells #[.int .i64 f.kind, .int .i64 f.flags, .int .i64 f.stream, pv] 25)).alloc (.cells (ptA (.slice none 0 0) (.slice none 0 0) Pt.zero) 29)).alloc (.cells (faA 0 0) 32)) := by
  have hal := (Below.refl w.heap.size w).alloc (Nat.le_refl _) (.cells #[.int .i64 f.kind, .int .i64 f.flags, .int .i64 f.stream, pv] 25)
  have h1 := (Below.refl _ (w.alloc (.cells #[.int .i64 f.kind, .int .i64 f.flags, .int .i64 f.stream, pv] 25))).alloc (Nat.le_refl _) (.cells (ptA (.slice none 0 0) (.slice none 0 0) Pt.zero) 29)
  have h2 := (Below.refl _ ((w.alloc (.cells #[.int .i64 f.kind, .int .i64 f.flags, .int .i64 f.stream, pv] 25)).alloc (.cells (ptA (.slice none 0 0) (.slice none 0 0) Pt.zero) 29))).alloc (Nat.le_refl _) (.cells (faA 0 0) 32)
  refine ⟨((Bx.new w 25 f pv).below h1).below h2, ?_⟩
  have := Out11.new w _ hal
  simpa using this
def MapAt11 (w : World) (v : Value) : Prop := ∃ B, v = .map (some B) ∧ w.heap[B]? = some (.map (knA 10) 10)
theorem MapAt11.below {w w' : World} {v : Value} (h : MapAt11 w v) (hb : Below w.heap.size w w') : MapAt11 w' v := by
  obtain ⟨B, e, h⟩ := h
  exact ⟨B, e, (hb.block B (Array.getElem?_eq_some_iff.1 h).1).trans h⟩
/-- what the map has at a kind -/
theorem kn_cases (k : Int) : ∃ v b, ((∃ n : Nat, n < 10 ∧ k = n ∧ v = knF n ∧ b = true) ∨ ((k < 0 ∨ 9 < k) ∧ v = .nilFunc ∧ b = false)) := by
  by_cases h : 0 ≤ k ∧ k ≤ 9
  · exact ⟨knF k.toNat, true, .inl ⟨k.toNat, by omega, by omega, rfl, rfl⟩⟩
  · exact ⟨.nilFunc, false, .inr ⟨by omega, rfl, rfl⟩⟩
set_option maxHeartbeats 8000000 in
theorem pRead11 (v : Value) (f : Fr) (w : World) (h : FrV w v f) (hl : f.pay.length ≤ 100000000) :
    Calls Try.prog 5 #[v] w fun e w' => AnsW w' e (readF f) ∧ Below w.heap.size w w' := by
  obtain ⟨pv, rfl, hp⟩ := h
  obtain ⟨a, cap, rfl, hcp, hcm, _⟩ := id hp
  unfold maxLen at hcm
  obtain ⟨N, hN⟩ : ∃ N, N = f.pay.length := ⟨_, rfl⟩
  have HL := Lib.hid hl
  rw [← hN] at hp hl hcp ⊢
  have HN := Lib.hid hN
  have HS := Lib.hid (Rdr11.new w f (.slice a N cap))
  have HP := Lib.hid hp
  clear hp hN
  have c0 := HS.out.box.c0
  have c1 := HS.out.box.c1
  have c2 := HS.out.box.c2
  have c3 := HS.out.box.c3
  have hsz := HS.out.box.lt
  unfold ptA faA at HS c0 c1 c2 c3 hsz
  go_enter Try.func5, Try.ntmps5
  go_wp2_with fail
  refine (mayBe_any _ f _ ⟨_, rfl, HP.out.below HS.out.out.b⟩).mono ?_
  rintro e w1 ⟨rfl, hb⟩
  have HS2 := Lib.hid (HS.out.grown hb)
  clear hb HS c0 c1 c2 c3 hsz
  have c0 := HS2.out.box.c0
  have c1 := HS2.out.box.c1
  have c2 := HS2.out.box.c2
  have c3 := HS2.out.box.c3
  have hsz := HS2.out.box.lt
  by_cases hR : f.right
  · rw [decide_eq_true hR]
    have hfl : 0 ≤ f.flags ∧ f.flags ≤ 255 := ⟨hR.2.2.1, hR.2.2.2.1⟩
    have HFL := Lib.hid hfl
    have HR := Lib.hid hR
    clear hfl hR
    obtain ⟨kv, kb, hkv⟩ := kn_cases f.kind
    have HKV := Lib.hid hkv
    have HLK := Lib.hid (fun W B hB => look_kn W B hB f.kind kv kb HKV.out)
    clear hkv
    go_wp2_with fail
    refine wp_region_table 9 [15, 16, 17, 18, 14, 19, 20, 5, 6] [[], [], [(1, 16)], [(0, 15), (2, 17)], [(3, 18)], [(4, 14)], [(4, 14)], [(5, 19)], [(6, 20)]]
      (fun i v w' => match i with
        | 0 => MapAt11 w' v
        | 1 => v = .pointer (some ⟨w.heap.size, 0, none⟩)
        | 2 => v = .int .i64 f.kind
        | 3 => v = .tuple #[kv, .bool kb]
        | 4 => v = .tuple #[kv, .bool kb]
        | 5 => v = kv
        | 6 => v = .bool kb
        | 7 => v = kv
        | 8 => v = .bool kb
        | _ => True) (by kernel_rfl) (by kernel_rfl) ?tStab ?tOps ?tRest
    case tStab =>
      intro i v w3 w4 h hb
      match i, h with
      | 1, h | 2, h | 3, h | 4, h | 5, h | 6, h | 7, h | 8, h => exact h
      | 0, h => exact h.below hb
      | i + 9, _ => trivial
    case tOps =>
      simp only [List.take_succ_cons, List.take_zero, opsOk]
      refine ⟨?_, ?_, ?_, ?_, ?_, ?_, ?_, ?_, ?_, trivial⟩
      · intro ρ w3 hc hf ho hB hj
        simp [gives, go_sem, hf]
        exact (kinds_any _).mono (by rintro e w4 ⟨rfl, hm, hb⟩; exact ⟨_, rfl, ⟨_, rfl, hm⟩, hb⟩)
      · intro ρ w3 hc hf ho hB hj
        have x0 : ρ (.tmp 1) = .pointer (some ⟨w.heap.size, 0, none⟩) := ho 1 (by decide)
        simp [gives, go_sem, x0, Below.refl]
      · intro ρ w3 hc hf ho hB hj
        have x0 : ρ (.tmp 16) = .pointer (some ⟨w.heap.size, 0, none⟩) := hj (1, 16) (by simp)
        have cc := (HS2.out.grown hB).box.c0
        simp [gives, go_sem, x0, cc, Below.refl]
      · intro ρ w3 hc hf ho hB hj
        have x0 : MapAt11 w3 (ρ (.tmp 15)) := hj (0, 15) (by simp)
        have x1 : ρ (.tmp 17) = .int .i64 f.kind := hj (2, 17) (by simp)
        obtain ⟨B, eB, hBm⟩ := x0
        have hlk := HLK.out w3 B hBm
        simp [gives, go_sem, x1, eB, hlk, Below.refl]
      · intro ρ w3 hc hf ho hB hj
        have x0 : ρ (.tmp 18) = .tuple #[kv, .bool kb] := hj (3, 18) (by simp)
        simp [gives, go_sem, x0, Below.refl]
      · intro ρ w3 hc hf ho hB hj
        have x0 : ρ (.tmp 14) = .tuple #[kv, .bool kb] := hj (4, 14) (by simp)
        simp [gives, go_sem, x0, Below.refl]
      · intro ρ w3 hc hf ho hB hj
        have x0 : ρ (.tmp 14) = .tuple #[kv, .bool kb] := hj (4, 14) (by simp)
        simp [gives, go_sem, x0, Below.refl]
      · intro ρ w3 hc hf ho hB hj
        have x0 : ρ (.tmp 19) = kv := hj (5, 19) (by simp)
        simp [gives, go_sem, x0, Below.refl]
      · intro ρ w3 hc hf ho hB hj
        have x0 : ρ (.tmp 20) = .bool kb := hj (6, 20) (by simp)
        simp [gives, go_sem, x0, Below.refl]
    case tRest =>
      intro X w3 hBw hX
      have x0 := hX 0 (by decide)
      have x1 : X 1 = .pointer (some ⟨w.heap.size, 0, none⟩) := hX 1 (by decide)
      have x2 : X 2 = .int .i64 f.kind := hX 2 (by decide)
      have x3 : X 3 = .tuple #[kv, .bool kb] := hX 3 (by decide)
      have x4 : X 4 = .tuple #[kv, .bool kb] := hX 4 (by decide)
      have x5 : X 5 = kv := hX 5 (by decide)
      have x6 : X 6 = .bool kb := hX 6 (by decide)
      have x7 : X 7 = kv := hX 7 (by decide)
      have x8 : X 8 = .bool kb := hX 8 (by decide)
      simp only [putAll, List.getD_cons_zero, List.getD_cons_succ, Act.put, List.setIfInBounds_toArray, List.set_cons_zero, List.set_cons_succ, List.drop_succ_cons, List.drop_zero]
      rw [x1, x2, x3, x4, x5, x6, x7, x8]
      have HS3 := Lib.hid (HS2.out.grown hBw)
      clear hX hBw x0 HS2 c0 c1 c2 c3 hsz
      have c0 := HS3.out.box.c0
      have c1 := HS3.out.box.c1
      have c2 := HS3.out.box.c2
      have c3 := HS3.out.box.c3
      have hsz := HS3.out.box.lt
      rcases HKV.out with ⟨n, hn, hk, rfl, rfl⟩ | ⟨hk, rfl, rfl⟩
      · have HN10 := Lib.hid hn
        have hkk := Lib.hid hk
        clear hn hk HKV HLK
        match n, HN10, hkk with
        | 0, _, hkk =>
          have HE := Lib.hid (show readF f = dataF f by
            unfold readF; rw [if_neg (show ¬ ¬ f.right from fun q => q HR.out), if_pos (show f.kind = 0 from hkk.out)])
          rw [show knF 0 = .func (.func 14) #[] #[] from rfl]
          go_wp2_with fail
          refine (data_any _ f _ ⟨_, rfl, HP.out.below HS3.out.out.b⟩ HFL.out.1 HFL.out.2 HL.out).mono ?_
          rintro e w9 ⟨⟨qv, rfl, hq⟩, hb9⟩
          obtain ⟨R, hR⟩ : ∃ R, R = dataF f := ⟨_, rfl⟩
          rw [← hR] at hq ⊢
          rw [← hR] at HE
          obtain ⟨rp, ⟨rc, rs⟩, rb⟩ := R
          clear hR
          have HO := Lib.hid (HS3.out.out.grown hb9)
          clear hb9 c0 c1 c2 c3 hsz
          go_wp2_with (first | (refine store_pt11 rfl (.tmp 2) (.tmp 31) rfl w (w.heap.size + 1) _ _ rfl rfl hq HO.out ?_; intro W hP hF hp hb) | (refine store_fa11 rfl (.tmp 3) (.tmp 32) rfl w (w.heap.size + 1) _ _ (rc) (rs) (Nat.le_succ _) rfl rfl hp hP hF hb ?_; intro W2 hP2 hF2 hp2 hb2))
          refine bodyPost_ret (ans_results rfl _ _ (w.heap.size + 1) _ (rc) (rs) rfl rfl hP2 hF2) rfl ?_
          rw [HE.out]
          exact ⟨⟨_, rfl, hp2⟩, hb2⟩
        | 1, _, hkk =>
          have HE := Lib.hid (show readF f = headF f by
            unfold readF; rw [if_neg (show ¬ ¬ f.right from fun q => q HR.out), if_neg (show ¬ f.kind = 0 by rw [hkk.out]; decide), if_pos (show f.kind = 1 from hkk.out)])
          rw [show knF 1 = .func (.func 15) #[] #[] from rfl]
          go_wp2_with fail
          refine (head_any _ f _ ⟨_, rfl, HP.out.below HS3.out.out.b⟩ HFL.out.1 HFL.out.2 HL.out).mono ?_
          rintro e w9 ⟨⟨qv, rfl, hq⟩, hb9⟩
          obtain ⟨R, hR⟩ : ∃ R, R = headF f := ⟨_, rfl⟩
          rw [← hR] at hq ⊢
          rw [← hR] at HE
          obtain ⟨rp, ⟨rc, rs⟩, rb⟩ := R
          clear hR
          have HO := Lib.hid (HS3.out.out.grown hb9)
          clear hb9 c0 c1 c2 c3 hsz
          go_wp2_with (first | (refine store_pt11 rfl (.tmp 2) (.tmp 31) rfl w (w.heap.size + 1) _ _ rfl rfl hq HO.out ?_; intro W hP hF hp hb) | (refine store_fa11 rfl (.tmp 3) (.tmp 32) rfl w (w.heap.size + 1) _ _ (rc) (rs) (Nat.le_succ _) rfl rfl hp hP hF hb ?_; intro W2 hP2 hF2 hp2 hb2))
          refine bodyPost_ret (ans_results rfl _ _ (w.heap.size + 1) _ (rc) (rs) rfl rfl hP2 hF2) rfl ?_
          rw [HE.out]
          exact ⟨⟨_, rfl, hp2⟩, hb2⟩
        | 2, _, hkk =>
          have HE := Lib.hid (show readF f = prioF f by
            unfold readF; rw [if_neg (show ¬ ¬ f.right from fun q => q HR.out), if_neg (show ¬ f.kind = 0 by rw [hkk.out]; decide), if_neg (show ¬ f.kind = 1 by rw [hkk.out]; decide), if_pos (show f.kind = 2 from hkk.out)])
          rw [show knF 2 = .func (.func 16) #[] #[] from rfl]
          go_wp2_with fail
          refine (prio_any _ f _ ⟨_, rfl, HP.out.below HS3.out.out.b⟩ HFL.out.1 HFL.out.2 HL.out).mono ?_
          rintro e w9 ⟨⟨qv, rfl, hq⟩, hb9⟩
          obtain ⟨R, hR⟩ : ∃ R, R = prioF f := ⟨_, rfl⟩
          rw [← hR] at hq ⊢
          rw [← hR] at HE
          obtain ⟨rp, ⟨rc, rs⟩, rb⟩ := R
          clear hR
          have HO := Lib.hid (HS3.out.out.grown hb9)
          clear hb9 c0 c1 c2 c3 hsz
          go_wp2_with (first | (refine store_pt11 rfl (.tmp 2) (.tmp 31) rfl w (w.heap.size + 1) _ _ rfl rfl hq HO.out ?_; intro W hP hF hp hb) | (refine store_fa11 rfl (.tmp 3) (.tmp 32) rfl w (w.heap.size + 1) _ _ (rc) (rs) (Nat.le_succ _) rfl rfl hp hP hF hb ?_; intro W2 hP2 hF2 hp2 hb2))
          refine bodyPost_ret (ans_results rfl _ _ (w.heap.size + 1) _ (rc) (rs) rfl rfl hP2 hF2) rfl ?_
          rw [HE.out]
          exact ⟨⟨_, rfl, hp2⟩, hb2⟩
        | 3, _, hkk =>
          have HE := Lib.hid (show readF f = resetF f by
            unfold readF; rw [if_neg (show ¬ ¬ f.right from fun q => q HR.out), if_neg (show ¬ f.kind = 0 by rw [hkk.out]; decide), if_neg (show ¬ f.kind = 1 by rw [hkk.out]; decide), if_neg (show ¬ f.kind = 2 by rw [hkk.out]; decide), if_pos (show f.kind = 3 from hkk.out)])
          rw [show knF 3 = .func (.func 17) #[] #[] from rfl]
          go_wp2_with fail
          refine (reset_any _ f _ ⟨_, rfl, HP.out.below HS3.out.out.b⟩ HFL.out.1 HFL.out.2 HL.out).mono ?_
          rintro e w9 ⟨⟨qv, rfl, hq⟩, hb9⟩
          obtain ⟨R, hR⟩ : ∃ R, R = resetF f := ⟨_, rfl⟩
          rw [← hR] at hq ⊢
          rw [← hR] at HE
          obtain ⟨rp, ⟨rc, rs⟩, rb⟩ := R
          clear hR
          have HO := Lib.hid (HS3.out.out.grown hb9)
          clear hb9 c0 c1 c2 c3 hsz
          go_wp2_with (first | (refine store_pt11 rfl (.tmp 2) (.tmp 31) rfl w (w.heap.size + 1) _ _ rfl rfl hq HO.out ?_; intro W hP hF hp hb) | (refine store_fa11 rfl (.tmp 3) (.tmp 32) rfl w (w.heap.size + 1) _ _ (rc) (rs) (Nat.le_succ _) rfl rfl hp hP hF hb ?_; intro W2 hP2 hF2 hp2 hb2))
          refine bodyPost_ret (ans_results rfl _ _ (w.heap.size + 1) _ (rc) (rs) rfl rfl hP2 hF2) rfl ?_
          rw [HE.out]
          exact ⟨⟨_, rfl, hp2⟩, hb2⟩
        | 4, _, hkk =>
          have HE := Lib.hid (show readF f = settF f by
            unfold readF; rw [if_neg (show ¬ ¬ f.right from fun q => q HR.out), if_neg (show ¬ f.kind = 0 by rw [hkk.out]; decide), if_neg (show ¬ f.kind = 1 by rw [hkk.out]; decide), if_neg (show ¬ f.kind = 2 by rw [hkk.out]; decide), if_neg (show ¬ f.kind = 3 by rw [hkk.out]; decide), if_pos (show f.kind = 4 from hkk.out)])
          rw [show knF 4 = .func (.func 18) #[] #[] from rfl]
          go_wp2_with fail
          refine (sett_any _ f _ ⟨_, rfl, HP.out.below HS3.out.out.b⟩ HFL.out.1 HFL.out.2 HL.out).mono ?_
          rintro e w9 ⟨⟨qv, rfl, hq⟩, hb9⟩
          obtain ⟨R, hR⟩ : ∃ R, R = settF f := ⟨_, rfl⟩
          rw [← hR] at hq ⊢
          rw [← hR] at HE
          obtain ⟨rp, ⟨rc, rs⟩, rb⟩ := R
          clear hR
          have HO := Lib.hid (HS3.out.out.grown hb9)
          clear hb9 c0 c1 c2 c3 hsz
          go_wp2_with (first | (refine store_pt11 rfl (.tmp 2) (.tmp 31) rfl w (w.heap.size + 1) _ _ rfl rfl hq HO.out ?_; intro W hP hF hp hb) | (refine store_fa11 rfl (.tmp 3) (.tmp 32) rfl w (w.heap.size + 1) _ _ (rc) (rs) (Nat.le_succ _) rfl rfl hp hP hF hb ?_; intro W2 hP2 hF2 hp2 hb2))
          refine bodyPost_ret (ans_results rfl _ _ (w.heap.size + 1) _ (rc) (rs) rfl rfl hP2 hF2) rfl ?_
          rw [HE.out]
          exact ⟨⟨_, rfl, hp2⟩, hb2⟩
        | 5, _, hkk =>
          have HE := Lib.hid (show readF f = wrongP 1 0 by
            unfold readF; rw [if_neg (show ¬ ¬ f.right from fun q => q HR.out), if_neg (show ¬ f.kind = 0 by rw [hkk.out]; decide), if_neg (show ¬ f.kind = 1 by rw [hkk.out]; decide), if_neg (show ¬ f.kind = 2 by rw [hkk.out]; decide), if_neg (show ¬ f.kind = 3 by rw [hkk.out]; decide), if_neg (show ¬ f.kind = 4 by rw [hkk.out]; decide), if_pos (show f.kind = 5 from hkk.out)])
          rw [show knF 5 = .func (.func 19) #[] #[] from rfl]
          go_wp2_with fail
          refine (push_any _ f _ ⟨_, rfl, HP.out.below HS3.out.out.b⟩ HFL.out.1 HFL.out.2 HL.out).mono ?_
          rintro e w9 ⟨⟨qv, rfl, hq⟩, hb9⟩
          obtain ⟨R, hR⟩ : ∃ R, R = wrongP 1 0 := ⟨_, rfl⟩
          rw [← hR] at hq ⊢
          rw [← hR] at HE
          obtain ⟨rp, ⟨rc, rs⟩, rb⟩ := R
          clear hR
          have HO := Lib.hid (HS3.out.out.grown hb9)
          clear hb9 c0 c1 c2 c3 hsz
          go_wp2_with (first | (refine store_pt11 rfl (.tmp 2) (.tmp 31) rfl w (w.heap.size + 1) _ _ rfl rfl hq HO.out ?_; intro W hP hF hp hb) | (refine store_fa11 rfl (.tmp 3) (.tmp 32) rfl w (w.heap.size + 1) _ _ (rc) (rs) (Nat.le_succ _) rfl rfl hp hP hF hb ?_; intro W2 hP2 hF2 hp2 hb2))
          refine bodyPost_ret (ans_results rfl _ _ (w.heap.size + 1) _ (rc) (rs) rfl rfl hP2 hF2) rfl ?_
          rw [HE.out]
          exact ⟨⟨_, rfl, hp2⟩, hb2⟩
        | 6, _, hkk =>
          have HE := Lib.hid (show readF f = pingF f by
            unfold readF; rw [if_neg (show ¬ ¬ f.right from fun q => q HR.out), if_neg (show ¬ f.kind = 0 by rw [hkk.out]; decide), if_neg (show ¬ f.kind = 1 by rw [hkk.out]; decide), if_neg (show ¬ f.kind = 2 by rw [hkk.out]; decide), if_neg (show ¬ f.kind = 3 by rw [hkk.out]; decide), if_neg (show ¬ f.kind = 4 by rw [hkk.out]; decide), if_neg (show ¬ f.kind = 5 by rw [hkk.out]; decide), if_pos (show f.kind = 6 from hkk.out)])
          rw [show knF 6 = .func (.func 20) #[] #[] from rfl]
          go_wp2_with fail
          refine (ping_any _ f _ ⟨_, rfl, HP.out.below HS3.out.out.b⟩ HFL.out.1 HFL.out.2 HL.out).mono ?_
          rintro e w9 ⟨⟨qv, rfl, hq⟩, hb9⟩
          obtain ⟨R, hR⟩ : ∃ R, R = pingF f := ⟨_, rfl⟩
          rw [← hR] at hq ⊢
          rw [← hR] at HE
          obtain ⟨rp, ⟨rc, rs⟩, rb⟩ := R
          clear hR
          have HO := Lib.hid (HS3.out.out.grown hb9)
          clear hb9 c0 c1 c2 c3 hsz
          go_wp2_with (first | (refine store_pt11 rfl (.tmp 2) (.tmp 31) rfl w (w.heap.size + 1) _ _ rfl rfl hq HO.out ?_; intro W hP hF hp hb) | (refine store_fa11 rfl (.tmp 3) (.tmp 32) rfl w (w.heap.size + 1) _ _ (rc) (rs) (Nat.le_succ _) rfl rfl hp hP hF hb ?_; intro W2 hP2 hF2 hp2 hb2))
          refine bodyPost_ret (ans_results rfl _ _ (w.heap.size + 1) _ (rc) (rs) rfl rfl hP2 hF2) rfl ?_
          rw [HE.out]
          exact ⟨⟨_, rfl, hp2⟩, hb2⟩
        | 7, _, hkk =>
          have HE := Lib.hid (show readF f = awayF f by
            unfold readF; rw [if_neg (show ¬ ¬ f.right from fun q => q HR.out), if_neg (show ¬ f.kind = 0 by rw [hkk.out]; decide), if_neg (show ¬ f.kind = 1 by rw [hkk.out]; decide), if_neg (show ¬ f.kind = 2 by rw [hkk.out]; decide), if_neg (show ¬ f.kind = 3 by rw [hkk.out]; decide), if_neg (show ¬ f.kind = 4 by rw [hkk.out]; decide), if_neg (show ¬ f.kind = 5 by rw [hkk.out]; decide), if_neg (show ¬ f.kind = 6 by rw [hkk.out]; decide), if_pos (show f.kind = 7 from hkk.out)])
          rw [show knF 7 = .func (.func 21) #[] #[] from rfl]
          go_wp2_with fail
          refine (away_any _ f _ ⟨_, rfl, HP.out.below HS3.out.out.b⟩ HFL.out.1 HFL.out.2 HL.out).mono ?_
          rintro e w9 ⟨⟨qv, rfl, hq⟩, hb9⟩
          obtain ⟨R, hR⟩ : ∃ R, R = awayF f := ⟨_, rfl⟩
          rw [← hR] at hq ⊢
          rw [← hR] at HE
          obtain ⟨rp, ⟨rc, rs⟩, rb⟩ := R
          clear hR
          have HO := Lib.hid (HS3.out.out.grown hb9)
          clear hb9 c0 c1 c2 c3 hsz
          go_wp2_with (first | (refine store_pt11 rfl (.tmp 2) (.tmp 31) rfl w (w.heap.size + 1) _ _ rfl rfl hq HO.out ?_; intro W hP hF hp hb) | (refine store_fa11 rfl (.tmp 3) (.tmp 32) rfl w (w.heap.size + 1) _ _ (rc) (rs) (Nat.le_succ _) rfl rfl hp hP hF hb ?_; intro W2 hP2 hF2 hp2 hb2))
          refine bodyPost_ret (ans_results rfl _ _ (w.heap.size + 1) _ (rc) (rs) rfl rfl hP2 hF2) rfl ?_
          rw [HE.out]
          exact ⟨⟨_, rfl, hp2⟩, hb2⟩
        | 8, _, hkk =>
          have HE := Lib.hid (show readF f = updF f by
            unfold readF; rw [if_neg (show ¬ ¬ f.right from fun q => q HR.out), if_neg (show ¬ f.kind = 0 by rw [hkk.out]; decide), if_neg (show ¬ f.kind = 1 by rw [hkk.out]; decide), if_neg (show ¬ f.kind = 2 by rw [hkk.out]; decide), if_neg (show ¬ f.kind = 3 by rw [hkk.out]; decide), if_neg (show ¬ f.kind = 4 by rw [hkk.out]; decide), if_neg (show ¬ f.kind = 5 by rw [hkk.out]; decide), if_neg (show ¬ f.kind = 6 by rw [hkk.out]; decide), if_neg (show ¬ f.kind = 7 by rw [hkk.out]; decide), if_pos (show f.kind = 8 from hkk.out)])
          rw [show knF 8 = .func (.func 22) #[] #[] from rfl]
          go_wp2_with fail
          refine (update_any _ f _ ⟨_, rfl, HP.out.below HS3.out.out.b⟩ HFL.out.1 HFL.out.2 HL.out).mono ?_
          rintro e w9 ⟨⟨qv, rfl, hq⟩, hb9⟩
          obtain ⟨R, hR⟩ : ∃ R, R = updF f := ⟨_, rfl⟩
          rw [← hR] at hq ⊢
          rw [← hR] at HE
          obtain ⟨rp, ⟨rc, rs⟩, rb⟩ := R
          clear hR
          have HO := Lib.hid (HS3.out.out.grown hb9)
          clear hb9 c0 c1 c2 c3 hsz
          go_wp2_with (first | (refine store_pt11 rfl (.tmp 2) (.tmp 31) rfl w (w.heap.size + 1) _ _ rfl rfl hq HO.out ?_; intro W hP hF hp hb) | (refine store_fa11 rfl (.tmp 3) (.tmp 32) rfl w (w.heap.size + 1) _ _ (rc) (rs) (Nat.le_succ _) rfl rfl hp hP hF hb ?_; intro W2 hP2 hF2 hp2 hb2))
          refine bodyPost_ret (ans_results rfl _ _ (w.heap.size + 1) _ (rc) (rs) rfl rfl hP2 hF2) rfl ?_
          rw [HE.out]
          exact ⟨⟨_, rfl, hp2⟩, hb2⟩
        | 9, _, hkk =>
          have HE := Lib.hid (show readF f = contF f by
            unfold readF; rw [if_neg (show ¬ ¬ f.right from fun q => q HR.out), if_neg (show ¬ f.kind = 0 by rw [hkk.out]; decide), if_neg (show ¬ f.kind = 1 by rw [hkk.out]; decide), if_neg (show ¬ f.kind = 2 by rw [hkk.out]; decide), if_neg (show ¬ f.kind = 3 by rw [hkk.out]; decide), if_neg (show ¬ f.kind = 4 by rw [hkk.out]; decide), if_neg (show ¬ f.kind = 5 by rw [hkk.out]; decide), if_neg (show ¬ f.kind = 6 by rw [hkk.out]; decide), if_neg (show ¬ f.kind = 7 by rw [hkk.out]; decide), if_neg (show ¬ f.kind = 8 by rw [hkk.out]; decide), if_pos (show f.kind = 9 from hkk.out)])
          rw [show knF 9 = .func (.func 23) #[] #[] from rfl]
          go_wp2_with fail
          refine (cont_any _ f _ ⟨_, rfl, HP.out.below HS3.out.out.b⟩ HFL.out.1 HFL.out.2 HL.out).mono ?_
          rintro e w9 ⟨⟨qv, rfl, hq⟩, hb9⟩
          obtain ⟨R, hR⟩ : ∃ R, R = contF f := ⟨_, rfl⟩
          rw [← hR] at hq ⊢
          rw [← hR] at HE
          obtain ⟨rp, ⟨rc, rs⟩, rb⟩ := R
          clear hR
          have HO := Lib.hid (HS3.out.out.grown hb9)
          clear hb9 c0 c1 c2 c3 hsz
          go_wp2_with (first | (refine store_pt11 rfl (.tmp 2) (.tmp 31) rfl w (w.heap.size + 1) _ _ rfl rfl hq HO.out ?_; intro W hP hF hp hb) | (refine store_fa11 rfl (.tmp 3) (.tmp 32) rfl w (w.heap.size + 1) _ _ (rc) (rs) (Nat.le_succ _) rfl rfl hp hP hF hb ?_; intro W2 hP2 hF2 hp2 hb2))
          refine bodyPost_ret (ans_results rfl _ _ (w.heap.size + 1) _ (rc) (rs) rfl rfl hP2 hF2) rfl ?_
          rw [HE.out]
          exact ⟨⟨_, rfl, hp2⟩, hb2⟩
        | n + 10, h, _ => exact absurd h.out (by omega)
      · have HE := Lib.hid (show readF f = okP Pt.zero by
          unfold readF; rw [if_neg (show ¬ ¬ f.right from fun q => q HR.out), if_neg (by omega), if_neg (by omega), if_neg (by omega), if_neg (by omega), if_neg (by omega), if_neg (by omega), if_neg (by omega), if_neg (by omega), if_neg (by omega), if_neg (by omega)])
        clear hk
        go_wp2_with fail
        refine (says_any _ Pt.zero _ (PtW.zero _)).mono ?_
        rintro e w9 ⟨⟨qv, rfl, hq⟩, hb9⟩
        have HO := Lib.hid (HS3.out.out.grown hb9)
        clear hb9 c0 c1 c2 c3 hsz
        go_wp2_with (first | (refine store_pt11 rfl (.tmp 2) (.tmp 25) rfl w (w.heap.size + 1) _ _ rfl rfl hq HO.out ?_; intro W hP hF hp hb) | (refine store_fa11 rfl (.tmp 3) (.tmp 26) rfl w (w.heap.size + 1) _ _ (0) (0) (Nat.le_succ _) rfl rfl hp hP hF hb ?_; intro W2 hP2 hF2 hp2 hb2))
        refine bodyPost_ret (ans_results rfl _ _ (w.heap.size + 1) _ (0) (0) rfl rfl hP2 hF2) rfl ?_
        rw [HE.out]
        exact ⟨⟨_, rfl, hp2⟩, hb2⟩
  · have HE := Lib.hid (show readF f = wrongP 2 0 by unfold readF; rw [if_pos hR])
    rw [decide_eq_false hR]
    clear hR
    go_wp2_with fail
    refine (broken_any 2 _).mono ?_
    rintro e w9 ⟨⟨qv, rfl, hq⟩, hb9⟩
    have HO := Lib.hid (HS2.out.out.grown hb9)
    clear hb9 c0 c1 c2 c3 hsz
    go_wp2_with (first | (refine store_pt11 rfl (.tmp 2) (.tmp 11) rfl w (w.heap.size + 1) _ _ rfl rfl hq HO.out ?_; intro W hP hF hp hb) | (refine store_fa11 rfl (.tmp 3) (.tmp 12) rfl w (w.heap.size + 1) _ _ (2) (0) (Nat.le_succ _) rfl rfl hp hP hF hb ?_; intro W2 hP2 hF2 hp2 hb2))
    refine bodyPost_ret (ans_results rfl _ _ (w.heap.size + 1) _ (2) (0) rfl rfl hP2 hF2) rfl ?_
    rw [HE.out]
    exact ⟨⟨_, rfl, hp2⟩, hb2⟩
theorem pRead_any (v : Value) (f : Fr) (w : World) (h : FrV w v f) (hl : f.pay.length ≤ 1000000) :
    Calls Try.prog 5 #[v] w fun e w' => ∃ pv, e = .returned (.tuple #[pv, .agg #[.int .i64 (readF f).2.1.1, .int .i64 (readF f).2.1.2], .bool (readF f).2.2]) ∧ PtV w' pv (readF f).1 ∧ Below w.heap.size w w' :=
  (pRead11 v f w h (by omega)).mono fun _ _ ⟨⟨pv, e, hp⟩, hb⟩ => ⟨pv, e, hp.toV, hb⟩
end Go.Proofs.Ytohghphegcnfkaa
