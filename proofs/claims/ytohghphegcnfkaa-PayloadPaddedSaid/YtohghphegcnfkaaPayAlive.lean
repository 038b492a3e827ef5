
/-
  Layer 11's live question (written by wip/tools/gen11v.py), and the program's Read as XLaw11 asks it.
-/
import Derived.Test.YtohghphegcnfkaaPayRead
import Derived.Test.YtohghphegcnfkaaSame
import Derived.Test.YtohghphegcnfkaaPayRef
namespace Go.Proofs.Ytohghphegcnfkaa
set_option maxRecDepth 20000
open Go.RowKit

theorem al11_1 : readF ⟨0, 9, 3, [1, 7, 8, 0]⟩ = (Pt.mk [7, 8] [] 0 0 0 4 true false false, (0, 0), true) := by kernel_rfl
theorem al11_2 : readF ⟨8, 0, 3, [128, 0, 0, 0]⟩ = (Pt.zero, (1, 3), false) := by kernel_rfl
theorem al11_3 : readF ⟨4, 0, 0, [0, 4, 0, 0, 1, 2]⟩ = (Pt.mk [] [(4, 258)] 0 0 0 0 false false false, (0, 0), true) := by kernel_rfl
theorem al11_4 : readF ⟨1, 32, 5, [128, 0, 0, 5, 9]⟩ = (Pt.zero, (1, 0), false) := by kernel_rfl
theorem al11_5 : readF ⟨1, 8, 5, [1]⟩ = (Pt.zero, (1, 0), false) := by kernel_rfl
theorem fa_eql (a b : Int) (w : World) : (binOp .eql 32 (.agg #[.int .i64 a, .int .i64 b]) (.agg #[.int .i64 a, .int .i64 b])).run Try.prog w = .ok (.bool true) w := by
  rw [run_eql_struct, run_equalIn_agg w 9999 32 _ _ (show Try.prog.underlying 32 = some (.struct (Try.prog.fieldsOf 32)) by kernel_rfl) (show Try.prog.stoodInHeld 32 = false by kernel_rfl)]
  have hf : ((Try.prog.fieldsOf 32).toList.map fun f => (f.name, f.type, f.offset)) = [("Code", 30, 0), ("Stream", 3, 1)] := by kernel_rfl
  have hu : Try.prog.underlying 30 = some (.int .i64) := by kernel_rfl
  have p0 : ∀ (x y : Int) w, (part 30 #[.int .i64 x, .int .i64 y] 0).run Try.prog w = .ok (.int .i64 x) w := fun x y w => by kernel_rfl
  have p1 : ∀ (x y : Int) w, (part 3 #[.int .i64 x, .int .i64 y] 1).run Try.prog w = .ok (.int .i64 y) w := fun x y w => by kernel_rfl
  cases hq : (Try.prog.fieldsOf 32).toList with
  | nil => rw [hq] at hf; simp at hf
  | cons f l =>
    rw [hq] at hf
    cases l with
    | nil => simp at hf
    | cons g m =>
      cases m with
      | cons _ _ => simp at hf
      | nil =>
        simp only [List.map_cons, List.map_nil, List.cons.injEq, Prod.mk.injEq, and_true] at hf
        obtain ⟨⟨f1, f2, f3⟩, g1, g2, g3⟩ := hf
        have ne1 : ("Code" : String) ≠ "_" := by decide
        have ne2 : ("Stream" : String) ≠ "_" := by decide
        simp [Op.eqFields, f1, f2, f3, g1, g2, g3, ne1, ne2, Sem.run_bind, p0, p1, Result.andThen, run_equalIn_int w 9998 30 _ _ _ _ hu, run_equalIn_int w 9998 3 _ _ _ _ Try.underlying3]
theorem pp_eql (a b : Int) (w : World) : (binOp .eql 43 (.agg #[.int .i64 a, .int .i64 b]) (.agg #[.int .i64 a, .int .i64 b])).run Try.prog w = .ok (.bool true) w := by
  rw [run_eql_struct, run_equalIn_agg w 9999 43 _ _ (show Try.prog.underlying 43 = some (.struct (Try.prog.fieldsOf 43)) by kernel_rfl) (show Try.prog.stoodInHeld 43 = false by kernel_rfl)]
  have hf : ((Try.prog.fieldsOf 43).toList.map fun f => (f.name, f.type, f.offset)) = [("ID", 3, 0), ("Value", 3, 1)] := by kernel_rfl
  have hu : Try.prog.underlying 3 = some (.int .i64) := by kernel_rfl
  have p0 : ∀ (x y : Int) w, (part 3 #[.int .i64 x, .int .i64 y] 0).run Try.prog w = .ok (.int .i64 x) w := fun x y w => by kernel_rfl
  have p1 : ∀ (x y : Int) w, (part 3 #[.int .i64 x, .int .i64 y] 1).run Try.prog w = .ok (.int .i64 y) w := fun x y w => by kernel_rfl
  cases hq : (Try.prog.fieldsOf 43).toList with
  | nil => rw [hq] at hf; simp at hf
  | cons f l =>
    rw [hq] at hf
    cases l with
    | nil => simp at hf
    | cons g m =>
      cases m with
      | cons _ _ => simp at hf
      | nil =>
        simp only [List.map_cons, List.map_nil, List.cons.injEq, Prod.mk.injEq, and_true] at hf
        obtain ⟨⟨f1, f2, f3⟩, g1, g2, g3⟩ := hf
        have ne1 : ("ID" : String) ≠ "_" := by decide
        have ne2 : ("Value" : String) ≠ "_" := by decide
        simp [Op.eqFields, f1, f2, f3, g1, g2, g3, ne1, ne2, Sem.run_bind, p0, p1, Result.andThen, run_equalIn_int w 9998 3 _ _ _ _ hu]
theorem blk_on {w w' : World} {g : Nat} {o : Obj} (h : w.heap[g]? = some o) (hb : Below w.heap.size w w') : w'.heap[g]? = some o := (hb.block g (Array.getElem?_eq_some_iff.1 h).1).trans h
theorem cell_on {w w' : World} {a : Addr} {v : Value} (h : w.cell? a = some v) (hb : Below w.heap.size w w') : w'.cell? a = some v := by
  refine (hb.cell (p := a) ?_).trans h
  rcases Nat.lt_or_ge a.block w.heap.size with h1 | h1
  · exact h1
  · rw [show w.cell? a = none by simp [World.cell?, Array.getElem?_eq_none h1]] at h
    cases h
/-- what the five answers left -/
structure Al11 (bv1 qv1 bv3 qv3 : Value) (g1 g2 g3 g4 g5 bq oq : Nat) (W : World) : Prop where
  k1 : W.heap[g1]? = some (.cells (ptA bv1 qv1 (Pt.mk [7, 8] [] 0 0 0 4 true false false)) 29 (0, 0))
  k2 : W.heap[g2]? = some (.cells (faA 1 3) 32 (0, 0))
  k3 : W.heap[g3]? = some (.cells (ptA bv3 qv3 (Pt.mk [] [(4, 258)] 0 0 0 0 false false false)) 29 (0, 0))
  k4 : W.heap[g4]? = some (.cells (faA 1 0) 32 (0, 0))
  k5 : W.heap[g5]? = some (.cells (faA 1 0) 32 (0, 0))
  q0 : W.cell? ⟨bq, oq, none⟩ = some (.int .i64 4)
  q1 : W.cell? ⟨bq, oq + 1, none⟩ = some (.int .i64 258)
  sl : Sl .u8 W bv1 [7, 8]
theorem Al11.grown {bv1 qv1 bv3 qv3 : Value} {g1 g2 g3 g4 g5 bq oq : Nat} {W W' : World} (h : Al11 bv1 qv1 bv3 qv3 g1 g2 g3 g4 g5 bq oq W) (hb : Below W.heap.size W W') : Al11 bv1 qv1 bv3 qv3 g1 g2 g3 g4 g5 bq oq W' :=
  ⟨blk_on h.k1 hb, blk_on h.k2 hb, blk_on h.k3 hb, blk_on h.k4 hb, blk_on h.k5 hb, cell_on h.q0 hb, cell_on h.q1 hb, h.sl.below hb⟩
theorem Al11.cs {bv1 qv1 bv3 qv3 : Value} {g1 g2 g3 g4 g5 bq oq : Nat} {W : World} (h : Al11 bv1 qv1 bv3 qv3 g1 g2 g3 g4 g5 bq oq W) :
    W.cell? ⟨g1, 0, none⟩ = some bv1 ∧ W.cell? ⟨g1, 5, none⟩ = some (.int .i64 4) ∧ W.cell? ⟨g1, 6, none⟩ = some (.bool true) ∧ W.cell? ⟨g2, 0, none⟩ = some (.int .i64 1) ∧ W.cell? ⟨g2, 1, none⟩ = some (.int .i64 3) ∧ W.cell? ⟨g3, 1, none⟩ = some qv3 ∧
      W.cell? ⟨g4, 0, none⟩ = some (.int .i64 1) ∧ W.cell? ⟨g4, 1, none⟩ = some (.int .i64 0) ∧ W.cell? ⟨g5, 0, none⟩ = some (.int .i64 1) ∧ W.cell? ⟨g5, 1, none⟩ = some (.int .i64 0) :=
  ⟨blk_cell h.k1 rfl, blk_cell h.k1 rfl, blk_cell h.k1 rfl, blk_cell h.k2 rfl, blk_cell h.k2 rfl, blk_cell h.k3 rfl, blk_cell h.k4 rfl, blk_cell h.k4 rfl, blk_cell h.k5 rfl, blk_cell h.k5 rfl⟩
theorem lt_on {w : World} {g : Nat} {o : Obj} (h : w.heap[g]? = some o) : g < w.heap.size := (Array.getElem?_eq_some_iff.1 h).1
set_option maxHeartbeats 8000000 in
theorem alive11 (w : World) :
    Calls Try.prog 4 #[] w fun e w' => e = .returned (.bool true) ∧ Below w.heap.size w w' := by
  go_enter Try.func4, Try.ntmps4
  have r1 := fun W (h : W = w) v hv => pRead11 v ⟨0, 9, 3, [1, 7, 8, 0]⟩ (W.alloc (.cells #[.int .u8 1, .int .u8 7, .int .u8 8, .int .u8 0] 5)) hv (by decide)
  rw [al11_1] at r1
  go_wp2_with fail
  refine (r1 w rfl _ ⟨_, rfl, Sl.lit [1, 7, 8, 0] rfl rfl rfl (by decide) (by decide)⟩).mono ?_
  rintro e W1 ⟨⟨pv1, rfl, hq⟩, hb⟩
  have hb0 : Below w.heap.size w W1 := ((Below.refl _ _).alloc (Nat.le_refl _) _).trans (hb.mono (by simp))
  have hO := Lib.hid (Out11.new W1 W1 (Below.refl _ _))
  have hq' := Lib.hid (hq.below hO.out.b)
  unfold ptA faA at hO hq'
  clear hb hq r1
  go_wp2_with (first | (refine store_pt11 rfl (.tmp 1) (.tmp 20) rfl W1 W1.heap.size _ _ rfl rfl hq'.out hO.out ?_; intro V hP hF hp hb1) | (refine store_fa11 rfl (.tmp 2) (.tmp 21) rfl W1 W1.heap.size _ _ (0) (0) (Nat.le_refl _) rfl rfl hp hP hF hb1 ?_; intro V1 hP2 hF2 hp2 hb2))
  have HB1 := Lib.hid (hb0.trans (hb2.mono hb0.size))
  have HG1 : Hid (Below w.heap.size w V1) := Lib.hid (hb0.trans (hb2.mono hb0.size))
  have HF1 := Lib.hid hF2
  obtain ⟨cs1, ec1, _, hP1⟩ := hP2
  obtain ⟨bv1, qv1, ev1, hs1, hpp1, _⟩ := hp2
  obtain rfl : cs1 = ptA bv1 qv1 _ := Value.agg.inj (ec1.symm.trans ev1)
  have HP1 := Lib.hid hP1
  have HS1 := Lib.hid hs1
  have HQ1 := Lib.hid hpp1
  clear hP1 hs1 hpp1 ec1 ev1
  clear hb0 hO hq' hb1 hF2 hb2 hP hF hp
  have r2 := fun W (h : W = V1) v hv => pRead11 v ⟨8, 0, 3, [128, 0, 0, 0]⟩ (W.alloc (.cells #[.int .u8 128, .int .u8 0, .int .u8 0, .int .u8 0] 5)) hv (by decide)
  rw [al11_2] at r2
  go_wp2_with fail
  refine (r2 V1 rfl _ ⟨_, rfl, Sl.lit [128, 0, 0, 0] rfl rfl rfl (by decide) (by decide)⟩).mono ?_
  rintro e W2 ⟨⟨pv2, rfl, hq⟩, hb⟩
  have hb0 : Below V1.heap.size V1 W2 := ((Below.refl _ _).alloc (Nat.le_refl _) _).trans (hb.mono (by simp))
  have hO := Lib.hid (Out11.new W2 W2 (Below.refl _ _))
  have hq' := Lib.hid (hq.below hO.out.b)
  unfold ptA faA at hO hq'
  clear hb hq r2
  go_wp2_with (first | (refine store_pt11 rfl (.tmp 4) (.tmp 27) rfl W2 W2.heap.size _ _ rfl rfl hq'.out hO.out ?_; intro V hP hF hp hb1) | (refine store_fa11 rfl (.tmp 5) (.tmp 28) rfl W2 W2.heap.size _ _ (1) (3) (Nat.le_refl _) rfl rfl hp hP hF hb1 ?_; intro V2 hP2 hF2 hp2 hb2))
  have HB2 := Lib.hid (HB1.out.trans ((hb0.trans (hb2.mono hb0.size)).mono HB1.out.size))
  have HG2 : Hid (Below V1.heap.size V1 V2) := Lib.hid (hb0.trans (hb2.mono hb0.size))
  have HF2 := Lib.hid hF2
  clear hP2 hp2
  clear hb0 hO hq' hb1 hF2 hb2 hP hF hp
  have r3 := fun W (h : W = V2) v hv => pRead11 v ⟨4, 0, 0, [0, 4, 0, 0, 1, 2]⟩ (W.alloc (.cells #[.int .u8 0, .int .u8 4, .int .u8 0, .int .u8 0, .int .u8 1, .int .u8 2] 5)) hv (by decide)
  rw [al11_3] at r3
  go_wp2_with fail
  refine (r3 V2 rfl _ ⟨_, rfl, Sl.lit [0, 4, 0, 0, 1, 2] rfl rfl rfl (by decide) (by decide)⟩).mono ?_
  rintro e W3 ⟨⟨pv3, rfl, hq⟩, hb⟩
  have hb0 : Below V2.heap.size V2 W3 := ((Below.refl _ _).alloc (Nat.le_refl _) _).trans (hb.mono (by simp))
  have hO := Lib.hid (Out11.new W3 W3 (Below.refl _ _))
  have hq' := Lib.hid (hq.below hO.out.b)
  unfold ptA faA at hO hq'
  clear hb hq r3
  go_wp2_with (first | (refine store_pt11 rfl (.tmp 7) (.tmp 34) rfl W3 W3.heap.size _ _ rfl rfl hq'.out hO.out ?_; intro V hP hF hp hb1) | (refine store_fa11 rfl (.tmp 8) (.tmp 35) rfl W3 W3.heap.size _ _ (0) (0) (Nat.le_refl _) rfl rfl hp hP hF hb1 ?_; intro V3 hP2 hF2 hp2 hb2))
  have HB3 := Lib.hid (HB2.out.trans ((hb0.trans (hb2.mono hb0.size)).mono HB2.out.size))
  have HG3 : Hid (Below V2.heap.size V2 V3) := Lib.hid (hb0.trans (hb2.mono hb0.size))
  have HF3 := Lib.hid hF2
  obtain ⟨cs3, ec3, _, hP3⟩ := hP2
  obtain ⟨bv3, qv3, ev3, hs3, hpp3, _⟩ := hp2
  obtain rfl : cs3 = ptA bv3 qv3 _ := Value.agg.inj (ec3.symm.trans ev3)
  have HP3 := Lib.hid hP3
  have HS3 := Lib.hid hs3
  have HQ3 := Lib.hid hpp3
  clear hP3 hs3 hpp3 ec3 ev3
  clear hb0 hO hq' hb1 hF2 hb2 hP hF hp
  have r4 := fun W (h : W = V3) v hv => pRead11 v ⟨1, 32, 5, [128, 0, 0, 5, 9]⟩ (W.alloc (.cells #[.int .u8 128, .int .u8 0, .int .u8 0, .int .u8 5, .int .u8 9] 5)) hv (by decide)
  rw [al11_4] at r4
  go_wp2_with fail
  refine (r4 V3 rfl _ ⟨_, rfl, Sl.lit [128, 0, 0, 5, 9] rfl rfl rfl (by decide) (by decide)⟩).mono ?_
  rintro e W4 ⟨⟨pv4, rfl, hq⟩, hb⟩
  have hb0 : Below V3.heap.size V3 W4 := ((Below.refl _ _).alloc (Nat.le_refl _) _).trans (hb.mono (by simp))
  have hO := Lib.hid (Out11.new W4 W4 (Below.refl _ _))
  have hq' := Lib.hid (hq.below hO.out.b)
  unfold ptA faA at hO hq'
  clear hb hq r4
  go_wp2_with (first | (refine store_pt11 rfl (.tmp 10) (.tmp 41) rfl W4 W4.heap.size _ _ rfl rfl hq'.out hO.out ?_; intro V hP hF hp hb1) | (refine store_fa11 rfl (.tmp 11) (.tmp 42) rfl W4 W4.heap.size _ _ (1) (0) (Nat.le_refl _) rfl rfl hp hP hF hb1 ?_; intro V4 hP2 hF2 hp2 hb2))
  have HB4 := Lib.hid (HB3.out.trans ((hb0.trans (hb2.mono hb0.size)).mono HB3.out.size))
  have HG4 : Hid (Below V3.heap.size V3 V4) := Lib.hid (hb0.trans (hb2.mono hb0.size))
  have HF4 := Lib.hid hF2
  clear hP2 hp2
  clear hb0 hO hq' hb1 hF2 hb2 hP hF hp
  obtain ⟨aS, cS, rfl, hcS, hcS2, _⟩ := id HS1.out
  obtain ⟨bq, oq, cq, rfl, hcq⟩ : ∃ b o c, qv3 = .slice (some ⟨b, o, none⟩) 1 c ∧ (V3.cell? ⟨b, o, none⟩ = some (.int .i64 4) ∧ V3.cell? ⟨b, o + 1, none⟩ = some (.int .i64 258)) := by
    obtain ⟨a, c, e, _, _, h3⟩ := HQ3.out
    rcases h3 with ⟨h3, _⟩ | ⟨b, o, ea, _, h3⟩
    · cases h3
    · have := h3 0 (4, 258) rfl
      exact ⟨b, o, c, by rw [e, ea]; rfl, by simpa using this.1, by simpa using this.2⟩
  have HCQ := Lib.hid hcq
  clear hcq HQ3
  have r5 := fun W (h : W = V4) v hv => pRead11 v ⟨1, 8, 5, [1]⟩ (W.alloc (.cells #[.int .u8 1] 5)) hv (by decide)
  rw [al11_5] at r5
  go_wp2_with fail
  refine (r5 V4 rfl _ ⟨_, rfl, Sl.lit [1] rfl rfl rfl (by decide) (by decide)⟩).mono ?_
  rintro e W5 ⟨⟨pv5, rfl, hq⟩, hb⟩
  have hb0 : Below V4.heap.size V4 W5 := ((Below.refl _ _).alloc (Nat.le_refl _) _).trans (hb.mono (by simp))
  have hO := Lib.hid (Out11.new W5 W5 (Below.refl _ _))
  have hq' := Lib.hid (hq.below hO.out.b)
  unfold ptA faA at hO hq'
  clear hb hq r5
  go_wp2_with (first | (refine store_pt11 rfl (.tmp 13) (.tmp 48) rfl W5 W5.heap.size _ _ rfl rfl hq'.out hO.out ?_; intro V hP hF hp hb1) | (refine store_fa11 rfl (.tmp 14) (.tmp 49) rfl W5 W5.heap.size _ _ (1) (0) (Nat.le_refl _) rfl rfl hp hP hF hb1 ?_; intro V5 hP2 hF2 hp2 hb2; have hg5 := hb0.trans (hb2.mono hb0.size); have hg4 := HG4.out.trans (hg5.mono HG4.out.size); have hg3 := HG3.out.trans (hg4.mono HG3.out.size); have hg2 := HG2.out.trans (hg3.mono HG2.out.size); have HBL := Lib.hid (HB4.out.trans (hg5.mono HB4.out.size)); have HA : Hid (Al11 _ _ _ _ _ _ _ _ _ _ _ V5) := Lib.hid ⟨blk_on HP1.out hg2, blk_on HF2.out hg3, blk_on HP3.out hg4, blk_on HF4.out hg5, hF2, cell_on HCQ.out.1 hg4, cell_on HCQ.out.2 hg4, HS1.out.below hg2⟩; clear hg5 hg4 hg3 hg2; obtain ⟨z10, z15, z16, z20, z21, z31, z40, z41, z50, z51⟩ := HA.out.cs; have y0 := HA.out.q0; have y1 := HA.out.q1; have l1 := lt_on HA.out.k1; have l2 := lt_on HA.out.k2; have l3 := lt_on HA.out.k3; have l4 := lt_on HA.out.k4; have l5 := lt_on HA.out.k5))
  have HSL := Lib.hid (HA.out.sl.alloc (.cells #[.int .u8 7, .int .u8 8] 5))
  have HA2 := Lib.hid (HA.out.grown ((Below.refl _ _).alloc (Nat.le_refl _) (.cells #[.int .u8 7, .int .u8 8] 5)))
  have HB2 := Lib.hid (HBL.out.trans (((Below.refl _ V5).alloc (Nat.le_refl _) (.cells #[.int .u8 7, .int .u8 8] 5)).mono HBL.out.size))
  refine (same_any _ _ [7, 8] [7, 8] _ HSL.out (Sl.lit [7, 8] rfl rfl rfl (by decide) (by decide))).mono ?_
  rintro e w9 ⟨rfl, n, hw⟩
  rw [decide_eq_true (rfl : ([7, 8] : List Int) = [7, 8])]
  have hx := HA2.out.grown (below_drewN (Below.refl _ _) n)
  have hbx := below_drewN HB2.out n
  rw [← hw] at hx hbx
  have HA3 := Lib.hid hx
  have HBX := Lib.hid hbx
  clear z10 z15 z16 z20 z21 z31 z40 z41 z50 z51 y0 y1 l1 l2 l3 l4 l5 hx hbx hw HSL HA2 HB2 HA HBL
  obtain ⟨z10, z15, z16, z20, z21, z31, z40, z41, z50, z51⟩ := HA3.out.cs; have y0 := HA3.out.q0; have y1 := HA3.out.q1; have l1 := lt_on HA3.out.k1; have l2 := lt_on HA3.out.k2; have l3 := lt_on HA3.out.k3; have l4 := lt_on HA3.out.k4; have l5 := lt_on HA3.out.k5
  have hix := run_index_sl (P := Try.prog) (t := 27) (s := 2) (by kernel_rfl) (fun _ => by kernel_rfl) bq oq 1 cq 0 (by omega)
  rw [Nat.zero_mul, Nat.add_zero] at hix
  have e1 := fa_eql 1 3
  have e2 := fa_eql 1 0
  have e3 := pp_eql 4 258
  go_wp2_with fail
  go_ret
  exact ⟨rfl, HBX.out⟩
end Go.Proofs.Ytohghphegcnfkaa
