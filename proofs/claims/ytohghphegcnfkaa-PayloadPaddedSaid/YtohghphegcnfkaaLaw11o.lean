
/-
  Layer 11's statement: of (written by wip/tools/gen11o.py).
-/
import Derived.Test.YtohghphegcnfkaaPayRef
import Derived.Test.YtohghphegcnfkaaPairRow
import Derived.Test.YtohghphegcnfkaaMoved
namespace Go.Proofs.Ytohghphegcnfkaa
set_option maxRecDepth 20000
open Go.RowKit

theorem results_row0 {P : Program} {fn : Func} {p : Tmp} {ty : TypeId} (h : fn.results = #[.cell p ty]) (tmps : Array Value) (w : World) (g : Nat) (t : TypeId) (cs : Array Value) (fr : Nat × Nat) (d : TypeDesc)
    (hp : tmps.getD p undef = .pointer (some ⟨g, 0, none⟩)) (hg : w.heap[g]? = some (.cells cs t fr))
    (hu : P.underlying ty = some d) (hd : (match d with | .struct _ | .array _ _ => true | _ => false) = true) (hi : (P.info? ty).map (·.size) = some cs.size) :
    (results fn tmps).run P w = .ok (.agg cs) w := by
  have hp' : tmps[p]?.getD undef = .pointer (some ⟨g, 0, none⟩) := by simpa using hp
  simp [results, h, hp', asAddr, run_loadVar_row w g t ty cs fr d hg hu hd hi]
theorem store_pt {ops : Array Oper} {rest : List Oper} {o : Oper} {a : Act} {w : World} {Q : Exit → Act → World → Prop} (hgd : o.guard = none) (x y : Operand) (ho : o.op = .store 38 x y)
    (g : Nat) (bv pv bv0 pv0 : Value) (p p0 : Pt) (hx : a.eval x = .pointer (some ⟨g, 0, none⟩)) (hy : a.eval y = .agg (ptC bv pv p))
    (hg : w.heap[g]? = some (.cells (ptC bv0 pv0 p0) 38 (0, 0))) (h1 : bv.oneCell' = true) (h2 : pv.oneCell' = true)
    (h : wpList Try.prog ops Q rest (a.put o.dst undef) (w.setRow g (ptC bv pv p))) : wpList Try.prog ops Q (o :: rest) a w :=
  wpList_store_row hgd 38 x y ho g (ptC bv pv p) hx hy 38 (ptC bv0 pv0 p0) hg (by kernel_rfl) rfl (by simp only [Value.oneCell'] at h1 h2; simp [ptC, Value.oneCell', h1, h2]) h
theorem PtV.zero (w : World) : PtV w (.agg (ptC (.slice none 0 0) (.slice none 0 0) Pt.zero)) Pt.zero := ⟨_, _, rfl, Sl.nil _ _, ⟨none, 0, rfl, Nat.le_refl _, by simp, .inl ⟨rfl, fun _ => rfl⟩⟩⟩
set_option maxHeartbeats 8000000 in
theorem of11_any (v0 : Value) (p : Pt) (w : World) (h : PtV w v0 p) (hl : p.pairs.length ≤ 1000000) :
    Calls Try.prog 7 #[v0] w fun e w' => ∃ v, e = .returned v ∧ PtV w' v p ∧ Below w.heap.size w w' := by
  obtain ⟨bu, pu, rfl, hbu, hpu⟩ := h
  obtain ⟨a1, k1, rfl, hc1, hc2⟩ := hpu.shape
  obtain ⟨ab, cb, rfl, _⟩ := id hbu
  unfold maxLen at hc2
  obtain ⟨N, hN⟩ : ∃ N, N = p.pairs.length := ⟨_, rfl⟩
  rw [← hN] at hpu hc1 hl ⊢
  have HN := Lib.hid hN
  clear hN
  have hal := (Below.refl w.heap.size w).alloc (Nat.le_refl _) (.cells (ptC (.slice ab p.bytes.length cb) (.slice a1 N k1) p) 29)
  have hal2 := (Below.refl (w.alloc (.cells (ptC (.slice ab p.bytes.length cb) (.slice a1 N k1) p) 29)).heap.size (w.alloc (.cells (ptC (.slice ab p.bytes.length cb) (.slice a1 N k1) p) 29))).alloc (Nat.le_refl _) (.cells (ptC (.slice none 0 0) (.slice none 0 0) Pt.zero) 38)
  obtain ⟨w2, hw2⟩ : ∃ w2, w2 = (w.alloc (.cells (ptC (.slice ab p.bytes.length cb) (.slice a1 N k1) p) 29)).alloc (.cells (ptC (.slice none 0 0) (.slice none 0 0) Pt.zero) 38) := ⟨_, rfl⟩
  have HB := Lib.hid (hal.trans (hal2.mono hal.size))
  have HP : Hid (PtsAt w2 29 w.heap.size (.slice ab p.bytes.length cb) (.slice a1 N k1) p) := by rw [hw2]; exact Lib.hid ((PtsAt.new w 29 (.slice ab p.bytes.length cb) (.slice a1 N k1) p).grown hal2)
  have HZ : Hid (PtsAt w2 38 (w.heap.size + 1) (.slice none 0 0) (.slice none 0 0) Pt.zero) := by
    have := PtsAt.new (w.alloc (.cells (ptC (.slice ab p.bytes.length cb) (.slice a1 N k1) p) 29)) 38 (.slice none 0 0) (.slice none 0 0) Pt.zero
    rw [← hw2] at this
    exact Lib.hid (by simpa using this)
  rw [← hw2] at HB
  have HS := Lib.hid (hpu.below HB.out)
  have HU := Lib.hid hbu
  have HSZ := Lib.hid (show w2.heap.size = w.heap.size + 2 by rw [hw2]; simp)
  have h1 : (Value.slice none 0 0).oneCell' = true := rfl
  obtain ⟨d0, d1, d2, d3, d4, d5, d6, d7, d8⟩ := HP.out.cs
  have s1 := HP.out.lt
  unfold ptC Pt.zero at hw2
  clear hal hal2 hbu hpu
  go_enter Try.func7, Try.ntmps7
  go_wp2_with fail
  rw [← hw2]
  clear hw2 d0 d1 d2 d3 d4 d5 d6 d7 d8
  obtain ⟨B, hB⟩ : ∃ B, w.heap.size = B := ⟨_, rfl⟩
  rw [hB] at HP HZ s1 HB ⊢
  have HBB := Lib.hid hB
  clear hB
  go_loopg [3, 4] N (fun q s3 s4 wr => ∃ k : Nat, k + q = N ∧ s4 = .int .i64 k ∧ ∃ v, v = s3 ∧ Hid (Below w2.heap.size w2 wr ∧ RowC prC 2 wr w2.heap.size 52 v (p.pairs.take k)))
  case atStart => exact ⟨0, by omega, rfl, _, rfl, Lib.hid ⟨Below.refl _ _, RowC.nil _ _ _⟩⟩
  case round =>
    obtain ⟨k, hkq, rfl, v, rfl, HW⟩ := hrel
    have HKQ := Lib.hid hkq
    have hk : k ≤ N := by omega
    clear hkq
    obtain ⟨d0, d1, d2, d3, d4, d5, d6, d7, d8⟩ := (HP.out.grown HW.out.1).cs
    have s2 := (HP.out.grown HW.out.1).lt
    by_cases hlt : k < N
    · obtain ⟨x, hx⟩ := pr_at (ps := p.pairs) (k := k) (by rw [← HN.out]; exact hlt)
      obtain ⟨b, off, rfl, hbl, hcell⟩ := HS.out.at_ (i := k) (by rw [← HN.out]; exact hlt)
      obtain ⟨c0, c1⟩ := hcell x hx
      have HI := Lib.hid (run_index_sl (P := Try.prog) (t := 27) (s := 2) (by kernel_rfl) (fun _ => by kernel_rfl) b off N k1 k hlt)
      have HX := Lib.hid hx
      have hplen : (p.pairs.take k).length ≤ 1000000 := by rw [List.length_take]; omega
      obtain ⟨ps, hps⟩ : ∃ ps, p.pairs.take k = ps := ⟨_, rfl⟩
      rw [hps] at HW hplen
      have HPS := Lib.hid hps
      clear hcell hx hps
      go_wp2_with fail
      refine Moved.wp_region 16 [12, 13, 14, 15, 16, 17, 18, 19, 20, 21, 22, 23, 24, 25, 26, 27] [[], [], [(1, 13)], [], [(2, 14), (3, 15)], [(4, 16)], [(5, 17)], [], [(7, 19)], [], [(8, 20), (9, 21)], [(10, 22)], [(11, 23)], [(6, 18), (12, 24)], [(13, 25)], [(0, 12), (14, 26)]] []
        (fun i u w' => match i with
          | 0 => u = v
          | 1 => u = .pointer (some ⟨B, 1, none⟩)
          | 2 => u = .slice (some ⟨b, off, none⟩) N k1
          | 3 => u = .int .i64 k
          | 4 => u = .pointer (some ⟨b, off + k * 2, none⟩)
          | 5 => u = .pointer (some ⟨b, off + k * 2, none⟩)
          | 6 => u = .int .i64 x.1
          | 7 => u = .pointer (some ⟨B, 1, none⟩)
          | 8 => u = .slice (some ⟨b, off, none⟩) N k1
          | 9 => u = .int .i64 k
          | 10 => u = .pointer (some ⟨b, off + k * 2, none⟩)
          | 11 => u = .pointer (some ⟨b, off + k * 2 + 1, none⟩)
          | 12 => u = .int .i64 x.2
          | 13 => u = .agg #[.int .i64 x.1, .int .i64 x.2]
          | 14 => ∃ C, u = .slice (some ⟨C, 0, none⟩) 1 1 ∧ wr.heap.size ≤ C ∧ BlkAt w' C 52 (prC x).toArray
          | 15 => RowC prC 2 w' w2.heap.size 52 u (ps ++ [x])
          | _ => True) 15 (fun w' => wr.grownBy w' v.ownBlock) (fun w' w'' => w'.grownBy w'' v.ownBlock) (by kernel_rfl) (by kernel_rfl) ?tWay ?tOps ?tLate ?tRest
      case tWay =>
        refine ⟨fun w1 h => grownBy_of h, fun w1 w2 h hb => h.trans (grownBy_of hb), fun w1 w2 h hb => (grownBy_of h).trans hb, ?_, ?_⟩
        · intro i u w5 w6 h hb
          match i, h with
          | 0, h | 1, h | 2, h | 3, h | 4, h | 5, h | 6, h | 7, h | 8, h | 9, h | 10, h | 11, h | 12, h | 13, h => exact h
          | 14, ⟨C, e, hle, hh⟩ => exact ⟨C, e, hle, hh.grown hb⟩
          | 15, h => exact h.below hb
          | i + 16, _ => trivial
        · intro i u w5 w6 hi h hb hg
          match i, h, hi with
          | 0, h, _ | 1, h, _ | 2, h, _ | 3, h, _ | 4, h, _ | 5, h, _ | 6, h, _ | 7, h, _ | 8, h, _ | 9, h, _ | 10, h, _ | 11, h, _ | 12, h, _ | 13, h, _ => exact h
          | 14, ⟨C, e, hle, hh⟩, _ => exact ⟨C, e, hle, (hg.block C hh.lt (fun e => by have := (HW.out.2.lt C e.symm).2; omega)).trans hh⟩
          | 15, _, hi => exact absurd rfl hi
          | i + 16, _, _ => trivial
      case tLate => intro i hi; cases hi
      case tOps =>
        simp only [List.take_succ_cons, List.take_zero, Moved.opsOk, Nat.zero_add, Nat.reduceAdd, Nat.reduceEqDiff, reduceCtorEq, reduceIte]
        refine ⟨?_, ?_, ?_, ?_, ?_, ?_, ?_, ?_, ?_, ?_, ?_, ?_, ?_, ?_, ?_, ?_, trivial⟩
        · intro ρ w5 hc hff ho hB2 hj
          have x0 : ρ (.tmp 3) = v := ho 3 (by decide)
          simp [gives, go_sem, x0, Moved.Grow, Below.refl]
        · intro ρ w5 hc hff ho hB2 hj
          have x0 : ρ (.tmp 1) = .pointer (some ⟨B, 0, none⟩) := ho 1 (by decide)
          simp [gives, go_sem, x0, Moved.Grow, Below.refl]
        · intro ρ w5 hc hff ho hB2 hj
          have x0 : ρ (.tmp 13) = .pointer (some ⟨B, 1, none⟩) := hj (1, 13) (by simp)
          have hb5 := RowC.keeps HW.out.1 HW.out.2 hB2
          have cc := (HP.out.grown hb5).cs.2.1
          simp [gives, go_sem, x0, cc, Moved.Grow, Below.refl]
        · intro ρ w5 hc hff ho hB2 hj
          have x0 : ρ (.tmp 4) = .int .i64 k := ho 4 (by decide)
          simp [gives, go_sem, x0, Moved.Grow, Below.refl]
        · intro ρ w5 hc hff ho hB2 hj
          have x0 : ρ (.tmp 14) = .slice (some ⟨b, off, none⟩) N k1 := hj (2, 14) (by simp)
          have x1 : ρ (.tmp 15) = .int .i64 k := hj (3, 15) (by simp)
          have i1 := HI.out
          simp [gives, go_sem, x0, x1, i1, Moved.Grow, Below.refl]
        · intro ρ w5 hc hff ho hB2 hj
          have x0 : ρ (.tmp 16) = .pointer (some ⟨b, off + k * 2, none⟩) := hj (4, 16) (by simp)
          simp [gives, go_sem, x0, Moved.Grow, Below.refl]
        · intro ρ w5 hc hff ho hB2 hj
          have x0 : ρ (.tmp 17) = .pointer (some ⟨b, off + k * 2, none⟩) := hj (5, 17) (by simp)
          have hb5 := RowC.keeps HW.out.1 HW.out.2 hB2
          have cc := (hb5.cell (p := ⟨b, off + k * 2, none⟩) hbl).trans c0
          simp [gives, go_sem, x0, cc, Moved.Grow, Below.refl]
        · intro ρ w5 hc hff ho hB2 hj
          have x0 : ρ (.tmp 1) = .pointer (some ⟨B, 0, none⟩) := ho 1 (by decide)
          simp [gives, go_sem, x0, Moved.Grow, Below.refl]
        · intro ρ w5 hc hff ho hB2 hj
          have x0 : ρ (.tmp 19) = .pointer (some ⟨B, 1, none⟩) := hj (7, 19) (by simp)
          have hb5 := RowC.keeps HW.out.1 HW.out.2 hB2
          have cc := (HP.out.grown hb5).cs.2.1
          simp [gives, go_sem, x0, cc, Moved.Grow, Below.refl]
        · intro ρ w5 hc hff ho hB2 hj
          have x0 : ρ (.tmp 4) = .int .i64 k := ho 4 (by decide)
          simp [gives, go_sem, x0, Moved.Grow, Below.refl]
        · intro ρ w5 hc hff ho hB2 hj
          have x0 : ρ (.tmp 20) = .slice (some ⟨b, off, none⟩) N k1 := hj (8, 20) (by simp)
          have x1 : ρ (.tmp 21) = .int .i64 k := hj (9, 21) (by simp)
          have i1 := HI.out
          simp [gives, go_sem, x0, x1, i1, Moved.Grow, Below.refl]
        · intro ρ w5 hc hff ho hB2 hj
          have x0 : ρ (.tmp 22) = .pointer (some ⟨b, off + k * 2, none⟩) := hj (10, 22) (by simp)
          simp [gives, go_sem, x0, Moved.Grow, Below.refl]
        · intro ρ w5 hc hff ho hB2 hj
          have x0 : ρ (.tmp 23) = .pointer (some ⟨b, off + k * 2 + 1, none⟩) := hj (11, 23) (by simp)
          have hb5 := RowC.keeps HW.out.1 HW.out.2 hB2
          have cc := (hb5.cell (p := ⟨b, off + k * 2 + 1, none⟩) hbl).trans c1
          simp [gives, go_sem, x0, cc, Moved.Grow, Below.refl]
        · intro ρ w5 hc hff ho hB2 hj
          have x0 : ρ (.tmp 18) = .int .i64 x.1 := hj (6, 18) (by simp)
          have x1 : ρ (.tmp 24) = .int .i64 x.2 := hj (12, 24) (by simp)
          simp [gives, go_sem, x0, x1, Moved.Grow, Below.refl]
        · intro ρ w5 hc hff ho hB2 hj
          have x0 : ρ (.tmp 25) = .agg #[.int .i64 x.1, .int .i64 x.2] := hj (13, 25) (by simp)
          simp [gives, go_sem, x0, Moved.Grow]
          exact ⟨⟨hB2.size, BlkAt.new _ _ _⟩, (Below.refl _ _).alloc (Nat.le_refl _) _⟩
        · intro ρ w5 hc hff ho hB2 hj
          have x0 : ρ (.tmp 12) = v := hj (0, 12) (by simp)
          obtain ⟨C, x1, hCle, hFC⟩ := hj (14, 26) (by simp)
          dsimp only at x1
          refine gives_rowC (.tmp 12) (.tmp 26) 36 rfl w2.heap.size 52 _ 16 prSl prSz rfl (by decide) v ps x0 prC_len prC_one (HW.out.2.below hB2) ⟨C, 0, none⟩ 1 1 [x] rfl x1 (one_at hFC) (by unfold maxLen; omega) (by omega) (by have := HW.out.1.size; have := hB2.size; omega) ?_
          intro v' w6 hown hg _
          exact ⟨hown, hg⟩
      case tRest =>
        intro x5 w5 hG hx5
        have y0 : x5 0 = v := hx5 0 (by decide)
        have y1 : x5 1 = .pointer (some ⟨B, 1, none⟩) := hx5 1 (by decide)
        have y2 : x5 2 = .slice (some ⟨b, off, none⟩) N k1 := hx5 2 (by decide)
        have y3 : x5 3 = .int .i64 k := hx5 3 (by decide)
        have y4 : x5 4 = .pointer (some ⟨b, off + k * 2, none⟩) := hx5 4 (by decide)
        have y5 : x5 5 = .pointer (some ⟨b, off + k * 2, none⟩) := hx5 5 (by decide)
        have y6 : x5 6 = .int .i64 x.1 := hx5 6 (by decide)
        have y7 : x5 7 = .pointer (some ⟨B, 1, none⟩) := hx5 7 (by decide)
        have y8 : x5 8 = .slice (some ⟨b, off, none⟩) N k1 := hx5 8 (by decide)
        have y9 : x5 9 = .int .i64 k := hx5 9 (by decide)
        have y10 : x5 10 = .pointer (some ⟨b, off + k * 2, none⟩) := hx5 10 (by decide)
        have y11 : x5 11 = .pointer (some ⟨b, off + k * 2 + 1, none⟩) := hx5 11 (by decide)
        have y12 : x5 12 = .int .i64 x.2 := hx5 12 (by decide)
        have y13 : x5 13 = .agg #[.int .i64 x.1, .int .i64 x.2] := hx5 13 (by decide)
        obtain ⟨C, y14, _, _⟩ := hx5 14 (by decide)
        have hr5 := hx5 15 (by decide)
        obtain ⟨v', hv'⟩ : ∃ v', x5 15 = v' := ⟨_, rfl⟩
        simp only [putAll, List.getD_cons_zero, List.getD_cons_succ, Act.put, List.setIfInBounds_toArray, List.set_cons_zero, List.set_cons_succ, List.drop_succ_cons, List.drop_zero]
        rw [hv'] at hr5
        rw [y0, y1, y2, y3, y4, y5, y6, y7, y8, y9, y10, y11, y12, y13, y14, hv']
        have HW5 := Lib.hid (And.intro (RowC.keeps HW.out.1 HW.out.2 hG) hr5)
        clear hx5 y0 y1 y2 y3 y4 y5 y6 y7 y8 y9 y10 y11 y12 y13 y14 hv' hr5 hG
        go_wp2_with fail
        refine Calm.intro ?_
        go_wp2_with fail
        go_roundg (N - (k + 1))
        case measure => have := HKQ.out; omega
        case rel =>
          refine ⟨k + 1, by omega, by go_num, v', rfl, HW5.out.1, ?_⟩
          rw [pr_take HX.out, HPS.out]
          exact HW5.out.2
    · obtain rfl : k = N := by omega
      have HR := Lib.hid (show SlP wr v p.pairs by
        have := (HW.out.2.toSl prC_len).toP
        rwa [List.take_of_length_le (by rw [HN.out]; exact Nat.le_refl _)] at this)
      have HZ2 := Lib.hid (HZ.out.grown HW.out.1)
      obtain ⟨av, cv, hv⟩ := HW.out.2.shape
      obtain ⟨M, hM⟩ : ∃ M, (p.pairs.take k).length = M := ⟨_, rfl⟩
      rw [hM] at hv
      clear hM
      subst hv
      clear hlt hk
      go_wp2_with (refine store_pt rfl (.tmp 2) (.tmp 45) rfl (B + 1) (.slice ab p.bytes.length cb) (.slice av M cv) _ _ p _ rfl rfl HZ2.out rfl rfl ?_)
      have HB3 := Lib.hid (HB.out.trans (HW.out.1.mono (by have := HB.out.size; omega)))
      refine bodyPost_ret (results_row0 rfl _ _ (B + 1) 38 (ptC (.slice ab p.bytes.length cb) (.slice av M cv) p) (0, 0) _ rfl (setRow_heap _ _ _ _ _ _ HZ2.out) Try.underlying38 rfl (by kernel_rfl)) rfl ⟨_, rfl, ?_, ?_⟩
      · have hb4 := below_setRow HB3.out (Nat.le_succ _) (ptC (.slice ab p.bytes.length cb) (.slice av M cv) p)
        have hb4 : Below w.heap.size w (wr.setRow (B + 1) (ptC (.slice ab p.bytes.length cb) (.slice av M cv) p)) := by rw [HBB.out]; exact hb4
        refine ⟨_, _, rfl, HU.out.below hb4, ?_⟩
        have hr := HW.out.2.of_block (w' := wr.setRow (B + 1) (ptC (.slice ab p.bytes.length cb) (.slice av M cv) p)) (fun g hg => by
          have := (HW.out.2.lt g hg).1
          have := HSZ.out
          have := HBB.out
          exact setRow_other _ _ _ _ (by omega))
        have := (hr.toSl prC_len).toP
        rwa [List.take_of_length_le (by rw [HN.out]; exact Nat.le_refl _)] at this
      · rw [HBB.out]
        exact below_setRow HB3.out (Nat.le_succ _) _
end Go.Proofs.Ytohghphegcnfkaa
