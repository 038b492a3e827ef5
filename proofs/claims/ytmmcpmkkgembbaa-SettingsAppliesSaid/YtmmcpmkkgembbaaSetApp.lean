
/-
  Layer 12, the program's own: Apply.
-/
import Derived.Test.YtmmcpmkkgembbaaSetMath
import Derived.Deep.LoopGhost
import Derived.WalkMore
namespace Go.Proofs.Ytmmcpmkkgembbaa
set_option maxRecDepth 20000
open Go.RowKit

/-- Apply's own blocks: the set that came in, the answer, the set that is made, the map of its numbers -/
structure ApW (w W : World) (x y : S6) (M : Nat) : Prop where
  box : W.heap[w.heap.size]? = some (.cells x.cs 23 (0, 0))
  res : W.heap[w.heap.size + 1]? = some (.cells S6.zero.cs 23 (0, 0))
  made : W.heap[w.heap.size + 1 + 1]? = some (.cells y.cs 23 (0, 0))
  map : MpAt W M (w.heap.size + 1 + 1) (fun _ => true)
  gt : w.heap.size + 1 + 1 < M
  b : Below w.heap.size w W
theorem ApW.below {w W W' : World} {x y : S6} {M : Nat} (h : ApW w W x y M) (hb : Below W.heap.size W W') : ApW w W' x y M :=
  ⟨(hb.block _ (Array.getElem?_eq_some_iff.1 h.box).1).trans h.box, (hb.block _ (Array.getElem?_eq_some_iff.1 h.res).1).trans h.res, (hb.block _ (Array.getElem?_eq_some_iff.1 h.made).1).trans h.made, h.map.below hb, h.gt, h.b.trans (hb.mono h.b.size)⟩
theorem ApW.put {w W : World} {x y : S6} {M : Nat} (h : ApW w W x y M) (p : Pr) (j : Nat) (hj : j < 6) (hp : p.1 = (j : Int) + 1) : ApW w (W.setCell ⟨w.heap.size + 1 + 1, j, none⟩ (.int .i64 p.2)) x (stepS y p) M := by
  have hg := h.gt
  refine ⟨(Below.heap_setCell _ _ _ _ (by show w.heap.size ≠ w.heap.size + 1 + 1; omega)).trans h.box, (Below.heap_setCell _ _ _ _ (by show w.heap.size + 1 ≠ w.heap.size + 1 + 1; omega)).trans h.res, ?_, ?_, hg, h.b.setCell (by show w.heap.size ≤ w.heap.size + 1 + 1; omega) _⟩
  · have := heap_setCell_same W (w.heap.size + 1 + 1) j _ _ (.int .i64 p.2) h.made
    rwa [step_cells y p j hj hp] at this
  · obtain ⟨es, c, hh, he⟩ := h.map
    exact ⟨es, c, (Below.heap_setCell _ _ _ _ (by show M ≠ w.heap.size + 1 + 1; omega)).trans hh, he⟩
theorem SlP.setCell {W : World} {v : Value} {ps : List Pr} {w : World} (h : SlP w v ps) (hb : Below w.heap.size w W) (g j : Nat) (hg : w.heap.size ≤ g) (u : Value) : SlP (W.setCell ⟨g, j, none⟩ u) v ps := h.below (hb.setCell hg u)

theorem alloc3 (w : World) (o1 o2 o3 : Obj) : Below w.heap.size w (((w.alloc o1).alloc o2).alloc o3) ∧ (((w.alloc o1).alloc o2).alloc o3).heap[w.heap.size]? = some o1 ∧ (((w.alloc o1).alloc o2).alloc o3).heap[w.heap.size + 1]? = some o2 ∧ (((w.alloc o1).alloc o2).alloc o3).heap[w.heap.size + 1 + 1]? = some o3 ∧ (((w.alloc o1).alloc o2).alloc o3).heap.size = w.heap.size + 3 := by
  have s1 : (w.alloc o1).heap.size = w.heap.size + 1 := by simp
  have s2 : ((w.alloc o1).alloc o2).heap.size = w.heap.size + 1 + 1 := by simp
  have a1 := (Below.refl w.heap.size w).alloc (Nat.le_refl _) o1
  have a2 := a1.alloc (by omega) o2
  have a3 := a2.alloc (by omega) o3
  refine ⟨a3, ?_, ?_, ?_, by simp⟩
  · rw [Below.heap_alloc _ _ _ (by omega), Below.heap_alloc _ _ _ (by omega), heap_alloc_new]
  · rw [Below.heap_alloc _ _ _ (by omega), ← s1, heap_alloc_new]
  · rw [← s2, heap_alloc_new]
theorem cells6 {W : World} {g : Nat} {ty : TypeId} {t p s u f l : Int} (h : W.heap[g]? = some (.cells #[.int .i64 t, .int .i64 p, .int .i64 s, .int .i64 u, .int .i64 f, .int .i64 l] ty (0, 0))) :
    W.cell? ⟨g, 0, none⟩ = some (.int .i64 t) ∧ W.cell? ⟨g, 1, none⟩ = some (.int .i64 p) ∧ W.cell? ⟨g, 2, none⟩ = some (.int .i64 s) ∧ W.cell? ⟨g, 3, none⟩ = some (.int .i64 u) ∧ W.cell? ⟨g, 4, none⟩ = some (.int .i64 f) ∧ W.cell? ⟨g, 5, none⟩ = some (.int .i64 l) ∧ g < W.heap.size :=
  ⟨blk_cell h rfl, blk_cell h rfl, blk_cell h rfl, blk_cell h rfl, blk_cell h rfl, blk_cell h rfl, (Array.getElem?_eq_some_iff.1 h).1⟩
theorem store_s12 {ops : Array Oper} {rest : List Oper} {o : Oper} {a : Act} {w : World} {Q : Exit → Act → World → Prop} (hgd : o.guard = none) (x y : Operand) (ho : o.op = .store 23 x y)
    (g : Nat) (y0 z : S6) (hx : a.eval x = .pointer (some ⟨g, 0, none⟩)) (hy : a.eval y = .agg z.cs) (hg : w.heap[g]? = some (.cells y0.cs 23 (0, 0)))
    (h : wpList Try.prog ops Q rest (a.put o.dst undef) (w.setRow g z.cs)) : wpList Try.prog ops Q (o :: rest) a w :=
  wpList_store_row hgd 23 x y ho g z.cs hx hy 23 y0.cs hg (by kernel_rfl) rfl (by simp [S6.cs, setC, Value.oneCell']) h
set_option maxHeartbeats 4000000 in
theorem apply_any (x : S6) (v : Value) (ps : List Pr) (w : World) (h : SlP w v ps) (hl : Low ps) (h0 : -4294967296 ≤ x.u) (h1 : x.u ≤ 4294967296) :
    Calls Try.prog 6 #[x.v, v] w fun e w' => e = .returned (tupA x ps) ∧ Below w.heap.size w w' := by
  obtain ⟨a, c, rfl, hc1, hc2⟩ := h.shape
  unfold maxLen at hc2
  obtain ⟨N, hN⟩ : ∃ N, N = ps.length := ⟨_, rfl⟩
  rw [← hN] at h hc1 ⊢
  have HN := Lib.hid hN
  have HS := Lib.hid h
  have HLW := Lib.hid (lastP_low 4 hl x.u h0 h1)
  have H0 := Lib.hid (And.intro h0 h1)
  clear hN h hl h0 h1
  have HA := Lib.hid (alloc3 w (.cells x.cs 23) (.cells S6.zero.cs 23) (.cells x.cs 23))
  unfold S6.cs setC S6.zero at HA
  unfold S6.v S6.cs setC
  obtain ⟨f0, f1, f2, f3, f4, f5, f6⟩ := cells6 (show ((w.alloc (.cells #[.int .i64 x.t, .int .i64 x.p, .int .i64 x.s, .int .i64 x.u, .int .i64 x.f, .int .i64 x.l] 23)).alloc (.cells #[.int .i64 0, .int .i64 0, .int .i64 0, .int .i64 0, .int .i64 0, .int .i64 0] 23)).heap[w.heap.size]? = _ from (Below.heap_alloc _ _ _ (by simp)).trans (heap_alloc_new _ _))
  go_enter Try.func6, Try.ntmps6
  go_wp2_with fail
  go_step3
  go_wp2_with fail
  refine (numbers_any _ _).mono ?_
  rintro e w1 ⟨M, rfl, hM, hm, hb⟩
  have HW1 := Lib.hid (show ApW w w1 x x M ∧ SlP w1 (.slice a N c) ps from by
    obtain ⟨k0, k1, k2, k3, k4⟩ := HA.out
    have hb' := k0.trans (hb.mono (by omega))
    exact ⟨⟨(hb.block _ (by omega)).trans k1, (hb.block _ (by omega)).trans k2, (hb.block _ (by omega)).trans k3, hm, by omega, hb'⟩, HS.out.below hb'⟩)
  clear HA hM hm hb f0 f1 f2 f3 f4 f5 f6
  go_wp2_with fail
  go_step3
  go_wp2_with fail
  go_loopg [10, 11, 12, 13, 18] N (fun q s10 s11 s12 s13 s18 wr => ∃ k : Nat, k + q = N ∧ s18 = .int .i64 k ∧ ∃ y, Hid (y = applyS x (ps.take k) ∧ firstF (ps.take k) = 0) ∧ Hid (ApW w wr x y M ∧ SlP wr (.slice a N c) ps))
  case atStart => exact ⟨0, by omega, rfl, x, Lib.hid ⟨rfl, rfl⟩, HW1⟩
  case round =>
    obtain ⟨k, hkq, rfl, y, HY, HW⟩ := hrel
    have HKQ := Lib.hid hkq
    have hk : k ≤ N := by omega
    clear hkq
    by_cases hlt : k < N
    · obtain ⟨p, hp⟩ := pr_at (ps := ps) (k := k) (by rw [← HN.out]; exact hlt)
      obtain ⟨b, off, rfl, hbl, hcell⟩ := HW.out.2.at_ (i := k) (by rw [← HN.out]; exact hlt)
      obtain ⟨c0, c1⟩ := hcell p hp
      have HP := Lib.hid hp
      clear hcell hp
      have hal := (Below.refl wr.heap.size wr).alloc (Nat.le_refl _) (.cells #[.int .i64 p.1, .int .i64 p.2] 45)
      have g0 : (wr.alloc (.cells #[.int .i64 p.1, .int .i64 p.2] 45)).cell? ⟨wr.heap.size, 0, none⟩ = some (.int .i64 p.1) := blk_cell (heap_alloc_new wr _) rfl
      have g1 : (wr.alloc (.cells #[.int .i64 p.1, .int .i64 p.2] 45)).cell? ⟨wr.heap.size, 1, none⟩ = some (.int .i64 p.2) := blk_cell (heap_alloc_new wr _) rfl
      have gz : wr.heap.size < (wr.alloc (.cells #[.int .i64 p.1, .int .i64 p.2] 45)).heap.size := by simp
      have HW2 := Lib.hid (show ApW w (wr.alloc (.cells #[.int .i64 p.1, .int .i64 p.2] 45)) x y M ∧ SlP (wr.alloc (.cells #[.int .i64 p.1, .int .i64 p.2] 45)) (.slice (some ⟨b, off, none⟩) N c) ps from ⟨HW.out.1.below hal, HW.out.2.below hal⟩)
      have HG2 := Lib.hid (And.intro (heap_alloc_new wr (.cells #[.int .i64 p.1, .int .i64 p.2] 45)) gz)
      clear hal
      by_cases hkn : p.1 < 1 ∨ 6 < p.1
      · have hlk := look12 _ M _ _ HW2.out.1.map (fun _ _ => rfl) p.1 (.pointer none) false (.inr ⟨hkn, rfl, rfl⟩)
        have HE := Lib.hid (show stepS y p = y ∧ faultP p = 0 from ⟨step_other y p hkn, fault_other p hkn⟩)
        clear hkn
        go_wp2_with fail
        go_roundg (N - (k + 1))
        case measure => have := HKQ.out; omega
        case rel =>
          refine ⟨k + 1, by omega, by go_num, y, Lib.hid ?_, HW2⟩
          obtain ⟨h1, h2⟩ := HY.out
          rw [pr_take HP.out, applyS_snoc, ← h1, HE.out.1]
          exact ⟨rfl, firstF_end h2 p HE.out.2⟩
      · obtain ⟨j, hj, hpj⟩ : ∃ j : Nat, j < 6 ∧ p.1 = (j : Int) + 1 := ⟨(p.1 - 1).toNat, by omega, by omega⟩
        have hlk := look12 _ M _ _ HW2.out.1.map (fun _ _ => rfl) p.1 _ true (.inl ⟨j, hj, hpj, rfl, rfl⟩)
        unfold ptJ at hlk
        have HJ := Lib.hid (And.intro hj hpj)
        clear hkn hj hpj
        go_wp2_with fail
        refine (fault_any p _).mono ?_
        rintro e w2 ⟨rfl, hb2⟩
        have HW3 := Lib.hid (show ApW w w2 x y M ∧ SlP w2 (.slice (some ⟨b, off, none⟩) N c) ps from ⟨HW2.out.1.below hb2, HW2.out.2.below hb2⟩)
        have g2 : w2.cell? ⟨wr.heap.size, 1, none⟩ = some (.int .i64 p.2) := (hb2.cell (p := ⟨wr.heap.size, 1, none⟩) gz).trans g1
        have gz2 : wr.heap.size < w2.heap.size := by have := hb2.size; omega
        clear HW2 HG2 g0 g1 gz hb2 hlk c0 c1 hbl
        obtain ⟨q, hq⟩ : ∃ q, faultP p = q := ⟨_, rfl⟩
        rw [hq]
        have HQ := Lib.hid hq
        clear hq
        by_cases hq0 : q = 0
        · subst hq0
          have hqb : ((0 : Int) != 0) = false := rfl
          have hms : w2.cell? ⟨w.heap.size + 1 + 1, j, none⟩ = some (y.cs.getD j (.int .i64 0)) := by
            have h := HW3.out.1.made
            have hj := HJ.out.1
            refine blk_cell h ?_
            rw [Array.getD_eq_getD_getElem?, Array.getElem?_eq_getElem (by rw [y.cs_size]; exact hj), Option.getD_some]
          have hmf : w2.frozen? ⟨w.heap.size + 1 + 1, j, none⟩ = false := blk_free HW3.out.1.made
          have HW4 := Lib.hid (show ApW w (w2.setCell ⟨w.heap.size + 1 + 1, j, none⟩ (.int .i64 p.2)) x (stepS y p) M ∧ SlP (w2.setCell ⟨w.heap.size + 1 + 1, j, none⟩ (.int .i64 p.2)) (.slice (some ⟨b, off, none⟩) N c) ps from ⟨HW3.out.1.put p j HJ.out.1 HJ.out.2, HS.out.below (HW3.out.1.put p j HJ.out.1 HJ.out.2).b⟩)
          go_wp2_with fail
          go_roundg (N - (k + 1))
          case measure => have := HKQ.out; omega
          case rel =>
            refine ⟨k + 1, by omega, by go_num, stepS y p, Lib.hid ?_, HW4⟩
            obtain ⟨h1, h2⟩ := HY.out
            rw [pr_take HP.out, applyS_snoc, ← h1]
            exact ⟨rfl, firstF_end h2 p HQ.out⟩
        · have hqb : (q != 0) = true := by simpa using hq0
          have HF := Lib.hid (show firstF ps = q by
            have := firstF_at HY.out.2 HP.out (by rw [HQ.out]; simpa using hq0)
            rw [this, HQ.out])
          clear hq0
          obtain ⟨f0, f1, f2, f3, f4, f5, f6⟩ := cells6 HW3.out.1.box
          go_wp2_with (refine store_s12 rfl (.tmp 4) (.tmp 35) rfl (w.heap.size + 1) S6.zero x rfl rfl HW3.out.1.res ?_)
          rw [Exit.noGoto_ret]
          refine bodyPost_ret (results_row_tmp2 rfl _ _ (w.heap.size + 1) 23 x.cs (0, 0) _ rfl (setRow_heap _ _ _ _ _ _ HW3.out.1.res) Try.underlying23 rfl (by kernel_rfl)) rfl ⟨?_, below_setRow HW3.out.1.b (by omega) _⟩
          unfold tupA
          rw [HF.out, show (q == 0) = false by simpa using hqb]
          rfl
    · obtain rfl : k = N := by omega
      have HYL := Lib.hid (show -4294967296 ≤ y.u ∧ y.u ≤ 4294967296 from by
        have h := HY.out.1
        rw [List.take_of_length_le (by rw [HN.out]; exact Nat.le_refl _), applyS_last] at h
        rw [h]; exact HLW.out)
      have HE := Lib.hid (show tupA x ps = .tuple #[y.v, .int .i64 (y.u - x.u), .int .i64 0] from by
        obtain ⟨h, h2⟩ := HY.out
        rw [List.take_of_length_le (by rw [HN.out]; exact Nat.le_refl _)] at h h2
        unfold tupA
        rw [h2, h]; rfl)
      clear hlt hk
      go_wp2_with fail
      -- TABLE
      refine wp_region_table 6 [42, 43, 44, 45, 46, 47] [[], [], [(1, 43)], [], [(3, 45)], [(2, 44), (4, 46)]]
        (fun i v w' => match i with
          | 0 => v = .agg #[.int .i64 y.t, .int .i64 y.p, .int .i64 y.s, .int .i64 y.u, .int .i64 y.f, .int .i64 y.l]
          | 1 => v = .pointer (some ⟨w.heap.size + 1 + 1, 3, none⟩)
          | 2 => v = .int .i64 y.u
          | 3 => v = .pointer (some ⟨w.heap.size, 3, none⟩)
          | 4 => v = .int .i64 x.u
          | 5 => v = .int .i64 (y.u - x.u)
          | _ => True) (by kernel_rfl) (by kernel_rfl) ?tStab ?tOps ?tRest
      case tStab =>
        intro i v w3 w4 h hb
        match i, h with
        | 0, h | 1, h | 2, h | 3, h | 4, h | 5, h => exact h
        | i + 6, _ => trivial
      case tOps =>
        simp only [List.take_succ_cons, List.take_zero, opsOk]
        refine ⟨?_, ?_, ?_, ?_, ?_, ?_, trivial⟩
        · intro ρ w3 hc hf ho hB hj
          have x0 : ρ (.tmp 7) = .pointer (some ⟨w.heap.size + 1 + 1, 0, none⟩) := ho 7 (by decide)
          obtain ⟨f0, f1, f2, f3, f4, f5, f6⟩ := cells6 (HW.out.1.below hB).made
          simp [gives, go_sem, x0, f0, f1, f2, f3, f4, f5, Below.refl]
        · intro ρ w3 hc hf ho hB hj
          have x0 : ρ (.tmp 7) = .pointer (some ⟨w.heap.size + 1 + 1, 0, none⟩) := ho 7 (by decide)
          simp [gives, go_sem, x0, Below.refl]
        · intro ρ w3 hc hf ho hB hj
          have x0 : ρ (.tmp 43) = .pointer (some ⟨w.heap.size + 1 + 1, 3, none⟩) := hj (1, 43) (by simp)
          obtain ⟨f0, f1, f2, f3, f4, f5, f6⟩ := cells6 (HW.out.1.below hB).made
          simp [gives, go_sem, x0, f3, Below.refl]
        · intro ρ w3 hc hf ho hB hj
          have x0 : ρ (.tmp 2) = .pointer (some ⟨w.heap.size, 0, none⟩) := ho 2 (by decide)
          simp [gives, go_sem, x0, Below.refl]
        · intro ρ w3 hc hf ho hB hj
          have x0 : ρ (.tmp 45) = .pointer (some ⟨w.heap.size, 3, none⟩) := hj (3, 45) (by simp)
          obtain ⟨f0, f1, f2, f3, f4, f5, f6⟩ := cells6 (HW.out.1.below hB).box
          simp [gives, go_sem, x0, f3, Below.refl]
        · intro ρ w3 hc hf ho hB hj
          have x0 : ρ (.tmp 44) = .int .i64 y.u := hj (2, 44) (by simp)
          have x1 : ρ (.tmp 46) = .int .i64 x.u := hj (4, 46) (by simp)
          simp [gives, go_sem, x0, x1, hf]
          exact (greater_any _ _ _ HYL.out.1 HYL.out.2 H0.out.1 H0.out.2).mono (by rintro e w4 ⟨rfl, rfl⟩; exact ⟨_, rfl, rfl, Below.refl _ _⟩)
      case tRest =>
        intro X w3 hBw hX
        have x0 : X 0 = .agg #[.int .i64 y.t, .int .i64 y.p, .int .i64 y.s, .int .i64 y.u, .int .i64 y.f, .int .i64 y.l] := hX 0 (by decide)
        have x1 : X 1 = .pointer (some ⟨w.heap.size + 1 + 1, 3, none⟩) := hX 1 (by decide)
        have x2 : X 2 = .int .i64 y.u := hX 2 (by decide)
        have x3 : X 3 = .pointer (some ⟨w.heap.size, 3, none⟩) := hX 3 (by decide)
        have x4 : X 4 = .int .i64 x.u := hX 4 (by decide)
        have x5 : X 5 = .int .i64 (y.u - x.u) := hX 5 (by decide)
        simp only [putAll, List.getD_cons_zero, List.getD_cons_succ, Act.put, List.setIfInBounds_toArray, List.set_cons_zero, List.set_cons_succ, List.drop_succ_cons, List.drop_zero]
        rw [x0, x1, x2, x3, x4, x5]
      -- END
        have HW5 := Lib.hid (HW.out.1.below hBw)
        clear x0 x1 x2 x3 x4 x5 hBw hX
        go_wp2_with (refine store_s12 rfl (.tmp 4) (.tmp 42) rfl (w.heap.size + 1) S6.zero y rfl rfl HW5.out.res ?_)
        rw [Exit.noGoto_ret]
        refine bodyPost_ret (results_row_tmp2 rfl _ _ (w.heap.size + 1) 23 y.cs (0, 0) _ rfl (setRow_heap _ _ _ _ _ _ HW5.out.res) Try.underlying23 rfl (by kernel_rfl)) rfl ⟨?_, below_setRow HW5.out.b (by omega) _⟩
        rw [HE.out]
        rfl
end Go.Proofs.Ytmmcpmkkgembbaa
