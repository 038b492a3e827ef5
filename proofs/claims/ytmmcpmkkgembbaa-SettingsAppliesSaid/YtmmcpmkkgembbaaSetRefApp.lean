
/-
  Layer 12's reference: Apply (written by wip/tools/gen12r.py).
-/
import Derived.Test.YtmmcpmkkgembbaaSetApp
import Derived.Test.YtmmcpmkkgembbaaSetRef
import Derived.Test.YtmmcpmkkgembbaaHeld
namespace Go.Proofs.Ytmmcpmkkgembbaa
set_option maxRecDepth 20000
open Go.RowKit

theorem store_r12 {ops : Array Oper} {rest : List Oper} {o : Oper} {a : Act} {w : World} {Q : Exit → Act → World → Prop} (hgd : o.guard = none) (x y : Operand) (ho : o.op = .store 30 x y)
    (g : Nat) (y0 z : S6) (hx : a.eval x = .pointer (some ⟨g, 0, none⟩)) (hy : a.eval y = .agg z.cs) (hg : w.heap[g]? = some (.cells y0.cs 30 (0, 0)))
    (h : wpList Try.prog ops Q rest (a.put o.dst undef) (w.setRow g z.cs)) : wpList Try.prog ops Q (o :: rest) a w :=
  wpList_store_row hgd 30 x y ho g z.cs hx hy 30 y0.cs hg (by kernel_rfl) rfl (by simp [S6.cs, setC, Value.oneCell']) h
theorem wp_r12 {o : Oper} {a : Act} {w : World} {K : Act → World → Prop} {Q : Exit → Act → World → Prop} (hd : o.dst = none) (x y : Operand) (ho : o.op = .store 30 x y) (g : Nat) (y0 z : S6) (hx : a.eval x = .pointer (some ⟨g, 0, none⟩)) (hy : a.eval y = .agg z.cs)
    (hg : w.heap[g]? = some (.cells y0.cs 30 (0, 0))) (h : K a (w.setRow g z.cs)) : o.wp Try.prog a w K Q :=
  wp_store_row 30 x y ho g z.cs hx hy 30 y0.cs hg (by kernel_rfl) rfl (by simp [S6.cs, setC, Value.oneCell']) (by rw [hd]; exact h)
/-- a set of zeros that was just made -/
def NewR (lo : Nat) (v : Value) (w : World) : Prop := ∃ C, v = .pointer (some ⟨C, 0, none⟩) ∧ lo ≤ C ∧ C < w.heap.size ∧ w.heap[C]? = some (.cells S6.zero.cs 30 (0, 0))
theorem wrap_i64_mid {n : Int} (h1 : -9223372036854775808 ≤ n) (h2 : n < 9223372036854775808) : IntKind.i64.wrap n = n := by
  simp [IntKind.wrap, IntKind.bits, IntKind.signed]; omega
/-- its own blocks: the set that came in, the answer -/
structure RfW (w W : World) (x : S6) (v : Value) (ps : List Pr) : Prop where
  box : W.heap[w.heap.size]? = some (.cells x.cs 30 (0, 0))
  sl : SlP W v ps ∧ True
  res : W.heap[w.heap.size + 1]? = some (.cells S6.zero.cs 30 (0, 0))
  b : Below w.heap.size w W
theorem RfW.below {w W W' : World} {x : S6} {v : Value} {ps : List Pr} (h : RfW w W x v ps) (hb : Below W.heap.size W W') : RfW w W' x v ps :=
  ⟨(hb.block _ (Array.getElem?_eq_some_iff.1 h.box).1).trans h.box, ⟨h.sl.1.below hb, trivial⟩, (hb.block _ (Array.getElem?_eq_some_iff.1 h.res).1).trans h.res, h.b.trans (hb.mono h.b.size)⟩

set_option maxHeartbeats 8000000 in
theorem refApply_any (x : S6) (v : Value) (ps : List Pr) (w : World) (h : SlP w v ps) (hl : Low ps) (h0 : -4294967296 ≤ x.u) (h1 : x.u ≤ 4294967296) :
    Calls Try.prog 7 #[x.v, v] w fun e w' => e = .returned (tupA x ps) ∧ Below w.heap.size w w' := by
  obtain ⟨a, c, rfl, hc1, hc2⟩ := h.shape
  unfold maxLen at hc2
  obtain ⟨N, hN⟩ : ∃ N, N = ps.length := ⟨_, rfl⟩
  rw [← hN] at h hc1 ⊢
  have HN := Lib.hid hN
  have HLW := Lib.hid (lastP_low 4 hl x.u h0 h1)
  have H0 := Lib.hid (And.intro h0 h1)
  have HB0 := Lib.hid (show RfW w ((w.alloc (.cells x.cs 30)).alloc (.cells S6.zero.cs 30)) x (.slice a N c) ps from by
    have b1 := (Below.refl w.heap.size w).alloc (Nat.le_refl _) (.cells x.cs 30)
    have b2 := b1.alloc (by simp) (.cells S6.zero.cs 30)
    refine ⟨(Below.heap_alloc _ _ _ (by simp)).trans (heap_alloc_new _ _), ⟨h.below b2, trivial⟩, ?_, b2⟩
    have := heap_alloc_new (w.alloc (.cells x.cs 30)) (.cells S6.zero.cs 30)
    rwa [show (w.alloc (.cells x.cs 30)).heap.size = w.heap.size + 1 by simp] at this)
  clear hN h hl h0 h1
  unfold S6.cs S6.zero setC at HB0
  unfold S6.v S6.cs setC
  obtain ⟨W2, hW2⟩ : ∃ W2, (w.alloc (.cells #[.int .i64 x.t, .int .i64 x.p, .int .i64 x.s, .int .i64 x.u, .int .i64 x.f, .int .i64 x.l] 30)).alloc (.cells #[.int .i64 0, .int .i64 0, .int .i64 0, .int .i64 0, .int .i64 0, .int .i64 0] 30) = W2 := ⟨_, rfl⟩
  go_enter Try.func7, Try.ntmps7
  go_wp2_with fail
  rw [hW2] at HB0
  have HB := HB0
  clear hW2 HB0
  go_loopg [7, 8] N (fun q s7 s8 wr => ∃ k : Nat, k + q = N ∧ s7 = .int .i64 k ∧ Hid (firstF (ps.take k) = 0) ∧ wr = W2)
  case atStart => exact ⟨0, by omega, rfl, Lib.hid rfl, rfl⟩
  case round =>
    obtain ⟨k, hkq, rfl, HY, rfl⟩ := hrel
    have HKQ := Lib.hid hkq
    have hk : k ≤ N := by omega
    clear hkq
    by_cases hlt : k < N
    · obtain ⟨p, hp⟩ := pr_at (ps := ps) (k := k) (by rw [← HN.out]; exact hlt)
      obtain ⟨b, off, rfl, hbl, hcell⟩ := HB.out.sl.1.at_ (i := k) (by rw [← HN.out]; exact hlt)
      obtain ⟨c0, c1⟩ := hcell p hp
      have HP := Lib.hid hp
      clear hcell hp
      obtain ⟨i, z⟩ := p
      simp only at c0 c1
      by_cases e2 : i = 2
      · subst e2
        by_cases z0 : z = 0
        · subst z0
          have HQ := Lib.hid (show faultP (2, 0) = 0 from rfl)
          go_wp2_with fail
          go_roundg (N - (k + 1))
          case measure => have := HKQ.out; omega
          case rel => exact ⟨k + 1, by omega, by go_num, Lib.hid (by rw [pr_take HP.out]; exact firstF_end HY.out _ HQ.out), rfl⟩
        · by_cases z1 : z = 1
          · subst z1
            have HQ := Lib.hid (show faultP (2, 1) = 0 from rfl)
            go_wp2_with fail
            go_roundg (N - (k + 1))
            case measure => have := HKQ.out; omega
            case rel => exact ⟨k + 1, by omega, by go_num, Lib.hid (by rw [pr_take HP.out]; exact firstF_end HY.out _ HQ.out), rfl⟩
          · have t0 : (z != 0) = true := by simpa using z0
            have t1 : (z != 1) = true := by simpa using z1
            have HQ := Lib.hid (show faultP (2, z) = 1 from by
              unfold faultP
              rw [show (decide (0 ≤ z) && decide (z ≤ 1)) = false by rw [Bool.and_eq_false_iff, decide_eq_false_iff_not, decide_eq_false_iff_not]; omega]
              rfl)
            clear z0 z1
            obtain ⟨f0, f1, f2, f3, f4, f5, f6⟩ := cells6 HB.out.box
            have HF := Lib.hid (show firstF ps = 1 from by rw [firstF_at HY.out HP.out (by rw [HQ.out]; rfl), HQ.out])
            go_wp2_with (refine store_r12 rfl (.tmp 4) (.tmp 51) rfl (w.heap.size + 1) S6.zero x rfl rfl HB.out.res ?_)
            refine bodyPost_ret (results_row_tmp2 rfl _ _ (w.heap.size + 1) 30 x.cs (0, 0) _ rfl (setRow_heap _ _ _ _ _ _ HB.out.res) Try.underlying30 rfl (by kernel_rfl)) rfl ⟨?_, below_setRow HB.out.b (by omega) _⟩
            unfold tupA
            rw [HF.out]
            rfl
      · by_cases e5 : i = 5
        · subst e5
          by_cases z0 : z < 16384
          · have t0 : decide (z < 16384) = true := decide_eq_true z0
            have HQ := Lib.hid (show faultP (5, z) = 1 from by
              unfold faultP
              rw [show (decide (16384 ≤ z) && decide (z ≤ 16777215)) = false by rw [Bool.and_eq_false_iff, decide_eq_false_iff_not, decide_eq_false_iff_not]; omega]
              rfl)
            clear z0 e2
            obtain ⟨f0, f1, f2, f3, f4, f5, f6⟩ := cells6 HB.out.box
            have HF := Lib.hid (show firstF ps = 1 from by rw [firstF_at HY.out HP.out (by rw [HQ.out]; rfl), HQ.out])
            go_wp2_with (refine store_r12 rfl (.tmp 4) (.tmp 51) rfl (w.heap.size + 1) S6.zero x rfl rfl HB.out.res ?_)
            refine bodyPost_ret (results_row_tmp2 rfl _ _ (w.heap.size + 1) 30 x.cs (0, 0) _ rfl (setRow_heap _ _ _ _ _ _ HB.out.res) Try.underlying30 rfl (by kernel_rfl)) rfl ⟨?_, below_setRow HB.out.b (by omega) _⟩
            unfold tupA
            rw [HF.out]
            rfl
          · have t0 : decide (z < 16384) = false := decide_eq_false z0
            by_cases z1 : 16777215 < z
            · have t1 : decide (16777215 < z) = true := decide_eq_true z1
              have HQ := Lib.hid (show faultP (5, z) = 1 from by
                unfold faultP
                rw [show (decide (16384 ≤ z) && decide (z ≤ 16777215)) = false by rw [Bool.and_eq_false_iff, decide_eq_false_iff_not, decide_eq_false_iff_not]; omega]
                rfl)
              clear z0 z1 e2
              obtain ⟨f0, f1, f2, f3, f4, f5, f6⟩ := cells6 HB.out.box
              have HF := Lib.hid (show firstF ps = 1 from by rw [firstF_at HY.out HP.out (by rw [HQ.out]; rfl), HQ.out])
              go_wp2_with (refine store_r12 rfl (.tmp 4) (.tmp 51) rfl (w.heap.size + 1) S6.zero x rfl rfl HB.out.res ?_)
              refine bodyPost_ret (results_row_tmp2 rfl _ _ (w.heap.size + 1) 30 x.cs (0, 0) _ rfl (setRow_heap _ _ _ _ _ _ HB.out.res) Try.underlying30 rfl (by kernel_rfl)) rfl ⟨?_, below_setRow HB.out.b (by omega) _⟩
              unfold tupA
              rw [HF.out]
              rfl
            · have t1 : decide (16777215 < z) = false := decide_eq_false z1
              have HQ := Lib.hid (show faultP (5, z) = 0 from by
                unfold faultP
                rw [show (decide (16384 ≤ z) && decide (z ≤ 16777215)) = true by rw [Bool.and_eq_true, decide_eq_true_iff, decide_eq_true_iff]; omega]
                rfl)
              clear z0 z1 e2
              go_wp2_with fail
              go_roundg (N - (k + 1))
              case measure => have := HKQ.out; omega
              case rel => exact ⟨k + 1, by omega, by go_num, Lib.hid (by rw [pr_take HP.out]; exact firstF_end HY.out _ HQ.out), rfl⟩
        · by_cases e4 : i = 4
          · subst e4
            by_cases z0 : 2147483647 < z
            · have t0 : decide (2147483647 < z) = true := decide_eq_true z0
              have HQ := Lib.hid (show faultP (4, z) = 3 from by unfold faultP; rw [t0]; rfl)
              clear z0 e2 e5
              obtain ⟨f0, f1, f2, f3, f4, f5, f6⟩ := cells6 HB.out.box
              have HF := Lib.hid (show firstF ps = 3 from by rw [firstF_at HY.out HP.out (by rw [HQ.out]; rfl), HQ.out])
              go_wp2_with (refine store_r12 rfl (.tmp 4) (.tmp 62) rfl (w.heap.size + 1) S6.zero x rfl rfl HB.out.res ?_)
              refine bodyPost_ret (results_row_tmp2 rfl _ _ (w.heap.size + 1) 30 x.cs (0, 0) _ rfl (setRow_heap _ _ _ _ _ _ HB.out.res) Try.underlying30 rfl (by kernel_rfl)) rfl ⟨?_, below_setRow HB.out.b (by omega) _⟩
              unfold tupA
              rw [HF.out]
              rfl
            · have t0 : decide (2147483647 < z) = false := decide_eq_false z0
              have HQ := Lib.hid (show faultP (4, z) = 0 from by unfold faultP; rw [t0]; rfl)
              clear z0 e2 e5
              go_wp2_with fail
              go_roundg (N - (k + 1))
              case measure => have := HKQ.out; omega
              case rel => exact ⟨k + 1, by omega, by go_num, Lib.hid (by rw [pr_take HP.out]; exact firstF_end HY.out _ HQ.out), rfl⟩
          · have t2 : (i == 2) = false := by simpa using e2
            have t5 : (i == 5) = false := by simpa using e5
            have t4 : (i == 4) = false := by simpa using e4
            have HQ := Lib.hid (show faultP (i, z) = 0 from by unfold faultP; rw [t2, t5, t4]; rfl)
            clear e2 e5 e4
            go_wp2_with fail
            go_roundg (N - (k + 1))
            case measure => have := HKQ.out; omega
            case rel => exact ⟨k + 1, by omega, by go_num, Lib.hid (by rw [pr_take HP.out]; exact firstF_end HY.out _ HQ.out), rfl⟩
    · obtain rfl : k = N := by omega
      have HYL := HLW
      have HE := Lib.hid (show tupA x ps = .tuple #[(applyS x ps).v, .int .i64 ((applyS x ps).u - x.u), .int .i64 0] from by
        have h2 := HY.out
        rw [List.take_of_length_le (by rw [HN.out]; exact Nat.le_refl _)] at h2
        unfold tupA
        rw [h2]; rfl)
      clear hlt hk
      go_wp2_with fail
      refine wp_region_table 26 [63, 64, 65, 66, 67, 68, 69, 70, 71, 72, 73, 74, 75, 76, 77, 78, 79, 80, 81, 82, 83, 84, 85, 86, 87, 9] [[], [], [(1, 64)], [(0, 63), (2, 65)], [], [], [(5, 68)], [(4, 67), (6, 69)], [], [], [(9, 72)], [(8, 71), (10, 73)], [], [], [(13, 76)], [(12, 75), (14, 77)], [], [], [(17, 80)], [(16, 79), (18, 81)], [], [], [(21, 84)], [(20, 83), (22, 85)], [(3, 66), (7, 70), (11, 74), (15, 78), (19, 82), (23, 86)], []]
        (fun i v w' => match i with
          | 0 => v = .slice a k c
          | 1 => v = .pointer (some ⟨w.heap.size, 0, none⟩)
          | 2 => v = .int .i64 x.t
          | 3 => v = .int .i64 (lastP 1 x.t ps)
          | 4 => v = .slice a k c
          | 5 => v = .pointer (some ⟨w.heap.size, 1, none⟩)
          | 6 => v = .int .i64 x.p
          | 7 => v = .int .i64 (lastP 2 x.p ps)
          | 8 => v = .slice a k c
          | 9 => v = .pointer (some ⟨w.heap.size, 2, none⟩)
          | 10 => v = .int .i64 x.s
          | 11 => v = .int .i64 (lastP 3 x.s ps)
          | 12 => v = .slice a k c
          | 13 => v = .pointer (some ⟨w.heap.size, 3, none⟩)
          | 14 => v = .int .i64 x.u
          | 15 => v = .int .i64 (lastP 4 x.u ps)
          | 16 => v = .slice a k c
          | 17 => v = .pointer (some ⟨w.heap.size, 4, none⟩)
          | 18 => v = .int .i64 x.f
          | 19 => v = .int .i64 (lastP 5 x.f ps)
          | 20 => v = .slice a k c
          | 21 => v = .pointer (some ⟨w.heap.size, 5, none⟩)
          | 22 => v = .int .i64 x.l
          | 23 => v = .int .i64 (lastP 6 x.l ps)
          | 24 => v = .agg #[.int .i64 (lastP 1 x.t ps), .int .i64 (lastP 2 x.p ps), .int .i64 (lastP 3 x.s ps), .int .i64 (lastP 4 x.u ps), .int .i64 (lastP 5 x.f ps), .int .i64 (lastP 6 x.l ps)]
          | 25 => NewR wr.heap.size v w'
          | _ => True) (by kernel_rfl) (by kernel_rfl) ?tStab ?tOps ?tRest
      case tStab =>
        intro i v w3 w4 h hb
        match i, h with
        | 0, h | 1, h | 2, h | 3, h | 4, h | 5, h | 6, h | 7, h | 8, h | 9, h | 10, h | 11, h | 12, h | 13, h | 14, h | 15, h | 16, h | 17, h | 18, h | 19, h | 20, h | 21, h | 22, h | 23, h | 24, h => exact h
        | 25, h => obtain ⟨C, e, h1, h2, h3⟩ := h; exact ⟨C, e, h1, Nat.lt_of_lt_of_le h2 hb.size, (hb.block C h2).trans h3⟩
        | i + 26, _ => trivial
      case tOps =>
        simp only [List.take_succ_cons, List.take_zero, opsOk]
        refine ⟨?_, ?_, ?_, ?_, ?_, ?_, ?_, ?_, ?_, ?_, ?_, ?_, ?_, ?_, ?_, ?_, ?_, ?_, ?_, ?_, ?_, ?_, ?_, ?_, ?_, ?_, trivial⟩
        · intro ρ w3 hc hf ho hB hj
          have x0 : ρ (.tmp 1) = .slice a k c := ho 1 (by decide)
          simp [gives, go_sem, x0, Below.refl]
        · intro ρ w3 hc hf ho hB hj
          have x0 : ρ (.tmp 2) = .pointer (some ⟨w.heap.size, 0, none⟩) := ho 2 (by decide)
          simp [gives, go_sem, x0, Below.refl]
        · intro ρ w3 hc hf ho hB hj
          have x0 : ρ (.tmp 64) = .pointer (some ⟨w.heap.size, 0, none⟩) := hj (1, 64) (by simp)
          obtain ⟨f0, f1, f2, f3, f4, f5, f6⟩ := cells6 (HB.out.below hB).box
          simp [gives, go_sem, x0, f0, Below.refl]
        · intro ρ w3 hc hf ho hB hj
          have x0 : ρ (.tmp 63) = .slice a k c := hj (0, 63) (by simp)
          have x1 : ρ (.tmp 65) = .int .i64 x.t := hj (2, 65) (by simp)
          simp [gives, go_sem, x0, x1, hc, hf]
          exact (refLast_any _ ps _ _ _ (HB.out.2.1.below hB)).mono (by rintro e w4 ⟨rfl, rfl⟩; exact ⟨_, rfl, rfl, Below.refl _ _⟩)
        · intro ρ w3 hc hf ho hB hj
          have x0 : ρ (.tmp 1) = .slice a k c := ho 1 (by decide)
          simp [gives, go_sem, x0, Below.refl]
        · intro ρ w3 hc hf ho hB hj
          have x0 : ρ (.tmp 2) = .pointer (some ⟨w.heap.size, 0, none⟩) := ho 2 (by decide)
          simp [gives, go_sem, x0, Below.refl]
        · intro ρ w3 hc hf ho hB hj
          have x0 : ρ (.tmp 68) = .pointer (some ⟨w.heap.size, 1, none⟩) := hj (5, 68) (by simp)
          obtain ⟨f0, f1, f2, f3, f4, f5, f6⟩ := cells6 (HB.out.below hB).box
          simp [gives, go_sem, x0, f1, Below.refl]
        · intro ρ w3 hc hf ho hB hj
          have x0 : ρ (.tmp 67) = .slice a k c := hj (4, 67) (by simp)
          have x1 : ρ (.tmp 69) = .int .i64 x.p := hj (6, 69) (by simp)
          simp [gives, go_sem, x0, x1, hc, hf]
          exact (refLast_any _ ps _ _ _ (HB.out.2.1.below hB)).mono (by rintro e w4 ⟨rfl, rfl⟩; exact ⟨_, rfl, rfl, Below.refl _ _⟩)
        · intro ρ w3 hc hf ho hB hj
          have x0 : ρ (.tmp 1) = .slice a k c := ho 1 (by decide)
          simp [gives, go_sem, x0, Below.refl]
        · intro ρ w3 hc hf ho hB hj
          have x0 : ρ (.tmp 2) = .pointer (some ⟨w.heap.size, 0, none⟩) := ho 2 (by decide)
          simp [gives, go_sem, x0, Below.refl]
        · intro ρ w3 hc hf ho hB hj
          have x0 : ρ (.tmp 72) = .pointer (some ⟨w.heap.size, 2, none⟩) := hj (9, 72) (by simp)
          obtain ⟨f0, f1, f2, f3, f4, f5, f6⟩ := cells6 (HB.out.below hB).box
          simp [gives, go_sem, x0, f2, Below.refl]
        · intro ρ w3 hc hf ho hB hj
          have x0 : ρ (.tmp 71) = .slice a k c := hj (8, 71) (by simp)
          have x1 : ρ (.tmp 73) = .int .i64 x.s := hj (10, 73) (by simp)
          simp [gives, go_sem, x0, x1, hc, hf]
          exact (refLast_any _ ps _ _ _ (HB.out.2.1.below hB)).mono (by rintro e w4 ⟨rfl, rfl⟩; exact ⟨_, rfl, rfl, Below.refl _ _⟩)
        · intro ρ w3 hc hf ho hB hj
          have x0 : ρ (.tmp 1) = .slice a k c := ho 1 (by decide)
          simp [gives, go_sem, x0, Below.refl]
        · intro ρ w3 hc hf ho hB hj
          have x0 : ρ (.tmp 2) = .pointer (some ⟨w.heap.size, 0, none⟩) := ho 2 (by decide)
          simp [gives, go_sem, x0, Below.refl]
        · intro ρ w3 hc hf ho hB hj
          have x0 : ρ (.tmp 76) = .pointer (some ⟨w.heap.size, 3, none⟩) := hj (13, 76) (by simp)
          obtain ⟨f0, f1, f2, f3, f4, f5, f6⟩ := cells6 (HB.out.below hB).box
          simp [gives, go_sem, x0, f3, Below.refl]
        · intro ρ w3 hc hf ho hB hj
          have x0 : ρ (.tmp 75) = .slice a k c := hj (12, 75) (by simp)
          have x1 : ρ (.tmp 77) = .int .i64 x.u := hj (14, 77) (by simp)
          simp [gives, go_sem, x0, x1, hc, hf]
          exact (refLast_any _ ps _ _ _ (HB.out.2.1.below hB)).mono (by rintro e w4 ⟨rfl, rfl⟩; exact ⟨_, rfl, rfl, Below.refl _ _⟩)
        · intro ρ w3 hc hf ho hB hj
          have x0 : ρ (.tmp 1) = .slice a k c := ho 1 (by decide)
          simp [gives, go_sem, x0, Below.refl]
        · intro ρ w3 hc hf ho hB hj
          have x0 : ρ (.tmp 2) = .pointer (some ⟨w.heap.size, 0, none⟩) := ho 2 (by decide)
          simp [gives, go_sem, x0, Below.refl]
        · intro ρ w3 hc hf ho hB hj
          have x0 : ρ (.tmp 80) = .pointer (some ⟨w.heap.size, 4, none⟩) := hj (17, 80) (by simp)
          obtain ⟨f0, f1, f2, f3, f4, f5, f6⟩ := cells6 (HB.out.below hB).box
          simp [gives, go_sem, x0, f4, Below.refl]
        · intro ρ w3 hc hf ho hB hj
          have x0 : ρ (.tmp 79) = .slice a k c := hj (16, 79) (by simp)
          have x1 : ρ (.tmp 81) = .int .i64 x.f := hj (18, 81) (by simp)
          simp [gives, go_sem, x0, x1, hc, hf]
          exact (refLast_any _ ps _ _ _ (HB.out.2.1.below hB)).mono (by rintro e w4 ⟨rfl, rfl⟩; exact ⟨_, rfl, rfl, Below.refl _ _⟩)
        · intro ρ w3 hc hf ho hB hj
          have x0 : ρ (.tmp 1) = .slice a k c := ho 1 (by decide)
          simp [gives, go_sem, x0, Below.refl]
        · intro ρ w3 hc hf ho hB hj
          have x0 : ρ (.tmp 2) = .pointer (some ⟨w.heap.size, 0, none⟩) := ho 2 (by decide)
          simp [gives, go_sem, x0, Below.refl]
        · intro ρ w3 hc hf ho hB hj
          have x0 : ρ (.tmp 84) = .pointer (some ⟨w.heap.size, 5, none⟩) := hj (21, 84) (by simp)
          obtain ⟨f0, f1, f2, f3, f4, f5, f6⟩ := cells6 (HB.out.below hB).box
          simp [gives, go_sem, x0, f5, Below.refl]
        · intro ρ w3 hc hf ho hB hj
          have x0 : ρ (.tmp 83) = .slice a k c := hj (20, 83) (by simp)
          have x1 : ρ (.tmp 85) = .int .i64 x.l := hj (22, 85) (by simp)
          simp [gives, go_sem, x0, x1, hc, hf]
          exact (refLast_any _ ps _ _ _ (HB.out.2.1.below hB)).mono (by rintro e w4 ⟨rfl, rfl⟩; exact ⟨_, rfl, rfl, Below.refl _ _⟩)
        · intro ρ w3 hc hf ho hB hj
          have x0 : ρ (.tmp 66) = .int .i64 (lastP 1 x.t ps) := hj (3, 66) (by simp)
          have x1 : ρ (.tmp 70) = .int .i64 (lastP 2 x.p ps) := hj (7, 70) (by simp)
          have x2 : ρ (.tmp 74) = .int .i64 (lastP 3 x.s ps) := hj (11, 74) (by simp)
          have x3 : ρ (.tmp 78) = .int .i64 (lastP 4 x.u ps) := hj (15, 78) (by simp)
          have x4 : ρ (.tmp 82) = .int .i64 (lastP 5 x.f ps) := hj (19, 82) (by simp)
          have x5 : ρ (.tmp 86) = .int .i64 (lastP 6 x.l ps) := hj (23, 86) (by simp)
          simp [gives, go_sem, x0, x1, x2, x3, x4, x5, Below.refl]
        · intro ρ w3 hc hf ho hB hj
          simp [gives, go_sem]
          exact ⟨⟨_, rfl, hB.size, by simp, heap_alloc_new _ _⟩, (Below.refl _ _).alloc (Nat.le_refl _) _⟩
      case tRest =>
        intro X w3 hBw hX
        have x0 : X 0 = .slice a k c := hX 0 (by decide)
        have x1 : X 1 = .pointer (some ⟨w.heap.size, 0, none⟩) := hX 1 (by decide)
        have x2 : X 2 = .int .i64 x.t := hX 2 (by decide)
        have x3 : X 3 = .int .i64 (lastP 1 x.t ps) := hX 3 (by decide)
        have x4 : X 4 = .slice a k c := hX 4 (by decide)
        have x5 : X 5 = .pointer (some ⟨w.heap.size, 1, none⟩) := hX 5 (by decide)
        have x6 : X 6 = .int .i64 x.p := hX 6 (by decide)
        have x7 : X 7 = .int .i64 (lastP 2 x.p ps) := hX 7 (by decide)
        have x8 : X 8 = .slice a k c := hX 8 (by decide)
        have x9 : X 9 = .pointer (some ⟨w.heap.size, 2, none⟩) := hX 9 (by decide)
        have x10 : X 10 = .int .i64 x.s := hX 10 (by decide)
        have x11 : X 11 = .int .i64 (lastP 3 x.s ps) := hX 11 (by decide)
        have x12 : X 12 = .slice a k c := hX 12 (by decide)
        have x13 : X 13 = .pointer (some ⟨w.heap.size, 3, none⟩) := hX 13 (by decide)
        have x14 : X 14 = .int .i64 x.u := hX 14 (by decide)
        have x15 : X 15 = .int .i64 (lastP 4 x.u ps) := hX 15 (by decide)
        have x16 : X 16 = .slice a k c := hX 16 (by decide)
        have x17 : X 17 = .pointer (some ⟨w.heap.size, 4, none⟩) := hX 17 (by decide)
        have x18 : X 18 = .int .i64 x.f := hX 18 (by decide)
        have x19 : X 19 = .int .i64 (lastP 5 x.f ps) := hX 19 (by decide)
        have x20 : X 20 = .slice a k c := hX 20 (by decide)
        have x21 : X 21 = .pointer (some ⟨w.heap.size, 5, none⟩) := hX 21 (by decide)
        have x22 : X 22 = .int .i64 x.l := hX 22 (by decide)
        have x23 : X 23 = .int .i64 (lastP 6 x.l ps) := hX 23 (by decide)
        have x24 : X 24 = .agg #[.int .i64 (lastP 1 x.t ps), .int .i64 (lastP 2 x.p ps), .int .i64 (lastP 3 x.s ps), .int .i64 (lastP 4 x.u ps), .int .i64 (lastP 5 x.f ps), .int .i64 (lastP 6 x.l ps)] := hX 24 (by decide)
        have x25 := hX 25 (by decide)
        simp only [putAll, List.getD_cons_zero, List.getD_cons_succ, Act.put, List.setIfInBounds_toArray, List.set_cons_zero, List.set_cons_succ, List.drop_succ_cons, List.drop_zero]
        rw [x0, x1, x2, x3, x4, x5, x6, x7, x8, x9, x10, x11, x12, x13, x14, x15, x16, x17, x18, x19, x20, x21, x22, x23, x24]
        -- END
        obtain ⟨C, hC, hC1, hC2, hC3⟩ := x25
        rw [hC]
        obtain ⟨z, hz⟩ : ∃ z, z = applyS x ps := ⟨_, rfl⟩
        have HZ := Lib.hid hz
        rw [applyS_last] at hz
        have HB5 := Lib.hid (HB.out.below hBw)
        have HC := Lib.hid (And.intro hC1 (And.intro hC2 hC3))
        clear x0 x1 x2 x3 x4 x5 x6 x7 x8 x9 x10 x11 x12 x13 x14 x15 x16 x17 x18 x19 x20 x21 x22 x23 x24 hBw hX hC hC1 hC2 hC3
        have hzv : Value.agg #[.int .i64 (lastP 1 x.t ps), .int .i64 (lastP 2 x.p ps), .int .i64 (lastP 3 x.s ps), .int .i64 (lastP 4 x.u ps), .int .i64 (lastP 5 x.f ps), .int .i64 (lastP 6 x.l ps)] = .agg #[.int .i64 z.t, .int .i64 z.p, .int .i64 z.s, .int .i64 z.u, .int .i64 z.f, .int .i64 z.l] := by rw [hz]
        have hzu : lastP 4 x.u ps = z.u := by rw [hz]
        rw [hzv]
        rw [hzu] at HYL
        clear hz hzv hzu
        go_wp2_with (refine store_r12 rfl (.tmp 9) (.tmp 87) rfl C S6.zero z rfl rfl HC.out.2.2 ?_)
        have hBr : w.heap.size + 2 ≤ wr.heap.size := by
          have := (Array.getElem?_eq_some_iff.1 HB.out.res).1
          omega
        have s1 : (w3.setRow C z.cs).heap[C]? = some (.cells #[.int .i64 z.t, .int .i64 z.p, .int .i64 z.s, .int .i64 z.u, .int .i64 z.f, .int .i64 z.l] 30 (0, 0)) ∧ (w3.setRow C z.cs).cell? ⟨w.heap.size, 3, none⟩ = some (.int .i64 x.u) := by
          refine ⟨setRow_heap _ _ _ _ _ _ HC.out.2.2, ?_⟩
          rw [cell_setRow_other _ _ _ _ (by show w.heap.size ≠ C; have := HC.out.1; omega)]
          exact blk_cell HB5.out.box rfl
        have HR := Lib.hid (And.intro ((setRow_other w3 C (w.heap.size + 1) z.cs (by have := HC.out.1; omega)).trans HB5.out.res) (below_setRow HB5.out.b (by have := HC.out.1; omega : w.heap.size ≤ C) z.cs))
        obtain ⟨W4, hW4⟩ : ∃ W4, w3.setRow C z.cs = W4 := ⟨_, rfl⟩
        rw [hW4] at s1 HR ⊢
        have HNE := Lib.hid (show C ≠ w.heap.size ∧ C ≠ w.heap.size + 1 from by have := HC.out.1; omega)
        clear hW4 HC HB5 hBr
        refine wp_region_held (S := fun w' => w'.heap[C]? = some (.cells #[.int .i64 z.t, .int .i64 z.p, .int .i64 z.s, .int .i64 z.u, .int .i64 z.f, .int .i64 z.l] 30 (0, 0)) ∧ w'.cell? ⟨w.heap.size, 3, none⟩ = some (.int .i64 x.u)) (by kernel_rfl) ?_
        replace s1 : ({ W4 with drawn := W4.drawn + 1 } : World).heap[C]? = some (.cells #[.int .i64 z.t, .int .i64 z.p, .int .i64 z.s, .int .i64 z.u, .int .i64 z.f, .int .i64 z.l] 30 (0, 0)) ∧ ({ W4 with drawn := W4.drawn + 1 } : World).cell? ⟨w.heap.size, 3, none⟩ = some (.int .i64 x.u) := s1
        refine wpAnyH_early 0 88 (.agg #[.int .i64 z.t, .int .i64 z.p, .int .i64 z.s, .int .i64 z.u, .int .i64 z.f, .int .i64 z.l]) (by kernel_rfl) (by kernel_rfl) (by kernel_rfl) (fun _ _ _ h => h) rfl (fun o ho => by obtain rfl := Option.some.inj ho; exact .inl ⟨rfl, fun W hS => by obtain ⟨f0, f1, f2, f3, f4, f5, f6⟩ := cells6 hS.1; have q3 := hS.2; simp [execOp, go_sem, f0, f1, f2, f3, f4, f5]⟩) s1 ?_
        simp only [Act.put, List.setIfInBounds_toArray, List.set_cons_zero, List.set_cons_succ]
        refine wpAnyH_early 1 89 (.pointer (some ⟨C, 3, none⟩)) (by kernel_rfl) (by kernel_rfl) (by kernel_rfl) (fun _ _ _ h => h) rfl (fun o ho => by obtain rfl := Option.some.inj ho; exact .inl ⟨rfl, fun W hS => rfl⟩) s1 ?_
        simp only [Act.put, List.setIfInBounds_toArray, List.set_cons_zero, List.set_cons_succ]
        refine wpAnyH_early 2 90 (.int .i64 z.u) (by kernel_rfl) (by kernel_rfl) (by kernel_rfl) (fun _ _ _ h => h) rfl (fun o ho => by obtain rfl := Option.some.inj ho; exact .inl ⟨rfl, fun W hS => by obtain ⟨f0, f1, f2, f3, f4, f5, f6⟩ := cells6 hS.1; have q3 := hS.2; simp [execOp, go_sem, f3]⟩) s1 ?_
        simp only [Act.put, List.setIfInBounds_toArray, List.set_cons_zero, List.set_cons_succ]
        refine wpAnyH_early 3 91 (.pointer (some ⟨w.heap.size, 3, none⟩)) (by kernel_rfl) (by kernel_rfl) (by kernel_rfl) (fun _ _ _ h => h) rfl (fun o ho => by obtain rfl := Option.some.inj ho; exact .inl ⟨rfl, fun W hS => rfl⟩) s1 ?_
        simp only [Act.put, List.setIfInBounds_toArray, List.set_cons_zero, List.set_cons_succ]
        refine wpAnyH_early 4 92 (.int .i64 x.u) (by kernel_rfl) (by kernel_rfl) (by kernel_rfl) (fun _ _ _ h => h) rfl (fun o ho => by obtain rfl := Option.some.inj ho; exact .inl ⟨rfl, fun W hS => by obtain ⟨f0, f1, f2, f3, f4, f5, f6⟩ := cells6 hS.1; have q3 := hS.2; simp [execOp, go_sem, q3]⟩) s1 ?_
        simp only [Act.put, List.setIfInBounds_toArray, List.set_cons_zero, List.set_cons_succ]
        have hsub : IntKind.i64.wrap (z.u - x.u) = z.u - x.u := by
          have h1 := HYL.out
          have h2 := H0.out
          exact wrap_i64_mid (by omega) (by omega)
        refine wpAnyH_early 5 93 (.int .i64 (z.u - x.u)) (by kernel_rfl) (by kernel_rfl) (by kernel_rfl) (fun _ _ _ h => h) rfl (fun o ho => by obtain rfl := Option.some.inj ho; exact .inl ⟨rfl, fun W hS => by simp [execOp, go_sem, hsub]⟩) s1 ?_
        simp only [Act.put, List.setIfInBounds_toArray, List.set_cons_zero, List.set_cons_succ]
        refine wpAnyH_only 6 (by kernel_rfl) rfl (fun o ho => ?_)
        obtain rfl := Option.some.inj ho
        refine wp_r12 rfl (.tmp 4) (.tmp 88) rfl (w.heap.size + 1) S6.zero z rfl rfl HR.out.1 ⟨⟨(setRow_other _ _ _ _ HNE.out.2).trans s1.1, (cell_setRow_other _ _ _ _ (by show w.heap.size ≠ w.heap.size + 1; omega)).trans s1.2⟩, ?_⟩
        replace s1 := (show ((({ W4 with drawn := W4.drawn + 1 } : World).setRow (w.heap.size + 1) z.cs).heap[C]? = some (.cells #[.int .i64 z.t, .int .i64 z.p, .int .i64 z.s, .int .i64 z.u, .int .i64 z.f, .int .i64 z.l] 30 (0, 0)) ∧ (({ W4 with drawn := W4.drawn + 1 } : World).setRow (w.heap.size + 1) z.cs).cell? ⟨w.heap.size, 3, none⟩ = some (.int .i64 x.u)) from ⟨(setRow_other _ _ _ _ HNE.out.2).trans s1.1, (cell_setRow_other _ _ _ _ (by show w.heap.size ≠ w.heap.size + 1; omega)).trans s1.2⟩)
        refine wpAnyH_early 7 5 (.int .i64 (z.u - x.u)) (by kernel_rfl) (by kernel_rfl) (by kernel_rfl) (fun _ _ _ h => h) rfl (fun o ho => by obtain rfl := Option.some.inj ho; exact .inl ⟨rfl, fun W hS => rfl⟩) s1 ?_
        simp only [Act.put, List.setIfInBounds_toArray, List.set_cons_zero, List.set_cons_succ]
        refine wpAnyH_early 8 6 (.int .i64 0) (by kernel_rfl) (by kernel_rfl) (by kernel_rfl) (fun _ _ _ h => h) rfl (fun o ho => by obtain rfl := Option.some.inj ho; exact .inl ⟨rfl, fun W hS => rfl⟩) s1 ?_
        simp only [Act.put, List.setIfInBounds_toArray, List.set_cons_zero, List.set_cons_succ]
        refine wpAnyH_done (by kernel_rfl) ?_ _
        go_wp2_with fail
        refine bodyPost_ret (results_row_tmp2 rfl _ _ (w.heap.size + 1) 30 z.cs (0, 0) _ rfl (setRow_heap _ _ _ _ _ _ HR.out.1) Try.underlying30 rfl (by kernel_rfl)) rfl ⟨?_, below_setRow HR.out.2.drew (by omega) _⟩
        rw [HE.out, ← HZ.out]
        rfl
end Go.Proofs.Ytmmcpmkkgembbaa
