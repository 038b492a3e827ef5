
/-
  Layer 12's statement: of (written by wip/tools/gen12o.py).
-/
import Derived.Test.YtmmcpmkkgembbaaPairRow
import Derived.Test.YtmmcpmkkgembbaaMoved
import Derived.Test.YtmmcpmkkgembbaaBuilds
import Derived.Deep.LoopGhost
namespace Go.Proofs.Ytmmcpmkkgembbaa
set_option maxRecDepth 20000
open Go.RowKit

set_option maxHeartbeats 8000000 in
theorem of12_any (v0 : Value) (pr : List Pr) (w : World) (h : SlP w v0 pr) (hl : pr.length ≤ 1000000) :
    Calls Try.prog 9 #[v0] w fun e w' => ∃ v, e = .returned v ∧ SlP w' v pr ∧ Below w.heap.size w w' := by
  obtain ⟨a1, k1, rfl, hc1, hc2⟩ := h.shape
  unfold maxLen at hc2
  obtain ⟨N, hN⟩ : ∃ N, N = pr.length := ⟨_, rfl⟩
  rw [← hN] at h hc1 hl ⊢
  have HN := Lib.hid hN
  have HS := Lib.hid h
  clear hN h
  go_enter Try.func9, Try.ntmps9
  go_wp2_with fail
  go_loopg [3, 4] N (fun q s3 s4 wr => ∃ k : Nat, k + q = N ∧ s4 = .int .i64 k ∧ ∃ v, v = s3 ∧ Hid (Below w.heap.size w wr ∧ RowC prC 2 wr w.heap.size 52 v (pr.take k)))
  case atStart => exact ⟨0, by omega, rfl, _, rfl, Lib.hid ⟨Below.refl _ _, RowC.nil _ _ _⟩⟩
  case round =>
    obtain ⟨k, hkq, rfl, v, rfl, HW⟩ := hrel
    have HKQ := Lib.hid hkq
    have hk : k ≤ N := by omega
    clear hkq
    by_cases hlt : k < N
    · obtain ⟨x, hx⟩ := pr_at (ps := pr) (k := k) (by rw [← HN.out]; exact hlt)
      obtain ⟨b, off, rfl, hbl, hcell⟩ := HS.out.at_ (i := k) (by rw [← HN.out]; exact hlt)
      obtain ⟨c0, c1⟩ := hcell x hx
      have HI := Lib.hid (run_index_sl (P := Try.prog) (t := 24) (s := 2) (by kernel_rfl) (fun _ => by kernel_rfl) b off N k1 k hlt)
      have HX := Lib.hid hx
      have hplen : (pr.take k).length ≤ 1000000 := by rw [List.length_take]; omega
      obtain ⟨ps, hps⟩ : ∃ ps, pr.take k = ps := ⟨_, rfl⟩
      rw [hps] at HW hplen
      have HPS := Lib.hid hps
      clear hcell hx hps
      go_wp2_with fail
      refine Moved.wp_region 14 [11, 12, 13, 14, 15, 16, 17, 18, 19, 20, 21, 22, 23, 24] [[], [], [], [(1, 12), (2, 13)], [(3, 14)], [(4, 15)], [], [], [(6, 17), (7, 18)], [(8, 19)], [(9, 20)], [(5, 16), (10, 21)], [(11, 22)], [(0, 11), (12, 23)]] []
        (fun i u w' => match i with
          | 0 => u = v
          | 1 => u = .slice (some ⟨b, off, none⟩) N k1
          | 2 => u = .int .i64 k
          | 3 => u = .pointer (some ⟨b, off + k * 2, none⟩)
          | 4 => u = .pointer (some ⟨b, off + k * 2, none⟩)
          | 5 => u = .int .i64 x.1
          | 6 => u = .slice (some ⟨b, off, none⟩) N k1
          | 7 => u = .int .i64 k
          | 8 => u = .pointer (some ⟨b, off + k * 2, none⟩)
          | 9 => u = .pointer (some ⟨b, off + k * 2 + 1, none⟩)
          | 10 => u = .int .i64 x.2
          | 11 => u = .agg #[.int .i64 x.1, .int .i64 x.2]
          | 12 => ∃ C, u = .slice (some ⟨C, 0, none⟩) 1 1 ∧ wr.heap.size ≤ C ∧ BlkAt w' C 52 (prC x).toArray
          | 13 => RowC prC 2 w' w.heap.size 52 u (ps ++ [x])
          | _ => True) 13 (fun w' => wr.grownBy w' v.ownBlock) (fun w' w'' => w'.grownBy w'' v.ownBlock) (by kernel_rfl) (by kernel_rfl) ?tWay ?tOps ?tLate ?tRest
      case tWay =>
        refine ⟨fun w1 h => grownBy_of h, fun w1 w2 h hb => h.trans (grownBy_of hb), fun w1 w2 h hb => (grownBy_of h).trans hb, ?_, ?_⟩
        · intro i u w5 w6 h hb
          match i, h with
          | 0, h | 1, h | 2, h | 3, h | 4, h | 5, h | 6, h | 7, h | 8, h | 9, h | 10, h | 11, h => exact h
          | 12, ⟨C, e, hle, hh⟩ => exact ⟨C, e, hle, hh.grown hb⟩
          | 13, h => exact h.below hb
          | i + 14, _ => trivial
        · intro i u w5 w6 hi h hb hg
          match i, h, hi with
          | 0, h, _ | 1, h, _ | 2, h, _ | 3, h, _ | 4, h, _ | 5, h, _ | 6, h, _ | 7, h, _ | 8, h, _ | 9, h, _ | 10, h, _ | 11, h, _ => exact h
          | 12, ⟨C, e, hle, hh⟩, _ => exact ⟨C, e, hle, (hg.block C hh.lt (fun e => by have := (HW.out.2.lt C e.symm).2; omega)).trans hh⟩
          | 13, _, hi => exact absurd rfl hi
          | i + 14, _, _ => trivial
      case tLate => intro i hi; cases hi
      case tOps =>
        simp only [List.take_succ_cons, List.take_zero, Moved.opsOk, Nat.zero_add, Nat.reduceAdd, Nat.reduceEqDiff, reduceCtorEq, reduceIte]
        refine ⟨?_, ?_, ?_, ?_, ?_, ?_, ?_, ?_, ?_, ?_, ?_, ?_, ?_, ?_, trivial⟩
        · intro ρ w5 hc hff ho hB2 hj
          have x0 : ρ (.tmp 3) = v := ho 3 (by decide)
          simp [gives, go_sem, x0, Moved.Grow, Below.refl]
        · intro ρ w5 hc hff ho hB2 hj
          have x0 : ρ (.tmp 0) = .slice (some ⟨b, off, none⟩) N k1 := ho 0 (by decide)
          simp [gives, go_sem, x0, Moved.Grow, Below.refl]
        · intro ρ w5 hc hff ho hB2 hj
          have x0 : ρ (.tmp 4) = .int .i64 k := ho 4 (by decide)
          simp [gives, go_sem, x0, Moved.Grow, Below.refl]
        · intro ρ w5 hc hff ho hB2 hj
          have x0 : ρ (.tmp 12) = .slice (some ⟨b, off, none⟩) N k1 := hj (1, 12) (by simp)
          have x1 : ρ (.tmp 13) = .int .i64 k := hj (2, 13) (by simp)
          have i1 := HI.out
          simp [gives, go_sem, x0, x1, i1, Moved.Grow, Below.refl]
        · intro ρ w5 hc hff ho hB2 hj
          have x0 : ρ (.tmp 14) = .pointer (some ⟨b, off + k * 2, none⟩) := hj (3, 14) (by simp)
          simp [gives, go_sem, x0, Moved.Grow, Below.refl]
        · intro ρ w5 hc hff ho hB2 hj
          have x0 : ρ (.tmp 15) = .pointer (some ⟨b, off + k * 2, none⟩) := hj (4, 15) (by simp)
          have hb5 := RowC.keeps HW.out.1 HW.out.2 hB2
          have cc := (hb5.cell (p := ⟨b, off + k * 2, none⟩) hbl).trans c0
          simp [gives, go_sem, x0, cc, Moved.Grow, Below.refl]
        · intro ρ w5 hc hff ho hB2 hj
          have x0 : ρ (.tmp 0) = .slice (some ⟨b, off, none⟩) N k1 := ho 0 (by decide)
          simp [gives, go_sem, x0, Moved.Grow, Below.refl]
        · intro ρ w5 hc hff ho hB2 hj
          have x0 : ρ (.tmp 4) = .int .i64 k := ho 4 (by decide)
          simp [gives, go_sem, x0, Moved.Grow, Below.refl]
        · intro ρ w5 hc hff ho hB2 hj
          have x0 : ρ (.tmp 17) = .slice (some ⟨b, off, none⟩) N k1 := hj (6, 17) (by simp)
          have x1 : ρ (.tmp 18) = .int .i64 k := hj (7, 18) (by simp)
          have i1 := HI.out
          simp [gives, go_sem, x0, x1, i1, Moved.Grow, Below.refl]
        · intro ρ w5 hc hff ho hB2 hj
          have x0 : ρ (.tmp 19) = .pointer (some ⟨b, off + k * 2, none⟩) := hj (8, 19) (by simp)
          simp [gives, go_sem, x0, Moved.Grow, Below.refl]
        · intro ρ w5 hc hff ho hB2 hj
          have x0 : ρ (.tmp 20) = .pointer (some ⟨b, off + k * 2 + 1, none⟩) := hj (9, 20) (by simp)
          have hb5 := RowC.keeps HW.out.1 HW.out.2 hB2
          have cc := (hb5.cell (p := ⟨b, off + k * 2 + 1, none⟩) hbl).trans c1
          simp [gives, go_sem, x0, cc, Moved.Grow, Below.refl]
        · intro ρ w5 hc hff ho hB2 hj
          have x0 : ρ (.tmp 16) = .int .i64 x.1 := hj (5, 16) (by simp)
          have x1 : ρ (.tmp 21) = .int .i64 x.2 := hj (10, 21) (by simp)
          simp [gives, go_sem, x0, x1, Moved.Grow, Below.refl]
        · intro ρ w5 hc hff ho hB2 hj
          have x0 : ρ (.tmp 22) = .agg #[.int .i64 x.1, .int .i64 x.2] := hj (11, 22) (by simp)
          simp [gives, go_sem, x0, Moved.Grow]
          exact ⟨⟨hB2.size, BlkAt.new _ _ _⟩, (Below.refl _ _).alloc (Nat.le_refl _) _⟩
        · intro ρ w5 hc hff ho hB2 hj
          have x0 : ρ (.tmp 11) = v := hj (0, 11) (by simp)
          obtain ⟨C, x1, hCle, hFC⟩ := hj (12, 23) (by simp)
          dsimp only at x1
          refine gives_rowC (.tmp 11) (.tmp 23) 34 rfl w.heap.size 52 _ 16 prSl prSz rfl (by decide) v ps x0 prC_len prC_one (HW.out.2.below hB2) ⟨C, 0, none⟩ 1 1 [x] rfl x1 (one_at hFC) (by unfold maxLen; omega) (by omega) (by have := HW.out.1.size; have := hB2.size; omega) ?_
          intro v' w6 hown hg _
          exact ⟨hown, hg⟩
      case tRest =>
        intro x5 w5 hG hx5
        have y0 : x5 0 = v := hx5 0 (by decide)
        have y1 : x5 1 = .slice (some ⟨b, off, none⟩) N k1 := hx5 1 (by decide)
        have y2 : x5 2 = .int .i64 k := hx5 2 (by decide)
        have y3 : x5 3 = .pointer (some ⟨b, off + k * 2, none⟩) := hx5 3 (by decide)
        have y4 : x5 4 = .pointer (some ⟨b, off + k * 2, none⟩) := hx5 4 (by decide)
        have y5 : x5 5 = .int .i64 x.1 := hx5 5 (by decide)
        have y6 : x5 6 = .slice (some ⟨b, off, none⟩) N k1 := hx5 6 (by decide)
        have y7 : x5 7 = .int .i64 k := hx5 7 (by decide)
        have y8 : x5 8 = .pointer (some ⟨b, off + k * 2, none⟩) := hx5 8 (by decide)
        have y9 : x5 9 = .pointer (some ⟨b, off + k * 2 + 1, none⟩) := hx5 9 (by decide)
        have y10 : x5 10 = .int .i64 x.2 := hx5 10 (by decide)
        have y11 : x5 11 = .agg #[.int .i64 x.1, .int .i64 x.2] := hx5 11 (by decide)
        obtain ⟨C, y12, _, _⟩ := hx5 12 (by decide)
        have hr5 := hx5 13 (by decide)
        obtain ⟨v', hv'⟩ : ∃ v', x5 13 = v' := ⟨_, rfl⟩
        simp only [putAll, List.getD_cons_zero, List.getD_cons_succ, Act.put, List.setIfInBounds_toArray, List.set_cons_zero, List.set_cons_succ, List.drop_succ_cons, List.drop_zero]
        rw [hv'] at hr5
        rw [y0, y1, y2, y3, y4, y5, y6, y7, y8, y9, y10, y11, y12, hv']
        have HW5 := Lib.hid (And.intro (RowC.keeps HW.out.1 HW.out.2 hG) hr5)
        clear hx5 y0 y1 y2 y3 y4 y5 y6 y7 y8 y9 y10 y11 y12 hv' hr5 hG
        go_wp2_with fail
        refine Calm.intro ?_
        go_wp2_with fail
        go_roundg (N - (k + 1))
        case measure => have := HKQ.out; omega
        case rel =>
          refine ⟨k + 1, by omega, by go_num, v', rfl, HW5.out.1, ?_⟩
          rw [pr_take HX.out, HPS.out]
          exact HW5.out.2
    · obtain rfl : k = N := by omega
      have HR := Lib.hid (show SlP wr v pr by
        have := (HW.out.2.toSl prC_len).toP
        rwa [List.take_of_length_le (by rw [HN.out]; exact Nat.le_refl _)] at this)
      obtain ⟨av, cv, hv⟩ := HW.out.2.shape
      obtain ⟨M, hM⟩ : ∃ M, (pr.take k).length = M := ⟨_, rfl⟩
      rw [hM] at hv
      clear hM
      subst hv
      clear hlt hk
      go_wp2_with fail
      go_ret
      exact ⟨_, rfl, HR.out, HW.out.1⟩
end Go.Proofs.Ytmmcpmkkgembbaa
