
/-
  Layer 14's outlet: Drain (written by wip/tools/gen14p.py).
-/
import Derived.Test.YtfdkbaekohaaoaaOutDrop
namespace Go.Proofs.Ytfdkbaekohaaoaa
set_option maxRecDepth 20000
open Go.RowKit

theorem pDrain14_nil (n : Int) (w : World) : Calls Try.prog 8 #[.pointer none, .int .i64 n] w fun e w' => ∃ v, e = .returned v ∧ Sl .u8 w' v [] ∧ Below w.heap.size w w' := by
  go_enter Try.func8, Try.ntmps8
  go_wp2_with fail
  refine (pLen14_nil w).mono ?_
  rintro e w2 ⟨rfl, hb⟩
  have HB := Lib.hid hb
  clear hb
  go_wp2_with fail
  all_goals
    go_ret
    exact ⟨_, rfl, Sl.nil _ _, HB.out⟩
theorem drainN_none {n : Int} {r : Nat} (h : n < 1 ∨ r = 0) : drainN n r = 0 := by
  unfold drainN
  split
  · rfl
  · split <;> omega
set_option maxHeartbeats 4000000 in
theorem pDrain14_any (T : Nat) (O : Option Nat) (q : List Int) (n : Int) (w : World) (h : OutAt w T O q) (hq : q.length ≤ 10000000) : Calls Try.prog 8 #[.pointer (some ⟨T, 0, none⟩), .int .i64 n] w fun e w' =>
    ∃ v O', e = .returned v ∧ Sl .u8 w' v (q.take (drainN n q.length)) ∧ OutAt w' T O' (q.drop (drainN n q.length)) ∧ Turn (fun k => k = T ∨ O = some k) w w' ∧ (O' = O ∨ ∀ g, O' = some g → w.heap.size ≤ g) ∧ ∀ g, v.ownBlock = some g → w.heap.size ≤ g ∧ g < w'.heap.size ∧ O' ≠ some g := by
  have hlen := pLen14_any T O q w h (by omega)
  have h0 := h
  obtain ⟨cv, cs, went, ho, h3, h4, rfl⟩ := h
  obtain ⟨a, c, rfl, _⟩ := id ho.sl
  obtain ⟨r, hr⟩ : ∃ r, q.length = r := ⟨_, rfl⟩
  rw [hr] at hlen hq h4 ⊢
  by_cases hz : n < 1 ∨ r = 0
  · have HA := Lib.hid h0
    have HD := Lib.hid (drainN_none hz)
    clear h0 ho h3 h4 hr hq
    go_enter Try.func8, Try.ntmps8
    go_wp2_with fail
    refine hlen.mono ?_
    rintro e w2 ⟨rfl, hb⟩
    have HB := Lib.hid hb
    clear hb hlen
    have hz2 : n < 1 ∨ r < 1 := hz.imp_right (fun e => by omega)
    clear hz
    rcases hz2 with hz | hz
    all_goals go_wp2_with fail
    all_goals first | (exfalso; omega) | skip
    all_goals
      go_ret
      have h1 : Sl .u8 w2 (.slice none 0 0) (q.take (drainN n r)) := by rw [HD.out]; exact Sl.nil _ _
      have h2 := HA.out.turn (Turn.of_below HB.out (S := fun _ => False)) id (fun _ _ => id)
      rw [show q = q.drop (drainN n r) by rw [HD.out]; rfl] at h2
      have h3 : ∀ g, (Value.slice none 0 0).ownBlock = some g → w.heap.size ≤ g ∧ g < w2.heap.size ∧ (Value.slice a cs.length c).ownBlock ≠ some g := fun g hg => by cases hg
      first
      | exact ⟨_, _, rfl, h1, h2, Turn.of_below HB.out, .inl rfl, h3⟩
      | exact ⟨_, rfl, h1, _, h2, Turn.of_below HB.out, .inl rfl, h3⟩
  · obtain ⟨k, rfl⟩ : ∃ k : Nat, n = k := ⟨n.toNat, by omega⟩
    obtain ⟨d, hd⟩ : ∃ d, drainN (k : Int) r = d := ⟨_, rfl⟩
    have hd2 : d ≤ r ∧ 1 ≤ d ∧ (k ≤ r → d = k) ∧ (r ≤ k → d = r) := by
      unfold drainN at hd
      split at hd
      · omega
      · split at hd <;> omega
    rw [hd]
    obtain ⟨m, hm⟩ : ∃ m, went + d = m := ⟨_, rfl⟩
    have hle := ho.le
    have hcl : cs.length = went + r := by rw [← hr, ← h3, List.length_drop]; omega
    obtain ⟨vr, hrun, hvr⟩ := ho.sl.range Try.sliceD14 Try.sizeD14 (went : Int) (m : Int) (by omega) (by omega) (by omega)
    obtain ⟨zs, hzs⟩ : ∃ zs, q.take d = zs := ⟨_, rfl⟩
    rw [Int.toNat_natCast, Int.toNat_natCast, show (cs.take m).drop went = zs from by rw [List.drop_take, h3, ← hzs]; congr 1; omega] at hvr
    rw [hzs]
    obtain ⟨L, hL⟩ : ∃ L, cs.length = L := ⟨_, rfl⟩
    have HQ := Lib.hid (show cs.drop m = q.drop d ∧ went + d = m ∧ cs.length ≤ 20000000 ∧ m ≤ cs.length from ⟨by rw [← h3, List.drop_drop, hm], hm, by omega, by omega⟩)
    rw [hL] at ho hrun ⊢
    have hzl : zs.length = d := by rw [← hzs, List.length_take]; omega
    have HO := Lib.hid ho
    have HZ := Lib.hid (show zs.length = d ∧ zs.length ≤ 1000000000 from ⟨hzl, by omega⟩)
    clear hzs
    have HVr := Lib.hid (And.intro hrun hvr)
    have HM := Lib.hid (show ((went : Int) + (d : Int)) = (m : Int) ∧ IntKind.i64.wrap (m : Int) = (m : Int) from ⟨by omega, wrap_i64_small (by omega) (by omega)⟩)
    have hk1 : ¬ k < 1 := by omega
    have hr1 : ¬ r < 1 := by omega
    have hk2 : decide ((k : Int) < 1) = false := decide_eq_false (by omega)
    have hr2 : decide ((r : Int) < 1) = false := decide_eq_false (by omega)
    have hk0 : ¬ k = 0 := by omega
    have hr0 : ¬ r = 0 := by omega
    clear h0 ho h3 h4 hle hrun hvr hzl hd hm hr hz hcl hL
    go_enter Try.func8, Try.ntmps8
    go_wp2_with fail
    refine hlen.mono ?_
    rintro e w2 ⟨rfl, hb⟩
    have HB := Lib.hid hb
    clear hb hlen
    go_wp2_with fail
    all_goals first | (exfalso; omega) | skip
    case' inl h => rw [show (r : Int) = (d : Int) from by omega]
    case' inr h => rw [show (k : Int) = (d : Int) from by omega]
    all_goals
      have HO2 := Lib.hid (HO.out.below HB.out)
      have HT2 := Lib.hid (Turn.of_below HB.out (S := fun k => k = T ∨ (Value.slice a L c).ownBlock = some k))
      have HVf := Lib.hid (And.intro HVr.out.1 (HVr.out.2.below HB.out))
      have HSz := Lib.hid (And.intro HB.out.size HO.out.lt)
      generalize w2 = W2 at HO2 HT2 HVf HSz ⊢
      refine wp_region_table 16 [12, 13, 14, 15, 16, 17, 18, 19, 20, 21, 22, 23, 24, 25, 26, 27] [[], [(0, 12)], [(1, 13)], [(2, 14)], [], [(4, 16)], [(5, 17)], [(6, 18)], [], [(8, 20)], [(9, 21)], [(10, 22)], [], [(11, 23), (12, 24)], [(3, 15), (7, 19), (13, 25)], [(14, 26)]]
        (fun i v w' => match i with
          | 0 => v = .pointer (some ⟨T, 0, none⟩)
          | 1 => v = .pointer (some ⟨T, 0, none⟩)
          | 2 => v = .pointer (some ⟨T, 0, none⟩)
          | 3 => v = .slice a L c
          | 4 => v = .pointer (some ⟨T, 0, none⟩)
          | 5 => v = .pointer (some ⟨T, 0, none⟩)
          | 6 => v = .pointer (some ⟨T, 1, none⟩)
          | 7 => v = .int .i64 (went : Int)
          | 8 => v = .pointer (some ⟨T, 0, none⟩)
          | 9 => v = .pointer (some ⟨T, 0, none⟩)
          | 10 => v = .pointer (some ⟨T, 1, none⟩)
          | 11 => v = .int .i64 (went : Int)
          | 12 => v = .int .i64 (d : Int)
          | 13 => v = .int .i64 (m : Int)
          | 14 => Sl .u8 w' v zs
          | 15 => Cln W2.heap.size zs v w'
          | _ => True) (by kernel_rfl) (by kernel_rfl) ?tStab ?tOps ?tRest
      case tStab =>
        intro i v w3 w4 h hb
        match i, h with
        | 0, h | 1, h | 2, h | 3, h | 4, h | 5, h | 6, h | 7, h | 8, h | 9, h | 10, h | 11, h | 12, h | 13, h => exact h
        | 14, h => exact Sl.below h hb
        | 15, h => exact Cln.below h hb
        | i + 16, _ => trivial
      case tOps =>
        simp only [List.take_succ_cons, List.take_zero, opsOk]
        refine ⟨?_, ?_, ?_, ?_, ?_, ?_, ?_, ?_, ?_, ?_, ?_, ?_, ?_, ?_, ?_, ?_, trivial⟩
        · intro ρ w3 hc hf ho hB hj
          have x0 : ρ (.tmp 0) = .pointer (some ⟨T, 0, none⟩) := ho 0 (by decide)
          simp [gives, go_sem, x0, Below.refl]
        · intro ρ w3 hc hf ho hB hj
          have x0 : ρ (.tmp 12) = .pointer (some ⟨T, 0, none⟩) := hj (0, 12) (by simp)
          simp [gives, go_sem, x0, Below.refl]
        · intro ρ w3 hc hf ho hB hj
          have x0 : ρ (.tmp 13) = .pointer (some ⟨T, 0, none⟩) := hj (1, 13) (by simp)
          simp [gives, go_sem, x0, Below.refl]
        · intro ρ w3 hc hf ho hB hj
          have x0 : ρ (.tmp 14) = .pointer (some ⟨T, 0, none⟩) := hj (2, 14) (by simp)
          obtain ⟨f0, f1, f2⟩ := (HO2.out.below hB).blk.cells
          simp [gives, go_sem, x0, f0, Below.refl]
        · intro ρ w3 hc hf ho hB hj
          have x0 : ρ (.tmp 0) = .pointer (some ⟨T, 0, none⟩) := ho 0 (by decide)
          simp [gives, go_sem, x0, Below.refl]
        · intro ρ w3 hc hf ho hB hj
          have x0 : ρ (.tmp 16) = .pointer (some ⟨T, 0, none⟩) := hj (4, 16) (by simp)
          simp [gives, go_sem, x0, Below.refl]
        · intro ρ w3 hc hf ho hB hj
          have x0 : ρ (.tmp 17) = .pointer (some ⟨T, 0, none⟩) := hj (5, 17) (by simp)
          simp [gives, go_sem, x0, Below.refl]
        · intro ρ w3 hc hf ho hB hj
          have x0 : ρ (.tmp 18) = .pointer (some ⟨T, 1, none⟩) := hj (6, 18) (by simp)
          obtain ⟨f0, f1, f2⟩ := (HO2.out.below hB).blk.cells
          simp [gives, go_sem, x0, f1, Below.refl]
        · intro ρ w3 hc hf ho hB hj
          have x0 : ρ (.tmp 0) = .pointer (some ⟨T, 0, none⟩) := ho 0 (by decide)
          simp [gives, go_sem, x0, Below.refl]
        · intro ρ w3 hc hf ho hB hj
          have x0 : ρ (.tmp 20) = .pointer (some ⟨T, 0, none⟩) := hj (8, 20) (by simp)
          simp [gives, go_sem, x0, Below.refl]
        · intro ρ w3 hc hf ho hB hj
          have x0 : ρ (.tmp 21) = .pointer (some ⟨T, 0, none⟩) := hj (9, 21) (by simp)
          simp [gives, go_sem, x0, Below.refl]
        · intro ρ w3 hc hf ho hB hj
          have x0 : ρ (.tmp 22) = .pointer (some ⟨T, 1, none⟩) := hj (10, 22) (by simp)
          obtain ⟨f0, f1, f2⟩ := (HO2.out.below hB).blk.cells
          simp [gives, go_sem, x0, f1, Below.refl]
        · intro ρ w3 hc hf ho hB hj
          have x0 : ρ (.tmp 1) = .int .i64 (d : Int) := ho 1 (by decide)
          simp [gives, go_sem, x0, Below.refl]
        · intro ρ w3 hc hf ho hB hj
          have x0 : ρ (.tmp 23) = .int .i64 (went : Int) := hj (11, 23) (by simp)
          have x1 : ρ (.tmp 24) = .int .i64 (d : Int) := hj (12, 24) (by simp)
          have i1 := HM.out.1
          have i2 := HM.out.2
          simp [gives, go_sem, x0, x1, i1, i2, Below.refl]
        · intro ρ w3 hc hf ho hB hj
          have x0 : ρ (.tmp 15) = .slice a L c := hj (3, 15) (by simp)
          have x1 : ρ (.tmp 19) = .int .i64 (went : Int) := hj (7, 19) (by simp)
          have x2 : ρ (.tmp 25) = .int .i64 (m : Int) := hj (13, 25) (by simp)
          have i1 := HVf.out.1 .i64 .i64
          simp [gives, go_sem, x0, x1, x2, i1]
          exact ⟨HVf.out.2.below hB, Below.refl _ _⟩
        · intro ρ w3 hc hf ho hB hj
          have x0 : Sl .u8 w3 (ρ (.tmp 26)) zs := hj (14, 26) (by simp)
          obtain ⟨gv, hgv⟩ : ∃ gv, ρ (.tmp 26) = gv := ⟨_, rfl⟩
          rw [hgv] at x0
          simp [gives, go_sem, hf, hgv]
          exact (clone14_any _ zs w3 x0 HZ.out.2).mono fun e w' ⟨v, h1, h2, h3⟩ => ⟨v, h1, h2.mono hB.size, h3⟩
      case tRest =>
        intro X w3 hBw hX
        have x0 : X 0 = .pointer (some ⟨T, 0, none⟩) := hX 0 (by decide)
        have x1 : X 1 = .pointer (some ⟨T, 0, none⟩) := hX 1 (by decide)
        have x2 : X 2 = .pointer (some ⟨T, 0, none⟩) := hX 2 (by decide)
        have x3 : X 3 = .slice a L c := hX 3 (by decide)
        have x4 : X 4 = .pointer (some ⟨T, 0, none⟩) := hX 4 (by decide)
        have x5 : X 5 = .pointer (some ⟨T, 0, none⟩) := hX 5 (by decide)
        have x6 : X 6 = .pointer (some ⟨T, 1, none⟩) := hX 6 (by decide)
        have x7 : X 7 = .int .i64 (went : Int) := hX 7 (by decide)
        have x8 : X 8 = .pointer (some ⟨T, 0, none⟩) := hX 8 (by decide)
        have x9 : X 9 = .pointer (some ⟨T, 0, none⟩) := hX 9 (by decide)
        have x10 : X 10 = .pointer (some ⟨T, 1, none⟩) := hX 10 (by decide)
        have x11 : X 11 = .int .i64 (went : Int) := hX 11 (by decide)
        have x12 : X 12 = .int .i64 (d : Int) := hX 12 (by decide)
        have x13 : X 13 = .int .i64 (m : Int) := hX 13 (by decide)
        have x14 := hX 14 (by decide)
        have x15 := hX 15 (by decide)
        simp only [putAll, List.getD_cons_zero, List.getD_cons_succ, Act.put, List.setIfInBounds_toArray, List.set_cons_zero, List.set_cons_succ, List.drop_succ_cons, List.drop_zero]
        rw [x0, x1, x2, x3, x4, x5, x6, x7, x8, x9, x10, x11, x12, x13]
        obtain ⟨hc1, hc2⟩ := x15
        obtain ⟨ac, cc, e15, _⟩ := id hc2
        rw [e15] at hc1 hc2 ⊢
        have HC := Lib.hid (And.intro hc1 hc2)
        have HW4 := Lib.hid (HO2.out.below hBw)
        have HT4 := Lib.hid (HT2.out.trans (Turn.of_below hBw))
        have HS4 := Lib.hid hBw.size
        clear hBw hX hc1 hc2 x0 x1 x2 x3 x4 x5 x6 x7 x8 x9 x10 x11 x12 x13 x14 e15
        go_wp2_with fail
        refine (drop14_any w3 d HW4.out (by rw [HQ.out.2.1]; exact HQ.out.2.2.2) HQ.out.2.2.1).mono ?_
        rintro e w5 ⟨rfl, cv', cs', went', h1, h2, h3, h4, h5⟩
        have HE := Lib.hid (And.intro h1 (And.intro h2 (And.intro h3 (And.intro h4 h5))))
        clear h1 h2 h3 h4 h5
        go_wp2_with fail
        go_ret
        obtain ⟨h1, h2, h3, h4, h5⟩ := HE.out
        obtain ⟨hc1, hc2⟩ := HC.out
        rw [HQ.out.2.1, HQ.out.1] at h2 h3
        have hTs := HSz.out.1
        have hTl := HO.out.blk.lt
        have hne : ∀ g, (Value.slice ac zs.length cc).ownBlock = some g → ¬ g = T := fun g hg => by have := (hc1.lt g hg).1; omega
        have r1 := hc2.turn h5 hne
        have r2 : OutAt w5 T cv'.ownBlock (q.drop d) := ⟨cv', cs', went', h1, h2, h3, rfl⟩
        have r3 := HT4.out.trans' h5 (fun k _ hk => .inl hk)
        have hs4 := HS4.out
        have r4 : cv'.ownBlock = (Value.slice a L c).ownBlock ∨ ∀ g, cv'.ownBlock = some g → w.heap.size ≤ g := h4.imp_right (fun e g hg => by have := e g hg; omega)
        have r5 : ∀ g, (Value.slice ac zs.length cc).ownBlock = some g → w.heap.size ≤ g ∧ g < w5.heap.size ∧ cv'.ownBlock ≠ some g := fun g hg => by
          have hl := hc1.lt g hg
          refine ⟨by omega, Nat.lt_of_lt_of_le hl.2 h5.size, fun e => ?_⟩
          rcases h4 with h4 | h4
          · have := HSz.out.2 g (h4 ▸ e); omega
          · have := h4 g e; omega
        first
        | exact ⟨_, _, rfl, r1, r2, r3, r4, r5⟩
        | exact ⟨_, rfl, r1, _, r2, r3, r4, r5⟩
end Go.Proofs.Ytfdkbaekohaaoaa
