
/-
  Layer 17's program: New, Open, Close, Kind, Highest, Active, Late; a nil table.
-/
import Derived.Test.YtcompnndnelamaaStrmTab2
import Derived.Test.YtcompnndnelamaaStrmObj
import Derived.Test.YtcompnndnelamaaSorted
import Derived.Test.YtcompnndnelamaaQuiet
namespace Go.Proofs.Ytcompnndnelamaa
set_option maxRecDepth 20000
open Go.RowKit Go.Maps

/-- the program's table: its blocks are B -/
def TbAt (W : World) (T : Nat) (B : Nat → Prop) (s : St17) : Prop := ∃ M v, TbO W T M v s ∧ Good17 s ∧ ∀ g, B g ↔ (g = T ∨ g = M ∨ v.ownBlock = some g)
theorem TbAt.lt {W : World} {T : Nat} {B : Nat → Prop} {s : St17} (h : TbAt W T B s) : ∀ g, B g → g < W.heap.size := fun g hg => by
  obtain ⟨M, v, h1, _, h3⟩ := h
  rcases (h3 g).1 hg with rfl | rfl | e
  · exact h1.blk.lt
  · exact h1.map.lt
  · exact h1.vlt g e
theorem TbAt.turn {W W' : World} {T : Nat} {B S : Nat → Prop} {s : St17} (h : TbAt W T B s) (ht : Turn S W W') (h0 : ∀ g, B g → ¬ S g) : TbAt W' T B s := by
  obtain ⟨M, v, h1, h2, h3⟩ := h
  exact ⟨M, v, h1.turn ht (h0 _ ((h3 _).2 (.inl rfl))) (h0 _ ((h3 _).2 (.inr (.inl rfl)))) (fun g hg => h0 _ ((h3 _).2 (.inr (.inr hg)))), h2, h3⟩
theorem TbAt.small {W : World} {T : Nat} {B : Nat → Prop} {s : St17} (h : TbAt W T B s) : s.A.length ≤ 100 ∧ s.L.length ≤ 100 := by
  obtain ⟨M, v, _, h2, _⟩ := h
  exact h2.small
theorem TbAt.mk' {w w' : World} {T M : Nat} {v v' : Value} {B : Nat → Prop} {s : St17} (hB : ∀ g, B g ↔ (g = T ∨ g = M ∨ v.ownBlock = some g)) (h : TbO w' T M v' s) (hg : Good17 s) (hf : FromW w v v') : ∃ B', TbAt w' T B' s ∧ ∀ g, B' g → B g ∨ w.heap.size ≤ g :=
  ⟨fun g => g = T ∨ g = M ∨ v'.ownBlock = some g, ⟨M, v', h, hg, fun _ => Iff.rfl⟩, fun g hb => by
    rcases hb with e | e | e
    · exact .inl ((hB g).2 (.inl e))
    · exact .inl ((hB g).2 (.inr (.inl e)))
    · exact (hf g e).imp_left (fun e => (hB g).2 (.inr (.inr e)))⟩

theorem mapT17 : Try.prog.underlying 48 = some (.map 3 4) := by kernel_rfl
theorem intT17 : Try.prog.underlying 3 = some (.int .i64) := by kernel_rfl
theorem boolT17 : Try.prog.underlying 4 = some .bool := by kernel_rfl
theorem zeroB17 (w : World) : (zeroValue 4).run Try.prog w = .ok (.bool false) w := by kernel_rfl
theorem TbO.look {W : World} {T M : Nat} {v : Value} {s : St17} (h : TbO W T M v s) (hg : Good17 s) (n : Int) : (Instr.lookup 48 (.map (some M)) (.int .i64 n) false).run Try.prog W = .ok (.bool (decide (n ∈ s.A))) W :=
  h.map.look intT17 boolT17 mapT17 (zeroB17 W) hg.fitA n
theorem TbO.len {W : World} {T M : Nat} {v : Value} {s : St17} (h : TbO W T M v s) (ty : TypeId) : (Builtin.len_ #[48] ty #[.map (some M)]).run Try.prog W = .ok (.int .i64 s.A.length) W := h.map.len mapT17 ty

set_option maxHeartbeats 1000000 in
theorem pNew17_yes (most mem : Int) (w : World) (h : 0 ≤ most ∧ most ≤ 100 ∧ 0 ≤ mem ∧ mem ≤ 100) : Calls Try.prog 6 #[.int .i64 most, .int .i64 mem] w fun e w' => ∃ T B, e = .returned (.tuple #[.pointer (some ⟨T, 0, none⟩), .int .i64 0]) ∧ TbAt w' T B (St17.new most mem) ∧ (∀ g, B g → w.heap.size ≤ g) ∧ Below w.heap.size w w' := by
  have HI := Lib.hid (And.intro (inB_yes (n := most) (a := 0) (b := 100) (by omega)) (inB_yes (n := mem) (a := 0) (b := 100) (by omega)))
  have HG := Lib.hid (Good17.new h)
  have hmm := @run_makeMap Try.prog
  clear h
  go_enter Try.func6, Try.ntmps6
  go_wp2_with fail
  refine (in17_any _ _ _ _).mono ?_
  rintro e w1 ⟨rfl, rfl⟩
  rw [HI.out.1]
  go_wp2_with fail
  refine (in17_any _ _ _ _).mono ?_
  rintro e w2 ⟨rfl, rfl⟩
  rw [HI.out.2]
  go_wp2_with fail
  go_ret2
  have hb1 : Below w2.heap.size w2 (w2.alloc (.map #[] 0)) := (Below.refl _ _).alloc (Nat.le_refl _) _
  have hb2 : Below (w2.alloc (.map #[] 0)).heap.size (w2.alloc (.map #[] 0)) ((w2.alloc (.map #[] 0)).alloc (.cells #[.int .i64 most, .int .i64 0, .map (some w2.heap.size), .int .i64 mem, .slice none 0 0] 52)) := (Below.refl _ _).alloc (Nat.le_refl _) _
  have hmp := (MpA.nil (P := Try.prog) (k := 3) (e := 4) w2)
  refine ⟨(w2.alloc (.map #[] 0)).heap.size, _, by simp, ⟨w2.heap.size, .slice none 0 0, ⟨heap_alloc_new _ _, hmp.block (hb2.block _ hmp.lt), World.ownsRow_nil _ _ _ _⟩, HG.out, fun _ => Iff.rfl⟩, fun g hg => ?_, hb1.trans (hb2.mono hb1.size)⟩
  rcases hg with rfl | rfl | e
  · exact hb1.size
  · exact Nat.le_refl _
  · cases e
theorem pNew17_no (most mem : Int) (w : World) (h : ¬ (0 ≤ most ∧ most ≤ 100 ∧ 0 ≤ mem ∧ mem ≤ 100)) : Calls Try.prog 6 #[.int .i64 most, .int .i64 mem] w fun e w' => e = .returned (.tuple #[.pointer none, .int .i64 1]) ∧ Below w.heap.size w w' := by
  by_cases h1 : 0 ≤ most ∧ most ≤ 100
  · have HI := Lib.hid (And.intro (inB_yes h1) (inB_no (n := mem) (a := 0) (b := 100) (by omega)))
    clear h h1
    go_enter Try.func6, Try.ntmps6
    go_wp2_with fail
    refine (in17_any _ _ _ _).mono ?_
    rintro e w1 ⟨rfl, rfl⟩
    rw [HI.out.1]
    go_wp2_with fail
    refine (in17_any _ _ _ _).mono ?_
    rintro e w2 ⟨rfl, rfl⟩
    rw [HI.out.2]
    go_wp2_with fail
    go_ret2
    exact ⟨rfl, Below.refl _ _⟩
  · have HI := Lib.hid (inB_no h1)
    clear h h1
    go_enter Try.func6, Try.ntmps6
    go_wp2_with fail
    refine (in17_any _ _ _ _).mono ?_
    rintro e w1 ⟨rfl, rfl⟩
    rw [HI.out]
    go_wp2_with fail
    go_ret2
    exact ⟨rfl, Below.refl _ _⟩

theorem oddB_bad {n : Int} (h : badId n) : oddB n 2147483647 = false := decide_eq_false (by unfold badId at h; omega)
theorem oddB_ok {n : Int} (h : ¬ badId n) : oddB n 2147483647 = true := decide_eq_true (by unfold badId at h; omega)
set_option maxHeartbeats 2000000 in
theorem pOpen17 (T : Nat) (B : Nat → Prop) (s : St17) (n : Int) (w : World) (h : TbAt w T B s) : Calls Try.prog 8 #[.pointer (some ⟨T, 0, none⟩), .int .i64 n] w fun e w' => ∃ B', e = .returned (.int .i64 (openE s n)) ∧ TbAt w' T B' (openS s n) ∧ Turn B w w' ∧ ∀ g, B' g → B g ∨ w.heap.size ≤ g := by
  obtain ⟨M, v, h, hg, hB⟩ := h
  obtain ⟨f0, f1, f2, f3, f4, f5⟩ := h.blk.cells
  have HH := Lib.hid h
  have HG := Lib.hid hg
  have HB := Lib.hid hB
  by_cases hb : badId n
  · have HE := Lib.hid (show openE s n = 1 ∧ openS s n = s from ⟨if_pos hb, if_pos hb⟩)
    have HO := Lib.hid (oddB_bad hb)
    clear h hb hg hB
    go_enter Try.func8, Try.ntmps8
    go_wp2_with fail
    refine (odd17_any n 2147483647 w).mono ?_
    rintro e w1 ⟨rfl, rfl⟩
    rw [HO.out]
    go_wp2_with fail
    go_ret
    exact ⟨B, by rw [HE.out.1]; rfl, by rw [HE.out.2]; exact ⟨M, v, HH.out, HG.out, HB.out⟩, Turn.of_below (Below.refl _ _), fun _ => .inl⟩
  · have HO := Lib.hid (oddB_ok hb)
    have HD := Lib.hid (badId_wf hb)
    by_cases hle : n ≤ s.hi
    · have HE := Lib.hid (show openE s n = 6 ∧ openS s n = s from ⟨by unfold openE; rw [if_neg hb, if_pos hle], by unfold openS; rw [if_neg hb, if_pos hle]⟩)
      have d3 : decide (n ≤ s.hi) = true := decide_eq_true hle
      clear h hb hle hg hB
      go_enter Try.func8, Try.ntmps8
      go_wp2_with fail
      refine (odd17_any n 2147483647 w).mono ?_
      rintro e w1 ⟨rfl, rfl⟩
      rw [HO.out]
      go_wp2_with fail
      go_ret
      exact ⟨B, by rw [HE.out.1]; rfl, by rw [HE.out.2]; exact ⟨M, v, HH.out, HG.out, HB.out⟩, Turn.of_below (Below.refl _ _), fun _ => .inl⟩
    · have d3 : decide (n ≤ s.hi) = false := decide_eq_false hle
      have g1 := h.blk.free 1
      have HHi := Lib.hid (show TbO (w.setCell ⟨T, 1, none⟩ (.int .i64 n)) T M v { s with hi := n } ∧ Turn (fun k => k = T) w (w.setCell ⟨T, 1, none⟩ (.int .i64 n)) from ⟨h.setHi n, turn_set17 _ _ _⟩)
      have HGn := Lib.hid (hg.open n)
      by_cases hm : s.most ≤ (s.A.length : Int)
      · have HE := Lib.hid (show openE s n = 4 ∧ openS s n = lateT { s with hi := n } n from ⟨by unfold openE; rw [if_neg hb, if_neg hle, if_pos hm], by unfold openS; rw [if_neg hb, if_neg hle, if_pos hm]⟩)
        have d4 : ((s.A.length : Int) == s.most) = true := by rw [beq_iff_eq]; have := hg.na; omega
        clear h hb hle hm hg hB
        go_enter Try.func8, Try.ntmps8
        go_wp2_with fail
        refine (odd17_any n 2147483647 w).mono ?_
        rintro e w1 ⟨rfl, rfl⟩
        rw [HO.out]
        go_wp2_with fail
        generalize w1.setCell ⟨T, 1, none⟩ (.int .i64 n) = w2 at HHi ⊢
        clear f0 f1 f2 f3 f4 f5 g1 d3
        obtain ⟨f0, f1, f2, f3, f4, f5⟩ := HHi.out.1.blk.cells
        refine wp_region_quiet (C := fun w' => Below w2.heap.size w2 w') (by kernel_rfl) (by kernel_rfl) (Below.refl _ _).drew ?_
        refine quiet_take (.pointer (some ⟨T, 0, none⟩)) rfl (quiet_pure (fun w => rfl)) ?_
        simp only [Act.put, List.setIfInBounds_toArray, List.set_cons_zero, List.set_cons_succ]
        refine quiet_take (.pointer (some ⟨T, 0, none⟩)) rfl (quiet_pure (fun w => by simp [go_sem])) ?_
        simp only [Act.put, List.setIfInBounds_toArray, List.set_cons_zero, List.set_cons_succ]
        refine quiet_take (.pointer (some ⟨T, 2, none⟩)) rfl (quiet_pure (fun w => by simp [go_sem])) ?_
        simp only [Act.put, List.setIfInBounds_toArray, List.set_cons_zero, List.set_cons_succ]
        refine quiet_take (.map (some M)) rfl (quiet_is (fun w hw => by have q := (HHi.out.1.below hw).blk.cells.2.2.1; simp [go_sem, q])) ?_
        simp only [Act.put, List.setIfInBounds_toArray, List.set_cons_zero, List.set_cons_succ]
        refine quiet_take (.int .i64 s.A.length) rfl (quiet_is (fun w hw => by have q := (HHi.out.1.below hw).len; dsimp only at q; simp [execOp, resolve, invoke, builtin, Act.eval, q, Result.andThen])) ?_
        simp only [Act.put, List.setIfInBounds_toArray, List.set_cons_zero, List.set_cons_succ]
        refine quiet_take (.pointer (some ⟨T, 0, none⟩)) rfl (quiet_pure (fun w => rfl)) ?_
        simp only [Act.put, List.setIfInBounds_toArray, List.set_cons_zero, List.set_cons_succ]
        refine quiet_take (.pointer (some ⟨T, 0, none⟩)) rfl (quiet_pure (fun w => by simp [go_sem])) ?_
        simp only [Act.put, List.setIfInBounds_toArray, List.set_cons_zero, List.set_cons_succ]
        refine quiet_take (.pointer (some ⟨T, 0, none⟩)) rfl (quiet_pure (fun w => by simp [go_sem])) ?_
        simp only [Act.put, List.setIfInBounds_toArray, List.set_cons_zero, List.set_cons_succ]
        refine quiet_take (.int .i64 s.most) rfl (quiet_is (fun w hw => by have q := (HHi.out.1.below hw).blk.cells.1; dsimp only at q; simp [go_sem, q])) ?_
        simp only [Act.put, List.setIfInBounds_toArray, List.set_cons_zero, List.set_cons_succ]
        refine quiet_take (.bool true) rfl (quiet_pure (fun w => by simp [go_sem, d4])) ?_
        simp only [Act.put, List.setIfInBounds_toArray, List.set_cons_zero, List.set_cons_succ]
        refine wpQuiet_nil fun w3 hw3 => ?_
        have HW := Lib.hid (show TbO w3 T M v { s with hi := n } ∧ Turn (fun k => k = T) w1 w3 from ⟨HHi.out.1.below hw3, HHi.out.2.trans (Turn.of_below hw3)⟩)
        clear f0 f1 f2 f3 f4 f5
        go_wp2_with fail
        refine (remember17_any T M v { s with hi := n } n w3 HW.out.1 HD.out.1 (by have := HG.out.small; show s.L.length ≤ 1000; omega)).mono ?_
        rintro e w4 ⟨rfl, v', h1, h2, h3⟩
        have HX := Lib.hid (And.intro h1 (And.intro h2 h3))
        clear h1 h2 h3
        go_wp2_with fail
        go_ret
        obtain ⟨h1, h2, h3⟩ := HX.out
        rw [HE.out.2] at HGn
        obtain ⟨B', hB1, hB2⟩ := TbAt.mk' HB.out h1 HGn.out (fun g hg => (h3 g hg).imp_right (Nat.le_trans HW.out.2.size))
        exact ⟨B', by rw [HE.out.1]; rfl, by rw [HE.out.2]; exact hB1, (HW.out.2.mono (fun k _ e => (HB.out k).2 (.inl e))).trans' h2 (fun k _ e => (HB.out k).2 (e.imp_right .inr)), hB2⟩
      · have HE := Lib.hid (show openE s n = 0 ∧ openS s n = { s with hi := n, A := s.A ++ [n] } from ⟨by unfold openE; rw [if_neg hb, if_neg hle, if_neg hm], by unfold openS; rw [if_neg hb, if_neg hle, if_neg hm]⟩)
        have d4 : ((s.A.length : Int) == s.most) = false := by rw [beq_eq_false_iff_ne]; omega
        have HA := Lib.hid (show ∀ x ∈ s.A, x < n from fun x hx => by have := hg.a x hx; omega)
        clear h hb hle hm hg hB
        go_enter Try.func8, Try.ntmps8
        go_wp2_with fail
        refine (odd17_any n 2147483647 w).mono ?_
        rintro e w1 ⟨rfl, rfl⟩
        rw [HO.out]
        go_wp2_with fail
        generalize w1.setCell ⟨T, 1, none⟩ (.int .i64 n) = w2 at HHi ⊢
        clear f0 f1 f2 f3 f4 f5 g1 d3
        obtain ⟨f0, f1, f2, f3, f4, f5⟩ := HHi.out.1.blk.cells
        refine wp_region_quiet (C := fun w' => Below w2.heap.size w2 w') (by kernel_rfl) (by kernel_rfl) (Below.refl _ _).drew ?_
        refine quiet_take (.pointer (some ⟨T, 0, none⟩)) rfl (quiet_pure (fun w => rfl)) ?_
        simp only [Act.put, List.setIfInBounds_toArray, List.set_cons_zero, List.set_cons_succ]
        refine quiet_take (.pointer (some ⟨T, 0, none⟩)) rfl (quiet_pure (fun w => by simp [go_sem])) ?_
        simp only [Act.put, List.setIfInBounds_toArray, List.set_cons_zero, List.set_cons_succ]
        refine quiet_take (.pointer (some ⟨T, 2, none⟩)) rfl (quiet_pure (fun w => by simp [go_sem])) ?_
        simp only [Act.put, List.setIfInBounds_toArray, List.set_cons_zero, List.set_cons_succ]
        refine quiet_take (.map (some M)) rfl (quiet_is (fun w hw => by have q := (HHi.out.1.below hw).blk.cells.2.2.1; simp [go_sem, q])) ?_
        simp only [Act.put, List.setIfInBounds_toArray, List.set_cons_zero, List.set_cons_succ]
        refine quiet_take (.int .i64 s.A.length) rfl (quiet_is (fun w hw => by have q := (HHi.out.1.below hw).len; dsimp only at q; simp [execOp, resolve, invoke, builtin, Act.eval, q, Result.andThen])) ?_
        simp only [Act.put, List.setIfInBounds_toArray, List.set_cons_zero, List.set_cons_succ]
        refine quiet_take (.pointer (some ⟨T, 0, none⟩)) rfl (quiet_pure (fun w => rfl)) ?_
        simp only [Act.put, List.setIfInBounds_toArray, List.set_cons_zero, List.set_cons_succ]
        refine quiet_take (.pointer (some ⟨T, 0, none⟩)) rfl (quiet_pure (fun w => by simp [go_sem])) ?_
        simp only [Act.put, List.setIfInBounds_toArray, List.set_cons_zero, List.set_cons_succ]
        refine quiet_take (.pointer (some ⟨T, 0, none⟩)) rfl (quiet_pure (fun w => by simp [go_sem])) ?_
        simp only [Act.put, List.setIfInBounds_toArray, List.set_cons_zero, List.set_cons_succ]
        refine quiet_take (.int .i64 s.most) rfl (quiet_is (fun w hw => by have q := (HHi.out.1.below hw).blk.cells.1; dsimp only at q; simp [go_sem, q])) ?_
        simp only [Act.put, List.setIfInBounds_toArray, List.set_cons_zero, List.set_cons_succ]
        refine quiet_take (.bool false) rfl (quiet_pure (fun w => by simp [go_sem, d4])) ?_
        simp only [Act.put, List.setIfInBounds_toArray, List.set_cons_zero, List.set_cons_succ]
        refine wpQuiet_nil fun w3 hw3 => ?_
        have HW := Lib.hid (show TbO w3 T M v { s with hi := n } ∧ Turn (fun k => k = T) w1 w3 from ⟨HHi.out.1.below hw3, HHi.out.2.trans (Turn.of_below hw3)⟩)
        clear f0 f1 f2 f3 f4 f5
        obtain ⟨f0, f1, f2, f3, f4, f5⟩ := HW.out.1.blk.cells
        obtain ⟨w4, hst, hm4, hg4⟩ := HW.out.1.map.store intT17 boolT17 mapT17 HD.out.1 HA.out (by have := HG.out.small; show s.A.length < maxLen; unfold maxLen; omega)
        have HX := Lib.hid (And.intro hm4 (Turn.of_grown hg4))
        clear hm4 hg4 f0 f1 f3 f4
        go_wp2_with fail
        go_ret
        obtain ⟨h1, h2⟩ := HX.out
        rw [HE.out.2] at HGn
        have ho : TbO w4 T M v { s with hi := n, A := s.A ++ [n] } := ⟨h2.obj HW.out.1.blk (fun e => HW.out.1.nM e.symm), h1, owned_turn HW.out.1.row h2 HW.out.1.nV⟩
        obtain ⟨B', hB1, hB2⟩ := TbAt.mk' (w := w1) HB.out ho HGn.out (fun g hg => .inl hg)
        exact ⟨by rw [HE.out.1]; rfl, B', by rw [HE.out.2]; exact hB1, (HW.out.2.mono (fun k _ e => (HB.out k).2 (.inl e))).trans (h2.mono (fun k _ e => (HB.out k).2 (.inr (.inl e)))), hB2⟩
set_option maxHeartbeats 2000000 in
theorem pClose17 (T : Nat) (B : Nat → Prop) (s : St17) (n : Int) (late : Bool) (w : World) (h : TbAt w T B s) : Calls Try.prog 10 #[.pointer (some ⟨T, 0, none⟩), .int .i64 n, .bool late] w fun e w' => ∃ B', e = .returned (.int .i64 (closeE s n)) ∧ TbAt w' T B' (closeS s n late) ∧ Turn B w w' ∧ ∀ g, B' g → B g ∨ w.heap.size ≤ g := by
  obtain ⟨M, v, h, hg, hB⟩ := h
  obtain ⟨f0, f1, f2, f3, f4, f5⟩ := h.blk.cells
  have HH := Lib.hid h
  have HG := Lib.hid hg
  have HB := Lib.hid hB
  have hlk := h.look hg n
  by_cases hm : n ∈ s.A
  · have hwf : (Lit.int .i64 n).wf = true := hg.fitA n hm
    rw [decide_eq_true hm] at hlk
    have HE := Lib.hid (show closeE s n = 0 ∧ closeS s n late = if late = true then lateT { s with A := woutL s.A n } n else { s with A := woutL s.A n } from ⟨if_pos hm, if_pos hm⟩)
    have HGn := Lib.hid (hg.close n late)
    have HW := Lib.hid hwf
    obtain ⟨w2, hdel, hm2, hg2⟩ := h.map.drop (t := 48) intT17 mapT17 hwf 0
    have ht2 := Turn.of_grown hg2
    have ho : TbO w2 T M v { s with A := woutL s.A n } := ⟨ht2.obj h.blk (fun e => h.nM e.symm), hm2, owned_turn h.row ht2 h.nV⟩
    have HO := Lib.hid (And.intro ho ht2)
    clear h hg hB hm hwf hm2 hg2 ht2 ho
    rw [HE.out.2] at HGn
    cases late
    · go_enter Try.func10, Try.ntmps10
      go_wp2_with fail
      go_ret
      obtain ⟨h1, h2⟩ := HO.out
      obtain ⟨B', hB1, hB2⟩ := TbAt.mk' (w := w) HB.out h1 HGn.out (fun g hg => .inl hg)
      exact ⟨B', by rw [HE.out.1]; rfl, by rw [HE.out.2]; exact hB1, h2.mono (fun k _ e => (HB.out k).2 (.inr (.inl e))), hB2⟩
    · go_enter Try.func10, Try.ntmps10
      go_wp2_with fail
      refine (remember17_any T M v { s with A := woutL s.A n } n w2 HO.out.1 HW.out (by have := HG.out.small; show s.L.length ≤ 1000; omega)).mono ?_
      rintro e w4 ⟨rfl, v', h1, h2, h3⟩
      have HX := Lib.hid (And.intro h1 (And.intro h2 h3))
      clear h1 h2 h3
      go_wp2_with fail
      go_ret
      obtain ⟨h1, h2, h3⟩ := HX.out
      obtain ⟨B', hB1, hB2⟩ := TbAt.mk' HB.out h1 HGn.out (fun g hg => (h3 g hg).imp_right (Nat.le_trans HO.out.2.size))
      exact ⟨B', by rw [HE.out.1]; rfl, by rw [HE.out.2]; exact hB1, (HO.out.2.mono (fun k _ e => (HB.out k).2 (.inr (.inl e)))).trans' h2 (fun k _ e => (HB.out k).2 (e.imp_right .inr)), hB2⟩
  · rw [decide_eq_false hm] at hlk
    have HE := Lib.hid (show closeE s n = 5 ∧ closeS s n late = s from ⟨if_neg hm, if_neg hm⟩)
    clear h hg hB hm
    go_enter Try.func10, Try.ntmps10
    go_wp2_with fail
    go_ret
    exact ⟨B, by rw [HE.out.1]; rfl, by rw [HE.out.2]; exact ⟨M, v, HH.out, HG.out, HB.out⟩, Turn.of_below (Below.refl _ _), fun _ => .inl⟩
set_option maxHeartbeats 2000000 in
theorem pKind17 (T : Nat) (B : Nat → Prop) (s : St17) (n : Int) (w : World) (h : TbAt w T B s) : Calls Try.prog 16 #[.pointer (some ⟨T, 0, none⟩), .int .i64 n] w fun e w' => e = .returned (.int .i64 (kindT s n)) ∧ Below w.heap.size w w' := by
  obtain ⟨M, v, h, hg, hB⟩ := h
  obtain ⟨f0, f1, f2, f3, f4, f5⟩ := h.blk.cells
  have HH := Lib.hid h
  have HG := Lib.hid hg
  have hlk := h.look hg n
  clear hB
  by_cases hm : n ∈ s.A
  · rw [decide_eq_true hm] at hlk
    have HE := Lib.hid (show kindT s n = 1 by have := hg.a n hm; unfold kindT; rw [if_neg (by omega), if_pos hm])
    clear h hg hm
    go_enter Try.func16, Try.ntmps16
    go_wp2_with fail
    go_ret
    exact ⟨by rw [HE.out]; rfl, Below.refl _ _⟩
  · rw [decide_eq_false hm] at hlk
    by_cases hl : n ∈ s.L
    · have HE := Lib.hid (show kindT s n = 2 by have := hg.l n hl; unfold kindT; rw [if_neg (by omega), if_neg hm, if_pos hl])
      have HL := Lib.hid (decide_eq_true hl)
      clear h hg hm hl
      go_enter Try.func16, Try.ntmps16
      go_wp2_with fail
      refine (remembers17_any T M v s n w HH.out HG.out).mono ?_
      rintro e w1 ⟨rfl, rfl⟩
      rw [HL.out]
      go_wp2_with fail
      go_ret
      exact ⟨by rw [HE.out]; rfl, Below.refl _ _⟩
    · have HL := Lib.hid (decide_eq_false hl)
      by_cases ho : 1 ≤ n ∧ n ≤ s.hi ∧ n % 2 = 1
      · have HE := Lib.hid (show kindT s n = 3 by unfold kindT; rw [if_neg (by omega), if_neg hm, if_neg hl])
        have HO := Lib.hid (show oddB n s.hi = true from decide_eq_true ho)
        clear h hg hm hl ho
        go_enter Try.func16, Try.ntmps16
        go_wp2_with fail
        refine (remembers17_any T M v s n w HH.out HG.out).mono ?_
        rintro e w1 ⟨rfl, rfl⟩
        rw [HL.out]
        go_wp2_with fail
        refine (odd17_any n s.hi _).mono ?_
        rintro e w1 ⟨rfl, rfl⟩
        rw [HO.out]
        go_wp2_with fail
        go_ret
        exact ⟨by rw [HE.out]; rfl, Below.refl _ _⟩
      · have HE := Lib.hid (show kindT s n = 0 by unfold kindT; rw [if_pos (by omega)])
        have HO := Lib.hid (show oddB n s.hi = false from decide_eq_false ho)
        clear h hg hm hl ho
        go_enter Try.func16, Try.ntmps16
        go_wp2_with fail
        refine (remembers17_any T M v s n w HH.out HG.out).mono ?_
        rintro e w1 ⟨rfl, rfl⟩
        rw [HL.out]
        go_wp2_with fail
        refine (odd17_any n s.hi _).mono ?_
        rintro e w1 ⟨rfl, rfl⟩
        rw [HO.out]
        go_wp2_with fail
        go_ret
        exact ⟨by rw [HE.out]; rfl, Below.refl _ _⟩
theorem pHighest17 (T : Nat) (B : Nat → Prop) (s : St17) (w : World) (h : TbAt w T B s) : Calls Try.prog 15 #[.pointer (some ⟨T, 0, none⟩)] w fun e w' => e = .returned (.int .i64 s.hi) ∧ Below w.heap.size w w' := by
  obtain ⟨M, v, h, hg, hB⟩ := h
  obtain ⟨f0, f1, f2, f3, f4, f5⟩ := h.blk.cells
  clear h hg hB
  go_enter Try.func15, Try.ntmps15
  go_wp2_with fail
  go_ret
  exact ⟨rfl, Below.refl _ _⟩
theorem pActive17 (T : Nat) (B : Nat → Prop) (s : St17) (w : World) (h : TbAt w T B s) : Calls Try.prog 13 #[.pointer (some ⟨T, 0, none⟩)] w fun e w' => ∃ v, e = .returned v ∧ Sl .i64 w' v s.A ∧ Below w.heap.size w w' := by
  obtain ⟨M, v, h, hg, hB⟩ := h
  obtain ⟨f0, f1, f2, f3, f4, f5⟩ := h.blk.cells
  have HH := Lib.hid h
  have HG := Lib.hid hg
  clear h hg hB
  go_enter Try.func13, Try.ntmps13
  go_wp2_with fail
  refine (keys17_any (some M) w).mono ?_
  rintro e w1 ⟨rfl, rfl⟩
  go_wp2_with fail
  refine (sorted17_any M s.A w HH.out.map HG.out.up (by have := HG.out.small; omega) HG.out.fitA).mono ?_
  rintro e w2 ⟨u, rfl, h1, h2⟩
  have HX := Lib.hid (And.intro h1 h2)
  clear h1 h2
  go_wp2_with fail
  go_ret
  exact ⟨u, rfl, HX.out⟩
theorem pLate17 (T : Nat) (B : Nat → Prop) (s : St17) (w : World) (h : TbAt w T B s) : Calls Try.prog 14 #[.pointer (some ⟨T, 0, none⟩)] w fun e w' => ∃ v, e = .returned v ∧ Sl .i64 w' v s.L ∧ Below w.heap.size w w' := by
  obtain ⟨M, v, h, hg, hB⟩ := h
  obtain ⟨f0, f1, f2, f3, f4, f5⟩ := h.blk.cells
  have HS := Lib.hid (Sl.of_own h.row hg.fitL (by have := hg.small; unfold maxLen; omega))
  have HG := Lib.hid hg
  clear h hg hB
  go_enter Try.func14, Try.ntmps14
  go_wp2_with fail
  refine (clone17_any v s.L w HS.out (by have := HG.out.small; omega)).mono ?_
  rintro e w2 ⟨u, rfl, h1, h2⟩
  have HX := Lib.hid (And.intro h1 h2)
  clear h1 h2
  go_wp2_with fail
  go_ret
  exact ⟨u, rfl, HX.out⟩
theorem pOpen17_nil (n : Int) (w : World) : Calls Try.prog 8 #[.pointer none, .int .i64 n] w fun e w' => e = .returned (.int .i64 1) ∧ Below w.heap.size w w' := by
  go_enter Try.func8, Try.ntmps8
  go_wp2_with fail
  go_ret
  exact ⟨rfl, Below.refl _ _⟩
theorem pClose17_nil (n : Int) (late : Bool) (w : World) : Calls Try.prog 10 #[.pointer none, .int .i64 n, .bool late] w fun e w' => e = .returned (.int .i64 1) ∧ Below w.heap.size w w' := by
  go_enter Try.func10, Try.ntmps10
  go_wp2_with fail
  go_ret
  exact ⟨rfl, Below.refl _ _⟩
theorem pKind17_nil (n : Int) (w : World) : Calls Try.prog 16 #[.pointer none, .int .i64 n] w fun e w' => e = .returned (.int .i64 0) ∧ Below w.heap.size w w' := by
  go_enter Try.func16, Try.ntmps16
  go_wp2_with fail
  go_ret
  exact ⟨rfl, Below.refl _ _⟩
theorem pHighest17_nil (w : World) : Calls Try.prog 15 #[.pointer none] w fun e w' => e = .returned (.int .i64 0) ∧ Below w.heap.size w w' := by
  go_enter Try.func15, Try.ntmps15
  go_wp2_with fail
  go_ret
  exact ⟨rfl, Below.refl _ _⟩
theorem pActive17_nil (w : World) : Calls Try.prog 13 #[.pointer none] w fun e w' => ∃ v, e = .returned v ∧ Sl .i64 w' v [] ∧ Below w.heap.size w w' := by
  go_enter Try.func13, Try.ntmps13
  go_wp2_with fail
  go_ret
  exact ⟨_, rfl, Sl.nil _ _, Below.refl _ _⟩
theorem pLate17_nil (w : World) : Calls Try.prog 14 #[.pointer none] w fun e w' => ∃ v, e = .returned v ∧ Sl .i64 w' v [] ∧ Below w.heap.size w w' := by
  go_enter Try.func14, Try.ntmps14
  go_wp2_with fail
  go_ret
  exact ⟨_, rfl, Sl.nil _ _, Below.refl _ _⟩
end Go.Proofs.Ytcompnndnelamaa
