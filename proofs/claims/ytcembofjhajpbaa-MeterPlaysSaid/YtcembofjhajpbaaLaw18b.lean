
/-
  Layer 18: the law MeterPlays (written by wip/tools/gen18b.py).
-/
import Derived.Test.YtcembofjhajpbaaLaw18
import Derived.Test.YtcembofjhajpbaaActs17
import Derived.Test.YtcembofjhajpbaaQuiet
import Derived.Test.YtcembofjhajpbaaBuilds
import Derived.WalkMore
import Derived.Shelf.Abstract
namespace Go.Proofs.Ytcembofjhajpbaa
set_option maxRecDepth 20000
open Go.RowKit

/-- the program's meter and the reference's, apart -/
structure Pl18 (w W : World) (T : Nat) (B : Nat → Prop) (s : St18) (R : Nat) (u : St18) : Prop where
  p : MtAt W T B s
  r : RmAt W R u
  b : Below w.heap.size w W
  gB : ∀ g, B g → w.heap.size ≤ g
  gR : w.heap.size ≤ R
  nR : ¬ B R
section
variable {w W W' : World} {T R : Nat} {B B' : Nat → Prop} {s s' u u' : St18}
theorem Pl18.grown (h : Pl18 w W T B s R u) (hb : Below W.heap.size W W') : Pl18 w W' T B s R u :=
  ⟨h.p.turn (Turn.of_below hb (S := fun _ => False)) (fun _ _ => id), h.r.below hb, h.b.trans (hb.mono h.b.size), h.gB, h.gR, h.nR⟩
theorem Pl18.stepP (h : Pl18 w W T B s R u) (ha : MtAt W' T B' s') (ht : Turn B W W') (hB : ∀ g, B' g → B g ∨ W.heap.size ≤ g) : Pl18 w W' T B' s' R u := by
  have hR := h.r.lt
  refine ⟨ha, h.r.turn ht h.nR, ht.base h.b h.b.size h.gB, fun k hk => (hB k hk).elim (h.gB k) (Nat.le_trans h.b.size), h.gR, fun e => ?_⟩
  rcases hB R e with e | e
  · exact h.nR e
  · omega
theorem Pl18.stepR (h : Pl18 w W T B s R u) (hr : RmAt W' R u') (ht : Turn (fun k => k = R) W W') : Pl18 w W' T B s R u' :=
  ⟨h.p.turn ht (fun g hg e => h.nR (e ▸ hg)), hr, ht.base h.b h.b.size (fun k hk => by rw [show k = R from hk]; exact h.gR), h.gB, h.gR, h.nR⟩
end
theorem wf6_of {s : St18} (h : Ok18 s) {c0 c1 c2 c3 c4 c5 : Int} (e : s.cnt = [c0, c1, c2, c3, c4, c5]) : wf6 c0 c1 c2 c3 c4 c5 := by
  have h1 : ∀ x ∈ [c0, c1, c2, c3, c4, c5], (Lit.int .i64 x).wf = true := fun x hx => by
    rw [← e] at hx
    exact WalkArith.wf_i64 (by have := h.c x hx; omega)
  exact ⟨h1 _ (by simp), h1 _ (by simp), h1 _ (by simp), h1 _ (by simp), h1 _ (by simp), h1 _ (by simp)⟩
theorem counts_cells {W : World} {R : Nat} {u : St18} (h : RmAt W R u) (hl : u.lim.length = 6) {c0 c1 c2 c3 c4 c5 : Int} (e : u.cnt = [c0, c1, c2, c3, c4, c5]) :
    W.cell? ⟨R, 6, none⟩ = some (.int .i64 c0) ∧ W.cell? ⟨R, 7, none⟩ = some (.int .i64 c1) ∧ W.cell? ⟨R, 8, none⟩ = some (.int .i64 c2) ∧ W.cell? ⟨R, 9, none⟩ = some (.int .i64 c3) ∧ W.cell? ⟨R, 10, none⟩ = some (.int .i64 c4) ∧ W.cell? ⟨R, 11, none⟩ = some (.int .i64 c5) := by
  obtain ⟨lim, cnt⟩ := u
  dsimp only at hl e
  subst e
  obtain ⟨l0, l1, l2, l3, l4, l5, rfl⟩ := six hl
  have h' : W.heap[R]? = some (.cells #[.int .i64 l0, .int .i64 l1, .int .i64 l2, .int .i64 l3, .int .i64 l4, .int .i64 l5, .int .i64 c0, .int .i64 c1, .int .i64 c2, .int .i64 c3, .int .i64 c4, .int .i64 c5] 39 (0, 0)) := h
  exact ⟨blk_cell h' rfl, blk_cell h' rfl, blk_cell h' rfl, blk_cell h' rfl, blk_cell h' rfl, blk_cell h' rfl⟩
theorem slice18 : Try.prog.underlying 23 = some (.slice (Try.prog.elem 23)) := by kernel_rfl
/-- one act, where it lies -/
structure At18 (b o : Nat) (x : A17) (w : World) : Prop where
  c0 : w.cell? ⟨b, o, none⟩ = some (.int .u8 x.k)
  c1 : w.cell? ⟨b, o + 1, none⟩ = some (.int .i64 x.n)
  lt : b < w.heap.size
theorem At18.below {b o : Nat} {x : A17} {w w' : World} (h : At18 b o x w) (hb : Below w.heap.size w w') : w'.cell? ⟨b, o, none⟩ = some (.int .u8 x.k) ∧ w'.cell? ⟨b, o + 1, none⟩ = some (.int .i64 x.n) ∧ b < w'.heap.size :=
  ⟨(hb.cell (p := ⟨b, o, none⟩) h.lt).trans h.c0, (hb.cell (p := ⟨b, o + 1, none⟩) h.lt).trans h.c1, Nat.lt_of_lt_of_le h.lt hb.size⟩
set_option maxHeartbeats 16000000 in
theorem plays18_any (l0 l1 l2 l3 l4 l5 : Int) (v : Value) (ys : List A17) (w : World) (h : SlA17 w v ys) :
    Calls Try.prog 3 #[.agg #[.int .i64 l0, .int .i64 l1, .int .i64 l2, .int .i64 l3, .int .i64 l4, .int .i64 l5], v] w fun e w' => e = .returned (.bool true) ∧ Below w.heap.size w w' := by
  obtain ⟨a, c, rfl, hc1, hc2⟩ := h.1.shape
  unfold maxLen at hc2
  obtain ⟨N, hN⟩ : ∃ N, ys.length = N := ⟨_, rfl⟩
  rw [hN] at h hc1 ⊢
  obtain ⟨w1, hw1⟩ : ∃ w1, w.alloc (.cells #[.int .i64 l0, .int .i64 l1, .int .i64 l2, .int .i64 l3, .int .i64 l4, .int .i64 l5] 22) = w1 := ⟨_, rfl⟩
  have HB1 := Lib.hid (show Below w.heap.size w w1 ∧ w1.heap[w.heap.size]? = some (.cells #[.int .i64 l0, .int .i64 l1, .int .i64 l2, .int .i64 l3, .int .i64 l4, .int .i64 l5] 22 (0, 0)) from by rw [← hw1]; exact ⟨(Below.refl _ _).alloc (Nat.le_refl _) _, heap_alloc_new w _⟩)
  have HN := Lib.hid hN
  have HS := Lib.hid (h.below HB1.out.1)
  have HC : Hid (∀ w', Below w1.heap.size w1 w' → w'.heap[w.heap.size]? = some (.cells #[.int .i64 l0, .int .i64 l1, .int .i64 l2, .int .i64 l3, .int .i64 l4, .int .i64 l5] 22 (0, 0))) := Lib.hid (fun w' hb => (hb.block _ (Array.getElem?_eq_some_iff.1 HB1.out.2).1).trans HB1.out.2)
  have hN0 : N ≤ 9223372036854775807 := by omega
  clear hN h
  by_cases h200 : 200 < N
  · have d0 : decide ((200 : Int) < (N : Int)) = true := decide_eq_true (by omega)
    have d1 : decide (200 < N) = true := decide_eq_true h200
    clear h200
    go_enter Try.func3, Try.ntmps3
    go_wp2_with fail
    refine (alive18 _).mono ?_
    rintro e w2 ⟨rfl, hb2⟩
    have HB2 := Lib.hid (HB1.out.1.trans (hb2.mono HB1.out.1.size))
    clear hb2
    go_wp2_with fail
    go_ret
    exact ⟨rfl, HB2.out⟩
  have d0 : decide ((200 : Int) < (N : Int)) = false := decide_eq_false (by omega)
  have d1 : decide (200 < N) = false := decide_eq_false h200
  have h201 : N ≤ 200 := by omega
  clear h200
  have b0 := blk_cell (j := 0) (HC.out w1 (Below.refl _ _)) rfl
  have b1 := blk_cell (j := 1) (HC.out w1 (Below.refl _ _)) rfl
  have b2 := blk_cell (j := 2) (HC.out w1 (Below.refl _ _)) rfl
  have b3 := blk_cell (j := 3) (HC.out w1 (Below.refl _ _)) rfl
  have b4 := blk_cell (j := 4) (HC.out w1 (Below.refl _ _)) rfl
  have b5 := blk_cell (j := 5) (HC.out w1 (Below.refl _ _)) rfl
  have b6 := (Array.getElem?_eq_some_iff.1 (HC.out w1 (Below.refl _ _))).1
  by_cases hok : limOk [l0, l1, l2, l3, l4, l5]
  rotate_left
  · have HOk := Lib.hid hok
    have HDk := Lib.hid (show decide (limOk [l0, l1, l2, l3, l4, l5]) = false from decide_eq_false hok)
    clear hok
    go_enter Try.func3, Try.ntmps3
    go_wp2_with fail
    refine (pNew18_no [l0, l1, l2, l3, l4, l5] w1 rfl HOk.out).mono ?_
    rintro e w2 ⟨rfl, hb2⟩
    have HB2 := Lib.hid hb2
    clear hb2 b0 b1 b2 b3 b4 b5 b6
    have b0 := blk_cell (j := 0) (HC.out w2 HB2.out) rfl
    have b1 := blk_cell (j := 1) (HC.out w2 HB2.out) rfl
    have b2 := blk_cell (j := 2) (HC.out w2 HB2.out) rfl
    have b3 := blk_cell (j := 3) (HC.out w2 HB2.out) rfl
    have b4 := blk_cell (j := 4) (HC.out w2 HB2.out) rfl
    have b5 := blk_cell (j := 5) (HC.out w2 HB2.out) rfl
    have b6 := (Array.getElem?_eq_some_iff.1 (HC.out w2 HB2.out)).1
    go_wp2_with fail
    refine (rright18_any [l0, l1, l2, l3, l4, l5] w2 rfl).mono ?_
    rintro e w3 ⟨rfl, hb3⟩
    have HB3 := Lib.hid (HB2.out.trans (hb3.mono HB2.out.size))
    rw [HDk.out]
    clear hb3 b0 b1 b2 b3 b4 b5 b6
    go_wp2_with fail
    refine (alive18 _).mono ?_
    rintro e w4 ⟨rfl, hb4⟩
    have HB4 := Lib.hid (HB1.out.1.trans ((HB3.out.trans (hb4.mono HB3.out.size)).mono HB1.out.1.size))
    clear hb4
    go_wp2_with fail
    go_ret
    exact ⟨rfl, HB4.out⟩
  have HOk := Lib.hid hok
  have HDk := Lib.hid (show decide (limOk [l0, l1, l2, l3, l4, l5]) = true from decide_eq_true hok)
  clear hok
  go_enter Try.func3, Try.ntmps3
  go_wp2_with fail
  refine (pNew18_yes [l0, l1, l2, l3, l4, l5] w1 HOk.out).mono ?_
  rintro e w2 ⟨T, B0, rfl, h1, h2, hb2⟩
  have HT := Lib.hid (And.intro h1 (And.intro h2 hb2))
  clear hb2 h1 h2 b0 b1 b2 b3 b4 b5 b6
  have b0 := blk_cell (j := 0) (HC.out w2 HT.out.2.2) rfl
  have b1 := blk_cell (j := 1) (HC.out w2 HT.out.2.2) rfl
  have b2 := blk_cell (j := 2) (HC.out w2 HT.out.2.2) rfl
  have b3 := blk_cell (j := 3) (HC.out w2 HT.out.2.2) rfl
  have b4 := blk_cell (j := 4) (HC.out w2 HT.out.2.2) rfl
  have b5 := blk_cell (j := 5) (HC.out w2 HT.out.2.2) rfl
  have b6 := (Array.getElem?_eq_some_iff.1 (HC.out w2 HT.out.2.2)).1
  go_wp2_with fail
  refine (rright18_any [l0, l1, l2, l3, l4, l5] w2 rfl).mono ?_
  rintro e w3 ⟨rfl, hb3⟩
  have HB3 := Lib.hid (HT.out.2.2.trans (hb3.mono HT.out.2.2.size))
  have HT3 := Lib.hid (show MtAt w3 T B0 (new18 [l0, l1, l2, l3, l4, l5]) from HT.out.1.turn (Turn.of_below hb3 (S := fun _ => False)) (fun _ _ => id))
  rw [HDk.out]
  clear hb3 b0 b1 b2 b3 b4 b5 b6
  have b0 := blk_cell (j := 0) (HC.out w3 HB3.out) rfl
  have b1 := blk_cell (j := 1) (HC.out w3 HB3.out) rfl
  have b2 := blk_cell (j := 2) (HC.out w3 HB3.out) rfl
  have b3 := blk_cell (j := 3) (HC.out w3 HB3.out) rfl
  have b4 := blk_cell (j := 4) (HC.out w3 HB3.out) rfl
  have b5 := blk_cell (j := 5) (HC.out w3 HB3.out) rfl
  have b6 := (Array.getElem?_eq_some_iff.1 (HC.out w3 HB3.out)).1
  go_wp2_with fail
  refine (rbegin18_any l0 l1 l2 l3 l4 l5 w3).mono ?_
  rintro e w4 ⟨R, rfl, hr, hR, hb4⟩
  have HP0 := Lib.hid (show Pl18 w1 w4 T B0 (new18 [l0, l1, l2, l3, l4, l5]) R (new18 [l0, l1, l2, l3, l4, l5]) from
    ⟨HT3.out.turn (Turn.of_below hb4 (S := fun _ => False)) (fun _ _ => id), hr, HB3.out.trans (hb4.mono HB3.out.size), HT.out.2.1, Nat.le_trans HB3.out.size hR, fun e => by have := HT3.out.lt _ e; omega⟩)
  clear hr hb4 hR d0 d1 b0 b1 b2 b3 b4 b5 b6
  go_wp2_with fail
  go_loopg [9] N (fun m s9 wr => ∃ k : Nat, k + m = N ∧ s9 = .int .i64 k ∧ ∃ s B, Hid (Pl18 w1 wr T B s R s))
  case atStart => exact ⟨0, by omega, rfl, _, _, HP0⟩
  case round =>
    obtain ⟨k, hkq, rfl, s, B, HP⟩ := hrel
    have HKQ := Lib.hid hkq
    have hk : k ≤ N := by omega
    clear hkq HP0
    by_cases hlt : k < N
    · obtain ⟨x, hx⟩ : ∃ x, ys[k]? = some x := ⟨ys[k]'(by rw [HN.out]; exact hlt), List.getElem?_eq_getElem (by rw [HN.out]; exact hlt)⟩
      have hmem := List.mem_of_getElem? hx
      have hxk := HS.out.2 x hmem
      obtain ⟨ab, off, rfl, hbl, hcell⟩ := HS.out.1.at_ (i := k) (by rw [HN.out]; exact hlt)
      have hc0 := hcell x hx 0 (by omega)
      have hc1 := hcell x hx 1 (by omega)
      simp only [a17C, List.getElem?_cons_succ, List.getElem?_cons_zero] at hc0 hc1
      have HA := Lib.hid (show At18 ab (off + k * 2) x w1 from ⟨hc0, hc1, hbl⟩)
      have HOk := Lib.hid HP.out.p.ok
      obtain ⟨hx0, hx1⟩ := hxk
      clear hcell hmem hx hc0 hc1 hbl
      obtain ⟨d0, d1, d2⟩ := HA.out.below HP.out.b
      obtain ⟨b3, hb3⟩ : ∃ b3, (x.k % 5 == 3) = b3 := ⟨_, rfl⟩
      obtain ⟨b4, hb4⟩ : ∃ b4, (x.k % 5 == 4) = b4 := ⟨_, rfl⟩
      cases b3
      · cases b4
        · skip
          go_wp2_with fail
          refine (pCount18 T B s x.n wr HP.out.p).mono ?_
          rintro e w3 ⟨B5, rfl, h1, h3, h4⟩
          have HP3 := Lib.hid (HP.out.stepP h1 h3 h4)
          clear h1 h3 h4 d0 d1 d2
          obtain ⟨d0, d1, d2⟩ := HA.out.below HP3.out.b
          go_wp2_with fail
          refine (rcount18_any R s x.n w3 HP3.out.r HOk.out).mono ?_
          rintro e W5 ⟨rfl, h1, h3⟩
          have HP5 := Lib.hid (HP3.out.stepR h1 h3)
          clear h1 h3 d0 d1 d2 HP3 HP
          generalize countS s x.n = s5 at HP5
          generalize countO s x.n = bo
          generalize kindE x.n = E
          generalize hw9 : W5 = w9 at HP5 ⊢
          have HP9 := HP5
          clear HP5 hw9
          obtain ⟨c0, c1, c2, c3, c4, c5, hcn⟩ := six HP9.out.p.ok.n
          have HCn := Lib.hid hcn
          have HWf := Lib.hid (wf6_of HP9.out.p.ok hcn)
          clear hcn
          go_wp2_with fail
          refine wp_region_quiet (C := fun w' => Below w9.heap.size w9 w') (by kernel_rfl) (by kernel_rfl) (Below.refl _ _).drew ?_
          refine quiet_take (.bool bo) rfl (quiet_pure (fun w => rfl)) ?_
          simp only [Act.put, List.setIfInBounds_toArray, List.set_cons_zero, List.set_cons_succ]
          refine quiet_take (.bool bo) rfl (quiet_pure (fun w => rfl)) ?_
          simp only [Act.put, List.setIfInBounds_toArray, List.set_cons_zero, List.set_cons_succ]
          refine quiet_take (.bool false) rfl (quiet_pure (fun w => by simp [go_sem])) ?_
          simp only [Act.put, List.setIfInBounds_toArray, List.set_cons_zero, List.set_cons_succ]
          refine quiet_take (.bool false) rfl (quiet_pure (fun w => rfl)) ?_
          simp only [Act.put, List.setIfInBounds_toArray, List.set_cons_zero, List.set_cons_succ]
          refine quiet_take (.int .i64 E) rfl (quiet_pure (fun w => rfl)) ?_
          simp only [Act.put, List.setIfInBounds_toArray, List.set_cons_zero, List.set_cons_succ]
          refine quiet_take (.int .i64 E) rfl (quiet_pure (fun w => rfl)) ?_
          simp only [Act.put, List.setIfInBounds_toArray, List.set_cons_zero, List.set_cons_succ]
          refine quiet_take (.bool false) rfl (quiet_pure (fun w => by simp [go_sem])) ?_
          simp only [Act.put, List.setIfInBounds_toArray, List.set_cons_zero, List.set_cons_succ]
          refine quiet_take (.bool false) rfl (quiet_pure (fun w => by simp [go_sem])) ?_
          simp only [Act.put, List.setIfInBounds_toArray, List.set_cons_zero, List.set_cons_succ]
          refine quiet_take (.bool false) rfl (quiet_pure (fun w => rfl)) ?_
          simp only [Act.put, List.setIfInBounds_toArray, List.set_cons_zero, List.set_cons_succ]
          refine quiet_take (.pointer (some ⟨T, 0, none⟩)) rfl (quiet_pure (fun w => rfl)) ?_
          simp only [Act.put, List.setIfInBounds_toArray, List.set_cons_zero, List.set_cons_succ]
          refine quiet_take (.agg #[.int .i64 c0, .int .i64 c1, .int .i64 c2, .int .i64 c3, .int .i64 c4, .int .i64 c5]) rfl (quiet_call 14 _ _ rfl [.pointer (some ⟨T, 0, none⟩)] rfl (enters_of Try.func14 (by kernel_rfl) rfl) (fun w hw => (pCounts18 T B5 _ w (HP9.out.grown hw).p).mono (by rintro e w'' ⟨rfl, hb⟩; exact ⟨by rw [HCn.out]; rfl, hw.trans (hb.mono hw.size)⟩))) ?_
          simp only [Act.put, List.setIfInBounds_toArray, List.set_cons_zero, List.set_cons_succ]
          refine quiet_take (.pointer (some ⟨R, 0, none⟩)) rfl (quiet_pure (fun w => rfl)) ?_
          simp only [Act.put, List.setIfInBounds_toArray, List.set_cons_zero, List.set_cons_succ]
          refine quiet_take (.pointer (some ⟨R, 0, none⟩)) rfl (quiet_pure (fun w => by simp [go_sem])) ?_
          simp only [Act.put, List.setIfInBounds_toArray, List.set_cons_zero, List.set_cons_succ]
          refine quiet_take (.pointer (some ⟨R, 6, none⟩)) rfl (quiet_pure (fun w => by simp [go_sem])) ?_
          simp only [Act.put, List.setIfInBounds_toArray, List.set_cons_zero, List.set_cons_succ]
          refine quiet_take (.agg #[.int .i64 c0, .int .i64 c1, .int .i64 c2, .int .i64 c3, .int .i64 c4, .int .i64 c5]) rfl (quiet_is (fun w hw => by obtain ⟨g0, g1, g2, g3, g4, g5⟩ := counts_cells (HP9.out.grown hw).r (HP9.out.grown hw).p.ok.l.1 HCn.out; simp [go_sem, g0, g1, g2, g3, g4, g5])) ?_
          simp only [Act.put, List.setIfInBounds_toArray, List.set_cons_zero, List.set_cons_succ]
          refine quiet_take (.bool false) rfl (quiet_pure (fun w => by have h1 := arr6_equal c0 c1 c2 c3 c4 c5 c0 c1 c2 c3 c4 c5 w HWf.out HWf.out; unfold arr6 at h1; simp [go_sem, h1])) ?_
          simp only [Act.put, List.setIfInBounds_toArray, List.set_cons_zero, List.set_cons_succ]
          refine quiet_take (.bool false) rfl (quiet_pure (fun w => by simp [go_sem])) ?_
          simp only [Act.put, List.setIfInBounds_toArray, List.set_cons_zero, List.set_cons_succ]
          intro W10 hb10
          have HP10 := Lib.hid (HP9.out.grown hb10)
          clear hb10 HP9
          go_wp2_with fail
          go_roundg (N - (k + 1))
          case measure => have := HKQ.out; omega
          case rel => exact ⟨k + 1, by omega, by go_num, _, B5, HP10⟩
        · skip
          go_wp2_with fail
          refine (pTick18 T B s wr HP.out.p).mono ?_
          rintro e w3 ⟨B5, rfl, h1, h3, h4⟩
          have HP3 := Lib.hid (HP.out.stepP h1 h3 h4)
          clear h1 h3 h4 d0 d1 d2
          obtain ⟨d0, d1, d2⟩ := HA.out.below HP3.out.b
          go_wp2_with fail
          refine (rtick18_any R s w3 HP3.out.r HOk.out).mono ?_
          rintro e W5 ⟨rfl, h1, h3⟩
          have HP5 := Lib.hid (HP3.out.stepR h1 h3)
          clear h1 h3 d0 d1 d2 HP3 HP
          generalize tickS s = s5 at HP5
          obtain ⟨bo, hbo⟩ : ∃ bo, bo = false := ⟨_, rfl⟩
          obtain ⟨E, hE⟩ : ∃ E : Int, E = 0 := ⟨_, rfl⟩
          generalize hw9 : W5 = w9 at HP5 ⊢
          have HP9 := HP5
          clear HP5 hw9
          obtain ⟨c0, c1, c2, c3, c4, c5, hcn⟩ := six HP9.out.p.ok.n
          have HCn := Lib.hid hcn
          have HWf := Lib.hid (wf6_of HP9.out.p.ok hcn)
          clear hcn
          go_wp2_with fail
          refine wp_region_quiet (C := fun w' => Below w9.heap.size w9 w') (by kernel_rfl) (by kernel_rfl) (Below.refl _ _).drew ?_
          refine quiet_take (.bool false) rfl (quiet_pure (fun w => rfl)) ?_
          simp only [Act.put, List.setIfInBounds_toArray, List.set_cons_zero, List.set_cons_succ]
          refine quiet_take (.bool false) rfl (quiet_pure (fun w => rfl)) ?_
          simp only [Act.put, List.setIfInBounds_toArray, List.set_cons_zero, List.set_cons_succ]
          refine quiet_take (.bool false) rfl (quiet_pure (fun w => by simp [go_sem])) ?_
          simp only [Act.put, List.setIfInBounds_toArray, List.set_cons_zero, List.set_cons_succ]
          refine quiet_take (.bool false) rfl (quiet_pure (fun w => rfl)) ?_
          simp only [Act.put, List.setIfInBounds_toArray, List.set_cons_zero, List.set_cons_succ]
          refine quiet_take (.int .i64 0) rfl (quiet_pure (fun w => rfl)) ?_
          simp only [Act.put, List.setIfInBounds_toArray, List.set_cons_zero, List.set_cons_succ]
          refine quiet_take (.int .i64 0) rfl (quiet_pure (fun w => rfl)) ?_
          simp only [Act.put, List.setIfInBounds_toArray, List.set_cons_zero, List.set_cons_succ]
          refine quiet_take (.bool false) rfl (quiet_pure (fun w => by simp [go_sem])) ?_
          simp only [Act.put, List.setIfInBounds_toArray, List.set_cons_zero, List.set_cons_succ]
          refine quiet_take (.bool false) rfl (quiet_pure (fun w => by simp [go_sem])) ?_
          simp only [Act.put, List.setIfInBounds_toArray, List.set_cons_zero, List.set_cons_succ]
          refine quiet_take (.bool false) rfl (quiet_pure (fun w => rfl)) ?_
          simp only [Act.put, List.setIfInBounds_toArray, List.set_cons_zero, List.set_cons_succ]
          refine quiet_take (.pointer (some ⟨T, 0, none⟩)) rfl (quiet_pure (fun w => rfl)) ?_
          simp only [Act.put, List.setIfInBounds_toArray, List.set_cons_zero, List.set_cons_succ]
          refine quiet_take (.agg #[.int .i64 c0, .int .i64 c1, .int .i64 c2, .int .i64 c3, .int .i64 c4, .int .i64 c5]) rfl (quiet_call 14 _ _ rfl [.pointer (some ⟨T, 0, none⟩)] rfl (enters_of Try.func14 (by kernel_rfl) rfl) (fun w hw => (pCounts18 T B5 _ w (HP9.out.grown hw).p).mono (by rintro e w'' ⟨rfl, hb⟩; exact ⟨by rw [HCn.out]; rfl, hw.trans (hb.mono hw.size)⟩))) ?_
          simp only [Act.put, List.setIfInBounds_toArray, List.set_cons_zero, List.set_cons_succ]
          refine quiet_take (.pointer (some ⟨R, 0, none⟩)) rfl (quiet_pure (fun w => rfl)) ?_
          simp only [Act.put, List.setIfInBounds_toArray, List.set_cons_zero, List.set_cons_succ]
          refine quiet_take (.pointer (some ⟨R, 0, none⟩)) rfl (quiet_pure (fun w => by simp [go_sem])) ?_
          simp only [Act.put, List.setIfInBounds_toArray, List.set_cons_zero, List.set_cons_succ]
          refine quiet_take (.pointer (some ⟨R, 6, none⟩)) rfl (quiet_pure (fun w => by simp [go_sem])) ?_
          simp only [Act.put, List.setIfInBounds_toArray, List.set_cons_zero, List.set_cons_succ]
          refine quiet_take (.agg #[.int .i64 c0, .int .i64 c1, .int .i64 c2, .int .i64 c3, .int .i64 c4, .int .i64 c5]) rfl (quiet_is (fun w hw => by obtain ⟨g0, g1, g2, g3, g4, g5⟩ := counts_cells (HP9.out.grown hw).r (HP9.out.grown hw).p.ok.l.1 HCn.out; simp [go_sem, g0, g1, g2, g3, g4, g5])) ?_
          simp only [Act.put, List.setIfInBounds_toArray, List.set_cons_zero, List.set_cons_succ]
          refine quiet_take (.bool false) rfl (quiet_pure (fun w => by have h1 := arr6_equal c0 c1 c2 c3 c4 c5 c0 c1 c2 c3 c4 c5 w HWf.out HWf.out; unfold arr6 at h1; simp [go_sem, h1])) ?_
          simp only [Act.put, List.setIfInBounds_toArray, List.set_cons_zero, List.set_cons_succ]
          refine quiet_take (.bool false) rfl (quiet_pure (fun w => by simp [go_sem])) ?_
          simp only [Act.put, List.setIfInBounds_toArray, List.set_cons_zero, List.set_cons_succ]
          intro W10 hb10
          have HP10 := Lib.hid (HP9.out.grown hb10)
          clear hb10 HP9
          go_wp2_with fail
          go_roundg (N - (k + 1))
          case measure => have := HKQ.out; omega
          case rel => exact ⟨k + 1, by omega, by go_num, _, B5, HP10⟩
      · skip
        go_wp2_with fail
        refine (pClear18 T B s x.n wr HP.out.p).mono ?_
        rintro e w3 ⟨B5, rfl, h1, h3, h4⟩
        have HP3 := Lib.hid (HP.out.stepP h1 h3 h4)
        clear h1 h3 h4 d0 d1 d2
        obtain ⟨d0, d1, d2⟩ := HA.out.below HP3.out.b
        go_wp2_with fail
        refine (rclear18_any R s x.n w3 HP3.out.r HOk.out).mono ?_
        rintro e W5 ⟨rfl, h1, h3⟩
        have HP5 := Lib.hid (HP3.out.stepR h1 h3)
        clear h1 h3 d0 d1 d2 HP3 HP
        generalize clearS s x.n = s5 at HP5
        generalize kindE x.n = E
        generalize hw9 : W5 = w9 at HP5 ⊢
        have HP9 := HP5
        clear HP5 hw9
        obtain ⟨c0, c1, c2, c3, c4, c5, hcn⟩ := six HP9.out.p.ok.n
        have HCn := Lib.hid hcn
        have HWf := Lib.hid (wf6_of HP9.out.p.ok hcn)
        clear hcn
        go_wp2_with fail
        refine wp_region_quiet (C := fun w' => Below w9.heap.size w9 w') (by kernel_rfl) (by kernel_rfl) (Below.refl _ _).drew ?_
        refine quiet_take (.bool false) rfl (quiet_pure (fun w => rfl)) ?_
        simp only [Act.put, List.setIfInBounds_toArray, List.set_cons_zero, List.set_cons_succ]
        refine quiet_take (.bool false) rfl (quiet_pure (fun w => rfl)) ?_
        simp only [Act.put, List.setIfInBounds_toArray, List.set_cons_zero, List.set_cons_succ]
        refine quiet_take (.bool false) rfl (quiet_pure (fun w => by simp [go_sem])) ?_
        simp only [Act.put, List.setIfInBounds_toArray, List.set_cons_zero, List.set_cons_succ]
        refine quiet_take (.bool false) rfl (quiet_pure (fun w => rfl)) ?_
        simp only [Act.put, List.setIfInBounds_toArray, List.set_cons_zero, List.set_cons_succ]
        refine quiet_take (.int .i64 E) rfl (quiet_pure (fun w => rfl)) ?_
        simp only [Act.put, List.setIfInBounds_toArray, List.set_cons_zero, List.set_cons_succ]
        refine quiet_take (.int .i64 E) rfl (quiet_pure (fun w => rfl)) ?_
        simp only [Act.put, List.setIfInBounds_toArray, List.set_cons_zero, List.set_cons_succ]
        refine quiet_take (.bool false) rfl (quiet_pure (fun w => by simp [go_sem])) ?_
        simp only [Act.put, List.setIfInBounds_toArray, List.set_cons_zero, List.set_cons_succ]
        refine quiet_take (.bool false) rfl (quiet_pure (fun w => by simp [go_sem])) ?_
        simp only [Act.put, List.setIfInBounds_toArray, List.set_cons_zero, List.set_cons_succ]
        refine quiet_take (.bool false) rfl (quiet_pure (fun w => rfl)) ?_
        simp only [Act.put, List.setIfInBounds_toArray, List.set_cons_zero, List.set_cons_succ]
        refine quiet_take (.pointer (some ⟨T, 0, none⟩)) rfl (quiet_pure (fun w => rfl)) ?_
        simp only [Act.put, List.setIfInBounds_toArray, List.set_cons_zero, List.set_cons_succ]
        refine quiet_take (.agg #[.int .i64 c0, .int .i64 c1, .int .i64 c2, .int .i64 c3, .int .i64 c4, .int .i64 c5]) rfl (quiet_call 14 _ _ rfl [.pointer (some ⟨T, 0, none⟩)] rfl (enters_of Try.func14 (by kernel_rfl) rfl) (fun w hw => (pCounts18 T B5 _ w (HP9.out.grown hw).p).mono (by rintro e w'' ⟨rfl, hb⟩; exact ⟨by rw [HCn.out]; rfl, hw.trans (hb.mono hw.size)⟩))) ?_
        simp only [Act.put, List.setIfInBounds_toArray, List.set_cons_zero, List.set_cons_succ]
        refine quiet_take (.pointer (some ⟨R, 0, none⟩)) rfl (quiet_pure (fun w => rfl)) ?_
        simp only [Act.put, List.setIfInBounds_toArray, List.set_cons_zero, List.set_cons_succ]
        refine quiet_take (.pointer (some ⟨R, 0, none⟩)) rfl (quiet_pure (fun w => by simp [go_sem])) ?_
        simp only [Act.put, List.setIfInBounds_toArray, List.set_cons_zero, List.set_cons_succ]
        refine quiet_take (.pointer (some ⟨R, 6, none⟩)) rfl (quiet_pure (fun w => by simp [go_sem])) ?_
        simp only [Act.put, List.setIfInBounds_toArray, List.set_cons_zero, List.set_cons_succ]
        refine quiet_take (.agg #[.int .i64 c0, .int .i64 c1, .int .i64 c2, .int .i64 c3, .int .i64 c4, .int .i64 c5]) rfl (quiet_is (fun w hw => by obtain ⟨g0, g1, g2, g3, g4, g5⟩ := counts_cells (HP9.out.grown hw).r (HP9.out.grown hw).p.ok.l.1 HCn.out; simp [go_sem, g0, g1, g2, g3, g4, g5])) ?_
        simp only [Act.put, List.setIfInBounds_toArray, List.set_cons_zero, List.set_cons_succ]
        refine quiet_take (.bool false) rfl (quiet_pure (fun w => by have h1 := arr6_equal c0 c1 c2 c3 c4 c5 c0 c1 c2 c3 c4 c5 w HWf.out HWf.out; unfold arr6 at h1; simp [go_sem, h1])) ?_
        simp only [Act.put, List.setIfInBounds_toArray, List.set_cons_zero, List.set_cons_succ]
        refine quiet_take (.bool false) rfl (quiet_pure (fun w => by simp [go_sem])) ?_
        simp only [Act.put, List.setIfInBounds_toArray, List.set_cons_zero, List.set_cons_succ]
        intro W10 hb10
        have HP10 := Lib.hid (HP9.out.grown hb10)
        clear hb10 HP9
        go_wp2_with fail
        go_roundg (N - (k + 1))
        case measure => have := HKQ.out; omega
        case rel => exact ⟨k + 1, by omega, by go_num, _, B5, HP10⟩
    · obtain rfl : k = N := by omega
      clear hlt hk
      go_wp2_with fail
      refine (pTick18_nil _).mono ?_
      rintro e w3 ⟨rfl, hb3⟩
      have HB3 := Lib.hid (HB1.out.1.trans ((HP.out.b.trans (hb3.mono HP.out.b.size)).mono HB1.out.1.size))
      clear hb3
      go_wp2_with fail
      refine (pCount18_nil 0 _).mono ?_
      rintro e w4 ⟨rfl, hb4⟩
      have HB4 := Lib.hid (HB3.out.trans (hb4.mono HB3.out.size))
      clear hb4
      go_wp2_with fail
      refine (alive18 _).mono ?_
      rintro e w5 ⟨rfl, hb5⟩
      have HB5 := Lib.hid (HB4.out.trans (hb5.mono HB4.out.size))
      clear hb5
      go_wp2_with fail
      refine (pClear18_nil 0 _).mono ?_
      rintro e w6 ⟨rfl, hb6⟩
      have HB6 := Lib.hid (HB5.out.trans (hb6.mono HB5.out.size))
      clear hb6
      go_wp2_with fail
      refine (pCounts18_nil _).mono ?_
      rintro e w7 ⟨rfl, hb7⟩
      have HB7 := Lib.hid (HB6.out.trans (hb7.mono HB6.out.size))
      clear hb7
      have hgd := Try.guard18
      have heq := arr6_self 0 0 0 0 0 0 (by unfold wf6; decide)
      unfold arrL
      simp only [List.map_cons, List.map_nil]
      go_wp2_with fail
      go_ret
      exact ⟨rfl, HB7.out⟩
end Go.Proofs.Ytcembofjhajpbaa
