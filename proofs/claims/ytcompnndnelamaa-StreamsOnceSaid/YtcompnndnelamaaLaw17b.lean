
/-
  Layer 17: the law StreamsPlay (written by wip/tools/gen17b.py).
-/
import Derived.Test.YtcompnndnelamaaLaw17
import Derived.Test.YtcompnndnelamaaActs17
import Derived.Test.YtcompnndnelamaaQuiet
import Derived.Test.YtcompnndnelamaaBuilds
import Derived.Test.YtcompnndnelamaaRegion
import Derived.WalkMore
import Derived.Shelf.Abstract
namespace Go.Proofs.Ytcompnndnelamaa
set_option maxRecDepth 20000
open Go.RowKit

/-- the program's table and the reference's, apart -/
structure Pl17 (w W : World) (T : Nat) (B : Nat → Prop) (s : St17) (R : Nat) (av lv : Value) (u : St17) : Prop where
  p : TbAt W T B s
  r : RtObj W R av lv u
  b : Below w.heap.size w W
  gB : ∀ g, B g → w.heap.size ≤ g
  gR : w.heap.size ≤ R
  nR : ¬ B R
  nA : ∀ g, av.ownBlock = some g → ¬ B g
  nL : ∀ g, lv.ownBlock = some g → ¬ B g
section
variable {w W W' : World} {T R : Nat} {B B' : Nat → Prop} {s s' u u' : St17} {av lv av' lv' : Value}
theorem Pl17.grown (h : Pl17 w W T B s R av lv u) (hb : Below W.heap.size W W') : Pl17 w W' T B s R av lv u :=
  ⟨h.p.turn (Turn.of_below hb (S := fun _ => False)) (fun _ _ => id), h.r.below hb, h.b.trans (hb.mono h.b.size), h.gB, h.gR, h.nR, h.nA, h.nL⟩
theorem Pl17.stepP (h : Pl17 w W T B s R av lv u) (ha : TbAt W' T B' s') (ht : Turn B W W') (hB : ∀ g, B' g → B g ∨ W.heap.size ≤ g) : Pl17 w W' T B' s' R av lv u := by
  have hR := h.r.blk.lt
  refine ⟨ha, h.r.turn ht h.nR h.nA h.nL, ht.base h.b h.b.size h.gB, fun k hk => (hB k hk).elim (h.gB k) (Nat.le_trans h.b.size), h.gR, fun e => ?_, fun g hg e => ?_, fun g hg e => ?_⟩
  · rcases hB R e with e | e
    · exact h.nR e
    · omega
  · rcases hB g e with e | e
    · exact h.nA g hg e
    · have := (h.r.na g hg).2; omega
  · rcases hB g e with e | e
    · exact h.nL g hg e
    · have := (h.r.nl g hg).2; omega
theorem Pl17.stepR (h : Pl17 w W T B s R av lv u) (hr : RtObj W' R av' lv' u') (ht : Turn (fun k => k = R) W W') (ha : FromV W W' av av') (hl : FromV W W' lv lv') : Pl17 w W' T B s R av' lv' u' := by
  refine ⟨h.p.turn ht (fun g hg e => h.nR (e ▸ hg)), hr, ht.base h.b h.b.size (fun k hk => by rw [show k = R from hk]; exact h.gR), h.gB, h.gR, h.nR, fun g hg e => ?_, fun g hg e => ?_⟩
  · rcases ha g hg with x | x
    · exact h.nA g x e
    · have := h.p.lt g e; omega
  · rcases hl g hg with x | x
    · exact h.nL g x e
    · have := h.p.lt g e; omega
end
theorem slice17 : Try.prog.underlying 23 = some (.slice (Try.prog.elem 23)) := by kernel_rfl
/-- one act, where it lies -/
structure At17 (b o : Nat) (x : A17) (w : World) : Prop where
  c0 : w.cell? ⟨b, o, none⟩ = some (.int .u8 x.k)
  c1 : w.cell? ⟨b, o + 1, none⟩ = some (.int .i64 x.n)
  lt : b < w.heap.size
theorem At17.below {b o : Nat} {x : A17} {w w' : World} (h : At17 b o x w) (hb : Below w.heap.size w w') : w'.cell? ⟨b, o, none⟩ = some (.int .u8 x.k) ∧ w'.cell? ⟨b, o + 1, none⟩ = some (.int .i64 x.n) ∧ b < w'.heap.size :=
  ⟨(hb.cell (p := ⟨b, o, none⟩) h.lt).trans h.c0, (hb.cell (p := ⟨b, o + 1, none⟩) h.lt).trans h.c1, Nat.lt_of_lt_of_le h.lt hb.size⟩
set_option maxHeartbeats 16000000 in
theorem plays17_any (p q : Int) (v : Value) (ys : List A17) (idn : Int) (w : World) (h : SlA17 w v ys) :
    Calls Try.prog 3 #[.agg #[.int .i64 p, .int .i64 q], v, .int .i64 idn] w fun e w' => e = .returned (.bool true) ∧ Below w.heap.size w w' := by
  obtain ⟨a, c, rfl, hc1, hc2⟩ := h.1.shape
  unfold maxLen at hc2
  obtain ⟨N, hN⟩ : ∃ N, ys.length = N := ⟨_, rfl⟩
  rw [hN] at h hc1 ⊢
  obtain ⟨w1, hw1⟩ : ∃ w1, w.alloc (.cells #[.int .i64 p, .int .i64 q] 22) = w1 := ⟨_, rfl⟩
  have HB1 := Lib.hid (show Below w.heap.size w w1 ∧ w1.heap[w.heap.size]? = some (.cells #[.int .i64 p, .int .i64 q] 22 (0, 0)) from by rw [← hw1]; exact ⟨(Below.refl _ _).alloc (Nat.le_refl _) _, heap_alloc_new w _⟩)
  have HN := Lib.hid hN
  have HS := Lib.hid (h.below HB1.out.1)
  have b0 := blk_cell (j := 0) HB1.out.2 rfl
  have b1 := blk_cell (j := 1) HB1.out.2 rfl
  have b2 := (Array.getElem?_eq_some_iff.1 HB1.out.2).1
  have hN0 : N ≤ 9223372036854775807 := by omega
  clear hN h
  by_cases h150 : 150 < N
  · have d0 : decide ((150 : Int) < (N : Int)) = true := decide_eq_true (by omega)
    have d1 : decide (150 < N) = true := decide_eq_true h150
    clear h150
    go_enter Try.func3, Try.ntmps3
    go_wp2_with fail
    refine (alive17 _).mono ?_
    rintro e w2 ⟨rfl, hb2⟩
    have HB2 := Lib.hid (HB1.out.1.trans (hb2.mono HB1.out.1.size))
    clear hb2
    go_wp2_with fail
    go_ret
    exact ⟨rfl, HB2.out⟩
  have d0 : decide ((150 : Int) < (N : Int)) = false := decide_eq_false (by omega)
  have d1 : decide (150 < N) = false := decide_eq_false h150
  have h151 : N ≤ 150 := by omega
  clear h150
  by_cases hpq : 0 ≤ p ∧ p ≤ 100 ∧ 0 ≤ q ∧ q ≤ 100
  rotate_left
  · have hno : p < 0 ∨ (¬ p < 0 ∧ 100 < p) ∨ (¬ p < 0 ∧ ¬ 100 < p ∧ q < 0) ∨ (¬ p < 0 ∧ ¬ 100 < p ∧ ¬ q < 0 ∧ 100 < q) := by omega
    have HPQ := Lib.hid hpq
    clear hpq
    go_enter Try.func3, Try.ntmps3
    go_wp2_with fail
    refine (pNew17_no p q _ HPQ.out).mono ?_
    rintro e w2 ⟨rfl, hb2⟩
    have HB2 := Lib.hid (HB1.out.1.trans (hb2.mono HB1.out.1.size))
    have b0' := (hb2.cell (p := ⟨w.heap.size, 0, none⟩) b2).trans b0
    have b1' := (hb2.cell (p := ⟨w.heap.size, 1, none⟩) b2).trans b1
    have b2' := Nat.lt_of_lt_of_le b2 hb2.size
    clear hb2 b0 b1 b2 hw1
    have f1 : p < 0 ∨ ¬ p < 0 := by omega
    rcases hno with h1 | ⟨h1, h2⟩ | ⟨h1, h2, h3⟩ | ⟨h1, h2, h3, h4⟩
    · have q1 : decide (p < 0) = true := decide_eq_true h1
      clear h1
      go_wp2_with fail
      refine (alive17 _).mono ?_
      rintro e w4 ⟨rfl, hb4⟩
      have HB4 := Lib.hid (HB2.out.trans (hb4.mono HB2.out.size))
      clear hb4
      go_wp2_with fail
      go_ret
      exact ⟨rfl, HB4.out⟩
    · have q1 : decide (p < 0) = false := decide_eq_false (by omega)
      have q2 : decide (100 < p) = true := decide_eq_true h2
      clear h1 h2
      go_wp2_with fail
      refine (alive17 _).mono ?_
      rintro e w4 ⟨rfl, hb4⟩
      have HB4 := Lib.hid (HB2.out.trans (hb4.mono HB2.out.size))
      clear hb4
      go_wp2_with fail
      go_ret
      exact ⟨rfl, HB4.out⟩
    · have q1 : decide (p < 0) = false := decide_eq_false (by omega)
      have q2 : decide (100 < p) = false := decide_eq_false (by omega)
      have q3 : decide (q < 0) = true := decide_eq_true h3
      clear h1 h2 h3
      go_wp2_with fail
      refine (alive17 _).mono ?_
      rintro e w4 ⟨rfl, hb4⟩
      have HB4 := Lib.hid (HB2.out.trans (hb4.mono HB2.out.size))
      clear hb4
      go_wp2_with fail
      go_ret
      exact ⟨rfl, HB4.out⟩
    · have q1 : decide (p < 0) = false := decide_eq_false (by omega)
      have q2 : decide (100 < p) = false := decide_eq_false (by omega)
      have q3 : decide (q < 0) = false := decide_eq_false (by omega)
      have q4 : decide (100 < q) = true := decide_eq_true h4
      clear h1 h2 h3 h4
      go_wp2_with fail
      refine (alive17 _).mono ?_
      rintro e w4 ⟨rfl, hb4⟩
      have HB4 := Lib.hid (HB2.out.trans (hb4.mono HB2.out.size))
      clear hb4
      go_wp2_with fail
      go_ret
      exact ⟨rfl, HB4.out⟩
  have HPQ := Lib.hid hpq
  have q1 : decide (p < 0) = false := decide_eq_false (by omega)
  have q2 : decide (100 < p) = false := decide_eq_false (by omega)
  have q3 : decide (q < 0) = false := decide_eq_false (by omega)
  have q4 : decide (100 < q) = false := decide_eq_false (by omega)
  clear hpq
  go_enter Try.func3, Try.ntmps3
  go_wp2_with fail
  refine (pNew17_yes p q _ HPQ.out).mono ?_
  rintro e w2 ⟨T, B0, rfl, h1, h2, hb2⟩
  have HT := Lib.hid (And.intro h1 (And.intro h2 hb2))
  have b0' := (hb2.cell (p := ⟨w.heap.size, 0, none⟩) b2).trans b0
  have b1' := (hb2.cell (p := ⟨w.heap.size, 1, none⟩) b2).trans b1
  have b2' := Nat.lt_of_lt_of_le b2 hb2.size
  clear hb2 b0 b1 b2 hw1 h1 h2
  go_wp2_with fail
  refine (rbegin17_any p q w2).mono ?_
  rintro e w3 ⟨rfl, hr, hb3⟩
  have HP0 := Lib.hid (show Pl17 w1 w3 T B0 (St17.new p q) w2.heap.size (.slice none 0 0) (.slice none 0 0) (St17.new p q) from
    ⟨HT.out.1.turn (Turn.of_below hb3 (S := fun _ => False)) (fun _ _ => id), hr, HT.out.2.2.trans (hb3.mono HT.out.2.2.size), HT.out.2.1, HT.out.2.2.size, fun e => by have := HT.out.1.lt _ e; omega, (fun g hg => by cases hg), (fun g hg => by cases hg)⟩)
  obtain ⟨R, hR⟩ : ∃ R, w2.heap.size = R := ⟨_, rfl⟩
  rw [hR] at HP0 ⊢
  clear hr hb3 b0' b1' b2' hR q1 q2 q3 q4 d0 d1
  go_wp2_with fail
  go_loopg [10] N (fun m s10 wr => ∃ k : Nat, k + m = N ∧ s10 = .int .i64 k ∧ ∃ s B av lv, Hid (Pl17 w1 wr T B s R av lv s))
  case atStart => exact ⟨0, by omega, rfl, _, _, _, _, HP0⟩
  case round =>
    obtain ⟨k, hkq, rfl, s, B, av, lv, HP⟩ := hrel
    have HKQ := Lib.hid hkq
    have hk : k ≤ N := by omega
    clear hkq HP0
    by_cases hlt : k < N
    · obtain ⟨x, hx⟩ : ∃ x, ys[k]? = some x := ⟨ys[k]'(by rw [HN.out]; exact hlt), List.getElem?_eq_getElem (by rw [HN.out]; exact hlt)⟩
      have hmem := List.mem_of_getElem? hx
      have hxk := HS.out.2 x hmem
      obtain ⟨ab, off, rfl, hbl, hcell⟩ := HS.out.1.at_ (i := k) (by rw [HN.out]; exact hlt)
      have hc0 := hcell x hx 0 (by omega)
      have hc1 := hcell x hx 1 (by omega)
      simp only [a17C, List.getElem?_cons_succ, List.getElem?_cons_zero] at hc0 hc1
      have HA := Lib.hid (show At17 ab (off + k * 2) x w1 from ⟨hc0, hc1, hbl⟩)
      have hix := fun q => run_index_sl (P := Try.prog) (t := 23) (s := 2) slice17 (fun _ => by kernel_rfl) ab off N c k hlt q
      have HX := Lib.hid hxk
      have HSm := Lib.hid HP.out.p.small
      obtain ⟨hx0, hx1⟩ := hxk
      clear hcell hmem hx hc0 hc1 hbl
      obtain ⟨d0, d1, d2⟩ := HA.out.below HP.out.b
      by_cases h2 : x.k % 4 < 2
      · have e2 : decide (x.k % 4 < 2) = true := decide_eq_true h2
        clear h2
        go_wp2_with fail
        refine (pOpen17 T B s x.n wr HP.out.p).mono ?_
        rintro e w3 ⟨B5, rfl, h1, h3, h4⟩
        have HP3 := Lib.hid (HP.out.stepP h1 h3 h4)
        clear h1 h3 h4 d0 d1 d2
        obtain ⟨d0, d1, d2⟩ := HA.out.below HP3.out.b
        go_wp2_with fail
        refine (ropen_any R av lv s x.n w3 HP3.out.r (by have := HSm.out; omega) (by have := HSm.out; omega)).mono ?_
        rintro e W5 ⟨rfl, av5, lv5, h1, h3, h4, h5⟩
        have HP5 := Lib.hid (HP3.out.stepR h1 h3 h4 h5)
        clear h1 h3 h4 h5 d0 d1 d2 HP3 HP e2
        generalize openS s x.n = s5 at HP5
        generalize openE s x.n = E
        generalize hw9 : W5 = w9 at HP5 ⊢
        have HP9 := HP5
        clear HP5 hw9
        go_wp2_with fail
        refine wp_region_table 7 [121, 122, 123, 124, 125, 126, 127] [[], [(0, 121)], [], [(2, 123)], [(3, 124)], [(4, 125)], [(1, 122), (5, 126)]]
          (fun i v w' => match i with
            | 0 => v = .pointer (some ⟨T, 0, none⟩)
            | 1 => Sl .i64 w' v s5.A
            | 2 => v = .pointer (some ⟨R, 0, none⟩)
            | 3 => v = .pointer (some ⟨R, 0, none⟩)
            | 4 => v = .pointer (some ⟨R, 3, none⟩)
            | 5 => v = av5
            | 6 => v = .bool true
            | _ => True) (by kernel_rfl) (by kernel_rfl) ?tStab ?tOps ?tRest
        case tStab =>
          intro i v w3 w4 h hb
          match i, h with
          | 0, h | 2, h | 3, h | 4, h | 5, h | 6, h => exact h
          | 1, h => exact Sl.below h hb
          | i + 7, _ => trivial
        case tOps =>
          simp only [List.take_succ_cons, List.take_zero, opsOk]
          refine ⟨?_, ?_, ?_, ?_, ?_, ?_, ?_, trivial⟩
          · intro ρ w3 hc hf ho hB hj
            have x0 : ρ (.tmp 7) = .pointer (some ⟨T, 0, none⟩) := ho 7 (by decide)
            simp [gives, go_sem, x0, Below.refl]
          · intro ρ w3 hc hf ho hB hj
            have x0 : ρ (.tmp 121) = .pointer (some ⟨T, 0, none⟩) := hj (0, 121) (by simp)
            simp [gives, go_sem, x0, hf]
            exact (pActive17 T B5 s5 w3 (HP9.out.grown hB).p).mono fun e w' ⟨v, h1, h2, h3⟩ => ⟨v, h1, h2, h3⟩
          · intro ρ w3 hc hf ho hB hj
            have x0 : ρ (.tmp 9) = .pointer (some ⟨R, 0, none⟩) := ho 9 (by decide)
            simp [gives, go_sem, x0, Below.refl]
          · intro ρ w3 hc hf ho hB hj
            have x0 : ρ (.tmp 123) = .pointer (some ⟨R, 0, none⟩) := hj (2, 123) (by simp)
            simp [gives, go_sem, x0, Below.refl]
          · intro ρ w3 hc hf ho hB hj
            have x0 : ρ (.tmp 124) = .pointer (some ⟨R, 0, none⟩) := hj (3, 124) (by simp)
            simp [gives, go_sem, x0, Below.refl]
          · intro ρ w3 hc hf ho hB hj
            have x0 : ρ (.tmp 125) = .pointer (some ⟨R, 3, none⟩) := hj (4, 125) (by simp)
            obtain ⟨q0, q1, q2, q3, q4, q5⟩ := (HP9.out.grown hB).r.blk.cells
            simp [gives, go_sem, x0, q3, Below.refl]
          · intro ρ w3 hc hf ho hB hj
            have x0 : Sl .i64 w3 (ρ (.tmp 122)) s5.A := hj (1, 122) (by simp)
            have x1 : ρ (.tmp 126) = av5 := hj (5, 126) (by simp)
            obtain ⟨gv, hgv⟩ : ∃ gv, ρ (.tmp 122) = gv := ⟨_, rfl⟩
            rw [hgv] at x0
            simp [gives, go_sem, x1, hf, hgv]
            exact (ints17_any gv _ _ _ w3 x0 (HP9.out.grown hB).r.a).mono fun e w' ⟨h1, n, h2⟩ => ⟨.bool true, by rw [h1]; simp, rfl, by rw [h2]; exact below_drewN (Below.refl _ _) n⟩
        case tRest =>
          intro X w3 hBw hX
          have x0 : X 0 = .pointer (some ⟨T, 0, none⟩) := hX 0 (by decide)
          have x1 := hX 1 (by decide)
          have x2 : X 2 = .pointer (some ⟨R, 0, none⟩) := hX 2 (by decide)
          have x3 : X 3 = .pointer (some ⟨R, 0, none⟩) := hX 3 (by decide)
          have x4 : X 4 = .pointer (some ⟨R, 3, none⟩) := hX 4 (by decide)
          have x5 : X 5 = av5 := hX 5 (by decide)
          have x6 : X 6 = .bool true := hX 6 (by decide)
          simp only [putAll, List.getD_cons_zero, List.getD_cons_succ, Act.put, List.setIfInBounds_toArray, List.set_cons_zero, List.set_cons_succ, List.drop_succ_cons, List.drop_zero]
          rw [x0, x2, x3, x4, x5, x6]
          clear x0 x2 x3 x4 x5 x6
          have HPa := Lib.hid (HP9.out.grown hBw)
          clear HP9 hBw hX x1
          generalize w3 = w9 at HPa ⊢
          have HP9 := HPa
          clear HPa
          go_wp2_with fail
          refine wp_region_table 7 [128, 129, 130, 131, 132, 133, 134] [[], [(0, 128)], [], [(2, 130)], [(3, 131)], [(4, 132)], [(1, 129), (5, 133)]]
            (fun i v w' => match i with
              | 0 => v = .pointer (some ⟨T, 0, none⟩)
              | 1 => Sl .i64 w' v s5.L
              | 2 => v = .pointer (some ⟨R, 0, none⟩)
              | 3 => v = .pointer (some ⟨R, 0, none⟩)
              | 4 => v = .pointer (some ⟨R, 4, none⟩)
              | 5 => v = lv5
              | 6 => v = .bool true
              | _ => True) (by kernel_rfl) (by kernel_rfl) ?tStab ?tOps ?tRest
          case tStab =>
            intro i v w3 w4 h hb
            match i, h with
            | 0, h | 2, h | 3, h | 4, h | 5, h | 6, h => exact h
            | 1, h => exact Sl.below h hb
            | i + 7, _ => trivial
          case tOps =>
            simp only [List.take_succ_cons, List.take_zero, opsOk]
            refine ⟨?_, ?_, ?_, ?_, ?_, ?_, ?_, trivial⟩
            · intro ρ w3 hc hf ho hB hj
              have x0 : ρ (.tmp 7) = .pointer (some ⟨T, 0, none⟩) := ho 7 (by decide)
              simp [gives, go_sem, x0, Below.refl]
            · intro ρ w3 hc hf ho hB hj
              have x0 : ρ (.tmp 128) = .pointer (some ⟨T, 0, none⟩) := hj (0, 128) (by simp)
              simp [gives, go_sem, x0, hf]
              exact (pLate17 T B5 s5 w3 (HP9.out.grown hB).p).mono fun e w' ⟨v, h1, h2, h3⟩ => ⟨v, h1, h2, h3⟩
            · intro ρ w3 hc hf ho hB hj
              have x0 : ρ (.tmp 9) = .pointer (some ⟨R, 0, none⟩) := ho 9 (by decide)
              simp [gives, go_sem, x0, Below.refl]
            · intro ρ w3 hc hf ho hB hj
              have x0 : ρ (.tmp 130) = .pointer (some ⟨R, 0, none⟩) := hj (2, 130) (by simp)
              simp [gives, go_sem, x0, Below.refl]
            · intro ρ w3 hc hf ho hB hj
              have x0 : ρ (.tmp 131) = .pointer (some ⟨R, 0, none⟩) := hj (3, 131) (by simp)
              simp [gives, go_sem, x0, Below.refl]
            · intro ρ w3 hc hf ho hB hj
              have x0 : ρ (.tmp 132) = .pointer (some ⟨R, 4, none⟩) := hj (4, 132) (by simp)
              obtain ⟨q0, q1, q2, q3, q4, q5⟩ := (HP9.out.grown hB).r.blk.cells
              simp [gives, go_sem, x0, q4, Below.refl]
            · intro ρ w3 hc hf ho hB hj
              have x0 : Sl .i64 w3 (ρ (.tmp 129)) s5.L := hj (1, 129) (by simp)
              have x1 : ρ (.tmp 133) = lv5 := hj (5, 133) (by simp)
              obtain ⟨gv, hgv⟩ : ∃ gv, ρ (.tmp 129) = gv := ⟨_, rfl⟩
              rw [hgv] at x0
              simp [gives, go_sem, x1, hf, hgv]
              exact (ints17_any gv _ _ _ w3 x0 (HP9.out.grown hB).r.l).mono fun e w' ⟨h1, n, h2⟩ => ⟨.bool true, by rw [h1]; simp, rfl, by rw [h2]; exact below_drewN (Below.refl _ _) n⟩
          case tRest =>
            intro X w3 hBw hX
            have x0 : X 0 = .pointer (some ⟨T, 0, none⟩) := hX 0 (by decide)
            have x1 := hX 1 (by decide)
            have x2 : X 2 = .pointer (some ⟨R, 0, none⟩) := hX 2 (by decide)
            have x3 : X 3 = .pointer (some ⟨R, 0, none⟩) := hX 3 (by decide)
            have x4 : X 4 = .pointer (some ⟨R, 4, none⟩) := hX 4 (by decide)
            have x5 : X 5 = lv5 := hX 5 (by decide)
            have x6 : X 6 = .bool true := hX 6 (by decide)
            simp only [putAll, List.getD_cons_zero, List.getD_cons_succ, Act.put, List.setIfInBounds_toArray, List.set_cons_zero, List.set_cons_succ, List.drop_succ_cons, List.drop_zero]
            rw [x0, x2, x3, x4, x5, x6]
            clear x0 x2 x3 x4 x5 x6
            have HPa := Lib.hid (HP9.out.grown hBw)
            clear HP9 hBw hX x1
            generalize w3 = w9 at HPa ⊢
            have HP9 := HPa
            clear HPa
            go_wp2_with fail
            refine wp_region_quiet (C := fun w' => Below w9.heap.size w9 w') (by kernel_rfl) (by kernel_rfl) (Below.refl _ _).drew ?_
            refine quiet_take (.int .i64 E) rfl (quiet_pure (fun w => rfl)) ?_
            simp only [Act.put, List.setIfInBounds_toArray, List.set_cons_zero, List.set_cons_succ]
            refine quiet_take (.int .i64 E) rfl (quiet_pure (fun w => rfl)) ?_
            simp only [Act.put, List.setIfInBounds_toArray, List.set_cons_zero, List.set_cons_succ]
            refine quiet_take (.bool false) rfl (quiet_pure (fun w => by simp [go_sem])) ?_
            simp only [Act.put, List.setIfInBounds_toArray, List.set_cons_zero, List.set_cons_succ]
            refine quiet_take (.bool false) rfl (quiet_pure (fun w => rfl)) ?_
            simp only [Act.put, List.setIfInBounds_toArray, List.set_cons_zero, List.set_cons_succ]
            refine quiet_take (.bool true) rfl (quiet_pure (fun w => rfl)) ?_
            simp only [Act.put, List.setIfInBounds_toArray, List.set_cons_zero, List.set_cons_succ]
            refine quiet_take (.bool false) rfl (quiet_pure (fun w => by simp [go_sem])) ?_
            simp only [Act.put, List.setIfInBounds_toArray, List.set_cons_zero, List.set_cons_succ]
            refine quiet_take (.bool false) rfl (quiet_pure (fun w => by simp [go_sem])) ?_
            simp only [Act.put, List.setIfInBounds_toArray, List.set_cons_zero, List.set_cons_succ]
            refine quiet_take (.bool false) rfl (quiet_pure (fun w => rfl)) ?_
            simp only [Act.put, List.setIfInBounds_toArray, List.set_cons_zero, List.set_cons_succ]
            refine quiet_take (.bool true) rfl (quiet_pure (fun w => rfl)) ?_
            simp only [Act.put, List.setIfInBounds_toArray, List.set_cons_zero, List.set_cons_succ]
            refine quiet_take (.bool false) rfl (quiet_pure (fun w => by simp [go_sem])) ?_
            simp only [Act.put, List.setIfInBounds_toArray, List.set_cons_zero, List.set_cons_succ]
            refine quiet_take (.bool false) rfl (quiet_pure (fun w => by simp [go_sem])) ?_
            simp only [Act.put, List.setIfInBounds_toArray, List.set_cons_zero, List.set_cons_succ]
            refine quiet_take (.bool false) rfl (quiet_pure (fun w => rfl)) ?_
            simp only [Act.put, List.setIfInBounds_toArray, List.set_cons_zero, List.set_cons_succ]
            refine quiet_take (.pointer (some ⟨T, 0, none⟩)) rfl (quiet_pure (fun w => rfl)) ?_
            simp only [Act.put, List.setIfInBounds_toArray, List.set_cons_zero, List.set_cons_succ]
            refine quiet_take (.int .i64 s5.hi) rfl (quiet_call 15 _ _ rfl [.pointer (some ⟨T, 0, none⟩)] rfl (enters_of Try.func15 (by kernel_rfl) rfl) (fun w hw => (pHighest17 T B5 s5 w (HP9.out.grown hw).p).mono (by rintro e w'' ⟨rfl, hb⟩; exact ⟨rfl, hw.trans (hb.mono hw.size)⟩))) ?_
            simp only [Act.put, List.setIfInBounds_toArray, List.set_cons_zero, List.set_cons_succ]
            refine quiet_take (.pointer (some ⟨R, 0, none⟩)) rfl (quiet_pure (fun w => rfl)) ?_
            simp only [Act.put, List.setIfInBounds_toArray, List.set_cons_zero, List.set_cons_succ]
            refine quiet_take (.pointer (some ⟨R, 0, none⟩)) rfl (quiet_pure (fun w => by simp [go_sem])) ?_
            simp only [Act.put, List.setIfInBounds_toArray, List.set_cons_zero, List.set_cons_succ]
            refine quiet_take (.pointer (some ⟨R, 2, none⟩)) rfl (quiet_pure (fun w => by simp [go_sem])) ?_
            simp only [Act.put, List.setIfInBounds_toArray, List.set_cons_zero, List.set_cons_succ]
            refine quiet_take (.int .i64 s5.hi) rfl (quiet_is (fun w hw => by obtain ⟨q0, q1, q2, q3, q4, q5⟩ := (HP9.out.grown hw).r.blk.cells; simp [go_sem, q2])) ?_
            simp only [Act.put, List.setIfInBounds_toArray, List.set_cons_zero, List.set_cons_succ]
            refine quiet_take (.bool false) rfl (quiet_pure (fun w => by simp [go_sem])) ?_
            simp only [Act.put, List.setIfInBounds_toArray, List.set_cons_zero, List.set_cons_succ]
            refine quiet_take (.bool false) rfl (quiet_pure (fun w => by simp [go_sem])) ?_
            simp only [Act.put, List.setIfInBounds_toArray, List.set_cons_zero, List.set_cons_succ]
            refine quiet_take (.bool false) rfl (quiet_pure (fun w => rfl)) ?_
            simp only [Act.put, List.setIfInBounds_toArray, List.set_cons_zero, List.set_cons_succ]
            refine quiet_take (.pointer (some ⟨T, 0, none⟩)) rfl (quiet_pure (fun w => rfl)) ?_
            simp only [Act.put, List.setIfInBounds_toArray, List.set_cons_zero, List.set_cons_succ]
            refine quiet_take (.int .i64 idn) rfl (quiet_pure (fun w => rfl)) ?_
            simp only [Act.put, List.setIfInBounds_toArray, List.set_cons_zero, List.set_cons_succ]
            refine quiet_take (.int .i64 (kindT s5 idn)) rfl (quiet_call 16 _ _ rfl [.pointer (some ⟨T, 0, none⟩), .int .i64 idn] rfl (enters_of Try.func16 (by kernel_rfl) rfl) (fun w hw => (pKind17 T B5 s5 idn w (HP9.out.grown hw).p).mono (by rintro e w'' ⟨rfl, hb⟩; exact ⟨rfl, hw.trans (hb.mono hw.size)⟩))) ?_
            simp only [Act.put, List.setIfInBounds_toArray, List.set_cons_zero, List.set_cons_succ]
            refine quiet_take (.pointer (some ⟨R, 0, none⟩)) rfl (quiet_pure (fun w => rfl)) ?_
            simp only [Act.put, List.setIfInBounds_toArray, List.set_cons_zero, List.set_cons_succ]
            refine quiet_take (.int .i64 idn) rfl (quiet_pure (fun w => rfl)) ?_
            simp only [Act.put, List.setIfInBounds_toArray, List.set_cons_zero, List.set_cons_succ]
            refine quiet_take (.int .i64 (kindT s5 idn)) rfl (quiet_call 17 _ _ rfl [.pointer (some ⟨R, 0, none⟩), .int .i64 idn] rfl (enters_of Try.func17 (by kernel_rfl) rfl) (fun w hw => (rkind_any R _ _ s5 idn w (HP9.out.grown hw).r).mono (by rintro e w'' ⟨rfl, n, rfl⟩; exact ⟨rfl, below_drewN hw n⟩))) ?_
            simp only [Act.put, List.setIfInBounds_toArray, List.set_cons_zero, List.set_cons_succ]
            refine quiet_take (.bool false) rfl (quiet_pure (fun w => by simp [go_sem])) ?_
            simp only [Act.put, List.setIfInBounds_toArray, List.set_cons_zero, List.set_cons_succ]
            refine quiet_take (.bool false) rfl (quiet_pure (fun w => by simp [go_sem])) ?_
            simp only [Act.put, List.setIfInBounds_toArray, List.set_cons_zero, List.set_cons_succ]
            refine quiet_take (.bool false) rfl (quiet_pure (fun w => rfl)) ?_
            simp only [Act.put, List.setIfInBounds_toArray, List.set_cons_zero, List.set_cons_succ]
            refine quiet_take (.pointer (some ⟨T, 0, none⟩)) rfl (quiet_pure (fun w => rfl)) ?_
            simp only [Act.put, List.setIfInBounds_toArray, List.set_cons_zero, List.set_cons_succ]
            refine quiet_take (.slice (some ⟨ab, off, none⟩) N c) rfl (quiet_pure (fun w => rfl)) ?_
            simp only [Act.put, List.setIfInBounds_toArray, List.set_cons_zero, List.set_cons_succ]
            refine quiet_take (.int .i64 (k : Int)) rfl (quiet_pure (fun w => rfl)) ?_
            simp only [Act.put, List.setIfInBounds_toArray, List.set_cons_zero, List.set_cons_succ]
            refine quiet_take (.pointer (some ⟨ab, off + k * 2, none⟩)) rfl (quiet_pure (fun w => by simp [go_sem, hix])) ?_
            simp only [Act.put, List.setIfInBounds_toArray, List.set_cons_zero, List.set_cons_succ]
            refine quiet_take (.pointer (some ⟨ab, off + k * 2 + 1, none⟩)) rfl (quiet_pure (fun w => by simp [go_sem])) ?_
            simp only [Act.put, List.setIfInBounds_toArray, List.set_cons_zero, List.set_cons_succ]
            refine quiet_take (.int .i64 x.n) rfl (quiet_is (fun w hw => by have g1 := (HA.out.below (HP9.out.b.trans (hw.mono HP9.out.b.size))).2.1; simp [go_sem, g1])) ?_
            simp only [Act.put, List.setIfInBounds_toArray, List.set_cons_zero, List.set_cons_succ]
            refine quiet_take (.int .i64 (kindT s5 x.n)) rfl (quiet_call 16 _ _ rfl [.pointer (some ⟨T, 0, none⟩), .int .i64 x.n] rfl (enters_of Try.func16 (by kernel_rfl) rfl) (fun w hw => (pKind17 T B5 s5 x.n w (HP9.out.grown hw).p).mono (by rintro e w'' ⟨rfl, hb⟩; exact ⟨rfl, hw.trans (hb.mono hw.size)⟩))) ?_
            simp only [Act.put, List.setIfInBounds_toArray, List.set_cons_zero, List.set_cons_succ]
            refine quiet_take (.pointer (some ⟨R, 0, none⟩)) rfl (quiet_pure (fun w => rfl)) ?_
            simp only [Act.put, List.setIfInBounds_toArray, List.set_cons_zero, List.set_cons_succ]
            refine quiet_take (.slice (some ⟨ab, off, none⟩) N c) rfl (quiet_pure (fun w => rfl)) ?_
            simp only [Act.put, List.setIfInBounds_toArray, List.set_cons_zero, List.set_cons_succ]
            refine quiet_take (.int .i64 (k : Int)) rfl (quiet_pure (fun w => rfl)) ?_
            simp only [Act.put, List.setIfInBounds_toArray, List.set_cons_zero, List.set_cons_succ]
            refine quiet_take (.pointer (some ⟨ab, off + k * 2, none⟩)) rfl (quiet_pure (fun w => by simp [go_sem, hix])) ?_
            simp only [Act.put, List.setIfInBounds_toArray, List.set_cons_zero, List.set_cons_succ]
            refine quiet_take (.pointer (some ⟨ab, off + k * 2 + 1, none⟩)) rfl (quiet_pure (fun w => by simp [go_sem])) ?_
            simp only [Act.put, List.setIfInBounds_toArray, List.set_cons_zero, List.set_cons_succ]
            refine quiet_take (.int .i64 x.n) rfl (quiet_is (fun w hw => by have g1 := (HA.out.below (HP9.out.b.trans (hw.mono HP9.out.b.size))).2.1; simp [go_sem, g1])) ?_
            simp only [Act.put, List.setIfInBounds_toArray, List.set_cons_zero, List.set_cons_succ]
            refine quiet_take (.int .i64 (kindT s5 x.n)) rfl (quiet_call 17 _ _ rfl [.pointer (some ⟨R, 0, none⟩), .int .i64 x.n] rfl (enters_of Try.func17 (by kernel_rfl) rfl) (fun w hw => (rkind_any R _ _ s5 x.n w (HP9.out.grown hw).r).mono (by rintro e w'' ⟨rfl, n, rfl⟩; exact ⟨rfl, below_drewN hw n⟩))) ?_
            simp only [Act.put, List.setIfInBounds_toArray, List.set_cons_zero, List.set_cons_succ]
            refine quiet_take (.bool false) rfl (quiet_pure (fun w => by simp [go_sem])) ?_
            simp only [Act.put, List.setIfInBounds_toArray, List.set_cons_zero, List.set_cons_succ]
            refine quiet_take (.bool false) rfl (quiet_pure (fun w => by simp [go_sem])) ?_
            simp only [Act.put, List.setIfInBounds_toArray, List.set_cons_zero, List.set_cons_succ]
            intro W10 hb10
            have HP10 := Lib.hid (HP9.out.grown hb10)
            clear hb10 HP9
            go_wp2_with fail
            go_roundg (N - (k + 1))
            case measure => have := HKQ.out; omega
            case rel => exact ⟨k + 1, by omega, by go_num, s5, B5, av5, lv5, HP10⟩
      · have e2 : decide (x.k % 4 < 2) = false := decide_eq_false (by omega)
        obtain ⟨late, hlate⟩ : ∃ late, (x.k % 4 == 3) = late := ⟨_, rfl⟩
        have HLt := Lib.hid hlate
        clear h2 hlate
        go_wp2_with fail
        clear d0 d1 d2 e2
        refine wp_region_table 13 [93, 94, 95, 96, 97, 98, 99, 100, 101, 102, 103, 104, 105] [[], [], [], [(1, 94), (2, 95)], [(3, 96)], [(4, 97)], [], [], [(6, 99), (7, 100)], [(8, 101)], [(9, 102)], [(10, 103)], [(11, 104)]]
          (fun i v w' => match i with
            | 0 => v = .pointer (some ⟨T, 0, none⟩)
            | 1 => v = .slice (some ⟨ab, off, none⟩) N c
            | 2 => v = .int .i64 (k : Int)
            | 3 => v = .pointer (some ⟨ab, off + k * 2, none⟩)
            | 4 => v = .pointer (some ⟨ab, off + k * 2 + 1, none⟩)
            | 5 => v = .int .i64 x.n
            | 6 => v = .slice (some ⟨ab, off, none⟩) N c
            | 7 => v = .int .i64 (k : Int)
            | 8 => v = .pointer (some ⟨ab, off + k * 2, none⟩)
            | 9 => v = .pointer (some ⟨ab, off + k * 2, none⟩)
            | 10 => v = .int .u8 x.k
            | 11 => v = .int .u8 (x.k % 4)
            | 12 => v = .bool late
            | _ => True) (by kernel_rfl) (by kernel_rfl) ?tStab ?tOps ?tRest
        case tStab =>
          intro i v w3 w4 h hb
          match i, h with
          | 0, h | 1, h | 2, h | 3, h | 4, h | 5, h | 6, h | 7, h | 8, h | 9, h | 10, h | 11, h | 12, h => exact h
          | i + 13, _ => trivial
        case tOps =>
          simp only [List.take_succ_cons, List.take_zero, opsOk]
          refine ⟨?_, ?_, ?_, ?_, ?_, ?_, ?_, ?_, ?_, ?_, ?_, ?_, ?_, trivial⟩
          · intro ρ w3 hc hf ho hB hj
            have x0 : ρ (.tmp 7) = .pointer (some ⟨T, 0, none⟩) := ho 7 (by decide)
            simp [gives, go_sem, x0, Below.refl]
          · intro ρ w3 hc hf ho hB hj
            have x0 : ρ (.tmp 1) = .slice (some ⟨ab, off, none⟩) N c := ho 1 (by decide)
            simp [gives, go_sem, x0, Below.refl]
          · intro ρ w3 hc hf ho hB hj
            have x0 : ρ (.tmp 10) = .int .i64 (k : Int) := ho 10 (by decide)
            simp [gives, go_sem, x0, Below.refl]
          · intro ρ w3 hc hf ho hB hj
            have x0 : ρ (.tmp 94) = .slice (some ⟨ab, off, none⟩) N c := hj (1, 94) (by simp)
            have x1 : ρ (.tmp 95) = .int .i64 (k : Int) := hj (2, 95) (by simp)
            have i1 := hix .i64
            simp [gives, go_sem, x0, x1, i1, Below.refl]
          · intro ρ w3 hc hf ho hB hj
            have x0 : ρ (.tmp 96) = .pointer (some ⟨ab, off + k * 2, none⟩) := hj (3, 96) (by simp)
            simp [gives, go_sem, x0, Below.refl]
          · intro ρ w3 hc hf ho hB hj
            have x0 : ρ (.tmp 97) = .pointer (some ⟨ab, off + k * 2 + 1, none⟩) := hj (4, 97) (by simp)
            have g0 := (HA.out.below (HP.out.b.trans (hB.mono HP.out.b.size))).1
            have g1 := (HA.out.below (HP.out.b.trans (hB.mono HP.out.b.size))).2.1
            simp [gives, go_sem, x0, g1, Below.refl]
          · intro ρ w3 hc hf ho hB hj
            have x0 : ρ (.tmp 1) = .slice (some ⟨ab, off, none⟩) N c := ho 1 (by decide)
            simp [gives, go_sem, x0, Below.refl]
          · intro ρ w3 hc hf ho hB hj
            have x0 : ρ (.tmp 10) = .int .i64 (k : Int) := ho 10 (by decide)
            simp [gives, go_sem, x0, Below.refl]
          · intro ρ w3 hc hf ho hB hj
            have x0 : ρ (.tmp 99) = .slice (some ⟨ab, off, none⟩) N c := hj (6, 99) (by simp)
            have x1 : ρ (.tmp 100) = .int .i64 (k : Int) := hj (7, 100) (by simp)
            have i1 := hix .i64
            simp [gives, go_sem, x0, x1, i1, Below.refl]
          · intro ρ w3 hc hf ho hB hj
            have x0 : ρ (.tmp 101) = .pointer (some ⟨ab, off + k * 2, none⟩) := hj (8, 101) (by simp)
            simp [gives, go_sem, x0, Below.refl]
          · intro ρ w3 hc hf ho hB hj
            have x0 : ρ (.tmp 102) = .pointer (some ⟨ab, off + k * 2, none⟩) := hj (9, 102) (by simp)
            have g0 := (HA.out.below (HP.out.b.trans (hB.mono HP.out.b.size))).1
            have g1 := (HA.out.below (HP.out.b.trans (hB.mono HP.out.b.size))).2.1
            simp [gives, go_sem, x0, g0, Below.refl]
          · intro ρ w3 hc hf ho hB hj
            have x0 : ρ (.tmp 103) = .int .u8 x.k := hj (10, 103) (by simp)
            have i2 := HX.out
            have i4 : x.k.tmod 4 = x.k % 4 := Int.tmod_eq_emod_of_nonneg i2.1
            simp [gives, go_sem, x0, hc, i4, Below.refl]
          · intro ρ w3 hc hf ho hB hj
            have x0 : ρ (.tmp 104) = .int .u8 (x.k % 4) := hj (11, 104) (by simp)
            have i3 := HLt.out
            simp [gives, go_sem, x0, hc, i3, Below.refl]
        case tRest =>
          intro X w3 hBw hX
          have x0 : X 0 = .pointer (some ⟨T, 0, none⟩) := hX 0 (by decide)
          have x1 : X 1 = .slice (some ⟨ab, off, none⟩) N c := hX 1 (by decide)
          have x2 : X 2 = .int .i64 (k : Int) := hX 2 (by decide)
          have x3 : X 3 = .pointer (some ⟨ab, off + k * 2, none⟩) := hX 3 (by decide)
          have x4 : X 4 = .pointer (some ⟨ab, off + k * 2 + 1, none⟩) := hX 4 (by decide)
          have x5 : X 5 = .int .i64 x.n := hX 5 (by decide)
          have x6 : X 6 = .slice (some ⟨ab, off, none⟩) N c := hX 6 (by decide)
          have x7 : X 7 = .int .i64 (k : Int) := hX 7 (by decide)
          have x8 : X 8 = .pointer (some ⟨ab, off + k * 2, none⟩) := hX 8 (by decide)
          have x9 : X 9 = .pointer (some ⟨ab, off + k * 2, none⟩) := hX 9 (by decide)
          have x10 : X 10 = .int .u8 x.k := hX 10 (by decide)
          have x11 : X 11 = .int .u8 (x.k % 4) := hX 11 (by decide)
          have x12 : X 12 = .bool late := hX 12 (by decide)
          simp only [putAll, List.getD_cons_zero, List.getD_cons_succ, Act.put, List.setIfInBounds_toArray, List.set_cons_zero, List.set_cons_succ, List.drop_succ_cons, List.drop_zero]
          rw [x0, x1, x2, x3, x4, x5, x6, x7, x8, x9, x10, x11, x12]
          have HP2 := Lib.hid (HP.out.grown hBw)
          clear hBw hX HP x0 x1 x2 x3 x4 x5 x6 x7 x8 x9 x10 x11 x12
          go_wp2_with fail
          refine (pClose17 T B s x.n late w3 HP2.out.p).mono ?_
          rintro e W4 ⟨B5, rfl, h1, h3, h4⟩
          have HP4 := Lib.hid (HP2.out.stepP h1 h3 h4)
          clear h1 h3 h4 HP2
          go_wp2_with fail
          refine wp_region_table 13 [107, 108, 109, 110, 111, 112, 113, 114, 115, 116, 117, 118, 119] [[], [], [], [(1, 108), (2, 109)], [(3, 110)], [(4, 111)], [], [], [(6, 113), (7, 114)], [(8, 115)], [(9, 116)], [(10, 117)], [(11, 118)]]
            (fun i v w' => match i with
              | 0 => v = .pointer (some ⟨R, 0, none⟩)
              | 1 => v = .slice (some ⟨ab, off, none⟩) N c
              | 2 => v = .int .i64 (k : Int)
              | 3 => v = .pointer (some ⟨ab, off + k * 2, none⟩)
              | 4 => v = .pointer (some ⟨ab, off + k * 2 + 1, none⟩)
              | 5 => v = .int .i64 x.n
              | 6 => v = .slice (some ⟨ab, off, none⟩) N c
              | 7 => v = .int .i64 (k : Int)
              | 8 => v = .pointer (some ⟨ab, off + k * 2, none⟩)
              | 9 => v = .pointer (some ⟨ab, off + k * 2, none⟩)
              | 10 => v = .int .u8 x.k
              | 11 => v = .int .u8 (x.k % 4)
              | 12 => v = .bool late
              | _ => True) (by kernel_rfl) (by kernel_rfl) ?tStab ?tOps ?tRest
          case tStab =>
            intro i v w3 w4 h hb
            match i, h with
            | 0, h | 1, h | 2, h | 3, h | 4, h | 5, h | 6, h | 7, h | 8, h | 9, h | 10, h | 11, h | 12, h => exact h
            | i + 13, _ => trivial
          case tOps =>
            simp only [List.take_succ_cons, List.take_zero, opsOk]
            refine ⟨?_, ?_, ?_, ?_, ?_, ?_, ?_, ?_, ?_, ?_, ?_, ?_, ?_, trivial⟩
            · intro ρ w3 hc hf ho hB hj
              have x0 : ρ (.tmp 9) = .pointer (some ⟨R, 0, none⟩) := ho 9 (by decide)
              simp [gives, go_sem, x0, Below.refl]
            · intro ρ w3 hc hf ho hB hj
              have x0 : ρ (.tmp 1) = .slice (some ⟨ab, off, none⟩) N c := ho 1 (by decide)
              simp [gives, go_sem, x0, Below.refl]
            · intro ρ w3 hc hf ho hB hj
              have x0 : ρ (.tmp 10) = .int .i64 (k : Int) := ho 10 (by decide)
              simp [gives, go_sem, x0, Below.refl]
            · intro ρ w3 hc hf ho hB hj
              have x0 : ρ (.tmp 108) = .slice (some ⟨ab, off, none⟩) N c := hj (1, 108) (by simp)
              have x1 : ρ (.tmp 109) = .int .i64 (k : Int) := hj (2, 109) (by simp)
              have i1 := hix .i64
              simp [gives, go_sem, x0, x1, i1, Below.refl]
            · intro ρ w3 hc hf ho hB hj
              have x0 : ρ (.tmp 110) = .pointer (some ⟨ab, off + k * 2, none⟩) := hj (3, 110) (by simp)
              simp [gives, go_sem, x0, Below.refl]
            · intro ρ w3 hc hf ho hB hj
              have x0 : ρ (.tmp 111) = .pointer (some ⟨ab, off + k * 2 + 1, none⟩) := hj (4, 111) (by simp)
              have g0 := (HA.out.below (HP4.out.b.trans (hB.mono HP4.out.b.size))).1
              have g1 := (HA.out.below (HP4.out.b.trans (hB.mono HP4.out.b.size))).2.1
              simp [gives, go_sem, x0, g1, Below.refl]
            · intro ρ w3 hc hf ho hB hj
              have x0 : ρ (.tmp 1) = .slice (some ⟨ab, off, none⟩) N c := ho 1 (by decide)
              simp [gives, go_sem, x0, Below.refl]
            · intro ρ w3 hc hf ho hB hj
              have x0 : ρ (.tmp 10) = .int .i64 (k : Int) := ho 10 (by decide)
              simp [gives, go_sem, x0, Below.refl]
            · intro ρ w3 hc hf ho hB hj
              have x0 : ρ (.tmp 113) = .slice (some ⟨ab, off, none⟩) N c := hj (6, 113) (by simp)
              have x1 : ρ (.tmp 114) = .int .i64 (k : Int) := hj (7, 114) (by simp)
              have i1 := hix .i64
              simp [gives, go_sem, x0, x1, i1, Below.refl]
            · intro ρ w3 hc hf ho hB hj
              have x0 : ρ (.tmp 115) = .pointer (some ⟨ab, off + k * 2, none⟩) := hj (8, 115) (by simp)
              simp [gives, go_sem, x0, Below.refl]
            · intro ρ w3 hc hf ho hB hj
              have x0 : ρ (.tmp 116) = .pointer (some ⟨ab, off + k * 2, none⟩) := hj (9, 116) (by simp)
              have g0 := (HA.out.below (HP4.out.b.trans (hB.mono HP4.out.b.size))).1
              have g1 := (HA.out.below (HP4.out.b.trans (hB.mono HP4.out.b.size))).2.1
              simp [gives, go_sem, x0, g0, Below.refl]
            · intro ρ w3 hc hf ho hB hj
              have x0 : ρ (.tmp 117) = .int .u8 x.k := hj (10, 117) (by simp)
              have i2 := HX.out
              have i4 : x.k.tmod 4 = x.k % 4 := Int.tmod_eq_emod_of_nonneg i2.1
              simp [gives, go_sem, x0, hc, i4, Below.refl]
            · intro ρ w3 hc hf ho hB hj
              have x0 : ρ (.tmp 118) = .int .u8 (x.k % 4) := hj (11, 118) (by simp)
              have i3 := HLt.out
              simp [gives, go_sem, x0, hc, i3, Below.refl]
          case tRest =>
            intro X w3 hBw hX
            have x0 : X 0 = .pointer (some ⟨R, 0, none⟩) := hX 0 (by decide)
            have x1 : X 1 = .slice (some ⟨ab, off, none⟩) N c := hX 1 (by decide)
            have x2 : X 2 = .int .i64 (k : Int) := hX 2 (by decide)
            have x3 : X 3 = .pointer (some ⟨ab, off + k * 2, none⟩) := hX 3 (by decide)
            have x4 : X 4 = .pointer (some ⟨ab, off + k * 2 + 1, none⟩) := hX 4 (by decide)
            have x5 : X 5 = .int .i64 x.n := hX 5 (by decide)
            have x6 : X 6 = .slice (some ⟨ab, off, none⟩) N c := hX 6 (by decide)
            have x7 : X 7 = .int .i64 (k : Int) := hX 7 (by decide)
            have x8 : X 8 = .pointer (some ⟨ab, off + k * 2, none⟩) := hX 8 (by decide)
            have x9 : X 9 = .pointer (some ⟨ab, off + k * 2, none⟩) := hX 9 (by decide)
            have x10 : X 10 = .int .u8 x.k := hX 10 (by decide)
            have x11 : X 11 = .int .u8 (x.k % 4) := hX 11 (by decide)
            have x12 : X 12 = .bool late := hX 12 (by decide)
            simp only [putAll, List.getD_cons_zero, List.getD_cons_succ, Act.put, List.setIfInBounds_toArray, List.set_cons_zero, List.set_cons_succ, List.drop_succ_cons, List.drop_zero]
            rw [x0, x1, x2, x3, x4, x5, x6, x7, x8, x9, x10, x11, x12]
            have HP6 := Lib.hid (HP4.out.grown hBw)
            clear hBw hX HP4 x0 x1 x2 x3 x4 x5 x6 x7 x8 x9 x10 x11 x12
            go_wp2_with fail
            refine (rclose_any R av lv s x.n late w3 HP6.out.r (by have := HSm.out; omega) (by have := HSm.out; omega)).mono ?_
            rintro e W5 ⟨rfl, av5, lv5, h1, h3, h4, h5⟩
            have HP5 := Lib.hid (HP6.out.stepR h1 h3 h4 h5)
            clear h1 h3 h4 h5 HP6
            generalize closeS s x.n late = s5 at HP5
            generalize closeE s x.n = E
            generalize hw9 : W5 = w9 at HP5 ⊢
            have HP9 := HP5
            clear HP5 hw9
            go_wp2_with fail
            refine wp_region_table 7 [121, 122, 123, 124, 125, 126, 127] [[], [(0, 121)], [], [(2, 123)], [(3, 124)], [(4, 125)], [(1, 122), (5, 126)]]
              (fun i v w' => match i with
                | 0 => v = .pointer (some ⟨T, 0, none⟩)
                | 1 => Sl .i64 w' v s5.A
                | 2 => v = .pointer (some ⟨R, 0, none⟩)
                | 3 => v = .pointer (some ⟨R, 0, none⟩)
                | 4 => v = .pointer (some ⟨R, 3, none⟩)
                | 5 => v = av5
                | 6 => v = .bool true
                | _ => True) (by kernel_rfl) (by kernel_rfl) ?tStab ?tOps ?tRest
            case tStab =>
              intro i v w3 w4 h hb
              match i, h with
              | 0, h | 2, h | 3, h | 4, h | 5, h | 6, h => exact h
              | 1, h => exact Sl.below h hb
              | i + 7, _ => trivial
            case tOps =>
              simp only [List.take_succ_cons, List.take_zero, opsOk]
              refine ⟨?_, ?_, ?_, ?_, ?_, ?_, ?_, trivial⟩
              · intro ρ w3 hc hf ho hB hj
                have x0 : ρ (.tmp 7) = .pointer (some ⟨T, 0, none⟩) := ho 7 (by decide)
                simp [gives, go_sem, x0, Below.refl]
              · intro ρ w3 hc hf ho hB hj
                have x0 : ρ (.tmp 121) = .pointer (some ⟨T, 0, none⟩) := hj (0, 121) (by simp)
                simp [gives, go_sem, x0, hf]
                exact (pActive17 T B5 s5 w3 (HP9.out.grown hB).p).mono fun e w' ⟨v, h1, h2, h3⟩ => ⟨v, h1, h2, h3⟩
              · intro ρ w3 hc hf ho hB hj
                have x0 : ρ (.tmp 9) = .pointer (some ⟨R, 0, none⟩) := ho 9 (by decide)
                simp [gives, go_sem, x0, Below.refl]
              · intro ρ w3 hc hf ho hB hj
                have x0 : ρ (.tmp 123) = .pointer (some ⟨R, 0, none⟩) := hj (2, 123) (by simp)
                simp [gives, go_sem, x0, Below.refl]
              · intro ρ w3 hc hf ho hB hj
                have x0 : ρ (.tmp 124) = .pointer (some ⟨R, 0, none⟩) := hj (3, 124) (by simp)
                simp [gives, go_sem, x0, Below.refl]
              · intro ρ w3 hc hf ho hB hj
                have x0 : ρ (.tmp 125) = .pointer (some ⟨R, 3, none⟩) := hj (4, 125) (by simp)
                obtain ⟨q0, q1, q2, q3, q4, q5⟩ := (HP9.out.grown hB).r.blk.cells
                simp [gives, go_sem, x0, q3, Below.refl]
              · intro ρ w3 hc hf ho hB hj
                have x0 : Sl .i64 w3 (ρ (.tmp 122)) s5.A := hj (1, 122) (by simp)
                have x1 : ρ (.tmp 126) = av5 := hj (5, 126) (by simp)
                obtain ⟨gv, hgv⟩ : ∃ gv, ρ (.tmp 122) = gv := ⟨_, rfl⟩
                rw [hgv] at x0
                simp [gives, go_sem, x1, hf, hgv]
                exact (ints17_any gv _ _ _ w3 x0 (HP9.out.grown hB).r.a).mono fun e w' ⟨h1, n, h2⟩ => ⟨.bool true, by rw [h1]; simp, rfl, by rw [h2]; exact below_drewN (Below.refl _ _) n⟩
            case tRest =>
              intro X w3 hBw hX
              have x0 : X 0 = .pointer (some ⟨T, 0, none⟩) := hX 0 (by decide)
              have x1 := hX 1 (by decide)
              have x2 : X 2 = .pointer (some ⟨R, 0, none⟩) := hX 2 (by decide)
              have x3 : X 3 = .pointer (some ⟨R, 0, none⟩) := hX 3 (by decide)
              have x4 : X 4 = .pointer (some ⟨R, 3, none⟩) := hX 4 (by decide)
              have x5 : X 5 = av5 := hX 5 (by decide)
              have x6 : X 6 = .bool true := hX 6 (by decide)
              simp only [putAll, List.getD_cons_zero, List.getD_cons_succ, Act.put, List.setIfInBounds_toArray, List.set_cons_zero, List.set_cons_succ, List.drop_succ_cons, List.drop_zero]
              rw [x0, x2, x3, x4, x5, x6]
              clear x0 x2 x3 x4 x5 x6
              have HPa := Lib.hid (HP9.out.grown hBw)
              clear HP9 hBw hX x1
              generalize w3 = w9 at HPa ⊢
              have HP9 := HPa
              clear HPa
              go_wp2_with fail
              refine wp_region_table 7 [128, 129, 130, 131, 132, 133, 134] [[], [(0, 128)], [], [(2, 130)], [(3, 131)], [(4, 132)], [(1, 129), (5, 133)]]
                (fun i v w' => match i with
                  | 0 => v = .pointer (some ⟨T, 0, none⟩)
                  | 1 => Sl .i64 w' v s5.L
                  | 2 => v = .pointer (some ⟨R, 0, none⟩)
                  | 3 => v = .pointer (some ⟨R, 0, none⟩)
                  | 4 => v = .pointer (some ⟨R, 4, none⟩)
                  | 5 => v = lv5
                  | 6 => v = .bool true
                  | _ => True) (by kernel_rfl) (by kernel_rfl) ?tStab ?tOps ?tRest
              case tStab =>
                intro i v w3 w4 h hb
                match i, h with
                | 0, h | 2, h | 3, h | 4, h | 5, h | 6, h => exact h
                | 1, h => exact Sl.below h hb
                | i + 7, _ => trivial
              case tOps =>
                simp only [List.take_succ_cons, List.take_zero, opsOk]
                refine ⟨?_, ?_, ?_, ?_, ?_, ?_, ?_, trivial⟩
                · intro ρ w3 hc hf ho hB hj
                  have x0 : ρ (.tmp 7) = .pointer (some ⟨T, 0, none⟩) := ho 7 (by decide)
                  simp [gives, go_sem, x0, Below.refl]
                · intro ρ w3 hc hf ho hB hj
                  have x0 : ρ (.tmp 128) = .pointer (some ⟨T, 0, none⟩) := hj (0, 128) (by simp)
                  simp [gives, go_sem, x0, hf]
                  exact (pLate17 T B5 s5 w3 (HP9.out.grown hB).p).mono fun e w' ⟨v, h1, h2, h3⟩ => ⟨v, h1, h2, h3⟩
                · intro ρ w3 hc hf ho hB hj
                  have x0 : ρ (.tmp 9) = .pointer (some ⟨R, 0, none⟩) := ho 9 (by decide)
                  simp [gives, go_sem, x0, Below.refl]
                · intro ρ w3 hc hf ho hB hj
                  have x0 : ρ (.tmp 130) = .pointer (some ⟨R, 0, none⟩) := hj (2, 130) (by simp)
                  simp [gives, go_sem, x0, Below.refl]
                · intro ρ w3 hc hf ho hB hj
                  have x0 : ρ (.tmp 131) = .pointer (some ⟨R, 0, none⟩) := hj (3, 131) (by simp)
                  simp [gives, go_sem, x0, Below.refl]
                · intro ρ w3 hc hf ho hB hj
                  have x0 : ρ (.tmp 132) = .pointer (some ⟨R, 4, none⟩) := hj (4, 132) (by simp)
                  obtain ⟨q0, q1, q2, q3, q4, q5⟩ := (HP9.out.grown hB).r.blk.cells
                  simp [gives, go_sem, x0, q4, Below.refl]
                · intro ρ w3 hc hf ho hB hj
                  have x0 : Sl .i64 w3 (ρ (.tmp 129)) s5.L := hj (1, 129) (by simp)
                  have x1 : ρ (.tmp 133) = lv5 := hj (5, 133) (by simp)
                  obtain ⟨gv, hgv⟩ : ∃ gv, ρ (.tmp 129) = gv := ⟨_, rfl⟩
                  rw [hgv] at x0
                  simp [gives, go_sem, x1, hf, hgv]
                  exact (ints17_any gv _ _ _ w3 x0 (HP9.out.grown hB).r.l).mono fun e w' ⟨h1, n, h2⟩ => ⟨.bool true, by rw [h1]; simp, rfl, by rw [h2]; exact below_drewN (Below.refl _ _) n⟩
              case tRest =>
                intro X w3 hBw hX
                have x0 : X 0 = .pointer (some ⟨T, 0, none⟩) := hX 0 (by decide)
                have x1 := hX 1 (by decide)
                have x2 : X 2 = .pointer (some ⟨R, 0, none⟩) := hX 2 (by decide)
                have x3 : X 3 = .pointer (some ⟨R, 0, none⟩) := hX 3 (by decide)
                have x4 : X 4 = .pointer (some ⟨R, 4, none⟩) := hX 4 (by decide)
                have x5 : X 5 = lv5 := hX 5 (by decide)
                have x6 : X 6 = .bool true := hX 6 (by decide)
                simp only [putAll, List.getD_cons_zero, List.getD_cons_succ, Act.put, List.setIfInBounds_toArray, List.set_cons_zero, List.set_cons_succ, List.drop_succ_cons, List.drop_zero]
                rw [x0, x2, x3, x4, x5, x6]
                clear x0 x2 x3 x4 x5 x6
                have HPa := Lib.hid (HP9.out.grown hBw)
                clear HP9 hBw hX x1
                generalize w3 = w9 at HPa ⊢
                have HP9 := HPa
                clear HPa
                go_wp2_with fail
                refine wp_region_quiet (C := fun w' => Below w9.heap.size w9 w') (by kernel_rfl) (by kernel_rfl) (Below.refl _ _).drew ?_
                refine quiet_take (.int .i64 E) rfl (quiet_pure (fun w => rfl)) ?_
                simp only [Act.put, List.setIfInBounds_toArray, List.set_cons_zero, List.set_cons_succ]
                refine quiet_take (.int .i64 E) rfl (quiet_pure (fun w => rfl)) ?_
                simp only [Act.put, List.setIfInBounds_toArray, List.set_cons_zero, List.set_cons_succ]
                refine quiet_take (.bool false) rfl (quiet_pure (fun w => by simp [go_sem])) ?_
                simp only [Act.put, List.setIfInBounds_toArray, List.set_cons_zero, List.set_cons_succ]
                refine quiet_take (.bool false) rfl (quiet_pure (fun w => rfl)) ?_
                simp only [Act.put, List.setIfInBounds_toArray, List.set_cons_zero, List.set_cons_succ]
                refine quiet_take (.bool true) rfl (quiet_pure (fun w => rfl)) ?_
                simp only [Act.put, List.setIfInBounds_toArray, List.set_cons_zero, List.set_cons_succ]
                refine quiet_take (.bool false) rfl (quiet_pure (fun w => by simp [go_sem])) ?_
                simp only [Act.put, List.setIfInBounds_toArray, List.set_cons_zero, List.set_cons_succ]
                refine quiet_take (.bool false) rfl (quiet_pure (fun w => by simp [go_sem])) ?_
                simp only [Act.put, List.setIfInBounds_toArray, List.set_cons_zero, List.set_cons_succ]
                refine quiet_take (.bool false) rfl (quiet_pure (fun w => rfl)) ?_
                simp only [Act.put, List.setIfInBounds_toArray, List.set_cons_zero, List.set_cons_succ]
                refine quiet_take (.bool true) rfl (quiet_pure (fun w => rfl)) ?_
                simp only [Act.put, List.setIfInBounds_toArray, List.set_cons_zero, List.set_cons_succ]
                refine quiet_take (.bool false) rfl (quiet_pure (fun w => by simp [go_sem])) ?_
                simp only [Act.put, List.setIfInBounds_toArray, List.set_cons_zero, List.set_cons_succ]
                refine quiet_take (.bool false) rfl (quiet_pure (fun w => by simp [go_sem])) ?_
                simp only [Act.put, List.setIfInBounds_toArray, List.set_cons_zero, List.set_cons_succ]
                refine quiet_take (.bool false) rfl (quiet_pure (fun w => rfl)) ?_
                simp only [Act.put, List.setIfInBounds_toArray, List.set_cons_zero, List.set_cons_succ]
                refine quiet_take (.pointer (some ⟨T, 0, none⟩)) rfl (quiet_pure (fun w => rfl)) ?_
                simp only [Act.put, List.setIfInBounds_toArray, List.set_cons_zero, List.set_cons_succ]
                refine quiet_take (.int .i64 s5.hi) rfl (quiet_call 15 _ _ rfl [.pointer (some ⟨T, 0, none⟩)] rfl (enters_of Try.func15 (by kernel_rfl) rfl) (fun w hw => (pHighest17 T B5 s5 w (HP9.out.grown hw).p).mono (by rintro e w'' ⟨rfl, hb⟩; exact ⟨rfl, hw.trans (hb.mono hw.size)⟩))) ?_
                simp only [Act.put, List.setIfInBounds_toArray, List.set_cons_zero, List.set_cons_succ]
                refine quiet_take (.pointer (some ⟨R, 0, none⟩)) rfl (quiet_pure (fun w => rfl)) ?_
                simp only [Act.put, List.setIfInBounds_toArray, List.set_cons_zero, List.set_cons_succ]
                refine quiet_take (.pointer (some ⟨R, 0, none⟩)) rfl (quiet_pure (fun w => by simp [go_sem])) ?_
                simp only [Act.put, List.setIfInBounds_toArray, List.set_cons_zero, List.set_cons_succ]
                refine quiet_take (.pointer (some ⟨R, 2, none⟩)) rfl (quiet_pure (fun w => by simp [go_sem])) ?_
                simp only [Act.put, List.setIfInBounds_toArray, List.set_cons_zero, List.set_cons_succ]
                refine quiet_take (.int .i64 s5.hi) rfl (quiet_is (fun w hw => by obtain ⟨q0, q1, q2, q3, q4, q5⟩ := (HP9.out.grown hw).r.blk.cells; simp [go_sem, q2])) ?_
                simp only [Act.put, List.setIfInBounds_toArray, List.set_cons_zero, List.set_cons_succ]
                refine quiet_take (.bool false) rfl (quiet_pure (fun w => by simp [go_sem])) ?_
                simp only [Act.put, List.setIfInBounds_toArray, List.set_cons_zero, List.set_cons_succ]
                refine quiet_take (.bool false) rfl (quiet_pure (fun w => by simp [go_sem])) ?_
                simp only [Act.put, List.setIfInBounds_toArray, List.set_cons_zero, List.set_cons_succ]
                refine quiet_take (.bool false) rfl (quiet_pure (fun w => rfl)) ?_
                simp only [Act.put, List.setIfInBounds_toArray, List.set_cons_zero, List.set_cons_succ]
                refine quiet_take (.pointer (some ⟨T, 0, none⟩)) rfl (quiet_pure (fun w => rfl)) ?_
                simp only [Act.put, List.setIfInBounds_toArray, List.set_cons_zero, List.set_cons_succ]
                refine quiet_take (.int .i64 idn) rfl (quiet_pure (fun w => rfl)) ?_
                simp only [Act.put, List.setIfInBounds_toArray, List.set_cons_zero, List.set_cons_succ]
                refine quiet_take (.int .i64 (kindT s5 idn)) rfl (quiet_call 16 _ _ rfl [.pointer (some ⟨T, 0, none⟩), .int .i64 idn] rfl (enters_of Try.func16 (by kernel_rfl) rfl) (fun w hw => (pKind17 T B5 s5 idn w (HP9.out.grown hw).p).mono (by rintro e w'' ⟨rfl, hb⟩; exact ⟨rfl, hw.trans (hb.mono hw.size)⟩))) ?_
                simp only [Act.put, List.setIfInBounds_toArray, List.set_cons_zero, List.set_cons_succ]
                refine quiet_take (.pointer (some ⟨R, 0, none⟩)) rfl (quiet_pure (fun w => rfl)) ?_
                simp only [Act.put, List.setIfInBounds_toArray, List.set_cons_zero, List.set_cons_succ]
                refine quiet_take (.int .i64 idn) rfl (quiet_pure (fun w => rfl)) ?_
                simp only [Act.put, List.setIfInBounds_toArray, List.set_cons_zero, List.set_cons_succ]
                refine quiet_take (.int .i64 (kindT s5 idn)) rfl (quiet_call 17 _ _ rfl [.pointer (some ⟨R, 0, none⟩), .int .i64 idn] rfl (enters_of Try.func17 (by kernel_rfl) rfl) (fun w hw => (rkind_any R _ _ s5 idn w (HP9.out.grown hw).r).mono (by rintro e w'' ⟨rfl, n, rfl⟩; exact ⟨rfl, below_drewN hw n⟩))) ?_
                simp only [Act.put, List.setIfInBounds_toArray, List.set_cons_zero, List.set_cons_succ]
                refine quiet_take (.bool false) rfl (quiet_pure (fun w => by simp [go_sem])) ?_
                simp only [Act.put, List.setIfInBounds_toArray, List.set_cons_zero, List.set_cons_succ]
                refine quiet_take (.bool false) rfl (quiet_pure (fun w => by simp [go_sem])) ?_
                simp only [Act.put, List.setIfInBounds_toArray, List.set_cons_zero, List.set_cons_succ]
                refine quiet_take (.bool false) rfl (quiet_pure (fun w => rfl)) ?_
                simp only [Act.put, List.setIfInBounds_toArray, List.set_cons_zero, List.set_cons_succ]
                refine quiet_take (.pointer (some ⟨T, 0, none⟩)) rfl (quiet_pure (fun w => rfl)) ?_
                simp only [Act.put, List.setIfInBounds_toArray, List.set_cons_zero, List.set_cons_succ]
                refine quiet_take (.slice (some ⟨ab, off, none⟩) N c) rfl (quiet_pure (fun w => rfl)) ?_
                simp only [Act.put, List.setIfInBounds_toArray, List.set_cons_zero, List.set_cons_succ]
                refine quiet_take (.int .i64 (k : Int)) rfl (quiet_pure (fun w => rfl)) ?_
                simp only [Act.put, List.setIfInBounds_toArray, List.set_cons_zero, List.set_cons_succ]
                refine quiet_take (.pointer (some ⟨ab, off + k * 2, none⟩)) rfl (quiet_pure (fun w => by simp [go_sem, hix])) ?_
                simp only [Act.put, List.setIfInBounds_toArray, List.set_cons_zero, List.set_cons_succ]
                refine quiet_take (.pointer (some ⟨ab, off + k * 2 + 1, none⟩)) rfl (quiet_pure (fun w => by simp [go_sem])) ?_
                simp only [Act.put, List.setIfInBounds_toArray, List.set_cons_zero, List.set_cons_succ]
                refine quiet_take (.int .i64 x.n) rfl (quiet_is (fun w hw => by have g1 := (HA.out.below (HP9.out.b.trans (hw.mono HP9.out.b.size))).2.1; simp [go_sem, g1])) ?_
                simp only [Act.put, List.setIfInBounds_toArray, List.set_cons_zero, List.set_cons_succ]
                refine quiet_take (.int .i64 (kindT s5 x.n)) rfl (quiet_call 16 _ _ rfl [.pointer (some ⟨T, 0, none⟩), .int .i64 x.n] rfl (enters_of Try.func16 (by kernel_rfl) rfl) (fun w hw => (pKind17 T B5 s5 x.n w (HP9.out.grown hw).p).mono (by rintro e w'' ⟨rfl, hb⟩; exact ⟨rfl, hw.trans (hb.mono hw.size)⟩))) ?_
                simp only [Act.put, List.setIfInBounds_toArray, List.set_cons_zero, List.set_cons_succ]
                refine quiet_take (.pointer (some ⟨R, 0, none⟩)) rfl (quiet_pure (fun w => rfl)) ?_
                simp only [Act.put, List.setIfInBounds_toArray, List.set_cons_zero, List.set_cons_succ]
                refine quiet_take (.slice (some ⟨ab, off, none⟩) N c) rfl (quiet_pure (fun w => rfl)) ?_
                simp only [Act.put, List.setIfInBounds_toArray, List.set_cons_zero, List.set_cons_succ]
                refine quiet_take (.int .i64 (k : Int)) rfl (quiet_pure (fun w => rfl)) ?_
                simp only [Act.put, List.setIfInBounds_toArray, List.set_cons_zero, List.set_cons_succ]
                refine quiet_take (.pointer (some ⟨ab, off + k * 2, none⟩)) rfl (quiet_pure (fun w => by simp [go_sem, hix])) ?_
                simp only [Act.put, List.setIfInBounds_toArray, List.set_cons_zero, List.set_cons_succ]
                refine quiet_take (.pointer (some ⟨ab, off + k * 2 + 1, none⟩)) rfl (quiet_pure (fun w => by simp [go_sem])) ?_
                simp only [Act.put, List.setIfInBounds_toArray, List.set_cons_zero, List.set_cons_succ]
                refine quiet_take (.int .i64 x.n) rfl (quiet_is (fun w hw => by have g1 := (HA.out.below (HP9.out.b.trans (hw.mono HP9.out.b.size))).2.1; simp [go_sem, g1])) ?_
                simp only [Act.put, List.setIfInBounds_toArray, List.set_cons_zero, List.set_cons_succ]
                refine quiet_take (.int .i64 (kindT s5 x.n)) rfl (quiet_call 17 _ _ rfl [.pointer (some ⟨R, 0, none⟩), .int .i64 x.n] rfl (enters_of Try.func17 (by kernel_rfl) rfl) (fun w hw => (rkind_any R _ _ s5 x.n w (HP9.out.grown hw).r).mono (by rintro e w'' ⟨rfl, n, rfl⟩; exact ⟨rfl, below_drewN hw n⟩))) ?_
                simp only [Act.put, List.setIfInBounds_toArray, List.set_cons_zero, List.set_cons_succ]
                refine quiet_take (.bool false) rfl (quiet_pure (fun w => by simp [go_sem])) ?_
                simp only [Act.put, List.setIfInBounds_toArray, List.set_cons_zero, List.set_cons_succ]
                refine quiet_take (.bool false) rfl (quiet_pure (fun w => by simp [go_sem])) ?_
                simp only [Act.put, List.setIfInBounds_toArray, List.set_cons_zero, List.set_cons_succ]
                intro W10 hb10
                have HP10 := Lib.hid (HP9.out.grown hb10)
                clear hb10 HP9
                go_wp2_with fail
                go_roundg (N - (k + 1))
                case measure => have := HKQ.out; omega
                case rel => exact ⟨k + 1, by omega, by go_num, s5, B5, av5, lv5, HP10⟩
    · obtain rfl : k = N := by omega
      clear hlt hk
      go_wp2_with fail
      refine (alive17 _).mono ?_
      rintro e w3 ⟨rfl, hb3⟩
      have HB3 := Lib.hid (HB1.out.1.trans ((HP.out.b.trans (hb3.mono HP.out.b.size)).mono HB1.out.1.size))
      clear hb3
      go_wp2_with fail
      refine (pOpen17_nil 1 _).mono ?_
      rintro e w4 ⟨rfl, hb⟩
      have HB4 := Lib.hid (HB3.out.trans (hb.mono HB3.out.size))
      clear hb
      go_wp2_with fail
      refine (pClose17_nil 1 true _).mono ?_
      rintro e w5 ⟨rfl, hb⟩
      have HB5 := Lib.hid (HB4.out.trans (hb.mono HB4.out.size))
      clear hb
      go_wp2_with fail
      refine (pKind17_nil 1 _).mono ?_
      rintro e w6 ⟨rfl, hb⟩
      have HB6 := Lib.hid (HB5.out.trans (hb.mono HB5.out.size))
      clear hb
      go_wp2_with fail
      refine (pHighest17_nil _).mono ?_
      rintro e w7 ⟨rfl, hb⟩
      have HB7 := Lib.hid (HB6.out.trans (hb.mono HB6.out.size))
      clear hb
      go_wp2_with fail
      refine (pActive17_nil _).mono ?_
      rintro e w8 ⟨v8, rfl, hv, hb⟩
      obtain ⟨av8, cv8, rfl, _⟩ := hv
      have HB8 := Lib.hid (HB7.out.trans (hb.mono HB7.out.size))
      clear hb
      go_wp2_with fail
      refine (pLate17_nil _).mono ?_
      rintro e w9 ⟨v9, rfl, hv, hb⟩
      obtain ⟨av9, cv9, rfl, _⟩ := hv
      have HB9 := Lib.hid (HB8.out.trans (hb.mono HB8.out.size))
      clear hb
      go_wp2_with fail
      go_ret
      exact ⟨rfl, HB9.out⟩
end Go.Proofs.Ytcompnndnelamaa
