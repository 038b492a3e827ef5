
/-
  Layer 19: the law ControlPlays (written by wip/tools/gen19b.py).
-/
import Derived.Test.YtiappeagdnkedaaLaw19
import Derived.Test.YtiappeagdnkedaaLaw19a
import Derived.Test.YtiappeagdnkedaaMoved
import Derived.Test.YtiappeagdnkedaaRef02
import Derived.Test.YtiappeagdnkedaaQuiet
import Derived.Test.YtiappeagdnkedaaBuilds
import Derived.WalkMore
import Derived.Shelf.Abstract
namespace Go.Proofs.Ytiappeagdnkedaa
set_option maxRecDepth 20000
open Go.RowKit

/-- the program's queue and the reference's, apart -/
structure Pl19 (w W : World) (T : Nat) (B K : Nat → Prop) (q : Q19) (R : Nat) (lv : Value) (ps : List (Fr × Value)) (u : Q19) : Prop where
  p : CqAt W T B K q
  r : RqObj W R lv ps u
  b : Below w.heap.size w W
  gB : ∀ g, B g → w.heap.size ≤ g
  gR : w.heap.size ≤ R
  nR : ¬ B R
  nK : ¬ K R
  nl : ∀ g, lv.ownBlock = some g → ¬ B g
  np : ∀ f ∈ ps, Sl .u8 w f.2 f.1.pay
section
variable {w W W' : World} {T R : Nat} {B B' K K' : Nat → Prop} {q q' u u' : Q19} {lv lv' : Value} {ps ps' : List (Fr × Value)}
theorem Pl19.grown (h : Pl19 w W T B K q R lv ps u) (hb : Below W.heap.size W W') : Pl19 w W' T B K q R lv ps u :=
  ⟨h.p.turn (Turn.of_below hb (S := fun _ => False)) (fun _ _ => id), h.r.below hb, h.b.trans (hb.mono h.b.size), h.gB, h.gR, h.nR, h.nK, h.nl, h.np⟩
theorem Pl19.stepP (h : Pl19 w W T B K q R lv ps u) (ha : CqAt W' T B' K' q') (ht : Turn B W W') (hB : ∀ g, B' g → B g ∨ W.heap.size ≤ g) (hK : ¬ K' R) : Pl19 w W' T B' K' q' R lv ps u := by
  have hR := h.r.blk.lt
  refine ⟨ha, h.r.turn ht h.nR h.nl (fun p hp hne g hg e => by have := (h.np p hp).lt0 hne hg; have := h.gB g e; omega), ht.base h.b h.b.size h.gB, fun k hk => (hB k hk).elim (h.gB k) (Nat.le_trans h.b.size), h.gR, fun e => ?_, hK, fun g hg e => ?_, h.np⟩
  · rcases hB R e with e | e
    · exact h.nR e
    · omega
  · rcases hB g e with e | e
    · exact h.nl g hg e
    · have := (h.r.nl g hg).2; omega
theorem Pl19.stepR (h : Pl19 w W T B K q R lv ps u) (hr : RqObj W' R lv' ps' u') (ht : Turn (fun k => k = R) W W') (hl : FromL W W' lv lv') (hp : ∀ f ∈ ps', Sl .u8 w f.2 f.1.pay) : Pl19 w W' T B K q R lv' ps' u' := by
  refine ⟨h.p.turn ht (fun g hg e => hg.elim (fun hg => h.nR (e ▸ hg)) (fun hg => h.nK (e ▸ hg))), hr, ht.base h.b h.b.size (fun k hk => by rw [show k = R from hk]; exact h.gR), h.gB, h.gR, h.nR, h.nK, fun g hg e => ?_, hp⟩
  rcases hl g hg with x | x
  · exact h.nl g x e
  · have := h.p.lt g (.inl e); omega
theorem Pl19.payB (h : Pl19 w W T B K q R lv ps u) {F : Fr} {pv : Value} (hs : Sl .u8 w pv F.pay) {g : Nat} (hg : PayB F pv g) : ¬ B g := fun e => by
  have := hs.lt0 hg.1 hg.2
  have := h.gB g e
  omega
theorem Pl19.noK (h : Pl19 w W T B K q R lv ps u) {F : Fr} {pv : Value} (hs : Sl .u8 w pv F.pay) (e : K R ∨ PayB F pv R ∨ W.heap.size ≤ R) : False := by
  rcases e with e | e | e
  · exact h.nK e
  · have := hs.lt0 e.1 e.2; have := h.gR; omega
  · have := h.r.blk.lt; omega
end
theorem slice19 : Try.prog.underlying 22 = some (.slice (Try.prog.elem 22)) := by kernel_rfl
/-- one act, where it lies -/
structure At19 (b o : Nat) (k : Int) (F : Fr) (pv : Value) (w : World) : Prop where
  c0 : w.cell? ⟨b, o, none⟩ = some (.int .u8 k)
  c1 : w.cell? ⟨b, o + 1, none⟩ = some (.int .i64 F.kind)
  c2 : w.cell? ⟨b, o + 2, none⟩ = some (.int .i64 F.flags)
  c3 : w.cell? ⟨b, o + 3, none⟩ = some (.int .i64 F.stream)
  c4 : w.cell? ⟨b, o + 4, none⟩ = some pv
  lt : b < w.heap.size
theorem At19.below {b o : Nat} {k : Int} {F : Fr} {pv : Value} {w w' : World} (h : At19 b o k F pv w) (hb : Below w.heap.size w w') :
    w'.cell? ⟨b, o, none⟩ = some (.int .u8 k) ∧ w'.cell? ⟨b, o + 1, none⟩ = some (.int .i64 F.kind) ∧ w'.cell? ⟨b, o + 2, none⟩ = some (.int .i64 F.flags) ∧ w'.cell? ⟨b, o + 3, none⟩ = some (.int .i64 F.stream) ∧ w'.cell? ⟨b, o + 4, none⟩ = some pv ∧ b < w'.heap.size :=
  ⟨(hb.cell (p := ⟨b, o, none⟩) h.lt).trans h.c0, (hb.cell (p := ⟨b, o + 1, none⟩) h.lt).trans h.c1, (hb.cell (p := ⟨b, o + 2, none⟩) h.lt).trans h.c2, (hb.cell (p := ⟨b, o + 3, none⟩) h.lt).trans h.c3, (hb.cell (p := ⟨b, o + 4, none⟩) h.lt).trans h.c4, Nat.lt_of_lt_of_le h.lt hb.size⟩
set_option maxHeartbeats 16000000 in
theorem plays19_any (z : Int) (v : Value) (ys : List A19) (w1 : World) (hz : (Lit.int .i64 z).wf = true) (h : SlA19 w1 v ys) :
    Calls Try.prog 3 #[.int .i64 z, v] w1 fun e w' => e = .returned (.bool true) ∧ Below w1.heap.size w1 w' := by
  obtain ⟨a, c, rfl, hc1, hc2⟩ := h.1.shape
  unfold maxLen at hc2
  have HZ := Lib.hid hz
  clear hz
  go_enter Try.func3, Try.ntmps3
  go_wp2_with fail
  refine (fits19_any _ ys _ h).mono ?_
  rintro e w0 ⟨rfl, e0⟩
  have e1 := e0.symm
  clear e0
  subst e1
  cases hft : fits19 ys
  · go_wp2_with fail
    refine (alive19 _).mono ?_
    rintro e w2 ⟨rfl, hb2⟩
    have HB2 := Lib.hid hb2
    clear hb2
    go_wp2_with fail
    go_ret
    exact ⟨rfl, HB2.out⟩
  obtain ⟨hy30, hyx⟩ := fits19_yes hft
  have HFX := Lib.hid hyx
  obtain ⟨N, hN⟩ : ∃ N, ys.length = N := ⟨_, rfl⟩
  rw [hN] at h hc1 hy30 ⊢
  have HN := Lib.hid hN
  have HS := Lib.hid h
  clear hN h hft hyx
  by_cases hok : 1 ≤ z ∧ z ≤ 64
  rotate_left
  · have HOk := Lib.hid hok
    by_cases hz1 : z < 1
    · have d0 : decide (z < 1) = true := decide_eq_true hz1
      clear hok hz1
      go_wp2_with fail
      refine (pNew19_no z _ HZ.out HOk.out).mono ?_
      rintro e w2 ⟨rfl, hb2⟩
      have HB2 := Lib.hid hb2
      clear hb2
      go_wp2_with fail
      refine (alive19 _).mono ?_
      rintro e w3 ⟨rfl, hb3⟩
      have HB3 := Lib.hid (HB2.out.trans (hb3.mono HB2.out.size))
      clear hb3
      go_wp2_with fail
      go_ret
      exact ⟨rfl, HB3.out⟩
    · have d0 : decide (z < 1) = false := decide_eq_false hz1
      have d1 : decide (64 < z) = true := decide_eq_true (by omega)
      clear hok hz1
      go_wp2_with fail
      refine (pNew19_no z _ HZ.out HOk.out).mono ?_
      rintro e w2 ⟨rfl, hb2⟩
      have HB2 := Lib.hid hb2
      clear hb2
      go_wp2_with fail
      refine (alive19 _).mono ?_
      rintro e w3 ⟨rfl, hb3⟩
      have HB3 := Lib.hid (HB2.out.trans (hb3.mono HB2.out.size))
      clear hb3
      go_wp2_with fail
      go_ret
      exact ⟨rfl, HB3.out⟩
  have HOk := Lib.hid hok
  have d0 : decide (z < 1) = false := decide_eq_false (by omega)
  have d1 : decide (64 < z) = false := decide_eq_false (by omega)
  clear hok
  go_wp2_with fail
  refine (pNew19_yes z w1 HOk.out).mono ?_
  rintro e w2 ⟨T, B0, rfl, h1, h2, hb2⟩
  have HT := Lib.hid (And.intro h1 (And.intro h2 hb2))
  clear hb2 h1 h2
  go_wp2_with fail
  refine (rbegin19_any z w2).mono ?_
  rintro e w3 ⟨rfl, hr, hb3⟩
  obtain ⟨R, hR⟩ : ∃ R, w2.heap.size = R := ⟨_, rfl⟩
  have HP0 := Lib.hid (show Pl19 w1 w3 T B0 (fun _ => False) ⟨z, [], false⟩ R (.slice none 0 0) [] ⟨z, [], false⟩ from by
    rw [← hR]
    exact ⟨HT.out.1.turn (Turn.of_below hb3 (S := fun _ => False)) (fun _ _ => id), hr, HT.out.2.2.trans (hb3.mono HT.out.2.2.size), HT.out.2.1, HT.out.2.2.size, fun e => by have := HT.out.1.lt _ (.inl e); omega, id, (fun g hg => by cases hg), (fun f hf => by cases hf)⟩)
  rw [hR]
  clear hr hb3 hR d0 d1
  go_wp2_with fail
  go_loopg [9] N (fun q s9 wr => ∃ k : Nat, k + q = N ∧ s9 = .int .i64 k ∧ ∃ s B K lv ps, Hid (Pl19 w1 wr T B K s R lv ps s ∧ ps.length ≤ k ∧ ∀ f ∈ ps, f.1.pay.length ≤ 300))
  case atStart => exact ⟨0, by omega, rfl, _, B0, _, _, [], Lib.hid ⟨HP0.out, by simp, fun f hf => by cases hf⟩⟩
  case round =>
    obtain ⟨k, hkq, rfl, s, B, K, lv, ps, HP⟩ := hrel
    have HKQ := Lib.hid hkq
    have hk : k ≤ N := by omega
    clear hkq HP0
    by_cases hlt : k < N
    · obtain ⟨⟨xk, F, pv⟩, hx⟩ : ∃ x, ys[k]? = some x := ⟨ys[k]'(by rw [HN.out]; exact hlt), List.getElem?_eq_getElem (by rw [HN.out]; exact hlt)⟩
      have hmem := List.mem_of_getElem? hx
      obtain ⟨hsl, hx0, hx1⟩ := HS.out.2 _ hmem
      have HF := Lib.hid (HFX.out _ hmem)
      dsimp only at hsl hx0 hx1 HF
      obtain ⟨ab, off, rfl, hbl, hcell⟩ := HS.out.1.at_ (i := k) (by rw [HN.out]; exact hlt)
      have hc0 := hcell _ hx 0 (by omega)
      have hc1 := hcell _ hx 1 (by omega)
      have hc2 := hcell _ hx 2 (by omega)
      have hc3 := hcell _ hx 3 (by omega)
      have hc4 := hcell _ hx 4 (by omega)
      simp only [a19C, List.getElem?_cons_succ, List.getElem?_cons_zero] at hc0 hc1 hc2 hc3 hc4
      obtain ⟨pa, pc, rfl, _⟩ := id hsl
      have HA := Lib.hid (show At19 ab (off + k * 5) xk F (.slice pa F.pay.length pc) w1 from ⟨hc0, hc1, hc2, hc3, hc4, hbl⟩)
      have hix := fun q => run_index_sl (P := Try.prog) (t := 22) (s := 5) slice19 (fun _ => by kernel_rfl) ab off N c k hlt q
      have HX := Lib.hid hsl
      have HSm := Lib.hid (show s.l.length ≤ 1000 ∧ F.pay.length ≤ 100000 from ⟨by have h1 := HP.out.1.r.e; have := HP.out.2.1; rw [h1, List.length_map]; omega, by have := HF.out; omega⟩)
      obtain ⟨al, cl, elv, _⟩ := id HP.out.1.r.l.2
      obtain ⟨M, hM⟩ : ∃ M, ps.length = M := ⟨_, rfl⟩
      rw [hM] at elv
      subst elv
      clear hcell hmem hx hc0 hc1 hc2 hc3 hc4 hbl hsl hM
      obtain ⟨d0, _, _, _, _, d5⟩ := HA.out.below HP.out.1.b
      obtain ⟨b3, hb3⟩ : ∃ b3, (xk % 6 == 3) = b3 := ⟨_, rfl⟩
      obtain ⟨b4, hb4⟩ : ∃ b4, (xk % 6 == 4) = b4 := ⟨_, rfl⟩
      obtain ⟨b5, hb5⟩ : ∃ b5, (xk % 6 == 5) = b5 := ⟨_, rfl⟩
      cases b3
      · cases b4
        · cases b5
          · skip
            go_wp2_with fail
            refine Moved.wp_region 13 [63, 64, 65, 66, 67, 68, 69, 70, 71, 72, 73, 74, 75] [[], [], [], [(1, 64), (2, 65)], [(3, 66)], [(4, 67)], [(0, 63), (5, 68)], [], [], [], [(8, 71), (9, 72)], [(10, 73)], [(11, 74)]] []
              (fun i u w' => match i with
                | 0 => u = .pointer (some ⟨T, 0, none⟩)
                | 1 => u = .slice (some ⟨ab, off, none⟩) N c
                | 2 => u = .int .i64 (k : Int)
                | 3 => u = .pointer (some ⟨ab, off + k * 5, none⟩)
                | 4 => u = .pointer (some ⟨ab, off + k * 5 + 1, none⟩)
                | 5 => u = .agg #[.int .i64 F.kind, .int .i64 F.flags, .int .i64 F.stream, .slice pa F.pay.length pc]
                | 6 => u = .int .i64 (pushQE s) ∧ ∃ B5 K5, Pl19 w1 w' T B5 K5 (pushQ s F) R (.slice al M cl) ps s
                | 7 => u = .pointer (some ⟨R, 0, none⟩)
                | 8 => u = .slice (some ⟨ab, off, none⟩) N c
                | 9 => u = .int .i64 (k : Int)
                | 10 => u = .pointer (some ⟨ab, off + k * 5, none⟩)
                | 11 => u = .pointer (some ⟨ab, off + k * 5 + 1, none⟩)
                | 12 => u = .agg #[.int .i64 F.kind, .int .i64 F.flags, .int .i64 F.stream, .slice pa F.pay.length pc]
                | _ => True) 6 (fun w' => Below w1.heap.size w1 w') (fun w' w'' => Below w1.heap.size w' w'') (by kernel_rfl) (by kernel_rfl) ?tWay ?tOps ?tLate ?tRest
            case tWay =>
              refine ⟨fun w5 h => HP.out.1.b.trans (h.mono HP.out.1.b.size), fun w5 w6 h hb => h.trans (hb.mono h.size), fun w5 w6 h hb => (HP.out.1.b.trans (h.mono HP.out.1.b.size)).trans hb, ?_, ?_⟩
              · intro i u w5 w6 h hb
                match i, h with
                | 0, h | 1, h | 2, h | 3, h | 4, h | 5, h | 7, h | 8, h | 9, h | 10, h | 11, h | 12, h => exact h
                | 6, ⟨e, B6, K6, hp⟩ => exact ⟨e, B6, K6, hp.grown hb⟩
                | i + 13, _ => trivial
              · intro i u w5 w6 hi h hb hg
                match i, h, hi with
                | 0, h, _ | 1, h, _ | 2, h, _ | 3, h, _ | 4, h, _ | 5, h, _ | 7, h, _ | 8, h, _ | 9, h, _ | 10, h, _ | 11, h, _ | 12, h, _ => exact h
                | 6, _, hi => exact absurd rfl hi
                | i + 13, _, _ => trivial
            case tLate => intro i hi; cases hi
            case tOps =>
              simp only [List.take_succ_cons, List.take_zero, Moved.opsOk, Nat.zero_add, Nat.reduceAdd, Nat.reduceEqDiff, reduceCtorEq, reduceIte]
              refine ⟨?_, ?_, ?_, ?_, ?_, ?_, ?_, ?_, ?_, ?_, ?_, ?_, ?_, trivial⟩
              · intro ρ w5 hc hff ho hB2 hj
                have x0 : ρ (.tmp 6) = .pointer (some ⟨T, 0, none⟩) := ho 6 (by decide)
                simp [gives, go_sem, x0, Moved.Grow, Below.refl]
              · intro ρ w5 hc hff ho hB2 hj
                have x0 : ρ (.tmp 1) = .slice (some ⟨ab, off, none⟩) N c := ho 1 (by decide)
                simp [gives, go_sem, x0, Moved.Grow, Below.refl]
              · intro ρ w5 hc hff ho hB2 hj
                have x0 : ρ (.tmp 9) = .int .i64 (k : Int) := ho 9 (by decide)
                simp [gives, go_sem, x0, Moved.Grow, Below.refl]
              · intro ρ w5 hc hff ho hB2 hj
                have x0 : ρ (.tmp 64) = .slice (some ⟨ab, off, none⟩) N c := hj (1, 64) (by simp)
                have x1 : ρ (.tmp 65) = .int .i64 (k : Int) := hj (2, 65) (by simp)
                have i1 := hix .i64
                simp [gives, go_sem, x0, x1, i1, Moved.Grow, Below.refl]
              · intro ρ w5 hc hff ho hB2 hj
                have x0 : ρ (.tmp 66) = .pointer (some ⟨ab, off + k * 5, none⟩) := hj (3, 66) (by simp)
                simp [gives, go_sem, x0, Moved.Grow, Below.refl]
              · intro ρ w5 hc hff ho hB2 hj
                have x0 : ρ (.tmp 67) = .pointer (some ⟨ab, off + k * 5 + 1, none⟩) := hj (4, 67) (by simp)
                obtain ⟨_, g1, g2, g3, g4, g5⟩ := HA.out.below hB2
                simp [gives, go_sem, x0, g1, g2, g3, g4, Moved.Grow, Below.refl]
              · intro ρ w5 hc hff ho hB2 hj
                have x0 : ρ (.tmp 63) = .pointer (some ⟨T, 0, none⟩) := hj (0, 63) (by simp)
                have x1 : ρ (.tmp 68) = .agg #[.int .i64 F.kind, .int .i64 F.flags, .int .i64 F.stream, .slice pa F.pay.length pc] := hj (5, 68) (by simp)
                have HP6 := HP.out.1.grown hB2
                have hsl := HX.out.later19 HX.out HP6.b
                simp [gives, go_sem, x0, x1, hff]
                refine (pPush19 T B K s F _ w5 HP6.p hsl (fun g hg => HP6.payB HX.out hg) HSm.out.1 HSm.out.2).mono ?_
                rintro e w6 ⟨B6, K6, rfl, h1, h2, h3, h4⟩
                exact ⟨_, rfl, ⟨rfl, B6, K6, HP6.stepP h1 h2 h3 (fun e => HP6.noK HX.out (h4 R e))⟩, h2.base (Below.refl _ _ |>.mono HP6.b.size) HP6.b.size HP6.gB⟩
              · intro ρ w5 hc hff ho hB2 hj
                have x0 : ρ (.tmp 8) = .pointer (some ⟨R, 0, none⟩) := ho 8 (by decide)
                simp [gives, go_sem, x0, Moved.Grow, Below.refl]
              · intro ρ w5 hc hff ho hB2 hj
                have x0 : ρ (.tmp 1) = .slice (some ⟨ab, off, none⟩) N c := ho 1 (by decide)
                simp [gives, go_sem, x0, Moved.Grow, Below.refl]
              · intro ρ w5 hc hff ho hB2 hj
                have x0 : ρ (.tmp 9) = .int .i64 (k : Int) := ho 9 (by decide)
                simp [gives, go_sem, x0, Moved.Grow, Below.refl]
              · intro ρ w5 hc hff ho hB2 hj
                have x0 : ρ (.tmp 71) = .slice (some ⟨ab, off, none⟩) N c := hj (8, 71) (by simp)
                have x1 : ρ (.tmp 72) = .int .i64 (k : Int) := hj (9, 72) (by simp)
                have i1 := hix .i64
                simp [gives, go_sem, x0, x1, i1, Moved.Grow, Below.refl]
              · intro ρ w5 hc hff ho hB2 hj
                have x0 : ρ (.tmp 73) = .pointer (some ⟨ab, off + k * 5, none⟩) := hj (10, 73) (by simp)
                simp [gives, go_sem, x0, Moved.Grow, Below.refl]
              · intro ρ w5 hc hff ho hB2 hj
                have x0 : ρ (.tmp 74) = .pointer (some ⟨ab, off + k * 5 + 1, none⟩) := hj (11, 74) (by simp)
                obtain ⟨_, g1, g2, g3, g4, g5⟩ := HA.out.below hB2
                simp [gives, go_sem, x0, g1, g2, g3, g4, Moved.Grow, Below.refl]
            case tRest =>
              intro x5 w5 hG hx5
              have y0 : x5 0 = .pointer (some ⟨T, 0, none⟩) := hx5 0 (by decide)
              have y1 : x5 1 = .slice (some ⟨ab, off, none⟩) N c := hx5 1 (by decide)
              have y2 : x5 2 = .int .i64 (k : Int) := hx5 2 (by decide)
              have y3 : x5 3 = .pointer (some ⟨ab, off + k * 5, none⟩) := hx5 3 (by decide)
              have y4 : x5 4 = .pointer (some ⟨ab, off + k * 5 + 1, none⟩) := hx5 4 (by decide)
              have y5 : x5 5 = .agg #[.int .i64 F.kind, .int .i64 F.flags, .int .i64 F.stream, .slice pa F.pay.length pc] := hx5 5 (by decide)
              have y7 : x5 7 = .pointer (some ⟨R, 0, none⟩) := hx5 7 (by decide)
              have y8 : x5 8 = .slice (some ⟨ab, off, none⟩) N c := hx5 8 (by decide)
              have y9 : x5 9 = .int .i64 (k : Int) := hx5 9 (by decide)
              have y10 : x5 10 = .pointer (some ⟨ab, off + k * 5, none⟩) := hx5 10 (by decide)
              have y11 : x5 11 = .pointer (some ⟨ab, off + k * 5 + 1, none⟩) := hx5 11 (by decide)
              have y12 : x5 12 = .agg #[.int .i64 F.kind, .int .i64 F.flags, .int .i64 F.stream, .slice pa F.pay.length pc] := hx5 12 (by decide)
              obtain ⟨y6, B5, K5, hp5⟩ := hx5 6 (by decide)
              simp only [putAll, List.getD_cons_zero, List.getD_cons_succ, Act.put, List.setIfInBounds_toArray, List.set_cons_zero, List.set_cons_succ, List.drop_succ_cons, List.drop_zero]
              rw [y0, y1, y2, y3, y4, y5, y6, y7, y8, y9, y10, y11, y12]
              have HP5 := Lib.hid hp5
              clear hx5 y0 y1 y2 y3 y4 y5 y6 y7 y8 y9 y10 y11 y12 hp5 hG
              go_wp2_with fail
              refine (rpush19_any R _ ps s F _ w5 HP5.out.r (HX.out.later19 HX.out HP5.out.b) (fun hne g hg e => by have := HX.out.lt0 hne hg; have := HP5.out.gR; omega) (by have := HP.out.2.1; omega)).mono ?_
              rintro e w6 ⟨rfl, lv6, ps6, hr, ht, hl, hps⟩
              have HP9 := Lib.hid (And.intro (HP5.out.stepR hr ht hl (fun f hf => by
                rcases hps with rfl | rfl
                · exact HP.out.1.np f hf
                · rcases List.mem_append.1 hf with hf | hf
                  · exact HP.out.1.np f hf
                  · rw [List.mem_singleton] at hf; subst hf; exact HX.out)) (show ps6.length ≤ k + 1 ∧ ∀ f ∈ ps6, f.1.pay.length ≤ 300 from by
                rcases hps with rfl | rfl
                · exact ⟨by have := HP.out.2.1; omega, HP.out.2.2⟩
                · refine ⟨by rw [List.length_append]; have := HP.out.2.1; simp; omega, fun f hf => ?_⟩
                  rcases List.mem_append.1 hf with hf | hf
                  · exact HP.out.2.2 f hf
                  · rw [List.mem_singleton] at hf; subst hf; exact HF.out))
              clear hr ht hl hps HP5 HP
              generalize pushQ s F = s5 at HP9
              generalize (pushQE s) = E5
              go_wp2_with fail
              refine Calm.intro ?_
              generalize w6 = w9 at HP9 ⊢
              generalize lv6 = lv9 at HP9
              generalize ps6 = ps9 at HP9
              obtain ⟨B9, K9, HP9⟩ : ∃ B9 K9, Hid (Pl19 w1 w9 T B9 K9 s5 R lv9 ps9 s5 ∧ ps9.length ≤ k + 1 ∧ ∀ f ∈ ps9, f.1.pay.length ≤ 300) := ⟨_, _, HP9⟩
              obtain ⟨al9, cl9, elv9, _⟩ := id HP9.out.1.r.l.2
              obtain ⟨M9, hM9⟩ : ∃ M9, ps9.length = M9 := ⟨_, rfl⟩
              obtain ⟨Y9, hY9⟩ : ∃ Y9, sumPay s5.l = Y9 := ⟨_, rfl⟩
              obtain ⟨e9, he9⟩ : ∃ e9, s5.ended = e9 := ⟨_, rfl⟩
              have HL9 := Lib.hid (show s5.l.length = M9 ∧ ps9.length = M9 from ⟨by rw [HP9.out.1.r.e, List.length_map, hM9], hM9⟩)
              have HY9 := Lib.hid (And.intro hY9 (show ∀ f ∈ s5.l, f.pay.length ≤ 100000 from fun f hf => by
                rw [HP9.out.1.r.e] at hf
                obtain ⟨p, hp, rfl⟩ := List.mem_map.1 hf
                have := HP9.out.2.2 p hp
                omega))
              have HE9 := Lib.hid he9
              rw [hM9] at elv9
              subst elv9
              clear hM9 hY9 he9
              go_wp2_with fail
              refine wp_region_quiet (C := fun w' => Below w9.heap.size w9 w') (by kernel_rfl) (by kernel_rfl) (Below.refl _ _).drew ?_
              refine quiet_take (.pointer (some ⟨T, 0, none⟩)) rfl (quiet_pure (fun w => rfl)) ?_
              simp only [Act.put, List.setIfInBounds_toArray, List.set_cons_zero, List.set_cons_succ]
              refine quiet_take (.int .i64 (M9 : Nat)) rfl (quiet_call 16 _ _ rfl [.pointer (some ⟨T, 0, none⟩)] rfl (enters_of Try.func16 (by kernel_rfl) rfl) (fun w hw => (pLen19 T B9 K9 s5 w (HP9.out.1.grown hw).p (by have := HP9.out.2.1; have := HL9.out; omega)).mono (by rintro e w'' ⟨rfl, hb⟩; exact ⟨by rw [HL9.out.1], hw.trans (hb.mono hw.size)⟩))) ?_
              simp only [Act.put, List.setIfInBounds_toArray, List.set_cons_zero, List.set_cons_succ]
              refine quiet_take (.pointer (some ⟨R, 0, none⟩)) rfl (quiet_pure (fun w => rfl)) ?_
              simp only [Act.put, List.setIfInBounds_toArray, List.set_cons_zero, List.set_cons_succ]
              refine quiet_take (.pointer (some ⟨R, 0, none⟩)) rfl (quiet_pure (fun w => by simp [go_sem])) ?_
              simp only [Act.put, List.setIfInBounds_toArray, List.set_cons_zero, List.set_cons_succ]
              refine quiet_take (.pointer (some ⟨R, 1, none⟩)) rfl (quiet_pure (fun w => by simp [go_sem])) ?_
              simp only [Act.put, List.setIfInBounds_toArray, List.set_cons_zero, List.set_cons_succ]
              refine quiet_take (.slice al9 M9 cl9) rfl (quiet_is (fun w hw => by obtain ⟨f0, f1, f2, f3⟩ := (HP9.out.1.grown hw).r.blk.cells; simp [go_sem, f1])) ?_
              simp only [Act.put, List.setIfInBounds_toArray, List.set_cons_zero, List.set_cons_succ]
              refine quiet_take (.int .i64 (M9 : Nat)) rfl (quiet_pure (fun w => by simp [go_sem])) ?_
              simp only [Act.put, List.setIfInBounds_toArray, List.set_cons_zero, List.set_cons_succ]
              refine quiet_take (.bool false) rfl (quiet_pure (fun w => by simp [go_sem])) ?_
              simp only [Act.put, List.setIfInBounds_toArray, List.set_cons_zero, List.set_cons_succ]
              refine quiet_take (.bool false) rfl (quiet_pure (fun w => rfl)) ?_
              simp only [Act.put, List.setIfInBounds_toArray, List.set_cons_zero, List.set_cons_succ]
              refine quiet_take (.pointer (some ⟨T, 0, none⟩)) rfl (quiet_pure (fun w => rfl)) ?_
              simp only [Act.put, List.setIfInBounds_toArray, List.set_cons_zero, List.set_cons_succ]
              refine quiet_take (.int .i64 (Y9 : Nat)) rfl (quiet_call 17 _ _ rfl [.pointer (some ⟨T, 0, none⟩)] rfl (enters_of Try.func17 (by kernel_rfl) rfl) (fun w hw => (pBytes19 T B9 K9 s5 w (HP9.out.1.grown hw).p (by have := HP9.out.2.1; have := HL9.out; omega) HY9.out.2).mono (by rintro e w'' ⟨rfl, hb⟩; exact ⟨by rw [HY9.out.1], hw.trans (hb.mono hw.size)⟩))) ?_
              simp only [Act.put, List.setIfInBounds_toArray, List.set_cons_zero, List.set_cons_succ]
              refine quiet_take (.pointer (some ⟨R, 0, none⟩)) rfl (quiet_pure (fun w => rfl)) ?_
              simp only [Act.put, List.setIfInBounds_toArray, List.set_cons_zero, List.set_cons_succ]
              refine quiet_take (.int .i64 (Y9 : Nat)) rfl (quiet_call 18 _ _ rfl [.pointer (some ⟨R, 0, none⟩)] rfl (enters_of Try.func18 (by kernel_rfl) rfl) (fun w hw => (rbytes19_any R _ ps9 s5 w (HP9.out.1.grown hw).r (by have := HP9.out.2.1; omega) (fun p hp => by have := HP9.out.2.2 p hp; omega)).mono (by rintro e w'' ⟨rfl, rfl⟩; exact ⟨by rw [HY9.out.1], hw⟩))) ?_
              simp only [Act.put, List.setIfInBounds_toArray, List.set_cons_zero, List.set_cons_succ]
              refine quiet_take (.bool false) rfl (quiet_pure (fun w => by simp [go_sem])) ?_
              simp only [Act.put, List.setIfInBounds_toArray, List.set_cons_zero, List.set_cons_succ]
              refine quiet_take (.bool false) rfl (quiet_pure (fun w => by simp [go_sem])) ?_
              simp only [Act.put, List.setIfInBounds_toArray, List.set_cons_zero, List.set_cons_succ]
              refine quiet_take (.bool false) rfl (quiet_pure (fun w => rfl)) ?_
              simp only [Act.put, List.setIfInBounds_toArray, List.set_cons_zero, List.set_cons_succ]
              refine quiet_take (.pointer (some ⟨T, 0, none⟩)) rfl (quiet_pure (fun w => rfl)) ?_
              simp only [Act.put, List.setIfInBounds_toArray, List.set_cons_zero, List.set_cons_succ]
              refine quiet_take (.bool e9) rfl (quiet_call 19 _ _ rfl [.pointer (some ⟨T, 0, none⟩)] rfl (enters_of Try.func19 (by kernel_rfl) rfl) (fun w hw => (pEnded19 T B9 K9 s5 w (HP9.out.1.grown hw).p).mono (by rintro e w'' ⟨rfl, hb⟩; exact ⟨by rw [HE9.out], hw.trans (hb.mono hw.size)⟩))) ?_
              simp only [Act.put, List.setIfInBounds_toArray, List.set_cons_zero, List.set_cons_succ]
              refine quiet_take (.pointer (some ⟨R, 0, none⟩)) rfl (quiet_pure (fun w => rfl)) ?_
              simp only [Act.put, List.setIfInBounds_toArray, List.set_cons_zero, List.set_cons_succ]
              refine quiet_take (.pointer (some ⟨R, 0, none⟩)) rfl (quiet_pure (fun w => by simp [go_sem])) ?_
              simp only [Act.put, List.setIfInBounds_toArray, List.set_cons_zero, List.set_cons_succ]
              refine quiet_take (.pointer (some ⟨R, 2, none⟩)) rfl (quiet_pure (fun w => by simp [go_sem])) ?_
              simp only [Act.put, List.setIfInBounds_toArray, List.set_cons_zero, List.set_cons_succ]
              refine quiet_take (.bool e9) rfl (quiet_is (fun w hw => by obtain ⟨f0, f1, f2, f3⟩ := (HP9.out.1.grown hw).r.blk.cells; rw [HE9.out] at f2; simp [go_sem, f2])) ?_
              simp only [Act.put, List.setIfInBounds_toArray, List.set_cons_zero, List.set_cons_succ]
              refine quiet_take (.bool false) rfl (quiet_pure (fun w => by simp [go_sem])) ?_
              simp only [Act.put, List.setIfInBounds_toArray, List.set_cons_zero, List.set_cons_succ]
              refine quiet_take (.bool false) rfl (quiet_pure (fun w => by simp [go_sem])) ?_
              simp only [Act.put, List.setIfInBounds_toArray, List.set_cons_zero, List.set_cons_succ]
              intro W10 hb10
              have HP10 := Lib.hid (And.intro (HP9.out.1.grown hb10) HP9.out.2)
              clear hb10 HP9
              go_wp2_with fail
              go_roundg (N - (k + 1))
              case measure => have := HKQ.out; omega
              case rel => exact ⟨k + 1, by omega, by go_num, s5, B9, K9, _, ps9, HP10⟩
          · skip
            go_wp2_with fail
            refine Moved.wp_region 13 [103, 104, 105, 106, 107, 108, 109, 110, 111, 112, 113, 114, 115] [[], [], [], [(1, 104), (2, 105)], [(3, 106)], [(4, 107)], [(0, 103), (5, 108)], [], [], [], [(8, 111), (9, 112)], [(10, 113)], [(11, 114)]] []
              (fun i u w' => match i with
                | 0 => u = .pointer (some ⟨T, 0, none⟩)
                | 1 => u = .slice (some ⟨ab, off, none⟩) N c
                | 2 => u = .int .i64 (k : Int)
                | 3 => u = .pointer (some ⟨ab, off + k * 5, none⟩)
                | 4 => u = .pointer (some ⟨ab, off + k * 5 + 1, none⟩)
                | 5 => u = .agg #[.int .i64 F.kind, .int .i64 F.flags, .int .i64 F.stream, .slice pa F.pay.length pc]
                | 6 => u = .int .i64 (lastQE s) ∧ ∃ B5 K5, Pl19 w1 w' T B5 K5 (lastQ s F) R (.slice al M cl) ps s
                | 7 => u = .pointer (some ⟨R, 0, none⟩)
                | 8 => u = .slice (some ⟨ab, off, none⟩) N c
                | 9 => u = .int .i64 (k : Int)
                | 10 => u = .pointer (some ⟨ab, off + k * 5, none⟩)
                | 11 => u = .pointer (some ⟨ab, off + k * 5 + 1, none⟩)
                | 12 => u = .agg #[.int .i64 F.kind, .int .i64 F.flags, .int .i64 F.stream, .slice pa F.pay.length pc]
                | _ => True) 6 (fun w' => Below w1.heap.size w1 w') (fun w' w'' => Below w1.heap.size w' w'') (by kernel_rfl) (by kernel_rfl) ?tWay ?tOps ?tLate ?tRest
            case tWay =>
              refine ⟨fun w5 h => HP.out.1.b.trans (h.mono HP.out.1.b.size), fun w5 w6 h hb => h.trans (hb.mono h.size), fun w5 w6 h hb => (HP.out.1.b.trans (h.mono HP.out.1.b.size)).trans hb, ?_, ?_⟩
              · intro i u w5 w6 h hb
                match i, h with
                | 0, h | 1, h | 2, h | 3, h | 4, h | 5, h | 7, h | 8, h | 9, h | 10, h | 11, h | 12, h => exact h
                | 6, ⟨e, B6, K6, hp⟩ => exact ⟨e, B6, K6, hp.grown hb⟩
                | i + 13, _ => trivial
              · intro i u w5 w6 hi h hb hg
                match i, h, hi with
                | 0, h, _ | 1, h, _ | 2, h, _ | 3, h, _ | 4, h, _ | 5, h, _ | 7, h, _ | 8, h, _ | 9, h, _ | 10, h, _ | 11, h, _ | 12, h, _ => exact h
                | 6, _, hi => exact absurd rfl hi
                | i + 13, _, _ => trivial
            case tLate => intro i hi; cases hi
            case tOps =>
              simp only [List.take_succ_cons, List.take_zero, Moved.opsOk, Nat.zero_add, Nat.reduceAdd, Nat.reduceEqDiff, reduceCtorEq, reduceIte]
              refine ⟨?_, ?_, ?_, ?_, ?_, ?_, ?_, ?_, ?_, ?_, ?_, ?_, ?_, trivial⟩
              · intro ρ w5 hc hff ho hB2 hj
                have x0 : ρ (.tmp 6) = .pointer (some ⟨T, 0, none⟩) := ho 6 (by decide)
                simp [gives, go_sem, x0, Moved.Grow, Below.refl]
              · intro ρ w5 hc hff ho hB2 hj
                have x0 : ρ (.tmp 1) = .slice (some ⟨ab, off, none⟩) N c := ho 1 (by decide)
                simp [gives, go_sem, x0, Moved.Grow, Below.refl]
              · intro ρ w5 hc hff ho hB2 hj
                have x0 : ρ (.tmp 9) = .int .i64 (k : Int) := ho 9 (by decide)
                simp [gives, go_sem, x0, Moved.Grow, Below.refl]
              · intro ρ w5 hc hff ho hB2 hj
                have x0 : ρ (.tmp 104) = .slice (some ⟨ab, off, none⟩) N c := hj (1, 104) (by simp)
                have x1 : ρ (.tmp 105) = .int .i64 (k : Int) := hj (2, 105) (by simp)
                have i1 := hix .i64
                simp [gives, go_sem, x0, x1, i1, Moved.Grow, Below.refl]
              · intro ρ w5 hc hff ho hB2 hj
                have x0 : ρ (.tmp 106) = .pointer (some ⟨ab, off + k * 5, none⟩) := hj (3, 106) (by simp)
                simp [gives, go_sem, x0, Moved.Grow, Below.refl]
              · intro ρ w5 hc hff ho hB2 hj
                have x0 : ρ (.tmp 107) = .pointer (some ⟨ab, off + k * 5 + 1, none⟩) := hj (4, 107) (by simp)
                obtain ⟨_, g1, g2, g3, g4, g5⟩ := HA.out.below hB2
                simp [gives, go_sem, x0, g1, g2, g3, g4, Moved.Grow, Below.refl]
              · intro ρ w5 hc hff ho hB2 hj
                have x0 : ρ (.tmp 103) = .pointer (some ⟨T, 0, none⟩) := hj (0, 103) (by simp)
                have x1 : ρ (.tmp 108) = .agg #[.int .i64 F.kind, .int .i64 F.flags, .int .i64 F.stream, .slice pa F.pay.length pc] := hj (5, 108) (by simp)
                have HP6 := HP.out.1.grown hB2
                have hsl := HX.out.later19 HX.out HP6.b
                simp [gives, go_sem, x0, x1, hff]
                refine (pLast19 T B K s F _ w5 HP6.p hsl (fun g hg => HP6.payB HX.out hg) HSm.out.1 HSm.out.2).mono ?_
                rintro e w6 ⟨B6, K6, rfl, h1, h2, h3, h4⟩
                exact ⟨_, rfl, ⟨rfl, B6, K6, HP6.stepP h1 h2 h3 (fun e => HP6.noK HX.out (h4 R e))⟩, h2.base (Below.refl _ _ |>.mono HP6.b.size) HP6.b.size HP6.gB⟩
              · intro ρ w5 hc hff ho hB2 hj
                have x0 : ρ (.tmp 8) = .pointer (some ⟨R, 0, none⟩) := ho 8 (by decide)
                simp [gives, go_sem, x0, Moved.Grow, Below.refl]
              · intro ρ w5 hc hff ho hB2 hj
                have x0 : ρ (.tmp 1) = .slice (some ⟨ab, off, none⟩) N c := ho 1 (by decide)
                simp [gives, go_sem, x0, Moved.Grow, Below.refl]
              · intro ρ w5 hc hff ho hB2 hj
                have x0 : ρ (.tmp 9) = .int .i64 (k : Int) := ho 9 (by decide)
                simp [gives, go_sem, x0, Moved.Grow, Below.refl]
              · intro ρ w5 hc hff ho hB2 hj
                have x0 : ρ (.tmp 111) = .slice (some ⟨ab, off, none⟩) N c := hj (8, 111) (by simp)
                have x1 : ρ (.tmp 112) = .int .i64 (k : Int) := hj (9, 112) (by simp)
                have i1 := hix .i64
                simp [gives, go_sem, x0, x1, i1, Moved.Grow, Below.refl]
              · intro ρ w5 hc hff ho hB2 hj
                have x0 : ρ (.tmp 113) = .pointer (some ⟨ab, off + k * 5, none⟩) := hj (10, 113) (by simp)
                simp [gives, go_sem, x0, Moved.Grow, Below.refl]
              · intro ρ w5 hc hff ho hB2 hj
                have x0 : ρ (.tmp 114) = .pointer (some ⟨ab, off + k * 5 + 1, none⟩) := hj (11, 114) (by simp)
                obtain ⟨_, g1, g2, g3, g4, g5⟩ := HA.out.below hB2
                simp [gives, go_sem, x0, g1, g2, g3, g4, Moved.Grow, Below.refl]
            case tRest =>
              intro x5 w5 hG hx5
              have y0 : x5 0 = .pointer (some ⟨T, 0, none⟩) := hx5 0 (by decide)
              have y1 : x5 1 = .slice (some ⟨ab, off, none⟩) N c := hx5 1 (by decide)
              have y2 : x5 2 = .int .i64 (k : Int) := hx5 2 (by decide)
              have y3 : x5 3 = .pointer (some ⟨ab, off + k * 5, none⟩) := hx5 3 (by decide)
              have y4 : x5 4 = .pointer (some ⟨ab, off + k * 5 + 1, none⟩) := hx5 4 (by decide)
              have y5 : x5 5 = .agg #[.int .i64 F.kind, .int .i64 F.flags, .int .i64 F.stream, .slice pa F.pay.length pc] := hx5 5 (by decide)
              have y7 : x5 7 = .pointer (some ⟨R, 0, none⟩) := hx5 7 (by decide)
              have y8 : x5 8 = .slice (some ⟨ab, off, none⟩) N c := hx5 8 (by decide)
              have y9 : x5 9 = .int .i64 (k : Int) := hx5 9 (by decide)
              have y10 : x5 10 = .pointer (some ⟨ab, off + k * 5, none⟩) := hx5 10 (by decide)
              have y11 : x5 11 = .pointer (some ⟨ab, off + k * 5 + 1, none⟩) := hx5 11 (by decide)
              have y12 : x5 12 = .agg #[.int .i64 F.kind, .int .i64 F.flags, .int .i64 F.stream, .slice pa F.pay.length pc] := hx5 12 (by decide)
              obtain ⟨y6, B5, K5, hp5⟩ := hx5 6 (by decide)
              simp only [putAll, List.getD_cons_zero, List.getD_cons_succ, Act.put, List.setIfInBounds_toArray, List.set_cons_zero, List.set_cons_succ, List.drop_succ_cons, List.drop_zero]
              rw [y0, y1, y2, y3, y4, y5, y6, y7, y8, y9, y10, y11, y12]
              have HP5 := Lib.hid hp5
              clear hx5 y0 y1 y2 y3 y4 y5 y6 y7 y8 y9 y10 y11 y12 hp5 hG
              go_wp2_with fail
              refine (rlast19_any R _ ps s F _ w5 HP5.out.r (HX.out.later19 HX.out HP5.out.b) (fun hne g hg e => by have := HX.out.lt0 hne hg; have := HP5.out.gR; omega) (by have := HP.out.2.1; omega)).mono ?_
              rintro e w6 ⟨rfl, lv6, ps6, hr, ht, hl, hps⟩
              have HP9 := Lib.hid (And.intro (HP5.out.stepR hr ht hl (fun f hf => by
                rcases hps with rfl | rfl
                · exact HP.out.1.np f hf
                · rcases List.mem_append.1 hf with hf | hf
                  · exact HP.out.1.np f hf
                  · rw [List.mem_singleton] at hf; subst hf; exact HX.out)) (show ps6.length ≤ k + 1 ∧ ∀ f ∈ ps6, f.1.pay.length ≤ 300 from by
                rcases hps with rfl | rfl
                · exact ⟨by have := HP.out.2.1; omega, HP.out.2.2⟩
                · refine ⟨by rw [List.length_append]; have := HP.out.2.1; simp; omega, fun f hf => ?_⟩
                  rcases List.mem_append.1 hf with hf | hf
                  · exact HP.out.2.2 f hf
                  · rw [List.mem_singleton] at hf; subst hf; exact HF.out))
              clear hr ht hl hps HP5 HP
              generalize lastQ s F = s5 at HP9
              generalize (lastQE s) = E5
              go_wp2_with fail
              refine Calm.intro ?_
              generalize w6 = w9 at HP9 ⊢
              generalize lv6 = lv9 at HP9
              generalize ps6 = ps9 at HP9
              obtain ⟨B9, K9, HP9⟩ : ∃ B9 K9, Hid (Pl19 w1 w9 T B9 K9 s5 R lv9 ps9 s5 ∧ ps9.length ≤ k + 1 ∧ ∀ f ∈ ps9, f.1.pay.length ≤ 300) := ⟨_, _, HP9⟩
              obtain ⟨al9, cl9, elv9, _⟩ := id HP9.out.1.r.l.2
              obtain ⟨M9, hM9⟩ : ∃ M9, ps9.length = M9 := ⟨_, rfl⟩
              obtain ⟨Y9, hY9⟩ : ∃ Y9, sumPay s5.l = Y9 := ⟨_, rfl⟩
              obtain ⟨e9, he9⟩ : ∃ e9, s5.ended = e9 := ⟨_, rfl⟩
              have HL9 := Lib.hid (show s5.l.length = M9 ∧ ps9.length = M9 from ⟨by rw [HP9.out.1.r.e, List.length_map, hM9], hM9⟩)
              have HY9 := Lib.hid (And.intro hY9 (show ∀ f ∈ s5.l, f.pay.length ≤ 100000 from fun f hf => by
                rw [HP9.out.1.r.e] at hf
                obtain ⟨p, hp, rfl⟩ := List.mem_map.1 hf
                have := HP9.out.2.2 p hp
                omega))
              have HE9 := Lib.hid he9
              rw [hM9] at elv9
              subst elv9
              clear hM9 hY9 he9
              go_wp2_with fail
              refine wp_region_quiet (C := fun w' => Below w9.heap.size w9 w') (by kernel_rfl) (by kernel_rfl) (Below.refl _ _).drew ?_
              refine quiet_take (.pointer (some ⟨T, 0, none⟩)) rfl (quiet_pure (fun w => rfl)) ?_
              simp only [Act.put, List.setIfInBounds_toArray, List.set_cons_zero, List.set_cons_succ]
              refine quiet_take (.int .i64 (M9 : Nat)) rfl (quiet_call 16 _ _ rfl [.pointer (some ⟨T, 0, none⟩)] rfl (enters_of Try.func16 (by kernel_rfl) rfl) (fun w hw => (pLen19 T B9 K9 s5 w (HP9.out.1.grown hw).p (by have := HP9.out.2.1; have := HL9.out; omega)).mono (by rintro e w'' ⟨rfl, hb⟩; exact ⟨by rw [HL9.out.1], hw.trans (hb.mono hw.size)⟩))) ?_
              simp only [Act.put, List.setIfInBounds_toArray, List.set_cons_zero, List.set_cons_succ]
              refine quiet_take (.pointer (some ⟨R, 0, none⟩)) rfl (quiet_pure (fun w => rfl)) ?_
              simp only [Act.put, List.setIfInBounds_toArray, List.set_cons_zero, List.set_cons_succ]
              refine quiet_take (.pointer (some ⟨R, 0, none⟩)) rfl (quiet_pure (fun w => by simp [go_sem])) ?_
              simp only [Act.put, List.setIfInBounds_toArray, List.set_cons_zero, List.set_cons_succ]
              refine quiet_take (.pointer (some ⟨R, 1, none⟩)) rfl (quiet_pure (fun w => by simp [go_sem])) ?_
              simp only [Act.put, List.setIfInBounds_toArray, List.set_cons_zero, List.set_cons_succ]
              refine quiet_take (.slice al9 M9 cl9) rfl (quiet_is (fun w hw => by obtain ⟨f0, f1, f2, f3⟩ := (HP9.out.1.grown hw).r.blk.cells; simp [go_sem, f1])) ?_
              simp only [Act.put, List.setIfInBounds_toArray, List.set_cons_zero, List.set_cons_succ]
              refine quiet_take (.int .i64 (M9 : Nat)) rfl (quiet_pure (fun w => by simp [go_sem])) ?_
              simp only [Act.put, List.setIfInBounds_toArray, List.set_cons_zero, List.set_cons_succ]
              refine quiet_take (.bool false) rfl (quiet_pure (fun w => by simp [go_sem])) ?_
              simp only [Act.put, List.setIfInBounds_toArray, List.set_cons_zero, List.set_cons_succ]
              refine quiet_take (.bool false) rfl (quiet_pure (fun w => rfl)) ?_
              simp only [Act.put, List.setIfInBounds_toArray, List.set_cons_zero, List.set_cons_succ]
              refine quiet_take (.pointer (some ⟨T, 0, none⟩)) rfl (quiet_pure (fun w => rfl)) ?_
              simp only [Act.put, List.setIfInBounds_toArray, List.set_cons_zero, List.set_cons_succ]
              refine quiet_take (.int .i64 (Y9 : Nat)) rfl (quiet_call 17 _ _ rfl [.pointer (some ⟨T, 0, none⟩)] rfl (enters_of Try.func17 (by kernel_rfl) rfl) (fun w hw => (pBytes19 T B9 K9 s5 w (HP9.out.1.grown hw).p (by have := HP9.out.2.1; have := HL9.out; omega) HY9.out.2).mono (by rintro e w'' ⟨rfl, hb⟩; exact ⟨by rw [HY9.out.1], hw.trans (hb.mono hw.size)⟩))) ?_
              simp only [Act.put, List.setIfInBounds_toArray, List.set_cons_zero, List.set_cons_succ]
              refine quiet_take (.pointer (some ⟨R, 0, none⟩)) rfl (quiet_pure (fun w => rfl)) ?_
              simp only [Act.put, List.setIfInBounds_toArray, List.set_cons_zero, List.set_cons_succ]
              refine quiet_take (.int .i64 (Y9 : Nat)) rfl (quiet_call 18 _ _ rfl [.pointer (some ⟨R, 0, none⟩)] rfl (enters_of Try.func18 (by kernel_rfl) rfl) (fun w hw => (rbytes19_any R _ ps9 s5 w (HP9.out.1.grown hw).r (by have := HP9.out.2.1; omega) (fun p hp => by have := HP9.out.2.2 p hp; omega)).mono (by rintro e w'' ⟨rfl, rfl⟩; exact ⟨by rw [HY9.out.1], hw⟩))) ?_
              simp only [Act.put, List.setIfInBounds_toArray, List.set_cons_zero, List.set_cons_succ]
              refine quiet_take (.bool false) rfl (quiet_pure (fun w => by simp [go_sem])) ?_
              simp only [Act.put, List.setIfInBounds_toArray, List.set_cons_zero, List.set_cons_succ]
              refine quiet_take (.bool false) rfl (quiet_pure (fun w => by simp [go_sem])) ?_
              simp only [Act.put, List.setIfInBounds_toArray, List.set_cons_zero, List.set_cons_succ]
              refine quiet_take (.bool false) rfl (quiet_pure (fun w => rfl)) ?_
              simp only [Act.put, List.setIfInBounds_toArray, List.set_cons_zero, List.set_cons_succ]
              refine quiet_take (.pointer (some ⟨T, 0, none⟩)) rfl (quiet_pure (fun w => rfl)) ?_
              simp only [Act.put, List.setIfInBounds_toArray, List.set_cons_zero, List.set_cons_succ]
              refine quiet_take (.bool e9) rfl (quiet_call 19 _ _ rfl [.pointer (some ⟨T, 0, none⟩)] rfl (enters_of Try.func19 (by kernel_rfl) rfl) (fun w hw => (pEnded19 T B9 K9 s5 w (HP9.out.1.grown hw).p).mono (by rintro e w'' ⟨rfl, hb⟩; exact ⟨by rw [HE9.out], hw.trans (hb.mono hw.size)⟩))) ?_
              simp only [Act.put, List.setIfInBounds_toArray, List.set_cons_zero, List.set_cons_succ]
              refine quiet_take (.pointer (some ⟨R, 0, none⟩)) rfl (quiet_pure (fun w => rfl)) ?_
              simp only [Act.put, List.setIfInBounds_toArray, List.set_cons_zero, List.set_cons_succ]
              refine quiet_take (.pointer (some ⟨R, 0, none⟩)) rfl (quiet_pure (fun w => by simp [go_sem])) ?_
              simp only [Act.put, List.setIfInBounds_toArray, List.set_cons_zero, List.set_cons_succ]
              refine quiet_take (.pointer (some ⟨R, 2, none⟩)) rfl (quiet_pure (fun w => by simp [go_sem])) ?_
              simp only [Act.put, List.setIfInBounds_toArray, List.set_cons_zero, List.set_cons_succ]
              refine quiet_take (.bool e9) rfl (quiet_is (fun w hw => by obtain ⟨f0, f1, f2, f3⟩ := (HP9.out.1.grown hw).r.blk.cells; rw [HE9.out] at f2; simp [go_sem, f2])) ?_
              simp only [Act.put, List.setIfInBounds_toArray, List.set_cons_zero, List.set_cons_succ]
              refine quiet_take (.bool false) rfl (quiet_pure (fun w => by simp [go_sem])) ?_
              simp only [Act.put, List.setIfInBounds_toArray, List.set_cons_zero, List.set_cons_succ]
              refine quiet_take (.bool false) rfl (quiet_pure (fun w => by simp [go_sem])) ?_
              simp only [Act.put, List.setIfInBounds_toArray, List.set_cons_zero, List.set_cons_succ]
              intro W10 hb10
              have HP10 := Lib.hid (And.intro (HP9.out.1.grown hb10) HP9.out.2)
              clear hb10 HP9
              go_wp2_with fail
              go_roundg (N - (k + 1))
              case measure => have := HKQ.out; omega
              case rel => exact ⟨k + 1, by omega, by go_num, s5, B9, K9, _, ps9, HP10⟩
        · skip
          go_wp2_with fail
          refine (pPop19 T B K s wr HP.out.1.p (by have h1 := HP.out.1.r.e; have := HP.out.2.1; rw [h1, List.length_map]; omega)).mono ?_
          rintro e x3 ⟨B3, K3, pv3, rfl, h1, h2, h3, h4, h5, h6⟩
          obtain ⟨a3, c3, rfl, _⟩ := id h3
          have HX3 := Lib.hid (show Pl19 w1 x3 T B3 K3 (popQ s) R (.slice al M cl) ps s ∧ Sl .u8 x3 (.slice a3 (popF s).pay.length c3) (popF s).pay ∧ ∀ g, PayB (popF s) (.slice a3 (popF s).pay.length c3) g → g ≠ R from
            ⟨HP.out.1.stepP h1 h2 h5 (fun e => (h6 R e).elim HP.out.1.nK (fun e => by have := HP.out.1.r.blk.lt; omega)), h3, fun g hg e => (h4 g hg).1.elim (fun e' => HP.out.1.nK (e ▸ e')) (fun e' => by have := HP.out.1.r.blk.lt; omega)⟩)
          clear h1 h2 h3 h4 h5 h6
          go_wp2_with fail
          obtain ⟨Q4, hQ4⟩ : ∃ Q4, x3.heap.size = Q4 := ⟨_, rfl⟩
          obtain ⟨w4, hw4⟩ : ∃ w4, x3.alloc (.cells #[.int .i64 (popF s).kind, .int .i64 (popF s).flags, .int .i64 (popF s).stream, .slice a3 (popF s).pay.length c3] 34) = w4 := ⟨_, rfl⟩
          have HB4 := Lib.hid (show Below x3.heap.size x3 w4 ∧ Bx w4 Q4 34 (popF s) (.slice a3 (popF s).pay.length c3) from by rw [← hw4, ← hQ4]; exact ⟨(Below.refl _ _).alloc (Nat.le_refl _) _, Bx.new _ _ _ _⟩)
          rw [hw4]
          rw [hQ4]
          have HX4 := Lib.hid (show Pl19 w1 w4 T B3 K3 (popQ s) R (.slice al M cl) ps s ∧ Sl .u8 w4 (.slice a3 (popF s).pay.length c3) (popF s).pay ∧ Bx w4 Q4 34 (popF s) (.slice a3 (popF s).pay.length c3) ∧ Q4 ≠ R from
            ⟨HX3.out.1.grown HB4.out.1, HX3.out.2.1.below HB4.out.1, HB4.out.2, fun e => by have := HX3.out.1.r.blk.lt; omega⟩)
          clear hw4 hQ4
          refine (rpop19_any R _ ps s w4 HX4.out.1.r (by have := HP.out.2.1; omega)).mono ?_
          rintro e x5 ⟨fv, lv5, rfl, hF, hr, ht, hl⟩
          obtain ⟨pv5, rfl, hF⟩ := hF
          obtain ⟨a5, c5, rfl, _⟩ := id hF
          have HX5 := Lib.hid (show Pl19 w1 x5 T B3 K3 (popQ s) R lv5 (ps.drop 1) (popQ s) ∧ Sl .u8 x5 (.slice a3 (popF s).pay.length c3) (popF s).pay ∧ Bx x5 Q4 34 (popF s) (.slice a3 (popF s).pay.length c3) ∧ Sl .u8 x5 (.slice a5 (popF s).pay.length c5) (popF s).pay from
            ⟨HX4.out.1.stepR hr ht hl (fun f hf => HX4.out.1.np f (List.mem_of_mem_drop hf)), HX4.out.2.1.turn0 ht (fun hne g hg => HX3.out.2.2 g ⟨hne, hg⟩), ht.obj HX4.out.2.2.1 HX4.out.2.2.2, hF⟩)
          clear hF hr ht hl HB4 HX4 HX3
          have m40 := HX5.out.2.2.1.c0
          have m41 := HX5.out.2.2.1.c1
          have m42 := HX5.out.2.2.1.c2
          have m43 := HX5.out.2.2.1.c3
          have m44 := HX5.out.2.2.1.lt
          go_wp2_with fail
          obtain ⟨w6, hw6⟩ : ∃ w6, x5.alloc (.cells #[.int .i64 (popF s).kind, .int .i64 (popF s).flags, .int .i64 (popF s).stream, .slice a5 (popF s).pay.length c5] 34) = w6 := ⟨_, rfl⟩
          have HB6 := Lib.hid (show Below x5.heap.size x5 w6 from by rw [← hw6]; exact (Below.refl _ _).alloc (Nat.le_refl _) _)
          rw [hw6]
          have HX6 := Lib.hid (show Pl19 w1 w6 T B3 K3 (popQ s) R lv5 (ps.drop 1) (popQ s) ∧ Sl .u8 w6 (.slice a3 (popF s).pay.length c3) (popF s).pay ∧ Sl .u8 w6 (.slice a5 (popF s).pay.length c5) (popF s).pay from
            ⟨HX5.out.1.grown HB6.out, HX5.out.2.1.below HB6.out, HX5.out.2.2.2.below HB6.out⟩)
          clear hw6 HX5
          refine (refSame_frame _ _ (popF s) (popF s) w6 ⟨_, rfl, HX6.out.2.1⟩ ⟨_, rfl, HX6.out.2.2⟩).mono ?_
          rintro e w9 ⟨rfl, hb⟩
          rw [decide_eq_true (rfl : popF s = popF s)]
          have HP9 := Lib.hid (And.intro (HX6.out.1.grown hb) (show (ps.drop 1).length ≤ k + 1 ∧ ∀ f ∈ ps.drop 1, f.1.pay.length ≤ 300 from ⟨by have := HP.out.2.1; rw [List.length_drop]; omega, fun f hf => HP.out.2.2 f (List.mem_of_mem_drop hf)⟩))
          clear hb HX6 HB6 HP m40 m41 m42 m43 m44
          generalize popQ s = s5 at HP9
          generalize popB s = b5
          generalize lv5 = lv9 at HP9
          generalize ps.drop 1 = ps9 at HP9
          go_wp2_with fail
          obtain ⟨B9, K9, HP9⟩ : ∃ B9 K9, Hid (Pl19 w1 w9 T B9 K9 s5 R lv9 ps9 s5 ∧ ps9.length ≤ k + 1 ∧ ∀ f ∈ ps9, f.1.pay.length ≤ 300) := ⟨_, _, HP9⟩
          obtain ⟨al9, cl9, elv9, _⟩ := id HP9.out.1.r.l.2
          obtain ⟨M9, hM9⟩ : ∃ M9, ps9.length = M9 := ⟨_, rfl⟩
          obtain ⟨Y9, hY9⟩ : ∃ Y9, sumPay s5.l = Y9 := ⟨_, rfl⟩
          obtain ⟨e9, he9⟩ : ∃ e9, s5.ended = e9 := ⟨_, rfl⟩
          have HL9 := Lib.hid (show s5.l.length = M9 ∧ ps9.length = M9 from ⟨by rw [HP9.out.1.r.e, List.length_map, hM9], hM9⟩)
          have HY9 := Lib.hid (And.intro hY9 (show ∀ f ∈ s5.l, f.pay.length ≤ 100000 from fun f hf => by
            rw [HP9.out.1.r.e] at hf
            obtain ⟨p, hp, rfl⟩ := List.mem_map.1 hf
            have := HP9.out.2.2 p hp
            omega))
          have HE9 := Lib.hid he9
          rw [hM9] at elv9
          subst elv9
          clear hM9 hY9 he9
          go_wp2_with fail
          refine wp_region_quiet (C := fun w' => Below w9.heap.size w9 w') (by kernel_rfl) (by kernel_rfl) (Below.refl _ _).drew ?_
          refine quiet_take (.pointer (some ⟨T, 0, none⟩)) rfl (quiet_pure (fun w => rfl)) ?_
          simp only [Act.put, List.setIfInBounds_toArray, List.set_cons_zero, List.set_cons_succ]
          refine quiet_take (.int .i64 (M9 : Nat)) rfl (quiet_call 16 _ _ rfl [.pointer (some ⟨T, 0, none⟩)] rfl (enters_of Try.func16 (by kernel_rfl) rfl) (fun w hw => (pLen19 T B9 K9 s5 w (HP9.out.1.grown hw).p (by have := HP9.out.2.1; have := HL9.out; omega)).mono (by rintro e w'' ⟨rfl, hb⟩; exact ⟨by rw [HL9.out.1], hw.trans (hb.mono hw.size)⟩))) ?_
          simp only [Act.put, List.setIfInBounds_toArray, List.set_cons_zero, List.set_cons_succ]
          refine quiet_take (.pointer (some ⟨R, 0, none⟩)) rfl (quiet_pure (fun w => rfl)) ?_
          simp only [Act.put, List.setIfInBounds_toArray, List.set_cons_zero, List.set_cons_succ]
          refine quiet_take (.pointer (some ⟨R, 0, none⟩)) rfl (quiet_pure (fun w => by simp [go_sem])) ?_
          simp only [Act.put, List.setIfInBounds_toArray, List.set_cons_zero, List.set_cons_succ]
          refine quiet_take (.pointer (some ⟨R, 1, none⟩)) rfl (quiet_pure (fun w => by simp [go_sem])) ?_
          simp only [Act.put, List.setIfInBounds_toArray, List.set_cons_zero, List.set_cons_succ]
          refine quiet_take (.slice al9 M9 cl9) rfl (quiet_is (fun w hw => by obtain ⟨f0, f1, f2, f3⟩ := (HP9.out.1.grown hw).r.blk.cells; simp [go_sem, f1])) ?_
          simp only [Act.put, List.setIfInBounds_toArray, List.set_cons_zero, List.set_cons_succ]
          refine quiet_take (.int .i64 (M9 : Nat)) rfl (quiet_pure (fun w => by simp [go_sem])) ?_
          simp only [Act.put, List.setIfInBounds_toArray, List.set_cons_zero, List.set_cons_succ]
          refine quiet_take (.bool false) rfl (quiet_pure (fun w => by simp [go_sem])) ?_
          simp only [Act.put, List.setIfInBounds_toArray, List.set_cons_zero, List.set_cons_succ]
          refine quiet_take (.bool false) rfl (quiet_pure (fun w => rfl)) ?_
          simp only [Act.put, List.setIfInBounds_toArray, List.set_cons_zero, List.set_cons_succ]
          refine quiet_take (.pointer (some ⟨T, 0, none⟩)) rfl (quiet_pure (fun w => rfl)) ?_
          simp only [Act.put, List.setIfInBounds_toArray, List.set_cons_zero, List.set_cons_succ]
          refine quiet_take (.int .i64 (Y9 : Nat)) rfl (quiet_call 17 _ _ rfl [.pointer (some ⟨T, 0, none⟩)] rfl (enters_of Try.func17 (by kernel_rfl) rfl) (fun w hw => (pBytes19 T B9 K9 s5 w (HP9.out.1.grown hw).p (by have := HP9.out.2.1; have := HL9.out; omega) HY9.out.2).mono (by rintro e w'' ⟨rfl, hb⟩; exact ⟨by rw [HY9.out.1], hw.trans (hb.mono hw.size)⟩))) ?_
          simp only [Act.put, List.setIfInBounds_toArray, List.set_cons_zero, List.set_cons_succ]
          refine quiet_take (.pointer (some ⟨R, 0, none⟩)) rfl (quiet_pure (fun w => rfl)) ?_
          simp only [Act.put, List.setIfInBounds_toArray, List.set_cons_zero, List.set_cons_succ]
          refine quiet_take (.int .i64 (Y9 : Nat)) rfl (quiet_call 18 _ _ rfl [.pointer (some ⟨R, 0, none⟩)] rfl (enters_of Try.func18 (by kernel_rfl) rfl) (fun w hw => (rbytes19_any R _ ps9 s5 w (HP9.out.1.grown hw).r (by have := HP9.out.2.1; omega) (fun p hp => by have := HP9.out.2.2 p hp; omega)).mono (by rintro e w'' ⟨rfl, rfl⟩; exact ⟨by rw [HY9.out.1], hw⟩))) ?_
          simp only [Act.put, List.setIfInBounds_toArray, List.set_cons_zero, List.set_cons_succ]
          refine quiet_take (.bool false) rfl (quiet_pure (fun w => by simp [go_sem])) ?_
          simp only [Act.put, List.setIfInBounds_toArray, List.set_cons_zero, List.set_cons_succ]
          refine quiet_take (.bool false) rfl (quiet_pure (fun w => by simp [go_sem])) ?_
          simp only [Act.put, List.setIfInBounds_toArray, List.set_cons_zero, List.set_cons_succ]
          refine quiet_take (.bool false) rfl (quiet_pure (fun w => rfl)) ?_
          simp only [Act.put, List.setIfInBounds_toArray, List.set_cons_zero, List.set_cons_succ]
          refine quiet_take (.pointer (some ⟨T, 0, none⟩)) rfl (quiet_pure (fun w => rfl)) ?_
          simp only [Act.put, List.setIfInBounds_toArray, List.set_cons_zero, List.set_cons_succ]
          refine quiet_take (.bool e9) rfl (quiet_call 19 _ _ rfl [.pointer (some ⟨T, 0, none⟩)] rfl (enters_of Try.func19 (by kernel_rfl) rfl) (fun w hw => (pEnded19 T B9 K9 s5 w (HP9.out.1.grown hw).p).mono (by rintro e w'' ⟨rfl, hb⟩; exact ⟨by rw [HE9.out], hw.trans (hb.mono hw.size)⟩))) ?_
          simp only [Act.put, List.setIfInBounds_toArray, List.set_cons_zero, List.set_cons_succ]
          refine quiet_take (.pointer (some ⟨R, 0, none⟩)) rfl (quiet_pure (fun w => rfl)) ?_
          simp only [Act.put, List.setIfInBounds_toArray, List.set_cons_zero, List.set_cons_succ]
          refine quiet_take (.pointer (some ⟨R, 0, none⟩)) rfl (quiet_pure (fun w => by simp [go_sem])) ?_
          simp only [Act.put, List.setIfInBounds_toArray, List.set_cons_zero, List.set_cons_succ]
          refine quiet_take (.pointer (some ⟨R, 2, none⟩)) rfl (quiet_pure (fun w => by simp [go_sem])) ?_
          simp only [Act.put, List.setIfInBounds_toArray, List.set_cons_zero, List.set_cons_succ]
          refine quiet_take (.bool e9) rfl (quiet_is (fun w hw => by obtain ⟨f0, f1, f2, f3⟩ := (HP9.out.1.grown hw).r.blk.cells; rw [HE9.out] at f2; simp [go_sem, f2])) ?_
          simp only [Act.put, List.setIfInBounds_toArray, List.set_cons_zero, List.set_cons_succ]
          refine quiet_take (.bool false) rfl (quiet_pure (fun w => by simp [go_sem])) ?_
          simp only [Act.put, List.setIfInBounds_toArray, List.set_cons_zero, List.set_cons_succ]
          refine quiet_take (.bool false) rfl (quiet_pure (fun w => by simp [go_sem])) ?_
          simp only [Act.put, List.setIfInBounds_toArray, List.set_cons_zero, List.set_cons_succ]
          intro W10 hb10
          have HP10 := Lib.hid (And.intro (HP9.out.1.grown hb10) HP9.out.2)
          clear hb10 HP9
          go_wp2_with fail
          go_roundg (N - (k + 1))
          case measure => have := HKQ.out; omega
          case rel => exact ⟨k + 1, by omega, by go_num, s5, B9, K9, _, ps9, HP10⟩
      · skip
        go_wp2_with fail
        refine (pPop19 T B K s wr HP.out.1.p (by have h1 := HP.out.1.r.e; have := HP.out.2.1; rw [h1, List.length_map]; omega)).mono ?_
        rintro e x3 ⟨B3, K3, pv3, rfl, h1, h2, h3, h4, h5, h6⟩
        obtain ⟨a3, c3, rfl, _⟩ := id h3
        have HX3 := Lib.hid (show Pl19 w1 x3 T B3 K3 (popQ s) R (.slice al M cl) ps s ∧ Sl .u8 x3 (.slice a3 (popF s).pay.length c3) (popF s).pay ∧ ∀ g, PayB (popF s) (.slice a3 (popF s).pay.length c3) g → g ≠ R from
          ⟨HP.out.1.stepP h1 h2 h5 (fun e => (h6 R e).elim HP.out.1.nK (fun e => by have := HP.out.1.r.blk.lt; omega)), h3, fun g hg e => (h4 g hg).1.elim (fun e' => HP.out.1.nK (e ▸ e')) (fun e' => by have := HP.out.1.r.blk.lt; omega)⟩)
        clear h1 h2 h3 h4 h5 h6
        go_wp2_with fail
        obtain ⟨Q4, hQ4⟩ : ∃ Q4, x3.heap.size = Q4 := ⟨_, rfl⟩
        obtain ⟨w4, hw4⟩ : ∃ w4, x3.alloc (.cells #[.int .i64 (popF s).kind, .int .i64 (popF s).flags, .int .i64 (popF s).stream, .slice a3 (popF s).pay.length c3] 34) = w4 := ⟨_, rfl⟩
        have HB4 := Lib.hid (show Below x3.heap.size x3 w4 ∧ Bx w4 Q4 34 (popF s) (.slice a3 (popF s).pay.length c3) from by rw [← hw4, ← hQ4]; exact ⟨(Below.refl _ _).alloc (Nat.le_refl _) _, Bx.new _ _ _ _⟩)
        rw [hw4]
        rw [hQ4]
        have HX4 := Lib.hid (show Pl19 w1 w4 T B3 K3 (popQ s) R (.slice al M cl) ps s ∧ Sl .u8 w4 (.slice a3 (popF s).pay.length c3) (popF s).pay ∧ Bx w4 Q4 34 (popF s) (.slice a3 (popF s).pay.length c3) ∧ Q4 ≠ R from
          ⟨HX3.out.1.grown HB4.out.1, HX3.out.2.1.below HB4.out.1, HB4.out.2, fun e => by have := HX3.out.1.r.blk.lt; omega⟩)
        clear hw4 hQ4
        refine (rpop19_any R _ ps s w4 HX4.out.1.r (by have := HP.out.2.1; omega)).mono ?_
        rintro e x5 ⟨fv, lv5, rfl, hF, hr, ht, hl⟩
        obtain ⟨pv5, rfl, hF⟩ := hF
        obtain ⟨a5, c5, rfl, _⟩ := id hF
        have HX5 := Lib.hid (show Pl19 w1 x5 T B3 K3 (popQ s) R lv5 (ps.drop 1) (popQ s) ∧ Sl .u8 x5 (.slice a3 (popF s).pay.length c3) (popF s).pay ∧ Bx x5 Q4 34 (popF s) (.slice a3 (popF s).pay.length c3) ∧ Sl .u8 x5 (.slice a5 (popF s).pay.length c5) (popF s).pay from
          ⟨HX4.out.1.stepR hr ht hl (fun f hf => HX4.out.1.np f (List.mem_of_mem_drop hf)), HX4.out.2.1.turn0 ht (fun hne g hg => HX3.out.2.2 g ⟨hne, hg⟩), ht.obj HX4.out.2.2.1 HX4.out.2.2.2, hF⟩)
        clear hF hr ht hl HB4 HX4 HX3
        have m40 := HX5.out.2.2.1.c0
        have m41 := HX5.out.2.2.1.c1
        have m42 := HX5.out.2.2.1.c2
        have m43 := HX5.out.2.2.1.c3
        have m44 := HX5.out.2.2.1.lt
        go_wp2_with fail
        obtain ⟨w6, hw6⟩ : ∃ w6, x5.alloc (.cells #[.int .i64 (popF s).kind, .int .i64 (popF s).flags, .int .i64 (popF s).stream, .slice a5 (popF s).pay.length c5] 34) = w6 := ⟨_, rfl⟩
        have HB6 := Lib.hid (show Below x5.heap.size x5 w6 from by rw [← hw6]; exact (Below.refl _ _).alloc (Nat.le_refl _) _)
        rw [hw6]
        have HX6 := Lib.hid (show Pl19 w1 w6 T B3 K3 (popQ s) R lv5 (ps.drop 1) (popQ s) ∧ Sl .u8 w6 (.slice a3 (popF s).pay.length c3) (popF s).pay ∧ Sl .u8 w6 (.slice a5 (popF s).pay.length c5) (popF s).pay from
          ⟨HX5.out.1.grown HB6.out, HX5.out.2.1.below HB6.out, HX5.out.2.2.2.below HB6.out⟩)
        clear hw6 HX5
        refine (refSame_frame _ _ (popF s) (popF s) w6 ⟨_, rfl, HX6.out.2.1⟩ ⟨_, rfl, HX6.out.2.2⟩).mono ?_
        rintro e w9 ⟨rfl, hb⟩
        rw [decide_eq_true (rfl : popF s = popF s)]
        have HP9 := Lib.hid (And.intro (HX6.out.1.grown hb) (show (ps.drop 1).length ≤ k + 1 ∧ ∀ f ∈ ps.drop 1, f.1.pay.length ≤ 300 from ⟨by have := HP.out.2.1; rw [List.length_drop]; omega, fun f hf => HP.out.2.2 f (List.mem_of_mem_drop hf)⟩))
        clear hb HX6 HB6 HP m40 m41 m42 m43 m44
        generalize popQ s = s5 at HP9
        generalize popB s = b5
        generalize lv5 = lv9 at HP9
        generalize ps.drop 1 = ps9 at HP9
        go_wp2_with fail
        obtain ⟨B9, K9, HP9⟩ : ∃ B9 K9, Hid (Pl19 w1 w9 T B9 K9 s5 R lv9 ps9 s5 ∧ ps9.length ≤ k + 1 ∧ ∀ f ∈ ps9, f.1.pay.length ≤ 300) := ⟨_, _, HP9⟩
        obtain ⟨al9, cl9, elv9, _⟩ := id HP9.out.1.r.l.2
        obtain ⟨M9, hM9⟩ : ∃ M9, ps9.length = M9 := ⟨_, rfl⟩
        obtain ⟨Y9, hY9⟩ : ∃ Y9, sumPay s5.l = Y9 := ⟨_, rfl⟩
        obtain ⟨e9, he9⟩ : ∃ e9, s5.ended = e9 := ⟨_, rfl⟩
        have HL9 := Lib.hid (show s5.l.length = M9 ∧ ps9.length = M9 from ⟨by rw [HP9.out.1.r.e, List.length_map, hM9], hM9⟩)
        have HY9 := Lib.hid (And.intro hY9 (show ∀ f ∈ s5.l, f.pay.length ≤ 100000 from fun f hf => by
          rw [HP9.out.1.r.e] at hf
          obtain ⟨p, hp, rfl⟩ := List.mem_map.1 hf
          have := HP9.out.2.2 p hp
          omega))
        have HE9 := Lib.hid he9
        rw [hM9] at elv9
        subst elv9
        clear hM9 hY9 he9
        go_wp2_with fail
        refine wp_region_quiet (C := fun w' => Below w9.heap.size w9 w') (by kernel_rfl) (by kernel_rfl) (Below.refl _ _).drew ?_
        refine quiet_take (.pointer (some ⟨T, 0, none⟩)) rfl (quiet_pure (fun w => rfl)) ?_
        simp only [Act.put, List.setIfInBounds_toArray, List.set_cons_zero, List.set_cons_succ]
        refine quiet_take (.int .i64 (M9 : Nat)) rfl (quiet_call 16 _ _ rfl [.pointer (some ⟨T, 0, none⟩)] rfl (enters_of Try.func16 (by kernel_rfl) rfl) (fun w hw => (pLen19 T B9 K9 s5 w (HP9.out.1.grown hw).p (by have := HP9.out.2.1; have := HL9.out; omega)).mono (by rintro e w'' ⟨rfl, hb⟩; exact ⟨by rw [HL9.out.1], hw.trans (hb.mono hw.size)⟩))) ?_
        simp only [Act.put, List.setIfInBounds_toArray, List.set_cons_zero, List.set_cons_succ]
        refine quiet_take (.pointer (some ⟨R, 0, none⟩)) rfl (quiet_pure (fun w => rfl)) ?_
        simp only [Act.put, List.setIfInBounds_toArray, List.set_cons_zero, List.set_cons_succ]
        refine quiet_take (.pointer (some ⟨R, 0, none⟩)) rfl (quiet_pure (fun w => by simp [go_sem])) ?_
        simp only [Act.put, List.setIfInBounds_toArray, List.set_cons_zero, List.set_cons_succ]
        refine quiet_take (.pointer (some ⟨R, 1, none⟩)) rfl (quiet_pure (fun w => by simp [go_sem])) ?_
        simp only [Act.put, List.setIfInBounds_toArray, List.set_cons_zero, List.set_cons_succ]
        refine quiet_take (.slice al9 M9 cl9) rfl (quiet_is (fun w hw => by obtain ⟨f0, f1, f2, f3⟩ := (HP9.out.1.grown hw).r.blk.cells; simp [go_sem, f1])) ?_
        simp only [Act.put, List.setIfInBounds_toArray, List.set_cons_zero, List.set_cons_succ]
        refine quiet_take (.int .i64 (M9 : Nat)) rfl (quiet_pure (fun w => by simp [go_sem])) ?_
        simp only [Act.put, List.setIfInBounds_toArray, List.set_cons_zero, List.set_cons_succ]
        refine quiet_take (.bool false) rfl (quiet_pure (fun w => by simp [go_sem])) ?_
        simp only [Act.put, List.setIfInBounds_toArray, List.set_cons_zero, List.set_cons_succ]
        refine quiet_take (.bool false) rfl (quiet_pure (fun w => rfl)) ?_
        simp only [Act.put, List.setIfInBounds_toArray, List.set_cons_zero, List.set_cons_succ]
        refine quiet_take (.pointer (some ⟨T, 0, none⟩)) rfl (quiet_pure (fun w => rfl)) ?_
        simp only [Act.put, List.setIfInBounds_toArray, List.set_cons_zero, List.set_cons_succ]
        refine quiet_take (.int .i64 (Y9 : Nat)) rfl (quiet_call 17 _ _ rfl [.pointer (some ⟨T, 0, none⟩)] rfl (enters_of Try.func17 (by kernel_rfl) rfl) (fun w hw => (pBytes19 T B9 K9 s5 w (HP9.out.1.grown hw).p (by have := HP9.out.2.1; have := HL9.out; omega) HY9.out.2).mono (by rintro e w'' ⟨rfl, hb⟩; exact ⟨by rw [HY9.out.1], hw.trans (hb.mono hw.size)⟩))) ?_
        simp only [Act.put, List.setIfInBounds_toArray, List.set_cons_zero, List.set_cons_succ]
        refine quiet_take (.pointer (some ⟨R, 0, none⟩)) rfl (quiet_pure (fun w => rfl)) ?_
        simp only [Act.put, List.setIfInBounds_toArray, List.set_cons_zero, List.set_cons_succ]
        refine quiet_take (.int .i64 (Y9 : Nat)) rfl (quiet_call 18 _ _ rfl [.pointer (some ⟨R, 0, none⟩)] rfl (enters_of Try.func18 (by kernel_rfl) rfl) (fun w hw => (rbytes19_any R _ ps9 s5 w (HP9.out.1.grown hw).r (by have := HP9.out.2.1; omega) (fun p hp => by have := HP9.out.2.2 p hp; omega)).mono (by rintro e w'' ⟨rfl, rfl⟩; exact ⟨by rw [HY9.out.1], hw⟩))) ?_
        simp only [Act.put, List.setIfInBounds_toArray, List.set_cons_zero, List.set_cons_succ]
        refine quiet_take (.bool false) rfl (quiet_pure (fun w => by simp [go_sem])) ?_
        simp only [Act.put, List.setIfInBounds_toArray, List.set_cons_zero, List.set_cons_succ]
        refine quiet_take (.bool false) rfl (quiet_pure (fun w => by simp [go_sem])) ?_
        simp only [Act.put, List.setIfInBounds_toArray, List.set_cons_zero, List.set_cons_succ]
        refine quiet_take (.bool false) rfl (quiet_pure (fun w => rfl)) ?_
        simp only [Act.put, List.setIfInBounds_toArray, List.set_cons_zero, List.set_cons_succ]
        refine quiet_take (.pointer (some ⟨T, 0, none⟩)) rfl (quiet_pure (fun w => rfl)) ?_
        simp only [Act.put, List.setIfInBounds_toArray, List.set_cons_zero, List.set_cons_succ]
        refine quiet_take (.bool e9) rfl (quiet_call 19 _ _ rfl [.pointer (some ⟨T, 0, none⟩)] rfl (enters_of Try.func19 (by kernel_rfl) rfl) (fun w hw => (pEnded19 T B9 K9 s5 w (HP9.out.1.grown hw).p).mono (by rintro e w'' ⟨rfl, hb⟩; exact ⟨by rw [HE9.out], hw.trans (hb.mono hw.size)⟩))) ?_
        simp only [Act.put, List.setIfInBounds_toArray, List.set_cons_zero, List.set_cons_succ]
        refine quiet_take (.pointer (some ⟨R, 0, none⟩)) rfl (quiet_pure (fun w => rfl)) ?_
        simp only [Act.put, List.setIfInBounds_toArray, List.set_cons_zero, List.set_cons_succ]
        refine quiet_take (.pointer (some ⟨R, 0, none⟩)) rfl (quiet_pure (fun w => by simp [go_sem])) ?_
        simp only [Act.put, List.setIfInBounds_toArray, List.set_cons_zero, List.set_cons_succ]
        refine quiet_take (.pointer (some ⟨R, 2, none⟩)) rfl (quiet_pure (fun w => by simp [go_sem])) ?_
        simp only [Act.put, List.setIfInBounds_toArray, List.set_cons_zero, List.set_cons_succ]
        refine quiet_take (.bool e9) rfl (quiet_is (fun w hw => by obtain ⟨f0, f1, f2, f3⟩ := (HP9.out.1.grown hw).r.blk.cells; rw [HE9.out] at f2; simp [go_sem, f2])) ?_
        simp only [Act.put, List.setIfInBounds_toArray, List.set_cons_zero, List.set_cons_succ]
        refine quiet_take (.bool false) rfl (quiet_pure (fun w => by simp [go_sem])) ?_
        simp only [Act.put, List.setIfInBounds_toArray, List.set_cons_zero, List.set_cons_succ]
        refine quiet_take (.bool false) rfl (quiet_pure (fun w => by simp [go_sem])) ?_
        simp only [Act.put, List.setIfInBounds_toArray, List.set_cons_zero, List.set_cons_succ]
        intro W10 hb10
        have HP10 := Lib.hid (And.intro (HP9.out.1.grown hb10) HP9.out.2)
        clear hb10 HP9
        go_wp2_with fail
        go_roundg (N - (k + 1))
        case measure => have := HKQ.out; omega
        case rel => exact ⟨k + 1, by omega, by go_num, s5, B9, K9, _, ps9, HP10⟩
    · obtain rfl : k = N := by omega
      clear hlt hk
      have HBe := Lib.hid HP.out.1.b
      clear HP
      go_wp2_with fail
      refine (pPop19_nil _).mono ?_
      rintro e x3 ⟨rfl, hb3⟩
      have HB3 := Lib.hid (HBe.out.trans ((hb3.alloc hb3.size (.cells #[.int .i64 0, .int .i64 0, .int .i64 0, .slice none 0 0] 34)).mono HBe.out.size))
      clear hb3
      go_wp2_with fail
      obtain ⟨w3, hw3⟩ : ∃ w3, x3.alloc (.cells #[.int .i64 0, .int .i64 0, .int .i64 0, .slice none 0 0] 34) = w3 := ⟨_, rfl⟩
      rw [hw3] at HB3 ⊢
      clear hw3
      refine (alive19 _).mono ?_
      rintro e w4 ⟨rfl, hb4⟩
      have HB4 := Lib.hid (HB3.out.trans (hb4.mono HB3.out.size))
      clear hb4
      go_wp2_with fail
      refine (pPush19_nil ⟨0, 0, 0, []⟩ _ _ (Sl.nil _ _)).mono ?_
      rintro e w5 ⟨rfl, hb5⟩
      have HB5 := Lib.hid (HB4.out.trans (hb5.mono HB4.out.size))
      clear hb5
      go_wp2_with fail
      refine (pLast19_nil ⟨0, 0, 0, []⟩ _ _ (Sl.nil _ _)).mono ?_
      rintro e w6 ⟨rfl, hb6⟩
      have HB6 := Lib.hid (HB5.out.trans (hb6.mono HB5.out.size))
      clear hb6
      go_wp2_with fail
      refine (pLen19_nil _).mono ?_
      rintro e w7 ⟨rfl, hb7⟩
      have HB7 := Lib.hid (HB6.out.trans (hb7.mono HB6.out.size))
      clear hb7
      go_wp2_with fail
      refine (pBytes19_nil _).mono ?_
      rintro e w8 ⟨rfl, hb8⟩
      have HB8 := Lib.hid (HB7.out.trans (hb8.mono HB7.out.size))
      clear hb8
      go_wp2_with fail
      refine (pEnded19_nil _).mono ?_
      rintro e w9 ⟨rfl, hb9⟩
      have HB9 := Lib.hid (HB8.out.trans (hb9.mono HB8.out.size))
      clear hb9
      go_wp2_with fail
      go_ret
      exact ⟨rfl, HB9.out⟩
end Go.Proofs.Ytiappeagdnkedaa
