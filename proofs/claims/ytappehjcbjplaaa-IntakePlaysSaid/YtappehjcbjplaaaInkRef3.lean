
/-
  Layer 13's reference: Feed, Next (written by wip/tools/gen13f.py).
-/
import Derived.Test.YtappehjcbjplaaaInkRef2
import Derived.Test.YtappehjcbjplaaaBuilds
namespace Go.Proofs.Ytappehjcbjplaaa
set_option maxRecDepth 20000
open Go.RowKit

/-- what a call on the object in block R may turn -/
theorem turned_trans {w w1 w2 : World} {R : Nat} (h1 : w.grownBy w1 (some R)) (h2 : w1.grownBy w2 (some R)) : w.grownBy w2 (some R) :=
  ⟨h2.os.trans h1.os, h2.tape.trans h1.tape, h2.output.trans h1.output, Nat.le_trans h1.size h2.size, fun k hk hne => (h2.block k (Nat.lt_of_lt_of_le hk h1.size) hne).trans (h1.block k hk hne)⟩
theorem turned_below {w w1 : World} (R : Nat) (h : Below w.heap.size w w1) : w.grownBy w1 (some R) := ⟨h.os, h.tape, h.output, h.size, fun k hk _ => h.block k hk⟩
theorem turned_set (w : World) (R j : Nat) (u : Value) : w.grownBy (w.setCell ⟨R, j, none⟩ u) (some R) := ⟨rfl, rfl, rfl, by simp [World.setCell], fun k _ hne => Below.heap_setCell _ _ _ _ (fun e => hne (by rw [show k = R from e]))⟩
theorem Sl.setOther {k : IntKind} {w : World} {v : Value} {zs : List Int} {R j : Nat} {u : Value} (h : Sl k w v zs) (hne : ∀ g, v.ownBlock = some g → g ≠ R) : Sl k (w.setCell ⟨R, j, none⟩ u) v zs := h.kept (turned_set w R j u) (fun g hg e => hne g hg (Option.some.inj e).symm)
/-- a byte slice lies in no block of the object's kind -/
theorem RkBlk.ne {W : World} {R : Nat} {most : Int} {bv : Value} {told : Nat} {over : Int} (h : RkBlk W R most bv told over) {v : Value} (hv : Ty W 5 v) : ∀ g, v.ownBlock = some g → g ≠ R := fun g hg e => by
  subst e
  obtain ⟨cs, fr, hh⟩ := hv g hg
  unfold RkBlk at h
  rw [hh] at h
  simp only [Option.some.injEq, Obj.cells.injEq] at h
  exact absurd h.2.1 (by decide)

set_option maxHeartbeats 4000000 in
theorem refFeed13_any (R N : Nat) (Q : Option Nat) (s : Ik) (v : Value) (b : List Int) (w : World) (h : RkAt w R Q N s) (hv : Sl .u8 w v b) (hN : N + b.length ≤ 100000000) :
    Calls Try.prog 9 #[.pointer (some ⟨R, 0, none⟩), v] w fun e w' => e = .returned (.tuple #[]) ∧ (∃ Q', RkAt w' R Q' (N + b.length) (feedI s b) ∧ (Q' = Q ∨ ∀ g, Q' = some g → w.heap.size ≤ g ∧ g < w'.heap.size)) ∧ w.grownBy w' (some R) := by
  obtain ⟨bv, bs, told, hb, hs, hr, hn, hq0⟩ := h
  obtain ⟨a, c, rfl, _⟩ := id hs
  obtain ⟨ab, cb, rfl, _⟩ := id hv
  obtain ⟨f0, f1, f2, f3, f4⟩ := RkBlk.cells hb
  by_cases ho : s.over = 0
  rotate_left
  · have d0 : (s.over != 0) = true := by simpa using ho
    have HE := Lib.hid (show feedI s b = s by unfold feedI; rw [if_pos ho])
    have HA := Lib.hid (show RkAt w R Q (N + b.length) s from ⟨_, bs, told, hb, hs, hr, by omega, hq0⟩)
    clear ho hr hn hN hb hs hv
    go_enter Try.func9, Try.ntmps9
    go_wp2_with fail
    refine bodyPost_ret (results_none rfl _ _ _) rfl ?_
    exact ⟨rfl, ⟨Q, by rw [HE.out]; exact HA.out, .inl rfl⟩, World.grownBy.refl _ _⟩
  · have d0 : (s.over != 0) = false := by simpa using ho
    obtain ⟨r1, r2, r3, r4⟩ := RkRel.feed hr hs.fit ho b
    have HR := Lib.hid (And.intro r1 (And.intro r2 (And.intro r3 r4)))
    have HLn := Lib.hid (show bs.length + b.length ≤ N + b.length ∧ bs.length + b.length ≤ 100000000 from ⟨by omega, by omega⟩)
    obtain ⟨W1, hW1⟩ : ∃ W1, w.alloc (.cells #[] 5) = W1 := ⟨_, rfl⟩
    have HB1 := Lib.hid (show Below w.heap.size w W1 ∧ W1.ownsRow w.heap.size 5 1 (.slice (some ⟨w.heap.size, 0, none⟩) 0 0) 0 (([] : List Int).map (Value.int .u8)) from by
      rw [← hW1]; exact ⟨(Below.refl _ _).alloc (Nat.le_refl _) _, owned_lit [] (Nat.le_refl _) rfl rfl rfl (by simp)⟩)
    have HK := Lib.hid (And.intro hb (And.intro hs hv))
    have HS1 := Lib.hid (hs.below HB1.out.1)
    have HX := Lib.hid HB1.out.1.size
    have htld := RkRel.told_le hr hs.fit ho
    clear ho hr hn hN r1 r2 r3 r4 hs hv htld
    obtain ⟨k0, k1, k2, k3, k4⟩ := RkBlk.cells (HK.out.1.below HB1.out.1)
    clear hb
    go_enter Try.func9, Try.ntmps9
    go_wp2_with (first
      | (at_builtin; refine app_ints rfl (.tmp 11) (.tmp 15) 30 rfl w.heap.size 5 .u8 1 Try.underlying30 Try.info5' _ _ ([] : List Int) rfl HB1.out.2 _ _ rfl HS1.out (by have := HLn.out; simp; omega) (by have := HLn.out; unfold maxLen; simp; omega) HX.out ?_; intro v4 w4 own4 hc4 hg4; simp only [List.length_nil, Nat.zero_add, List.nil_append] at own4; obtain ⟨a4, k4', rfl, _⟩ := owned_shape own4; have HB4 := Lib.hid (HB1.out.1.trans hc4); have HO4 := Lib.hid own4; clear own4 hc4 hg4)
      | (at_builtin; refine app_ints rfl (.tmp 16) (.tmp 17) 30 rfl w.heap.size 5 .u8 1 Try.underlying30 Try.info5' _ _ bs rfl HO4.out _ _ rfl (HK.out.2.2.below HB4.out) (by have := HLn.out; simp; omega) (by have := HLn.out; unfold maxLen; simp; omega) HB4.out.size ?_; intro v5 w5 own5 hc5 hg5; obtain ⟨a5, k5, rfl, _⟩ := owned_shape own5; have HB5 := Lib.hid (HB4.out.trans hc5); have HO5 := Lib.hid own5; have j1 := (RkBlk.cells (HK.out.1.below (HB4.out.trans hc5))).2.1; have j2 := blk_free (j := 1) (show w5.heap[R]? = _ from HK.out.1.below (HB4.out.trans hc5)); clear own5 hc5 hg5))
    have HW6 := Lib.hid (show RkBlk (w5.setCell ⟨R, 1, none⟩ (.slice a5 (bs.length + b.length) k5)) R s.most (.slice a5 (bs.length + b.length) k5) told s.over ∧ Sl .u8 (w5.setCell ⟨R, 1, none⟩ (.slice a5 (bs.length + b.length) k5)) (.slice a5 (bs.length + b.length) k5) (bs ++ b) ∧ w.grownBy (w5.setCell ⟨R, 1, none⟩ (.slice a5 (bs.length + b.length) k5)) (some R) ∧ w5.heap.size ≤ (w5.setCell ⟨R, 1, none⟩ (.slice a5 (bs.length + b.length) k5)).heap.size from by
      refine ⟨heap_setCell_same _ R 1 _ _ _ (HK.out.1.below HB5.out), ?_, turned_trans (turned_below R HB5.out) (turned_set _ _ _ _), by simp [World.setCell]⟩
      have h5 := Sl.of_own HO5.out (Fit.append HS1.out.fit HK.out.2.2.fit) (by have := HLn.out; unfold maxLen; simp; omega)
      exact h5.setOther (fun g hg => by have h1 := (HO5.out.lt g hg).1; have h2 := HK.out.1.lt; omega))
    generalize w5.setCell ⟨R, 1, none⟩ (.slice a5 (bs.length + b.length) k5) = w6 at HW6 ⊢
    clear j1 j2 k0 k1 k2 k3 k4 f0 f1 f2 f3 f4
    refine (refWrong_any R _ _ told _ (bs ++ b) w6 HW6.out.1 HW6.out.2.1).mono ?_
    rintro e w7 ⟨rfl, hb7⟩
    have HW7 := Lib.hid (show RkBlk w7 R s.most (.slice a5 (bs.length + b.length) k5) told s.over ∧ Sl .u8 w7 (.slice a5 (bs.length + b.length) k5) (bs ++ b) ∧ w.grownBy w7 (some R) ∧ ∀ g, (Value.slice a5 (bs.length + b.length) k5).ownBlock = some g → g ≠ R ∧ w.heap.size ≤ g ∧ g < w7.heap.size from
      ⟨HW6.out.1.below hb7, HW6.out.2.1.below hb7, turned_trans HW6.out.2.2.1 (turned_below R hb7), fun g hg => by have h1 := (HO5.out.lt g hg).1; have h2 := HK.out.1.lt; have h3 := (HO5.out.lt g hg).2; have h4 := HW6.out.2.2.2; have h5 := hb7.size; omega⟩)
    clear hb7 HW6
    obtain ⟨q, hq⟩ : ∃ q, wrongL (bs ++ b) = q := ⟨_, rfl⟩
    rw [hq] at HR ⊢
    clear hq
    have HLL := Lib.hid (show (bs ++ b).length ≤ N + b.length by have := HLn.out; simp; omega)
    cases q
    · have HA := Lib.hid (show RkAt w7 R (Value.slice a5 (bs.length + b.length) k5).ownBlock (N + b.length) (feedI s b) from by
        obtain ⟨r1, r2, r3, r4⟩ := HR.out
        refine ⟨_, bs ++ b, told, ?_, HW7.out.2.1, r1, HLL.out, rfl⟩
        rw [r4, r3 rfl]
        have := HW7.out.1
        have ho : s.over = 0 := by simpa using d0
        rwa [ho] at this)
      clear d0
      go_wp2_with fail
      refine bodyPost_end (results_none rfl _ _ _) rfl ?_
      exact ⟨rfl, ⟨_, HA.out, .inr (fun g hg => (HW7.out.2.2.2 g hg).2)⟩, HW7.out.2.2.1⟩
    · have j3 := (RkBlk.cells HW7.out.1).2.2.2.1
      have j4 := blk_free (j := 3) (show w7.heap[R]? = _ from HW7.out.1)
      have HA := Lib.hid (show RkAt (w7.setCell ⟨R, 3, none⟩ (.int .i64 3)) R (Value.slice a5 (bs.length + b.length) k5).ownBlock (N + b.length) (feedI s b) from by
        obtain ⟨r1, r2, r3, r4⟩ := HR.out
        refine ⟨_, bs ++ b, told, ?_, HW7.out.2.1.setOther (fun g hg => (HW7.out.2.2.2 g hg).1), r1, HLL.out, rfl⟩
        rw [r4, r2 rfl]
        exact heap_setCell_same _ R 3 _ _ _ HW7.out.1)
      go_wp2_with fail
      refine bodyPost_end (results_none rfl _ _ _) rfl ?_
      exact ⟨rfl, ⟨_, HA.out, .inr (fun g hg => by have h := (HW7.out.2.2.2 g hg).2; exact ⟨h.1, by simpa [World.setCell] using h.2⟩)⟩, turned_trans HW7.out.2.2.1 (turned_set _ _ _ _)⟩

theorem nextI_over {s : Ik} (h : s.over ≠ 0) : nextIF s = Fr.zero ∧ nextIE s = s.over ∧ nextIS s = s := by
  simp [nextIF, nextIE, nextIS, h]
theorem nextI_more {s : Ik} (h : s.over = 0) (hb : s.begun = false) : nextIF s = Fr.zero ∧ nextIE s = 2 ∧ nextIS s = s := by
  simp [nextIF, nextIE, nextIS, h, hb]
theorem nextI_go {s : Ik} (h : s.over = 0) (hb : s.begun = true) : nextIF s = nextF s.got s.most ∧ nextIE s = nextE s.got s.most := by
  simp [nextIF, nextIE, h, hb]
theorem wp_fr13 {o : Oper} {a : Act} {w : World} {K : Act → World → Prop} {Q : Exit → Act → World → Prop} (hd : o.dst = none) (x y : Operand) (ho : o.op = .store 36 x y) (g : Nat) (F : Fr) (ap : Option Addr) (n cp : Nat) (cs : Array Value) (hx : a.eval x = .pointer (some ⟨g, 0, none⟩))
    (hy : a.eval y = .agg #[.int .i64 F.kind, .int .i64 F.flags, .int .i64 F.stream, .slice ap n cp]) (hg : w.heap[g]? = some (.cells cs 36 (0, 0))) (hcs : cs.size = 4) (h : K a (w.setRow g #[.int .i64 F.kind, .int .i64 F.flags, .int .i64 F.stream, .slice ap n cp])) : o.wp Try.prog a w K Q :=
  wp_store_row 36 x y ho g _ hx hy 36 cs hg (by rw [show (#[Value.int .i64 F.kind, .int .i64 F.flags, .int .i64 F.stream, .slice ap n cp] : Array Value).size = 4 from rfl]; kernel_rfl) (by rw [hcs]; rfl) (by simp [Value.oneCell']) (by rw [hd]; exact h)
/-- bytes lie in no block of the object's kind -/
theorem Sl.ne_blk {W : World} {R : Nat} {most : Int} {bv : Value} {told : Nat} {over : Int} {v : Value} {zs : List Int} (h : Sl .u8 W v zs) (h0 : 0 < zs.length) (hB : RkBlk W R most bv told over) (hbv : ∃ a n c, bv = .slice a n c := by exact ⟨_, _, _, rfl⟩) : ∀ g, v.ownBlock = some g → g ≠ R := fun g hg e => by
  subst e
  obtain ⟨a, cap, rfl, _, _, _, h3⟩ := h
  obtain ⟨a', n', c', rfl⟩ := hbv
  rcases h3 with ⟨h3, _⟩ | ⟨b, off, rfl, _, hc⟩
  · omega
  · cases hg
    have := hc 0 h0
    unfold RkBlk at hB
    simp only [World.cell?, hB, Option.isSome_none, Bool.false_eq_true, if_false, Nat.add_zero] at this
    match off, this with
    | 0, this => cases this
    | 1, this => cases this
    | 2, this => cases this
    | 3, this => cases this
    | n + 4, this => simp at this
/-- the end of Next: the answer's row -/
theorem next_end {w W : World} {R N g : Nat} {s : Ik} {bv : Value} {bs : List Int} {told' : Nat} {over : Int} {F : Fr} {ap2 : Option Addr} {cp2 : Nat} {cs : Array Value} {e : Int}
    (h1 : RkBlk W R s.most bv told' over) (h2 : Sl .u8 W bv bs) (h3 : w.grownBy W (some R)) (h4 : W.heap[g]? = some (.cells cs 36 (0, 0))) (h5 : FrP F (.agg #[.int .i64 F.kind, .int .i64 F.flags, .int .i64 F.stream, .slice ap2 F.pay.length cp2]) W)
    (hRg : R ≠ g) (hg : w.heap.size = g) (hbv : ∀ g', bv.ownBlock = some g' → g' < g) (hF : nextIF s = F) (hE : nextIE s = e) (hr : RkRel (nextIS s) bs told' ∧ (nextIS s).over = over) (hn : bs.length ≤ N) :
    ∃ fv, Ending.returned (.tuple #[.agg #[.int .i64 F.kind, .int .i64 F.flags, .int .i64 F.stream, .slice ap2 F.pay.length cp2], .int .i64 e]) = .returned (.tuple #[fv, .int .i64 (nextIE s)]) ∧ FrV (W.setRow g #[.int .i64 F.kind, .int .i64 F.flags, .int .i64 F.stream, .slice ap2 F.pay.length cp2]) fv (nextIF s) ∧ RkAt (W.setRow g #[.int .i64 F.kind, .int .i64 F.flags, .int .i64 F.stream, .slice ap2 F.pay.length cp2]) R bv.ownBlock N (nextIS s) ∧ w.grownBy (W.setRow g #[.int .i64 F.kind, .int .i64 F.flags, .int .i64 F.stream, .slice ap2 F.pay.length cp2]) (some R) := by
  obtain ⟨ap', cp', e6, h7, h8⟩ := h5
  refine ⟨_, by rw [hE], ?_, ⟨bv, bs, told', ?_, ?_, hr.1, hn, rfl⟩, ?_⟩
  · rw [hF]
    have hsz : ap2 = ap' ∧ cp2 = cp' := by simp at e6; exact e6
    obtain ⟨rfl, rfl⟩ := hsz
    exact ⟨_, rfl, h7.kept (setRow_grown _ _ _) (ty_ne h8 h4 (by decide))⟩
  · rw [nextIS_most, hr.2]
    exact (setRow_other _ _ _ _ hRg).trans h1
  · exact h2.kept (setRow_grown _ _ _) (fun g' hg' e' => by have := hbv g' hg'; have := Option.some.inj e'; omega)
  · exact ⟨h3.os, h3.tape, h3.output, by simpa [World.setRow] using h3.size, fun k hk hne => (setRow_other _ _ _ _ (by omega)).trans (h3.block k hk hne)⟩
set_option maxHeartbeats 8000000 in
theorem refNext13_any (R N : Nat) (Q : Option Nat) (s : Ik) (w : World) (h : RkAt w R Q N s) (hN : N ≤ 100000000) :
    Calls Try.prog 11 #[.pointer (some ⟨R, 0, none⟩)] w fun e w' => ∃ fv, e = .returned (.tuple #[fv, .int .i64 (nextIE s)]) ∧ FrV w' fv (nextIF s) ∧ RkAt w' R Q N (nextIS s) ∧ w.grownBy w' (some R) := by
  have h0 := h
  obtain ⟨bv, bs, told, hb, hs, hr, hn, hq0⟩ := h
  subst hq0
  obtain ⟨a, c, rfl, _⟩ := id hs
  obtain ⟨W1, hW1⟩ : ∃ W1, w.alloc (.cells #[.int .i64 0, .int .i64 0, .int .i64 0, .slice none 0 0] 36) = W1 := ⟨_, rfl⟩
  obtain ⟨g, hg⟩ : ∃ g, w.heap.size = g := ⟨_, rfl⟩
  have HB1 := Lib.hid (show Below w.heap.size w W1 ∧ W1.heap[g]? = some (.cells #[.int .i64 0, .int .i64 0, .int .i64 0, .slice none 0 0] 36 (0, 0)) ∧ R < g ∧ g < W1.heap.size ∧ w.heap.size = g from by
    rw [← hW1, ← hg]; exact ⟨(Below.refl _ _).alloc (Nat.le_refl _) _, heap_alloc_new _ _, hb.lt, by simp, rfl⟩)
  obtain ⟨f0, f1, f2, f3, f4⟩ := RkBlk.cells (hb.below HB1.out.1)
  by_cases ho : s.over = 0
  rotate_left
  · have d0 : (s.over != 0) = true := by simpa using ho
    have HE := Lib.hid (nextI_over ho)
    have HA := Lib.hid h0
    have HBk := Lib.hid (hb.below HB1.out.1)
    clear ho hr hn hN hb hs h0
    go_enter Try.func11, Try.ntmps11
    go_wp2_with fail
    clear hW1
    refine wp_region_held (S := fun w' => w'.cell? ⟨R, 3, none⟩ = some (.int .i64 s.over)) (by kernel_rfl) ?_
    have s1 : ({ W1 with drawn := W1.drawn + 1 } : World).cell? ⟨R, 3, none⟩ = some (.int .i64 s.over) := f3
    have HQ := Lib.hid (show Below w.heap.size w ({ W1 with drawn := W1.drawn + 1 } : World) ∧ ({ W1 with drawn := W1.drawn + 1 } : World).heap[g]? = some (.cells #[.int .i64 0, .int .i64 0, .int .i64 0, .slice none 0 0] 36 (0, 0)) ∧ RkAt ({ W1 with drawn := W1.drawn + 1 } : World) R (Value.slice a bs.length c).ownBlock N s from ⟨HB1.out.1.drew, HB1.out.2.1, HA.out.below HB1.out.1.drew⟩)
    generalize ({ W1 with drawn := W1.drawn + 1 } : World) = W2 at s1 HQ ⊢
    clear f0 f1 f2 f3 f4
    refine wpAnyH_early 0 12 (.agg #[.int .i64 0, .int .i64 0, .int .i64 0, .slice none 0 0]) (by kernel_rfl) (by kernel_rfl) (by kernel_rfl) (fun _ _ _ h => h) rfl (fun o ho => by obtain rfl := Option.some.inj ho; exact .inl ⟨rfl, fun W hS => by kernel_rfl⟩) s1 ?_
    simp only [Act.put, List.setIfInBounds_toArray, List.set_cons_zero, List.set_cons_succ]
    refine wpAnyH_early 1 13 (.pointer (some ⟨R, 0, none⟩)) (by kernel_rfl) (by kernel_rfl) (by kernel_rfl) (fun _ _ _ h => h) rfl (fun o ho => by obtain rfl := Option.some.inj ho; exact .inl ⟨rfl, fun W hS => rfl⟩) s1 ?_
    simp only [Act.put, List.setIfInBounds_toArray, List.set_cons_zero, List.set_cons_succ]
    refine wpAnyH_early 2 14 (.pointer (some ⟨R, 0, none⟩)) (by kernel_rfl) (by kernel_rfl) (by kernel_rfl) (fun _ _ _ h => h) rfl (fun o ho => by obtain rfl := Option.some.inj ho; exact .inl ⟨rfl, fun W hS => rfl⟩) s1 ?_
    simp only [Act.put, List.setIfInBounds_toArray, List.set_cons_zero, List.set_cons_succ]
    refine wpAnyH_early 3 15 (.pointer (some ⟨R, 3, none⟩)) (by kernel_rfl) (by kernel_rfl) (by kernel_rfl) (fun _ _ _ h => h) rfl (fun o ho => by obtain rfl := Option.some.inj ho; exact .inl ⟨rfl, fun W hS => rfl⟩) s1 ?_
    simp only [Act.put, List.setIfInBounds_toArray, List.set_cons_zero, List.set_cons_succ]
    refine wpAnyH_early 4 16 (.int .i64 s.over) (by kernel_rfl) (by kernel_rfl) (by kernel_rfl) (fun _ _ _ h => h) rfl (fun o ho => by obtain rfl := Option.some.inj ho; exact .inl ⟨rfl, fun W hS => by simp [execOp, go_sem, hS]⟩) s1 ?_
    simp only [Act.put, List.setIfInBounds_toArray, List.set_cons_zero, List.set_cons_succ]
    refine wpAnyH_only 5 (by kernel_rfl) rfl (fun o ho => ?_)
    obtain rfl := Option.some.inj ho
    have s2 : (W2.setRow g #[.int .i64 0, .int .i64 0, .int .i64 0, .slice none 0 0]).cell? ⟨R, 3, none⟩ = some (.int .i64 s.over) := by
      rw [cell_setRow_other _ _ _ _ (by show R ≠ g; have := HB1.out.2.2.1; omega)]; exact s1
    refine wp_fr13 rfl (.tmp 2) (.tmp 12) rfl g Fr.zero none 0 0 _ rfl rfl HQ.out.2.1 rfl ⟨s2, ?_⟩
    simp only [Fr.zero]
    have HZ := Lib.hid (show RkAt (W2.setRow g #[.int .i64 0, .int .i64 0, .int .i64 0, .slice none 0 0]) R (Value.slice a bs.length c).ownBlock N s ∧ Below w.heap.size w (W2.setRow g #[.int .i64 0, .int .i64 0, .int .i64 0, .slice none 0 0]) ∧ (W2.setRow g #[.int .i64 0, .int .i64 0, .int .i64 0, .slice none 0 0]).heap[g]? = some (.cells #[.int .i64 0, .int .i64 0, .int .i64 0, .slice none 0 0] 36 (0, 0)) from
      ⟨HA.out.below (below_setRow HQ.out.1 (by rw [HB1.out.2.2.2.2]; exact Nat.le_refl _) _), below_setRow HQ.out.1 (by rw [HB1.out.2.2.2.2]; exact Nat.le_refl _) _, setRow_heap _ _ _ _ _ _ HQ.out.2.1⟩)
    generalize W2.setRow g #[.int .i64 0, .int .i64 0, .int .i64 0, .slice none 0 0] = W3 at s2 HZ ⊢
    refine wpAnyH_early 6 3 (.int .i64 s.over) (by kernel_rfl) (by kernel_rfl) (by kernel_rfl) (fun _ _ _ h => h) rfl (fun o ho => by obtain rfl := Option.some.inj ho; exact .inl ⟨rfl, fun W hS => rfl⟩) s2 ?_
    simp only [Act.put, List.setIfInBounds_toArray, List.set_cons_zero, List.set_cons_succ]
    refine wpAnyH_done (by kernel_rfl) ?_ _
    go_wp2_with fail
    refine bodyPost_ret (results_row_tmp1 rfl _ _ g 36 #[.int .i64 0, .int .i64 0, .int .i64 0, .slice none 0 0] (0, 0) _ rfl HZ.out.2.2 Try.underlying36 rfl (by kernel_rfl)) rfl ?_
    obtain ⟨e1, e2, e3⟩ := HE.out
    exact ⟨_, by rw [e2]; rfl, by rw [e1]; exact FrV.zero _, by rw [e3]; exact HZ.out.1, turned_below R HZ.out.2.1⟩
  · have d0 : (s.over != 0) = false := by simpa using ho
    have hfit := hs.fit
    by_cases hl : bs.length < 24
    · have d1 : decide ((bs.length : Int) < 24) = true := decide_eq_true (by omega)
      have HE := Lib.hid (nextI_more ho ((RkRel.shape hr).2.1 ho hl).2)
      have HA := Lib.hid h0
      clear ho hr hn hN hb hs h0 hl
      go_enter Try.func11, Try.ntmps11
      go_wp2_with (refine store_fr13 rfl (.tmp 2) (.tmp 23) rfl g ⟨0, 0, 0, []⟩ none 0 0 _ rfl rfl HB1.out.2.1 rfl ?_)
      have HZ := Lib.hid (show Below w.heap.size w (W1.setRow g #[.int .i64 0, .int .i64 0, .int .i64 0, .slice none 0 0]) ∧ (W1.setRow g #[.int .i64 0, .int .i64 0, .int .i64 0, .slice none 0 0]).heap[g]? = some (.cells #[.int .i64 0, .int .i64 0, .int .i64 0, .slice none 0 0] 36 (0, 0)) from ⟨below_setRow HB1.out.1 (by rw [HB1.out.2.2.2.2]; exact Nat.le_refl _) _, setRow_heap _ _ _ _ _ _ HB1.out.2.1⟩)
      refine bodyPost_ret (results_row_tmp1 rfl _ _ g 36 #[.int .i64 0, .int .i64 0, .int .i64 0, .slice none 0 0] (0, 0) _ rfl HZ.out.2 Try.underlying36 rfl (by kernel_rfl)) rfl ?_
      obtain ⟨e1, e2, e3⟩ := HE.out
      exact ⟨_, by rw [e2]; rfl, by rw [e1]; exact FrV.zero _, by rw [e3]; exact HA.out.below HZ.out.1, turned_below R HZ.out.1⟩
    · have d1 : decide ((bs.length : Int) < 24) = false := decide_eq_false (by omega)
      obtain ⟨b1, b2, b3, b4, b5, b6⟩ := RkRel.next hr ho (by omega)
      have HN := Lib.hid (And.intro b4 (And.intro b5 b6))
      have HG := Lib.hid (nextI_go ho b1)
      have HR := Lib.hid (show True ∧ Whole s.most bs told ∧ s.got = bs.drop (offs s.most bs told) ∧ bs.length ≤ 100000000 from ⟨trivial, b2, b3, by omega⟩)
      have HO := Lib.hid ho
      have HRl := Lib.hid hr
      have HBN := Lib.hid hn
      have htl : told ≤ 100000000 := by have := Whole.le hfit b2; omega
      have HB := Lib.hid (show True ∧ RkBlk W1 R s.most (.slice a bs.length c) told s.over ∧ Sl .u8 W1 (.slice a bs.length c) bs from ⟨trivial, hb.below HB1.out.1, hs.below HB1.out.1⟩)
      have HH := Lib.hid h0
      have HSty := Lib.hid (show ∀ g', (Value.slice a bs.length c).ownBlock = some g' → g' < g from fun g' hg' => by
        obtain ⟨a', c', e', _, _, _, h3⟩ := hs
        simp only [Value.slice.injEq] at e'
        obtain ⟨rfl, -, rfl⟩ := e'
        rcases h3 with ⟨h3, _⟩ | ⟨b', off, rfl, hlt, _⟩
        · omega
        · cases hg'; rw [← HB1.out.2.2.2.2]; exact hlt)
      clear ho hr hn hN hb hs h0 hl b1 b2 b3 b4 b5 b6 hfit
      obtain ⟨gs, hgs⟩ : ∃ gs, s.got = gs := ⟨_, rfl⟩
      rw [hgs] at HR HN HG
      obtain ⟨F, hF⟩ : ∃ F, F = nextF gs s.most := ⟨_, rfl⟩
      obtain ⟨n, hn⟩ : ∃ n, n = nextN gs s.most := ⟨_, rfl⟩
      obtain ⟨e, he⟩ : ∃ e, e = nextE gs s.most := ⟨_, rfl⟩
      have HFn := Lib.hid (And.intro hF (And.intro hn he))
      rw [← he] at HN
      have HC3 := Lib.hid (show e = 0 ∨ e = 2 ∨ e = 4 from by rw [he]; exact nextE_cases _ _)
      clear hF hn he hgs
      go_enter Try.func11, Try.ntmps11
      go_wp2_with fail
      clear f0 f1 f2 f3 f4 hW1
      refine wp_region_late 12 [25, 26, 27, 28, 29, 30, 31, 24, 32, 33, 34, 4] [[], [(0, 25)], [], [(2, 27)], [(3, 28)], [(4, 29)], [(1, 26), (5, 30)], [(6, 31)], [(7, 24)], [(7, 24)], [(7, 24)], []] [9, 10]
        (fun i v w' => match i with
          | 0 => v = .pointer (some ⟨R, 0, none⟩)
          | 1 => Sl .u8 w' v gs
          | 2 => v = .pointer (some ⟨R, 0, none⟩)
          | 3 => v = .pointer (some ⟨R, 0, none⟩)
          | 4 => v = .pointer (some ⟨R, 0, none⟩)
          | 5 => v = .int .i64 s.most
          | 6 => NxV F n e v w'
          | 7 => NxV F n e v w'
          | 8 => FrP F v w'
          | 9 => v = .int .i64 n
          | 10 => v = .int .i64 e
          | 11 => NewF W1.heap.size v w'
          | _ => True) (by kernel_rfl) (by kernel_rfl) ?tStab ?tOps ?tLate ?tRest
      case tStab =>
        intro i v w3 w4 h hb
        match i, h with
        | 0, h | 2, h | 3, h | 4, h | 5, h | 9, h | 10, h => exact h
        | 1, h => exact Sl.below h hb
        | 6, h => exact NxV.below h hb
        | 7, h => exact NxV.below h hb
        | 8, h => exact FrP.below h hb
        | 11, h => exact NewF.below h hb
        | i + 12, _ => trivial
      case tOps =>
        simp only [List.take_succ_cons, List.take_zero, opsOk]
        refine ⟨?_, ?_, ?_, ?_, ?_, ?_, ?_, ?_, ?_, ?_, ?_, ?_, trivial⟩
        · intro ρ w3 hc hf ho hB hj
          have x0 : ρ (.tmp 0) = .pointer (some ⟨R, 0, none⟩) := ho 0 (by decide)
          simp [gives, go_sem, x0, Below.refl]
        · intro ρ w3 hc hf ho hB hj
          have x0 : ρ (.tmp 25) = .pointer (some ⟨R, 0, none⟩) := hj (0, 25) (by simp)
          simp [gives, go_sem, x0, hf]
          have hcc := refRest_any R _ _ told _ bs w3 (HB.out.2.1.below hB) (HB.out.2.2.below hB) HR.out.2.1 HR.out.2.2.2
          rw [← HR.out.2.2.1] at hcc
          exact hcc
        · intro ρ w3 hc hf ho hB hj
          have x0 : ρ (.tmp 0) = .pointer (some ⟨R, 0, none⟩) := ho 0 (by decide)
          simp [gives, go_sem, x0, Below.refl]
        · intro ρ w3 hc hf ho hB hj
          have x0 : ρ (.tmp 27) = .pointer (some ⟨R, 0, none⟩) := hj (2, 27) (by simp)
          simp [gives, go_sem, x0, Below.refl]
        · intro ρ w3 hc hf ho hB hj
          have x0 : ρ (.tmp 28) = .pointer (some ⟨R, 0, none⟩) := hj (3, 28) (by simp)
          simp [gives, go_sem, x0, Below.refl]
        · intro ρ w3 hc hf ho hB hj
          have x0 : ρ (.tmp 29) = .pointer (some ⟨R, 0, none⟩) := hj (4, 29) (by simp)
          obtain ⟨f0, f1, f2, f3, f4⟩ := RkBlk.cells (HB.out.2.1.below hB)
          simp [gives, go_sem, x0, f0, Below.refl]
        · intro ρ w3 hc hf ho hB hj
          have x0 : Sl .u8 w3 (ρ (.tmp 26)) gs := hj (1, 26) (by simp)
          have x1 : ρ (.tmp 30) = .int .i64 s.most := hj (5, 30) (by simp)
          obtain ⟨gv, hgv⟩ : ∃ gv, ρ (.tmp 26) = gv := ⟨_, rfl⟩
          rw [hgv] at x0
          simp [gives, go_sem, x1, hf, hgv]
          have hcc := refNext_nx gv gs s.most w3 x0
          rw [← HFn.out.1, ← HFn.out.2.1, ← HFn.out.2.2] at hcc
          exact hcc
        · intro ρ w3 hc hf ho hB hj
          have x0 : NxV F n e (ρ (.tmp 31)) w3 := hj (6, 31) (by simp)
          obtain ⟨ap, cp, x0, hs0⟩ := x0
          simp [gives, go_sem, x0]
          exact ⟨⟨ap, cp, rfl, hs0⟩, Below.refl _ _⟩
        · intro ρ w3 hc hf ho hB hj
          have x0 : NxV F n e (ρ (.tmp 24)) w3 := hj (7, 24) (by simp)
          obtain ⟨ap, cp, x0, hs0⟩ := x0
          simp [gives, go_sem, x0]
          exact ⟨⟨ap, cp, rfl, hs0⟩, Below.refl _ _⟩
        · intro ρ w3 hc hf ho hB hj
          have x0 : NxV F n e (ρ (.tmp 24)) w3 := hj (7, 24) (by simp)
          obtain ⟨ap, cp, x0, hs0⟩ := x0
          simp [gives, go_sem, x0, Below.refl]
        · intro ρ w3 hc hf ho hB hj
          have x0 : NxV F n e (ρ (.tmp 24)) w3 := hj (7, 24) (by simp)
          obtain ⟨ap, cp, x0, hs0⟩ := x0
          simp [gives, go_sem, x0, Below.refl]
        · intro ρ w3 hc hf ho hB hj
          simp [gives, go_sem]
          exact ⟨⟨_, rfl, hB.size, by simp, heap_alloc_new _ _⟩, (Below.refl _ _).alloc (Nat.le_refl _) _⟩
      case tLate =>
        intro i hi _ o ho
        simp only [List.mem_cons, List.not_mem_nil, or_false] at hi
        rcases hi with rfl | rfl
        · obtain rfl := Option.some.inj ho
          intro ρ w3 hc _ _ hj
          obtain ⟨ap, cp, x0, _⟩ := hj (7, 24) (by simp)
          exact ⟨_, fun w' => by simp [go_sem, x0], rfl⟩
        · obtain rfl := Option.some.inj ho
          intro ρ w3 hc _ _ hj
          obtain ⟨ap, cp, x0, _⟩ := hj (7, 24) (by simp)
          exact ⟨_, fun w' => by simp [go_sem, x0], rfl⟩
      case tRest =>
        intro X w3 hBw hX
        have x0 : X 0 = .pointer (some ⟨R, 0, none⟩) := hX 0 (by decide)
        have x1 := hX 1 (by decide)
        have x2 : X 2 = .pointer (some ⟨R, 0, none⟩) := hX 2 (by decide)
        have x3 : X 3 = .pointer (some ⟨R, 0, none⟩) := hX 3 (by decide)
        have x4 : X 4 = .pointer (some ⟨R, 0, none⟩) := hX 4 (by decide)
        have x5 : X 5 = .int .i64 s.most := hX 5 (by decide)
        have x6 := hX 6 (by decide)
        have x7 := hX 7 (by decide)
        have x8 := hX 8 (by decide)
        have x9 : X 9 = .int .i64 n := hX 9 (by decide)
        have x10 : X 10 = .int .i64 e := hX 10 (by decide)
        have x11 := hX 11 (by decide)
        simp only [putAll, List.getD_cons_zero, List.getD_cons_succ, Act.put, List.setIfInBounds_toArray, List.set_cons_zero, List.set_cons_succ, List.drop_succ_cons, List.drop_zero]
        rw [x0, x2, x3, x4, x5, x9, x10]
        obtain ⟨ap, cp, e6, _⟩ := x6
        obtain ⟨ap1, cp1, e7, _⟩ := x7
        obtain ⟨ap2, cp2, e8, hs8, ht8⟩ := x8
        obtain ⟨C, e11, hC1, hC2, hC3⟩ := x11
        rw [e6, e7, e8, e11]
        have HC := Lib.hid hC3
        have hbb := below_setRow hBw hC1 #[.int .i64 F.kind, .int .i64 F.flags, .int .i64 F.stream, .slice ap2 F.pay.length cp2]
        have HW5 := Lib.hid (show RkBlk (w3.setRow C #[.int .i64 F.kind, .int .i64 F.flags, .int .i64 F.stream, .slice ap2 F.pay.length cp2]) R s.most (.slice a bs.length c) told s.over ∧ Sl .u8 (w3.setRow C #[.int .i64 F.kind, .int .i64 F.flags, .int .i64 F.stream, .slice ap2 F.pay.length cp2]) (.slice a bs.length c) bs ∧ Below w.heap.size w (w3.setRow C #[.int .i64 F.kind, .int .i64 F.flags, .int .i64 F.stream, .slice ap2 F.pay.length cp2]) ∧ (w3.setRow C #[.int .i64 F.kind, .int .i64 F.flags, .int .i64 F.stream, .slice ap2 F.pay.length cp2]).heap[g]? = some (.cells #[.int .i64 0, .int .i64 0, .int .i64 0, .slice none 0 0] 36 (0, 0)) ∧ (w3.setRow C #[.int .i64 F.kind, .int .i64 F.flags, .int .i64 F.stream, .slice ap2 F.pay.length cp2]).heap[C]? = some (.cells #[.int .i64 F.kind, .int .i64 F.flags, .int .i64 F.stream, .slice ap2 F.pay.length cp2] 36 (0, 0)) ∧ FrP F (.agg #[.int .i64 F.kind, .int .i64 F.flags, .int .i64 F.stream, .slice ap2 F.pay.length cp2]) (w3.setRow C #[.int .i64 F.kind, .int .i64 F.flags, .int .i64 F.stream, .slice ap2 F.pay.length cp2]) from
          ⟨HB.out.2.1.below hbb, HB.out.2.2.below hbb, HB1.out.1.trans (hbb.mono HB1.out.1.size), (hbb.block g HB1.out.2.2.2.1).trans HB1.out.2.1, setRow_heap _ _ _ _ _ _ hC3, ⟨ap2, cp2, rfl, hs8.kept (setRow_grown _ _ _) (ty_ne ht8 hC3 (by decide)), ht8.kept (setRow_grown _ _ _) (ty_ne ht8 hC3 (by decide))⟩⟩)
        have HCn := Lib.hid (show R ≠ C ∧ R ≠ g ∧ g ≠ C ∧ g ≤ C from by have h1 := HB1.out.2.2.1; have h2 := HB1.out.2.2.2.1; omega)
        clear x0 x1 x2 x3 x4 x5 e6 e7 e8 e11 x9 x10 hC1 hC2 hC3 hBw hX hs8 ht8 hbb
        go_wp2_with (refine store_fr13 rfl (.tmp 4) (.tmp 32) rfl C F ap2 F.pay.length cp2 _ rfl rfl HC.out rfl ?_)
        refine Calm.intro ?_
        generalize w3.setRow C #[.int .i64 F.kind, .int .i64 F.flags, .int .i64 F.stream, .slice ap2 F.pay.length cp2] = W5 at HW5 ⊢
        obtain ⟨c0, c1, c2, c3, c4⟩ := RkBlk.cells HW5.out.1
        have cz2 := blk_free (j := 2) (show W5.heap[R]? = _ from HW5.out.1)
        have cz3 := blk_free (j := 3) (show W5.heap[R]? = _ from HW5.out.1)
        have HBn := Lib.hid (show ∀ g', (Value.slice a bs.length c).ownBlock = some g' → g' ≠ R from Sl.ne_blk HW5.out.2.1 (by have := HR.out.2.1.1; omega) HW5.out.1)
        rcases HC3.out with rfl | rfl | rfl
        · obtain ⟨r1, r2⟩ := HN.out.1 rfl
          have HRr := Lib.hid (And.intro r1 r2)
          clear r1 r2
          have HW7 := Lib.hid (show RkBlk (W5.setCell ⟨R, 2, none⟩ (.int .i64 ((told : Int) + 1))) R s.most (.slice a bs.length c) (told + 1) (s.over) ∧ Sl .u8 (W5.setCell ⟨R, 2, none⟩ (.int .i64 ((told : Int) + 1))) (.slice a bs.length c) bs ∧ w.grownBy (W5.setCell ⟨R, 2, none⟩ (.int .i64 ((told : Int) + 1))) (some R) ∧ (W5.setCell ⟨R, 2, none⟩ (.int .i64 ((told : Int) + 1))).heap[g]? = some (.cells #[.int .i64 0, .int .i64 0, .int .i64 0, .slice none 0 0] 36 (0, 0)) ∧ (W5.setCell ⟨R, 2, none⟩ (.int .i64 ((told : Int) + 1))).heap[C]? = some (.cells #[.int .i64 F.kind, .int .i64 F.flags, .int .i64 F.stream, .slice ap2 F.pay.length cp2] 36 (0, 0)) ∧ FrP F (.agg #[.int .i64 F.kind, .int .i64 F.flags, .int .i64 F.stream, .slice ap2 F.pay.length cp2]) (W5.setCell ⟨R, 2, none⟩ (.int .i64 ((told : Int) + 1))) from by
            obtain ⟨h1, h2, h3, h4, h5, ap', cp', h6, h7, h8⟩ := HW5.out
            exact ⟨heap_setCell_same _ R 2 _ _ _ h1, h2.setOther HBn.out, turned_trans (turned_below R h3) (turned_set _ _ _ _), (Below.heap_setCell _ _ _ _ (by show g ≠ R; have := HCn.out; omega)).trans h4, (Below.heap_setCell _ _ _ _ (by show C ≠ R; have := HCn.out; omega)).trans h5, ⟨ap', cp', h6, h7.setOther (RkBlk.ne h1 h8), h8.kept (turned_set _ _ _ _) (fun g' hg' e => RkBlk.ne h1 h8 g' hg' (Option.some.inj e).symm)⟩⟩)
          have q0 := blk_cell (j := 0) HW7.out.2.2.2.2.1 rfl
          have q1 := blk_cell (j := 1) HW7.out.2.2.2.2.1 rfl
          have q2 := blk_cell (j := 2) HW7.out.2.2.2.2.1 rfl
          have q3 := blk_cell (j := 3) HW7.out.2.2.2.2.1 rfl
          have q4 := (Array.getElem?_eq_some_iff.1 HW7.out.2.2.2.2.1).1
          go_wp2_with (refine store_fr13 rfl (.tmp 2) (.tmp 50) rfl g F ap2 F.pay.length cp2 _ rfl rfl HW7.out.2.2.2.1 rfl ?_)
          refine bodyPost_ret (results_row_tmp1 rfl _ _ g 36 #[.int .i64 F.kind, .int .i64 F.flags, .int .i64 F.stream, .slice ap2 F.pay.length cp2] (0, 0) _ rfl (setRow_heap _ _ _ _ _ _ HW7.out.2.2.2.1) Try.underlying36 rfl (by kernel_rfl)) rfl ?_
          exact next_end HW7.out.1 HW7.out.2.1 HW7.out.2.2.1 HW7.out.2.2.2.1 HW7.out.2.2.2.2.2 HCn.out.2.1 HB1.out.2.2.2.2 HSty.out (by rw [(HG.out).1, HFn.out.1]) (by rw [(HG.out).2, ← HFn.out.2.2]) ⟨HRr.out.1, HRr.out.2.trans HO.out.symm⟩ HBN.out
        · obtain ⟨r1, r2⟩ := (show nextIS s = s ∧ True from ⟨HN.out.2.2 rfl, trivial⟩)
          have HRr := Lib.hid (And.intro r1 r2)
          clear r1 r2
          have HW7 := Lib.hid (show RkBlk (W5) R s.most (.slice a bs.length c) (told) (s.over) ∧ Sl .u8 (W5) (.slice a bs.length c) bs ∧ w.grownBy (W5) (some R) ∧ (W5).heap[g]? = some (.cells #[.int .i64 0, .int .i64 0, .int .i64 0, .slice none 0 0] 36 (0, 0)) ∧ (W5).heap[C]? = some (.cells #[.int .i64 F.kind, .int .i64 F.flags, .int .i64 F.stream, .slice ap2 F.pay.length cp2] 36 (0, 0)) ∧ FrP F (.agg #[.int .i64 F.kind, .int .i64 F.flags, .int .i64 F.stream, .slice ap2 F.pay.length cp2]) (W5) from by
            obtain ⟨h1, h2, h3, h4, h5, ap', cp', h6, h7, h8⟩ := HW5.out
            exact ⟨h1, h2, turned_below R h3, h4, h5, ⟨ap', cp', h6, h7, h8⟩⟩)
          have q0 := blk_cell (j := 0) HW7.out.2.2.2.2.1 rfl
          have q1 := blk_cell (j := 1) HW7.out.2.2.2.2.1 rfl
          have q2 := blk_cell (j := 2) HW7.out.2.2.2.2.1 rfl
          have q3 := blk_cell (j := 3) HW7.out.2.2.2.2.1 rfl
          have q4 := (Array.getElem?_eq_some_iff.1 HW7.out.2.2.2.2.1).1
          go_wp2_with (refine store_fr13 rfl (.tmp 2) (.tmp 50) rfl g F ap2 F.pay.length cp2 _ rfl rfl HW7.out.2.2.2.1 rfl ?_)
          refine bodyPost_ret (results_row_tmp1 rfl _ _ g 36 #[.int .i64 F.kind, .int .i64 F.flags, .int .i64 F.stream, .slice ap2 F.pay.length cp2] (0, 0) _ rfl (setRow_heap _ _ _ _ _ _ HW7.out.2.2.2.1) Try.underlying36 rfl (by kernel_rfl)) rfl ?_
          exact next_end HW7.out.1 HW7.out.2.1 HW7.out.2.2.1 HW7.out.2.2.2.1 HW7.out.2.2.2.2.2 HCn.out.2.1 HB1.out.2.2.2.2 HSty.out (by rw [(HG.out).1, HFn.out.1]) (by rw [(HG.out).2, ← HFn.out.2.2]) (by rw [HRr.out.1]; exact ⟨HRl.out, rfl⟩) HBN.out
        · obtain ⟨r1, r2⟩ := HN.out.2.1 rfl
          have HRr := Lib.hid (And.intro r1 r2)
          clear r1 r2
          have HW7 := Lib.hid (show RkBlk (W5.setCell ⟨R, 3, none⟩ (.int .i64 4)) R s.most (.slice a bs.length c) (told) (4) ∧ Sl .u8 (W5.setCell ⟨R, 3, none⟩ (.int .i64 4)) (.slice a bs.length c) bs ∧ w.grownBy (W5.setCell ⟨R, 3, none⟩ (.int .i64 4)) (some R) ∧ (W5.setCell ⟨R, 3, none⟩ (.int .i64 4)).heap[g]? = some (.cells #[.int .i64 0, .int .i64 0, .int .i64 0, .slice none 0 0] 36 (0, 0)) ∧ (W5.setCell ⟨R, 3, none⟩ (.int .i64 4)).heap[C]? = some (.cells #[.int .i64 F.kind, .int .i64 F.flags, .int .i64 F.stream, .slice ap2 F.pay.length cp2] 36 (0, 0)) ∧ FrP F (.agg #[.int .i64 F.kind, .int .i64 F.flags, .int .i64 F.stream, .slice ap2 F.pay.length cp2]) (W5.setCell ⟨R, 3, none⟩ (.int .i64 4)) from by
            obtain ⟨h1, h2, h3, h4, h5, ap', cp', h6, h7, h8⟩ := HW5.out
            exact ⟨heap_setCell_same _ R 3 _ _ _ h1, h2.setOther HBn.out, turned_trans (turned_below R h3) (turned_set _ _ _ _), (Below.heap_setCell _ _ _ _ (by show g ≠ R; have := HCn.out; omega)).trans h4, (Below.heap_setCell _ _ _ _ (by show C ≠ R; have := HCn.out; omega)).trans h5, ⟨ap', cp', h6, h7.setOther (RkBlk.ne h1 h8), h8.kept (turned_set _ _ _ _) (fun g' hg' e => RkBlk.ne h1 h8 g' hg' (Option.some.inj e).symm)⟩⟩)
          have q0 := blk_cell (j := 0) HW7.out.2.2.2.2.1 rfl
          have q1 := blk_cell (j := 1) HW7.out.2.2.2.2.1 rfl
          have q2 := blk_cell (j := 2) HW7.out.2.2.2.2.1 rfl
          have q3 := blk_cell (j := 3) HW7.out.2.2.2.2.1 rfl
          have q4 := (Array.getElem?_eq_some_iff.1 HW7.out.2.2.2.2.1).1
          go_wp2_with (refine store_fr13 rfl (.tmp 2) (.tmp 50) rfl g F ap2 F.pay.length cp2 _ rfl rfl HW7.out.2.2.2.1 rfl ?_)
          refine bodyPost_ret (results_row_tmp1 rfl _ _ g 36 #[.int .i64 F.kind, .int .i64 F.flags, .int .i64 F.stream, .slice ap2 F.pay.length cp2] (0, 0) _ rfl (setRow_heap _ _ _ _ _ _ HW7.out.2.2.2.1) Try.underlying36 rfl (by kernel_rfl)) rfl ?_
          exact next_end HW7.out.1 HW7.out.2.1 HW7.out.2.2.1 HW7.out.2.2.2.1 HW7.out.2.2.2.2.2 HCn.out.2.1 HB1.out.2.2.2.2 HSty.out (by rw [(HG.out).1, HFn.out.1]) (by rw [(HG.out).2, ← HFn.out.2.2]) ⟨HRr.out.1, HRr.out.2⟩ HBN.out
end Go.Proofs.Ytappehjcbjplaaa
