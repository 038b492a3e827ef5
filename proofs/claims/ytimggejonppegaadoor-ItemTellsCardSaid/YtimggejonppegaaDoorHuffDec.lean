
/-
  huff.Decode.
-/
import Derived.Test.YtimggejonppegaaDoorHuffIter
import Derived.Test.YtimggejonppegaaDoorHuffPaths
import Derived.Test.YtimggejonppegaaDoorRef04Dec
import Derived.WalkMore
import Derived.Shelf.Abstract
import Derived.RangeFuncCalls
import Derived.Maps.AppendAt
namespace Go.Proofs.YtimggejonppegaaDoor
open Go.RowKit Go.Shelf
attribute [local go_sem] Oper.semAt_some

theorem cells_ne {A : World} {g l : Nat} {cs : Array Value} {t : TypeId} {fr : Nat × Nat} {o : Obj} (h : A.heap[g]? = some (.cells cs t fr)) (hl : A.heap[l]? = some o) (ho : o.isCells = false) : g ≠ l := by
  rintro rfl
  rw [h] at hl
  cases hl
  cases ho
theorem owned_cells {w : World} {base n size : Nat} {e : TypeId} {v : Value} {xs : List Value} (h : w.ownsRow base e size v n xs) : ∀ g, v.ownBlock = some g → ∃ cs fr, w.heap[g]? = some (.cells cs e fr) := fun g hg => by
  obtain ⟨_, ⟨rfl, _⟩ | ⟨g', cap, cur, rfl, _, hh, _⟩⟩ := h
  · cases hg
  · cases hg; exact ⟨_, _, hh⟩

/-- two results, each in a block of its own -/
theorem results_cells2 {P : Program} {fn : Func} {p q : Tmp} {tp tq : TypeId} (h : fn.results = #[.cell p tp, .cell q tq]) (tmps : Array Value) (w : World) (gp gq : Nat) (u v : Value) (eu ev : TypeId)
    (hp : tmps.getD p undef = .pointer (some ⟨gp, 0, none⟩)) (hq : tmps.getD q undef = .pointer (some ⟨gq, 0, none⟩)) (h1 : w.heap[gp]? = some (.cells #[u] eu (0, 0))) (h2 : w.heap[gq]? = some (.cells #[v] ev (0, 0)))
    (ap : ∀ w, (isAgg tp).run P w = .ok false w) (aq : ∀ w, (isAgg tq).run P w = .ok false w) : (results fn tmps).run P w = .ok (.tuple #[u, v]) w := by
  have hp' : tmps[p]?.getD undef = .pointer (some ⟨gp, 0, none⟩) := by simpa using hp
  have hq' : tmps[q]?.getD undef = .pointer (some ⟨gq, 0, none⟩) := by simpa using hq
  have c1 := blk_cell (j := 0) h1 rfl
  have c2 := blk_cell (j := 0) h2 rfl
  simp [results, h, hp', hq', asAddr, loadVar, ap, aq, c1, c2, Result.andThen]

/-- how the bits that have come stand: what has come out, what waits -/
def RunSt (most : Int) (xs : List Nat) (out : List Int) (n k : Nat) : Prop := Pend n k ∧ (∀ bs, dec most (xs ++ bs) [] 0 0 = dec most bs out n k) ∧ out.length ≤ xs.length ∧ Fit .u8 out
theorem RunSt.start (most : Int) : RunSt most [] [] 0 0 := ⟨pend0, fun _ => rfl, Nat.le_refl _, fun x hx => by simp at hx⟩
theorem RunSt.wait {most : Int} {xs : List Nat} {out : List Int} {n k x : Nat} (h : RunSt most xs out n k) (hx : x < 2) (e : look (n + 1) (2 * k + x) = none) : RunSt most (xs ++ [x]) out (n + 1) (2 * k + x) := by
  obtain ⟨h1, h2, h3, h4⟩ := h
  refine ⟨pend_step h1 hx e, fun bs => ?_, by simp; omega, h4⟩
  rw [List.append_assoc, h2, List.singleton_append, dec_none e]
theorem RunSt.some {most : Int} {xs : List Nat} {out : List Int} {n k x c : Nat} (h : RunSt most xs out n k) (e : look (n + 1) (2 * k + x) = Option.some c) (bs : List Nat) :
    dec most (xs ++ [x] ++ bs) [] 0 0 = if c = 256 then ([], 3) else if most ≤ out.length then ([], 4) else dec most bs (out ++ [(c : Int)]) 0 0 := by
  rw [List.append_assoc, h.2.1, List.singleton_append, dec_some e]
theorem RunSt.more {most : Int} {xs : List Nat} {out : List Int} {n k x c : Nat} (h : RunSt most xs out n k) (e : look (n + 1) (2 * k + x) = Option.some c) (h256 : c < 256) (hm : ¬ most ≤ out.length) : RunSt most (xs ++ [x]) (out ++ [(c : Int)]) 0 0 := by
  refine ⟨pend0, fun bs => by rw [h.some e, if_neg (by omega), if_neg hm], by have := h.2.2.1; simp; omega, ?_⟩
  exact h.2.2.2.append (by intro z hz; rw [List.mem_singleton] at hz; subst hz; exact WalkArith.wf_u8 (by omega))

/-- the blocks of the call's own, when these have come -/
def DAt (w : World) (C bm base : Nat) (most : Int) (xs : List Nat) (W : World) : Prop :=
  ∃ (n k : Nat) (out : List Int) (tv : Value), Hid (RunSt most xs out n k) ∧
    W.heap[w.heap.size]? = some (.cells #[.int .i64 most] 3 (0, 0)) ∧ W.heap[w.heap.size + 1]? = some (.cells #[.slice none 0 0] 24 (0, 0)) ∧ W.heap[w.heap.size + 1 + 1]? = some (.cells #[.int .i64 0] 26 (0, 0)) ∧
    W.heap[C]? = some (.cells #[.map (some bm)] 80 (0, 0)) ∧ W.heap[C + 1]? = some (.cells #[tv] 24 (0, 0)) ∧ W.heap[C + 1 + 1]? = some (.cells #[.int .i64 ((2 ^ n + k : Nat) : Int)] 3 (0, 0)) ∧
    Paths W bm ∧ W.ownsRow base 5 1 tv out.length (out.map (Value.int .u8)) ∧ Below w.heap.size w W ∧ base ≤ W.heap.size
/-- a way out -/
def DOut (w : World) (most : Int) (xs : List Nat) (W : World) : Prop :=
  ∃ z : Int, (∀ bs, dec most (xs ++ bs) [] 0 0 = ([], z)) ∧ W.heap[w.heap.size + 1]? = some (.cells #[.slice none 0 0] 24 (0, 0)) ∧ W.heap[w.heap.size + 1 + 1]? = some (.cells #[.int .i64 z] 26 (0, 0)) ∧ Below w.heap.size w W

theorem DAt.grows (w : World) (C bm base : Nat) (most : Int) : Grows (DAt w C bm base most) := by
  rintro s A W ⟨n, k, out, tv, hr, h1, h2, h3, h4, h5, h6, hp, ho, hb, hsz⟩ hg
  have at_ : ∀ {k : Nat} {o : Obj}, A.heap[k]? = some o → W.heap[k]? = some o := fun h => (hg.block _ (Array.getElem?_eq_some_iff.1 h).1).trans h
  exact ⟨n, k, out, tv, hr, at_ h1, at_ h2, at_ h3, at_ h4, at_ h5, at_ h6, owns_below hp hg, owned_below ho hg, hb.trans (hg.mono hb.size), Nat.le_trans hsz hg.size⟩
theorem DAt.turns (w : World) (C bm base : Nat) (most : Int) (hw : w.heap.size + 3 ≤ C) (hbm : bm < C) (hC : C + 4 ≤ base) : Turns base (DAt w C bm base most) := by
  rintro s A l o o' ⟨n, k, out, tv, hr, h1, h2, h3, h4, h5, h6, hp, ho, hb, hsz⟩ hl hlo hoc
  have at_ : ∀ {k : Nat}, k < base → (A.putObj l o').heap[k]? = A.heap[k]? := fun h => World.putObj_heap_other (by omega)
  refine ⟨n, k, out, tv, hr, (at_ (by omega)).trans h1, (at_ (by omega)).trans h2, (at_ (by omega)).trans h3, (at_ (by omega)).trans h4, (at_ (by omega)).trans h5, (at_ (by omega)).trans h6, hp.of_heap (at_ (by omega)), ?_, hb.trans (below_put A o o' (by omega) hlo), by rw [World.putObj_size]; exact hsz⟩
  exact owned_kept ho (grownBy_putObj' A l o') (fun g hg e => by
    obtain ⟨cs, fr, h⟩ := owned_cells ho g hg
    exact cells_ne h hlo hoc (Option.some.inj e).symm)
theorem DOut.grows (w : World) (most : Int) : Grows (DOut w most) := by
  rintro s A W ⟨z, hd, h1, h2, hb⟩ hg
  exact ⟨z, hd, (hg.block _ (Array.getElem?_eq_some_iff.1 h1).1).trans h1, (hg.block _ (Array.getElem?_eq_some_iff.1 h2).1).trans h2, hb.trans (hg.mono hb.size)⟩
theorem DOut.turns (w : World) (most : Int) (base : Nat) (hw : w.heap.size + 3 ≤ base) : Turns base (DOut w most) := by
  rintro s A l o o' ⟨z, hd, h1, h2, hb⟩ hl hlo hoc
  exact ⟨z, hd, (World.putObj_heap_other (by omega)).trans h1, (World.putObj_heap_other (by omega)).trans h2, hb.trans (below_put A o o' (by omega) hlo)⟩
theorem keeps_refl (b : Nat) (W : World) : KeepsFrom b W W := ⟨Nat.le_refl _, fun _ _ _ h _ => h⟩

/-- what the blocks hold, whatever the bits -/
def Blk (w : World) (C bm base : Nat) (most : Int) (tv : Value) (p : Nat) (out : List Int) (W : World) : Prop :=
    W.heap[w.heap.size]? = some (.cells #[.int .i64 most] 3 (0, 0)) ∧ W.heap[w.heap.size + 1]? = some (.cells #[.slice none 0 0] 24 (0, 0)) ∧ W.heap[w.heap.size + 1 + 1]? = some (.cells #[.int .i64 0] 26 (0, 0)) ∧
    W.heap[C]? = some (.cells #[.map (some bm)] 80 (0, 0)) ∧ W.heap[C + 1]? = some (.cells #[tv] 24 (0, 0)) ∧ W.heap[C + 1 + 1]? = some (.cells #[.int .i64 (p : Int)] 3 (0, 0)) ∧
    Paths W bm ∧ W.ownsRow base 5 1 tv out.length (out.map (Value.int .u8)) ∧ Below w.heap.size w W ∧ base ≤ W.heap.size
theorem DAt.of {w : World} {C bm base n k : Nat} {most : Int} {xs : List Nat} {out : List Int} {tv : Value} {W : World} (hr : RunSt most xs out n k) (h : Blk w C bm base most tv (2 ^ n + k) out W) : DAt w C bm base most xs W := ⟨n, k, out, tv, hr, h⟩
/-- where the path is written -/
theorem Blk.step {w : World} {C bm base p : Nat} {most : Int} {tv : Value} {out : List Int} {W : World} (h : Blk w C bm base most tv p out W) (hw : w.heap.size + 3 ≤ C) (hbm : bm < C) (hC : C + 4 ≤ base) (q : Nat) :
    Blk w C bm base most tv q out (W.setCell ⟨C + 1 + 1, 0, none⟩ (.int .i64 (q : Int))) := by
  obtain ⟨h1, h2, h3, h4, h5, h6, hp, ho, hb, hsz⟩ := h
  have ot : ∀ {j : Nat}, j ≠ C + 1 + 1 → (W.setCell ⟨C + 1 + 1, 0, none⟩ (.int .i64 (q : Int))).heap[j]? = W.heap[j]? := fun hj => Below.heap_setCell _ _ _ _ hj
  exact ⟨(ot (by omega)).trans h1, (ot (by omega)).trans h2, (ot (by omega)).trans h3, (ot (by omega)).trans h4, (ot (by omega)).trans h5, heap_setCell_same W (C + 1 + 1) 0 _ _ _ h6, hp.of_heap (ot (by omega)),
    ownsRow_setCell_below ho (by show C + 1 + 1 < base; omega) _, hb.setCell (p := ⟨C + 1 + 1, 0, none⟩) (by show w.heap.size ≤ C + 1 + 1; omega) _, by simpa using hsz⟩
theorem set_keeps (b : Nat) (W : World) (a : Addr) (v : Value) : KeepsFrom b W (W.setCell a v) := (KeepsOthers.setCell _ _ _).from _
/-- the results are written -/
theorem Blk.out {w : World} {C bm base p : Nat} {most : Int} {tv : Value} {out : List Int} {W : World} (h : Blk w C bm base most tv p out W) {xs : List Nat} (z : Int) (hd : ∀ bs, dec most (xs ++ bs) [] 0 0 = ([], z)) :
    DOut w most xs ((W.setCell ⟨w.heap.size + 1, 0, none⟩ (.slice none 0 0)).setCell ⟨w.heap.size + 1 + 1, 0, none⟩ (.int .i64 z)) := by
  obtain ⟨_, h2, h3, _, _, _, _, _, hb, _⟩ := h
  have e1 := heap_setCell_same W (w.heap.size + 1) 0 _ _ (.slice none 0 0) h2
  have e2 : (W.setCell ⟨w.heap.size + 1, 0, none⟩ (.slice none 0 0)).heap[w.heap.size + 1 + 1]? = _ := (Below.heap_setCell W ⟨w.heap.size + 1, 0, none⟩ (.slice none 0 0) (w.heap.size + 1 + 1) (by simp)).trans h3
  refine ⟨z, hd, (Below.heap_setCell _ _ _ _ (by simp)).trans e1, heap_setCell_same _ (w.heap.size + 1 + 1) 0 _ _ (.int .i64 z) e2, (hb.setCell (p := ⟨w.heap.size + 1, 0, none⟩) (by show w.heap.size ≤ w.heap.size + 1; omega) _).setCell (p := ⟨w.heap.size + 1 + 1, 0, none⟩) (by show w.heap.size ≤ w.heap.size + 1 + 1; omega) _⟩
theorem keeps_grown {A W : World} {row : Option Nat} (b : Nat) (hg : A.grownBy W row) (hrow : ∀ g, row = some g → ∃ cs t fr, A.heap[g]? = some (.cells cs t fr)) : KeepsFrom b A W :=
  ⟨hg.size, fun k o _ hk ho => (hg.block k (Array.getElem?_eq_some_iff.1 hk).1 (fun e => by
    obtain ⟨cs, t, fr, h⟩ := hrow k e.symm
    exact cells_ne h hk ho rfl)).trans hk⟩
/-- one byte more: the row has grown, its box and the path's have been written -/
theorem Blk.more {w : World} {C bm base p : Nat} {most : Int} {tv v1 : Value} {out : List Int} {W w1 : World} {c : Int} {o : Obj} (h : Blk w C bm base most tv p out W) (hw : w.heap.size + 3 ≤ C) (hbm : bm < C) (hC : C + 4 ≤ base)
    (hg1 : (W.alloc o).grownBy w1 tv.ownBlock) (hown1 : w1.ownsRow base 5 1 v1 (out.length + 1) (out.map (Value.int .u8) ++ [.int .u8 c])) :
    Blk w C bm base most v1 1 (out ++ [c]) ((w1.setCell ⟨C + 1, 0, none⟩ v1).setCell ⟨C + 1 + 1, 0, none⟩ (.int .i64 1)) ∧
    KeepsFrom base W ((w1.setCell ⟨C + 1, 0, none⟩ v1).setCell ⟨C + 1 + 1, 0, none⟩ (.int .i64 1)) ∧
    Below w.heap.size W ((w1.setCell ⟨C + 1, 0, none⟩ v1).setCell ⟨C + 1 + 1, 0, none⟩ (.int .i64 1)) ∧
    (∀ j, j < base → j ≠ C + 1 → j ≠ C + 1 + 1 → ((w1.setCell ⟨C + 1, 0, none⟩ v1).setCell ⟨C + 1 + 1, 0, none⟩ (.int .i64 1)).heap[j]? = W.heap[j]?) := by
  obtain ⟨h1, h2, h3, h4, h5, h6, hp, ho, hb, hsz⟩ := h
  have hrow : ∀ g, tv.ownBlock = some g → base ≤ g := fun g hg => (ho.lt g hg).1
  have low : ∀ k, k < base → w1.heap[k]? = W.heap[k]? := fun k hk =>
    (hg1.block k (by simp; omega) (fun e => by have := hrow k e.symm; omega)).trans (Below.heap_alloc _ _ _ (by omega))
  have e5 := (low (C + 1) (by omega)).trans h5
  have e6 := (low (C + 1 + 1) (by omega)).trans h6
  have s5 := heap_setCell_same w1 (C + 1) 0 #[tv] _ v1 e5
  have e6' : (w1.setCell ⟨C + 1, 0, none⟩ v1).heap[C + 1 + 1]? = _ := (Below.heap_setCell w1 ⟨C + 1, 0, none⟩ v1 (C + 1 + 1) (by simp)).trans e6
  have s6 := heap_setCell_same (w1.setCell ⟨C + 1, 0, none⟩ v1) (C + 1 + 1) 0 _ _ (.int .i64 1) e6'
  have hbel : Below w.heap.size W ((w1.setCell ⟨C + 1, 0, none⟩ v1).setCell ⟨C + 1 + 1, 0, none⟩ (.int .i64 1)) :=
    ((((Below.refl w.heap.size W).alloc hb.size o).grown hg1 (by simp; omega) (fun k hk => by have := hrow k hk; omega)).setCell (p := ⟨C + 1, 0, none⟩) (by show w.heap.size ≤ C + 1; omega) _).setCell (p := ⟨C + 1 + 1, 0, none⟩) (by show w.heap.size ≤ C + 1 + 1; omega) _
  have ot : ∀ j, j < base → j ≠ C + 1 → j ≠ C + 1 + 1 → ((w1.setCell ⟨C + 1, 0, none⟩ v1).setCell ⟨C + 1 + 1, 0, none⟩ (.int .i64 1)).heap[j]? = W.heap[j]? := fun j hj n1 n2 => by
    rw [Below.heap_setCell _ _ _ _ n2, Below.heap_setCell _ _ _ _ n1, low j hj]
  refine ⟨⟨(ot _ (by omega) (by omega) (by omega)).trans h1, (ot _ (by omega) (by omega) (by omega)).trans h2, (ot _ (by omega) (by omega) (by omega)).trans h3, (ot _ (by omega) (by omega) (by omega)).trans h4, (Below.heap_setCell _ _ _ _ (by show C + 1 ≠ C + 1 + 1; omega)).trans s5, s6, hp.of_heap (ot _ (by omega) (by omega) (by omega)), ?_, hb.trans hbel, by have := hbel.size; omega⟩, ?_, hbel, ot⟩
  · rw [List.length_append, List.map_append]
    exact ownsRow_setCell_below (ownsRow_setCell_below hown1 (by show C + 1 < base; omega) _) (by show C + 1 + 1 < base; omega) _
  · refine ((KeepsOthers.alloc _ _).from _).trans ((keeps_grown _ hg1 ?_).trans ((set_keeps _ _ _ _).trans (set_keeps _ _ _ _)))
    intro g hg
    obtain ⟨cs, fr, h⟩ := owned_cells (ho.alloc o) g hg
    exact ⟨cs, _, fr, h⟩

set_option maxHeartbeats 1000000 in
theorem dec_any (v : Value) (zs : List Int) (most : Int) (w : World) (hv : Sl .u8 w v zs) (hz : zs.length ≤ 1000000) :
    Calls Tryd.prog 55 #[v, .int .i64 most] w (DecOut w (decB most zs)) := by
  obtain ⟨a, cap, rfl, _⟩ := id hv
  obtain ⟨i0, hi, hz0, hz1, hz2⟩ := info_parts Tryd.info5'
  refine (callsIn_wide (n := 4)).1 ?_
  refine callsIn_of_wp_marks Tryd.func55 rfl trivial ?_ rfl
  simp only [Tryd.ntmps55, List.size_toArray, List.length_cons, List.length_nil, Nat.reduceAdd, Nat.reduceSub, Array.replicate_succ, Array.replicate_zero, List.push_toArray, List.append_toArray, List.nil_append, List.cons_append]
  refine wpIn_wide.2 ?_
  go_wp2_with fail
  refine (paths_any _).mono ?_
  rintro e w1 ⟨bm, rfl, hbm, hP, hb⟩
  have k0 : (((w.alloc (.cells #[.int .i64 most] 3)).alloc (.cells #[.slice none 0 0] 24)).alloc (.cells #[.int .i64 0] 26)).heap[w.heap.size]? = some (.cells #[.int .i64 most] 3 (0, 0)) :=
    (Below.heap_alloc _ _ _ (by simp <;> omega)).trans ((Below.heap_alloc _ _ _ (by simp)).trans (heap_alloc_new _ _))
  have k1 : (((w.alloc (.cells #[.int .i64 most] 3)).alloc (.cells #[.slice none 0 0] 24)).alloc (.cells #[.int .i64 0] 26)).heap[w.heap.size + 1]? = some (.cells #[.slice none 0 0] 24 (0, 0)) :=
    (Below.heap_alloc _ _ _ (by simp)).trans (heap_alloc2_new _ _ _)
  have k2 : (((w.alloc (.cells #[.int .i64 most] 3)).alloc (.cells #[.slice none 0 0] 24)).alloc (.cells #[.int .i64 0] 26)).heap[w.heap.size + 1 + 1]? = some (.cells #[.int .i64 0] 26 (0, 0)) := by
    have := heap_alloc_new ((w.alloc (.cells #[.int .i64 most] 3)).alloc (.cells #[.slice none 0 0] 24)) (.cells #[.int .i64 0] 26)
    simpa using this
  have hs3 : (((w.alloc (.cells #[.int .i64 most] 3)).alloc (.cells #[.slice none 0 0] 24)).alloc (.cells #[.int .i64 0] 26)).heap.size = w.heap.size + 3 := by simp
  have hB3 : Below w.heap.size w (((w.alloc (.cells #[.int .i64 most] 3)).alloc (.cells #[.slice none 0 0] 24)).alloc (.cells #[.int .i64 0] 26)) := (((Below.refl _ w).alloc (Nat.le_refl _) _).alloc (by simp) _).alloc (by simp <;> omega) _
  rw [hs3] at hbm
  have l0 := (hb.block _ (by simp <;> omega)).trans k0
  have l1 := (hb.block _ (by simp <;> omega)).trans k1
  have l2 := (hb.block _ (by simp <;> omega)).trans k2
  have hB1 := hB3.trans (hb.mono hB3.size)
  have hsz1 : w.heap.size + 3 ≤ w1.heap.size := by have := hb.size; rw [hs3] at this; exact this
  clear k0 k1 k2 hs3 hB3 hb
  have hbm1 := hP.lt
  obtain ⟨C, hC⟩ : ∃ C, w1.heap.size = C := ⟨_, rfl⟩
  have HC := Lib.hid hC
  rw [hC] at hsz1 hbm1
  clear hC
  go_wp2_with fail
  rw [HC.out]
  refine (eachBit_any _ _ a zs.length cap rfl).mono ?_
  rintro e w' ⟨rfl, rfl⟩
  go_wp2_with fail
  refine (wpIn_wide (n := 4)).1 ?_
  gi_wp2
  rw [HC.out]
  have n0 : ((((w1.alloc (.cells #[.map (some bm)] 80)).alloc (.cells #[.slice none 0 0] 24)).alloc (.cells #[.int .i64 1] 3)).alloc (.cells #[.slice a zs.length cap] 24)).heap[C]? = some (.cells #[.map (some bm)] 80 (0, 0)) := by
    rw [← HC.out]
    exact (Below.heap_alloc _ _ _ (by simp <;> omega)).trans ((Below.heap_alloc _ _ _ (by simp <;> omega)).trans ((Below.heap_alloc _ _ _ (by simp)).trans (heap_alloc_new _ _)))
  have n1 : ((((w1.alloc (.cells #[.map (some bm)] 80)).alloc (.cells #[.slice none 0 0] 24)).alloc (.cells #[.int .i64 1] 3)).alloc (.cells #[.slice a zs.length cap] 24)).heap[C + 1]? = some (.cells #[.slice none 0 0] 24 (0, 0)) := by
    rw [← HC.out]
    exact (Below.heap_alloc _ _ _ (by simp <;> omega)).trans ((Below.heap_alloc _ _ _ (by simp)).trans (heap_alloc2_new _ _ _))
  have n2 : ((((w1.alloc (.cells #[.map (some bm)] 80)).alloc (.cells #[.slice none 0 0] 24)).alloc (.cells #[.int .i64 1] 3)).alloc (.cells #[.slice a zs.length cap] 24)).heap[C + 1 + 1]? = some (.cells #[.int .i64 1] 3 (0, 0)) := by
    rw [← HC.out]
    exact (Below.heap_alloc _ _ _ (by simp)).trans (by have := heap_alloc_new ((w1.alloc (.cells #[.map (some bm)] 80)).alloc (.cells #[.slice none 0 0] 24)) (.cells #[.int .i64 1] 3); simpa using this)
  have n3 : ((((w1.alloc (.cells #[.map (some bm)] 80)).alloc (.cells #[.slice none 0 0] 24)).alloc (.cells #[.int .i64 1] 3)).alloc (.cells #[.slice a zs.length cap] 24)).heap[C + 1 + 1 + 1]? = some (.cells #[.slice a zs.length cap] 24 (0, 0)) := by
    rw [← HC.out]
    have := heap_alloc_new (((w1.alloc (.cells #[.map (some bm)] 80)).alloc (.cells #[.slice none 0 0] 24)).alloc (.cells #[.int .i64 1] 3)) (.cells #[.slice a zs.length cap] 24)
    simpa using this
  have hG : Below w1.heap.size w1 ((((w1.alloc (.cells #[.map (some bm)] 80)).alloc (.cells #[.slice none 0 0] 24)).alloc (.cells #[.int .i64 1] 3)).alloc (.cells #[.slice a zs.length cap] 24)) := ((((Below.refl _ w1).alloc (Nat.le_refl _) _).alloc (by simp) _).alloc (by simp <;> omega) _).alloc (by simp <;> omega) _
  have hs4 : ((((w1.alloc (.cells #[.map (some bm)] 80)).alloc (.cells #[.slice none 0 0] 24)).alloc (.cells #[.int .i64 1] 3)).alloc (.cells #[.slice a zs.length cap] 24)).heap.size = w1.heap.size + 4 := by simp
  rw [HC.out] at hs4
  have hB5 := hB1.trans (hG.mono hB1.size)
  have hP5 := owns_below hP hG
  have b0 := (hG.block _ (by rw [HC.out]; omega)).trans l0
  have b1 := (hG.block _ (by rw [HC.out]; omega)).trans l1
  have b2 := (hG.block _ (by rw [HC.out]; omega)).trans l2
  obtain ⟨W5, hW5⟩ : ∃ W5, ((((w1.alloc (.cells #[.map (some bm)] 80)).alloc (.cells #[.slice none 0 0] 24)).alloc (.cells #[.int .i64 1] 3)).alloc (.cells #[.slice a zs.length cap] 24)) = W5 := ⟨_, rfl⟩
  rw [hW5] at n0 n1 n2 n3 hs4 hB5 hP5 b0 b1 b2 ⊢
  have HS := Lib.hid hs4
  clear hW5 hs4 hG l0 l1 l2 hB1 hP HC
  refine range_seq (gf := 61) (lb := #[.pointer (some ⟨C + 1 + 1 + 1, 0, none⟩)]) rfl (enters_of Tryd.func61 (by kernel_rfl) rfl)
    (bits_seq _ _ (.slice a zs.length cap) zs w W5 hv hz hB5 n3) (fun _ => rfl)
    (fun h k => ⟨h.1.trans k.1, k.2.trans h.2⟩)
    (fun W l o o' hl hlo _ => ⟨below_put W o o' (by have := HS.out; omega) hlo, World.putObj_heap_other (by have := HS.out; omega)⟩)
    (DAt w C bm W5.heap.size most)
    (fun c pre W => c = .ret ∧ DOut w most pre W)
    (fun x a' _ => x < 2 ∧ a' = { tmps := #[.slice a zs.length cap, .int .i64 most, undef, .pointer (some ⟨w.heap.size, 0, none⟩), .pointer (some ⟨w.heap.size + 1, 0, none⟩), .pointer (some ⟨w.heap.size + 1 + 1, 0, none⟩), .pointer (some ⟨C, 0, none⟩), .pointer (some ⟨C + 1, 0, none⟩), .pointer (some ⟨C + 1 + 1, 0, none⟩), .int .i64 (x : Int), undef, undef, .map (some bm), .slice a zs.length cap, .func (.func 61) #[] #[.pointer (some ⟨C + 1 + 1 + 1, 0, none⟩)], .int .i64 (x : Int), undef, undef, undef, undef, undef, undef, undef, undef, undef, undef, undef, undef, undef, undef, undef, undef, undef, undef, undef, undef, undef, undef, undef, undef, undef, undef, undef, undef, undef], defers := [] })
    (DAt.grows _ _ _ _ _) (DAt.turns _ _ _ _ _ (by omega) (by omega) (by have := HS.out; omega))
    (by rintro c s A W ⟨hc, h⟩ hg; exact ⟨hc, DOut.grows _ _ _ _ _ h hg⟩)
    (by rintro c s A l o o' ⟨hc, h⟩ hl hlo ho; exact ⟨hc, DOut.turns _ _ _ (by have := HS.out; omega) _ _ _ _ _ h hl hlo ho⟩)
    ?tTurn ⟨0, 0, [], _, RunSt.start most, b0, b1, b2, n0, n1, n2, hP5, World.ownsRow_nil _ _ _ _, hB5, Nat.le_refl _⟩ ?tAssign ?tBody ?tDone ?tStop
  case tTurn => exact fun x a' _ A l o o' h _ _ _ => h
  case tAssign =>
    rintro l pre x W K hI hY hK
    gi_wp2
    exact hK _ _ (keeps_refl _ _) ⟨Below.refl _ _, rfl⟩ hI ⟨hY, rfl⟩
  case tBody =>
    rintro l pre x a' W ⟨n, k, out, tv, HR, hblk0⟩ ⟨hx2, rfl⟩ hlen
    have hblk : Blk w C bm W5.heap.size most tv (2 ^ n + k) out W := hblk0
    clear hblk0
    have hbs : C + 4 ≤ W5.heap.size := by have := HS.out; omega
    obtain ⟨hn30, hk30⟩ := pend_bd HR.out.1
    have hol := HR.out.2.2.1
    have hp30 : 2 ^ n + k < 2147483648 := by
      have := HR.out.1.1
      have h2 := Nat.pow_le_pow_right (by omega : 2 > 0) (by omega : n ≤ 30)
      omega
    have hkk : 2 * k + x < 2 ^ (n + 1) := by have := HR.out.1.1; rw [Nat.pow_succ]; omega
    obtain ⟨P2, hP2⟩ : ∃ P2, 2 ^ (n + 1) + (2 * k + x) = P2 := ⟨_, rfl⟩
    have HPP := Lib.hid hP2
    have hP2' : 2 * (2 ^ n + k) + x = P2 := by rw [← hP2, Nat.pow_succ]; omega
    have HST : Hid (∀ W' : World, Calls Tryd.prog 59 #[.int .i64 ((2 ^ n + k : Nat) : Int), .int .i64 (x : Int)] W' fun e w' => e = .returned (.int .i64 (P2 : Int)) ∧ W' = w') := fun W' => by
      have := step_any (2 ^ n + k) x W' (by omega) hx2
      rwa [hP2'] at this
    have hs1 := hblk.step (by omega) (by omega) hbs P2
    obtain ⟨q1, q2, q3, q4, q5, q6, hpt, hown, hbw, hsz⟩ := id hs1
    have hlk := hpt.look hkk (by omega)
    rw [hP2] at hlk
    have HB1 := Lib.hid hs1
    have HB0 := Lib.hid hblk
    obtain ⟨_, _, _, _, _, r6, _⟩ := hblk
    obtain ⟨P, hP⟩ : ∃ P, 2 ^ n + k = P := ⟨_, rfl⟩
    rw [hP] at HST r6 HB0
    have c6 := blk_cell (j := 0) r6 rfl
    have f6 := blk_free (j := 0) r6
    have d4 := blk_cell (j := 0) q4 rfl
    have d6 := blk_cell (j := 0) q6 rfl
    have hN : 1 ≤ 4 - 1 - 1 := by decide
    clear hP2 hP2' hP r6 q6 q4 hpt hbw hs1 hkk hp30
    cases e : look (n + 1) (2 * k + x) with
    | none =>
      have HRW := Lib.hid (HR.out.wait hx2 e)
      rw [e] at hlk
      clear e q1 q2 q3 q5 hown hsz
      gi_wp2
      refine ⟨trivial, ?_⟩
      refine (CallsIn.inRound l ((callsIn_wide).2 (HST.out _))).mono ?_
      rintro e w' ⟨rfl, rfl⟩
      gi_wp2
      exact ⟨set_keeps _ _ _ _, ⟨(Below.refl _ _).setCell (p := ⟨C + 1 + 1, 0, none⟩) (by show w.heap.size ≤ C + 1 + 1; omega) _, Below.heap_setCell _ _ _ _ (by show C + 1 + 1 + 1 ≠ C + 1 + 1; omega)⟩, DAt.of HRW.out (by rw [HPP.out]; exact HB1.out)⟩
    | some c =>
      obtain ⟨hc257, _, _⟩ := look_of e
      have hlc : lookC (n + 1) (2 * k + x) = c := by rw [lookC, e]; rfl
      rw [e, hlc] at hlk
      have HDS := Lib.hid (fun bs => HR.out.some e bs)
      by_cases h256 : c = 256
      · have HDE : Hid (∀ bs, dec most (pre ++ [x] ++ bs) [] 0 0 = ([], 3)) := fun bs => by rw [HDS.out bs, if_pos h256]
        subst h256
        have y2 := blk_cell (j := 0) q2 rfl
        have yf2 := blk_free (j := 0) q2
        have q3' := (Below.heap_setCell (W.setCell ⟨C + 1 + 1, 0, none⟩ (.int .i64 (P2 : Int))) ⟨w.heap.size + 1, 0, none⟩ (.slice none 0 0) (w.heap.size + 1 + 1) (by simp)).trans q3
        have y3 := blk_cell (j := 0) q3' rfl
        have yf3 := blk_free (j := 0) q3'
        clear e q1 q2 q3 q3' q5 hown hsz hlc
        gi_wp2
        refine ⟨trivial, ?_⟩
        refine (CallsIn.inRound l ((callsIn_wide).2 (HST.out _))).mono ?_
        rintro e w' ⟨rfl, rfl⟩
        gi_wp2
        exact ⟨((set_keeps _ _ _ _).trans (set_keeps _ _ _ _)).trans (set_keeps _ _ _ _), rfl, HB1.out.out 3 HDE.out⟩
      · have d256 : ((c : Int) == 256) = false := by rw [beq_eq_false_iff_ne]; omega
        have hc256 : c < 256 := by omega
        have d0 := blk_cell (j := 0) q1 rfl
        have d5 := blk_cell (j := 0) q5 rfl
        obtain ⟨ao, cp, rfl, _⟩ := owned_shape hown
        by_cases hmo : most ≤ out.length
        · have HDE : Hid (∀ bs, dec most (pre ++ [x] ++ bs) [] 0 0 = ([], 4)) := fun bs => by rw [HDS.out bs, if_neg h256, if_pos hmo]
          have y2 := blk_cell (j := 0) q2 rfl
          have yf2 := blk_free (j := 0) q2
          have q3' := (Below.heap_setCell (W.setCell ⟨C + 1 + 1, 0, none⟩ (.int .i64 (P2 : Int))) ⟨w.heap.size + 1, 0, none⟩ (.slice none 0 0) (w.heap.size + 1 + 1) (by simp)).trans q3
          have y3 := blk_cell (j := 0) q3' rfl
          have yf3 := blk_free (j := 0) q3'
          clear e q1 q2 q3 q3' q5 hown hsz hlc h256
          gi_wp2
          refine ⟨trivial, ?_⟩
          refine (CallsIn.inRound l ((callsIn_wide).2 (HST.out _))).mono ?_
          rintro e w' ⟨rfl, rfl⟩
          gi_wp2
          exact ⟨((set_keeps _ _ _ _).trans (set_keeps _ _ _ _)).trans (set_keeps _ _ _ _), rfl, HB1.out.out 4 HDE.out⟩
        · have HRM := Lib.hid (HR.out.more e hc256 hmo)
          have hmo2 : ¬ most ≤ (out.length : Int) := hmo
          have dmo : decide (most ≤ (out.length : Int)) = false := decide_eq_false hmo
          have hrow : ∀ g, (Value.slice ao out.length cp).ownBlock = some g → W5.heap.size ≤ g := fun g hg => (hown.lt g hg).1
          have Q5 := Lib.hid q5
          have Q6 := Lib.hid HB1.out.2.2.2.2.2.1
          have hnew := _root_.Go.cell_one_new (W.setCell ⟨C + 1 + 1, 0, none⟩ (.int .i64 (P2 : Int))) (.int .u8 (c : Int)) 5
          rw [World.size_setCell] at hnew
          have HNW := Lib.hid hnew
          have hsz0 : W5.heap.size ≤ W.heap.size := by rw [World.size_setCell] at hsz; exact hsz
          have hol2 : out.length ≤ 8000000 := by omega
          have HRW2 := Lib.hid hrow
          clear e q1 q2 q3 q5 hlc h256 hmo hnew hsz hrow
          gi_wp2
          refine ⟨trivial, ?_⟩
          refine (CallsIn.inRound l ((callsIn_wide).2 (HST.out _))).mono ?_
          rintro e w' ⟨rfl, rfl⟩
          gi_wp2_with (gi_at_builtin; refine wpListIn_append_own _ rfl (.tmp 36) (.tmp 39) 24 rfl W5.heap.size 5 i0 (.int .u8 0) 1 1 Tryd.underlying24 hi hz0 hz1 hz2 rfl (by decide) (.slice ao out.length cp) out.length (out.map (Value.int .u8)) rfl (hown.alloc _) ⟨W.heap.size, 0, none⟩ 1 1 [.int .u8 (c : Int)] rfl rfl HNW.out (fun x hx => by simp at hx; subst hx; rfl) (by unfold maxLen; omega) (by omega) (by simp; omega) ?_; intro v1 w1 hown1 hg1 _; obtain ⟨ao1, cap1, rfl, _⟩ := owned_shape hown1; have at1 : ∀ (k : Nat) (o : Obj), (W.setCell ⟨C + 1 + 1, 0, none⟩ (.int .i64 (P2 : Int))).heap[k]? = some o → (Value.slice ao out.length cp).ownBlock ≠ some k → w1.heap[k]? = some o := (fun k o hk hn => (hg1.block k (by have := (Array.getElem?_eq_some_iff.1 hk).1; simp at this; simp <;> omega) (fun e => hn e.symm)).trans ((Below.heap_alloc _ _ _ (Array.getElem?_eq_some_iff.1 hk).1).trans hk)); have z5 := at1 _ _ Q5.out (fun e => by have := HRW2.out _ e; omega); have z6 := at1 _ _ Q6.out (fun e => by have := HRW2.out _ e; omega); have g5 := blk_cell (j := 0) z5 rfl; have gf5 := blk_free (j := 0) z5; have z6' := (Below.heap_setCell w1 ⟨C + 1, 0, none⟩ (.slice ao1 (out.length + 1) cap1) _ (by simp)).trans z6; have g6 := blk_cell (j := 0) z6' rfl; have gf6 := blk_free (j := 0) z6'; clear z5 z6 z6' at1)
          obtain ⟨r1, r2, r3, r4⟩ := HB1.out.more (by omega) (by omega) hbs hg1 hown1
          exact ⟨(set_keeps _ _ _ _).trans r2, ⟨((Below.refl _ _).setCell (p := ⟨C + 1 + 1, 0, none⟩) (by show w.heap.size ≤ C + 1 + 1; omega) _).trans r3, (r4 _ (by omega) (by omega) (by omega)).trans (Below.heap_setCell _ _ _ _ (by show C + 1 + 1 + 1 ≠ C + 1 + 1; omega))⟩, DAt.of HRM.out r1⟩
  case tDone =>
    rintro D xs W hD hcame hat hDk
    obtain ⟨n, k, out, tv, HR, h1, h2, h3, h4, h5, h6, hp, ho, hBw, hsz⟩ := hat
    have hbs : C + 4 ≤ W5.heap.size := by have := HS.out; omega
    obtain ⟨hn30, hk30⟩ := pend_bd HR.out.1
    have HDE : Hid (decB most zs = if n ≤ 7 ∧ k + 1 = 2 ^ n then (out, 0) else ([], 3)) := by
      show _ = _
      have h := HR.out.2.1 []
      rw [List.append_nil, show xs = bitsB zs from hcame, dec_end] at h
      exact h
    have hol : out.length ≤ 8000000 := by
      have h := HR.out.2.2.1
      rw [show xs = bitsB zs from hcame, bitsB_length] at h
      omega
    have HF := Lib.hid (fun (W' : World) => isFilling_any n k W' HR.out.1.1 hn30)
    obtain ⟨P, hP⟩ : ∃ P, 2 ^ n + k = P := ⟨_, rfl⟩
    rw [hP] at h6 HF
    have c6 := blk_cell (j := 0) h6 rfl
    have c2 := blk_cell (j := 0) h2 rfl
    have f2 := blk_free (j := 0) h2
    obtain ⟨ao, cp, rfl, _⟩ := owned_shape ho
    have c5 := blk_cell (j := 0) h5 rfl
    have HO := Lib.hid ho
    have HBW := Lib.hid hBw
    have H2 := Lib.hid h2
    have H3 := Lib.hid h3
    have HDK := Lib.hid hDk
    have HFT := Lib.hid HR.out.2.2.2
    by_cases hf : n ≤ 7 ∧ k + 1 = 2 ^ n
    · have HD2 : Hid (decB most zs = (out, 0)) := by show _ = _; rw [HDE.out, if_pos hf]
      rw [decide_eq_true hf] at HF
      have e3 := (Below.heap_setCell W ⟨w.heap.size + 1, 0, none⟩ (.slice ao out.length cp) (w.heap.size + 1 + 1) (by simp)).trans h3
      have c3 := blk_cell (j := 0) e3 rfl
      have f3 := blk_free (j := 0) e3
      have hown2 := ownsRow_setCell_below (ownsRow_setCell_below ho (a := ⟨w.heap.size + 1, 0, none⟩) (by show w.heap.size + 1 < W5.heap.size; omega) (.slice ao out.length cp)) (a := ⟨w.heap.size + 1 + 1, 0, none⟩) (by show w.heap.size + 1 + 1 < W5.heap.size; omega) (.int .i64 0)
      have HO2 := Lib.hid hown2
      clear hf hP h1 h2 h3 h4 h5 h6 hp ho hBw hsz hDk e3 hown2
      gi_wp2
      go_wp2_with fail
      refine (HF.out _).mono ?_
      rintro e w' ⟨rfl, rfl⟩
      go_wp2_with fail
      try rw [Exit.noGoto_ret]
      have hDk2 : ((W.setCell ⟨w.heap.size + 1, 0, none⟩ (.slice ao out.length cp)).setCell ⟨w.heap.size + 1 + 1, 0, none⟩ (.int .i64 0)).heap[D]? = some (.deferred (some [])) :=
        ((Below.heap_setCell _ _ _ _ (by show D ≠ w.heap.size + 1 + 1; omega)).trans (Below.heap_setCell _ _ _ _ (by show D ≠ w.heap.size + 1; omega))).trans HDK.out
      have r2 := heap_setCell_same W (w.heap.size + 1) 0 _ _ (.slice ao out.length cp) H2.out
      have r3 := heap_setCell_same (W.setCell ⟨w.heap.size + 1, 0, none⟩ (.slice ao out.length cp)) (w.heap.size + 1 + 1) 0 _ _ (.int .i64 0) ((Below.heap_setCell W ⟨w.heap.size + 1, 0, none⟩ (.slice ao out.length cp) (w.heap.size + 1 + 1) (by simp)).trans H3.out)
      refine ⟨by simp, .inl ⟨_, _, rfl, run_takeDeferred hDk2, ?_⟩⟩
      refine ⟨_, results_cells2 rfl _ _ (w.heap.size + 1) (w.heap.size + 1 + 1) _ _ _ _ rfl rfl ((World.putObj_heap_other (by omega)).trans ((Below.heap_setCell _ _ _ _ (by show w.heap.size + 1 ≠ w.heap.size + 1 + 1; omega)).trans r2)) ((World.putObj_heap_other (by omega)).trans r3) (fun _ => by kernel_rfl) (fun _ => by kernel_rfl), ?_⟩
      rw [HD2.out]
      refine ⟨_, rfl, ?_, ?_⟩
      · exact Sl.of_own (owned_kept HO2.out (grownBy_putObj' _ D _) (fun g hg e => by
          obtain ⟨cs, fr, h⟩ := owned_cells HO2.out g hg
          exact cells_ne h hDk2 rfl (Option.some.inj e).symm)) HFT.out (by show out.length ≤ maxLen; unfold maxLen; omega)
      · exact ((HBW.out.setCell (p := ⟨w.heap.size + 1, 0, none⟩) (by show w.heap.size ≤ w.heap.size + 1; omega) _).setCell (p := ⟨w.heap.size + 1 + 1, 0, none⟩) (by show w.heap.size ≤ w.heap.size + 1 + 1; omega) _).trans (below_put _ _ _ (by omega) hDk2)
    · have HD2 : Hid (decB most zs = ([], 3)) := by show _ = _; rw [HDE.out, if_neg hf]
      rw [decide_eq_false hf] at HF
      have e3 := (Below.heap_setCell W ⟨w.heap.size + 1, 0, none⟩ (.slice none 0 0) (w.heap.size + 1 + 1) (by simp)).trans h3
      have c3 := blk_cell (j := 0) e3 rfl
      have f3 := blk_free (j := 0) e3
      clear hf hP h1 h2 h3 h4 h5 h6 hp ho hBw hsz hDk e3
      gi_wp2
      go_wp2_with fail
      refine (HF.out _).mono ?_
      rintro e w' ⟨rfl, rfl⟩
      go_wp2_with fail
      try rw [Exit.noGoto_ret]
      have hDk2 : ((W.setCell ⟨w.heap.size + 1, 0, none⟩ (.slice none 0 0)).setCell ⟨w.heap.size + 1 + 1, 0, none⟩ (.int .i64 3)).heap[D]? = some (.deferred (some [])) :=
        ((Below.heap_setCell _ _ _ _ (by show D ≠ w.heap.size + 1 + 1; omega)).trans (Below.heap_setCell _ _ _ _ (by show D ≠ w.heap.size + 1; omega))).trans HDK.out
      have r2 := heap_setCell_same W (w.heap.size + 1) 0 _ _ (.slice none 0 0) H2.out
      have r3 := heap_setCell_same (W.setCell ⟨w.heap.size + 1, 0, none⟩ (.slice none 0 0)) (w.heap.size + 1 + 1) 0 _ _ (.int .i64 3) ((Below.heap_setCell W ⟨w.heap.size + 1, 0, none⟩ (.slice none 0 0) (w.heap.size + 1 + 1) (by simp)).trans H3.out)
      refine ⟨by simp, .inl ⟨_, _, rfl, run_takeDeferred hDk2, ?_⟩⟩
      refine ⟨_, results_cells2 rfl _ _ (w.heap.size + 1) (w.heap.size + 1 + 1) _ _ _ _ rfl rfl ((World.putObj_heap_other (by omega)).trans ((Below.heap_setCell _ _ _ _ (by show w.heap.size + 1 ≠ w.heap.size + 1 + 1; omega)).trans r2)) ((World.putObj_heap_other (by omega)).trans r3) (fun _ => by kernel_rfl) (fun _ => by kernel_rfl), ?_⟩
      exact DecOut.err HD2.out (((HBW.out.setCell (p := ⟨w.heap.size + 1, 0, none⟩) (by show w.heap.size ≤ w.heap.size + 1; omega) _).setCell (p := ⟨w.heap.size + 1 + 1, 0, none⟩) (by show w.heap.size ≤ w.heap.size + 1 + 1; omega) _).trans (below_put _ _ _ (by omega) hDk2))
  case tStop =>
    rintro D c pre W hD hcame ⟨rfl, hout⟩ hDk
    obtain ⟨z, hd, h2, h3, hB⟩ := hout
    have hbs : C + 4 ≤ W5.heap.size := by have := HS.out; omega
    have HDE : decB most zs = ([], z) := by
      obtain ⟨m, hm, rfl⟩ := hcame
      have := hd ((bitsB zs).drop (m + 1))
      rwa [List.take_append_drop] at this
    gi_wp2
    refine ⟨by simp, .inl ⟨_, _, rfl, run_takeDeferred hDk, ?_⟩⟩
    refine ⟨_, results_cells2 rfl _ _ (w.heap.size + 1) (w.heap.size + 1 + 1) _ _ _ _ rfl rfl ((World.putObj_heap_other (by omega)).trans h2) ((World.putObj_heap_other (by omega)).trans h3) (fun _ => by kernel_rfl) (fun _ => by kernel_rfl), ?_⟩
    exact DecOut.err HDE (hB.trans (below_put _ _ _ (by omega) hDk))
end Go.Proofs.YtimggejonppegaaDoor
