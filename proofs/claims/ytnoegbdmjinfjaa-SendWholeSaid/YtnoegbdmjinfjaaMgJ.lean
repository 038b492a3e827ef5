/-
  Several texts of mine, one behind the other: SnpIds, SnpShift, SnpNext, SnpNil, SndProg, Acts20, SndActs, Law20, Law20a, Law20k, SndTell.
-/
import Derived.Test.YtnoegbdmjinfjaaMgI
import Derived.WalkMore
import Derived.Test.YtnoegbdmjinfjaaProg
import Derived.Deep.LoopGhost
import Derived.Laws.Tables

/-
  Layer 20's program: IDs.
-/
namespace Go.Proofs.Ytnoegbdmjinfjaa
set_option maxRecDepth 20000
open Go.RowKit Go.Shelf
attribute [local go_sem] Oper.semAt_some

theorem Try.infoI20 : (Try.prog.info? 3).map (fun i => (i.zero, i.size, i.bytes)) = some (some (.int .i64 0), 1, 8) := by kernel_rfl
def idC (y : Et) : List Value := [.int .i64 y.x.id]
theorem idC_len (y : Et) : (idC y).length = 1 := rfl
theorem idC_flat (ys : List Et) : flatC idC ys = (ys.map (·.x.id)).map (Value.int .i64) := by
  induction ys with
  | nil => rfl
  | cons y r ih => simp only [flatC, List.flatMap_cons, List.map_cons] at ih ⊢; rw [ih]; rfl
theorem RowC.blk20 {w : World} {base : Nat} {v : Value} {xs : List Et} (h : RowC idC 1 w base 3 v xs) : ∀ g, v.ownBlock = some g → ∃ cs fr, w.heap[g]? = some (.cells cs 3 fr) := fun g hg => by
  obtain ⟨_, ⟨rfl, _⟩ | ⟨g', cap, cur, rfl, _, hh, _⟩⟩ := h
  · cases hg
  · cases hg; exact ⟨_, _, hh⟩
/-- the ids that have come, in a row of the call's own -/
def IdsAt (w : World) (base : Nat) (xs : List Et) (W : World) : Prop := ∃ u, W.heap[w.heap.size]? = some (.cells #[u] 43 (0, 0)) ∧ RowC idC 1 W base 3 u xs ∧ Below w.heap.size w W ∧ base ≤ W.heap.size
theorem IdsAt.grows (w : World) (base : Nat) : Grows (IdsAt w base) := by
  rintro s A W ⟨u, h1, h2, h3, h4⟩ hg
  exact ⟨u, (hg.block _ (Array.getElem?_eq_some_iff.1 h1).1).trans h1, h2.below hg, h3.trans (hg.mono h3.size), Nat.le_trans h4 hg.size⟩
theorem IdsAt.turns {w : World} {base : Nat} (hS : w.heap.size < base) : Turns base (IdsAt w base) := by
  rintro s A l o o' ⟨u, h1, h2, h3, h4⟩ hl hlo hoc
  refine ⟨u, (World.putObj_heap_other (by omega)).trans h1, h2.of_block (fun g hg => World.putObj_heap_other ?_), h3.trans (below_put A o o' (by omega) hlo), by rw [World.putObj_size]; exact h4⟩
  rintro rfl
  obtain ⟨cs, fr, h⟩ := h2.blk20 g hg
  rw [h] at hlo
  cases hlo
  cases hoc
theorem IdsAt.more {w W w1 : World} {B0 : Nat} {u v1 : Value} {pre : List Et} {x : Et} (hB : w.heap.size < B0) (h0 : W.heap[w.heap.size]? = some (.cells #[u] 43 (0, 0))) (hr : RowC idC 1 W B0 3 u pre) (hb : Below w.heap.size w W) (hs : B0 ≤ W.heap.size) {o : Obj}
    (hown : w1.ownsRow B0 3 1 v1 (pre.length + 1) (flatC idC pre ++ flatC idC [x])) (hg : (W.alloc o).grownBy w1 u.ownBlock) {v : Value} (hv : ∀ g, v.ownBlock = some g → g < w.heap.size) :
    KeepsFrom B0 W (w1.setCell ⟨w.heap.size, 0, none⟩ v1) ∧ KeepRw20 v W (w1.setCell ⟨w.heap.size, 0, none⟩ v1) ∧ IdsAt w B0 (pre ++ [x]) (w1.setCell ⟨w.heap.size, 0, none⟩ v1) := by
  have hW1 : ∀ k, k < W.heap.size → u.ownBlock ≠ some k → w1.heap[k]? = W.heap[k]? := fun k hk hu => (hg.block k (by simp; omega) (fun e => hu e.symm)).trans (Below.heap_alloc _ _ _ hk)
  have hu0 : u.ownBlock ≠ some w.heap.size := fun e => by have := (hr.lt _ e).1; omega
  have l0 := (Array.getElem?_eq_some_iff.1 h0).1
  have h01 := (hW1 _ l0 hu0).trans h0
  have hsz : W.heap.size ≤ w1.heap.size := by have := hg.size; simp at this; omega
  have hr1 : RowC idC 1 w1 B0 3 v1 (pre ++ [x]) := by
    unfold RowC
    rw [List.length_append, List.length_singleton, flatC_append]
    exact hown
  have hap : v1.ownBlock ≠ some w.heap.size := fun e => by have := (hr1.lt _ e).1; omega
  refine ⟨((KeepsOthers.alloc W o).trans ((KeepsOthers.of_grownBy hg (fun j ob ej hj => ?_)).trans (KeepsOthers.setCell _ _ _))).from B0, ⟨by simpa [World.setCell] using hsz, fun g hgv => ?_⟩, v1, heap_setCell_same w1 w.heap.size 0 _ _ v1 h01, ?_, ?_, by simpa [World.setCell] using Nat.le_trans hs hsz⟩
  · obtain ⟨cs, fr, h⟩ := hr.blk20 j ej
    rw [(Below.heap_alloc _ _ _ (hr.lt j ej).2).trans h] at hj
    cases hj; rfl
  · have hlt := hv g hgv
    exact (Below.heap_setCell _ _ _ _ (by show g ≠ w.heap.size; omega)).trans (hW1 g (by have := hb.size; omega) (fun e => by have := (hr.lt _ e).1; omega))
  · exact hr1.of_block fun g hg1 => Below.heap_setCell _ _ _ _ (fun e => hap (by rw [hg1]; exact congrArg some e))
  · refine Below.setCell (Below.trans hb ⟨hg.os, hg.tape, hg.output, hsz, fun k hk => hW1 k (by have := hb.size; omega) (fun e => by have := (hr.lt _ e).1; omega)⟩) (p := ⟨w.heap.size, 0, none⟩) (Nat.le_refl _) _
set_option maxHeartbeats 4000000 in
theorem ids20_any (T : Nat) (v : Value) (ys : List Et) (q : Sd) (w : World) (h : SnO w T v ys q) (hl : ys.length ≤ 1000) :
    Calls Try.prog 13 #[.pointer (some ⟨T, 0, none⟩)] w fun e w' => ∃ v, e = .returned v ∧ Sl .i64 w' v (q.l.map (·.id)) ∧ Below w.heap.size w w' ∧ ∀ g, v.ownBlock = some g → w.heap.size ≤ g := by
  have hv0 : ∀ g, v.ownBlock = some g → g < w.heap.size := fun g hg => (h.row.lt g hg).2
  obtain ⟨i0, hi, hz0, hz1, hz2⟩ := info_parts Try.infoI20
  refine (callsIn_wide (n := 4)).1 ?_
  refine callsIn_of_wp_marks Try.func13 rfl trivial ?_ rfl
  simp only [Try.ntmps13, List.size_toArray, List.length_cons, List.length_nil, Nat.reduceAdd, Nat.reduceSub, Array.replicate_succ, Array.replicate_zero, List.push_toArray, List.append_toArray, List.nil_append, List.cons_append]
  refine wpIn_wide.2 ?_
  have hb0 : Below w.heap.size w (w.alloc (.cells #[.slice none 0 0] 43)) := (Below.refl _ _).alloc (Nat.le_refl _) _
  have HA := Lib.hid (all20_any T v ys q _ (h.below hb0))
  go_wp2_with (go_at_call 37; refine HA.out.mono ?_; rintro e w' ⟨rfl, rfl⟩)
  refine (wpIn_wide (n := 4)).1 ?_
  gi_wp2
  have k0 : ((w.alloc (.cells #[.slice none 0 0] 43)).alloc (.cells #[v] 59)).heap[w.heap.size]? = some (.cells #[.slice none 0 0] 43 (0, 0)) := (Below.heap_alloc _ _ _ (by simp)).trans (heap_alloc_new _ _)
  have k1 : ((w.alloc (.cells #[.slice none 0 0] 43)).alloc (.cells #[v] 59)).heap[w.heap.size + 1]? = some (.cells #[v] 59 (0, 0)) := by
    have := heap_alloc_new (w.alloc (.cells #[.slice none 0 0] 43)) (.cells #[v] 59)
    simpa using this
  have hB2 : Below w.heap.size w ((w.alloc (.cells #[.slice none 0 0] 43)).alloc (.cells #[v] 59)) := hb0.alloc (by simp) _
  have hs2 : ((w.alloc (.cells #[.slice none 0 0] 43)).alloc (.cells #[v] 59)).heap.size = w.heap.size + 2 := by simp
  obtain ⟨W2, hW2⟩ : ∃ W2, (w.alloc (.cells #[.slice none 0 0] 43)).alloc (.cells #[v] 59) = W2 := ⟨_, rfl⟩
  rw [hW2] at k0 k1 hB2 hs2 ⊢
  have HS := Lib.hid hs2
  clear hW2 hs2 HA hb0
  have hT2 := h.below hB2
  refine range_seqP (gf := 66) (lb := #[.pointer (some ⟨w.heap.size + 1, 0, none⟩)]) rfl (enters_of Try.func66 (by kernel_rfl) rfl)
    (rise_seq _ _ v ys W2 k1 hT2.row (by omega)) (fun _ => rfl)
    (fun h k => h.trans k)
    (fun W l o o' hl hlo _ => ⟨by rw [World.putObj_size]; exact Nat.le_refl _, fun g hg => World.putObj_heap_other (by have := hv0 g hg; have := HS.out; omega)⟩)
    (IdsAt w W2.heap.size)
    (fun _ _ _ => False)
    (fun pre y a' W => a' = { tmps := #[.pointer (some ⟨T, 0, none⟩), undef, .slice none 0 0, .pointer (some ⟨w.heap.size, 0, none⟩), .int .i64 y.x.id, .pointer (some ⟨T, 0, none⟩), .func (.func 66) #[] #[.pointer (some ⟨w.heap.size + 1, 0, none⟩)], .int .i64 y.x.id, .pointer (some ⟨y.p, 0, none⟩), undef, undef, undef, undef, undef], defers := [] })
    (IdsAt.grows _ _) (IdsAt.turns (by have := HS.out; omega))
    (by rintro c s A W h; exact h.elim)
    (by rintro c s A l o o' h; exact h.elim)
    ?tTurn ⟨_, k0, RowC.nil _ _ _, hB2, Nat.le_refl _⟩ ?tAssign ?tBody ?tDone ?tStop
  case tTurn =>
    rintro pre x a' _ A l o o' h hl hlo ho
    exact h
  case tAssign =>
    rintro l pre x W K hI hY hK
    dsimp only [encEt]
    gi_wp2
    exact hK _ _ ⟨Nat.le_refl _, fun _ _ _ h _ => h⟩ (KeepRw20.refl _ _) hI rfl
  case tBody =>
    rintro l pre x a' W ⟨u, h0, hru, hbW, hsW⟩ rfl hlen
    have hu0 : u.ownBlock ≠ some w.heap.size := fun e => by have := (hru.lt _ e).1; have := HS.out; omega
    have c0 : W.cell? ⟨w.heap.size, 0, none⟩ = some u := blk_cell (j := 0) h0 rfl
    have hl2 : pre.length ≤ 1000 := by omega
    have H0 := Lib.hid h0
    have HR := Lib.hid (And.intro hru (And.intro hbW hsW))
    have hru' : W.ownsRow W2.heap.size 3 1 u pre.length (flatC idC pre) := hru
    clear h0 hru hbW hsW
    gi_wp2_with (gi_at_builtin; refine wpListIn_append_own _ rfl (.tmp 9) (.tmp 11) 43 rfl W2.heap.size 3 i0 _ 1 8 Try.underlying43 hi hz0 hz1 hz2 rfl (by decide) u pre.length (flatC idC pre) rfl (hru'.alloc _) ⟨W.heap.size, 0, none⟩ 1 1 (flatC idC [x]) rfl rfl (one_at (heap_alloc_new W _)) (fun u hu => by simp [flatC, idC] at hu; subst hu; rfl) (by unfold maxLen; omega) (by omega) (by have := HR.out.2.2; simp; omega) ?_; intro v1 w1 hown1 hg1 _; obtain ⟨ao1, cap1, rfl, _⟩ := owned_shape hown1; have at1 : w1.heap[w.heap.size]? = some (.cells #[u] 43 (0, 0)) := (hg1.block w.heap.size (by have := (Array.getElem?_eq_some_iff.1 H0.out).1; simp; omega) (fun e => hu0 e.symm)).trans ((Below.heap_alloc _ _ _ (Array.getElem?_eq_some_iff.1 H0.out).1).trans H0.out); have e0 := blk_cell (j := 0) at1 rfl; have ef0 := blk_free (j := 0) at1; clear at1)
    exact IdsAt.more (by have := HS.out; omega) H0.out HR.out.1 HR.out.2.1 HR.out.2.2 hown1 hg1 hv0
  case tDone =>
    rintro D xs W hD hcame ⟨u, h0, hru, hbW, hsW⟩ hDk
    obtain rfl : xs = ys := hcame
    obtain ⟨au, cu, rfl⟩ := hru.shape
    have c0 : W.cell? ⟨w.heap.size, 0, none⟩ = some (.slice au xs.length cu) := blk_cell (j := 0) h0 rfl
    have HR := Lib.hid (And.intro hru (And.intro hbW hsW))
    have HD := Lib.hid (show w.heap.size < D by have := HS.out; omega)
    clear h0 hru hbW hsW
    gi_wp2
    go_wp2_with fail
    obtain ⟨hru, hbW, _⟩ := HR.out
    have hlt := HD.out
    refine ⟨by simp, .inl ⟨_, _, rfl, run_takeDeferred hDk, ?_⟩⟩
    refine ⟨_, results_tmp rfl _ _ _, .slice au xs.length cu, rfl, ?_, hbW.trans (below_put _ _ _ (Nat.le_of_lt hlt) hDk), fun g hg => by have := (hru.lt g hg).1; have := hB2.size; omega⟩
    have hr0 : ∀ o', RowC idC 1 (W.putObj D o') W2.heap.size 3 (.slice au xs.length cu) xs := fun o' => hru.of_block fun g hg => World.putObj_heap_other (by
      rintro rfl
      obtain ⟨cs, fr, h⟩ := hru.blk20 g hg
      rw [h] at hDk
      cases hDk)
    have hq : q.l.map (·.id) = xs.map (·.x.id) := by rw [h.e, List.map_map]; rfl
    rw [hq]
    have hr2 : ∀ o', (W.putObj D o').ownsRow W2.heap.size 3 1 (.slice au xs.length cu) xs.length ((xs.map (·.x.id)).map (Value.int .i64)) := fun o' => by have := hr0 o'; unfold RowC at this; rwa [idC_flat] at this
    refine Sl.of_own (hr2 _) (fun z hz => ?_) (by rw [List.length_map]; unfold maxLen; omega)
    obtain ⟨y, hy, rfl⟩ := List.mem_map.1 hz
    have := h.ids y hy
    simp only [Lit.wf, Bool.and_eq_true, decide_eq_true_eq]
    exact ⟨by show (-9223372036854775808 : Int) ≤ _; omega, by show _ ≤ (9223372036854775807 : Int); omega⟩
  case tStop =>
    rintro D c pre W hD hcame h
    exact h.elim
end Go.Proofs.Ytnoegbdmjinfjaa

/-
  Layer 20's program: Shift (written by wip/tools/gen20r.py).
-/
namespace Go.Proofs.Ytnoegbdmjinfjaa
set_option maxRecDepth 20000
open Go.RowKit Go.Shelf
attribute [local go_sem] Oper.semAt_some

/-- a result that lies in a block of its own -/
theorem results_cell20 {P : Program} {fn : Func} {p : Tmp} {tp : TypeId} (h : fn.results = #[.cell p tp]) (tmps : Array Value) (w : World) (gp : Nat) (u : Value) (eu : TypeId)
    (hp : tmps.getD p undef = .pointer (some ⟨gp, 0, none⟩)) (h1 : w.heap[gp]? = some (.cells #[u] eu (0, 0))) (ap : ∀ w, (isAgg tp).run P w = .ok false w) : (results fn tmps).run P w = .ok u w := by
  have hp' : tmps[p]?.getD undef = .pointer (some ⟨gp, 0, none⟩) := by simpa using hp
  have c1 := blk_cell (j := 0) h1 rfl
  simp [results, h, hp', asAddr, loadVar, ap, c1, Result.andThen]
/-- the first loop: all that have come can be shifted -/
def Sh1 (w : World) (base : Nat) (ys : List Et) (d : Int) (pre : List Et) (W : World) : Prop :=
  W.heap[w.heap.size]? = some (.cells #[.int .i64 d] 3 (0, 0)) ∧ W.heap[w.heap.size + 1]? = some (.cells #[.int .i64 0] 3 (0, 0)) ∧ Below w.heap.size w W ∧ base ≤ W.heap.size ∧ pre = ys.take pre.length ∧ (pre.map (·.x)).all (okS d) = true
theorem Sh1.grows (w : World) (base : Nat) (ys : List Et) (d : Int) : Grows (Sh1 w base ys d) := by
  rintro s A W ⟨h1, h2, h3, h4, h5, h6⟩ hg
  exact ⟨(hg.block _ (Array.getElem?_eq_some_iff.1 h1).1).trans h1, (hg.block _ (Array.getElem?_eq_some_iff.1 h2).1).trans h2, h3.trans (hg.mono h3.size), Nat.le_trans h4 hg.size, h5, h6⟩
theorem Sh1.turns {w : World} {base : Nat} {ys : List Et} {d : Int} (hS : w.heap.size + 1 < base) : Turns base (Sh1 w base ys d) := by
  rintro s A l o o' ⟨h1, h2, h3, h4, h5, h6⟩ hl hlo hoc
  exact ⟨(World.putObj_heap_other (by omega)).trans h1, (World.putObj_heap_other (by omega)).trans h2, h3.trans (below_put A o o' (by omega) hlo), by rw [World.putObj_size]; exact h4, h5, h6⟩
/-- its end at one that can't be -/
def Sh1x (w : World) (base : Nat) (d : Int) (c : Code) (pre : List Et) (W : World) : Prop :=
  c = .ret ∧ ∃ ini y, pre = ini ++ [y] ∧ (ini.map (·.x)).all (okS d) = true ∧ okS d y.x = false ∧ W.heap[w.heap.size + 1]? = some (.cells #[.int .i64 y.x.id] 3 (0, 0)) ∧ Below w.heap.size w W ∧ base ≤ W.heap.size
def mvE (d : Int) (y : Et) : Et := { y with x := movS d y.x }
/-- how far the second loop has come -/
def midE (d : Int) (ys : List Et) (k : Nat) : List Et := (ys.take k).map (mvE d) ++ ys.drop k
theorem midE_zero (d : Int) (ys : List Et) : midE d ys 0 = ys := by simp [midE]
theorem midE_all (d : Int) (ys : List Et) : midE d ys ys.length = ys.map (mvE d) := by simp [midE]
theorem midE_at {d : Int} {ys : List Et} {k : Nat} {y : Et} (hy : ys[k]? = some y) : (midE d ys k)[k]? = some y := by
  have hk := (List.getElem?_eq_some_iff.1 hy).1
  rw [midE, List.getElem?_append_right (by simp; omega)]
  simp only [List.length_map, List.length_take, Nat.min_eq_left (Nat.le_of_lt hk), Nat.sub_self, List.getElem?_drop, Nat.add_zero]
  exact hy
theorem midE_next {d : Int} {ys : List Et} {k : Nat} {y : Et} (hy : ys[k]? = some y) : (midE d ys k).set k (mvE d y) = midE d ys (k + 1) := by
  obtain ⟨hk, he⟩ := List.getElem?_eq_some_iff.1 hy
  rw [midE, midE, List.set_append_right _ _ (by simp; omega), List.take_add_one, hy, List.map_append, List.append_assoc]
  congr 1
  rw [List.drop_eq_getElem_cons hk, he]
  simp [Nat.min_eq_left (Nat.le_of_lt hk)]
theorem midE_mem {d : Int} {ys : List Et} {k : Nat} {z : Et} (h : z ∈ midE d ys k) : ∃ y ∈ ys, z = y ∨ z = mvE d y := by
  rcases List.mem_append.1 h with h | h
  · obtain ⟨y, hy, rfl⟩ := List.mem_map.1 h
    exact ⟨y, List.mem_of_mem_take hy, .inr rfl⟩
  · exact ⟨z, List.mem_of_mem_drop h, .inl rfl⟩
theorem midE_blk {T : Nat} {v : Value} {d : Int} {ys : List Et} {k g : Nat} (h : SnB T v (midE d ys k) g) : SnB T v ys g := by
  rcases h with e | e | ⟨z, hz, e⟩
  · exact .inl e
  · exact .inr (.inl e)
  · obtain ⟨y, hy, rfl | rfl⟩ := midE_mem hz
    · exact .inr (.inr ⟨_, hy, e⟩)
    · exact .inr (.inr ⟨y, hy, e⟩)
theorem SnO.lt20 {W : World} {T : Nat} {v : Value} {ys : List Et} {q : Sd} (h : SnO W T v ys q) {g : Nat} (hg : SnB T v ys g) : g < W.heap.size := by
  rcases hg with rfl | hg | ⟨y, hy, hg⟩
  · exact h.cells.2.2
  · exact (h.row.lt g hg).2
  · exact (h.st y hy).lt hg
/-- the second loop -/
def Sh2 (w : World) (base D T : Nat) (v : Value) (ys : List Et) (q : Sd) (d : Int) (pre : List Et) (W : World) : Prop :=
  W.heap[w.heap.size]? = some (.cells #[.int .i64 d] 3 (0, 0)) ∧ W.heap[w.heap.size + 1]? = some (.cells #[.int .i64 0] 3 (0, 0)) ∧ W.heap[D]? = some (.deferred (some [])) ∧ Turn (fun g => ∃ y ∈ ys, g = y.p) w W ∧ base ≤ W.heap.size ∧ pre = ys.take pre.length ∧ SnO W T v (midE d ys pre.length) { q with l := (midE d ys pre.length).map (·.x) }
theorem Sh2.grows (w : World) (base D T : Nat) (v : Value) (ys : List Et) (q : Sd) (d : Int) : Grows (Sh2 w base D T v ys q d) := by
  rintro s A W ⟨h1, h2, h3, h4, h5, h6, h7⟩ hg
  exact ⟨(hg.block _ (Array.getElem?_eq_some_iff.1 h1).1).trans h1, (hg.block _ (Array.getElem?_eq_some_iff.1 h2).1).trans h2, (hg.block _ (Array.getElem?_eq_some_iff.1 h3).1).trans h3, h4.trans (Turn.of_below hg), Nat.le_trans h5 hg.size, h6, h7.below hg⟩
theorem Sh2.turns {w : World} {base D T : Nat} {v : Value} {ys : List Et} {q : Sd} {d : Int} (hS : w.heap.size + 1 < base) (hD : D < base) (h0 : ∀ g, SnB T v ys g → g < w.heap.size) : Turns base (Sh2 w base D T v ys q d) := by
  rintro s A l o o' ⟨h1, h2, h3, h4, h5, h6, h7⟩ hl hlo hoc
  have ht : Turn (fun k => k = l) A (A.putObj l o') := ⟨rfl, rfl, rfl, by rw [World.putObj_size]; exact Nat.le_refl _, fun k _ hk => World.putObj_heap_other (fun e => hk (show k = l from by first | exact e | exact e.symm))⟩
  refine ⟨(World.putObj_heap_other (by omega)).trans h1, (World.putObj_heap_other (by omega)).trans h2, (World.putObj_heap_other (by omega)).trans h3, h4.trans' ht (fun k hk e => by have e' : k = l := e; omega), by rw [World.putObj_size]; exact h5, h6, h7.turn ht ?_ ?_ ?_⟩
  · intro e; have := h0 T (.inl rfl); omega
  · intro g hg e; have e' : g = l := e; have := h0 g (.inr (.inl hg)); omega
  · intro z hz g hg e; have e' : g = l := e; have := h0 g (midE_blk (.inr (.inr ⟨z, hz, hg⟩))); omega
set_option maxHeartbeats 4000000 in
theorem shift20_any (T : Nat) (v : Value) (ys : List Et) (q : Sd) (d : Int) (w : World) (h : SnO w T v ys q) (hl : ys.length ≤ 1000) :
    Calls Try.prog 27 #[.pointer (some ⟨T, 0, none⟩), .int .i64 d] w fun e w' => e = .returned (.int .i64 (shiftN q.l d)) ∧ ((q.l.all (okS d) = true ∧ SnO w' T v (ys.map (mvE d)) { q with l := (ys.map (mvE d)).map (·.x) } ∧ Turn (fun g => ∃ y ∈ ys, g = y.p) w w') ∨ (q.l.all (okS d) = false ∧ Below w.heap.size w w')) := by
  have hv0 : ∀ g, v.ownBlock = some g → g < w.heap.size := fun g hg => (h.row.lt g hg).2
  refine (callsIn_wide (n := 4)).1 ?_
  refine callsIn_of_wp_marks Try.func27 rfl trivial ?_ rfl
  simp only [Try.ntmps27, List.size_toArray, List.length_cons, List.length_nil, Nat.reduceAdd, Nat.reduceSub, Array.replicate_succ, Array.replicate_zero, List.push_toArray, List.append_toArray, List.nil_append, List.cons_append]
  refine wpIn_wide.2 ?_
  have hb0 : Below w.heap.size w ((w.alloc (.cells #[.int .i64 d] 3)).alloc (.cells #[.int .i64 0] 3)) := ((Below.refl _ _).alloc (Nat.le_refl _) _).alloc (by simp) _
  have HA := Lib.hid (all20_any T v ys q _ (h.below hb0))
  go_wp2_with (go_at_call 37; refine HA.out.mono ?_; rintro e w' ⟨rfl, rfl⟩)
  refine (wpIn_wide (n := 4)).1 ?_
  gi_wp2
  have k0 : (((w.alloc (.cells #[.int .i64 d] 3)).alloc (.cells #[.int .i64 0] 3)).alloc (.cells #[v] 59)).heap[w.heap.size]? = some (.cells #[.int .i64 d] 3 (0, 0)) := (Below.heap_alloc _ _ _ (by simp <;> omega)).trans ((Below.heap_alloc _ _ _ (by simp)).trans (heap_alloc_new _ _))
  have k1 : (((w.alloc (.cells #[.int .i64 d] 3)).alloc (.cells #[.int .i64 0] 3)).alloc (.cells #[v] 59)).heap[w.heap.size + 1]? = some (.cells #[.int .i64 0] 3 (0, 0)) := (Below.heap_alloc _ _ _ (by simp)).trans (by have := heap_alloc_new (w.alloc (.cells #[.int .i64 d] 3)) (.cells #[.int .i64 0] 3); simpa using this)
  have k2 : (((w.alloc (.cells #[.int .i64 d] 3)).alloc (.cells #[.int .i64 0] 3)).alloc (.cells #[v] 59)).heap[w.heap.size + 1 + 1]? = some (.cells #[v] 59 (0, 0)) := by
    have := heap_alloc_new ((w.alloc (.cells #[.int .i64 d] 3)).alloc (.cells #[.int .i64 0] 3)) (.cells #[v] 59)
    simpa using this
  have hB2 : Below w.heap.size w (((w.alloc (.cells #[.int .i64 d] 3)).alloc (.cells #[.int .i64 0] 3)).alloc (.cells #[v] 59)) := hb0.alloc (by simp <;> omega) _
  have hs2 : (((w.alloc (.cells #[.int .i64 d] 3)).alloc (.cells #[.int .i64 0] 3)).alloc (.cells #[v] 59)).heap.size = w.heap.size + 3 := by simp
  obtain ⟨W2, hW2⟩ : ∃ W2, ((w.alloc (.cells #[.int .i64 d] 3)).alloc (.cells #[.int .i64 0] 3)).alloc (.cells #[v] 59) = W2 := ⟨_, rfl⟩
  rw [hW2] at k0 k1 k2 hB2 hs2 ⊢
  have HS := Lib.hid hs2
  clear hW2 hs2 HA hb0
  have hT2 := h.below hB2
  refine range_seqP (gf := 66) (lb := #[.pointer (some ⟨w.heap.size + 1 + 1, 0, none⟩)]) rfl (enters_of Try.func66 (by kernel_rfl) rfl)
    (rise_seq _ _ v ys W2 k2 hT2.row (by omega)) (fun _ => rfl)
    (fun h k => h.trans k)
    (fun W l o o' hl hlo _ => ⟨by rw [World.putObj_size]; exact Nat.le_refl _, fun g hg => World.putObj_heap_other (by have := hv0 g hg; have := HS.out; omega)⟩)
    (Sh1 w W2.heap.size ys d)
    (Sh1x w W2.heap.size d)
    (fun pre y a' W => ys[pre.length]? = some y ∧ a' = { tmps := #[.pointer (some ⟨T, 0, none⟩), .int .i64 d, undef, .pointer (some ⟨w.heap.size, 0, none⟩), .pointer (some ⟨w.heap.size + 1, 0, none⟩), .int .i64 y.x.id, .pointer (some ⟨y.p, 0, none⟩), undef, undef, undef, undef, .pointer (some ⟨T, 0, none⟩), .func (.func 66) #[] #[.pointer (some ⟨w.heap.size + 1 + 1, 0, none⟩)], .int .i64 y.x.id, .pointer (some ⟨y.p, 0, none⟩), undef, undef, undef, undef, undef, undef, undef, undef, undef, undef, undef, undef, undef, undef, undef, undef, undef, undef, undef, undef, undef, undef, undef, undef, undef, undef, undef, undef], defers := [] })
    (Sh1.grows _ _ _ _) (Sh1.turns (by have := HS.out; omega))
    (by rintro c s A W ⟨hc, ini, y, e1, e2, e3, h1, h2, h3⟩ hg; exact ⟨hc, ini, y, e1, e2, e3, (hg.block _ (Array.getElem?_eq_some_iff.1 h1).1).trans h1, h2.trans (hg.mono h2.size), Nat.le_trans h3 hg.size⟩)
    (by rintro c s A l o o' ⟨hc, ini, y, e1, e2, e3, h1, h2, h3⟩ hl hlo hoc; exact ⟨hc, ini, y, e1, e2, e3, (World.putObj_heap_other (by have := HS.out; omega)).trans h1, h2.trans (below_put A o o' (by have := HS.out; omega) hlo), by rw [World.putObj_size]; exact h3⟩)
    ?tTurn ⟨k0, k1, hB2, Nat.le_refl _, rfl, rfl⟩ ?tAssign ?tBody ?tDone ?tStop
  case tTurn =>
    rintro pre x a' _ A l o o' h hl hlo ho
    exact h
  case tAssign =>
    rintro l pre x W K hI hY hK
    dsimp only [encEt]
    gi_wp2
    exact hK _ _ ⟨Nat.le_refl _, fun _ _ _ h _ => h⟩ (KeepRw20.refl _ _) hI ⟨hY, rfl⟩
  case tBody =>
    rintro l pre y a' W ⟨h1, h2, h3, h4, h5, h6⟩ ⟨hy, rfl⟩ hlen
    obtain ⟨wn, hwn⟩ : ∃ wn, y.x.win = wn := ⟨_, rfl⟩
    obtain ⟨nw, hnw⟩ : ∃ nw, (shiftW wn d).1 = nw := ⟨_, rfl⟩
    obtain ⟨nb, hnb⟩ : ∃ nb, (shiftW wn d).2 = nb := ⟨_, rfl⟩
    have HI := Lib.hid (And.intro h1 (And.intro h2 (And.intro h3 (And.intro h4 (And.intro h5 h6)))))
    have HY := Lib.hid ((h.st y (List.mem_of_getElem? hy)).below h3)
    have HWn := Lib.hid hwn
    have HSh := Lib.hid (show tupW (shiftW wn d) = .tuple #[.int .i64 nw, .bool nb] by rw [← hnw, ← hnb]; rfl)
    have HOk := Lib.hid (show okS d y.x = nb by unfold okS; rw [hwn, hnb])
    have HYs := Lib.hid hy
    have l0 := (Array.getElem?_eq_some_iff.1 h1).1
    clear h1 h2 h3 h4 h5 h6 hwn hnw hnb hy
    gi_wp2
    refine Moved.wpIn_round 9 [16, 17, 18, 19, 20, 21, 15, 22, 23] [[], [(0, 16)], [(1, 17)], [(2, 18)], [], [(3, 19), (4, 20)], [(5, 21)], [(6, 15)], [(6, 15)]] [8]
      (fun i v w' => match i with
        | 0 => v = .pointer (some ⟨y.p, 0, none⟩)
        | 1 => v = .pointer (some ⟨y.p, 0, none⟩)
        | 2 => v = .pointer (some ⟨y.p, 0, none⟩)
        | 3 => v = .int .i64 wn
        | 4 => v = .int .i64 d
        | 5 => v = .tuple #[.int .i64 nw, .bool nb]
        | 6 => v = .tuple #[.int .i64 nw, .bool nb]
        | 7 => v = .int .i64 nw
        | 8 => v = .bool nb
        | _ => True) (by kernel_rfl) (by kernel_rfl) (by kernel_rfl) ?tStab ?tOps ?tLate ?tRest
    case tStab =>
      intro i v w3 w4 h hb
      match i, h with
      | 0, h | 1, h | 2, h | 3, h | 4, h | 5, h | 6, h | 7, h | 8, h => exact h
      | i + 9, _ => trivial
    case tOps =>
      simp only [List.take_succ_cons, List.take_zero, opsOk]
      refine ⟨?_, ?_, ?_, ?_, ?_, ?_, ?_, ?_, ?_, trivial⟩
      · intro ρ w3 hc hf ho hB hj
        have x0 : ρ (.tmp 6) = .pointer (some ⟨y.p, 0, none⟩) := ho 6 (by decide)
        simp [gives, go_sem, x0, Below.refl]
      · intro ρ w3 hc hf ho hB hj
        have x0 : ρ (.tmp 16) = .pointer (some ⟨y.p, 0, none⟩) := hj (0, 16) (by simp)
        simp [gives, go_sem, x0, Below.refl]
      · intro ρ w3 hc hf ho hB hj
        have x0 : ρ (.tmp 17) = .pointer (some ⟨y.p, 0, none⟩) := hj (1, 17) (by simp)
        simp [gives, go_sem, x0, Below.refl]
      · intro ρ w3 hc hf ho hB hj
        have x0 : ρ (.tmp 18) = .pointer (some ⟨y.p, 0, none⟩) := hj (2, 18) (by simp)
        have f0 := (HY.out.below hB).blk.cells.1
        rw [HWn.out] at f0
        simp [gives, go_sem, x0, f0, Below.refl]
      · intro ρ w3 hc hf ho hB hj
        have x0 : ρ (.tmp 3) = .pointer (some ⟨w.heap.size, 0, none⟩) := ho 3 (by decide)
        have cc := blk_cell (j := 0) ((hB.block _ l0).trans HI.out.1) rfl
        simp [gives, go_sem, x0, cc, Below.refl]
      · intro ρ w3 hc hf ho hB hj
        have x0 : ρ (.tmp 19) = .int .i64 wn := hj (3, 19) (by simp)
        have x1 : ρ (.tmp 20) = .int .i64 d := hj (4, 20) (by simp)
        simp [gives, go_sem, x0, x1, hf]
        exact (shift_same wn d w3).mono fun e w' ⟨h1, h2⟩ => ⟨_, h1, by rw [HSh.out], by rw [h2]; exact Below.refl _ _⟩
      · intro ρ w3 hc hf ho hB hj
        have x0 : ρ (.tmp 21) = .tuple #[.int .i64 nw, .bool nb] := hj (5, 21) (by simp)
        simp [gives, go_sem, x0, Below.refl]
      · intro ρ w3 hc hf ho hB hj
        have x0 : ρ (.tmp 15) = .tuple #[.int .i64 nw, .bool nb] := hj (6, 15) (by simp)
        simp [gives, go_sem, x0, Below.refl]
      · intro ρ w3 hc hf ho hB hj
        have x0 : ρ (.tmp 15) = .tuple #[.int .i64 nw, .bool nb] := hj (6, 15) (by simp)
        simp [gives, go_sem, x0, Below.refl]
    case tLate =>
      intro i hi _ o ho
      obtain rfl := List.mem_singleton.1 hi
      obtain rfl := Option.some.inj ho
      intro ρ w3 hc ho _ hj
      have x0 : ρ (.tmp 15) = .tuple #[.int .i64 nw, .bool nb] := hj (6, 15) (by simp)
      exact ⟨_, fun w' => by simp [go_sem, x0], rfl⟩
    case tRest =>
      intro X w3 hBw hX
      have x0 : X 0 = .pointer (some ⟨y.p, 0, none⟩) := hX 0 (by decide)
      have x1 : X 1 = .pointer (some ⟨y.p, 0, none⟩) := hX 1 (by decide)
      have x2 : X 2 = .pointer (some ⟨y.p, 0, none⟩) := hX 2 (by decide)
      have x3 : X 3 = .int .i64 wn := hX 3 (by decide)
      have x4 : X 4 = .int .i64 d := hX 4 (by decide)
      have x5 : X 5 = .tuple #[.int .i64 nw, .bool nb] := hX 5 (by decide)
      have x6 : X 6 = .tuple #[.int .i64 nw, .bool nb] := hX 6 (by decide)
      have x7 : X 7 = .int .i64 nw := hX 7 (by decide)
      have x8 : X 8 = .bool nb := hX 8 (by decide)
      simp only [putAll, List.getD_cons_zero, List.getD_cons_succ, Act.put, List.setIfInBounds_toArray, List.set_cons_zero, List.set_cons_succ, List.drop_succ_cons, List.drop_zero]
      rw [x0, x1, x2, x3, x4, x5, x6, x7, x8]
      have HB3 := Lib.hid hBw
      have k1 := (hBw.block _ (Array.getElem?_eq_some_iff.1 HI.out.2.1).1).trans HI.out.2.1
      have e1 := blk_cell (j := 0) k1 rfl
      have f1 := blk_free (j := 0) k1
      have m1 := (Array.getElem?_eq_some_iff.1 k1).1
      have HK := Lib.hid k1
      clear hX hBw k1 x0 x1 x2 x3 x4 x5 x6 x7 x8
      go_wp2
      refine Moved.Only.intro ?_
      cases nb with
      | true =>
        gi_wp2
        obtain ⟨h1, h2, h3, h4, h5, h6⟩ := HI.out
        have hb3 := HB3.out
        have hpl : pre ++ [y] = ys.take (pre ++ [y]).length := by
          rw [List.length_append, List.length_singleton, List.take_add_one, HYs.out, ← h5]; rfl
        exact ⟨(others_below hb3).from _, ⟨hb3.size, fun g hg => hb3.block g (by have := hv0 g hg; have := h3.size; omega)⟩, (hb3.block _ (Array.getElem?_eq_some_iff.1 h1).1).trans h1, HK.out, h3.trans (hb3.mono h3.size), Nat.le_trans h4 hb3.size, hpl, by rw [List.map_append, List.all_append, h6]; simp [HOk.out]⟩
      | false =>
        gi_wp2
        obtain ⟨h1, h2, h3, h4, h5, h6⟩ := HI.out
        have hb3 := HB3.out
        refine ⟨((others_below hb3).trans (KeepsOthers.setCell _ _ _)).from _, rfl, pre, y, rfl, h6, HOk.out, ?_, (h3.trans (hb3.mono h3.size)).setCell (p := ⟨w.heap.size + 1, 0, none⟩) (by show w.heap.size ≤ w.heap.size + 1; omega) _, by have := hb3.size; simp [World.setCell]; omega⟩
        have := heap_setCell_same w3 (w.heap.size + 1) 0 _ _ (.int .i64 y.x.id) HK.out
        simpa using this
  case tDone =>
    rintro D xs W hD hcame hI hDk
    obtain rfl : xs = ys := hcame
    obtain ⟨h1, h2, h3, h4, h5, h6⟩ := hI
    have hall : q.l.all (okS d) = true := by rw [h.e]; exact h6
    have HAll := Lib.hid hall
    have HDl := Lib.hid (show w.heap.size + 3 ≤ D by have := HS.out; omega)
    have hW := h.below h3
    have HA := Lib.hid (all20_any T v xs q W hW)
    have HW := Lib.hid (And.intro h1 (And.intro h2 (And.intro h3 (And.intro hDk hW))))
    clear h1 h2 h3 h4 h5 h6 hall hDk hW k0 k1 k2
    gi_wp2
    go_wp2_with (go_at_call 37; refine HA.out.mono ?_; rintro e w' ⟨rfl, rfl⟩)
    refine (wpIn_wide (n := 4)).1 ?_
    gi_wp2
    obtain ⟨h1, h2, h3, hDk, hW⟩ := HW.out
    have hb3 : Below W.heap.size W (W.alloc (.cells #[v] 59)) := (Below.refl _ _).alloc (Nat.le_refl _) _
    have k3 := heap_alloc_new W (.cells #[v] 59)
    obtain ⟨X, hX⟩ : ∃ X, W.heap.size = X := ⟨_, rfl⟩
    have hs3 : (W.alloc (.cells #[v] 59)).heap.size = X + 1 := by simp [hX]
    rw [hX] at k3 ⊢
    obtain ⟨W3, hW3⟩ : ∃ W3, W.alloc (.cells #[v] 59) = W3 := ⟨_, rfl⟩
    rw [hW3] at hb3 k3 hs3 ⊢
    have hDl2 : D < X := by have := (Array.getElem?_eq_some_iff.1 hDk).1; omega
    have HS3 := Lib.hid (And.intro hs3 hDl2)
    have hT3 := hW.below hb3
    have l0 := (Array.getElem?_eq_some_iff.1 h1).1
    have l1 := (Array.getElem?_eq_some_iff.1 h2).1
    have hq0 : ({ q with l := (midE d xs ([] : List Et).length).map (·.x) } : Sd) = q := by rw [List.length_nil, midE_zero, ← h.e]
    have hJ0 : Sh2 w W3.heap.size D T v xs q d [] W3 := ⟨(hb3.block _ l0).trans h1, (hb3.block _ l1).trans h2, (hb3.block _ (by omega)).trans hDk, (Turn.of_below h3).trans (Turn.of_below hb3), Nat.le_refl _, rfl, by rw [hq0, List.length_nil, midE_zero]; exact hT3⟩
    have hlow : ∀ g, SnB T v xs g → g < w.heap.size := fun g hg => h.lt20 hg
    have HL := Lib.hid hlow
    clear h1 h2 h3 hDk hb3 hW hW3 hs3 hq0 hX
    refine range_seqP (gf := 66) (lb := #[.pointer (some ⟨X, 0, none⟩)]) rfl (enters_of Try.func66 (by kernel_rfl) rfl)
      (rise_seq _ _ v xs W3 k3 hT3.row (by omega)) (fun _ => rfl)
      (fun h k => h.trans k)
      (fun W l o o' hl hlo _ => ⟨by rw [World.putObj_size]; exact Nat.le_refl _, fun g hg => World.putObj_heap_other (by have := hv0 g hg; have := HS3.out; have := HDl.out; omega)⟩)
      (Sh2 w W3.heap.size D T v xs q d)
      (fun _ _ _ => False)
      (fun pre y a' W => xs[pre.length]? = some y ∧ a' = { tmps := #[.pointer (some ⟨T, 0, none⟩), .int .i64 d, undef, .pointer (some ⟨w.heap.size, 0, none⟩), .pointer (some ⟨w.heap.size + 1, 0, none⟩), undef, undef, undef, undef, undef, .pointer (some ⟨y.p, 0, none⟩), .pointer (some ⟨T, 0, none⟩), .func (.func 66) #[] #[.pointer (some ⟨w.heap.size + 1 + 1, 0, none⟩)], undef, undef, undef, undef, undef, undef, undef, undef, undef, undef, undef, undef, undef, undef, .pointer (some ⟨T, 0, none⟩), .func (.func 66) #[] #[.pointer (some ⟨X, 0, none⟩)], .int .i64 y.x.id, .pointer (some ⟨y.p, 0, none⟩), undef, undef, undef, undef, undef, undef, undef, undef, undef, undef, undef, undef], defers := [] })
      (Sh2.grows _ _ _ _ _ _ _ _) (Sh2.turns (by have := HS3.out; have := HDl.out; omega) (by have := HS3.out; omega) hlow)
      (by rintro c s A W h; exact h.elim)
      (by rintro c s A l o o' h; exact h.elim)
      ?tTurn2 hJ0 ?tAssign2 ?tBody2 ?tDone2 ?tStop2
    case tTurn2 =>
      rintro pre x a' _ A l o o' h hl hlo ho
      exact h
    case tAssign2 =>
      rintro l pre x W K hI hY hK
      dsimp only [encEt]
      gi_wp2
      exact hK _ _ ⟨Nat.le_refl _, fun _ _ _ h _ => h⟩ (KeepRw20.refl _ _) hI ⟨hY, rfl⟩
    case tBody2 =>
      rintro l pre y a' W ⟨h1, h2, h3, h4, h5, h6, h7⟩ ⟨hy, rfl⟩ hlen
      obtain ⟨wn, hwn⟩ : ∃ wn, y.x.win = wn := ⟨_, rfl⟩
      obtain ⟨nw, hnw⟩ : ∃ nw, (shiftW wn d).1 = nw := ⟨_, rfl⟩
      obtain ⟨nb, hnb⟩ : ∃ nb, (shiftW wn d).2 = nb := ⟨_, rfl⟩
      have HI := Lib.hid (And.intro h1 (And.intro h2 (And.intro h3 (And.intro h4 (And.intro h5 (And.intro h6 h7))))))
      have hyk := midE_at (d := d) hy
      have HY := Lib.hid (h7.st y (List.mem_of_getElem? hyk))
      have HWn := Lib.hid hwn
      have HSh := Lib.hid (show tupW (shiftW wn d) = .tuple #[.int .i64 nw, .bool nb] by rw [← hnw, ← hnb]; rfl)
      have HMv := Lib.hid (show movS d y.x = { y.x with win := nw } by unfold movS; rw [hwn, hnw])
      have HYs := Lib.hid (And.intro hy hyk)
      have l0 := (Array.getElem?_eq_some_iff.1 h1).1
      clear h1 h2 h3 h4 h5 h6 h7 hwn hnw hnb hy hyk
      gi_wp2
      refine Moved.wpIn_round 10 [32, 33, 34, 35, 36, 37, 38, 31, 39, 40] [[], [], [(1, 33)], [(2, 34)], [(3, 35)], [], [(4, 36), (5, 37)], [(6, 38)], [(7, 31)], [(7, 31)]] [9]
        (fun i v w' => match i with
          | 0 => v = .pointer (some ⟨y.p, 0, none⟩)
          | 1 => v = .pointer (some ⟨y.p, 0, none⟩)
          | 2 => v = .pointer (some ⟨y.p, 0, none⟩)
          | 3 => v = .pointer (some ⟨y.p, 0, none⟩)
          | 4 => v = .int .i64 wn
          | 5 => v = .int .i64 d
          | 6 => v = .tuple #[.int .i64 nw, .bool nb]
          | 7 => v = .tuple #[.int .i64 nw, .bool nb]
          | 8 => v = .int .i64 nw
          | 9 => v = .bool nb
          | _ => True) (by kernel_rfl) (by kernel_rfl) (by kernel_rfl) ?tStab ?tOps ?tLate ?tRest
      case tStab =>
        intro i v w3 w4 h hb
        match i, h with
        | 0, h | 1, h | 2, h | 3, h | 4, h | 5, h | 6, h | 7, h | 8, h | 9, h => exact h
        | i + 10, _ => trivial
      case tOps =>
        simp only [List.take_succ_cons, List.take_zero, opsOk]
        refine ⟨?_, ?_, ?_, ?_, ?_, ?_, ?_, ?_, ?_, ?_, trivial⟩
        · intro ρ w3 hc hf ho hB hj
          have x0 : ρ (.tmp 10) = .pointer (some ⟨y.p, 0, none⟩) := ho 10 (by decide)
          simp [gives, go_sem, x0, Below.refl]
        · intro ρ w3 hc hf ho hB hj
          have x0 : ρ (.tmp 10) = .pointer (some ⟨y.p, 0, none⟩) := ho 10 (by decide)
          simp [gives, go_sem, x0, Below.refl]
        · intro ρ w3 hc hf ho hB hj
          have x0 : ρ (.tmp 33) = .pointer (some ⟨y.p, 0, none⟩) := hj (1, 33) (by simp)
          simp [gives, go_sem, x0, Below.refl]
        · intro ρ w3 hc hf ho hB hj
          have x0 : ρ (.tmp 34) = .pointer (some ⟨y.p, 0, none⟩) := hj (2, 34) (by simp)
          simp [gives, go_sem, x0, Below.refl]
        · intro ρ w3 hc hf ho hB hj
          have x0 : ρ (.tmp 35) = .pointer (some ⟨y.p, 0, none⟩) := hj (3, 35) (by simp)
          have f0 := (HY.out.below hB).blk.cells.1
          rw [HWn.out] at f0
          simp [gives, go_sem, x0, f0, Below.refl]
        · intro ρ w3 hc hf ho hB hj
          have x0 : ρ (.tmp 3) = .pointer (some ⟨w.heap.size, 0, none⟩) := ho 3 (by decide)
          have cc := blk_cell (j := 0) ((hB.block _ l0).trans HI.out.1) rfl
          simp [gives, go_sem, x0, cc, Below.refl]
        · intro ρ w3 hc hf ho hB hj
          have x0 : ρ (.tmp 36) = .int .i64 wn := hj (4, 36) (by simp)
          have x1 : ρ (.tmp 37) = .int .i64 d := hj (5, 37) (by simp)
          simp [gives, go_sem, x0, x1, hf]
          exact (shift_same wn d w3).mono fun e w' ⟨h1, h2⟩ => ⟨_, h1, by rw [HSh.out], by rw [h2]; exact Below.refl _ _⟩
        · intro ρ w3 hc hf ho hB hj
          have x0 : ρ (.tmp 38) = .tuple #[.int .i64 nw, .bool nb] := hj (6, 38) (by simp)
          simp [gives, go_sem, x0, Below.refl]
        · intro ρ w3 hc hf ho hB hj
          have x0 : ρ (.tmp 31) = .tuple #[.int .i64 nw, .bool nb] := hj (7, 31) (by simp)
          simp [gives, go_sem, x0, Below.refl]
        · intro ρ w3 hc hf ho hB hj
          have x0 : ρ (.tmp 31) = .tuple #[.int .i64 nw, .bool nb] := hj (7, 31) (by simp)
          simp [gives, go_sem, x0, Below.refl]
      case tLate =>
        intro i hi _ o ho
        obtain rfl := List.mem_singleton.1 hi
        obtain rfl := Option.some.inj ho
        intro ρ w3 hc ho _ hj
        have x0 : ρ (.tmp 31) = .tuple #[.int .i64 nw, .bool nb] := hj (7, 31) (by simp)
        exact ⟨_, fun w' => by simp [go_sem, x0], rfl⟩
      case tRest =>
        intro X w3 hBw hX
        have x0 : X 0 = .pointer (some ⟨y.p, 0, none⟩) := hX 0 (by decide)
        have x1 : X 1 = .pointer (some ⟨y.p, 0, none⟩) := hX 1 (by decide)
        have x2 : X 2 = .pointer (some ⟨y.p, 0, none⟩) := hX 2 (by decide)
        have x3 : X 3 = .pointer (some ⟨y.p, 0, none⟩) := hX 3 (by decide)
        have x4 : X 4 = .int .i64 wn := hX 4 (by decide)
        have x5 : X 5 = .int .i64 d := hX 5 (by decide)
        have x6 : X 6 = .tuple #[.int .i64 nw, .bool nb] := hX 6 (by decide)
        have x7 : X 7 = .tuple #[.int .i64 nw, .bool nb] := hX 7 (by decide)
        have x8 : X 8 = .int .i64 nw := hX 8 (by decide)
        have x9 : X 9 = .bool nb := hX 9 (by decide)
        simp only [putAll, List.getD_cons_zero, List.getD_cons_succ, Act.put, List.setIfInBounds_toArray, List.set_cons_zero, List.set_cons_succ, List.drop_succ_cons, List.drop_zero]
        rw [x0, x1, x2, x3, x4, x5, x6, x7, x8, x9]
        have HB3 := Lib.hid hBw
        have HY3 := Lib.hid (HY.out.below hBw)
        have e0 := HY3.out.blk.cells.1
        rw [HWn.out] at e0
        have f0 := HY3.out.blk.free 0
        have m0 := HY3.out.blk.lt
        clear hX hBw x0 x1 x2 x3 x4 x5 x6 x7 x8 x9
        go_wp2
        refine Moved.Only.intro ?_
        obtain ⟨h1, h2, h3, h4, h5, h6, h7⟩ := HI.out
        have hb3 := HB3.out
        have hpl : pre ++ [y] = xs.take (pre ++ [y]).length := by
          rw [List.length_append, List.length_singleton, List.take_add_one, HYs.out.1, ← h6]; rfl
        have hym := List.mem_of_getElem? HYs.out.1
        have hs := (StStep.refl (W := w3) HY3.out (Below.refl _ _)).setN (y' := mvE d y) 0 (.int .i64 nw) (by unfold etCells mvE; rw [HMv.out]; rfl) rfl rfl ⟨rfl, rfl, rfl, rfl, rfl, rfl⟩
        have hq := (h7.below hb3).step HYs.out.2 hs (by unfold mvE movS; exact shiftW_win d (h.wr y hym))
        rw [midE_next HYs.out.1] at hq
        have hpy := hlow y.p (.inr (.inr ⟨y, hym, .inl (.inl rfl)⟩))
        have ht := turn_set19 (W := w3) y.p 0 (.int .i64 nw)
        have hlp : (pre ++ [y]).length = pre.length + 1 := by rw [List.length_append, List.length_singleton]
        have hD3 := HS3.out.2
        have hD4 := HDl.out
        have hml : ({ q with l := (midE d xs (pre.length + 1)).map (·.x) } : Sd) = { ({ q with l := (midE d xs pre.length).map (·.x) } : Sd) with l := ((midE d xs pre.length).map (·.x)).set pre.length (mvE d y).x } := by
          rw [← midE_next HYs.out.1, List.map_set]
        have HE := Lib.hid (show Sh2 w W3.heap.size D T v xs q d (pre ++ [y]) (w3.setCell ⟨y.p, 0, none⟩ (.int .i64 nw)) from
          ⟨(Below.heap_setCell _ _ _ _ (by show w.heap.size ≠ y.p; omega)).trans ((hb3.block _ (Array.getElem?_eq_some_iff.1 h1).1).trans h1), (Below.heap_setCell _ _ _ _ (by show w.heap.size + 1 ≠ y.p; omega)).trans ((hb3.block _ (Array.getElem?_eq_some_iff.1 h2).1).trans h2), (Below.heap_setCell _ _ _ _ (by show D ≠ y.p; omega)).trans ((hb3.block _ (Array.getElem?_eq_some_iff.1 h3).1).trans h3), (h4.trans (Turn.of_below hb3)).trans' ht (fun k _ hk => ⟨y, hym, hk⟩), Nat.le_trans h5 (Nat.le_trans hb3.size ht.size), hpl, by rw [hlp, hml]; exact hq⟩)
        refine ⟨((others_below hb3).trans (KeepsOthers.setCell _ _ _)).from _, ⟨Nat.le_trans hb3.size ht.size, fun g hg => (Below.heap_setCell _ _ _ _ (fun e => ?_)).trans (hb3.block g (h7.row.lt g hg).2)⟩, HE.out⟩
        exact (h.ns y hym y.p (.inl (.inl rfl))).2 (by rw [hg]; exact congrArg some e)
    case tDone2 =>
      rintro D2 zs W hD2 hcame ⟨h1, h2, h3, h4, h5, h6, h7⟩ hDk
      obtain rfl : zs = xs := hcame
      have e1 := blk_cell (j := 0) h2 rfl
      have f1 := blk_free (j := 0) h2
      have m1 := (Array.getElem?_eq_some_iff.1 h2).1
      have HI := Lib.hid (And.intro h2 (And.intro h3 (And.intro h4 (And.intro h7 hDk))))
      have HD2 := Lib.hid hD2
      clear h1 h2 h3 h4 h5 h6 h7 hDk
      gi_wp2
      go_wp2_with fail
      obtain ⟨h2, h3, h4, h7, hDk⟩ := HI.out
      have hd1 := HDl.out
      have hd2 := HS3.out
      have hd3 := HD2.out
      have hc : ∀ k, k ≠ w.heap.size + 1 → (W.setCell ⟨w.heap.size + 1, 0, none⟩ (.int .i64 0)).heap[k]? = W.heap[k]? := fun k hk => Below.heap_setCell _ _ _ _ hk
      have hDk1 : (W.setCell ⟨w.heap.size + 1, 0, none⟩ (.int .i64 0)).heap[D2]? = some (.deferred (some [])) := (hc _ (by omega)).trans hDk
      have hDk2 : ∀ o', ((W.setCell ⟨w.heap.size + 1, 0, none⟩ (.int .i64 0)).putObj D2 o').heap[D]? = some (.deferred (some [])) := fun o' => (World.putObj_heap_other (by omega)).trans ((hc _ (by omega)).trans h3)
      refine ⟨by simp, .inl ⟨_, _, rfl, run_takeDeferred hDk1, by simp, .inl ⟨_, _, rfl, run_takeDeferred (hDk2 _), ?_⟩⟩⟩
      refine ⟨_, results_cell20 rfl _ _ (w.heap.size + 1) (.int .i64 0) 3 rfl ((World.putObj_heap_other (by omega)).trans ((World.putObj_heap_other (by omega)).trans (by have := heap_setCell_same W (w.heap.size + 1) 0 _ _ (.int .i64 0) h2; simpa using this))) (fun _ => by kernel_rfl), by rw [(shift_ok HAll.out).1], .inl ⟨HAll.out, ?_⟩⟩
      have ht : ∀ o1 o2, Turn (fun k => k = w.heap.size + 1 ∨ k = D2 ∨ k = D) W (((W.setCell ⟨w.heap.size + 1, 0, none⟩ (.int .i64 0)).putObj D2 o1).putObj D o2) := fun o1 o2 =>
        ⟨rfl, rfl, rfl, by rw [World.putObj_size, World.putObj_size]; simp [World.setCell], fun k _ hk => (World.putObj_heap_other (fun e => hk (.inr (.inr (by first | exact e | exact e.symm))))).trans ((World.putObj_heap_other (fun e => hk (.inr (.inl (by first | exact e | exact e.symm))))).trans (hc k (fun e => hk (.inl e))))⟩
      have hne : ∀ g, g < w.heap.size → ¬ (g = w.heap.size + 1 ∨ g = D2 ∨ g = D) := fun g hg => by omega
      have h8 := fun o1 o2 => h7.turn (ht o1 o2) (hne T (hlow T (.inl rfl))) (fun g hg => hne g (hlow g (.inr (.inl hg)))) (fun z hz g hg => hne g (hlow g (midE_blk (.inr (.inr ⟨z, hz, hg⟩)))))
      rw [midE_all] at h8
      exact ⟨h8 _ _, h4.trans' (ht _ _) (fun k hk e => absurd e (hne k hk))⟩
    case tStop2 =>
      rintro D2 c pre W hD2 hcame h
      exact h.elim
  case tStop =>
    rintro D c pre W hD hcame ⟨rfl, ini, y, rfl, hok, hno, h1, h2, h3⟩ hDk
    obtain ⟨m, hm, hpre⟩ := hcame
    obtain ⟨z, hz⟩ : ∃ z, ys[m]? = some z := ⟨_, List.getElem?_eq_getElem hm⟩
    rw [List.take_add_one, hz] at hpre
    obtain ⟨rfl, hyz⟩ := List.append_inj' hpre rfl
    obtain rfl : y = z := by simpa using hyz
    have hx : q.l[m]? = some y.x := by rw [h.e, List.getElem?_map, hz]; rfl
    have hok' : (q.l.take m).all (okS d) = true := by rw [h.e, ← List.map_take]; exact hok
    have HB := Lib.hid (shift_bad hok' hx hno)
    have HN := Lib.hid (show q.l.all (okS d) = false by
      cases e : q.l.all (okS d) with
      | false => rfl
      | true => rw [List.all_eq_true.1 e y.x (List.mem_of_getElem? hx)] at hno; cases hno)
    gi_wp2
    have hs := HS.out
    refine ⟨by simp, .inl ⟨_, _, rfl, run_takeDeferred hDk, ?_⟩⟩
    exact ⟨_, results_cell20 rfl _ _ (w.heap.size + 1) (.int .i64 y.x.id) 3 rfl ((World.putObj_heap_other (by omega)).trans h1) (fun _ => by kernel_rfl), by rw [HB.out.1], .inr ⟨HN.out, h2.trans (below_put _ _ _ (by omega) hDk)⟩⟩
end Go.Proofs.Ytnoegbdmjinfjaa

/-
  Layer 20's program: Next (written by wip/tools/gen20t.py).
-/
namespace Go.Proofs.Ytnoegbdmjinfjaa
set_option maxRecDepth 20000
open Go.RowKit Go.Shelf
attribute [local go_sem] Oper.semAt_some

theorem frN_take (x : Sm) (room most : Int) : frN x room most = (takeN (roomW room [most, x.win]) x.b.length : Nat) := by
  have e1 : frN x room most = max (min (min (min (x.b.length : Int) room) most) x.win) 0 := rfl
  have e2 : roomW room [most, x.win] = max (min (min room most) x.win) 0 := rfl
  rw [e1]
  unfold takeN
  rw [e2]
  by_cases h : (x.b.length : Int) ≤ max (min (min room most) x.win) 0
  · rw [if_pos h]; omega
  · rw [if_neg h]; omega
theorem room_nonneg (n : Int) (l : List Int) : 0 ≤ roomW n l := by unfold roomW; omega
/-- a stream whose head doesn't wait, and that has a frame: it is data's -/
theorem data_frame {x : Sm} {room most rn : Int} (hr : roomW room [most, x.win] = rn) (hw : x.waits = false) (hwin : winB x.win = true) (hd : (0 < rn ∧ 0 < x.b.length) ∨ endB x = true) :
    frO x room most = true ∧ frX x room most = dataX x rn ∧ frF x room most = ⟨0, if endB (dataX x rn) = true then 1 else 0, x.id, x.b.take (takeN rn x.b.length)⟩ := by
  have hN := frN_take x room most
  rw [hr] at hN
  have h0 := room_nonneg room [most, x.win]
  rw [hr] at h0
  by_cases hb : x.b = []
  · have he : x.fin = true := by
      rcases hd with hd | hd
      · rw [hb] at hd; simp at hd
      · unfold endB at hd; simp at hd; exact hd.1
    have ht : takeN rn x.b.length = 0 := by rw [hb]; unfold takeN; split <;> simp at *; omega
    have htw : (takeW x.win (0 : Nat)).1 = x.win := by unfold takeW; split <;> simp
    have hx : dataX x rn = x := by
      unfold dataX
      rw [ht, htw, List.drop_zero]
    refine ⟨?_, ?_, ?_⟩
    · unfold frO; rw [if_neg (by rw [hw]; decide), if_pos hb, he]
    · unfold frX; rw [if_neg (by rw [hw]; decide), if_pos hb, hx]
    · unfold frF; rw [if_neg (by rw [hw]; decide), if_pos hb, hx, ht, List.take_zero]
      have : endB x = true := by unfold endB; rw [he, hb]; rfl
      rw [if_pos this]
  · have hl : 0 < x.b.length := List.length_pos_iff.2 hb
    have hrn : 0 < rn := by
      rcases hd with hd | hd
      · exact hd.1
      · unfold endB at hd; simp at hd; exact absurd hd.2 hb
    have htp : 0 < takeN rn x.b.length := by unfold takeN; split <;> omega
    have hne : frN x room most ≠ 0 := by rw [hN]; omega
    have hrg := (frN_rng x room most).2.2 hne
    have hle := (frN_rng x room most).2.1
    refine ⟨?_, ?_, ?_⟩
    · unfold frO; rw [if_neg (by rw [hw]; decide), if_neg hb]; simp [hne]
    · unfold frX dataX; rw [if_neg (by rw [hw]; decide), if_neg hb, if_neg hne, hN]
      rw [hN] at hrg
      have htw : (takeW x.win (takeN rn x.b.length : Nat)).1 = x.win - (takeN rn x.b.length : Nat) := by unfold takeW; rw [if_pos ⟨hwin, by omega, hrg.1⟩]
      rw [htw, Int.toNat_natCast]
    · unfold frF; rw [if_neg (by rw [hw]; decide), if_neg hb, if_neg hne]
      have hend : (frN x room most = x.b.length ∧ x.fin = true) ↔ endB (dataX x rn) = true := by
        unfold endB dataX
        simp only [Bool.and_eq_true, decide_eq_true_eq, List.length_drop]
        exact ⟨fun ⟨h1, h2⟩ => ⟨h2, by omega⟩, fun ⟨h1, h2⟩ => ⟨by omega, h1⟩⟩
      by_cases h1 : frN x room most = x.b.length ∧ x.fin = true
      · rw [if_pos h1, if_pos (hend.1 h1), hN]; rfl
      · rw [if_neg h1, if_neg (fun e => h1 (hend.2 e)), hN]; rfl
/-- one without a frame -/
theorem no_frame {x : Sm} {room most rn : Int} (hr : roomW room [most, x.win] = rn) (hw : x.waits = false) (h1 : ¬ (0 < rn ∧ 0 < x.b.length)) (h2 : endB x = false) : frO x room most = false := by
  have hN := frN_take x room most
  rw [hr] at hN
  have h0 := room_nonneg room [most, x.win]
  rw [hr] at h0
  unfold frO
  rw [if_neg (by rw [hw]; decide)]
  by_cases hb : x.b = []
  · rw [if_pos hb]
    unfold endB at h2
    rw [hb] at h2
    simpa using h2
  · rw [if_neg hb]
    have hl : 0 < x.b.length := List.length_pos_iff.2 hb
    have : takeN rn x.b.length = 0 := by unfold takeN; split <;> omega
    simp [hN, this]
/-- no stream of those that have come has a frame -/
def Nx1 (w : World) (base : Nat) (ys : List Et) (room most : Int) (pre : List Et) (W : World) : Prop :=
  W.heap[w.heap.size]? = some (.cells #[.int .i64 room] 3 (0, 0)) ∧ W.heap[w.heap.size + 1]? = some (.cells #[.int .i64 most] 3 (0, 0)) ∧ W.heap[w.heap.size + 1 + 1]? = some (.cells #[.int .i64 0, .int .i64 0, .int .i64 0, .slice none 0 0] 34 (0, 0)) ∧ W.heap[w.heap.size + 1 + 1 + 1]? = some (.cells #[.int .i64 0, .int .i64 0, .int .i64 0, .slice none 0 0] 34 (0, 0)) ∧
    Below w.heap.size w W ∧ base ≤ W.heap.size ∧ pre = ys.take pre.length ∧ (pre.map (·.x)).any (hasF room most) = false
theorem Nx1.grows (w : World) (base : Nat) (ys : List Et) (room most : Int) : Grows (Nx1 w base ys room most) := by
  rintro s A W ⟨h1, h2, h3, h4, h5, h6, h7, h8⟩ hg
  exact ⟨(hg.block _ (Array.getElem?_eq_some_iff.1 h1).1).trans h1, (hg.block _ (Array.getElem?_eq_some_iff.1 h2).1).trans h2, (hg.block _ (Array.getElem?_eq_some_iff.1 h3).1).trans h3, (hg.block _ (Array.getElem?_eq_some_iff.1 h4).1).trans h4, h5.trans (hg.mono h5.size), Nat.le_trans h6 hg.size, h7, h8⟩
theorem Nx1.turns {w : World} {base : Nat} {ys : List Et} {room most : Int} (hS : w.heap.size + 3 < base) : Turns base (Nx1 w base ys room most) := by
  rintro s A l o o' ⟨h1, h2, h3, h4, h5, h6, h7, h8⟩ hl hlo hoc
  exact ⟨(World.putObj_heap_other (by omega)).trans h1, (World.putObj_heap_other (by omega)).trans h2, (World.putObj_heap_other (by omega)).trans h3, (World.putObj_heap_other (by omega)).trans h4, h5.trans (below_put A o o' (by omega) hlo), by rw [World.putObj_size]; exact h6, h7, h8⟩
/-- a slice that is not empty lies in cells -/
theorem Sl.put20 {k : IntKind} {W : World} {v : Value} {zs : List Int} {l : Nat} {o o' : Obj} (h : Sl k W v zs) (hlo : W.heap[l]? = some o) (hoc : o.isCells = false) : Sl k (W.putObj l o') v zs := by
  have ht : Turn (fun k => k = l) W (W.putObj l o') := ⟨rfl, rfl, rfl, by rw [World.putObj_size]; exact Nat.le_refl _, fun k _ hk => World.putObj_heap_other (fun e => hk (show k = l from by first | exact e | exact e.symm))⟩
  refine h.turn0 ht (fun hne g hg e => ?_)
  have e' : g = l := e
  subst e'
  rcases h.parts with ⟨rfl, _⟩ | ⟨_, b, off, cap, rfl, _, _, _, hc⟩
  · exact hne rfl
  · cases hg
    have := hc 0 (List.length_pos_iff.2 hne)
    simp only [World.cell?, hlo] at this
    cases o <;> first | (simp at this; done) | (cases hoc)
/-- a stream has had one -/
def Nx1x (w : World) (base T : Nat) (v : Value) (ys : List Et) (q : Sd) (room most : Int) (c : Code) (_ : List Et) (W : World) : Prop :=
  c = .exit 0 ∧ ∃ (k : Nat) (y y' : Et) (pa : Option Addr) (pc : Nat), ys[k]? = some y ∧ (q.l.take k).any (hasF room most) = false ∧ frO y.x room most = true ∧ y'.x = frX y.x room most ∧ SnO W T v (ys.set k y') { q with l := q.l.set k y'.x } ∧
    W.heap[w.heap.size + 1 + 1]? = some (.cells #[.int .i64 0, .int .i64 0, .int .i64 0, .slice none 0 0] 34 (0, 0)) ∧ W.heap[w.heap.size + 1 + 1 + 1]? = some (.cells #[.int .i64 (frF y.x room most).kind, .int .i64 (frF y.x room most).flags, .int .i64 (frF y.x room most).stream, .slice pa (frF y.x room most).pay.length pc] 34 (0, 0)) ∧
    Sl .u8 W (.slice pa (frF y.x room most).pay.length pc) (frF y.x room most).pay ∧ ((frF y.x room most).pay ≠ [] → ∀ g, (Value.slice pa (frF y.x room most).pay.length pc).ownBlock = some g → EtB y g ∨ base ≤ g) ∧ Turn (EtT y) w W ∧ (∀ g, EtB y' g → EtB y g ∨ base ≤ g) ∧ base ≤ W.heap.size
theorem Nx1x.grows (w : World) (base T : Nat) (v : Value) (ys : List Et) (q : Sd) (room most : Int) (c : Code) : Grows (Nx1x w base T v ys q room most c) := by
  rintro s A W ⟨hc, k, y, y', pa, pc, h1, h2, h3, h4, h5, h6, h7, h8, h9, h10, h11, h12⟩ hg
  exact ⟨hc, k, y, y', pa, pc, h1, h2, h3, h4, h5.below hg, (hg.block _ (Array.getElem?_eq_some_iff.1 h6).1).trans h6, (hg.block _ (Array.getElem?_eq_some_iff.1 h7).1).trans h7, h8.below hg, h9, h10.trans (Turn.of_below hg), h11, Nat.le_trans h12 hg.size⟩
theorem StO.put20 {W : World} {y : Et} {l : Nat} {o o' : Obj} (h : StO W y) (hlo : W.heap[l]? = some o) (hoc : o.isCells = false) : StO (W.putObj l o') y := by
  have ht : Turn (fun k => k = l) W (W.putObj l o') := ⟨rfl, rfl, rfl, by rw [World.putObj_size]; exact Nat.le_refl _, fun k _ hk => World.putObj_heap_other (fun e => hk (show k = l from by first | exact e | exact e.symm))⟩
  refine ⟨ht.obj h.blk (fun e => ?_), h.hd.put20 hlo hoc, owned_turn h.own ht (fun g hg e => ?_), h.sl.put20 hlo hoc, h.b, h.le, h.nc, h.nh⟩
  · have hb := h.blk
    unfold EtBlk at hb
    rw [show y.p = l from e, hlo] at hb
    cases hb; cases hoc
  · have e' : g = l := e
    subst e'
    obtain ⟨_, ⟨hv, _⟩ | ⟨g', cap, cur, hv, _, hh, _⟩⟩ := id h.own
    · rw [hv] at hg; cases hg
    · rw [hv] at hg; cases hg
      rw [hlo] at hh; cases hh; cases hoc
theorem SnO.put20 {W : World} {T : Nat} {v : Value} {ys : List Et} {q : Sd} {l : Nat} {o o' : Obj} (h : SnO W T v ys q) (hlo : W.heap[l]? = some o) (hoc : o.isCells = false) : SnO (W.putObj l o') T v ys q := by
  have ht : Turn (fun k => k = l) W (W.putObj l o') := ⟨rfl, rfl, rfl, by rw [World.putObj_size]; exact Nat.le_refl _, fun k _ hk => World.putObj_heap_other (fun e => hk (show k = l from by first | exact e | exact e.symm))⟩
  refine ⟨ht.obj h.blk (fun e => ?_), owned_turn h.row ht (fun g hg e => ?_), fun y hy => (h.st y hy).put20 hlo hoc, h.e, h.rise, h.ids, h.nv, h.ns, h.np, h.wr⟩
  · have hb := h.blk
    rw [show T = l from e, hlo] at hb
    cases hb; cases hoc
  · have e' : g = l := e
    subst e'
    obtain ⟨_, ⟨hv, _⟩ | ⟨g', cap, cur, hv, _, hh, _⟩⟩ := id h.row
    · rw [hv] at hg; cases hg
    · rw [hv] at hg; cases hg
      rw [hlo] at hh; cases hh; cases hoc
theorem Nx1x.turns {w : World} {base T : Nat} {v : Value} {ys : List Et} {q : Sd} {room most : Int} (hS : w.heap.size + 3 < base) (c : Code) : Turns base (Nx1x w base T v ys q room most c) := by
  rintro s A l o o' ⟨hc, k, y, y', pa, pc, h1, h2, h3, h4, h5, h6, h7, h8, h9, h10, h11, h12⟩ hl hlo hoc
  have ht : Turn (fun k => k = l) A (A.putObj l o') := ⟨rfl, rfl, rfl, by rw [World.putObj_size]; exact Nat.le_refl _, fun k _ hk => World.putObj_heap_other (fun e => hk (show k = l from by first | exact e | exact e.symm))⟩
  exact ⟨hc, k, y, y', pa, pc, h1, h2, h3, h4, h5.put20 hlo hoc, (World.putObj_heap_other (by omega)).trans h6, (World.putObj_heap_other (by omega)).trans h7, h8.put20 hlo hoc, h9, h10.trans' ht (fun k hk e => by have e' : k = l := e; omega), h11, by rw [World.putObj_size]; exact h12⟩
theorem frame_set20 {w : World} {F : Nat} {x0 x1 x2 x3 : Value} {t : TypeId} (a b c d : Value) (h : w.heap[F]? = some (.cells #[x0, x1, x2, x3] t (0, 0))) :
    ((((w.setCell ⟨F, 0, none⟩ a).setCell ⟨F, 1, none⟩ b).setCell ⟨F, 2, none⟩ c).setCell ⟨F, 3, none⟩ d).heap[F]? = some (.cells #[a, b, c, d] t (0, 0)) ∧ Turn (fun k => k = F) w ((((w.setCell ⟨F, 0, none⟩ a).setCell ⟨F, 1, none⟩ b).setCell ⟨F, 2, none⟩ c).setCell ⟨F, 3, none⟩ d) := by
  refine ⟨?_, (((turn_set19 _ _ _).trans (turn_set19 _ _ _)).trans (turn_set19 _ _ _)).trans (turn_set19 _ _ _)⟩
  have h0 := heap_setCell_same w F 0 _ _ a h
  have h1 := heap_setCell_same _ F 1 _ _ b h0
  have h2 := heap_setCell_same _ F 2 _ _ c h1
  have h3 := heap_setCell_same _ F 3 _ _ d h2
  simpa using h3
theorem StO.cellsT {W : World} {y : Et} (h : StO W y) {k : Nat} {o : Obj} (hk : EtT y k) (ho : W.heap[k]? = some o) : o.isCells = true := by
  rcases hk with rfl | hk
  · have hb := h.blk
    unfold EtBlk at hb
    rw [hb] at ho
    cases ho; rfl
  · obtain ⟨_, ⟨hv, _⟩ | ⟨g', cap, cur, hv, _, hh, _⟩⟩ := id h.own
    · rw [hv] at hk; cases hk
    · rw [hv] at hk; cases hk
      rw [hh] at ho; cases ho; rfl
theorem others_turn {S : Nat → Prop} {A B : World} (h : Turn S A B) (hS : ∀ k o, S k → A.heap[k]? = some o → o.isCells = true) : KeepsOthers A B :=
  ⟨h.size, fun k o hk ho => h.obj hk (fun e => by rw [hS k o e hk] at ho; cases ho)⟩
/-- a round that breaks: a frame is stored -/
theorem nx_end {w W w3 w4 : World} {base T : Nat} {v : Value} {ys pre : List Et} {q : Sd} {room most : Int} {y y' : Et} {l : List Int} {kd fl sd : Int} {pa : Option Addr} {ln pc : Nat} (h : SnO w T v ys q) (hS : base = w.heap.size + 5) (hI : Nx1 w base ys room most pre W) (hy : ys[pre.length]? = some y) (hb : Below W.heap.size W w3) (hs : StStep w3 w4 y y')
    (ho : frO y.x room most = true) (hx : y'.x = frX y.x room most) (hwin : winB y'.x.win = true) (hf : frF y.x room most = ⟨kd, fl, sd, l⟩) (hl : l.length = ln) (hsl : Sl .u8 w4 (.slice pa ln pc) l) (hp : l ≠ [] → ∀ g, (Value.slice pa ln pc).ownBlock = some g → EtB y g ∨ base ≤ g) (hv0 : ∀ g, v.ownBlock = some g → g < w.heap.size) :
    KeepsFrom base W ((((w4.setCell ⟨w.heap.size + 1 + 1 + 1, 0, none⟩ (.int .i64 kd)).setCell ⟨w.heap.size + 1 + 1 + 1, 1, none⟩ (.int .i64 fl)).setCell ⟨w.heap.size + 1 + 1 + 1, 2, none⟩ (.int .i64 sd)).setCell ⟨w.heap.size + 1 + 1 + 1, 3, none⟩ (.slice pa ln pc)) ∧
      Nx1x w base T v ys q room most (.exit 0) (pre ++ [y]) ((((w4.setCell ⟨w.heap.size + 1 + 1 + 1, 0, none⟩ (.int .i64 kd)).setCell ⟨w.heap.size + 1 + 1 + 1, 1, none⟩ (.int .i64 fl)).setCell ⟨w.heap.size + 1 + 1 + 1, 2, none⟩ (.int .i64 sd)).setCell ⟨w.heap.size + 1 + 1 + 1, 3, none⟩ (.slice pa ln pc)) := by
  obtain ⟨h1, h2, h3, h4, h5, h6, h7, h8⟩ := hI
  have hym := List.mem_of_getElem? hy
  have hlow : ∀ g, EtB y g → g < w.heap.size := fun g hg => (h.st y hym).lt hg
  have hw3 : base ≤ w3.heap.size := Nat.le_trans h6 hb.size
  have hF4 : w4.heap[w.heap.size + 1 + 1 + 1]? = some (.cells #[.int .i64 0, .int .i64 0, .int .i64 0, .slice none 0 0] 34 (0, 0)) := hs.t.obj ((hb.block _ (Array.getElem?_eq_some_iff.1 h4).1).trans h4) (fun e => by have := hlow _ (.inl e); omega)
  obtain ⟨hF5, ht5⟩ := frame_set20 (.int .i64 kd) (.int .i64 fl) (.int .i64 sd) (.slice pa ln pc) hF4
  have hy3 : StO w3 y := ((h.st y hym).below h5).below hb
  have hsn := ((h.below h5).below hb).step hy hs hwin
  have hmem : ∀ z ∈ ys.set pre.length y', ∀ g, EtB z g → g < w.heap.size ∨ base ≤ g := fun z hz g hg => by
    rcases List.mem_or_eq_of_mem_set hz with hz | rfl
    · exact .inl ((h.st z hz).lt hg)
    · rcases hs.b g hg with e | e
      · exact .inl (hlow g e)
      · exact .inr (by omega)
  have hq : (q.l.take pre.length).any (hasF room most) = false := by rw [h.e, ← List.map_take, ← h7]; exact h8
  refine ⟨((others_below hb).trans ((others_turn hs.t (fun k o hk ho => hy3.cellsT hk ho)).trans ((((KeepsOthers.setCell _ _ _).trans (KeepsOthers.setCell _ _ _)).trans (KeepsOthers.setCell _ _ _)).trans (KeepsOthers.setCell _ _ _)))).from _, rfl, pre.length, y, y', pa, pc, hy, hq, ho, hx, hsn.turn ht5 (fun e => ?_) (fun g hg e => ?_) (fun z hz g hg e => ?_), ?_, ?_, ?_, ?_, ?_, fun g hg => (hs.b g hg).imp_right (fun e => by omega), Nat.le_trans hw3 (Nat.le_trans hs.t.size ht5.size)⟩
  · have := h.cells.2.2; have e' : T = w.heap.size + 1 + 1 + 1 := e; omega
  · have := hv0 g hg; have e' : g = w.heap.size + 1 + 1 + 1 := e; omega
  · have := hmem z hz g hg; have e' : g = w.heap.size + 1 + 1 + 1 := e; omega
  · exact ht5.obj (hs.t.obj ((hb.block _ (Array.getElem?_eq_some_iff.1 h3).1).trans h3) (fun e => by have := hlow _ (.inl e); omega)) (fun e => by have e' : w.heap.size + 1 + 1 = w.heap.size + 1 + 1 + 1 := e; omega)
  · rw [hf]; dsimp only; rw [hl]; exact hF5
  · rw [hf]
    dsimp only
    rw [hl]
    refine hsl.turn0 ht5 (fun hne g hg e => ?_)
    have e' : g = w.heap.size + 1 + 1 + 1 := e
    rcases hp hne g hg with e2 | e2
    · have := hlow g e2; omega
    · omega
  · rw [hf]
    dsimp only
    rw [hl]
    exact hp
  · exact (((Turn.of_below h5).trans (Turn.of_below hb)).trans hs.t).trans' ht5 (fun k hk e => by have e' : k = w.heap.size + 1 + 1 + 1 := e; omega)
set_option maxHeartbeats 8000000 in
theorem next20_any (T : Nat) (v : Value) (ys : List Et) (q : Sd) (room most : Int) (w : World) (h : SnO w T v ys q) (hl : ys.length ≤ 1000) (hF : (Lit.int .i64 room).wf = true ∧ (Lit.int .i64 most).wf = true) (hb : ∀ y ∈ ys, y.x.b.length ≤ 1000000) :
    Calls Try.prog 25 #[.pointer (some ⟨T, 0, none⟩), .int .i64 room, .int .i64 most] w fun e w' =>
      ∃ fv v' ys', e = .returned (.tuple #[fv, .bool (nextO q room most)]) ∧ FrK w' fv (nextF20 q room most) (fun g => (∃ y ∈ ys, EtB y g) ∨ w.heap.size ≤ g) ∧ SnO w' T v' ys' (nextS q room most) ∧ Turn (SnB T v ys) w w' ∧ (∀ g, v'.ownBlock = some g → v.ownBlock = some g ∨ w.heap.size ≤ g) ∧ ∀ y' ∈ ys', ∀ g, EtB y' g → (∃ y ∈ ys, EtB y g) ∨ w.heap.size ≤ g := by
  have hv0 : ∀ g, v.ownBlock = some g → g < w.heap.size := fun g hg => (h.row.lt g hg).2
  refine (callsIn_wide (n := 4)).1 ?_
  refine callsIn_of_wp_marks Try.func25 rfl trivial ?_ rfl
  simp only [Try.ntmps25, List.size_toArray, List.length_cons, List.length_nil, Nat.reduceAdd, Nat.reduceSub, Array.replicate_succ, Array.replicate_zero, List.push_toArray, List.append_toArray, List.nil_append, List.cons_append]
  refine wpIn_wide.2 ?_
  have hb0 : Below w.heap.size w ((((w.alloc (.cells #[.int .i64 room] 3)).alloc (.cells #[.int .i64 most] 3)).alloc (.cells #[.int .i64 0, .int .i64 0, .int .i64 0, .slice none 0 0] 34)).alloc (.cells #[.int .i64 0, .int .i64 0, .int .i64 0, .slice none 0 0] 34)) := ((((Below.refl _ _).alloc (Nat.le_refl _) _).alloc (by simp) _).alloc (by simp <;> omega) _).alloc (by simp <;> omega) _
  have HA := Lib.hid (all20_any T v ys q _ (h.below hb0))
  go_wp2_with fail
  go_step3
  go_wp2_with fail
  go_step3
  go_wp2_with (go_at_call 37; refine HA.out.mono ?_; rintro e w' ⟨rfl, rfl⟩)
  refine (wpIn_wide (n := 4)).1 ?_
  gi_wp2
  have A1 := heap_alloc_new w (.cells #[.int .i64 room] 3)
  have A2 := heap_alloc_new (w.alloc (.cells #[.int .i64 room] 3)) (.cells #[.int .i64 most] 3)
  have A3 := heap_alloc_new ((w.alloc (.cells #[.int .i64 room] 3)).alloc (.cells #[.int .i64 most] 3)) (.cells #[.int .i64 0, .int .i64 0, .int .i64 0, .slice none 0 0] 34)
  have A4 := heap_alloc_new (((w.alloc (.cells #[.int .i64 room] 3)).alloc (.cells #[.int .i64 most] 3)).alloc (.cells #[.int .i64 0, .int .i64 0, .int .i64 0, .slice none 0 0] 34)) (.cells #[.int .i64 0, .int .i64 0, .int .i64 0, .slice none 0 0] 34)
  have A5 := heap_alloc_new ((((w.alloc (.cells #[.int .i64 room] 3)).alloc (.cells #[.int .i64 most] 3)).alloc (.cells #[.int .i64 0, .int .i64 0, .int .i64 0, .slice none 0 0] 34)).alloc (.cells #[.int .i64 0, .int .i64 0, .int .i64 0, .slice none 0 0] 34)) (.cells #[v] 59)
  have S1 : (w.alloc (.cells #[.int .i64 room] 3)).heap.size = w.heap.size + 1 := by simp
  have S2 : ((w.alloc (.cells #[.int .i64 room] 3)).alloc (.cells #[.int .i64 most] 3)).heap.size = w.heap.size + 1 + 1 := by simp
  have S3 : (((w.alloc (.cells #[.int .i64 room] 3)).alloc (.cells #[.int .i64 most] 3)).alloc (.cells #[.int .i64 0, .int .i64 0, .int .i64 0, .slice none 0 0] 34)).heap.size = w.heap.size + 1 + 1 + 1 := by simp
  have S4 : ((((w.alloc (.cells #[.int .i64 room] 3)).alloc (.cells #[.int .i64 most] 3)).alloc (.cells #[.int .i64 0, .int .i64 0, .int .i64 0, .slice none 0 0] 34)).alloc (.cells #[.int .i64 0, .int .i64 0, .int .i64 0, .slice none 0 0] 34)).heap.size = w.heap.size + 1 + 1 + 1 + 1 := by simp
  rw [S1] at A2
  rw [S2] at A3
  rw [S3] at A4
  rw [S4] at A5
  have B4 := (Below.refl ((((w.alloc (.cells #[.int .i64 room] 3)).alloc (.cells #[.int .i64 most] 3)).alloc (.cells #[.int .i64 0, .int .i64 0, .int .i64 0, .slice none 0 0] 34)).alloc (.cells #[.int .i64 0, .int .i64 0, .int .i64 0, .slice none 0 0] 34)).heap.size ((((w.alloc (.cells #[.int .i64 room] 3)).alloc (.cells #[.int .i64 most] 3)).alloc (.cells #[.int .i64 0, .int .i64 0, .int .i64 0, .slice none 0 0] 34)).alloc (.cells #[.int .i64 0, .int .i64 0, .int .i64 0, .slice none 0 0] 34))).alloc (Nat.le_refl _) (.cells #[v] 59)
  have B3 := ((Below.refl (((w.alloc (.cells #[.int .i64 room] 3)).alloc (.cells #[.int .i64 most] 3)).alloc (.cells #[.int .i64 0, .int .i64 0, .int .i64 0, .slice none 0 0] 34)).heap.size (((w.alloc (.cells #[.int .i64 room] 3)).alloc (.cells #[.int .i64 most] 3)).alloc (.cells #[.int .i64 0, .int .i64 0, .int .i64 0, .slice none 0 0] 34))).alloc (Nat.le_refl _) (.cells #[.int .i64 0, .int .i64 0, .int .i64 0, .slice none 0 0] 34)).trans (B4.mono (by rw [S3, S4]; omega))
  have B2 := ((Below.refl ((w.alloc (.cells #[.int .i64 room] 3)).alloc (.cells #[.int .i64 most] 3)).heap.size ((w.alloc (.cells #[.int .i64 room] 3)).alloc (.cells #[.int .i64 most] 3))).alloc (Nat.le_refl _) (.cells #[.int .i64 0, .int .i64 0, .int .i64 0, .slice none 0 0] 34)).trans (B3.mono (by rw [S2, S3]; omega))
  have B1 := ((Below.refl (w.alloc (.cells #[.int .i64 room] 3)).heap.size (w.alloc (.cells #[.int .i64 room] 3))).alloc (Nat.le_refl _) (.cells #[.int .i64 most] 3)).trans (B2.mono (by rw [S1, S2]; omega))
  have k0 := (B1.block w.heap.size (by rw [S1]; omega)).trans A1
  have k1 := (B2.block (w.heap.size + 1) (by rw [S2]; omega)).trans A2
  have k2 := (B3.block (w.heap.size + 1 + 1) (by rw [S3]; omega)).trans A3
  have k3 := (B4.block (w.heap.size + 1 + 1 + 1) (by rw [S4]; omega)).trans A4
  have k4 := A5
  have hB2 : Below w.heap.size w (((((w.alloc (.cells #[.int .i64 room] 3)).alloc (.cells #[.int .i64 most] 3)).alloc (.cells #[.int .i64 0, .int .i64 0, .int .i64 0, .slice none 0 0] 34)).alloc (.cells #[.int .i64 0, .int .i64 0, .int .i64 0, .slice none 0 0] 34)).alloc (.cells #[v] 59)) := hb0.trans (B4.mono hb0.size)
  have hs2 : (((((w.alloc (.cells #[.int .i64 room] 3)).alloc (.cells #[.int .i64 most] 3)).alloc (.cells #[.int .i64 0, .int .i64 0, .int .i64 0, .slice none 0 0] 34)).alloc (.cells #[.int .i64 0, .int .i64 0, .int .i64 0, .slice none 0 0] 34)).alloc (.cells #[v] 59)).heap.size = w.heap.size + 5 := by simp
  clear A1 A2 A3 A4 A5 S1 S2 S3 S4 B1 B2 B3 B4 hb0 HA
  obtain ⟨W2, hW2⟩ : ∃ W2, ((((w.alloc (.cells #[.int .i64 room] 3)).alloc (.cells #[.int .i64 most] 3)).alloc (.cells #[.int .i64 0, .int .i64 0, .int .i64 0, .slice none 0 0] 34)).alloc (.cells #[.int .i64 0, .int .i64 0, .int .i64 0, .slice none 0 0] 34)).alloc (.cells #[v] 59) = W2 := ⟨_, rfl⟩
  rw [hW2] at k0 k1 k2 k3 k4 hB2 hs2 ⊢
  have HS := Lib.hid hs2
  clear hW2 hs2
  have hT2 := h.below hB2
  refine range_seqP (gf := 66) (lb := #[.pointer (some ⟨w.heap.size + 1 + 1 + 1 + 1, 0, none⟩)]) rfl (enters_of Try.func66 (by kernel_rfl) rfl)
    (rise_seq _ _ v ys W2 k4 hT2.row (by omega)) (fun _ => rfl)
    (fun h k => h.trans k)
    (fun W l o o' hl hlo _ => ⟨by rw [World.putObj_size]; exact Nat.le_refl _, fun g hg => World.putObj_heap_other (by have := hv0 g hg; have := HS.out; omega)⟩)
    (Nx1 w W2.heap.size ys room most)
    (Nx1x w W2.heap.size T v ys q room most)
    (fun pre y a' W => ys[pre.length]? = some y ∧ a' = { tmps := #[.pointer (some ⟨T, 0, none⟩), .int .i64 room, .int .i64 most, undef, .pointer (some ⟨w.heap.size, 0, none⟩), .pointer (some ⟨w.heap.size + 1, 0, none⟩), .pointer (some ⟨w.heap.size + 1 + 1, 0, none⟩), .bool false, .pointer (some ⟨w.heap.size + 1 + 1 + 1, 0, none⟩), .int .i64 y.x.id, .pointer (some ⟨y.p, 0, none⟩), undef, .pointer (some ⟨T, 0, none⟩), .func (.func 66) #[] #[.pointer (some ⟨w.heap.size + 1 + 1 + 1 + 1, 0, none⟩)], .int .i64 y.x.id, .pointer (some ⟨y.p, 0, none⟩), undef, undef, undef, undef, undef, undef, undef, undef, undef, undef, undef, undef, undef, undef, undef, undef, undef, undef, undef, undef, undef, undef, undef, undef, undef, undef, undef, undef, undef, undef, undef, undef, undef, undef, undef, undef, undef, undef, undef, undef, undef, undef, undef, undef, undef, undef, undef], defers := [] })
    (Nx1.grows _ _ _ _ _) (Nx1.turns (by have := HS.out; omega))
    (Nx1x.grows _ _ _ _ _ _ _ _)
    (Nx1x.turns (by have := HS.out; omega))
    ?tTurn ⟨k0, k1, k2, k3, hB2, Nat.le_refl _, rfl, rfl⟩ ?tAssign ?tBody ?tDone ?tStop
  case tTurn =>
    rintro pre x a' _ A l o o' h hl hlo ho
    exact h
  case tAssign =>
    rintro l pre x W K hI hY hK
    dsimp only [encEt]
    gi_wp2
    exact hK _ _ ⟨Nat.le_refl _, fun _ _ _ h _ => h⟩ (KeepRw20.refl _ _) hI ⟨hY, rfl⟩
  case tBody =>
    rintro l pre y a' W ⟨h1, h2, h3, h4, h5, h6, h7, h8⟩ ⟨hy, rfl⟩ hlen
    obtain ⟨wn, hwn⟩ : ∃ wn, y.x.win = wn := ⟨_, rfl⟩
    obtain ⟨rn, hrn⟩ : ∃ rn, roomW room [most, wn] = rn := ⟨_, rfl⟩
    have hym := List.mem_of_getElem? hy
    have hwin := h.wr y hym
    have HI := Lib.hid (And.intro h1 (And.intro h2 (And.intro h3 (And.intro h4 (And.intro h5 (And.intro h6 (And.intro h7 h8)))))))
    have HY := Lib.hid ((h.st y hym).below h5)
    have HWn := Lib.hid hwn
    have HRn := Lib.hid hrn
    have HRx := Lib.hid (show roomW room [most, y.x.win] = rn by rw [hwn]; exact hrn)
    have HFit := Lib.hid (show [most, wn].all (fun n => (Lit.int .i64 n).wf) = true by
      have hr := winB_rng hwin
      rw [hwn] at hr
      simp only [List.all_cons, List.all_nil, Bool.and_true, Bool.and_eq_true]
      refine ⟨hF.2, ?_⟩
      simp only [Lit.wf, Bool.and_eq_true, decide_eq_true_eq]
      exact ⟨by show (-9223372036854775808 : Int) ≤ _; omega, by show _ ≤ (9223372036854775807 : Int); omega⟩)
    have HYs := Lib.hid (And.intro hy (And.intro hym hwin))
    have l0 := (Array.getElem?_eq_some_iff.1 h1).1
    have l1 := (Array.getElem?_eq_some_iff.1 h2).1
    clear h1 h2 h3 h4 h5 h6 h7 h8 hwn hrn hy hym hwin
    gi_wp2
    refine Moved.wpIn_round 8 [16, 17, 18, 19, 20, 21, 22, 23] [[], [], [], [(2, 18)], [(3, 19)], [(4, 20)], [(1, 17), (5, 21)], [(0, 16), (6, 22)]] []
      (fun i v w' => match i with
        | 0 => v = .int .i64 room
        | 1 => v = .int .i64 most
        | 2 => v = .pointer (some ⟨y.p, 0, none⟩)
        | 3 => v = .pointer (some ⟨y.p, 0, none⟩)
        | 4 => v = .pointer (some ⟨y.p, 0, none⟩)
        | 5 => v = .int .i64 wn
        | 6 => Sl .i64 w' v [most, wn]
        | 7 => v = .int .i64 rn
        | _ => True) (by kernel_rfl) (by kernel_rfl) (by kernel_rfl) ?tStab ?tOps ?tLate ?tRest
    case tStab =>
      intro i v w3 w4 h hb
      match i, h with
      | 0, h | 1, h | 2, h | 3, h | 4, h | 5, h | 7, h => exact h
      | 6, h => exact Sl.below h hb
      | i + 8, _ => trivial
    case tOps =>
      simp only [List.take_succ_cons, List.take_zero, opsOk]
      refine ⟨?_, ?_, ?_, ?_, ?_, ?_, ?_, ?_, trivial⟩
      · intro ρ w3 hc hf ho hB hj
        have x0 : ρ (.tmp 4) = .pointer (some ⟨w.heap.size, 0, none⟩) := ho 4 (by decide)
        have cc := blk_cell (j := 0) ((hB.block _ l0).trans HI.out.1) rfl
        simp [gives, go_sem, x0, cc, Below.refl]
      · intro ρ w3 hc hf ho hB hj
        have x0 : ρ (.tmp 5) = .pointer (some ⟨w.heap.size + 1, 0, none⟩) := ho 5 (by decide)
        have cc := blk_cell (j := 0) ((hB.block _ l1).trans HI.out.2.1) rfl
        simp [gives, go_sem, x0, cc, Below.refl]
      · intro ρ w3 hc hf ho hB hj
        have x0 : ρ (.tmp 10) = .pointer (some ⟨y.p, 0, none⟩) := ho 10 (by decide)
        simp [gives, go_sem, x0, Below.refl]
      · intro ρ w3 hc hf ho hB hj
        have x0 : ρ (.tmp 18) = .pointer (some ⟨y.p, 0, none⟩) := hj (2, 18) (by simp)
        simp [gives, go_sem, x0, Below.refl]
      · intro ρ w3 hc hf ho hB hj
        have x0 : ρ (.tmp 19) = .pointer (some ⟨y.p, 0, none⟩) := hj (3, 19) (by simp)
        simp [gives, go_sem, x0, Below.refl]
      · intro ρ w3 hc hf ho hB hj
        have x0 : ρ (.tmp 20) = .pointer (some ⟨y.p, 0, none⟩) := hj (4, 20) (by simp)
        have f0 := (HY.out.below hB).blk.cells.1
        rw [HWn.out] at f0
        simp [gives, go_sem, x0, f0, Below.refl]
      · intro ρ w3 hc hf ho hB hj
        have x0 : ρ (.tmp 17) = .int .i64 most := hj (1, 17) (by simp)
        have x1 : ρ (.tmp 21) = .int .i64 wn := hj (5, 21) (by simp)
        simp [gives, go_sem, x0, x1]
        exact ⟨Sl.lit [most, wn] rfl rfl rfl HFit.out (by unfold maxLen; simp), (Below.refl _ _).alloc (Nat.le_refl _) _⟩
      · intro ρ w3 hc hf ho hB hj
        have x0 : ρ (.tmp 16) = .int .i64 room := hj (0, 16) (by simp)
        have x1 : Sl .i64 w3 (ρ (.tmp 22)) [most, wn] := hj (6, 22) (by simp)
        obtain ⟨gv, hgv⟩ : ∃ gv, ρ (.tmp 22) = gv := ⟨_, rfl⟩
        rw [hgv] at x1
        simp [gives, go_sem, x0, hf, hgv]
        exact (room_same room _ [most, wn] w3 x1).mono fun e w' ⟨h1, h2⟩ => ⟨.int .i64 rn, by rw [h1, HRn.out], rfl, by rw [h2]; exact Below.refl _ _⟩
    case tLate => intro i hi; cases hi
    case tRest =>
      intro X w3 hBw hX
      have x0 : X 0 = .int .i64 room := hX 0 (by decide)
      have x1 : X 1 = .int .i64 most := hX 1 (by decide)
      have x2 : X 2 = .pointer (some ⟨y.p, 0, none⟩) := hX 2 (by decide)
      have x3 : X 3 = .pointer (some ⟨y.p, 0, none⟩) := hX 3 (by decide)
      have x4 : X 4 = .pointer (some ⟨y.p, 0, none⟩) := hX 4 (by decide)
      have x5 : X 5 = .int .i64 wn := hX 5 (by decide)
      have x6 := hX 6 (by decide)
      have x7 : X 7 = .int .i64 rn := hX 7 (by decide)
      simp only [putAll, List.getD_cons_zero, List.getD_cons_succ, Act.put, List.setIfInBounds_toArray, List.set_cons_zero, List.set_cons_succ, List.drop_succ_cons, List.drop_zero]
      rw [x0, x1, x2, x3, x4, x5, x7]
      have HB3 := Lib.hid hBw
      have HY3 := Lib.hid (HY.out.below hBw)
      clear hX hBw x0 x1 x2 x3 x4 x5 x6 x7
      go_wp2
      refine Moved.Only.intro ?_
      have q3 := HY3.out.blk.cells.2.2.2.1
      cases hwt : y.x.waits with
      | true =>
        have HWt := Lib.hid hwt
        rw [hwt] at q3
        obtain ⟨ah, ch, ehv, _⟩ := HY3.out.hd
        have HC := Lib.hid (headers20_any y y.x.id w3 HY3.out)
        rw [ehv] at HC
        have HEhv := Lib.hid ehv
        have m3 := HY3.out.blk.lt
        obtain ⟨hn, hhn⟩ : ∃ hn, y.x.head.length = hn := ⟨_, rfl⟩
        rw [hhn] at HC HEhv
        obtain ⟨fl, hfl⟩ : ∃ fl : Int, (if endB y.x = true then 5 else 4) = fl := ⟨_, rfl⟩
        rw [hfl] at HC
        have HL := Lib.hid (And.intro hhn hfl)
        clear hwt ehv hhn hfl
        gi_wp2
        refine ⟨trivial, ?_⟩
        refine ((callsIn_wide.2 HC.out).inRound l).mono ?_
        rintro e w4 ⟨rfl, hsl, y', hs, hx⟩
        have hF4 : w4.heap[w.heap.size + 1 + 1 + 1]? = some (.cells #[.int .i64 0, .int .i64 0, .int .i64 0, .slice none 0 0] 34 (0, 0)) := hs.t.obj ((HB3.out.block _ (Array.getElem?_eq_some_iff.1 HI.out.2.2.2.1).1).trans HI.out.2.2.2.1) (fun e => by have := (h.st y HYs.out.2.1).lt (show EtB y _ from .inl e); omega)
        have g0 := blk_cell (j := 0) hF4 rfl
        have g1 := blk_cell (j := 1) hF4 rfl
        have g2 := blk_cell (j := 2) hF4 rfl
        have g3 := blk_cell (j := 3) hF4 rfl
        have z0 := blk_free (j := 0) hF4
        have z1 := blk_free (j := 1) hF4
        have z2 := blk_free (j := 2) hF4
        have z3 := blk_free (j := 3) hF4
        have gl := (Array.getElem?_eq_some_iff.1 hF4).1
        have HSt := Lib.hid (And.intro hsl (And.intro hs (And.intro hx hF4)))
        clear hsl hs hx hF4
        gi_wp2
        obtain ⟨hsl, hs, hx, hF4⟩ := HSt.out
        have hfr : frO y.x room most = true := by unfold frO; rw [if_pos HWt.out]
        have hfx : y'.x = frX y.x room most := by unfold frX; rw [if_pos HWt.out]; exact hx
        have hff : frF y.x room most = ⟨1, fl, y.x.id, y.x.head⟩ := by
          unfold frF
          rw [if_pos HWt.out, ← HL.out.2]
          have : (y.x.fin = true ∧ y.x.b = []) ↔ endB y.x = true := by unfold endB; simp
          by_cases e : y.x.fin = true ∧ y.x.b = []
          · rw [if_pos e, if_pos (this.1 e)]
          · rw [if_neg e, if_neg (fun c => e (this.2 c))]
        exact nx_end h (by have := HS.out; omega) HI.out HYs.out.1 HB3.out hs hfr hfx (by rw [hfx]; unfold frX; rw [if_pos HWt.out]; exact HYs.out.2.2) hff HL.out.1 hsl (fun hne g hg => .inl (.inr ⟨hne, by rw [HEhv.out]; exact hg⟩)) hv0
      | false =>
        have HWt := Lib.hid hwt
        rw [hwt] at q3
        have m3 := HY3.out.blk.lt
        obtain ⟨bn, hbn⟩ : ∃ bn, y.x.b.length = bn := ⟨_, rfl⟩
        have HBn := Lib.hid hbn
        have HSz := Lib.hid (size20_any y w3 HY3.out)
        rw [hbn] at HSz
        clear hwt hbn
        have HNo := Lib.hid (fun (h1 : ¬ (0 < rn ∧ 0 < bn)) (h2 : endB y.x = false) => no_frame HRx.out HWt.out (by rw [HBn.out]; exact h1) h2)
        have HYes := Lib.hid (fun (h1 : (0 < rn ∧ 0 < bn) ∨ endB y.x = true) => data_frame HRx.out HWt.out HYs.out.2.2 (by rw [HBn.out]; exact h1))
        have hrn0 : 0 ≤ rn := by have := room_nonneg room [most, y.x.win]; rw [HRx.out] at this; exact this
        obtain ⟨ef, hef⟩ : ∃ ef : Int, (if endB (dataX y.x rn) = true then 1 else 0) = ef := ⟨_, rfl⟩
        obtain ⟨zs, hzs⟩ : ∃ zs, y.x.b.take (takeN rn y.x.b.length) = zs := ⟨_, rfl⟩
        obtain ⟨ln, hln⟩ : ∃ ln, zs.length = ln := ⟨_, rfl⟩
        have HData := Lib.hid (fun (wX : World) (hX : StO wX y) => data20_any y y.x.id rn wX hX hrn0 (hb y HYs.out.2.1))
        rw [hef, hzs] at HData
        have HNm := Lib.hid (show ((0 < rn ∧ 0 < bn) ∨ endB y.x = true) → frO y.x room most = true ∧ frX y.x room most = dataX y.x rn ∧ frF y.x room most = ⟨0, ef, y.x.id, zs⟩ from fun c => by
          have := HYes.out c
          rw [hef, hzs] at this
          exact this)
        have HLn := Lib.hid hln
        have HEn := Lib.hid (fun (wX : World) (hX : StO wX y) => ended20_any y wX hX)
        clear hef hzs hln
        obtain ⟨eb, heb⟩ : ∃ eb, endB y.x = eb := ⟨_, rfl⟩
        rw [heb] at HEn HNo HNm
        clear heb
        by_cases hr0 : 0 < rn
        · have d0 : decide (0 < rn) = true := decide_eq_true hr0
          gi_wp2
          refine ⟨trivial, ?_⟩
          refine ((callsIn_wide.2 HSz.out).inRound l).mono ?_
          rintro e w4 ⟨rfl, mm, rfl⟩
          have HBX := Lib.hid (HB3.out.trans ((below_drewN (Below.refl w3.heap.size w3) mm).mono HB3.out.size))
          have HYX := Lib.hid (HY3.out.below (below_drewN (Below.refl w3.heap.size w3) mm))
          clear q3 m3
          generalize w3.drewN mm = wX at HBX HYX ⊢
          have q3 := HYX.out.blk.cells.2.2.2.1
          have m3 := HYX.out.blk.lt
          by_cases hb0 : 0 < bn
          · have d1 : decide ((0 : Int) < (bn : Int)) = true := decide_eq_true (by omega)
            have d2 : decide (0 < bn) = true := decide_eq_true hb0
            have HOr := Lib.hid (HNm.out (.inl ⟨hr0, hb0⟩))
            have HC := Lib.hid (HData.out _ HYX.out)
            gi_wp2
            refine ⟨trivial, ?_⟩
            refine ((callsIn_wide.2 HC.out).inRound l).mono ?_
            rintro e w5 ⟨bv, rfl, hsl, y', hnb, hs, hx⟩
            obtain ⟨pa, pc, rfl, _⟩ := id hsl
            have hF4 : w5.heap[w.heap.size + 1 + 1 + 1]? = some (.cells #[.int .i64 0, .int .i64 0, .int .i64 0, .slice none 0 0] 34 (0, 0)) := hs.t.obj ((HBX.out.block _ (Array.getElem?_eq_some_iff.1 HI.out.2.2.2.1).1).trans HI.out.2.2.2.1) (fun e => by have := (h.st y HYs.out.2.1).lt (show EtB y _ from .inl e); omega)
            have g0 := blk_cell (j := 0) hF4 rfl
            have g1 := blk_cell (j := 1) hF4 rfl
            have g2 := blk_cell (j := 2) hF4 rfl
            have g3 := blk_cell (j := 3) hF4 rfl
            have z0 := blk_free (j := 0) hF4
            have z1 := blk_free (j := 1) hF4
            have z2 := blk_free (j := 2) hF4
            have z3 := blk_free (j := 3) hF4
            have gl := (Array.getElem?_eq_some_iff.1 hF4).1
            rw [HLn.out] at hsl hnb ⊢
            have HSt := Lib.hid (And.intro hsl (And.intro hnb (And.intro hs hx)))
            clear hsl hnb hs hx hF4
            gi_wp2
            obtain ⟨hsl, hnb, hs, hx⟩ := HSt.out
            obtain ⟨hfr, hfx, hff⟩ := HOr.out
            have hwx : W2.heap.size ≤ wX.heap.size := Nat.le_trans HI.out.2.2.2.2.2.1 HBX.out.size
            exact nx_end h (by have := HS.out; omega) HI.out HYs.out.1 HBX.out hs hfr (by rw [hfx]; exact hx) (by rw [hx]; unfold dataX; exact takeW_win _ HYs.out.2.2) hff HLn.out hsl (fun _ g hg => .inr (Nat.le_trans hwx (hnb g hg).1)) hv0
          · have d1 : decide ((0 : Int) < (bn : Int)) = false := decide_eq_false (by omega)
            have d2 : decide (0 < bn) = false := decide_eq_false hb0
            have HNn := Lib.hid (HNo.out (fun c => hb0 c.2))
            gi_wp2
            refine ⟨trivial, ?_⟩
            refine ((callsIn_wide.2 (HEn.out _ HYX.out)).inRound l).mono ?_
            rintro e w6 ⟨rfl, m6, rfl⟩
            have HBY := Lib.hid (HBX.out.trans ((below_drewN (Below.refl wX.heap.size wX) m6).mono HBX.out.size))
            have HYY := Lib.hid (HYX.out.below (below_drewN (Below.refl wX.heap.size wX) m6))
            clear HBX HYX q3 m3
            generalize wX.drewN m6 = wX at HBY HYY ⊢
            have HBX := Lib.hid HBY.out
            have HYX := Lib.hid HYY.out
            clear HBY HYY
            cases eb with
            | true =>
              have HOr := Lib.hid (HNm.out (.inr rfl))
              have HC := Lib.hid (HData.out _ HYX.out)
              gi_wp2
              refine ⟨trivial, ?_⟩
              refine ((callsIn_wide.2 HC.out).inRound l).mono ?_
              rintro e w5 ⟨bv, rfl, hsl, y', hnb, hs, hx⟩
              obtain ⟨pa, pc, rfl, _⟩ := id hsl
              have hF4 : w5.heap[w.heap.size + 1 + 1 + 1]? = some (.cells #[.int .i64 0, .int .i64 0, .int .i64 0, .slice none 0 0] 34 (0, 0)) := hs.t.obj ((HBX.out.block _ (Array.getElem?_eq_some_iff.1 HI.out.2.2.2.1).1).trans HI.out.2.2.2.1) (fun e => by have := (h.st y HYs.out.2.1).lt (show EtB y _ from .inl e); omega)
              have g0 := blk_cell (j := 0) hF4 rfl
              have g1 := blk_cell (j := 1) hF4 rfl
              have g2 := blk_cell (j := 2) hF4 rfl
              have g3 := blk_cell (j := 3) hF4 rfl
              have z0 := blk_free (j := 0) hF4
              have z1 := blk_free (j := 1) hF4
              have z2 := blk_free (j := 2) hF4
              have z3 := blk_free (j := 3) hF4
              have gl := (Array.getElem?_eq_some_iff.1 hF4).1
              rw [HLn.out] at hsl hnb ⊢
              have HSt := Lib.hid (And.intro hsl (And.intro hnb (And.intro hs hx)))
              clear hsl hnb hs hx hF4
              gi_wp2
              obtain ⟨hsl, hnb, hs, hx⟩ := HSt.out
              obtain ⟨hfr, hfx, hff⟩ := HOr.out
              have hwx : W2.heap.size ≤ wX.heap.size := Nat.le_trans HI.out.2.2.2.2.2.1 HBX.out.size
              exact nx_end h (by have := HS.out; omega) HI.out HYs.out.1 HBX.out hs hfr (by rw [hfx]; exact hx) (by rw [hx]; unfold dataX; exact takeW_win _ HYs.out.2.2) hff HLn.out hsl (fun _ g hg => .inr (Nat.le_trans hwx (hnb g hg).1)) hv0
            | false =>
              gi_wp2
              obtain ⟨h1, h2, h3, h4, h5, h6, h7, h8⟩ := HI.out
              have hb3 := HBX.out
              have hpl : pre ++ [y] = ys.take (pre ++ [y]).length := by
                rw [List.length_append, List.length_singleton, List.take_add_one, HYs.out.1, ← h7]; rfl
              exact ⟨(others_below hb3).from _, ⟨hb3.size, fun g hg => hb3.block g (by have := hv0 g hg; have := h5.size; omega)⟩, (hb3.block _ (Array.getElem?_eq_some_iff.1 h1).1).trans h1, (hb3.block _ (Array.getElem?_eq_some_iff.1 h2).1).trans h2, (hb3.block _ (Array.getElem?_eq_some_iff.1 h3).1).trans h3, (hb3.block _ (Array.getElem?_eq_some_iff.1 h4).1).trans h4, h5.trans (hb3.mono h5.size), Nat.le_trans h6 hb3.size, hpl, by rw [List.map_append, List.any_append, h8]; simp [hasF, HNn.out (by trivial)]⟩
        · have d0 : decide (0 < rn) = false := decide_eq_false hr0
          have HNn := Lib.hid (HNo.out (fun c => hr0 c.1))
          have HBX := Lib.hid HB3.out
          have HYX := Lib.hid HY3.out
          generalize w3 = wX at HBX HYX q3 m3 ⊢
          gi_wp2
          refine ⟨trivial, ?_⟩
          gi_wp2
          refine ⟨trivial, ?_⟩
          refine ((callsIn_wide.2 (HEn.out _ HYX.out)).inRound l).mono ?_
          rintro e w6 ⟨rfl, m6, rfl⟩
          have HBY := Lib.hid (HBX.out.trans ((below_drewN (Below.refl wX.heap.size wX) m6).mono HBX.out.size))
          have HYY := Lib.hid (HYX.out.below (below_drewN (Below.refl wX.heap.size wX) m6))
          clear HBX HYX q3 m3
          generalize wX.drewN m6 = wX at HBY HYY ⊢
          have HBX := Lib.hid HBY.out
          have HYX := Lib.hid HYY.out
          clear HBY HYY
          cases eb with
          | true =>
            have HOr := Lib.hid (HNm.out (.inr rfl))
            have HC := Lib.hid (HData.out _ HYX.out)
            gi_wp2
            refine ⟨trivial, ?_⟩
            refine ((callsIn_wide.2 HC.out).inRound l).mono ?_
            rintro e w5 ⟨bv, rfl, hsl, y', hnb, hs, hx⟩
            obtain ⟨pa, pc, rfl, _⟩ := id hsl
            have hF4 : w5.heap[w.heap.size + 1 + 1 + 1]? = some (.cells #[.int .i64 0, .int .i64 0, .int .i64 0, .slice none 0 0] 34 (0, 0)) := hs.t.obj ((HBX.out.block _ (Array.getElem?_eq_some_iff.1 HI.out.2.2.2.1).1).trans HI.out.2.2.2.1) (fun e => by have := (h.st y HYs.out.2.1).lt (show EtB y _ from .inl e); omega)
            have g0 := blk_cell (j := 0) hF4 rfl
            have g1 := blk_cell (j := 1) hF4 rfl
            have g2 := blk_cell (j := 2) hF4 rfl
            have g3 := blk_cell (j := 3) hF4 rfl
            have z0 := blk_free (j := 0) hF4
            have z1 := blk_free (j := 1) hF4
            have z2 := blk_free (j := 2) hF4
            have z3 := blk_free (j := 3) hF4
            have gl := (Array.getElem?_eq_some_iff.1 hF4).1
            rw [HLn.out] at hsl hnb ⊢
            have HSt := Lib.hid (And.intro hsl (And.intro hnb (And.intro hs hx)))
            clear hsl hnb hs hx hF4
            gi_wp2
            obtain ⟨hsl, hnb, hs, hx⟩ := HSt.out
            obtain ⟨hfr, hfx, hff⟩ := HOr.out
            have hwx : W2.heap.size ≤ wX.heap.size := Nat.le_trans HI.out.2.2.2.2.2.1 HBX.out.size
            exact nx_end h (by have := HS.out; omega) HI.out HYs.out.1 HBX.out hs hfr (by rw [hfx]; exact hx) (by rw [hx]; unfold dataX; exact takeW_win _ HYs.out.2.2) hff HLn.out hsl (fun _ g hg => .inr (Nat.le_trans hwx (hnb g hg).1)) hv0
          | false =>
            gi_wp2
            obtain ⟨h1, h2, h3, h4, h5, h6, h7, h8⟩ := HI.out
            have hb3 := HBX.out
            have hpl : pre ++ [y] = ys.take (pre ++ [y]).length := by
              rw [List.length_append, List.length_singleton, List.take_add_one, HYs.out.1, ← h7]; rfl
            exact ⟨(others_below hb3).from _, ⟨hb3.size, fun g hg => hb3.block g (by have := hv0 g hg; have := h5.size; omega)⟩, (hb3.block _ (Array.getElem?_eq_some_iff.1 h1).1).trans h1, (hb3.block _ (Array.getElem?_eq_some_iff.1 h2).1).trans h2, (hb3.block _ (Array.getElem?_eq_some_iff.1 h3).1).trans h3, (hb3.block _ (Array.getElem?_eq_some_iff.1 h4).1).trans h4, h5.trans (hb3.mono h5.size), Nat.le_trans h6 hb3.size, hpl, by rw [List.map_append, List.any_append, h8]; simp [hasF, HNn.out (by trivial)]⟩
  case tDone =>
    rintro D xs W hD hcame ⟨h1, h2, h3, h4, h5, h6, h7, h8⟩ hDk
    obtain rfl : xs = ys := hcame
    have hno : q.l.any (hasF room most) = false := by rw [h.e]; exact h8
    have HN := Lib.hid (next_none hno)
    have g0 := blk_cell (j := 0) h4 rfl
    have g1 := blk_cell (j := 1) h4 rfl
    have g2 := blk_cell (j := 2) h4 rfl
    have g3 := blk_cell (j := 3) h4 rfl
    have gl := (Array.getElem?_eq_some_iff.1 h4).1
    have HI := Lib.hid (And.intro h3 (And.intro h5 (And.intro h6 hDk)))
    have HDl := Lib.hid (show w.heap.size + 5 ≤ D by have := HS.out; omega)
    clear h1 h2 h3 h4 h5 h6 h7 h8 hno hDk k0 k1 k2 k3 k4
    gi_wp2
    go_wp2_with (refine store_fr13 rfl (.tmp 6) (.tmp 51) rfl (w.heap.size + 1 + 1) Fr.zero none 0 0 _ rfl rfl HI.out.1 rfl ?_)
    rw [Exit.noGoto_ret]
    obtain ⟨h3, h5, h6, hDk⟩ := HI.out
    have hdl := HDl.out
    have hDk1 : (W.setRow (w.heap.size + 1 + 1) #[.int .i64 Fr.zero.kind, .int .i64 Fr.zero.flags, .int .i64 Fr.zero.stream, .slice none 0 0]).heap[D]? = some (.deferred (some [])) := (setRow_other W _ D _ (by omega)).trans hDk
    refine ⟨by simp, .inl ⟨_, _, rfl, run_takeDeferred hDk1, ?_⟩⟩
    have ht : ∀ o', Turn (fun k => k = w.heap.size + 1 + 1 ∨ k = D) W ((W.setRow (w.heap.size + 1 + 1) #[.int .i64 Fr.zero.kind, .int .i64 Fr.zero.flags, .int .i64 Fr.zero.stream, .slice none 0 0]).putObj D o') := fun o' =>
      ⟨rfl, rfl, rfl, by rw [World.putObj_size]; simp, fun k _ hk => (World.putObj_heap_other (fun e => hk (.inr (by first | exact e | exact e.symm)))).trans (setRow_other W _ k _ (fun e => hk (.inl (by first | exact e | exact e.symm))))⟩
    have hne : ∀ g, g < w.heap.size → ¬ (g = w.heap.size + 1 + 1 ∨ g = D) := fun g hg => by omega
    have hsn := h.below h5
    refine ⟨_, results_row_tmp1 rfl _ _ (w.heap.size + 1 + 1) 34 #[.int .i64 Fr.zero.kind, .int .i64 Fr.zero.flags, .int .i64 Fr.zero.stream, .slice none 0 0] (0, 0) _ rfl ((World.putObj_heap_other (by omega)).trans (setRow_heap _ _ _ _ _ _ h3)) Try.underlying34 rfl (by kernel_rfl), ?_⟩
    rw [HN.out.1, HN.out.2.1, HN.out.2.2]
    exact ⟨_, v, xs, rfl, FrK.zero _ _, hsn.turn (ht _) (hne T h.cells.2.2) (fun g hg => hne g (hv0 g hg)) (fun z hz g hg => hne g ((h.st z hz).lt hg)), (Turn.of_below h5).trans' (ht _) (fun k hk e => absurd e (hne k hk)), fun g hg => .inl hg, fun z hz g hg => .inl ⟨z, hz, hg⟩⟩
  case tStop =>
    rintro D c pre W hD hcame ⟨rfl, k, y, y', pa, pc, h1, h2, h3, h4, h5, h6, h7, h8, h9, h10, h11, h12⟩ hDk
    clear k0 k1 k2 k3 k4 hT2
    have hym := List.mem_of_getElem? h1
    have hq1 : q.l[k]? = some y.x := by rw [h.e, List.getElem?_map, h1]; rfl
    have HN := Lib.hid (next_some h2 hq1 h3)
    have hid0 := (h.ids y hym).1
    have hst := frF_stream y.x room most
    have hfl := frF_flags y.x room most
    have hxi := frX_id y.x room most
    rw [h4] at h5
    obtain ⟨F, hFe⟩ : ∃ F, frF y.x room most = F := ⟨_, rfl⟩
    rw [hFe] at h7 h8 h9 hst hfl HN
    obtain ⟨ln, hln⟩ : ∃ ln, F.pay.length = ln := ⟨_, rfl⟩
    rw [hln] at h7 h8 h9
    have d0 : (F.stream == 0) = false := by rw [hst, beq_eq_false_iff_ne]; omega
    have d1 : decide (F.stream = 0) = false := decide_eq_false (by rw [hst]; omega)
    have hkl := (List.getElem?_eq_some_iff.1 h1).1
    have g0 := blk_cell (j := 0) h7 rfl
    have g1 := blk_cell (j := 1) h7 rfl
    have g2 := blk_cell (j := 2) h7 rfl
    have g3 := blk_cell (j := 3) h7 rfl
    have gl := (Array.getElem?_eq_some_iff.1 h7).1
    have HI := Lib.hid (And.intro h5 (And.intro h6 (And.intro h7 (And.intro h8 (And.intro h9 (And.intro h10 (And.intro h11 (And.intro h12 hDk))))))))
    have HY := Lib.hid (And.intro h1 (And.intro h4 (And.intro hst (And.intro hxi (And.intro hym hln)))))
    have HDl := Lib.hid (show w.heap.size + 5 ≤ D by have := HS.out; omega)
    have hlow : ∀ g, EtB y g → g < w.heap.size := fun g hg => (h.st y hym).lt hg
    have hbase : W2.heap.size = w.heap.size + 5 := HS.out
    have HLow := Lib.hid (And.intro hlow hbase)
    by_cases hodd : F.flags % 2 = 1
    · have hband : bits .and .i64 F.flags 1 = 1 := by
        rcases hfl with e | e | e | e <;> rw [e] at hodd ⊢ <;> first | rfl | (exfalso; omega)
      have HB := Lib.hid hband
      have HOdd := Lib.hid hodd
      clear h1 h2 h3 h4 h5 h6 h7 h8 h9 h10 h11 h12 hDk hq1 hst hfl hxi hFe hln hodd hid0 hlow hbase
      gi_wp2
      go_wp2_with fail
      refine wp_region_table 5 [56, 57, 58, 59, 60] [[], [(0, 56)], [(1, 57)], [], [(3, 59)]]
        (fun i v w' => match i with
          | 0 => v = .pointer (some ⟨T, 0, none⟩)
          | 1 => v = .pointer (some ⟨T, 0, none⟩)
          | 2 => v = .pointer (some ⟨T, 1, none⟩)
          | 3 => v = .pointer (some ⟨w.heap.size + 1 + 1 + 1, 2, none⟩)
          | 4 => v = .int .i64 F.stream
          | _ => True) (by kernel_rfl) (by kernel_rfl) ?tStab ?tOps ?tRest
      case tStab =>
        intro i v w3 w4 h hb
        match i, h with
        | 0, h | 1, h | 2, h | 3, h | 4, h => exact h
        | i + 5, _ => trivial
      case tOps =>
        simp only [List.take_succ_cons, List.take_zero, opsOk]
        refine ⟨?_, ?_, ?_, ?_, ?_, trivial⟩
        · intro ρ w3 hc hf ho hB hj
          have x0 : ρ (.tmp 0) = .pointer (some ⟨T, 0, none⟩) := ho 0 (by decide)
          simp [gives, go_sem, x0, Below.refl]
        · intro ρ w3 hc hf ho hB hj
          have x0 : ρ (.tmp 56) = .pointer (some ⟨T, 0, none⟩) := hj (0, 56) (by simp)
          simp [gives, go_sem, x0, Below.refl]
        · intro ρ w3 hc hf ho hB hj
          have x0 : ρ (.tmp 57) = .pointer (some ⟨T, 0, none⟩) := hj (1, 57) (by simp)
          simp [gives, go_sem, x0, Below.refl]
        · intro ρ w3 hc hf ho hB hj
          have x0 : ρ (.tmp 8) = .pointer (some ⟨w.heap.size + 1 + 1 + 1, 0, none⟩) := ho 8 (by decide)
          simp [gives, go_sem, x0, Below.refl]
        · intro ρ w3 hc hf ho hB hj
          have x0 : ρ (.tmp 59) = .pointer (some ⟨w.heap.size + 1 + 1 + 1, 2, none⟩) := hj (3, 59) (by simp)
          have cc := blk_cell (j := 2) ((hB.block _ (Array.getElem?_eq_some_iff.1 HI.out.2.2.1).1).trans HI.out.2.2.1) rfl
          simp [gives, go_sem, x0, cc, Below.refl]
      case tRest =>
        intro X w3 hBw hX
        have x0 : X 0 = .pointer (some ⟨T, 0, none⟩) := hX 0 (by decide)
        have x1 : X 1 = .pointer (some ⟨T, 0, none⟩) := hX 1 (by decide)
        have x2 : X 2 = .pointer (some ⟨T, 1, none⟩) := hX 2 (by decide)
        have x3 : X 3 = .pointer (some ⟨w.heap.size + 1 + 1 + 1, 2, none⟩) := hX 3 (by decide)
        have x4 : X 4 = .int .i64 F.stream := hX 4 (by decide)
        simp only [putAll, List.getD_cons_zero, List.getD_cons_succ, Act.put, List.setIfInBounds_toArray, List.set_cons_zero, List.set_cons_succ, List.drop_succ_cons, List.drop_zero]
        rw [x0, x1, x2, x3, x4]
        have HW3 := Lib.hid (And.intro (HI.out.1.below hBw) hBw)
        clear x0 x1 x2 x3 x4 hX hBw g0 g1 g2 g3 gl
        have hyk : (ys.set k y')[k]? = some y' := List.getElem?_set_self hkl
        have HD := Lib.hid (drop20i_any HW3.out.1 (by rw [List.length_set]; omega) hyk)
        rw [show y'.x.id = F.stream by rw [HY.out.2.1, HY.out.2.2.2.1, HY.out.2.2.1]] at HD
        go_wp2_with fail
        refine HD.out.mono ?_
        rintro e w6 ⟨rfl, v', hsn, htd, hvo⟩
        obtain ⟨h5, h6, h7, h8, h9, h10, h11, h12, hDk⟩ := HI.out
        have hb3 := HW3.out.2
        obtain ⟨hlow, hbase⟩ := HLow.out
        have hdl := HDl.out
        have hq : ∀ g, w.heap.size ≤ g → ¬ (g = T ∨ v.ownBlock = some g) := fun g hg e => by
          rcases e with e | e
          · have := h.cells.2.2; omega
          · have := hv0 g e; omega
        have hF3 := htd.obj ((hb3.block _ (Array.getElem?_eq_some_iff.1 h7).1).trans h7) (hq _ (by omega))
        have HSn := Lib.hid (show SnO w6 T v' ((ys.set k y').take k ++ (ys.set k y').drop (k + 1)) (dropS { q with l := q.l.set k (frX y.x room most) } y.x.id) by rw [← HY.out.2.2.1]; exact hsn)
        have HVr := Lib.hid (show ∀ g, v'.ownBlock = some g → v.ownBlock = some g from fun g hg => by rw [← hvo]; exact hg)
        have HMz := Lib.hid (show ∀ z ∈ (ys.set k y').take k ++ (ys.set k y').drop (k + 1), ∀ g, EtB z g → (∃ y ∈ ys, EtB y g) ∨ W2.heap.size ≤ g from fun z hz g hg => by
          rcases List.mem_or_eq_of_mem_set ((cut_sub _ k).mem hz) with hz | rfl
          · exact .inl ⟨z, hz, hg⟩
          · exact (h11 g hg).imp_left (fun e => ⟨y, HY.out.2.2.2.2.1, e⟩))
        have HMm := Lib.hid (show ∀ z ∈ (ys.set k y').take k ++ (ys.set k y').drop (k + 1), ∀ g, EtB z g → g < w.heap.size ∨ W2.heap.size ≤ g from fun z hz g hg => by
          rcases HMz.out z hz g hg with ⟨z2, hz2, e⟩ | e
          · exact .inl ((h.st z2 hz2).lt e)
          · exact .inr e)
        have HE := Lib.hid (show w6.heap[w.heap.size + 1 + 1]? = some (.cells #[.int .i64 0, .int .i64 0, .int .i64 0, .slice none 0 0] 34 (0, 0)) ∧ w6.heap[w.heap.size + 1 + 1 + 1]? = some (.cells #[.int .i64 F.kind, .int .i64 F.flags, .int .i64 F.stream, .slice pa ln pc] 34 (0, 0)) ∧ Sl .u8 w6 (.slice pa ln pc) F.pay ∧ (F.pay ≠ [] → ∀ g, (Value.slice pa ln pc).ownBlock = some g → EtB y g ∨ W2.heap.size ≤ g) ∧ Turn (SnB T v ys) w w6 ∧ (∀ g, EtB y' g → EtB y g ∨ W2.heap.size ≤ g) ∧ W2.heap.size ≤ w6.heap.size ∧ w6.heap[D]? = some (.deferred (some [])) from
          ⟨htd.obj ((hb3.block _ (Array.getElem?_eq_some_iff.1 h6).1).trans h6) (hq _ (by omega)), hF3, (h8.below hb3).turn0 htd (fun hne g hg e => by
            rcases h9 hne g hg with e2 | e2
            · have := h.ns y HY.out.2.2.2.2.1 g e2
              rcases e with e | e
              · exact this.1 e
              · exact this.2 e
            · exact hq g (by omega) e), h9, ((h10.mono (fun g _ e => .inr (.inr ⟨y, HY.out.2.2.2.2.1, .inl e⟩))).trans (Turn.of_below hb3)).trans' htd (fun g _ e => by
            rcases e with e | e
            · exact .inl e
            · exact .inr (.inl e)), h11, Nat.le_trans h12 (Nat.le_trans hb3.size htd.size), htd.obj ((hb3.block _ (Array.getElem?_eq_some_iff.1 hDk).1).trans hDk) (hq _ (by omega))⟩)
        have j0 := blk_cell (j := 0) hF3 rfl
        have j1 := blk_cell (j := 1) hF3 rfl
        have j2 := blk_cell (j := 2) hF3 rfl
        have j3 := blk_cell (j := 3) hF3 rfl
        have jl := (Array.getElem?_eq_some_iff.1 hF3).1
        clear hsn htd hvo h5 h6 h7 h8 h9 h10 h11 h12 hDk hF3 hlow hbase hdl hq hb3
        go_wp2_with (refine store_fr13 rfl (.tmp 6) (.tmp 62) rfl (w.heap.size + 1 + 1) F pa ln pc _ rfl rfl HE.out.1 rfl ?_)
        rw [Exit.noGoto_ret]
        obtain ⟨hF2, hF3, hsl, hpb, htw, hyb, hwb, hDk⟩ := HE.out
        have hdl := HDl.out
        obtain ⟨hlow, hbase⟩ := HLow.out
        have hDk1 : (w6.setRow (w.heap.size + 1 + 1) #[.int .i64 F.kind, .int .i64 F.flags, .int .i64 F.stream, .slice pa ln pc]).heap[D]? = some (.deferred (some [])) := (setRow_other w6 _ D _ (by omega)).trans hDk
        refine ⟨by simp, .inl ⟨_, _, rfl, run_takeDeferred hDk1, ?_⟩⟩
        have ht : ∀ o', Turn (fun k => k = w.heap.size + 1 + 1 ∨ k = D) w6 ((w6.setRow (w.heap.size + 1 + 1) #[.int .i64 F.kind, .int .i64 F.flags, .int .i64 F.stream, .slice pa ln pc]).putObj D o') := fun o' =>
          ⟨rfl, rfl, rfl, by rw [World.putObj_size]; simp, fun k _ hk => (World.putObj_heap_other (fun e => hk (.inr (by first | exact e | exact e.symm)))).trans (setRow_other w6 _ k _ (fun e => hk (.inl (by first | exact e | exact e.symm))))⟩
        have ht1 : Turn (fun k => k = w.heap.size + 1 + 1) w6 (w6.setRow (w.heap.size + 1 + 1) #[.int .i64 F.kind, .int .i64 F.flags, .int .i64 F.stream, .slice pa ln pc]) := Turn.of_grown (setRow_grown _ _ _)
        have hpx : ∀ hne : F.pay ≠ [], ∀ g, (Value.slice pa ln pc).ownBlock = some g → g ≠ w.heap.size + 1 + 1 := fun hne g hg e => by
          rcases hpb hne g hg with e2 | e2
          · have := hlow g e2; omega
          · omega
        have hsl1 : Sl .u8 (w6.setRow (w.heap.size + 1 + 1) #[.int .i64 F.kind, .int .i64 F.flags, .int .i64 F.stream, .slice pa ln pc]) (.slice pa ln pc) F.pay := hsl.turn0 ht1 (fun hne g hg e => hpx hne g hg e)
        have hsl2 := fun o' => hsl1.put20 (o' := o') hDk1 rfl
        refine ⟨_, results_row_tmp1 rfl _ _ (w.heap.size + 1 + 1) 34 #[.int .i64 F.kind, .int .i64 F.flags, .int .i64 F.stream, .slice pa ln pc] (0, 0) _ rfl ((World.putObj_heap_other (by omega)).trans (setRow_heap _ _ _ _ _ _ hF2)) Try.underlying34 rfl (by kernel_rfl), ?_⟩
        rw [HN.out.1, HN.out.2.1, HN.out.2.2, if_pos HOdd.out]
        have hsn1 := HSn.out.turn ht1 (fun e => by have := h.cells.2.2; omega) (fun g hg e => by have := hv0 g (HVr.out g hg); omega) (fun z hz g hg e => by
          rcases HMm.out z hz g hg with e2 | e2 <;> omega)
        refine ⟨_, _, _, rfl, ⟨_, rfl, hsl2 _, fun hne g hg => (hpb hne g hg).imp (fun e => ⟨y, HY.out.2.2.2.2.1, e⟩) (fun e => by omega)⟩, hsn1.put20 hDk1 rfl, (htw.mono (fun k _ hk => ?_)).trans' (ht _) (fun k hk e => by omega), fun g hg => .inl (HVr.out g hg), fun z hz g hg => ?_⟩
        · exact hk
        · rcases HMz.out z hz g hg with e2 | e2
          · exact .inl e2
          · exact .inr (by omega)
    · have hband : bits .and .i64 F.flags 1 = 0 := by
        rcases hfl with e | e | e | e <;> rw [e] at hodd ⊢ <;> first | rfl | (exfalso; omega)
      have HB := Lib.hid hband
      have HOdd := Lib.hid hodd
      clear h1 h2 h3 h4 h5 h6 h7 h8 h9 h10 h11 h12 hDk hq1 hst hfl hxi hFe hln hodd hid0 hlow hbase
      gi_wp2
      obtain ⟨h5, h6, h7, h8, h9, h10, h11, h12, hDk⟩ := HI.out
      have HSn := Lib.hid h5
      have HVr := Lib.hid (show ∀ g, v.ownBlock = some g → v.ownBlock = some g from fun _ hg => hg)
      have HMz := Lib.hid (show ∀ z ∈ ys.set k y', ∀ g, EtB z g → (∃ y ∈ ys, EtB y g) ∨ W2.heap.size ≤ g from fun z hz g hg => by
        rcases List.mem_or_eq_of_mem_set hz with hz | rfl
        · exact .inl ⟨z, hz, hg⟩
        · exact (h11 g hg).imp_left (fun e => ⟨y, HY.out.2.2.2.2.1, e⟩))
      have HMm := Lib.hid (show ∀ z ∈ ys.set k y', ∀ g, EtB z g → g < w.heap.size ∨ W2.heap.size ≤ g from fun z hz g hg => by
        rcases HMz.out z hz g hg with ⟨z2, hz2, e⟩ | e
        · exact .inl ((h.st z2 hz2).lt e)
        · exact .inr e)
      have HE := Lib.hid (show W.heap[w.heap.size + 1 + 1]? = some (.cells #[.int .i64 0, .int .i64 0, .int .i64 0, .slice none 0 0] 34 (0, 0)) ∧ W.heap[w.heap.size + 1 + 1 + 1]? = some (.cells #[.int .i64 F.kind, .int .i64 F.flags, .int .i64 F.stream, .slice pa ln pc] 34 (0, 0)) ∧ Sl .u8 W (.slice pa ln pc) F.pay ∧ (F.pay ≠ [] → ∀ g, (Value.slice pa ln pc).ownBlock = some g → EtB y g ∨ W2.heap.size ≤ g) ∧ Turn (SnB T v ys) w W ∧ (∀ g, EtB y' g → EtB y g ∨ W2.heap.size ≤ g) ∧ W2.heap.size ≤ W.heap.size ∧ W.heap[D]? = some (.deferred (some [])) from
        ⟨h6, h7, h8, h9, h10.mono (fun g _ e => .inr (.inr ⟨y, HY.out.2.2.2.2.1, .inl e⟩)), h11, h12, hDk⟩)
      clear h5 h6 h7 h8 h9 h10 h11 h12 hDk
      go_wp2_with (refine store_fr13 rfl (.tmp 6) (.tmp 62) rfl (w.heap.size + 1 + 1) F pa ln pc _ rfl rfl HE.out.1 rfl ?_)
      rw [Exit.noGoto_ret]
      obtain ⟨hF2, hF3, hsl, hpb, htw, hyb, hwb, hDk⟩ := HE.out
      have hdl := HDl.out
      obtain ⟨hlow, hbase⟩ := HLow.out
      have hDk1 : (W.setRow (w.heap.size + 1 + 1) #[.int .i64 F.kind, .int .i64 F.flags, .int .i64 F.stream, .slice pa ln pc]).heap[D]? = some (.deferred (some [])) := (setRow_other W _ D _ (by omega)).trans hDk
      refine ⟨by simp, .inl ⟨_, _, rfl, run_takeDeferred hDk1, ?_⟩⟩
      have ht : ∀ o', Turn (fun k => k = w.heap.size + 1 + 1 ∨ k = D) W ((W.setRow (w.heap.size + 1 + 1) #[.int .i64 F.kind, .int .i64 F.flags, .int .i64 F.stream, .slice pa ln pc]).putObj D o') := fun o' =>
        ⟨rfl, rfl, rfl, by rw [World.putObj_size]; simp, fun k _ hk => (World.putObj_heap_other (fun e => hk (.inr (by first | exact e | exact e.symm)))).trans (setRow_other W _ k _ (fun e => hk (.inl (by first | exact e | exact e.symm))))⟩
      have ht1 : Turn (fun k => k = w.heap.size + 1 + 1) W (W.setRow (w.heap.size + 1 + 1) #[.int .i64 F.kind, .int .i64 F.flags, .int .i64 F.stream, .slice pa ln pc]) := Turn.of_grown (setRow_grown _ _ _)
      have hpx : ∀ hne : F.pay ≠ [], ∀ g, (Value.slice pa ln pc).ownBlock = some g → g ≠ w.heap.size + 1 + 1 := fun hne g hg e => by
        rcases hpb hne g hg with e2 | e2
        · have := hlow g e2; omega
        · omega
      have hsl1 : Sl .u8 (W.setRow (w.heap.size + 1 + 1) #[.int .i64 F.kind, .int .i64 F.flags, .int .i64 F.stream, .slice pa ln pc]) (.slice pa ln pc) F.pay := hsl.turn0 ht1 (fun hne g hg e => hpx hne g hg e)
      have hsl2 := fun o' => hsl1.put20 (o' := o') hDk1 rfl
      refine ⟨_, results_row_tmp1 rfl _ _ (w.heap.size + 1 + 1) 34 #[.int .i64 F.kind, .int .i64 F.flags, .int .i64 F.stream, .slice pa ln pc] (0, 0) _ rfl ((World.putObj_heap_other (by omega)).trans (setRow_heap _ _ _ _ _ _ hF2)) Try.underlying34 rfl (by kernel_rfl), ?_⟩
      rw [HN.out.1, HN.out.2.1, HN.out.2.2, if_neg HOdd.out]
      have hsn1 := HSn.out.turn ht1 (fun e => by have := h.cells.2.2; omega) (fun g hg e => by have := hv0 g (HVr.out g hg); omega) (fun z hz g hg e => by
        rcases HMm.out z hz g hg with e2 | e2 <;> omega)
      refine ⟨_, _, _, rfl, ⟨_, rfl, hsl2 _, fun hne g hg => (hpb hne g hg).imp (fun e => ⟨y, HY.out.2.2.2.2.1, e⟩) (fun e => by omega)⟩, hsn1.put20 hDk1 rfl, (htw.mono (fun k _ hk => ?_)).trans' (ht _) (fun k hk e => by omega), fun g hg => .inl (HVr.out g hg), fun z hz g hg => ?_⟩
      · exact hk
      · rcases HMz.out z hz g hg with e2 | e2
        · exact .inl e2
        · exact .inr (by omega)
end Go.Proofs.Ytnoegbdmjinfjaa

/-
  Layer 20's program: what is read of no sender (written by wip/tools/gen20n.py).
-/
namespace Go.Proofs.Ytnoegbdmjinfjaa
set_option maxRecDepth 20000
open Go.RowKit Go.Shelf
attribute [local go_sem] Oper.semAt_some

set_option maxHeartbeats 2000000 in
theorem pWaiting20_nil (w : World) : Calls Try.prog 15 #[.pointer none] w fun e w' => e = .returned (.int .i64 0) ∧ Below w.heap.size w w' := by
  refine (callsIn_wide (n := 4)).1 ?_
  refine callsIn_of_wp_marks Try.func15 rfl trivial ?_ rfl
  simp only [Try.ntmps15, List.size_toArray, List.length_cons, List.length_nil, Nat.reduceAdd, Nat.reduceSub, Array.replicate_succ, Array.replicate_zero, List.push_toArray, List.append_toArray, List.nil_append, List.cons_append]
  refine wpIn_wide.2 ?_
  have hb0 : Below w.heap.size w (w.alloc (.cells #[.int .i64 0] 3)) := (Below.refl _ _).alloc (by simp <;> omega) _
  have hsz : (w.alloc (.cells #[.int .i64 0] 3)).heap.size = w.heap.size + 1 := by simp
  go_wp2_with (go_at_call 37; refine (all20_nil _).mono ?_; rintro e W2 ⟨Bb, u, rfl, hBb, hru, hbl, hug, hbw⟩)
  refine (wpIn_wide (n := 4)).1 ?_
  gi_wp2
  have k0 := (hbw.block w.heap.size (by rw [hsz]; omega)).trans (heap_alloc_new w (.cells #[.int .i64 0] 3))
  have hs2 := hbw.size
  rw [hsz] at hs2
  have hbw2 := hb0.trans (hbw.mono hb0.size)
  refine range_seqP (gf := 66) (lb := #[.pointer (some ⟨Bb, 0, none⟩)]) rfl (enters_of Try.func66 (by kernel_rfl) rfl)
    (rise_seq _ _ u [] W2 hBb hru (by simp)) (fun _ => rfl)
    (fun h k => h.trans k)
    (fun W l o o' hl hlo _ => ⟨by rw [World.putObj_size]; exact Nat.le_refl _, fun g hg => World.putObj_heap_other (by have := (hru.lt g hg).2; omega)⟩)
    (fun _ W => Below W2.heap.size W2 W)
    (fun _ _ _ => False)
    (fun _ _ _ _ => True)
    (by rintro s A W h hg; exact h.trans (hg.mono h.size))
    (by rintro s A l o o' h hl hlo hoc; exact h.trans (below_put A o o' (by omega) hlo))
    (by rintro c s A W h; exact h.elim)
    (by rintro c s A l o o' h; exact h.elim)
    ?tTurn1 (Below.refl _ _) ?tAssign1 ?tBody1 ?tDone1 ?tStop1
  case tTurn1 =>
    rintro pre x a' _ A l o o' h hl hlo ho
    trivial
  case tAssign1 =>
    rintro l pre x W K hI hY hK
    exact absurd hY (by simp [NextEt])
  case tBody1 =>
    rintro l pre x a' W _ _ hlen
    exact absurd hlen (by simp)
  case tStop1 =>
    rintro D c pre W hD hcame h
    exact h.elim
  case tDone1 =>
    rintro D xs W hD hcame hI hDk
    have k1 := (hI.block _ (Array.getElem?_eq_some_iff.1 k0).1).trans k0
    have c0 := blk_cell (j := 0) k1 rfl
    have HI := Lib.hid (And.intro hI (And.intro hDk hD))
    clear hI hDk hD k0 k1
    gi_wp2
    go_wp2_with fail
    obtain ⟨hI, hDk, hD⟩ := HI.out
    refine ⟨by simp, .inl ⟨_, _, rfl, run_takeDeferred hDk, ?_⟩⟩
    exact ⟨_, results_tmp rfl _ _ _, rfl, (hbw2.trans (hI.mono hbw2.size)).trans (below_put _ _ _ (by omega) hDk)⟩
set_option maxHeartbeats 2000000 in
theorem pHeads20_nil (w : World) : Calls Try.prog 17 #[.pointer none] w fun e w' => e = .returned (.int .i64 0) ∧ Below w.heap.size w w' := by
  refine (callsIn_wide (n := 4)).1 ?_
  refine callsIn_of_wp_marks Try.func17 rfl trivial ?_ rfl
  simp only [Try.ntmps17, List.size_toArray, List.length_cons, List.length_nil, Nat.reduceAdd, Nat.reduceSub, Array.replicate_succ, Array.replicate_zero, List.push_toArray, List.append_toArray, List.nil_append, List.cons_append]
  refine wpIn_wide.2 ?_
  have hb0 : Below w.heap.size w (w.alloc (.cells #[.int .i64 0] 3)) := (Below.refl _ _).alloc (by simp <;> omega) _
  have hsz : (w.alloc (.cells #[.int .i64 0] 3)).heap.size = w.heap.size + 1 := by simp
  go_wp2_with (go_at_call 37; refine (all20_nil _).mono ?_; rintro e W2 ⟨Bb, u, rfl, hBb, hru, hbl, hug, hbw⟩)
  refine (wpIn_wide (n := 4)).1 ?_
  gi_wp2
  have k0 := (hbw.block w.heap.size (by rw [hsz]; omega)).trans (heap_alloc_new w (.cells #[.int .i64 0] 3))
  have hs2 := hbw.size
  rw [hsz] at hs2
  have hbw2 := hb0.trans (hbw.mono hb0.size)
  refine range_seqP (gf := 66) (lb := #[.pointer (some ⟨Bb, 0, none⟩)]) rfl (enters_of Try.func66 (by kernel_rfl) rfl)
    (rise_seq _ _ u [] W2 hBb hru (by simp)) (fun _ => rfl)
    (fun h k => h.trans k)
    (fun W l o o' hl hlo _ => ⟨by rw [World.putObj_size]; exact Nat.le_refl _, fun g hg => World.putObj_heap_other (by have := (hru.lt g hg).2; omega)⟩)
    (fun _ W => Below W2.heap.size W2 W)
    (fun _ _ _ => False)
    (fun _ _ _ _ => True)
    (by rintro s A W h hg; exact h.trans (hg.mono h.size))
    (by rintro s A l o o' h hl hlo hoc; exact h.trans (below_put A o o' (by omega) hlo))
    (by rintro c s A W h; exact h.elim)
    (by rintro c s A l o o' h; exact h.elim)
    ?tTurn1 (Below.refl _ _) ?tAssign1 ?tBody1 ?tDone1 ?tStop1
  case tTurn1 =>
    rintro pre x a' _ A l o o' h hl hlo ho
    trivial
  case tAssign1 =>
    rintro l pre x W K hI hY hK
    exact absurd hY (by simp [NextEt])
  case tBody1 =>
    rintro l pre x a' W _ _ hlen
    exact absurd hlen (by simp)
  case tStop1 =>
    rintro D c pre W hD hcame h
    exact h.elim
  case tDone1 =>
    rintro D xs W hD hcame hI hDk
    have k1 := (hI.block _ (Array.getElem?_eq_some_iff.1 k0).1).trans k0
    have c0 := blk_cell (j := 0) k1 rfl
    have HI := Lib.hid (And.intro hI (And.intro hDk hD))
    clear hI hDk hD k0 k1
    gi_wp2
    go_wp2_with fail
    obtain ⟨hI, hDk, hD⟩ := HI.out
    refine ⟨by simp, .inl ⟨_, _, rfl, run_takeDeferred hDk, ?_⟩⟩
    exact ⟨_, results_tmp rfl _ _ _, rfl, (hbw2.trans (hI.mono hbw2.size)).trans (below_put _ _ _ (by omega) hDk)⟩
set_option maxHeartbeats 2000000 in
theorem pIDs20_nil (w : World) : Calls Try.prog 13 #[.pointer none] w fun e w' => (∃ a c, e = .returned (.slice a 0 c)) ∧ Below w.heap.size w w' := by
  refine (callsIn_wide (n := 4)).1 ?_
  refine callsIn_of_wp_marks Try.func13 rfl trivial ?_ rfl
  simp only [Try.ntmps13, List.size_toArray, List.length_cons, List.length_nil, Nat.reduceAdd, Nat.reduceSub, Array.replicate_succ, Array.replicate_zero, List.push_toArray, List.append_toArray, List.nil_append, List.cons_append]
  refine wpIn_wide.2 ?_
  have hb0 : Below w.heap.size w (w.alloc (.cells #[.slice none 0 0] 43)) := (Below.refl _ _).alloc (by simp <;> omega) _
  have hsz : (w.alloc (.cells #[.slice none 0 0] 43)).heap.size = w.heap.size + 1 := by simp
  go_wp2_with (go_at_call 37; refine (all20_nil _).mono ?_; rintro e W2 ⟨Bb, u, rfl, hBb, hru, hbl, hug, hbw⟩)
  refine (wpIn_wide (n := 4)).1 ?_
  gi_wp2
  have k0 := (hbw.block w.heap.size (by rw [hsz]; omega)).trans (heap_alloc_new w (.cells #[.slice none 0 0] 43))
  have hs2 := hbw.size
  rw [hsz] at hs2
  have hbw2 := hb0.trans (hbw.mono hb0.size)
  refine range_seqP (gf := 66) (lb := #[.pointer (some ⟨Bb, 0, none⟩)]) rfl (enters_of Try.func66 (by kernel_rfl) rfl)
    (rise_seq _ _ u [] W2 hBb hru (by simp)) (fun _ => rfl)
    (fun h k => h.trans k)
    (fun W l o o' hl hlo _ => ⟨by rw [World.putObj_size]; exact Nat.le_refl _, fun g hg => World.putObj_heap_other (by have := (hru.lt g hg).2; omega)⟩)
    (fun _ W => Below W2.heap.size W2 W)
    (fun _ _ _ => False)
    (fun _ _ _ _ => True)
    (by rintro s A W h hg; exact h.trans (hg.mono h.size))
    (by rintro s A l o o' h hl hlo hoc; exact h.trans (below_put A o o' (by omega) hlo))
    (by rintro c s A W h; exact h.elim)
    (by rintro c s A l o o' h; exact h.elim)
    ?tTurn1 (Below.refl _ _) ?tAssign1 ?tBody1 ?tDone1 ?tStop1
  case tTurn1 =>
    rintro pre x a' _ A l o o' h hl hlo ho
    trivial
  case tAssign1 =>
    rintro l pre x W K hI hY hK
    exact absurd hY (by simp [NextEt])
  case tBody1 =>
    rintro l pre x a' W _ _ hlen
    exact absurd hlen (by simp)
  case tStop1 =>
    rintro D c pre W hD hcame h
    exact h.elim
  case tDone1 =>
    rintro D xs W hD hcame hI hDk
    have k1 := (hI.block _ (Array.getElem?_eq_some_iff.1 k0).1).trans k0
    have c0 := blk_cell (j := 0) k1 rfl
    have HI := Lib.hid (And.intro hI (And.intro hDk hD))
    clear hI hDk hD k0 k1
    gi_wp2
    go_wp2_with fail
    obtain ⟨hI, hDk, hD⟩ := HI.out
    refine ⟨by simp, .inl ⟨_, _, rfl, run_takeDeferred hDk, ?_⟩⟩
    exact ⟨_, results_tmp rfl _ _ _, ⟨_, _, rfl⟩, (hbw2.trans (hI.mono hbw2.size)).trans (below_put _ _ _ (by omega) hDk)⟩
set_option maxHeartbeats 2000000 in
theorem pNext20_nil (room most : Int) (w : World) : Calls Try.prog 25 #[.pointer none, .int .i64 room, .int .i64 most] w fun e w' => e = .returned (.tuple #[.agg #[.int .i64 0, .int .i64 0, .int .i64 0, .slice none 0 0], .bool false]) ∧ Below w.heap.size w w' := by
  refine (callsIn_wide (n := 4)).1 ?_
  refine callsIn_of_wp_marks Try.func25 rfl trivial ?_ rfl
  simp only [Try.ntmps25, List.size_toArray, List.length_cons, List.length_nil, Nat.reduceAdd, Nat.reduceSub, Array.replicate_succ, Array.replicate_zero, List.push_toArray, List.append_toArray, List.nil_append, List.cons_append]
  refine wpIn_wide.2 ?_
  have hb0 : Below w.heap.size w ((((w.alloc (.cells #[.int .i64 room] 3)).alloc (.cells #[.int .i64 most] 3)).alloc (.cells #[.int .i64 0, .int .i64 0, .int .i64 0, .slice none 0 0] 34)).alloc (.cells #[.int .i64 0, .int .i64 0, .int .i64 0, .slice none 0 0] 34)) := ((((Below.refl _ _).alloc (by simp <;> omega) _).alloc (by simp <;> omega) _).alloc (by simp <;> omega) _).alloc (by simp <;> omega) _
  have hsz : ((((w.alloc (.cells #[.int .i64 room] 3)).alloc (.cells #[.int .i64 most] 3)).alloc (.cells #[.int .i64 0, .int .i64 0, .int .i64 0, .slice none 0 0] 34)).alloc (.cells #[.int .i64 0, .int .i64 0, .int .i64 0, .slice none 0 0] 34)).heap.size = w.heap.size + 4 := by simp
  go_wp2_with fail
  go_step3
  go_wp2_with fail
  go_step3
  go_wp2_with (go_at_call 37; refine (all20_nil _).mono ?_; rintro e W2 ⟨Bb, u, rfl, hBb, hru, hbl, hug, hbw⟩)
  refine (wpIn_wide (n := 4)).1 ?_
  gi_wp2
  have A3 := heap_alloc_new ((w.alloc (.cells #[.int .i64 room] 3)).alloc (.cells #[.int .i64 most] 3)) (.cells #[.int .i64 0, .int .i64 0, .int .i64 0, .slice none 0 0] 34)
  have A4 := heap_alloc_new (((w.alloc (.cells #[.int .i64 room] 3)).alloc (.cells #[.int .i64 most] 3)).alloc (.cells #[.int .i64 0, .int .i64 0, .int .i64 0, .slice none 0 0] 34)) (.cells #[.int .i64 0, .int .i64 0, .int .i64 0, .slice none 0 0] 34)
  have S2 : ((w.alloc (.cells #[.int .i64 room] 3)).alloc (.cells #[.int .i64 most] 3)).heap.size = w.heap.size + 1 + 1 := by simp
  have S3 : (((w.alloc (.cells #[.int .i64 room] 3)).alloc (.cells #[.int .i64 most] 3)).alloc (.cells #[.int .i64 0, .int .i64 0, .int .i64 0, .slice none 0 0] 34)).heap.size = w.heap.size + 1 + 1 + 1 := by simp
  rw [S2] at A3
  rw [S3] at A4
  have k2 := (hbw.block (w.heap.size + 1 + 1) (by rw [hsz]; omega)).trans ((Below.heap_alloc _ (.cells #[.int .i64 0, .int .i64 0, .int .i64 0, .slice none 0 0] 34) _ (by rw [S3]; omega)).trans A3)
  have k3 := (hbw.block (w.heap.size + 1 + 1 + 1) (by rw [hsz]; omega)).trans A4
  have hs2 := hbw.size
  rw [hsz] at hs2
  have hbw2 := hb0.trans (hbw.mono hb0.size)
  clear A3 A4 S2 S3
  refine range_seqP (gf := 66) (lb := #[.pointer (some ⟨Bb, 0, none⟩)]) rfl (enters_of Try.func66 (by kernel_rfl) rfl)
    (rise_seq _ _ u [] W2 hBb hru (by simp)) (fun _ => rfl)
    (fun h k => h.trans k)
    (fun W l o o' hl hlo _ => ⟨by rw [World.putObj_size]; exact Nat.le_refl _, fun g hg => World.putObj_heap_other (by have := (hru.lt g hg).2; omega)⟩)
    (fun _ W => Below W2.heap.size W2 W)
    (fun _ _ _ => False)
    (fun _ _ _ _ => True)
    (by rintro s A W h hg; exact h.trans (hg.mono h.size))
    (by rintro s A l o o' h hl hlo hoc; exact h.trans (below_put A o o' (by omega) hlo))
    (by rintro c s A W h; exact h.elim)
    (by rintro c s A l o o' h; exact h.elim)
    ?tTurn1 (Below.refl _ _) ?tAssign1 ?tBody1 ?tDone1 ?tStop1
  case tTurn1 =>
    rintro pre x a' _ A l o o' h hl hlo ho
    trivial
  case tAssign1 =>
    rintro l pre x W K hI hY hK
    exact absurd hY (by simp [NextEt])
  case tBody1 =>
    rintro l pre x a' W _ _ hlen
    exact absurd hlen (by simp)
  case tStop1 =>
    rintro D c pre W hD hcame h
    exact h.elim
  case tDone1 =>
    rintro D xs W hD hcame hI hDk
    have h3 := (hI.block _ (Array.getElem?_eq_some_iff.1 k2).1).trans k2
    have h4 := (hI.block _ (Array.getElem?_eq_some_iff.1 k3).1).trans k3
    have g0 := blk_cell (j := 0) h4 rfl
    have g1 := blk_cell (j := 1) h4 rfl
    have g2 := blk_cell (j := 2) h4 rfl
    have g3 := blk_cell (j := 3) h4 rfl
    have gl := (Array.getElem?_eq_some_iff.1 h4).1
    have HI := Lib.hid (And.intro h3 (And.intro hI (And.intro hDk hD)))
    clear hI hDk hD k2 k3 h3 h4
    gi_wp2
    go_wp2_with (refine store_fr13 rfl (.tmp 6) (.tmp 51) rfl (w.heap.size + 1 + 1) Fr.zero none 0 0 _ rfl rfl HI.out.1 rfl ?_)
    rw [Exit.noGoto_ret]
    obtain ⟨h3, hI, hDk, hD⟩ := HI.out
    have hDk1 : (W.setRow (w.heap.size + 1 + 1) #[.int .i64 Fr.zero.kind, .int .i64 Fr.zero.flags, .int .i64 Fr.zero.stream, .slice none 0 0]).heap[D]? = some (.deferred (some [])) := (setRow_other W _ D _ (by omega)).trans hDk
    refine ⟨by simp, .inl ⟨_, _, rfl, run_takeDeferred hDk1, ?_⟩⟩
    refine ⟨_, results_row_tmp1 rfl _ _ (w.heap.size + 1 + 1) 34 #[.int .i64 Fr.zero.kind, .int .i64 Fr.zero.flags, .int .i64 Fr.zero.stream, .slice none 0 0] (0, 0) _ rfl ((World.putObj_heap_other (by omega)).trans (setRow_heap _ _ _ _ _ _ h3)) Try.underlying34 rfl (by kernel_rfl), ?_⟩
    exact ⟨rfl, (below_setRow (hbw2.trans (hI.mono hbw2.size)) (by omega) _).trans (below_put _ _ _ (by omega) hDk1)⟩
set_option maxHeartbeats 2000000 in
theorem pShift20_nil (d : Int) (w : World) : Calls Try.prog 27 #[.pointer none, .int .i64 d] w fun e w' => e = .returned (.int .i64 0) ∧ Below w.heap.size w w' := by
  refine (callsIn_wide (n := 4)).1 ?_
  refine callsIn_of_wp_marks Try.func27 rfl trivial ?_ rfl
  simp only [Try.ntmps27, List.size_toArray, List.length_cons, List.length_nil, Nat.reduceAdd, Nat.reduceSub, Array.replicate_succ, Array.replicate_zero, List.push_toArray, List.append_toArray, List.nil_append, List.cons_append]
  refine wpIn_wide.2 ?_
  have hb0 : Below w.heap.size w ((w.alloc (.cells #[.int .i64 d] 3)).alloc (.cells #[.int .i64 0] 3)) := ((Below.refl _ _).alloc (by simp <;> omega) _).alloc (by simp <;> omega) _
  have hsz : ((w.alloc (.cells #[.int .i64 d] 3)).alloc (.cells #[.int .i64 0] 3)).heap.size = w.heap.size + 2 := by simp
  go_wp2_with (go_at_call 37; refine (all20_nil _).mono ?_; rintro e W2 ⟨Bb, u, rfl, hBb, hru, hbl, hug, hbw⟩)
  refine (wpIn_wide (n := 4)).1 ?_
  gi_wp2
  have A1 := heap_alloc_new (w.alloc (.cells #[.int .i64 d] 3)) (.cells #[.int .i64 0] 3)
  have S1 : (w.alloc (.cells #[.int .i64 d] 3)).heap.size = w.heap.size + 1 := by simp
  rw [S1] at A1
  have k1 := (hbw.block (w.heap.size + 1) (by rw [hsz]; omega)).trans A1
  have hs2 := hbw.size
  rw [hsz] at hs2
  have hbw2 := hb0.trans (hbw.mono hb0.size)
  clear A1 S1
  refine range_seqP (gf := 66) (lb := #[.pointer (some ⟨Bb, 0, none⟩)]) rfl (enters_of Try.func66 (by kernel_rfl) rfl)
    (rise_seq _ _ u [] W2 hBb hru (by simp)) (fun _ => rfl)
    (fun h k => h.trans k)
    (fun W l o o' hl hlo _ => ⟨by rw [World.putObj_size]; exact Nat.le_refl _, fun g hg => World.putObj_heap_other (by have := (hru.lt g hg).2; omega)⟩)
    (fun _ W => Below W2.heap.size W2 W)
    (fun _ _ _ => False)
    (fun _ _ _ _ => True)
    (by rintro s A W h hg; exact h.trans (hg.mono h.size))
    (by rintro s A l o o' h hl hlo hoc; exact h.trans (below_put A o o' (by omega) hlo))
    (by rintro c s A W h; exact h.elim)
    (by rintro c s A l o o' h; exact h.elim)
    ?tTurn1 (Below.refl _ _) ?tAssign1 ?tBody1 ?tDone1 ?tStop1
  case tTurn1 =>
    rintro pre x a' _ A l o o' h hl hlo ho
    trivial
  case tAssign1 =>
    rintro l pre x W K hI hY hK
    exact absurd hY (by simp [NextEt])
  case tBody1 =>
    rintro l pre x a' W _ _ hlen
    exact absurd hlen (by simp)
  case tStop1 =>
    rintro D c pre W hD hcame h
    exact h.elim
  case tDone1 =>
    rintro D xs W hD hcame hI hDk
    have k2 := (hI.block _ (Array.getElem?_eq_some_iff.1 k1).1).trans k1
    have HI := Lib.hid (And.intro hI (And.intro hDk (And.intro hD k2)))
    clear hI hDk hD k1 k2
    gi_wp2
    go_wp2_with (go_at_call 37; refine (all20_nil _).mono ?_; rintro e W3 ⟨Bc, uc, rfl, hBc, hrc, hbc, huc, hbv⟩)
    refine (wpIn_wide (n := 4)).1 ?_
    gi_wp2
    obtain ⟨hI, hDk, hD, k2⟩ := HI.out
    have k3 := (hbv.block _ (Array.getElem?_eq_some_iff.1 k2).1).trans k2
    have hDk3 := (hbv.block _ (Array.getElem?_eq_some_iff.1 hDk).1).trans hDk
    have hs3 := hbv.size
    have hDW := (Array.getElem?_eq_some_iff.1 hDk).1
    have hbw3 := (hbw2.trans (hI.mono hbw2.size)).trans (hbv.mono (Nat.le_trans hbw2.size hI.size))
    have HK := Lib.hid (And.intro hD (And.intro hDk3 hDW))
    clear hI hDk hD k2 hDk3
    refine range_seqP (gf := 66) (lb := #[.pointer (some ⟨Bc, 0, none⟩)]) rfl (enters_of Try.func66 (by kernel_rfl) rfl)
      (rise_seq _ _ uc [] W3 hBc hrc (by simp)) (fun _ => rfl)
      (fun h k => h.trans k)
      (fun W l o o' hl hlo _ => ⟨by rw [World.putObj_size]; exact Nat.le_refl _, fun g hg => World.putObj_heap_other (by have := (hrc.lt g hg).2; omega)⟩)
      (fun _ W => Below W3.heap.size W3 W)
      (fun _ _ _ => False)
      (fun _ _ _ _ => True)
      (by rintro s A W h hg; exact h.trans (hg.mono h.size))
      (by rintro s A l o o' h hl hlo hoc; exact h.trans (below_put A o o' (by omega) hlo))
      (by rintro c s A W h; exact h.elim)
      (by rintro c s A l o o' h; exact h.elim)
      ?tTurn2 (Below.refl _ _) ?tAssign2 ?tBody2 ?tDone2 ?tStop2
    case tTurn2 =>
      rintro pre x a' _ A l o o' h hl hlo ho
      trivial
    case tAssign2 =>
      rintro l pre x W K hI hY hK
      exact absurd hY (by simp [NextEt])
    case tBody2 =>
      rintro l pre x a' W _ _ hlen
      exact absurd hlen (by simp)
    case tStop2 =>
      rintro D c pre W hD hcame h
      exact h.elim
    case tDone2 =>
      rintro D2 zs W4 hD2 hcame2 hI4 hDk2
      have k4 := (hI4.block _ (Array.getElem?_eq_some_iff.1 k3).1).trans k3
      have e1 := blk_cell (j := 0) k4 rfl
      have f1 := blk_free (j := 0) k4
      have m1 := (Array.getElem?_eq_some_iff.1 k4).1
      have HJ := Lib.hid (And.intro hI4 (And.intro hDk2 (And.intro hD2 k4)))
      clear hI4 hDk2 hD2 k3 k4
      gi_wp2
      go_wp2_with fail
      obtain ⟨hI4, hDk2, hD2, k4⟩ := HJ.out
      obtain ⟨hD, hDk3, hDW⟩ := HK.out
      have hc : ∀ k, k ≠ w.heap.size + 1 → (W4.setCell ⟨w.heap.size + 1, 0, none⟩ (.int .i64 0)).heap[k]? = W4.heap[k]? := fun k hk => Below.heap_setCell _ _ _ _ hk
      have hDk1 : (W4.setCell ⟨w.heap.size + 1, 0, none⟩ (.int .i64 0)).heap[D2]? = some (.deferred (some [])) := (hc _ (by omega)).trans hDk2
      have hDk4 : ∀ o', ((W4.setCell ⟨w.heap.size + 1, 0, none⟩ (.int .i64 0)).putObj D2 o').heap[D]? = some (.deferred (some [])) := fun o' => (World.putObj_heap_other (by omega)).trans ((hc _ (by omega)).trans ((hI4.block _ (by omega)).trans hDk3))
      refine ⟨by simp, .inl ⟨_, _, rfl, run_takeDeferred hDk1, by simp, .inl ⟨_, _, rfl, run_takeDeferred (hDk4 _), ?_⟩⟩⟩
      exact ⟨_, results_cell20 rfl _ _ (w.heap.size + 1) (.int .i64 0) 3 rfl ((World.putObj_heap_other (by omega)).trans ((World.putObj_heap_other (by omega)).trans (by have := heap_setCell_same W4 (w.heap.size + 1) 0 _ _ (.int .i64 0) k4; simpa using this))) (fun _ => by kernel_rfl), rfl, (((hbw3.trans (hI4.mono hbw3.size)).setCell (p := ⟨w.heap.size + 1, 0, none⟩) (by show w.heap.size ≤ w.heap.size + 1; omega) _).trans (below_put _ _ _ (by omega) hDk1)).trans (below_put _ _ _ (by omega) (hDk4 _))⟩
end Go.Proofs.Ytnoegbdmjinfjaa

/-
  Layer 20's program: Data, and all contracts in one form (written by wip/tools/gen20u.py).
-/
namespace Go.Proofs.Ytnoegbdmjinfjaa
set_option maxRecDepth 20000
open Go.RowKit Go.Shelf
attribute [local go_sem] Oper.semAt_some

section
variable {T : Nat} {B : Nat → Prop} {q : Sd} {w : World}
set_option maxHeartbeats 4000000 in
theorem pData20 (id : Int) (bv : Value) (zs : List Int) (last : Bool) (h : SdAt w T B q) (hb : Sl .u8 w bv zs) (_ : zs ≠ [] → ∀ g, bv.ownBlock = some g → ¬ B g) (hq : Small20 q) (_ : (Lit.int .i64 id).wf = true) (hz : zs.length ≤ 1000000) : Calls Try.prog 23 #[.pointer (some ⟨T, 0, none⟩), .int .i64 id, bv, .bool last] w fun e w' => ∃ B', e = .returned (.int .i64 (dataE20 q id zs)) ∧ SdAt w' T B' (dataQ20 q id zs last) ∧ Turn B w w' ∧ ∀ g, B' g → B g ∨ w.heap.size ≤ g := by
  have h0 := h
  obtain ⟨v, ys, h, hB⟩ := h
  have hl : ys.length ≤ 1000 := by have := hq.1; rwa [h.len] at this
  have hbs : ∀ y ∈ ys, y.x.b.length ≤ 1000000 := fun y hy => (hq.2 y.x (by rw [h.e]; exact List.mem_map.2 ⟨y, hy, rfl⟩)).2.1
  have hsum : sumB q.l ≤ 1000000000 := Nat.le_trans (sumB_le 1000000 q.l (fun x hx => (hq.2 x hx).2.1)) (by have := hq.1; omega)
  by_cases ha : q.l.any (hasId id) = true
  · obtain ⟨k, y, hy, rfl, _, hg, hp⟩ := h.find ha
    have HS := Lib.hid (stream20_yes h (by omega) hy)
    have HH := Lib.hid (And.intro h (And.intro hB (And.intro hy (And.intro hl hbs))))
    have H0 := Lib.hid h0
    have HZ := Lib.hid (And.intro hb hz)
    obtain ⟨sd, hsd⟩ : ∃ sd, y.x.said = sd := ⟨_, rfl⟩
    obtain ⟨fi, hfi⟩ : ∃ fi, y.x.fin = fi := ⟨_, rfl⟩
    obtain ⟨L, hL⟩ : ∃ L, zs.length = L := ⟨_, rfl⟩
    obtain ⟨ab, cb, hbe, _⟩ := _root_.id hb
    rw [hL] at hbe
    subst hbe
    have HSd := Lib.hid (And.intro hsd hfi)
    by_cases hok : sd = true ∧ fi = false
    · obtain ⟨rfl, rfl⟩ := hok
      obtain ⟨sw, hsw⟩ : ∃ sw, sumB q.l = sw := ⟨_, rfl⟩
      obtain ⟨cap, hcap⟩ : ∃ cap, q.cap = cap := ⟨_, rfl⟩
      have HSw := Lib.hid hsw
      have HCp := Lib.hid hcap
      obtain ⟨fb, hfb⟩ : ∃ fb, decide (cap < (sw : Int) + (L : Int)) = fb := ⟨_, rfl⟩
      have HFb := Lib.hid hfb
      have hw1 : IntKind.i64.wrap ((sw : Int) + (L : Int)) = (sw : Int) + (L : Int) := wrap_i64_small (by omega) (by omega)
      have e0 : dataE20 q y.x.id zs = if fb = true then 4 else 0 := by
        unfold dataE20
        rw [hg]
        dsimp only
        rw [if_pos ⟨hsd, hfi⟩, hsw, hcap, hL, ← hfb]
        by_cases c : cap < (sw : Int) + (L : Int)
        · rw [if_pos c, if_pos (decide_eq_true c)]
        · rw [if_neg c, if_neg (by rw [decide_eq_false c]; decide)]
      have HE := Lib.hid (show dataE20 q y.x.id zs = (if fb = true then 4 else 0) ∧ dataQ20 q y.x.id zs last = (if fb = true then q else { q with l := q.l.set k { y.x with b := y.x.b ++ zs, fin := last } }) from ⟨e0, by
        unfold dataQ20
        rw [hg]
        dsimp only
        rw [e0]
        cases fb
        · simp [hp]
        · simp⟩)
      clear h h0 hB hy hg hp hq hl ha hb hz e0 hL hsd hfi hsw hcap hfb hbs hsum
      go_enter Try.func23, Try.ntmps23
      go_wp2_with fail
      refine HS.out.mono ?_
      rintro e w1 ⟨rfl, hb1⟩
      have ho := (HH.out.1.st y (List.mem_of_getElem? HH.out.2.2.1)).below hb1
      obtain ⟨_, _, f2, _, f4, _, _, f7⟩ := ho.blk.cells
      rw [HSd.out.1] at f2
      rw [HSd.out.2] at f4
      have HB1 := Lib.hid hb1
      clear hb1 ho
      go_wp2_with fail
      refine wp_region_table 10 [34, 35, 36, 37, 38, 39, 40, 41, 42, 43] [[], [(0, 34)], [], [(2, 36)], [(1, 35), (3, 37)], [], [(5, 39)], [(6, 40)], [(7, 41)], [(4, 38), (8, 42)]]
        (fun i v w' => match i with
          | 0 => v = .pointer (some ⟨T, 0, none⟩)
          | 1 => v = .int .i64 (sw : Int)
          | 2 => v = .slice ab L cb
          | 3 => v = .int .i64 (L : Int)
          | 4 => v = .int .i64 ((sw : Int) + (L : Int))
          | 5 => v = .pointer (some ⟨T, 0, none⟩)
          | 6 => v = .pointer (some ⟨T, 0, none⟩)
          | 7 => v = .pointer (some ⟨T, 0, none⟩)
          | 8 => v = .int .i64 cap
          | 9 => v = .bool fb
          | _ => True) (by kernel_rfl) (by kernel_rfl) ?tStab ?tOps ?tRest
      case tStab =>
        intro i v w3 w4 h hb
        match i, h with
        | 0, h | 1, h | 2, h | 3, h | 4, h | 5, h | 6, h | 7, h | 8, h | 9, h => exact h
        | i + 10, _ => trivial
      case tOps =>
        simp only [List.take_succ_cons, List.take_zero, opsOk]
        refine ⟨?_, ?_, ?_, ?_, ?_, ?_, ?_, ?_, ?_, ?_, trivial⟩
        · intro ρ w3 hc hf ho hB hj
          have x0 : ρ (.tmp 0) = .pointer (some ⟨T, 0, none⟩) := ho 0 (by decide)
          simp [gives, go_sem, x0, Below.refl]
        · intro ρ w3 hc hf ho hB hj
          have x0 : ρ (.tmp 34) = .pointer (some ⟨T, 0, none⟩) := hj (0, 34) (by simp)
          simp [gives, go_sem, x0, hf]
          exact (waiting20_any T v ys q w3 ((HH.out.1.below HB1.out).below hB) (by have := HH.out.2.2.2.1; omega) HH.out.2.2.2.2).mono fun e w' ⟨h1, h2⟩ => ⟨.int .i64 (sw : Int), by rw [h1, HSw.out], rfl, h2⟩
        · intro ρ w3 hc hf ho hB hj
          have x0 : ρ (.tmp 2) = .slice ab L cb := ho 2 (by decide)
          simp [gives, go_sem, x0, Below.refl]
        · intro ρ w3 hc hf ho hB hj
          have x0 : ρ (.tmp 36) = .slice ab L cb := hj (2, 36) (by simp)
          simp [gives, go_sem, x0, Below.refl]
        · intro ρ w3 hc hf ho hB hj
          have x0 : ρ (.tmp 35) = .int .i64 (sw : Int) := hj (1, 35) (by simp)
          have x1 : ρ (.tmp 37) = .int .i64 (L : Int) := hj (3, 37) (by simp)
          simp [gives, go_sem, x0, x1, hw1, Below.refl]
        · intro ρ w3 hc hf ho hB hj
          have x0 : ρ (.tmp 0) = .pointer (some ⟨T, 0, none⟩) := ho 0 (by decide)
          simp [gives, go_sem, x0, Below.refl]
        · intro ρ w3 hc hf ho hB hj
          have x0 : ρ (.tmp 39) = .pointer (some ⟨T, 0, none⟩) := hj (5, 39) (by simp)
          simp [gives, go_sem, x0, Below.refl]
        · intro ρ w3 hc hf ho hB hj
          have x0 : ρ (.tmp 40) = .pointer (some ⟨T, 0, none⟩) := hj (6, 40) (by simp)
          simp [gives, go_sem, x0, Below.refl]
        · intro ρ w3 hc hf ho hB hj
          have x0 : ρ (.tmp 41) = .pointer (some ⟨T, 0, none⟩) := hj (7, 41) (by simp)
          have cc := ((HH.out.1.below HB1.out).below hB).cells.1
          rw [HCp.out] at cc
          simp [gives, go_sem, x0, cc, Below.refl]
        · intro ρ w3 hc hf ho hB hj
          have x0 : ρ (.tmp 38) = .int .i64 ((sw : Int) + (L : Int)) := hj (4, 38) (by simp)
          have x1 : ρ (.tmp 42) = .int .i64 cap := hj (8, 42) (by simp)
          have i1 := HFb.out
          simp [gives, go_sem, x0, x1, i1, Below.refl]
      case tRest =>
        intro X w3 hBw hX
        have x0 : X 0 = .pointer (some ⟨T, 0, none⟩) := hX 0 (by decide)
        have x1 : X 1 = .int .i64 (sw : Int) := hX 1 (by decide)
        have x2 : X 2 = .slice ab L cb := hX 2 (by decide)
        have x3 : X 3 = .int .i64 (L : Int) := hX 3 (by decide)
        have x4 : X 4 = .int .i64 ((sw : Int) + (L : Int)) := hX 4 (by decide)
        have x5 : X 5 = .pointer (some ⟨T, 0, none⟩) := hX 5 (by decide)
        have x6 : X 6 = .pointer (some ⟨T, 0, none⟩) := hX 6 (by decide)
        have x7 : X 7 = .pointer (some ⟨T, 0, none⟩) := hX 7 (by decide)
        have x8 : X 8 = .int .i64 cap := hX 8 (by decide)
        have x9 : X 9 = .bool fb := hX 9 (by decide)
        simp only [putAll, List.getD_cons_zero, List.getD_cons_succ, Act.put, List.setIfInBounds_toArray, List.set_cons_zero, List.set_cons_succ, List.drop_succ_cons, List.drop_zero]
        rw [x0, x1, x2, x3, x4, x5, x6, x7, x8, x9]
        have HBw := Lib.hid (HB1.out.trans (hBw.mono HB1.out.size))
        clear hBw hX x0 x1 x2 x3 x4 x5 x6 x7 x8 x9 f2 f4 f7
        cases fb with
        | true =>
          go_wp2_with fail
          go_ret
          have r1 : SdAt w3 T B (dataQ20 q y.x.id zs last) := by have h9 := HE.out.2; simp only [if_true] at h9; rw [h9]; exact H0.out.below HBw.out
          first
          | exact ⟨B, by rw [HE.out.1]; rfl, r1, Turn.of_below HBw.out, fun g hg => .inl hg⟩
          | exact ⟨by rw [HE.out.1]; rfl, B, r1, Turn.of_below HBw.out, fun g hg => .inl hg⟩
        | false =>
          have ho := (HH.out.1.st y (List.mem_of_getElem? HH.out.2.2.1)).below HBw.out
          have HC := Lib.hid (sayData20_any y _ zs last w3 ho (HZ.out.1.below HBw.out) (HH.out.2.2.2.2 y (List.mem_of_getElem? HH.out.2.2.1)) HZ.out.2)
          clear ho
          go_wp2_with fail
          refine HC.out.mono ?_
          rintro e w5 ⟨rfl, y', hs, hx⟩
          have HF := Lib.hid (And.intro hs hx)
          clear hs hx
          go_wp2_with fail
          go_ret
          obtain ⟨B', h1, h2, h3⟩ := (HH.out.1.below HBw.out).stepped HH.out.2.1 HH.out.2.2.1 HF.out.1 (by rw [HF.out.2]; exact HH.out.1.wr y (List.mem_of_getElem? HH.out.2.2.1))
          rw [HF.out.2] at h1
          have r1 : SdAt w5 T B' (dataQ20 q y.x.id zs last) := by have h9 := HE.out.2; simp only [Bool.false_eq_true, if_false] at h9; rw [h9]; exact h1
          first
          | exact ⟨B', by rw [HE.out.1]; rfl, r1, (Turn.of_below HBw.out).trans h2, fun g hg => (h3 g hg).imp_right (fun e => Nat.le_trans HBw.out.size e)⟩
          | exact ⟨by rw [HE.out.1]; rfl, B', r1, (Turn.of_below HBw.out).trans h2, fun g hg => (h3 g hg).imp_right (fun e => Nat.le_trans HBw.out.size e)⟩
    · have e1 : dataE20 q y.x.id zs = 6 := by unfold dataE20; rw [hg]; dsimp only; rw [hsd, hfi]; exact if_neg hok
      have HE := Lib.hid (show dataE20 q y.x.id zs = 6 ∧ dataQ20 q y.x.id zs last = q from ⟨e1, by unfold dataQ20; rw [hg]; dsimp only; rw [e1, if_neg (by decide)]⟩)
      have hcase : sd = false ∨ (sd = true ∧ fi = true) := by cases sd <;> cases fi <;> simp_all
      clear h h0 hB hy hg hp hq hl ha hb hz e1 hL hsd hfi hok hbs hsum
      rcases hcase with rfl | ⟨rfl, rfl⟩
      all_goals
        go_enter Try.func23, Try.ntmps23
        go_wp2_with fail
        refine HS.out.mono ?_
        rintro e w1 ⟨rfl, hb1⟩
        obtain ⟨_, _, f2, _, f4, _, _, f7⟩ := ((HH.out.1.st y (List.mem_of_getElem? HH.out.2.2.1)).below hb1).blk.cells
        rw [HSd.out.1] at f2
        rw [HSd.out.2] at f4
        have HB := Lib.hid hb1
        clear hb1
        go_wp2_with fail
        go_ret
        have r1 : SdAt w1 T B (dataQ20 q y.x.id zs last) := by rw [HE.out.2]; exact H0.out.below HB.out
        first
        | exact ⟨B, by rw [HE.out.1]; rfl, r1, Turn.of_below HB.out, fun g hg => .inl hg⟩
        | exact ⟨by rw [HE.out.1]; rfl, B, r1, Turn.of_below HB.out, fun g hg => .inl hg⟩
  · have ha : q.l.any (hasId id) = false := by simpa using ha
    have HS := Lib.hid (stream20_no id h (by omega) (h.noId ha))
    have e1 : dataE20 q id zs = 5 := by unfold dataE20; rw [get20_none ha]
    have HE := Lib.hid (show dataE20 q id zs = 5 ∧ dataQ20 q id zs last = q from ⟨e1, by unfold dataQ20; rw [get20_none ha]⟩)
    have H0 := Lib.hid h0
    obtain ⟨ab, cb, rfl, _⟩ := _root_.id hb
    clear h h0 hB hq hl ha hb hz e1 hbs hsum
    go_enter Try.func23, Try.ntmps23
    go_wp2_with fail
    refine HS.out.mono ?_
    rintro e w1 ⟨rfl, hb1⟩
    have HB := Lib.hid hb1
    clear hb1
    go_wp2_with fail
    go_ret
    exact ⟨B, by rw [HE.out.1]; rfl, by rw [HE.out.2]; exact H0.out.below HB.out, Turn.of_below HB.out, fun g hg => .inl hg⟩
theorem mvE_blk {ys : List Et} {d : Int} {z : Et} (hz : z ∈ ys.map (mvE d)) {g : Nat} (hg : EtB z g) : ∃ y ∈ ys, EtB y g := by
  obtain ⟨y, hy, rfl⟩ := List.mem_map.1 hz
  exact ⟨y, hy, hg⟩
theorem pShift20 (d : Int) (h : SdAt w T B q) (hq : Small20 q) (_ : (Lit.int .i64 d).wf = true) : Calls Try.prog 27 #[.pointer (some ⟨T, 0, none⟩), .int .i64 d] w fun e w' => ∃ B', e = .returned (.int .i64 (shiftN q.l d)) ∧ SdAt w' T B' (shiftS q d) ∧ Turn B w w' ∧ ∀ g, B' g → B g ∨ w.heap.size ≤ g := by
  have h0 := h
  obtain ⟨v, ys, h, hB⟩ := h
  refine (shift20_any T v ys q d w h (by have := hq.1; rwa [h.len] at this)).mono ?_
  rintro e w' ⟨rfl, ⟨hall, hsn, ht⟩ | ⟨hno, hb⟩⟩
  · obtain ⟨B', h1, h2⟩ := hsn.at (w := w) hB (fun g hg => .inl hg) (fun z hz g hg => .inl (mvE_blk hz hg))
    refine ⟨B', rfl, ?_, ht.mono (fun g _ e => ?_), h2⟩
    · rw [(shift_ok hall).2, h.e, List.map_map]
      rw [List.map_map] at h1
      exact h1
    · obtain ⟨y, hy, e⟩ := e
      exact (hB g).2 (.inr (.inr ⟨y, hy, .inl (.inl e)⟩))
  · refine ⟨B, rfl, ?_, Turn.of_below hb, fun g hg => .inl hg⟩
    rw [shiftS, if_neg (by rw [hno]; decide)]
    exact h0.below hb
theorem pNext20 (room most : Int) (h : SdAt w T B q) (hF : (Lit.int .i64 room).wf = true ∧ (Lit.int .i64 most).wf = true) (hq : Small20 q) : Calls Try.prog 25 #[.pointer (some ⟨T, 0, none⟩), .int .i64 room, .int .i64 most] w fun e w' => ∃ fv B', e = .returned (.tuple #[fv, .bool (nextO q room most)]) ∧ FrK w' fv (nextF20 q room most) (fun g => B g ∨ w.heap.size ≤ g) ∧ SdAt w' T B' (nextS q room most) ∧ Turn B w w' ∧ ∀ g, B' g → B g ∨ w.heap.size ≤ g := by
  obtain ⟨v, ys, h, hB⟩ := h
  refine (next20_any T v ys q room most w h (by have := hq.1; rwa [h.len] at this) hF (fun y hy => (hq.2 y.x (by rw [h.e]; exact List.mem_map.2 ⟨y, hy, rfl⟩)).2.1)).mono ?_
  rintro e w' ⟨fv, v', ys', rfl, ⟨pv, hfv, hsl, hpv⟩, hsn, ht, hv, hy⟩
  obtain ⟨B', h1, h2⟩ := hsn.at (w := w) hB hv hy
  exact ⟨fv, B', rfl, ⟨pv, hfv, hsl, fun hne g hg => (hpv hne g hg).imp_left (fun e => (hB g).2 (.inr (.inr e)))⟩, h1, ht.mono (fun g _ e => (hB g).2 e), h2⟩
theorem pIDs20 (h : SdAt w T B q) (hq : Small20 q) : Calls Try.prog 13 #[.pointer (some ⟨T, 0, none⟩)] w fun e w' => ∃ v, e = .returned v ∧ Sl .i64 w' v (q.l.map (·.id)) ∧ Below w.heap.size w w' ∧ ∀ g, v.ownBlock = some g → w.heap.size ≤ g := by
  obtain ⟨v, ys, h, _⟩ := h
  exact ids20_any T v ys q w h (by have := hq.1; rwa [h.len] at this)
theorem pWaiting20 (h : SdAt w T B q) (hq : Small20 q) : Calls Try.prog 15 #[.pointer (some ⟨T, 0, none⟩)] w fun e w' => e = .returned (.int .i64 (sumB q.l : Nat)) ∧ Below w.heap.size w w' := by
  obtain ⟨v, ys, h, _⟩ := h
  exact waiting20_any T v ys q w h (by have := hq.1; rwa [h.len] at this) (fun y hy => (hq.2 y.x (by rw [h.e]; exact List.mem_map.2 ⟨y, hy, rfl⟩)).2.1)
theorem pHeads20 (h : SdAt w T B q) (hq : Small20 q) : Calls Try.prog 17 #[.pointer (some ⟨T, 0, none⟩)] w fun e w' => e = .returned (.int .i64 (sumH q.l : Nat)) ∧ Below w.heap.size w w' := by
  obtain ⟨v, ys, h, _⟩ := h
  exact heads20_any T v ys q w h (by have := hq.1; rwa [h.len] at this) (fun y hy => (hq.2 y.x (by rw [h.e]; exact List.mem_map.2 ⟨y, hy, rfl⟩)).2.2)
end
theorem pOpen20_nil (id win : Int) (w : World) : Calls Try.prog 22 #[.pointer none, .int .i64 id, .int .i64 win] w fun e w' => e = .returned (.int .i64 1) ∧ Below w.heap.size w w' := by
  go_enter Try.func22, Try.ntmps22
  go_wp2_with fail
  go_ret
  exact ⟨rfl, Below.refl _ _⟩
theorem pHead20_nil (id : Int) (bv : Value) (zs : List Int) (last : Bool) (w : World) (hb : Sl .u8 w bv zs) : Calls Try.prog 24 #[.pointer none, .int .i64 id, bv, .bool last] w fun e w' => e = .returned (.int .i64 1) ∧ Below w.heap.size w w' := by
  obtain ⟨ab, cb, rfl, _⟩ := _root_.id hb
  clear hb
  have HN := Lib.hid (stream20_nil id w)
  go_enter Try.func24, Try.ntmps24
  go_wp2_with fail
  refine HN.out.mono ?_
  rintro e w1 ⟨rfl, rfl⟩
  go_wp2_with fail
  go_ret
  exact ⟨rfl, Below.refl _ _⟩
theorem pData20_nil (id : Int) (bv : Value) (zs : List Int) (last : Bool) (w : World) (hb : Sl .u8 w bv zs) : Calls Try.prog 23 #[.pointer none, .int .i64 id, bv, .bool last] w fun e w' => e = .returned (.int .i64 1) ∧ Below w.heap.size w w' := by
  obtain ⟨ab, cb, rfl, _⟩ := _root_.id hb
  clear hb
  have HN := Lib.hid (stream20_nil id w)
  go_enter Try.func23, Try.ntmps23
  go_wp2_with fail
  refine HN.out.mono ?_
  rintro e w1 ⟨rfl, rfl⟩
  go_wp2_with fail
  go_ret
  exact ⟨rfl, Below.refl _ _⟩
theorem pGrow20_nil (id n : Int) (w : World) : Calls Try.prog 26 #[.pointer none, .int .i64 id, .int .i64 n] w fun e w' => e = .returned (.tuple #[.bool false, .int .i64 1]) ∧ Below w.heap.size w w' := by
  have HN := Lib.hid (stream20_nil id w)
  go_enter Try.func26, Try.ntmps26
  go_wp2_with fail
  refine HN.out.mono ?_
  rintro e w1 ⟨rfl, rfl⟩
  go_wp2_with fail
  go_ret2
  exact ⟨rfl, Below.refl _ _⟩
theorem pDrop20_nil (id : Int) (w : World) : Calls Try.prog 28 #[.pointer none, .int .i64 id] w fun e w' => e = .returned (.int .i64 1) ∧ Below w.heap.size w w' := by
  have HN := Lib.hid (stream20_nil id w)
  go_enter Try.func28, Try.ntmps28
  go_wp2_with fail
  refine HN.out.mono ?_
  rintro e w1 ⟨rfl, rfl⟩
  go_wp2_with fail
  go_ret
  exact ⟨rfl, Below.refl _ _⟩
end Go.Proofs.Ytnoegbdmjinfjaa

/-
  Acts of layer 20: a byte, three numbers, bytes, whether they are the last. No program is named here.
-/
namespace Go.Proofs.Ytnoegbdmjinfjaa
open Go.RowKit

structure A20 where
  k : Int
  id : Int
  n : Int
  m : Int
  b : List Int × Value
  last : Bool
def a20C (x : A20) : List Value := [.int .u8 x.k, .int .i64 x.id, .int .i64 x.n, .int .i64 x.m, x.b.2, .bool x.last]
/-- what is known of an act's parts -/
structure Ok20 (w : World) (x : A20) : Prop where
  s : Sl .u8 w x.b.2 x.b.1
  k0 : 0 ≤ x.k
  k1 : x.k ≤ 255
  wi : (Lit.int .i64 x.id).wf = true
  wn : (Lit.int .i64 x.n).wf = true
  wm : (Lit.int .i64 x.m).wf = true
def SlA20 (w : World) (v : Value) (ys : List A20) : Prop := SlC a20C 6 w v ys ∧ ∀ x ∈ ys, Ok20 w x
theorem Ok20.below {w w' : World} {x : A20} (h : Ok20 w x) (hb : Below w.heap.size w w') : Ok20 w' x := ⟨h.s.below hb, h.k0, h.k1, h.wi, h.wn, h.wm⟩
theorem SlA20.below {w w' : World} {v : Value} {ys : List A20} (h : SlA20 w v ys) (hb : Below w.heap.size w w') : SlA20 w' v ys := ⟨h.1.below hb, fun x hx => (h.2 x hx).below hb⟩
end Go.Proofs.Ytnoegbdmjinfjaa

/-
  Layer 20's acts on the machine: what each tells, what it leaves; what stays small.
-/
namespace Go.Proofs.Ytnoegbdmjinfjaa
open Go.RowKit

def aF (s : Sd) (x : A20) : Fr := if 7 ≤ x.k % 10 then nextF20 s x.n x.m else Fr.zero
def aN (s : Sd) (x : A20) : Int := if x.k % 10 = 5 then shiftN s.l x.n else 0
def aI (s : Sd) (x : A20) : Bool := if x.k % 10 = 4 then growO20 s x.id x.n else if 7 ≤ x.k % 10 then nextO s x.n x.m else false
def aE (s : Sd) (x : A20) : Int :=
  if x.k % 10 = 0 then openE20 s x.id x.n else if x.k % 10 = 1 then headE20 s x.id x.b.1 else if x.k % 10 = 2 ∨ x.k % 10 = 3 then dataE20 s x.id x.b.1 else if x.k % 10 = 4 then growE20 s x.id else if x.k % 10 = 6 then dropE20 s x.id else 0
def aQ (s : Sd) (x : A20) : Sd :=
  if x.k % 10 = 0 then openQ20 s x.id x.n else if x.k % 10 = 1 then headQ20 s x.id x.b.1 x.last else if x.k % 10 = 2 ∨ x.k % 10 = 3 then dataQ20 s x.id x.b.1 x.last else if x.k % 10 = 4 then growQ20 s x.id x.n else if x.k % 10 = 5 then shiftS s x.n else if x.k % 10 = 6 then dropS s x.id else nextS s x.n x.m
/-- behind k acts -/
structure One20 (k : Nat) (x : Sm) : Prop where
  i : 1 ≤ x.id ∧ x.id ≤ 2147483647
  w : winB x.win = true
  b : x.b.length ≤ 300 * k
  h : x.head.length ≤ 300
structure Inv20 (k : Nat) (s : Sd) : Prop where
  n : s.l.length ≤ k
  o : ∀ x ∈ s.l, One20 k x
theorem One20.up {k : Nat} {x : Sm} (h : One20 k x) : One20 (k + 1) x := ⟨h.i, h.w, by have := h.b; omega, h.h⟩
theorem Inv20.up {k : Nat} {s : Sd} (h : Inv20 k s) : Inv20 (k + 1) s := ⟨by have := h.n; omega, fun x hx => (h.o x hx).up⟩
theorem Inv20.new (cap : Int) : Inv20 0 ⟨cap, []⟩ := ⟨Nat.le_refl _, fun x hx => by cases hx⟩
theorem Inv20.small {k : Nat} {s : Sd} (h : Inv20 k s) (hk : k ≤ 1000) : Small20 s := ⟨by have := h.n; omega, fun x hx => by
  have h1 := h.o x hx
  have h2 := winB_rng h1.w
  have h3 := h1.b
  have h4 := h1.h
  exact ⟨by omega, by omega, by omega⟩⟩
theorem Inv20.ids {k : Nat} {s : Sd} (h : Inv20 k s) : ∀ x ∈ s.l, (Lit.int .i64 x.id).wf = true := fun x hx => by
  have h1 := (h.o x hx).i
  exact WalkArith.wf_i64 (by omega)
theorem insS_mem {v y : Sm} : ∀ {l : List Sm}, y ∈ insS v l → y = v ∨ y ∈ l
  | [], h => .inl (by simpa [insS] using h)
  | z :: r, h => by
    unfold insS at h
    split at h
    · rcases List.mem_cons.1 h with rfl | h
      · exact .inl rfl
      · exact .inr h
    · rcases List.mem_cons.1 h with rfl | h
      · exact .inr List.mem_cons_self
      · exact (insS_mem h).imp_right (List.mem_cons_of_mem _)
theorem insS_len (v : Sm) : ∀ l : List Sm, (insS v l).length = l.length + 1
  | [] => rfl
  | y :: r => by
    unfold insS
    split
    · rfl
    · rw [List.length_cons, List.length_cons, insS_len v r]
theorem Inv20.set {k : Nat} {s : Sd} (h : Inv20 k s) (i : Nat) {x : Sm} (hx : One20 (k + 1) x) : Inv20 (k + 1) { s with l := s.l.set i x } :=
  ⟨by have := h.n; show (s.l.set i x).length ≤ k + 1; rw [List.length_set]; omega, fun y hy => by
    rcases List.mem_or_eq_of_mem_set hy with hy | rfl
    · exact (h.o y hy).up
    · exact hx⟩
theorem Inv20.drop {k : Nat} {s : Sd} (h : Inv20 k s) (id : Int) : Inv20 k (dropS s id) := ⟨Nat.le_trans (List.length_filter_le _ _) h.n, fun y hy => h.o y (List.mem_filter.1 hy).1⟩
theorem get20_mem {s : Sd} {id : Int} {x : Sm} (h : get20 s id = some x) : x ∈ s.l := List.mem_of_find?_eq_some h
theorem growW_ok {w n : Int} (h : winB w = true) : winB (growW w n).1 = true := by
  have := winB_rng h
  unfold growW
  split
  · exact decide_eq_true (by dsimp only; omega)
  · exact h
theorem shiftW_ok {w n : Int} (h : winB w = true) : winB (shiftW w n).1 = true := by
  unfold shiftW
  split
  · rename_i h1; exact h1.2.2.2
  · exact h
theorem frX_one {k : Nat} {x : Sm} (h : One20 k x) (room most : Int) : One20 k (frX x room most) := by
  unfold frX
  split
  · exact ⟨h.i, h.w, h.b, by simp⟩
  · split
    · exact h
    · split
      · exact h
      · rename_i hz
        have h1 := frN_rng x room most
        have h2 := winB_rng h.w
        refine ⟨h.i, decide_eq_true (by have := h1.2.2 hz; dsimp only; omega), ?_, h.h⟩
        have := h.b
        show (x.b.drop _).length ≤ _
        rw [List.length_drop]
        omega
theorem Inv20.act {k : Nat} {s : Sd} (h : Inv20 k s) {x : A20} (hb : x.b.1.length ≤ 300) : Inv20 (k + 1) (aQ s x) := by
  unfold aQ
  split
  · unfold openQ20
    split
    · rename_i h0
      have h1 : 1 ≤ x.id ∧ x.id ≤ 2147483647 ∧ winB x.n = true := by
        unfold openE20 at h0
        split at h0
        · rename_i h2; exact h2
        · cases h0
      refine ⟨by have := h.n; show (insS _ s.l).length ≤ _; rw [insS_len]; omega, fun y hy => ?_⟩
      rcases insS_mem hy with rfl | hy
      · exact ⟨⟨h1.1, h1.2.1⟩, h1.2.2, by simp, by simp⟩
      · exact (h.o y hy).up
    · exact h.up
  · split
    · unfold headQ20
      split
      · exact h.up
      · rename_i y hy
        split
        · have h1 := (h.o y (get20_mem hy)).up
          exact h.set _ ⟨h1.i, h1.w, h1.b, hb⟩
        · exact h.up
    · split
      · unfold dataQ20
        split
        · exact h.up
        · rename_i y hy
          split
          · have h0 := h.o y (get20_mem hy)
            have h1 := h0.up
            refine h.set _ ⟨h1.i, h1.w, ?_, h1.h⟩
            have := h0.b
            show (y.b ++ x.b.1).length ≤ _
            rw [List.length_append]
            omega
          · exact h.up
      · split
        · unfold growQ20
          split
          · exact h.up
          · rename_i y hy
            have h1 := (h.o y (get20_mem hy)).up
            exact h.set _ ⟨h1.i, growW_ok h1.w, h1.b, h1.h⟩
        · split
          · unfold shiftS
            split
            · refine ⟨by have := h.n; show (s.l.map _).length ≤ _; rw [List.length_map]; omega, fun y hy => ?_⟩
              obtain ⟨z, hz, rfl⟩ := List.mem_map.1 hy
              have h1 := (h.o z hz).up
              exact ⟨h1.i, shiftW_ok h1.w, h1.b, h1.h⟩
            · exact h.up
          · split
            · exact (h.drop _).up
            · unfold nextS
              split
              · rename_i y hy
                have h1 := frX_one (h.o y (List.mem_of_find?_eq_some hy)).up x.n x.m
                split
                · exact (h.set _ h1).drop _
                · exact h.set _ h1
              · exact h.up
end Go.Proofs.Ytnoegbdmjinfjaa

/-
  Layer 20's live question (written by wip/tools/gen20a.py).
-/
namespace Go.Proofs.Ytnoegbdmjinfjaa
set_option maxRecDepth 20000
open Go.RowKit

/-- the sender, from a number on, and frames that were put down apart from it: where each is, its cells -/
structure Lo20 (w W : World) (T : Nat) (B : Nat → Prop) (q : Sd) (ks : List (Nat × Array Value)) : Prop where
  a : SdAt W T B q
  b : Below w.heap.size w W
  g : ∀ k, B k → w.heap.size ≤ k
  kp : ∀ p ∈ ks, ¬ B p.1 ∧ W.heap[p.1]? = some (.cells p.2 34 (0, 0))
section
variable {w W W' : World} {T : Nat} {B B' : Nat → Prop} {q q' : Sd} {ks : List (Nat × Array Value)}
theorem Lo20.grown (h : Lo20 w W T B q ks) (hb : Below W.heap.size W W') : Lo20 w W' T B q ks :=
  ⟨h.a.turn (Turn.of_below hb (S := fun _ => False)) (fun _ _ => id), h.b.trans (hb.mono h.b.size), h.g, fun p hp => ⟨(h.kp p hp).1, (Turn.of_below hb (S := fun _ => False)).obj (h.kp p hp).2 id⟩⟩
theorem Lo20.step (h : Lo20 w W T B q ks) (ha : SdAt W' T B' q') (ht : Turn B W W') (hB : ∀ g, B' g → B g ∨ W.heap.size ≤ g) : Lo20 w W' T B' q' ks :=
  ⟨ha, ht.base h.b h.b.size h.g, fun k hk => (hB k hk).elim (h.g k) (Nat.le_trans h.b.size), fun p hp => by
    obtain ⟨h1, h2⟩ := h.kp p hp
    have := (Array.getElem?_eq_some_iff.1 h2).1
    exact ⟨fun e => (hB _ e).elim h1 (fun e => by omega), ht.obj h2 h1⟩⟩
theorem Lo20.keep (h : Lo20 w W T B q ks) (cs : Array Value) : Lo20 w (W.alloc (.cells cs 34)) T B q ((W.heap.size, cs) :: ks) := by
  have h1 := h.grown (W' := W.alloc (.cells cs 34)) ((Below.refl _ _).alloc (Nat.le_refl _) _)
  refine ⟨h1.a, h1.b, h1.g, fun p hp => ?_⟩
  rcases List.mem_cons.1 hp with rfl | hp
  · exact ⟨fun e => by have := h.a.lt e; simp at this, heap_alloc_new _ _⟩
  · exact h1.kp p hp
/-- bytes that have just been made are in no block of the sender's -/
theorem Lo20.fresh (h : Lo20 w W T B q ks) (zs : List Int) (n c : Nat) : zs ≠ [] → ∀ g, (Value.slice (some ⟨W.heap.size, 0, none⟩) n c).ownBlock = some g → ¬ B g := fun _ g hg e => by
  have := h.a.lt e
  cases hg
  exact Nat.lt_irrefl _ this
end
theorem frK_shape {w : World} {v : Value} {F : Fr} {P : Nat → Prop} (h : FrK w v F P) {n : Nat} (hn : F.pay.length = n) : ∃ ap cp, v = .agg #[.int .i64 F.kind, .int .i64 F.flags, .int .i64 F.stream, .slice ap n cp] := by
  obtain ⟨pv, rfl, h1, _⟩ := h
  obtain ⟨ap, cp, rfl, _⟩ := h1
  exact ⟨ap, cp, by rw [hn]⟩
deriving instance DecidableEq for Sm
def q20_1 : Sd := openQ20 (⟨10, []⟩ : Sd) 3 4
def q20_2 : Sd := openQ20 q20_1 1 0
def q20_3 : Sd := dataQ20 q20_2 3 [1] false
def q20_4 : Sd := headQ20 q20_3 3 [7] false
def q20_5 : Sd := dataQ20 q20_4 3 [1, 2, 3, 4, 5] true
def q20_6 : Sd := dataQ20 q20_5 3 [] true
def q20_7 : Sd := headQ20 q20_6 1 [] true
def q20_8 : Sd := nextS q20_7 0 0
def q20_9 : Sd := nextS q20_8 9 9
def q20_10 : Sd := nextS q20_9 9 3
def q20_11 : Sd := nextS q20_10 9 9
def q20_12 : Sd := nextS q20_11 9 9
def q20_13 : Sd := growQ20 q20_12 3 5
def q20_14 : Sd := nextS q20_13 9 9
theorem m20_0 : Inv20 0 (⟨10, []⟩ : Sd) := Inv20.new 10
theorem e20_1 : openE20 (⟨10, []⟩ : Sd) 3 4 = 0 := by decide +kernel
theorem m20_1 : Inv20 1 q20_1 := m20_0.act (x := ⟨0, 3, 4, 0, ([], .slice none 0 0), false⟩) (by decide)
theorem e20_2 : openE20 q20_1 1 0 = 0 := by decide +kernel
theorem m20_2 : Inv20 2 q20_2 := m20_1.act (x := ⟨0, 1, 0, 0, ([], .slice none 0 0), false⟩) (by decide)
theorem e20_3 : dataE20 q20_2 3 [1] = 6 := by decide +kernel
theorem m20_3 : Inv20 3 q20_3 := m20_2.act (x := ⟨2, 3, 0, 0, ([1], .slice none 0 0), false⟩) (by decide)
theorem e20_4 : headE20 q20_3 3 [7] = 0 := by decide +kernel
theorem m20_4 : Inv20 4 q20_4 := m20_3.act (x := ⟨1, 3, 0, 0, ([7], .slice none 0 0), false⟩) (by decide)
theorem e20_5 : dataE20 q20_4 3 [1, 2, 3, 4, 5] = 0 := by decide +kernel
theorem m20_5 : Inv20 5 q20_5 := m20_4.act (x := ⟨2, 3, 0, 0, ([1, 2, 3, 4, 5], .slice none 0 0), true⟩) (by decide)
theorem e20_6 : dataE20 q20_5 3 [] = 6 := by decide +kernel
theorem m20_6 : Inv20 6 q20_6 := m20_5.act (x := ⟨2, 3, 0, 0, ([], .slice none 0 0), true⟩) (by decide)
theorem e20_7 : headE20 q20_6 1 [] = 0 := by decide +kernel
theorem m20_7 : Inv20 7 q20_7 := m20_6.act (x := ⟨1, 1, 0, 0, ([], .slice none 0 0), true⟩) (by decide)
theorem e20_8 : nextF20 q20_7 0 0 = ⟨1, 5, 1, []⟩ ∧ nextO q20_7 0 0 = true := by decide +kernel
theorem m20_8 : Inv20 8 q20_8 := m20_7.act (x := ⟨7, 0, 0, 0, ([], .slice none 0 0), false⟩) (by decide)
theorem e20_9 : nextF20 q20_8 9 9 = ⟨1, 4, 3, [7]⟩ ∧ nextO q20_8 9 9 = true := by decide +kernel
theorem m20_9 : Inv20 9 q20_9 := m20_8.act (x := ⟨7, 0, 9, 9, ([], .slice none 0 0), false⟩) (by decide)
theorem e20_10 : nextF20 q20_9 9 3 = ⟨0, 0, 3, [1, 2, 3]⟩ ∧ nextO q20_9 9 3 = true := by decide +kernel
theorem m20_10 : Inv20 10 q20_10 := m20_9.act (x := ⟨7, 0, 9, 3, ([], .slice none 0 0), false⟩) (by decide)
theorem e20_11 : nextF20 q20_10 9 9 = ⟨0, 0, 3, [4]⟩ ∧ nextO q20_10 9 9 = true := by decide +kernel
theorem m20_11 : Inv20 11 q20_11 := m20_10.act (x := ⟨7, 0, 9, 9, ([], .slice none 0 0), false⟩) (by decide)
theorem e20_12 : nextF20 q20_11 9 9 = ⟨0, 0, 0, []⟩ ∧ nextO q20_11 9 9 = false := by decide +kernel
theorem m20_12 : Inv20 12 q20_12 := m20_11.act (x := ⟨7, 0, 9, 9, ([], .slice none 0 0), false⟩) (by decide)
theorem e20_13 : growO20 q20_12 3 5 = true ∧ growE20 q20_12 3 = 0 := by decide +kernel
theorem m20_13 : Inv20 13 q20_13 := m20_12.act (x := ⟨4, 3, 5, 0, ([], .slice none 0 0), false⟩) (by decide)
theorem e20_14 : nextF20 q20_13 9 9 = ⟨0, 1, 3, [5]⟩ ∧ nextO q20_13 9 9 = true := by decide +kernel
theorem m20_14 : Inv20 14 q20_14 := m20_13.act (x := ⟨7, 0, 9, 9, ([], .slice none 0 0), false⟩) (by decide)
theorem z20_14 : q20_14.l = [] := by decide +kernel
set_option maxHeartbeats 8000000 in
theorem alive20 (w : World) : Calls Try.prog 6 #[] w fun e w' => e = .returned (.bool true) ∧ Below w.heap.size w w' := by
  go_enter Try.func6, Try.ntmps6
  go_wp2_with fail
  refine (pNew20_yes 10 w (by decide)).mono ?_
  rintro e w0 ⟨T, B0, rfl, h1, h2, h3⟩
  have H0 := Lib.hid (show Lo20 w w0 T B0 (⟨10, []⟩ : Sd) [] from ⟨h1, h3, h2, fun p hp => by cases hp⟩)
  clear h1 h2 h3
  go_wp2_with fail
  refine (pOpen20 3 4 H0.out.a (m20_0.small (by decide)) (by decide) (by decide)).mono ?_
  rintro e w1 ⟨B1, rfl, h1, h2, h3⟩
  rw [e20_1]
  have H1 := Lib.hid (show Lo20 w w1 T B1 q20_1 [] from H0.out.step h1 h2 h3)
  clear h1 h2 h3
  go_wp2_with fail
  refine (pOpen20 1 0 H1.out.a (m20_1.small (by decide)) (by decide) (by decide)).mono ?_
  rintro e w2 ⟨B2, rfl, h1, h2, h3⟩
  rw [e20_2]
  have H2 := Lib.hid (show Lo20 w w2 T B2 q20_2 [] from H1.out.step h1 h2 h3)
  clear h1 h2 h3
  go_wp2_with fail
  have HB3 := Lib.hid ((Below.refl w2.heap.size w2).alloc (Nat.le_refl _) (.cells #[.int .u8 1] 5))
  have HS3 := Lib.hid (show Sl .u8 (w2.alloc (.cells #[.int .u8 1] 5)) (.slice (some ⟨w2.heap.size, 0, none⟩) 1 1) [1] from Sl.lit [1] rfl rfl rfl (by decide) (by decide))
  refine (pData20 3 _ [1] false (H2.out.grown HB3.out).a HS3.out (H2.out.fresh _ _ _) (m20_2.small (by decide)) (by decide) (by decide)).mono ?_
  rintro e w3 ⟨B3, rfl, h1, h2, h3⟩
  rw [e20_3]
  have H3 := Lib.hid (show Lo20 w w3 T B3 q20_3 [] from (H2.out.grown HB3.out).step h1 h2 h3)
  clear h1 h2 h3
  go_wp2_with fail
  have HB4 := Lib.hid ((Below.refl w3.heap.size w3).alloc (Nat.le_refl _) (.cells #[.int .u8 7] 5))
  have HS4 := Lib.hid (show Sl .u8 (w3.alloc (.cells #[.int .u8 7] 5)) (.slice (some ⟨w3.heap.size, 0, none⟩) 1 1) [7] from Sl.lit [7] rfl rfl rfl (by decide) (by decide))
  refine (pHead20 3 _ [7] false (H3.out.grown HB4.out).a HS4.out (H3.out.fresh _ _ _) (m20_3.small (by decide)) (by decide) (by decide)).mono ?_
  rintro e w4 ⟨B4, rfl, h1, h2, h3⟩
  rw [e20_4]
  have H4 := Lib.hid (show Lo20 w w4 T B4 q20_4 [] from (H3.out.grown HB4.out).step h1 h2 h3)
  clear h1 h2 h3
  go_wp2_with fail
  have HB5 := Lib.hid ((Below.refl w4.heap.size w4).alloc (Nat.le_refl _) (.cells #[.int .u8 1, .int .u8 2, .int .u8 3, .int .u8 4, .int .u8 5] 5))
  have HS5 := Lib.hid (show Sl .u8 (w4.alloc (.cells #[.int .u8 1, .int .u8 2, .int .u8 3, .int .u8 4, .int .u8 5] 5)) (.slice (some ⟨w4.heap.size, 0, none⟩) 5 5) [1, 2, 3, 4, 5] from Sl.lit [1, 2, 3, 4, 5] rfl rfl rfl (by decide) (by decide))
  refine (pData20 3 _ [1, 2, 3, 4, 5] true (H4.out.grown HB5.out).a HS5.out (H4.out.fresh _ _ _) (m20_4.small (by decide)) (by decide) (by decide)).mono ?_
  rintro e w5 ⟨B5, rfl, h1, h2, h3⟩
  rw [e20_5]
  have H5 := Lib.hid (show Lo20 w w5 T B5 q20_5 [] from (H4.out.grown HB5.out).step h1 h2 h3)
  clear h1 h2 h3
  go_wp2_with fail
  refine (pData20 3 _ [] true H5.out.a (Sl.nil _ _) (fun h => absurd rfl h) (m20_5.small (by decide)) (by decide) (by decide)).mono ?_
  rintro e w6 ⟨B6, rfl, h1, h2, h3⟩
  rw [e20_6]
  have H6 := Lib.hid (show Lo20 w w6 T B6 q20_6 [] from H5.out.step h1 h2 h3)
  clear h1 h2 h3
  go_wp2_with fail
  refine (pHead20 1 _ [] true H6.out.a (Sl.nil _ _) (fun h => absurd rfl h) (m20_6.small (by decide)) (by decide) (by decide)).mono ?_
  rintro e w7 ⟨B7, rfl, h1, h2, h3⟩
  rw [e20_7]
  have H7 := Lib.hid (show Lo20 w w7 T B7 q20_7 [] from H6.out.step h1 h2 h3)
  clear h1 h2 h3
  go_wp2_with fail
  refine (pNext20 0 0 H7.out.a (by decide) (m20_7.small (by decide))).mono ?_
  rintro e x8 ⟨fv8, B8, rfl, h0, h1, h2, h3⟩
  rw [e20_8.1] at h0
  rw [e20_8.2]
  obtain ⟨a8, c8, rfl⟩ := frK_shape h0 (n := 0) rfl
  have G8 := Lib.hid (show Lo20 w x8 T B8 q20_8 [] from H7.out.step h1 h2 h3)
  have HK8 := Lib.hid (G8.out.keep #[.int .i64 1, .int .i64 5, .int .i64 1, .slice a8 0 c8])
  clear h0 h1 h2 h3
  dsimp only
  go_wp2_with fail
  obtain ⟨w8, hw8⟩ : ∃ w8, x8.alloc (.cells #[.int .i64 1, .int .i64 5, .int .i64 1, .slice a8 0 c8] 34) = w8 := ⟨_, rfl⟩
  obtain ⟨g8, hg8⟩ : ∃ g, x8.heap.size = g := ⟨_, rfl⟩
  rw [hw8]
  rw [hg8]
  have H8 := Lib.hid (show Lo20 w w8 T B8 q20_8 ((g8, #[.int .i64 1, .int .i64 5, .int .i64 1, .slice a8 0 c8]) :: []) from by have := HK8.out; rw [hw8, hg8] at this; exact this)
  clear hw8 hg8 HK8
  refine (pNext20 9 9 H8.out.a (by decide) (m20_8.small (by decide))).mono ?_
  rintro e x9 ⟨fv9, B9, rfl, h0, h1, h2, h3⟩
  rw [e20_9.1] at h0
  rw [e20_9.2]
  obtain ⟨a9, c9, rfl⟩ := frK_shape h0 (n := 1) rfl
  have G9 := Lib.hid (show Lo20 w x9 T B9 q20_9 ((g8, #[.int .i64 1, .int .i64 5, .int .i64 1, .slice a8 0 c8]) :: []) from H8.out.step h1 h2 h3)
  have HK9 := Lib.hid (G9.out.keep #[.int .i64 1, .int .i64 4, .int .i64 3, .slice a9 1 c9])
  clear h0 h1 h2 h3
  dsimp only
  go_wp2_with fail
  obtain ⟨w9, hw9⟩ : ∃ w9, x9.alloc (.cells #[.int .i64 1, .int .i64 4, .int .i64 3, .slice a9 1 c9] 34) = w9 := ⟨_, rfl⟩
  obtain ⟨g9, hg9⟩ : ∃ g, x9.heap.size = g := ⟨_, rfl⟩
  rw [hw9]
  rw [hg9]
  have H9 := Lib.hid (show Lo20 w w9 T B9 q20_9 ((g9, #[.int .i64 1, .int .i64 4, .int .i64 3, .slice a9 1 c9]) :: ((g8, #[.int .i64 1, .int .i64 5, .int .i64 1, .slice a8 0 c8]) :: [])) from by have := HK9.out; rw [hw9, hg9] at this; exact this)
  clear hw9 hg9 HK9
  refine (pNext20 9 3 H9.out.a (by decide) (m20_9.small (by decide))).mono ?_
  rintro e x10 ⟨fv10, B10, rfl, h0, h1, h2, h3⟩
  rw [e20_10.1] at h0
  rw [e20_10.2]
  obtain ⟨a10, c10, rfl⟩ := frK_shape h0 (n := 3) rfl
  have G10 := Lib.hid (show Lo20 w x10 T B10 q20_10 ((g9, #[.int .i64 1, .int .i64 4, .int .i64 3, .slice a9 1 c9]) :: ((g8, #[.int .i64 1, .int .i64 5, .int .i64 1, .slice a8 0 c8]) :: [])) from H9.out.step h1 h2 h3)
  have HK10 := Lib.hid (G10.out.keep #[.int .i64 0, .int .i64 0, .int .i64 3, .slice a10 3 c10])
  clear h0 h1 h2 h3
  dsimp only
  go_wp2_with fail
  obtain ⟨w10, hw10⟩ : ∃ w10, x10.alloc (.cells #[.int .i64 0, .int .i64 0, .int .i64 3, .slice a10 3 c10] 34) = w10 := ⟨_, rfl⟩
  obtain ⟨g10, hg10⟩ : ∃ g, x10.heap.size = g := ⟨_, rfl⟩
  rw [hw10]
  rw [hg10]
  have H10 := Lib.hid (show Lo20 w w10 T B10 q20_10 ((g10, #[.int .i64 0, .int .i64 0, .int .i64 3, .slice a10 3 c10]) :: ((g9, #[.int .i64 1, .int .i64 4, .int .i64 3, .slice a9 1 c9]) :: ((g8, #[.int .i64 1, .int .i64 5, .int .i64 1, .slice a8 0 c8]) :: []))) from by have := HK10.out; rw [hw10, hg10] at this; exact this)
  clear hw10 hg10 HK10
  refine (pNext20 9 9 H10.out.a (by decide) (m20_10.small (by decide))).mono ?_
  rintro e x11 ⟨fv11, B11, rfl, h0, h1, h2, h3⟩
  rw [e20_11.1] at h0
  rw [e20_11.2]
  obtain ⟨a11, c11, rfl⟩ := frK_shape h0 (n := 1) rfl
  have G11 := Lib.hid (show Lo20 w x11 T B11 q20_11 ((g10, #[.int .i64 0, .int .i64 0, .int .i64 3, .slice a10 3 c10]) :: ((g9, #[.int .i64 1, .int .i64 4, .int .i64 3, .slice a9 1 c9]) :: ((g8, #[.int .i64 1, .int .i64 5, .int .i64 1, .slice a8 0 c8]) :: []))) from H10.out.step h1 h2 h3)
  have HK11 := Lib.hid (G11.out.keep #[.int .i64 0, .int .i64 0, .int .i64 3, .slice a11 1 c11])
  clear h0 h1 h2 h3
  dsimp only
  go_wp2_with fail
  obtain ⟨w11, hw11⟩ : ∃ w11, x11.alloc (.cells #[.int .i64 0, .int .i64 0, .int .i64 3, .slice a11 1 c11] 34) = w11 := ⟨_, rfl⟩
  obtain ⟨g11, hg11⟩ : ∃ g, x11.heap.size = g := ⟨_, rfl⟩
  rw [hw11]
  rw [hg11]
  have H11 := Lib.hid (show Lo20 w w11 T B11 q20_11 ((g11, #[.int .i64 0, .int .i64 0, .int .i64 3, .slice a11 1 c11]) :: ((g10, #[.int .i64 0, .int .i64 0, .int .i64 3, .slice a10 3 c10]) :: ((g9, #[.int .i64 1, .int .i64 4, .int .i64 3, .slice a9 1 c9]) :: ((g8, #[.int .i64 1, .int .i64 5, .int .i64 1, .slice a8 0 c8]) :: [])))) from by have := HK11.out; rw [hw11, hg11] at this; exact this)
  clear hw11 hg11 HK11
  refine (pNext20 9 9 H11.out.a (by decide) (m20_11.small (by decide))).mono ?_
  rintro e x12 ⟨fv12, B12, rfl, h0, h1, h2, h3⟩
  rw [e20_12.1] at h0
  rw [e20_12.2]
  obtain ⟨a12, c12, rfl⟩ := frK_shape h0 (n := 0) rfl
  have G12 := Lib.hid (show Lo20 w x12 T B12 q20_12 ((g11, #[.int .i64 0, .int .i64 0, .int .i64 3, .slice a11 1 c11]) :: ((g10, #[.int .i64 0, .int .i64 0, .int .i64 3, .slice a10 3 c10]) :: ((g9, #[.int .i64 1, .int .i64 4, .int .i64 3, .slice a9 1 c9]) :: ((g8, #[.int .i64 1, .int .i64 5, .int .i64 1, .slice a8 0 c8]) :: [])))) from H11.out.step h1 h2 h3)
  have HK12 := Lib.hid (G12.out.keep #[.int .i64 0, .int .i64 0, .int .i64 0, .slice a12 0 c12])
  clear h0 h1 h2 h3
  dsimp only
  go_wp2_with fail
  obtain ⟨w12, hw12⟩ : ∃ w12, x12.alloc (.cells #[.int .i64 0, .int .i64 0, .int .i64 0, .slice a12 0 c12] 34) = w12 := ⟨_, rfl⟩
  obtain ⟨g12, hg12⟩ : ∃ g, x12.heap.size = g := ⟨_, rfl⟩
  rw [hw12]
  rw [hg12]
  have H12 := Lib.hid (show Lo20 w w12 T B12 q20_12 ((g12, #[.int .i64 0, .int .i64 0, .int .i64 0, .slice a12 0 c12]) :: ((g11, #[.int .i64 0, .int .i64 0, .int .i64 3, .slice a11 1 c11]) :: ((g10, #[.int .i64 0, .int .i64 0, .int .i64 3, .slice a10 3 c10]) :: ((g9, #[.int .i64 1, .int .i64 4, .int .i64 3, .slice a9 1 c9]) :: ((g8, #[.int .i64 1, .int .i64 5, .int .i64 1, .slice a8 0 c8]) :: []))))) from by have := HK12.out; rw [hw12, hg12] at this; exact this)
  clear hw12 hg12 HK12
  refine (pGrow20 3 5 H12.out.a (m20_12.small (by decide)) (by decide) (by decide)).mono ?_
  rintro e w13 ⟨B13, rfl, h1, h2, h3⟩
  rw [e20_13.1, e20_13.2]
  have H13 := Lib.hid (show Lo20 w w13 T B13 q20_13 ((g12, #[.int .i64 0, .int .i64 0, .int .i64 0, .slice a12 0 c12]) :: ((g11, #[.int .i64 0, .int .i64 0, .int .i64 3, .slice a11 1 c11]) :: ((g10, #[.int .i64 0, .int .i64 0, .int .i64 3, .slice a10 3 c10]) :: ((g9, #[.int .i64 1, .int .i64 4, .int .i64 3, .slice a9 1 c9]) :: ((g8, #[.int .i64 1, .int .i64 5, .int .i64 1, .slice a8 0 c8]) :: []))))) from H12.out.step h1 h2 h3)
  clear h1 h2 h3
  go_wp2_with fail
  refine (pNext20 9 9 H13.out.a (by decide) (m20_13.small (by decide))).mono ?_
  rintro e x14 ⟨fv14, B14, rfl, h0, h1, h2, h3⟩
  rw [e20_14.1] at h0
  rw [e20_14.2]
  obtain ⟨a14, c14, rfl⟩ := frK_shape h0 (n := 1) rfl
  have G14 := Lib.hid (show Lo20 w x14 T B14 q20_14 ((g12, #[.int .i64 0, .int .i64 0, .int .i64 0, .slice a12 0 c12]) :: ((g11, #[.int .i64 0, .int .i64 0, .int .i64 3, .slice a11 1 c11]) :: ((g10, #[.int .i64 0, .int .i64 0, .int .i64 3, .slice a10 3 c10]) :: ((g9, #[.int .i64 1, .int .i64 4, .int .i64 3, .slice a9 1 c9]) :: ((g8, #[.int .i64 1, .int .i64 5, .int .i64 1, .slice a8 0 c8]) :: []))))) from H13.out.step h1 h2 h3)
  have HK14 := Lib.hid (G14.out.keep #[.int .i64 0, .int .i64 1, .int .i64 3, .slice a14 1 c14])
  clear h0 h1 h2 h3
  dsimp only
  obtain ⟨w14, hw14⟩ : ∃ w14, x14.alloc (.cells #[.int .i64 0, .int .i64 1, .int .i64 3, .slice a14 1 c14] 34) = w14 := ⟨_, rfl⟩
  obtain ⟨g14, hg14⟩ : ∃ g, x14.heap.size = g := ⟨_, rfl⟩
  have H14 := Lib.hid (show Lo20 w w14 T B14 q20_14 ((g14, #[.int .i64 0, .int .i64 1, .int .i64 3, .slice a14 1 c14]) :: ((g12, #[.int .i64 0, .int .i64 0, .int .i64 0, .slice a12 0 c12]) :: ((g11, #[.int .i64 0, .int .i64 0, .int .i64 3, .slice a11 1 c11]) :: ((g10, #[.int .i64 0, .int .i64 0, .int .i64 3, .slice a10 3 c10]) :: ((g9, #[.int .i64 1, .int .i64 4, .int .i64 3, .slice a9 1 c9]) :: ((g8, #[.int .i64 1, .int .i64 5, .int .i64 1, .slice a8 0 c8]) :: [])))))) from by have := HK14.out; rw [hw14, hg14] at this; exact this)
  clear HK14
  have F8 : w14.heap[g8]? = some (.cells #[.int .i64 1, .int .i64 5, .int .i64 1, .slice a8 0 c8] 34 (0, 0)) := (H14.out.kp (g8, #[.int .i64 1, .int .i64 5, .int .i64 1, .slice a8 0 c8]) (by simp)).2
  have k8_0 : w14.cell? ⟨g8, 0, none⟩ = some (.int .i64 1) := blk_cell (j := 0) F8 rfl
  have k8_1 : w14.cell? ⟨g8, 1, none⟩ = some (.int .i64 5) := blk_cell (j := 1) F8 rfl
  have k8_2 : w14.cell? ⟨g8, 2, none⟩ = some (.int .i64 1) := blk_cell (j := 2) F8 rfl
  have k8_3 : w14.cell? ⟨g8, 3, none⟩ = some (.slice a8 0 c8) := blk_cell (j := 3) F8 rfl
  have l8 := (Array.getElem?_eq_some_iff.1 F8).1
  have F9 : w14.heap[g9]? = some (.cells #[.int .i64 1, .int .i64 4, .int .i64 3, .slice a9 1 c9] 34 (0, 0)) := (H14.out.kp (g9, #[.int .i64 1, .int .i64 4, .int .i64 3, .slice a9 1 c9]) (by simp)).2
  have k9_0 : w14.cell? ⟨g9, 0, none⟩ = some (.int .i64 1) := blk_cell (j := 0) F9 rfl
  have k9_1 : w14.cell? ⟨g9, 1, none⟩ = some (.int .i64 4) := blk_cell (j := 1) F9 rfl
  have k9_2 : w14.cell? ⟨g9, 2, none⟩ = some (.int .i64 3) := blk_cell (j := 2) F9 rfl
  have k9_3 : w14.cell? ⟨g9, 3, none⟩ = some (.slice a9 1 c9) := blk_cell (j := 3) F9 rfl
  have l9 := (Array.getElem?_eq_some_iff.1 F9).1
  have F10 : w14.heap[g10]? = some (.cells #[.int .i64 0, .int .i64 0, .int .i64 3, .slice a10 3 c10] 34 (0, 0)) := (H14.out.kp (g10, #[.int .i64 0, .int .i64 0, .int .i64 3, .slice a10 3 c10]) (by simp)).2
  have k10_0 : w14.cell? ⟨g10, 0, none⟩ = some (.int .i64 0) := blk_cell (j := 0) F10 rfl
  have k10_1 : w14.cell? ⟨g10, 1, none⟩ = some (.int .i64 0) := blk_cell (j := 1) F10 rfl
  have k10_2 : w14.cell? ⟨g10, 2, none⟩ = some (.int .i64 3) := blk_cell (j := 2) F10 rfl
  have k10_3 : w14.cell? ⟨g10, 3, none⟩ = some (.slice a10 3 c10) := blk_cell (j := 3) F10 rfl
  have l10 := (Array.getElem?_eq_some_iff.1 F10).1
  have F11 : w14.heap[g11]? = some (.cells #[.int .i64 0, .int .i64 0, .int .i64 3, .slice a11 1 c11] 34 (0, 0)) := (H14.out.kp (g11, #[.int .i64 0, .int .i64 0, .int .i64 3, .slice a11 1 c11]) (by simp)).2
  have k11_0 : w14.cell? ⟨g11, 0, none⟩ = some (.int .i64 0) := blk_cell (j := 0) F11 rfl
  have k11_1 : w14.cell? ⟨g11, 1, none⟩ = some (.int .i64 0) := blk_cell (j := 1) F11 rfl
  have k11_2 : w14.cell? ⟨g11, 2, none⟩ = some (.int .i64 3) := blk_cell (j := 2) F11 rfl
  have k11_3 : w14.cell? ⟨g11, 3, none⟩ = some (.slice a11 1 c11) := blk_cell (j := 3) F11 rfl
  have l11 := (Array.getElem?_eq_some_iff.1 F11).1
  have F12 : w14.heap[g12]? = some (.cells #[.int .i64 0, .int .i64 0, .int .i64 0, .slice a12 0 c12] 34 (0, 0)) := (H14.out.kp (g12, #[.int .i64 0, .int .i64 0, .int .i64 0, .slice a12 0 c12]) (by simp)).2
  have k12_0 : w14.cell? ⟨g12, 0, none⟩ = some (.int .i64 0) := blk_cell (j := 0) F12 rfl
  have k12_1 : w14.cell? ⟨g12, 1, none⟩ = some (.int .i64 0) := blk_cell (j := 1) F12 rfl
  have k12_2 : w14.cell? ⟨g12, 2, none⟩ = some (.int .i64 0) := blk_cell (j := 2) F12 rfl
  have k12_3 : w14.cell? ⟨g12, 3, none⟩ = some (.slice a12 0 c12) := blk_cell (j := 3) F12 rfl
  have l12 := (Array.getElem?_eq_some_iff.1 F12).1
  have F14 : w14.heap[g14]? = some (.cells #[.int .i64 0, .int .i64 1, .int .i64 3, .slice a14 1 c14] 34 (0, 0)) := (H14.out.kp (g14, #[.int .i64 0, .int .i64 1, .int .i64 3, .slice a14 1 c14]) (by simp)).2
  have k14_0 : w14.cell? ⟨g14, 0, none⟩ = some (.int .i64 0) := blk_cell (j := 0) F14 rfl
  have k14_1 : w14.cell? ⟨g14, 1, none⟩ = some (.int .i64 1) := blk_cell (j := 1) F14 rfl
  have k14_2 : w14.cell? ⟨g14, 2, none⟩ = some (.int .i64 3) := blk_cell (j := 2) F14 rfl
  have k14_3 : w14.cell? ⟨g14, 3, none⟩ = some (.slice a14 1 c14) := blk_cell (j := 3) F14 rfl
  have l14 := (Array.getElem?_eq_some_iff.1 F14).1
  clear F8 F9 F10 F11 F12 F14
  go_wp2_with fail
  refine (pIDs20 H14.out.a (m20_14.small (by decide))).mono ?_
  rintro e w15 ⟨v, rfl, hv, hb, _⟩
  rw [z20_14] at hv
  obtain ⟨av, cv, rfl, _⟩ := hv
  have H15 := Lib.hid (H14.out.b.trans (hb.mono H14.out.b.size))
  clear hb
  go_wp2_with fail
  go_ret
  exact ⟨rfl, H15.out⟩
end Go.Proofs.Ytnoegbdmjinfjaa

/-
  Layer 20's laws: are acts such as are gone through?
-/
namespace Go.Proofs.Ytnoegbdmjinfjaa
set_option maxRecDepth 10000
open Go.RowKit

def fits20 (ys : List A20) : Bool := decide (ys.length ≤ 100) && ys.all (fun x => decide (x.b.1.length ≤ 300))
theorem fits20_yes {ys : List A20} (h : fits20 ys = true) : ys.length ≤ 100 ∧ ∀ x ∈ ys, x.b.1.length ≤ 300 := by
  unfold fits20 at h
  simp only [Bool.and_eq_true, decide_eq_true_eq, List.all_eq_true] at h
  exact h
theorem all_upto20 {α : Type} {f : α → Bool} {l : List α} {k : Nat} {x : α} (h : (l.take k).all f = true) (hx : l[k]? = some x) (hf : f x = true) : (l.take (k + 1)).all f = true := by
  rw [List.take_add_one, List.all_append, h, hx]
  simp [hf]
theorem all_not20 {α : Type} {f : α → Bool} {l : List α} {k : Nat} {x : α} (hx : l[k]? = some x) (hf : f x = false) : l.all f = false := by
  rw [List.all_eq_false]
  exact ⟨x, List.mem_of_getElem? hx, by simp [hf]⟩
set_option maxHeartbeats 1000000 in
theorem fits20_any (v : Value) (ys : List A20) (w : World) (h : SlA20 w v ys) :
    Calls Try.prog 5 #[v] w fun e w' => e = .returned (.bool (fits20 ys)) ∧ w' = w := by
  obtain ⟨a, c, rfl, hc1, hc2⟩ := h.1.shape
  unfold maxLen at hc2
  obtain ⟨N, hN⟩ : ∃ N, ys.length = N := ⟨_, rfl⟩
  rw [hN] at h hc1 ⊢
  have HN := Lib.hid hN
  have HS := Lib.hid h
  clear hN h
  by_cases h30 : 100 < N
  · have d0 : decide ((100 : Int) < (N : Int)) = true := decide_eq_true (by omega)
    have HE := Lib.hid (show fits20 ys = false by unfold fits20; rw [decide_eq_false (by rw [HN.out]; omega)]; rfl)
    clear h30
    go_enter Try.func5, Try.ntmps5
    go_wp2_with fail
    go_ret
    exact ⟨by rw [HE.out]; rfl, rfl⟩
  have d0 : decide ((100 : Int) < (N : Int)) = false := decide_eq_false (by omega)
  have HH := Lib.hid h30
  clear h30
  go_enter Try.func5, Try.ntmps5
  go_wp2_with fail
  go_loopg [3] N (fun q s3 wr => ∃ k : Nat, k + q = N ∧ s3 = .int .i64 k ∧ Hid (wr = w ∧ (ys.take k).all (fun x => decide (x.b.1.length ≤ 300)) = true))
  case atStart => exact ⟨0, by omega, rfl, Lib.hid ⟨rfl, by simp⟩⟩
  case round =>
    obtain ⟨k, hkq, rfl, HP⟩ := hrel
    have HKQ := Lib.hid hkq
    have hk : k ≤ N := by omega
    clear hkq
    obtain rfl := HP.out.1
    have HA := Lib.hid HP.out.2
    clear HP
    by_cases hlt : k < N
    · obtain ⟨x, hx⟩ : ∃ x, ys[k]? = some x := ⟨ys[k]'(by rw [HN.out]; exact hlt), List.getElem?_eq_getElem (by rw [HN.out]; exact hlt)⟩
      have hmem := List.mem_of_getElem? hx
      have HX := Lib.hid hx
      have hsf := (HS.out.2 x hmem).s
      obtain ⟨b, off, rfl, hbl, hcell⟩ := HS.out.1.at_ (i := k) (by rw [HN.out]; exact hlt)
      have c4 := hcell x hx 4 (by omega)
      simp only [a20C, List.getElem?_cons_succ, List.getElem?_cons_zero] at c4
      obtain ⟨pa, pc, hpv, _⟩ := id hsf
      rw [hpv] at c4
      clear hcell hmem hx hsf hpv
      by_cases hm : 300 < x.b.1.length
      · have d1 : decide ((300 : Int) < (x.b.1.length : Int)) = true := decide_eq_true (by omega)
        have HE := Lib.hid (show fits20 ys = false by
          unfold fits20
          rw [all_not20 HX.out (by rw [decide_eq_false (by omega)]), Bool.and_false])
        clear hm
        go_wp2_with fail
        go_ret
        exact ⟨by rw [HE.out]; rfl, rfl⟩
      have d1 : decide ((300 : Int) < (x.b.1.length : Int)) = false := decide_eq_false (by omega)
      have HM := Lib.hid hm
      clear hm
      go_wp2_with fail
      go_roundg (N - (k + 1))
      case measure => have := HKQ.out; omega
      case rel => exact ⟨k + 1, by omega, by go_num, Lib.hid ⟨rfl, all_upto20 HA.out HX.out (by rw [decide_eq_true (by have := HM.out; omega)])⟩⟩
    · obtain rfl : k = N := by omega
      have HE := Lib.hid (show fits20 ys = true by
        have h1 := HA.out
        rw [← HN.out, List.take_length] at h1
        unfold fits20
        rw [h1, decide_eq_true (by have := HH.out; rw [HN.out]; omega)]
        rfl)
      clear hlt hk
      go_wp2_with fail
      go_ret
      exact ⟨by rw [HE.out]; rfl, rfl⟩
end Go.Proofs.Ytnoegbdmjinfjaa

/-
  Layer 20: an act, where it lies.
-/
namespace Go.Proofs.Ytnoegbdmjinfjaa
set_option maxRecDepth 20000
open Go.RowKit

theorem slice20 : Try.prog.underlying 22 = some (.slice (Try.prog.elem 22)) := by kernel_rfl
/-- one act, where it lies -/
theorem act_cells {w1 : World} {b off N k : Nat} {c : Nat} {ys : List A20} (h : SlA20 w1 (.slice (some ⟨b, off, none⟩) N c) ys) (_ : ys.length = N) {x : A20} (hx : ys[k]? = some x) :
    ∀ W, Below w1.heap.size w1 W → W.cell? ⟨b, off + k * 6, none⟩ = some (.int .u8 x.k) ∧ W.cell? ⟨b, off + k * 6 + 1, none⟩ = some (.int .i64 x.id) ∧ W.cell? ⟨b, off + k * 6 + 2, none⟩ = some (.int .i64 x.n) ∧ W.cell? ⟨b, off + k * 6 + 3, none⟩ = some (.int .i64 x.m) ∧ W.cell? ⟨b, off + k * 6 + 4, none⟩ = some x.b.2 ∧ W.cell? ⟨b, off + k * 6 + 5, none⟩ = some (.bool x.last) ∧ b < W.heap.size := fun W hb => by
  have hk : k < ys.length := (List.getElem?_eq_some_iff.1 hx).1
  have h1 := h.1.below hb
  obtain ⟨b', off', e, hbl, hc⟩ := h1.at_ (i := k) hk
  simp only [Option.some.injEq, Addr.mk.injEq, and_true] at e
  obtain ⟨rfl, rfl⟩ := e
  exact ⟨hc x hx 0 (by omega), hc x hx 1 (by omega), hc x hx 2 (by omega), hc x hx 3 (by omega), hc x hx 4 (by omega), hc x hx 5 (by omega), hbl⟩
end Go.Proofs.Ytnoegbdmjinfjaa

/-
  Layer 20's laws: what an act tells, by whatever object; its end.
-/
namespace Go.Proofs.Ytnoegbdmjinfjaa
open Go.RowKit

theorem two_new (w : World) (c1 : Array Value) (t1 : TypeId) (c2 : Array Value) (t2 : TypeId) : Below w.heap.size w ((w.alloc (.cells c1 t1)).alloc (.cells c2 t2)) ∧ ((w.alloc (.cells c1 t1)).alloc (.cells c2 t2)).heap[w.heap.size]? = some (.cells c1 t1 (0, 0)) ∧ ((w.alloc (.cells c1 t1)).alloc (.cells c2 t2)).heap[w.heap.size + 1]? = some (.cells c2 t2 (0, 0)) := by
  refine ⟨((Below.refl _ _).alloc (Nat.le_refl _) _).alloc (by simp) _, ?_, ?_⟩
  · exact ((((Below.refl (w.heap.size + 1) _).alloc (by simp) _).block w.heap.size (by omega))).trans (heap_alloc_new w _)
  · have h1 := heap_alloc_new (w.alloc (.cells c1 t1)) (.cells c2 t2)
    rwa [show (w.alloc (.cells c1 t1)).heap.size = w.heap.size + 1 by simp] at h1
/-- what an act tells of an object 'O' that refers to blocks B, and what it leaves -/
def Tell20 (O : World → (Nat → Prop) → Sd → Prop) (w : World) (B : Nat → Prop) (s : Sd) (x : A20) (e : Ending) (w' : World) : Prop :=
  ∃ pv B', e = .returned (.agg #[.int .i64 (aF s x).kind, .int .i64 (aF s x).flags, .int .i64 (aF s x).stream, pv, .int .i64 (aN s x), .bool (aI s x), .int .i64 (aE s x)]) ∧ Sl .u8 w' pv (aF s x).pay ∧ ((aF s x).pay ≠ [] → ∀ g, pv.ownBlock = some g → B g ∨ w.heap.size ≤ g) ∧ O w' B' (aQ s x) ∧ Turn B w w' ∧ ∀ g, B' g → B g ∨ w.heap.size ≤ g
theorem tell_end {O : World → (Nat → Prop) → Sd → Prop} (hO : ∀ W W' B q S, O W B q → Turn S W W' → (∀ g, B g → ¬ S g) → O W' B q) {w W1 w1 w9 : World} {B B' : Nat → Prop} {s s' : Sd} {x : A20} (hlt : ∀ g, B g → g < w.heap.size) (hb1 : Below w.heap.size w W1) (hsz : w.heap.size + 1 < W1.heap.size)
    (h1 : O w1 B' s') (ht : Turn B W1 w1) (hB : ∀ g, B' g → B g ∨ W1.heap.size ≤ g) (h9 : Turn (fun k => k = w.heap.size + 1) w1 w9) (hs : aQ s x = s') (pv : Value) {F : Fr} (hp : Sl .u8 w1 pv F.pay) (hpb : F.pay ≠ [] → ∀ g, pv.ownBlock = some g → B g ∨ W1.heap.size ≤ g) (hF : aF s x = F) {N E : Int} {I : Bool} (hN : aN s x = N) (hI : aI s x = I) (hE : aE s x = E) :
    Tell20 O w B s x (.returned (.agg #[.int .i64 F.kind, .int .i64 F.flags, .int .i64 F.stream, pv, .int .i64 N, .bool I, .int .i64 E])) w9 := by
  have hsize := hb1.size
  have far : ∀ g, B g ∨ W1.heap.size ≤ g → ¬ g = w.heap.size + 1 := fun g hg e => by
    rcases hg with hg | hg
    · have := hlt g hg; omega
    · omega
  unfold Tell20
  rw [hF, hN, hI, hE, hs]
  exact ⟨pv, B', rfl, hp.turn0 h9 (fun h g hg => far g (hpb h g hg)), fun h g hg => (hpb h g hg).imp_right (Nat.le_trans hsize), hO _ _ _ _ _ h1 h9 (fun g hg => far g (hB g hg)), ((Turn.of_below hb1).trans ht).trans' h9 (fun k hk e => by have e' : k = w.heap.size + 1 := e; omega), fun g hg => (hB g hg).imp_right (Nat.le_trans hsize)⟩
end Go.Proofs.Ytnoegbdmjinfjaa
