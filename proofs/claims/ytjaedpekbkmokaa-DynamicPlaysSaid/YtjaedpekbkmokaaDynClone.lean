
/-
  Layer 7: slices.Collect of what a table goes through; Clone.
-/
import Derived.Test.YtjaedpekbkmokaaDynOps
import Derived.Maps.AppendAt
namespace Go.Proofs.Ytjaedpekbkmokaa
open Go.RowKit Go.Shelf
attribute [local go_sem] Oper.semAt_some

theorem keepsG {A W : World} {row : Option Nat} (b : Nat) (hg : A.grownBy W row) (hrow : ∀ g, row = some g → ∃ cs t fr, A.heap[g]? = some (.cells cs t fr)) : KeepsFrom b A W :=
  ⟨hg.size, fun k _ _ hk ho => (hg.block k (Array.getElem?_eq_some_iff.1 hk).1 (fun e => by
    obtain ⟨cs, t, fr, h⟩ := hrow k e.symm
    rw [h] at hk
    cases hk
    cases ho)).trans hk⟩
/-- what has come stands in the row -/
def ColAt (w : World) (B0 : Nat) (pre : List Fd) (W : World) : Prop :=
  ∃ u, W.heap[w.heap.size]? = some (.cells #[u] 46 (0, 0)) ∧ RowF W B0 u pre ∧ Below w.heap.size w W ∧ B0 ≤ W.heap.size
theorem ColAt.grows (w : World) (B0 : Nat) : Grows (ColAt w B0) := by
  rintro s A W ⟨u, h0, hr, hb, hs⟩ hg
  exact ⟨u, (hg.block _ (Array.getElem?_eq_some_iff.1 h0).1).trans h0, hr.below hg, hb.trans (hg.mono hb.size), Nat.le_trans hs hg.size⟩
theorem ColAt.turns (w : World) (B0 : Nat) (hB : w.heap.size < B0) : Turns B0 (ColAt w B0) := by
  rintro s A l o o' ⟨u, h0, hr, hb, hs⟩ hl hlo hoc
  refine ⟨u, (World.putObj_heap_other (by omega)).trans h0, hr.of_block (fun g hg => World.putObj_heap_other ?_), hb.trans (below_put A o o' (by omega) hlo), by rw [World.putObj_size]; exact hs⟩
  rintro rfl
  obtain ⟨cs, fr, h⟩ := hr.block g hg
  rw [h] at hlo
  cases hlo
  cases hoc
/-- one more has come -/
theorem ColAt.more {w W w1 : World} {B0 : Nat} {u v1 : Value} {pre : List Fd} {x : Fd} (hB : w.heap.size < B0) (h0 : W.heap[w.heap.size]? = some (.cells #[u] 46 (0, 0))) (hr : RowF W B0 u pre) (hb : Below w.heap.size w W) (hs : B0 ≤ W.heap.size) {o : Obj}
    (hown : w1.ownsRow B0 32 2 v1 (pre.length + 1) (fcs pre ++ fcs [x])) (hg : (W.alloc o).grownBy w1 u.ownBlock) {v : Value} (hv : ∀ g, v.ownBlock = some g → g < w.heap.size) :
    KeepsFrom B0 W (w1.setCell ⟨w.heap.size, 0, none⟩ v1) ∧ KeepRow v W (w1.setCell ⟨w.heap.size, 0, none⟩ v1) ∧ ColAt w B0 (pre ++ [x]) (w1.setCell ⟨w.heap.size, 0, none⟩ v1) := by
  have hW1 : ∀ k, k < W.heap.size → u.ownBlock ≠ some k → w1.heap[k]? = W.heap[k]? := fun k hk hu => (hg.block k (by simp; omega) (fun e => hu e.symm)).trans (Below.heap_alloc _ _ _ hk)
  have hu0 : u.ownBlock ≠ some w.heap.size := fun e => by have := (hr.lt _ e).1; omega
  have l0 := (Array.getElem?_eq_some_iff.1 h0).1
  have h01 := (hW1 _ l0 hu0).trans h0
  have hsz : W.heap.size ≤ w1.heap.size := by have := hg.size; simp at this; omega
  have hr1 : RowF w1 B0 v1 (pre ++ [x]) := by
    unfold RowF
    rw [List.length_append, List.length_singleton, fcs_append]
    exact hown
  have hap : v1.ownBlock ≠ some w.heap.size := fun e => by have := (hr1.lt _ e).1; omega
  refine ⟨((KeepsOthers.alloc W o).from B0).trans ((keepsG B0 hg ?_).trans ((KeepsOthers.setCell _ _ _).from _)), ⟨by simpa using hsz, fun g hgv => ?_⟩, v1, heap_setCell_same w1 w.heap.size 0 _ _ v1 h01, ?_, ?_, by simpa using Nat.le_trans hs hsz⟩
  · intro g hgu
    obtain ⟨cs, fr, h⟩ := hr.block g hgu
    exact ⟨cs, _, fr, (Below.heap_alloc _ _ _ (hr.lt g hgu).2).trans h⟩
  · have hlt := hv g hgv
    exact (Below.heap_setCell _ _ _ _ (by show g ≠ w.heap.size; omega)).trans (hW1 g (by have := hb.size; omega) (fun e => by have := (hr.lt _ e).1; omega))
  · exact hr1.of_block fun g hg1 => Below.heap_setCell _ _ _ _ (fun e => hap (by rw [hg1]; exact congrArg some e))
  · refine Below.setCell (Below.trans hb ⟨hg.os, hg.tape, hg.output, hsz, fun k hk => hW1 k (by have := hb.size; omega) (fun e => by have := (hr.lt _ e).1; omega)⟩) (p := ⟨w.heap.size, 0, none⟩) (Nat.le_refl _) _

set_option maxHeartbeats 2000000 in
theorem appSeq_any (T base Bb : Nat) (b m z : Int) (v : Value) (fs : List Fd) (w : World) (hb : w.heap[Bb]? = some (.cells #[.pointer (some ⟨T, 0, none⟩)] 25 (0, 0))) (hT : TabAt w T b m v z) (hr : RowF w base v fs) (hl : fs.length ≤ 1000000000) :
    Calls Try.prog 29 #[.slice none 0 0, .func (.func 30) #[] #[.pointer (some ⟨Bb, 0, none⟩)]] w fun e w' => ∃ v', e = .returned v' ∧ RowF w' w.heap.size v' fs ∧ Below w.heap.size w w' := by
  obtain ⟨i0, hi, hz0, hz1, hz2⟩ := info_parts sizeFld
  have hv0 : ∀ g, v.ownBlock = some g → g < w.heap.size := fun g hg => (hr.lt g hg).2
  refine (callsIn_wide (n := 4)).1 ?_
  refine callsIn_of_wp_marks Try.func29 rfl trivial ?_ rfl
  simp only [Try.ntmps29, List.size_toArray, List.length_cons, List.length_nil, Nat.reduceAdd, Nat.reduceSub, Array.replicate_succ, Array.replicate_zero, List.push_toArray, List.append_toArray, List.nil_append, List.cons_append]
  gi_wp2
  have hB1 : Below w.heap.size w (w.alloc (.cells #[.slice none 0 0] 46)) := (Below.refl _ _).alloc (Nat.le_refl _) _
  have k0 : (w.alloc (.cells #[.slice none 0 0] 46)).heap[w.heap.size]? = some (.cells #[.slice none 0 0] 46 (0, 0)) := heap_alloc_new _ _
  have hs1 : (w.alloc (.cells #[.slice none 0 0] 46)).heap.size = w.heap.size + 1 := by simp
  obtain ⟨W1, hW1⟩ : ∃ W1, w.alloc (.cells #[.slice none 0 0] 46) = W1 := ⟨_, rfl⟩
  rw [hW1] at hB1 k0 hs1 ⊢
  have HS := Lib.hid hs1
  clear hW1 hs1
  have hT1 := hT.below hB1
  have hr1 := hr.below hB1
  have hb1 := (hB1.block _ (Array.getElem?_eq_some_iff.1 hb).1).trans hb
  refine range_seqP (gf := 30) (lb := #[.pointer (some ⟨Bb, 0, none⟩)]) rfl (enters_of Try.func30 (by kernel_rfl) rfl)
    (fields_seq _ _ T base b m _ v fs W1 hb1 hT1 hr1) (fun _ => rfl)
    (fun h k => h.trans k)
    (fun W l o o' hl hlo _ => ⟨by rw [World.putObj_size]; exact Nat.le_refl _, fun g hg => World.putObj_heap_other (by have := hv0 g hg; have := HS.out; omega)⟩)
    (ColAt w W1.heap.size)
    (fun _ _ _ => False)
    (fun pre x a' W => ∃ Bx, W1.heap.size ≤ Bx ∧ W.heap[Bx]? = some (.cells #[.string x.1, .string x.2] 32 (0, 0)) ∧ (∀ u, W.heap[w.heap.size]? = some (.cells #[u] 46 (0, 0)) → u.ownBlock ≠ some Bx) ∧ a' = { tmps := #[.slice none 0 0, .func (.func 30) #[] #[.pointer (some ⟨Bb, 0, none⟩)], .pointer (some ⟨w.heap.size, 0, none⟩), undef, .slice none 0 0, .pointer (some ⟨Bx, 0, none⟩), .func (.func 30) #[] #[.pointer (some ⟨Bb, 0, none⟩)], .agg #[.string x.1, .string x.2], undef, undef, undef, undef, undef], defers := [] })
    (ColAt.grows _ _) (ColAt.turns _ _ (by have := HS.out; omega))
    (by rintro c s A W h; exact h.elim)
    (by rintro c s A l o o' h; exact h.elim)
    ?tTurn ⟨_, k0, RowF.nil _ _, hB1, Nat.le_refl _⟩ ?tAssign ?tBody ?tDone ?tStop
  case tTurn =>
    rintro pre x a' _ A l o o' ⟨Bx, h1, h2, h3, h4⟩ hl hlo ho
    refine ⟨Bx, h1, (World.putObj_heap_other ?_).trans h2, fun u hu => h3 u ?_, h4⟩
    · rintro rfl
      rw [h2] at hlo
      cases hlo
      cases ho
    · rw [World.putObj_heap_other (by have := HS.out; omega)] at hu
      exact hu
  case tAssign =>
    rintro l pre x W K ⟨u, h0, hru, hbW, hsW⟩ hY hK
    dsimp only [encFd]
    gi_wp2
    have hA : Below W.heap.size W (W.alloc (.cells #[.string x.1, .string x.2] 32)) := (Below.refl _ _).alloc (Nat.le_refl _) _
    refine hK _ _ ((KeepsOthers.alloc _ _).from _) ⟨by simp, fun g hg => Below.heap_alloc _ _ _ (by have := hv0 g hg; have := hbW.size; omega)⟩ (ColAt.grows _ _ _ _ _ ⟨u, h0, hru, hbW, hsW⟩ hA) ⟨W.heap.size, hsW, heap_alloc_new W _, fun u' hu' e => ?_, rfl⟩
    rw [hA.block _ (Array.getElem?_eq_some_iff.1 h0).1, h0] at hu'
    simp only [Option.some.injEq, Obj.cells.injEq, Array.mk.injEq, List.cons.injEq, and_true] at hu'
    subst hu'
    have := (hru.lt _ e).2
    omega
  case tBody =>
    rintro l pre x a' W ⟨u, h0, hru, hbW, hsW⟩ ⟨Bx, hBx, hxx, hne, rfl⟩ hlen
    have hux := hne u h0
    have hu0 : u.ownBlock ≠ some w.heap.size := fun e => by have := (hru.lt _ e).1; have := HS.out; omega
    have c0 : W.cell? ⟨w.heap.size, 0, none⟩ = some u := blk_cell (j := 0) h0 rfl
    have x0 := blk_cell (j := 0) hxx rfl
    have x1 := blk_cell (j := 1) hxx rfl
    have hl2 : pre.length ≤ 1000000000 := by omega
    have H0 := Lib.hid h0
    have HR := Lib.hid (And.intro hru (And.intro hbW hsW))
    have hru' : W.ownsRow W1.heap.size 32 2 u pre.length (fcs pre) := hru
    clear hne h0 hxx hru hbW hsW
    gi_wp2_with (gi_at_builtin; refine wpListIn_append_own _ rfl (.tmp 8) (.tmp 10) 46 rfl W1.heap.size 32 i0 _ 2 32 Try.underlying46 hi hz0 hz1 hz2 rfl (by decide) u pre.length (fcs pre) rfl (hru'.alloc _) ⟨W.heap.size, 0, none⟩ 1 1 (fcs [x]) rfl rfl (fcs_one_at _ _ x (FldAt.new _ _ _)) (fcs_oneCell _) (by unfold maxLen; omega) (by omega) (by have := HR.out.2.2; simp; omega) ?_; intro v1 w1 hown1 hg1 _; obtain ⟨ao1, cap1, rfl, _⟩ := owned_shape hown1; have at1 : w1.heap[w.heap.size]? = some (.cells #[u] 46 (0, 0)) := (hg1.block w.heap.size (by have := (Array.getElem?_eq_some_iff.1 H0.out).1; simp; omega) (fun e => hu0 e.symm)).trans ((Below.heap_alloc _ _ _ (Array.getElem?_eq_some_iff.1 H0.out).1).trans H0.out); have e0 := blk_cell (j := 0) at1 rfl; have ef0 := blk_free (j := 0) at1; clear at1)
    exact ColAt.more (by have := HS.out; omega) H0.out HR.out.1 HR.out.2.1 HR.out.2.2 hown1 hg1 hv0
  case tDone =>
    rintro D xs W hD hcame ⟨u, h0, hru, hbW, hsW⟩ hDk
    obtain rfl : xs = fs := hcame
    obtain ⟨au, cu, rfl⟩ := hru.shape
    have c0 : W.cell? ⟨w.heap.size, 0, none⟩ = some (.slice au xs.length cu) := blk_cell (j := 0) h0 rfl
    have HR := Lib.hid (And.intro hru (And.intro hbW hsW))
    clear h0 hru hbW hsW
    gi_wp2
    obtain ⟨hru, hbW, _⟩ := HR.out
    have hlt : w.heap.size ≤ D := by have := HS.out; omega
    refine ⟨by simp, .inl ⟨_, _, rfl, run_takeDeferred hDk, ?_⟩⟩
    refine ⟨_, results_tmp rfl _ _ _, .slice au xs.length cu, rfl, ?_, hbW.trans (below_put _ _ _ hlt hDk)⟩
    refine RowF.mono (base := W1.heap.size) ?_ (by have := HS.out; omega)
    refine hru.of_block fun g hg => World.putObj_heap_other ?_
    rintro rfl
    obtain ⟨cs, fr, h⟩ := hru.block g hg
    rw [h] at hDk
    cases hDk
  case tStop => rintro D c pre W hD hcame h; exact h.elim
theorem collect_any (T base Bb : Nat) (b m z : Int) (v : Value) (fs : List Fd) (w : World) (hb : w.heap[Bb]? = some (.cells #[.pointer (some ⟨T, 0, none⟩)] 25 (0, 0))) (hT : TabAt w T b m v z) (hr : RowF w base v fs) (hl : fs.length ≤ 1000000000) :
    Calls Try.prog 23 #[.func (.func 30) #[] #[.pointer (some ⟨Bb, 0, none⟩)]] w fun e w' => ∃ v', e = .returned v' ∧ RowF w' w.heap.size v' fs ∧ Below w.heap.size w w' := by
  go_enter Try.func23, Try.ntmps23
  go_wp2_with fail
  refine (appSeq_any T base Bb b m z v fs w hb hT hr hl).mono ?_
  rintro e w' ⟨v', rfl, hr', hb'⟩
  have HR := Lib.hid (And.intro hr' hb')
  clear hr' hb'
  go_wp2_with fail
  go_ret
  exact ⟨v', rfl, HR.out⟩
set_option maxHeartbeats 1000000 in
theorem tclone_any (T base : Nat) (b m : Int) (v : Value) (fs : List Fd) (w : World) (h : TabO w base T b m v fs) (hl : fs.length ≤ 1000000000) :
    Calls Try.prog 10 #[.pointer (some ⟨T, 0, none⟩)] w fun e w' => ∃ (B : Nat) (v' : Value), e = .returned (.pointer (some ⟨B, 0, none⟩)) ∧ TabO w' w.heap.size B b m v' fs ∧ Below w.heap.size w w' := by
  obtain ⟨_, hT, hr⟩ := h
  obtain ⟨z, hz⟩ : ∃ z : Int, z = (sumF fs : Nat) := ⟨_, rfl⟩
  rw [← hz] at hT
  have HZ := Lib.hid hz
  clear hz
  go_enter Try.func10, Try.ntmps10
  go_wp2_with fail
  refine wp_region_table 17 [5, 6, 7, 8, 9, 10, 11, 12, 13, 14, 15, 16, 17, 18, 19, 20, 21] [[], [(0, 5)], [(1, 6)], [(2, 7)], [], [(4, 9)], [(5, 10)], [(6, 11)], [], [(8, 13)], [(9, 14)], [], [(11, 16)], [(12, 17)], [(13, 18)], [(3, 8), (7, 12), (10, 15), (14, 19)], [(15, 20)]]
    (fun i u w' => match i with
      | 0 => u = .pointer (some ⟨T, 0, none⟩)
      | 1 => u = .pointer (some ⟨T, 0, none⟩)
      | 2 => u = .pointer (some ⟨T, 0, none⟩)
      | 3 => u = .int .i64 b
      | 4 => u = .pointer (some ⟨T, 0, none⟩)
      | 5 => u = .pointer (some ⟨T, 0, none⟩)
      | 6 => u = .pointer (some ⟨T, 1, none⟩)
      | 7 => u = .int .i64 m
      | 8 => u = .pointer (some ⟨T, 0, none⟩)
      | 9 => ∃ Bb, u = .func (.func 30) #[] #[.pointer (some ⟨Bb, 0, none⟩)] ∧ w'.heap[Bb]? = some (.cells #[.pointer (some ⟨T, 0, none⟩)] 25 (0, 0))
      | 10 => RowF w' w.heap.size u fs
      | 11 => u = .pointer (some ⟨T, 0, none⟩)
      | 12 => u = .pointer (some ⟨T, 0, none⟩)
      | 13 => u = .pointer (some ⟨T, 3, none⟩)
      | 14 => u = .int .i64 z
      | 15 => ∃ u', u = .agg #[.int .i64 b, .int .i64 m, u', .int .i64 z] ∧ RowF w' w.heap.size u' fs
      | 16 => ∃ B u', u = .pointer (some ⟨B, 0, none⟩) ∧ w.heap.size ≤ B ∧ TabAt w' B b m u' z ∧ RowF w' w.heap.size u' fs
      | _ => True) (by kernel_rfl) (by kernel_rfl) ?tStab ?tOps ?tRest
  case tStab =>
    intro i u w3 w4 h hb
    match i, h with
    | 0, h | 1, h | 2, h | 3, h | 4, h | 5, h | 6, h | 7, h | 8, h | 11, h | 12, h | 13, h | 14, h => exact h
    | 9, ⟨Bb, e, hh⟩ => exact ⟨Bb, e, (hb.block _ (Array.getElem?_eq_some_iff.1 hh).1).trans hh⟩
    | 10, h => exact h.below hb
    | 15, ⟨u', e, hh⟩ => exact ⟨u', e, hh.below hb⟩
    | 16, ⟨B, u', e, hB, h1, h2⟩ => exact ⟨B, u', e, hB, h1.below hb, h2.below hb⟩
    | i + 17, _ => trivial
  case tOps =>
    simp only [List.take_succ_cons, List.take_zero, opsOk]
    refine ⟨?_, ?_, ?_, ?_, ?_, ?_, ?_, ?_, ?_, ?_, ?_, ?_, ?_, ?_, ?_, ?_, ?_, trivial⟩
    · intro ρ w3 hc hf ho hB hj
      have x0 : ρ (.tmp 0) = .pointer (some ⟨T, 0, none⟩) := ho 0 (by decide)
      simp [gives, go_sem, x0, Below.refl]
    · intro ρ w3 hc hf ho hB hj
      have x0 : ρ (.tmp 5) = .pointer (some ⟨T, 0, none⟩) := hj (0, 5) (by simp)
      simp [gives, go_sem, x0, Below.refl]
    · intro ρ w3 hc hf ho hB hj
      have x0 : ρ (.tmp 6) = .pointer (some ⟨T, 0, none⟩) := hj (1, 6) (by simp)
      simp [gives, go_sem, x0, Below.refl]
    · intro ρ w3 hc hf ho hB hj
      have x0 : ρ (.tmp 7) = .pointer (some ⟨T, 0, none⟩) := hj (2, 7) (by simp)
      have cc := (hT.below hB).c0
      simp [gives, go_sem, x0, cc, Below.refl]
    · intro ρ w3 hc hf ho hB hj
      have x0 : ρ (.tmp 0) = .pointer (some ⟨T, 0, none⟩) := ho 0 (by decide)
      simp [gives, go_sem, x0, Below.refl]
    · intro ρ w3 hc hf ho hB hj
      have x0 : ρ (.tmp 9) = .pointer (some ⟨T, 0, none⟩) := hj (4, 9) (by simp)
      simp [gives, go_sem, x0, Below.refl]
    · intro ρ w3 hc hf ho hB hj
      have x0 : ρ (.tmp 10) = .pointer (some ⟨T, 0, none⟩) := hj (5, 10) (by simp)
      simp [gives, go_sem, x0, Below.refl]
    · intro ρ w3 hc hf ho hB hj
      have x0 : ρ (.tmp 11) = .pointer (some ⟨T, 1, none⟩) := hj (6, 11) (by simp)
      have cc := (hT.below hB).c1
      simp [gives, go_sem, x0, cc, Below.refl]
    · intro ρ w3 hc hf ho hB hj
      have x0 : ρ (.tmp 0) = .pointer (some ⟨T, 0, none⟩) := ho 0 (by decide)
      simp [gives, go_sem, x0, Below.refl]
    · intro ρ w3 hc hf ho hB hj
      have x0 : ρ (.tmp 13) = .pointer (some ⟨T, 0, none⟩) := hj (8, 13) (by simp)
      simp [gives, go_sem, x0, hf]
      refine (oldestFirst_any T w3).mono ?_
      rintro e w4 ⟨rfl, rfl⟩
      exact ⟨_, rfl, ⟨_, rfl, heap_alloc_new _ _⟩, (Below.refl _ _).alloc (Nat.le_refl _) _⟩
    · intro ρ w3 hc hf ho hB hj
      obtain ⟨Bb, x0, hbb⟩ := hj (9, 14) (by simp)
      dsimp only at x0
      simp [gives, go_sem, x0, hf]
      refine (collect_any T base Bb b m z v fs w3 hbb (hT.below hB) (hr.below hB) hl).mono ?_
      rintro e w4 ⟨v', rfl, hr', hb'⟩
      exact ⟨_, rfl, hr'.mono hB.size, hb'⟩
    · intro ρ w3 hc hf ho hB hj
      have x0 : ρ (.tmp 0) = .pointer (some ⟨T, 0, none⟩) := ho 0 (by decide)
      simp [gives, go_sem, x0, Below.refl]
    · intro ρ w3 hc hf ho hB hj
      have x0 : ρ (.tmp 16) = .pointer (some ⟨T, 0, none⟩) := hj (11, 16) (by simp)
      simp [gives, go_sem, x0, Below.refl]
    · intro ρ w3 hc hf ho hB hj
      have x0 : ρ (.tmp 17) = .pointer (some ⟨T, 0, none⟩) := hj (12, 17) (by simp)
      simp [gives, go_sem, x0, Below.refl]
    · intro ρ w3 hc hf ho hB hj
      have x0 : ρ (.tmp 18) = .pointer (some ⟨T, 3, none⟩) := hj (13, 18) (by simp)
      have cc := (hT.below hB).c3
      simp [gives, go_sem, x0, cc, Below.refl]
    · intro ρ w3 hc hf ho hB hj
      have x0 : ρ (.tmp 8) = .int .i64 b := hj (3, 8) (by simp)
      have x1 : ρ (.tmp 12) = .int .i64 m := hj (7, 12) (by simp)
      have hr3 : RowF w3 w.heap.size (ρ (.tmp 15)) fs := hj (10, 15) (by simp)
      have x3 : ρ (.tmp 19) = .int .i64 z := hj (14, 19) (by simp)
      obtain ⟨a', c', x2⟩ := hr3.shape
      rw [x2] at hr3
      simp [gives, go_sem, x0, x1, x2, x3, Below.refl]
      exact hr3
    · intro ρ w3 hc hf ho hB hj
      obtain ⟨u', x0, hr3⟩ := hj (15, 20) (by simp)
      dsimp only at x0
      obtain ⟨a', c', rfl⟩ := hr3.shape
      simp [gives, go_sem, x0]
      exact ⟨⟨hB.size, _, heap_alloc_new _ _, hr3.below ((Below.refl _ _).alloc (Nat.le_refl _) _)⟩, (Below.refl _ _).alloc (Nat.le_refl _) _⟩
  case tRest =>
    intro x w3 hb3 hx
    obtain ⟨B, u', e16, hB, hTn, hrn⟩ := hx 16 (by decide)
    simp only [putAll, List.getD_cons_zero, List.getD_cons_succ, Act.put, List.setIfInBounds_toArray, List.set_cons_zero, List.set_cons_succ, List.drop_succ_cons, List.drop_zero]
    rw [e16]
    clear hx
    have HR := Lib.hid (And.intro hTn (And.intro hrn hb3))
    clear hTn hrn hb3
    go_wp2_with fail
    go_ret
    obtain ⟨hTn, hrn, hb3⟩ := HR.out
    exact ⟨B, u', rfl, ⟨hB, by rw [← HZ.out]; exact hTn, hrn⟩, hb3⟩
end Go.Proofs.Ytjaedpekbkmokaa
