
/-
  Layer 17's program: the table as an object: its block, its map, its row; remember, remembers.
-/
import Derived.Test.YtcompnndnelamaaStrmTab
import Derived.Test.YtcompnndnelamaaStrmSm
import Derived.Test.YtcompnndnelamaaStrmMap
namespace Go.Proofs.Ytcompnndnelamaa
set_option maxRecDepth 20000
open Go.RowKit Go.Maps

/-- what holds of a table that came about by calls -/
structure Good17 (s : St17) : Prop where
  up : s.A.Pairwise (· < ·)
  a : ∀ x ∈ s.A, 1 ≤ x ∧ x ≤ s.hi ∧ x % 2 = 1
  l : ∀ x ∈ s.L, 1 ≤ x ∧ x ≤ s.hi ∧ x % 2 = 1
  h : 0 ≤ s.hi ∧ s.hi ≤ 2147483647
  m : s.most ≤ 100 ∧ s.mem ≤ 100
  na : (s.A.length : Int) ≤ s.most
  nl : (s.L.length : Int) ≤ s.mem
theorem Good17.new {most mem : Int} (h : 0 ≤ most ∧ most ≤ 100 ∧ 0 ≤ mem ∧ mem ≤ 100) : Good17 (St17.new most mem) :=
  ⟨List.Pairwise.nil, (fun _ h => by cases h), (fun _ h => by cases h), ⟨Int.le_refl _, by show (0 : Int) ≤ _; omega⟩, ⟨h.2.1, h.2.2.2⟩, h.1, h.2.2.1⟩
theorem Good17.late {s : St17} {id : Int} (h : Good17 s) (hid : 1 ≤ id ∧ id ≤ s.hi ∧ id % 2 = 1) : Good17 (lateT s id) := by
  have hl : ∀ x ∈ s.L ++ [id], 1 ≤ x ∧ x ≤ s.hi ∧ x % 2 = 1 := fun x hx => by
    rcases List.mem_append.1 hx with hx | hx
    · exact h.l x hx
    · rw [List.mem_singleton] at hx; rw [hx]; exact hid
  have hn := h.nl
  unfold lateT
  refine ⟨h.up, h.a, ?_, h.h, h.m, h.na, ?_⟩
  · dsimp only
    split
    · exact fun x hx => hl x (List.mem_of_mem_drop hx)
    · exact hl
  · dsimp only
    split <;> simp at * <;> omega
theorem Good17.hi {s : St17} {id : Int} (h : Good17 s) (h1 : s.hi ≤ id) (h2 : id ≤ 2147483647) : Good17 { s with hi := id } :=
  ⟨h.up, fun x hx => by have := h.a x hx; exact ⟨this.1, Int.le_trans this.2.1 h1, this.2.2⟩, fun x hx => by have := h.l x hx; exact ⟨this.1, Int.le_trans this.2.1 h1, this.2.2⟩, ⟨by have := h.h; show 0 ≤ id; omega, h2⟩, h.m, h.na, h.nl⟩
theorem Good17.open {s : St17} (h : Good17 s) (id : Int) : Good17 (openS s id) := by
  unfold openS
  split
  · exact h
  · rename_i hb
    have hb' : 1 ≤ id ∧ id ≤ 2147483647 ∧ id % 2 = 1 := by unfold badId at hb; omega
    split
    · exact h
    · rename_i hle
      have h1 := h.hi (id := id) (by omega) hb'.2.1
      split
      · exact h1.late ⟨hb'.1, Int.le_refl _, hb'.2.2⟩
      · rename_i hm
        refine ⟨?_, ?_, h1.l, h1.h, h.m, ?_, h.nl⟩
        · show (s.A ++ [id]).Pairwise _
          refine List.pairwise_append.2 ⟨h.up, List.pairwise_singleton _ _, fun x hx y hy => ?_⟩
          rw [List.mem_singleton] at hy
          have := h.a x hx
          omega
        · intro x hx
          rcases List.mem_append.1 hx with hx | hx
          · exact h1.a x hx
          · rw [List.mem_singleton] at hx; rw [hx]; exact ⟨hb'.1, Int.le_refl _, hb'.2.2⟩
        · show ((s.A ++ [id]).length : Int) ≤ s.most
          simp
          omega
theorem Good17.wout {s : St17} (h : Good17 s) (id : Int) : Good17 { s with A := woutL s.A id } :=
  ⟨h.up.sublist (List.filter_sublist), fun x hx => h.a x (List.mem_filter.1 hx).1, h.l, h.h, h.m, by have := woutL_le s.A id; have := h.na; show ((woutL s.A id).length : Int) ≤ s.most; omega, h.nl⟩
theorem Good17.close {s : St17} (h : Good17 s) (id : Int) (late : Bool) : Good17 (closeS s id late) := by
  unfold closeS
  split
  · rename_i hm
    split
    · exact (h.wout id).late (h.a id hm)
    · exact h.wout id
  · exact h
theorem Good17.small {s : St17} (h : Good17 s) : s.A.length ≤ 100 ∧ s.L.length ≤ 100 := by have := h.na; have := h.nl; have := h.m; omega
theorem Good17.fitA {s : St17} (h : Good17 s) : Fit .i64 s.A := fun x hx => WalkArith.wf_i64 (by have := h.a x hx; have := h.h; omega)
theorem Good17.fitL {s : St17} (h : Good17 s) : Fit .i64 s.L := fun x hx => WalkArith.wf_i64 (by have := h.l x hx; have := h.h; omega)

def TbBlk (W : World) (T : Nat) (s : St17) (M : Nat) (v : Value) : Prop := W.heap[T]? = some (.cells #[.int .i64 s.most, .int .i64 s.hi, .map (some M), .int .i64 s.mem, v] 52 (0, 0))
theorem TbBlk.lt {W : World} {T M : Nat} {s : St17} {v : Value} (h : TbBlk W T s M v) : T < W.heap.size := (Array.getElem?_eq_some_iff.1 h).1
theorem TbBlk.cells {W : World} {T M : Nat} {s : St17} {v : Value} (h : TbBlk W T s M v) : W.cell? ⟨T, 0, none⟩ = some (.int .i64 s.most) ∧ W.cell? ⟨T, 1, none⟩ = some (.int .i64 s.hi) ∧ W.cell? ⟨T, 2, none⟩ = some (.map (some M)) ∧ W.cell? ⟨T, 3, none⟩ = some (.int .i64 s.mem) ∧ W.cell? ⟨T, 4, none⟩ = some v ∧ T < W.heap.size :=
  ⟨blk_cell h rfl, blk_cell h rfl, blk_cell h rfl, blk_cell h rfl, blk_cell h rfl, h.lt⟩
theorem TbBlk.free {W : World} {T M : Nat} {s : St17} {v : Value} (h : TbBlk W T s M v) (j : Nat) : W.frozen? ⟨T, j, none⟩ = false := blk_free h
/-- the program's table in block T, its map in block M, what is late in v's -/
structure TbO (W : World) (T M : Nat) (v : Value) (s : St17) : Prop where
  blk : TbBlk W T s M v
  map : MpA Try.prog 3 4 W M s.A
  row : RowI W v s.L
section
variable {W W' : World} {T M : Nat} {v : Value} {s : St17}
theorem TbO.turn {S : Nat → Prop} (h : TbO W T M v s) (ht : Turn S W W') (h0 : ¬ S T) (h1 : ¬ S M) (h2 : ∀ g, v.ownBlock = some g → ¬ S g) : TbO W' T M v s :=
  ⟨ht.obj h.blk h0, h.map.block (ht.2.2.2.2 M h.map.lt h1), owned_turn h.row ht h2⟩
theorem TbO.below (h : TbO W T M v s) (hb : Below W.heap.size W W') : TbO W' T M v s := h.turn (Turn.of_below hb (S := fun _ => False)) id id (fun _ _ => id)
theorem TbO.nM (h : TbO W T M v s) : M ≠ T := h.map.ne h.blk
theorem RowI.at (h : RowI W v s.L) {g : Nat} (hg : v.ownBlock = some g) : ∃ cs, W.heap[g]? = some (.cells cs 3 (0, 0)) := by
  rcases h.2 with ⟨rfl, _⟩ | ⟨g', cap, cur, rfl, _, hh, _⟩
  · cases hg
  · cases hg
    exact ⟨cur, hh⟩
theorem TbO.nT (h : TbO W T M v s) : ∀ g, v.ownBlock = some g → g ≠ T := fun g hg e => by
  subst e
  obtain ⟨cs, h1⟩ := h.row.at hg
  rw [show W.heap[g]? = _ from h.blk] at h1
  injection h1 with h1
  injection h1 with _ e2 _
  exact absurd e2 (by decide)
theorem TbO.nV (h : TbO W T M v s) : ∀ g, v.ownBlock = some g → g ≠ M := fun g hg e => by
  obtain ⟨cs, h1⟩ := h.row.at hg
  exact h.map.ne h1 e.symm
theorem TbO.vlt (h : TbO W T M v s) : ∀ g, v.ownBlock = some g → g < W.heap.size := fun g hg => (h.row.lt g hg).2
theorem TbO.setHi (h : TbO W T M v s) (n : Int) : TbO (W.setCell ⟨T, 1, none⟩ (.int .i64 n)) T M v { s with hi := n } :=
  ⟨heap_setCell_same _ T 1 _ _ _ h.blk, h.map.block (Below.heap_setCell _ _ _ _ h.nM), owned_turn h.row (turn_set17 T 1 _) h.nT⟩
/-- another row of what is late -/
theorem TbO.setV (h : TbO W T M v s) {u : Value} {L : List Int} (hr : RowI W u L) (hn : ∀ g, u.ownBlock = some g → g ≠ T) : TbO (W.setCell ⟨T, 4, none⟩ u) T M u { s with L := L } :=
  ⟨heap_setCell_same _ T 4 _ _ _ h.blk, h.map.block (Below.heap_setCell _ _ _ _ h.nM), owned_turn hr (turn_set17 T 4 _) hn⟩
end
/-- the object's blocks are those, and others' are new -/
def FromW (w : World) (v x : Value) : Prop := ∀ g, x.ownBlock = some g → v.ownBlock = some g ∨ w.heap.size ≤ g

theorem delete17_at (g cap N : Nat) (l : List Int) (hN : l.length = N + 1) (w : World) (h : RowI w (.slice (some ⟨g, 0, none⟩) (N + 1) cap) l) :
    Calls Try.prog 28 #[.slice (some ⟨g, 0, none⟩) (N + 1) cap, .int .i64 0, .int .i64 1] w fun e w' => e = .returned (.slice (some ⟨g, 0, none⟩) N cap) ∧ RowI w' (.slice (some ⟨g, 0, none⟩) N cap) (l.drop 1) ∧ w.grownBy w' (some g) := by
  have := delete17_any g cap l (by omega) w (by rw [hN]; exact h)
  rw [hN] at this
  exact this
theorem RowI.shape {w : World} {a : Option Addr} {n cap : Nat} {l : List Int} (h : RowI w (.slice a (n + 1) cap) l) : ∃ g, a = some ⟨g, 0, none⟩ := by
  rcases h.2 with ⟨e, e'⟩ | ⟨g, c, cur, e, _⟩
  · simp only [Value.slice.injEq] at e
    omega
  · simp only [Value.slice.injEq] at e
    exact ⟨g, e.1⟩
set_option maxHeartbeats 2000000 in
theorem remember17_any (T M : Nat) (v : Value) (s : St17) (n : Int) (w : World) (h : TbO w T M v s) (hn : (Lit.int .i64 n).wf = true) (hl : s.L.length ≤ 1000) :
    Calls Try.prog 22 #[.pointer (some ⟨T, 3, none⟩), .int .i64 n] w fun e w' => e = .returned (.tuple #[]) ∧ ∃ v', TbO w' T M v' (lateT s n) ∧ Turn (fun k => k = T ∨ v.ownBlock = some k) w w' ∧ FromW w v v' := by
  obtain ⟨most, mem, hi, A, L⟩ := s
  obtain ⟨f0, f1, f2, f3, f4, f5⟩ := h.blk.cells
  have g4 := h.blk.free 4
  have hsl : Sl .i64 w v L → True := fun _ => trivial
  obtain ⟨al, cl, ev, _⟩ := owned_shape h.row
  dsimp only at f0 f1 f3 ev hl hsl
  clear hsl
  subst ev
  have HH := Lib.hid h
  have HI := Lib.hid hn
  have HL := Lib.hid hl
  have hb1 : Below w.heap.size w (w.alloc (.cells #[.int .i64 n] 3)) := (Below.refl _ _).alloc (Nat.le_refl _) _
  have HA := Lib.hid (show Sl .i64 (w.alloc (.cells #[.int .i64 n] 3)) (.slice (some ⟨w.heap.size, 0, none⟩) 1 1) [n] ∧ Below w.heap.size w (w.alloc (.cells #[.int .i64 n] 3)) ∧ TbO (w.alloc (.cells #[.int .i64 n] 3)) T M (.slice al L.length cl) ⟨most, mem, hi, A, L⟩ from
    ⟨Sl.lit' [n] rfl rfl rfl (by intro z hz; rw [List.mem_singleton] at hz; rw [hz]; exact hn) (by unfold maxLen; simp), hb1, h.below hb1⟩)
  clear h hn hl hb1
  go_enter Try.func22, Try.ntmps22
  go_wp2_with (at_builtin; refine app_ints_at rfl (.tmp 8) (.tmp 10) 36 rfl 0 3 .i64 8 Try.underlying36 Try.infoI17 _ _ L rfl HA.out.2.2.row _ [n] rfl HA.out.1 (by have := HL.out; simp; omega) (by have := HL.out; unfold maxLen; simp; omega) (Nat.zero_le _) ?_; intro v2 w2 hO2 hb2 hg2 hat2; rw [List.length_singleton] at hO2; obtain ⟨a2, k2, rfl, _⟩ := owned_shape hO2; have hr2 := (show RowI w2 (.slice a2 (L.length + 1) k2) (L ++ [n]) from by unfold RowI; rw [List.length_append]; exact hO2); have hb2' := (Turn.of_row hg2).obj HA.out.2.2.blk (fun e => HA.out.2.2.nT T e rfl); have hm2 := HA.out.2.2.map.block ((Turn.of_row hg2).2.2.2.2 M HA.out.2.2.map.lt (fun e => HA.out.2.2.nV M e rfl)); have hb2 : TbBlk w2 T ⟨most, mem, hi, A, L⟩ M (.slice al L.length cl) := hb2'; have j1 := hb2.cells.2.2.2.2.1; have j2 := hb2.free 4; have j3 := hb2.lt; have HO2 := Lib.hid (And.intro hb2 (And.intro hm2 (And.intro hr2 (And.intro hg2 hat2)))); clear hr2 hO2 hb2 hb2' hm2 hg2 hat2)
  have HW3 := Lib.hid (show TbO (w2.setCell ⟨T, 4, none⟩ (.slice a2 (L.length + 1) k2)) T M (.slice a2 (L.length + 1) k2) ⟨most, mem, hi, A, L ++ [n]⟩ ∧ Turn (fun k => k = T ∨ (Value.slice al L.length cl).ownBlock = some k) w (w2.setCell ⟨T, 4, none⟩ (.slice a2 (L.length + 1) k2)) ∧ FromW w (.slice al L.length cl) (.slice a2 (L.length + 1) k2) from by
    obtain ⟨h1, h2, h3, h4, h5⟩ := HO2.out
    have hf : ∀ g, (Value.slice a2 (L.length + 1) k2).ownBlock = some g → (Value.slice al L.length cl).ownBlock = some g ∨ g = w.heap.size + 1 := fun g hg => by
      rcases h5 with e | e
      · exact .inl (e ▸ hg)
      · rw [hg] at e
        right
        simpa using e
    have hnT : ∀ g, (Value.slice a2 (L.length + 1) k2).ownBlock = some g → g ≠ T := fun g hg => by
      rcases hf g hg with e | e
      · exact HA.out.2.2.nT g e
      · have := HH.out.blk.lt; omega
    refine ⟨⟨heap_setCell_same _ T 4 _ _ _ h1, h2.block (Below.heap_setCell _ _ _ _ HH.out.nM), owned_turn h3 (turn_set17 T 4 _) hnT⟩, ?_, fun g hg => (hf g hg).imp_right (fun e => by omega)⟩
    exact ((Turn.of_below HA.out.2.1).trans ((Turn.of_row h4).mono (fun k _ e => .inr e))).trans ((turn_set17 T 4 _).mono (fun k _ e => .inl e)))
  generalize hw3 : w2.setCell ⟨T, 4, none⟩ (.slice a2 (L.length + 1) k2) = w3 at HW3 ⊢
  clear j1 j2 j3 f0 f1 f2 f3 f4 f5 g4 hw3
  obtain ⟨f0, f1, f2, f3, f4, f5⟩ := HW3.out.1.blk.cells
  dsimp only at f0 f1 f3
  obtain ⟨g2, rfl⟩ := HW3.out.1.row.shape
  by_cases hm : mem < ((L.length + 1 : Nat) : Int)
  · have d0 : decide (mem < ((L.length : Int) + 1)) = true := decide_eq_true (by omega)
    have d1 : decide (mem < ((L.length + 1 : Nat) : Int)) = true := decide_eq_true hm
    have HE := Lib.hid (show lateT ⟨most, mem, hi, A, L⟩ n = ⟨most, mem, hi, A, (L ++ [n]).drop 1⟩ by unfold lateT; rw [if_pos (by rw [List.length_append]; exact hm)])
    clear hm
    go_quiet (fail)
    have HW4 := Lib.hid (show TbO (w3.drewN nq) T M (.slice (some ⟨g2, 0, none⟩) (L.length + 1) k2) ⟨most, mem, hi, A, L ++ [n]⟩ ∧ Turn (fun k => k = T ∨ (Value.slice al L.length cl).ownBlock = some k) w (w3.drewN nq) from ⟨HW3.out.1.below (below_drewN (Below.refl _ _) _), HW3.out.2.1.trans (Turn.of_below (below_drewN (Below.refl _ _) _))⟩)
    generalize w3.drewN nq = w4 at HW4 ⊢
    clear f0 f1 f2 f3 f4 f5
    obtain ⟨f0, f1, f2, f3, f4, f5⟩ := HW4.out.1.blk.cells
    clear d0 d1 f0 f1 f2 f3
    go_wp2_with fail
    refine (delete17_at g2 k2 L.length (L ++ [n]) (by simp) w4 HW4.out.1.row).mono ?_
    rintro e w5 ⟨rfl, hr5, hg5⟩
    have ht5 := Turn.of_grown hg5
    have hb5 : TbBlk w5 T ⟨most, mem, hi, A, L ++ [n]⟩ M _ := ht5.obj HW4.out.1.blk (fun e => HW4.out.1.nT g2 rfl e.symm)
    have HX := Lib.hid (And.intro hr5 (And.intro hb5 (And.intro (HW4.out.1.map.block (ht5.2.2.2.2 M HW4.out.1.map.lt (fun e => HW4.out.1.nV g2 rfl e.symm))) ht5)))
    clear f4 f5
    have f4 := hb5.cells.2.2.2.2.1
    have g4 := hb5.free 4
    have f5 := hb5.lt
    clear hr5 hg5 ht5 hb5
    go_wp2_with fail
    refine bodyPost_end (results_none rfl _ _ _) rfl ?_
    obtain ⟨h1, h2, h3, h4⟩ := HX.out
    have hnT : ∀ g, (Value.slice (some ⟨g2, 0, none⟩) L.length k2).ownBlock = some g → g ≠ T := fun g hg => HW4.out.1.nT g hg
    have hfr := HW3.out.2.2 g2 rfl
    refine ⟨rfl, .slice (some ⟨g2, 0, none⟩) L.length k2, ?_, (HW4.out.2.trans' h4 (fun k hk e => ?_)).trans ((turn_set17 T 4 _).mono (fun k _ e => .inl e)), fun g hg => HW3.out.2.2 g hg⟩
    · rw [HE.out]
      exact ⟨heap_setCell_same _ T 4 _ _ _ h2, h3.block (Below.heap_setCell _ _ _ _ HH.out.nM), owned_turn h1 (turn_set17 T 4 _) hnT⟩
    · subst e
      rcases hfr with e | e
      · exact .inr e
      · omega
  · have d0 : decide (mem < ((L.length : Int) + 1)) = false := decide_eq_false (by omega)
    have d1 : decide (mem < ((L.length + 1 : Nat) : Int)) = false := decide_eq_false hm
    have HE := Lib.hid (show lateT ⟨most, mem, hi, A, L⟩ n = ⟨most, mem, hi, A, L ++ [n]⟩ by unfold lateT; rw [if_neg (by rw [List.length_append]; exact hm)])
    clear hm
    go_quiet (fail)
    go_wp2_with fail
    refine bodyPost_end (results_none rfl _ _ _) rfl ?_
    refine ⟨rfl, _, by rw [HE.out]; exact HW3.out.1.below (below_drewN (Below.refl _ _) _), HW3.out.2.1.trans (Turn.of_below (below_drewN (Below.refl _ _) _)), HW3.out.2.2⟩
theorem remembers17_any (T M : Nat) (v : Value) (s : St17) (n : Int) (w : World) (h : TbO w T M v s) (hg : Good17 s) :
    Calls Try.prog 27 #[.pointer (some ⟨T, 3, none⟩), .int .i64 n] w fun e w' => e = .returned (.bool (decide (n ∈ s.L))) ∧ w' = w := by
  obtain ⟨f0, f1, f2, f3, f4, f5⟩ := h.blk.cells
  have HS := Lib.hid (Sl.of_own h.row hg.fitL (by have := hg.small; unfold maxLen; omega))
  clear h hg
  go_enter Try.func27, Try.ntmps27
  go_wp2_with fail
  refine (contains17_any v s.L n w HS.out).mono ?_
  rintro e w1 ⟨rfl, rfl⟩
  go_wp2_with fail
  go_ret
  exact ⟨rfl, rfl⟩
end Go.Proofs.Ytcompnndnelamaa
