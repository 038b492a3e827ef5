
/-
  Layer 18's program: within, has, New, Clear, Tick, Count, Counts; a nil meter.
-/
import Derived.Test.YtcembofjhajpbaaMeterRef
import Derived.Test.YtcembofjhajpbaaRow0
import Derived.Lib.SliceRun
namespace Go.Proofs.Ytcembofjhajpbaa
set_option maxRecDepth 20000
open Go.RowKit

def arrL (l : List Int) : Value := .agg (l.map (Value.int .i64)).toArray
/-- the program's meter: one block, and no count above its limit by more than one -/
structure MtAt (W : World) (T : Nat) (B : Nat → Prop) (s : St18) : Prop where
  blk : W.heap[T]? = some (.cells (cells18 s) 43 (0, 0))
  ok : Ok18 s
  low : ∀ k, k < 6 → at0 s.cnt k ≤ at0 s.lim k + 1
  own : ∀ g, B g ↔ g = T
theorem MtAt.ltT {W : World} {T : Nat} {B : Nat → Prop} {s : St18} (h : MtAt W T B s) : T < W.heap.size := (Array.getElem?_eq_some_iff.1 h.blk).1
theorem MtAt.lt {W : World} {T : Nat} {B : Nat → Prop} {s : St18} (h : MtAt W T B s) : ∀ g, B g → g < W.heap.size := fun g hg => by
  rw [(h.own g).1 hg]; exact h.ltT
theorem MtAt.turn {W W' : World} {T : Nat} {B S : Nat → Prop} {s : St18} (h : MtAt W T B s) (ht : Turn S W W') (h0 : ∀ g, B g → ¬ S g) : MtAt W' T B s :=
  ⟨ht.obj h.blk (h0 T ((h.own T).2 rfl)), h.ok, h.low, h.own⟩
theorem MtAt.below {W W' : World} {T : Nat} {B : Nat → Prop} {s : St18} (h : MtAt W T B s) (hb : Below W.heap.size W W') : MtAt W' T B s := h.turn (Turn.of_below hb (S := fun _ => False)) (fun _ _ => id)
theorem MtAt.cnt {W : World} {T : Nat} {B : Nat → Prop} {s : St18} (h : MtAt W T B s) {k : Nat} (hk : k < 6) : W.cell? ⟨T, 6 + k, none⟩ = some (.int .i64 (at0 s.cnt k)) := blk_cell h.blk (cells18_cnt h.ok.l.1 h.ok.n hk)
theorem MtAt.lim {W : World} {T : Nat} {B : Nat → Prop} {s : St18} (h : MtAt W T B s) {k : Nat} (hk : k < 6) : W.cell? ⟨T, k, none⟩ = some (.int .i64 (at0 s.lim k)) := blk_cell h.blk (cells18_lim h.ok.l.1 hk)
theorem MtAt.free {W : World} {T : Nat} {B : Nat → Prop} {s : St18} (h : MtAt W T B s) (k : Nat) : W.frozen? ⟨T, k, none⟩ = false := blk_free h.blk
/-- one count set -/
theorem MtAt.set {W : World} {T : Nat} {B : Nat → Prop} {s : St18} (h : MtAt W T B s) {k : Nat} (hk : k < 6) {v : Int} (h0 : 0 ≤ v) (h1 : v ≤ at0 s.lim k + 1) :
    MtAt (W.setCell ⟨T, 6 + k, none⟩ (.int .i64 v)) T B { s with cnt := s.cnt.set k v } ∧ Turn B W (W.setCell ⟨T, 6 + k, none⟩ (.int .i64 v)) := by
  have hl := h.ok.l.2 (at0 s.lim k) (at0_mem (by rw [h.ok.l.1]; exact hk))
  refine ⟨⟨?_, set_ok h.ok k h0 (by omega), fun j hj => ?_, h.own⟩, (turn_set18 T (6 + k) _).mono (fun g _ e => (h.own g).2 e)⟩
  · have h2 := heap_setCell_same W T (6 + k) _ _ (.int .i64 v) h.blk
    rw [cells18_set h.ok.l.1] at h2
    exact h2
  · show at0 (s.cnt.set k v) j ≤ at0 s.lim j + 1
    by_cases hjk : j = k
    · subst hjk
      rw [show at0 (s.cnt.set j v) j = v by simp [at0, h.ok.n, hk]]
      exact h1
    · rw [show at0 (s.cnt.set k v) j = at0 s.cnt j by simp [at0, List.getElem?_set_ne (fun e => hjk e.symm)]]
      exact h.low j hj

def inM (n a b : Int) : Bool := decide (a ≤ n) && decide (n ≤ b)
theorem inM_yes {n a b : Int} (h : a ≤ n ∧ n ≤ b) : inM n a b = true := by
  unfold inM
  rw [decide_eq_true h.1, decide_eq_true h.2]; rfl
theorem inM_no {n a b : Int} (h : ¬ (a ≤ n ∧ n ≤ b)) : inM n a b = false := by
  unfold inM
  by_cases h1 : a ≤ n
  · rw [decide_eq_true h1, decide_eq_false (fun q => h ⟨h1, q⟩)]; rfl
  · rw [decide_eq_false h1]; rfl
theorem in18_any (n a b : Int) (w : World) :
    Calls Try.prog 15 #[.int .i64 n, .int .i64 a, .int .i64 b] w fun e w' => e = .returned (.bool (inM n a b)) ∧ w' = w := by
  have HD := Lib.hid (show inM n a b = (decide (a ≤ n) && decide (n ≤ b)) from rfl)
  obtain ⟨c, hc⟩ : ∃ c, decide (a ≤ n) = c := ⟨_, rfl⟩
  rw [hc] at HD
  cases c
  all_goals
    go_enter Try.func15, Try.ntmps15
    go_wp2_with fail
    go_ret
    exact ⟨by rw [HD.out]; rfl, rfl⟩
theorem has18_any (T : Nat) (n : Int) (w : World) :
    Calls Try.prog 16 #[.pointer (some ⟨T, 0, none⟩), .int .i64 n] w fun e w' => e = .returned (.bool (inM n 0 5)) ∧ w' = w := by
  go_enter Try.func16, Try.ntmps16
  go_wp2_with fail
  refine (in18_any _ _ _ _).mono ?_
  rintro e w1 ⟨rfl, rfl⟩
  go_wp2_with fail
  go_ret
  exact ⟨rfl, rfl⟩
theorem has18_nil (n : Int) (w : World) :
    Calls Try.prog 16 #[.pointer none, .int .i64 n] w fun e w' => e = .returned (.bool false) ∧ w' = w := by
  go_enter Try.func16, Try.ntmps16
  go_wp2_with fail
  go_ret
  exact ⟨rfl, rfl⟩

theorem arrT18 : Try.prog.underlying 22 = some (.array 6 3) := by kernel_rfl
theorem index_arrL (l : List Int) (h : l.length = 6) (k : Nat) (hk : k < 6) (W : World) : (Instr.index 22 (arrL l) (.int .i64 (k : Int))).run Try.prog W = .ok (.int .i64 (at0 l k)) W := by
  obtain ⟨a, b, c, d, e, f, rfl⟩ := six h
  match k, hk with
  | 0, _ | 1, _ | 2, _ | 3, _ | 4, _ | 5, _ => simp [arrL, Instr.index, run_underlying arrT18, asIntOf, at0, go_sem]
set_option maxHeartbeats 1000000 in
theorem pNew18_loop (lim : List Int) (w : World) (h6 : lim.length = 6) : Calls Try.prog 5 #[arrL lim] w fun e w' => (limOk lim → ∃ T, e = .returned (.tuple #[.pointer (some ⟨T, 0, none⟩), .int .i64 0]) ∧ MtAt w' T (fun g => g = T) (new18 lim) ∧ w.heap.size ≤ T ∧ Below w.heap.size w w') ∧ (¬ limOk lim → e = .returned (.tuple #[.pointer none, .int .i64 1]) ∧ Below w.heap.size w w') := by
  have HL := Lib.hid h6
  have HI := Lib.hid (index_arrL lim h6)
  obtain ⟨l0, l1, l2, l3, l4, l5, hlim⟩ := six h6
  have HA := Lib.hid (show arrL lim = .agg #[.int .i64 l0, .int .i64 l1, .int .i64 l2, .int .i64 l3, .int .i64 l4, .int .i64 l5] by rw [hlim]; rfl)
  rw [HA.out] at HI ⊢
  have HE := Lib.hid hlim
  obtain ⟨W1, hW1⟩ : ∃ W1, w.alloc (.cells #[.int .i64 l0, .int .i64 l1, .int .i64 l2, .int .i64 l3, .int .i64 l4, .int .i64 l5] 22) = W1 := ⟨_, rfl⟩
  obtain ⟨g, hg⟩ : ∃ g, w.heap.size = g := ⟨_, rfl⟩
  have HG := Lib.hid hg
  have HB := Lib.hid (show Below g w W1 ∧ W1.heap[g]? = some (.cells #[.int .i64 l0, .int .i64 l1, .int .i64 l2, .int .i64 l3, .int .i64 l4, .int .i64 l5] 22 (0, 0)) from by rw [← hW1, ← hg]; exact ⟨(Below.refl _ _).alloc (Nat.le_refl _) _, heap_alloc_new w _⟩)
  have q0 := blk_cell (j := 0) HB.out.2 rfl
  have q1 := blk_cell (j := 1) HB.out.2 rfl
  have q2 := blk_cell (j := 2) HB.out.2 rfl
  have q3 := blk_cell (j := 3) HB.out.2 rfl
  have q4 := blk_cell (j := 4) HB.out.2 rfl
  have q5 := blk_cell (j := 5) HB.out.2 rfl
  have hgl := (Array.getElem?_eq_some_iff.1 HB.out.2).1
  clear h6 hlim
  go_enter Try.func5, Try.ntmps5
  go_wp2_with fail
  clear hW1
  go_loopg [5, 7] 6 (fun m s5 s7 wr => ∃ k : Nat, k + m = 6 ∧ s7 = .int .i64 k ∧ Hid (∀ x ∈ lim.take k, 0 ≤ x ∧ x ≤ 10000) ∧ wr = W1)
  case atStart => exact ⟨0, by omega, rfl, Lib.hid (by simp), rfl⟩
  case round =>
    obtain ⟨k, hkq, rfl, HT, rfl⟩ := hrel
    have HKQ := Lib.hid hkq
    have hk : k ≤ 6 := by omega
    clear hkq
    by_cases hlt : k < 6
    · have d1 : decide ((k : Int) < 6) = true := decide_eq_true (by omega)
      have hst : lim.take (k + 1) = lim.take k ++ [at0 lim k] := take_at0 lim k (by rw [HL.out]; exact hlt)
      have hmem : at0 lim k ∈ lim := at0_mem (by rw [HL.out]; exact hlt)
      have hix := HI.out k hlt
      obtain ⟨y, hy⟩ : ∃ y, at0 lim k = y := ⟨_, rfl⟩
      rw [hy] at hix hst hmem
      have HY := Lib.hid (And.intro hst hmem)
      clear hy hst hmem
      go_wp2_with fail
      refine (in18_any _ _ _ _).mono ?_
      rintro e w1 ⟨rfl, rfl⟩
      by_cases h1 : 0 ≤ y ∧ y ≤ 10000
      · have HN := Lib.hid (show ∀ x ∈ lim.take (k + 1), 0 ≤ x ∧ x ≤ 10000 from fun x hx => by
          rw [HY.out.1] at hx
          rcases List.mem_append.1 hx with hx | hx
          · exact HT.out x hx
          · rw [List.mem_singleton] at hx; rw [hx]; exact h1)
        rw [inM_yes h1]
        clear h1
        go_wp2_with fail
        go_roundg (6 - (k + 1))
        case measure => have := HKQ.out; omega
        case rel => exact ⟨k + 1, by omega, by go_num, HN, rfl⟩
      · have HD := Lib.hid (show ¬ limOk lim from fun e => h1 (e.2 y HY.out.2))
        rw [inM_no h1]
        clear h1
        go_wp2_with fail
        go_ret2
        exact ⟨fun h => absurd h HD.out, fun _ => ⟨rfl, by rw [HG.out]; exact HB.out.1⟩⟩
    · obtain rfl : k = 6 := by omega
      have HD := Lib.hid (show limOk lim from ⟨HL.out, fun x hx => HT.out x (by rw [List.take_of_length_le (by rw [HL.out]; exact Nat.le_refl _)]; exact hx)⟩)
      clear hlt hk
      go_wp2_with fail
      go_ret2
      refine ⟨fun _ => ⟨_, rfl, ⟨?_, new18_ok HD.out, fun k hk => ?_, fun _ => Iff.rfl⟩, HB.out.1.size, by rw [HG.out]; exact HB.out.1.alloc (by have := HB.out.1.size; have := HG.out; omega) _⟩, fun h => absurd HD.out h⟩
      · have h1 := heap_alloc_new wr (.cells (cells18 (new18 lim)) 43)
        rw [HE.out] at h1 ⊢
        exact h1
      · have h1 := HD.out.2 (at0 lim k) (at0_mem (by rw [HL.out]; exact hk))
        show at0 [0, 0, 0, 0, 0, 0] k ≤ at0 lim k + 1
        have h2 : at0 [0, 0, 0, 0, 0, 0] k = 0 := by
          match k, hk with
          | 0, _ | 1, _ | 2, _ | 3, _ | 4, _ | 5, _ => rfl
        omega
theorem pNew18_yes (lim : List Int) (w : World) (h : limOk lim) : Calls Try.prog 5 #[arrL lim] w fun e w' => ∃ T B, e = .returned (.tuple #[.pointer (some ⟨T, 0, none⟩), .int .i64 0]) ∧ MtAt w' T B (new18 lim) ∧ (∀ g, B g → w.heap.size ≤ g) ∧ Below w.heap.size w w' :=
  (pNew18_loop lim w h.1).mono (by
    rintro e w1 ⟨h1, _⟩
    obtain ⟨T, rfl, h2, h3, h4⟩ := h1 h
    exact ⟨T, _, rfl, h2, fun g hg => by rw [hg]; exact h3, h4⟩)
theorem pNew18_no (lim : List Int) (w : World) (h6 : lim.length = 6) (h : ¬ limOk lim) : Calls Try.prog 5 #[arrL lim] w fun e w' => e = .returned (.tuple #[.pointer none, .int .i64 1]) ∧ Below w.heap.size w w' :=
  (pNew18_loop lim w h6).mono (by rintro e w1 ⟨_, h1⟩; exact h1 h)
theorem inM_kind {n : Int} (h : kind6 n) : inM n 0 5 = true := inM_yes h
theorem inM_kindN {n : Int} (h : ¬ kind6 n) : inM n 0 5 = false := inM_no h
set_option maxHeartbeats 1000000 in
theorem pClear18 (T : Nat) (B : Nat → Prop) (s : St18) (n : Int) (w : World) (h : MtAt w T B s) : Calls Try.prog 8 #[.pointer (some ⟨T, 0, none⟩), .int .i64 n] w fun e w' => ∃ B', e = .returned (.int .i64 (kindE n)) ∧ MtAt w' T B' (clearS s n) ∧ Turn B w w' ∧ ∀ g, B' g → B g ∨ w.heap.size ≤ g := by
  by_cases hk : kind6 n
  · obtain ⟨k, rfl⟩ : ∃ k : Nat, n = k := ⟨n.toNat, by unfold kind6 at hk; omega⟩
    have hk6 : k < 6 := by unfold kind6 at hk; omega
    have HE := Lib.hid (show kindE (k : Int) = 0 ∧ clearS s (k : Int) = { s with cnt := s.cnt.set k 0 } from ⟨if_pos hk, by unfold clearS; rw [if_pos hk, Int.toNat_natCast]⟩)
    have HI := Lib.hid (inM_kind hk)
    have c0 := h.cnt hk6
    have g0 := h.free (6 + k)
    have hlt := h.ltT
    have HS := Lib.hid (h.set hk6 (Int.le_refl 0) (by have := h.ok.l.2 (at0 s.lim k) (at0_mem (by rw [h.ok.l.1]; exact hk6)); omega))
    clear hk h
    go_enter Try.func8, Try.ntmps8
    go_wp2_with fail
    refine (has18_any _ _ _).mono ?_
    rintro e w1 ⟨rfl, rfl⟩
    rw [HI.out]
    go_wp2_with fail
    go_ret
    exact ⟨B, by rw [HE.out.1]; rfl, by rw [HE.out.2]; exact HS.out.1, HS.out.2, fun g hg => .inl hg⟩
  · have HE := Lib.hid (show kindE n = 1 ∧ clearS s n = s from ⟨if_neg hk, if_neg hk⟩)
    have HH := Lib.hid h
    have HI := Lib.hid (inM_kindN hk)
    clear hk h
    go_enter Try.func8, Try.ntmps8
    go_wp2_with fail
    refine (has18_any _ _ _).mono ?_
    rintro e w1 ⟨rfl, rfl⟩
    rw [HI.out]
    go_wp2_with fail
    go_ret
    exact ⟨B, by rw [HE.out.1]; rfl, by rw [HE.out.2]; exact HH.out, Turn.of_below (Below.refl _ _), fun g hg => .inl hg⟩
theorem pClear18_nil (n : Int) (w : World) : Calls Try.prog 8 #[.pointer none, .int .i64 n] w fun e w' => e = .returned (.int .i64 1) ∧ Below w.heap.size w w' := by
  go_enter Try.func8, Try.ntmps8
  go_wp2_with fail
  refine (has18_nil _ _).mono ?_
  rintro e w1 ⟨rfl, rfl⟩
  go_wp2_with fail
  go_ret
  exact ⟨rfl, Below.refl _ _⟩
theorem pTick18_nil (w : World) : Calls Try.prog 10 #[.pointer none] w fun e w' => e = .returned (.tuple #[]) ∧ Below w.heap.size w w' := by
  go_enter Try.func10, Try.ntmps10
  go_wp2_with fail
  refine bodyPost_end (results_none rfl _ _ _) rfl ?_
  exact ⟨rfl, Below.refl _ _⟩
theorem pCounts18_nil (w : World) : Calls Try.prog 14 #[.pointer none] w fun e w' => e = .returned (arrL [0, 0, 0, 0, 0, 0]) ∧ Below w.heap.size w w' := by
  go_enter Try.func14, Try.ntmps14
  go_wp2_with fail
  refine bodyPost_ret (results_row0 rfl _ _ w.heap.size 22 _ (0, 0) _ rfl (heap_alloc_new _ _) Try.underlying22 rfl (by kernel_rfl)) rfl ?_
  exact ⟨rfl, (Below.refl _ _).alloc (Nat.le_refl _) _⟩
theorem pCount18_nil (n : Int) (w : World) : Calls Try.prog 12 #[.pointer none, .int .i64 n] w fun e w' => e = .returned (.tuple #[.bool false, .int .i64 1]) ∧ Below w.heap.size w w' := by
  go_enter Try.func12, Try.ntmps12
  go_wp2_with fail
  refine (has18_nil _ _).mono ?_
  rintro e w1 ⟨rfl, rfl⟩
  go_wp2_with fail
  go_ret2
  exact ⟨rfl, Below.refl _ _⟩
theorem set6 {W : World} {g : Nat} {t : TypeId} {x0 x1 x2 x3 x4 x5 : Value} (h : W.heap[g]? = some (.cells #[x0, x1, x2, x3, x4, x5] t (0, 0))) (y0 y1 y2 y3 y4 y5 : Value) :
    ((((((W.setCell ⟨g, 0, none⟩ y0).setCell ⟨g, 1, none⟩ y1).setCell ⟨g, 2, none⟩ y2).setCell ⟨g, 3, none⟩ y3).setCell ⟨g, 4, none⟩ y4).setCell ⟨g, 5, none⟩ y5).heap[g]? = some (.cells #[y0, y1, y2, y3, y4, y5] t (0, 0)) :=
  heap_setCell_same _ g 5 _ t y5 (heap_setCell_same _ g 4 _ t y4 (heap_setCell_same _ g 3 _ t y3 (heap_setCell_same _ g 2 _ t y2 (heap_setCell_same _ g 1 _ t y1 (heap_setCell_same W g 0 _ t y0 h)))))
theorem zeroI18 (w : World) : (zeroValue 3).run Try.prog w = .ok (.int .i64 0) w := by kernel_rfl
theorem tick_turn {W : World} {T : Nat} {B : Nat → Prop} {s : St18} (h : MtAt W T B s) : MtAt (W.setCells T 6 (List.replicate 5 (.int .i64 0))) T B (tickS s) ∧ Turn B W (W.setCells T 6 (List.replicate 5 (.int .i64 0))) := by
  have hl : ∀ k, k < 6 → (0 : Int) ≤ at0 s.lim k + 1 := fun k hk => by have := h.ok.l.2 (at0 s.lim k) (at0_mem (by rw [h.ok.l.1]; exact hk)); omega
  obtain ⟨a0, b0⟩ := h.set (k := 0) (by decide) (Int.le_refl 0) (hl 0 (by decide))
  obtain ⟨a1, b1⟩ := a0.set (k := 1) (by decide) (Int.le_refl 0) (hl 1 (by decide))
  obtain ⟨a2, b2⟩ := a1.set (k := 2) (by decide) (Int.le_refl 0) (hl 2 (by decide))
  obtain ⟨a3, b3⟩ := a2.set (k := 3) (by decide) (Int.le_refl 0) (hl 3 (by decide))
  obtain ⟨a4, b4⟩ := a3.set (k := 4) (by decide) (Int.le_refl 0) (hl 4 (by decide))
  have e : tickS s = { s with cnt := ((((s.cnt.set 0 0).set 1 0).set 2 0).set 3 0).set 4 0 } := by
    obtain ⟨c0, c1, c2, c3, c4, c5, hc⟩ := six h.ok.n
    unfold tickS
    rw [hc]
    rfl
  rw [e]
  exact ⟨a4, (((b0.trans b1).trans b2).trans b3).trans b4⟩
theorem pCounts18 (T : Nat) (B : Nat → Prop) (s : St18) (w : World) (h : MtAt w T B s) : Calls Try.prog 14 #[.pointer (some ⟨T, 0, none⟩)] w fun e w' => e = .returned (arrL s.cnt) ∧ Below w.heap.size w w' := by
  obtain ⟨c0, c1, c2, c3, c4, c5, hc⟩ := six h.ok.n
  obtain ⟨W1, hW1⟩ : ∃ W1, w.alloc (.cells #[.int .i64 0, .int .i64 0, .int .i64 0, .int .i64 0, .int .i64 0, .int .i64 0] 22) = W1 := ⟨_, rfl⟩
  obtain ⟨g, hg⟩ : ∃ g, w.heap.size = g := ⟨_, rfl⟩
  have HB := Lib.hid (show Below g w W1 ∧ W1.heap[g]? = some (.cells #[.int .i64 0, .int .i64 0, .int .i64 0, .int .i64 0, .int .i64 0, .int .i64 0] 22 (0, 0)) from by rw [← hW1, ← hg]; exact ⟨(Below.refl _ _).alloc (Nat.le_refl _) _, heap_alloc_new w _⟩)
  have h1 : MtAt W1 T B s := h.below (by rw [hg]; exact HB.out.1)
  have q0 : W1.cell? ⟨T, 6, none⟩ = some (.int .i64 c0) := by have e := h1.cnt (k := 0) (by decide); rw [hc] at e; exact e
  have q1 : W1.cell? ⟨T, 7, none⟩ = some (.int .i64 c1) := by have e := h1.cnt (k := 1) (by decide); rw [hc] at e; exact e
  have q2 : W1.cell? ⟨T, 8, none⟩ = some (.int .i64 c2) := by have e := h1.cnt (k := 2) (by decide); rw [hc] at e; exact e
  have q3 : W1.cell? ⟨T, 9, none⟩ = some (.int .i64 c3) := by have e := h1.cnt (k := 3) (by decide); rw [hc] at e; exact e
  have q4 : W1.cell? ⟨T, 10, none⟩ = some (.int .i64 c4) := by have e := h1.cnt (k := 4) (by decide); rw [hc] at e; exact e
  have q5 : W1.cell? ⟨T, 11, none⟩ = some (.int .i64 c5) := by have e := h1.cnt (k := 5) (by decide); rw [hc] at e; exact e
  have z0 := blk_cell (j := 0) HB.out.2 rfl
  have f0 := blk_free (j := 0) HB.out.2
  have z1 := blk_cell (j := 1) HB.out.2 rfl
  have f1 := blk_free (j := 1) HB.out.2
  have z2 := blk_cell (j := 2) HB.out.2 rfl
  have f2 := blk_free (j := 2) HB.out.2
  have z3 := blk_cell (j := 3) HB.out.2 rfl
  have f3 := blk_free (j := 3) HB.out.2
  have z4 := blk_cell (j := 4) HB.out.2 rfl
  have f4 := blk_free (j := 4) HB.out.2
  have z5 := blk_cell (j := 5) HB.out.2 rfl
  have f5 := blk_free (j := 5) HB.out.2
  have hgl := (Array.getElem?_eq_some_iff.1 HB.out.2).1
  have hlt := h1.ltT
  have HC := Lib.hid hc
  have HG := Lib.hid hg
  clear hc h h1
  go_enter Try.func14, Try.ntmps14
  go_wp2_with fail
  refine bodyPost_ret (results_row0 rfl _ _ g 22 _ (0, 0) _ rfl (set6 HB.out.2 _ _ _ _ _ _) Try.underlying22 rfl (by kernel_rfl)) rfl ?_
  refine ⟨by rw [HC.out]; rfl, ?_⟩
  rw [HG.out]
  exact (((((HB.out.1.setCell (p := ⟨g, 0, none⟩) (Nat.le_refl _) _).setCell (p := ⟨g, 1, none⟩) (Nat.le_refl _) _).setCell (p := ⟨g, 2, none⟩) (Nat.le_refl _) _).setCell (p := ⟨g, 3, none⟩) (Nat.le_refl _) _).setCell (p := ⟨g, 4, none⟩) (Nat.le_refl _) _).setCell (p := ⟨g, 5, none⟩) (Nat.le_refl _) _
set_option maxHeartbeats 1000000 in
theorem pTick18 (T : Nat) (B : Nat → Prop) (s : St18) (w : World) (h : MtAt w T B s) : Calls Try.prog 10 #[.pointer (some ⟨T, 0, none⟩)] w fun e w' => ∃ B', e = .returned (.tuple #[]) ∧ MtAt w' T B' (tickS s) ∧ Turn B w w' ∧ ∀ g, B' g → B g ∨ w.heap.size ≤ g := by
  have hclr : ∀ ty, (Builtin.clear_ #[45] ty #[.slice (some ⟨T, 6, none⟩) 5 6]).run Try.prog w = .ok (.tuple #[]) (w.setCells T 6 (List.replicate 5 (.int .i64 0))) := fun ty =>
    Lib.run_clear_slice w 45 3 ty (.int .i64 0) Try.underlying45 zeroI18 rfl rfl T 6 5 6 (by decide) (fun j hj => by rw [h.cnt (by omega)]; rfl) (fun j hj => h.free _)
  have HT := Lib.hid (tick_turn h)
  have hlt := h.ltT
  clear h
  generalize w.setCells T 6 (List.replicate 5 (.int .i64 0)) = W1 at hclr HT
  go_enter Try.func10, Try.ntmps10
  go_wp2_with fail
  refine bodyPost_end (results_none rfl _ _ _) rfl ?_
  exact ⟨B, rfl, HT.out.1, HT.out.2, fun g hg => .inl hg⟩
set_option maxHeartbeats 2000000 in
theorem pCount18 (T : Nat) (B : Nat → Prop) (s : St18) (n : Int) (w : World) (h : MtAt w T B s) : Calls Try.prog 12 #[.pointer (some ⟨T, 0, none⟩), .int .i64 n] w fun e w' => ∃ B', e = .returned (.tuple #[.bool (countO s n), .int .i64 (kindE n)]) ∧ MtAt w' T B' (countS s n) ∧ Turn B w w' ∧ ∀ g, B' g → B g ∨ w.heap.size ≤ g := by
  by_cases hk : kind6 n
  · obtain ⟨k, rfl⟩ : ∃ k : Nat, n = k := ⟨n.toNat, by unfold kind6 at hk; omega⟩
    have hk6 : k < 6 := by unfold kind6 at hk; omega
    have HI := Lib.hid (inM_kind hk)
    have hc := h.ok.c (at0 s.cnt k) (at0_mem (by rw [h.ok.n]; exact hk6))
    have hl := h.ok.l.2 (at0 s.lim k) (at0_mem (by rw [h.ok.l.1]; exact hk6))
    have hw := h.low k hk6
    have hb : bumpN s k = (if at0 s.lim k < at0 s.cnt k then at0 s.lim k else at0 s.cnt k) + 1 := by unfold bumpN; split <;> split <;> omega
    have HE := Lib.hid (show kindE (k : Int) = 0 ∧ countS s (k : Int) = { s with cnt := s.cnt.set k (bumpN s k) } ∧ countO s (k : Int) = decide (at0 s.lim k < bumpN s k) from ⟨if_pos hk, by unfold countS; rw [if_pos hk, Int.toNat_natCast], by unfold countO; rw [if_pos hk, Int.toNat_natCast]⟩)
    have HR := Lib.hid (bump_rng h.ok hk6)
    have HV := Lib.hid (show bumpN s k ≤ at0 s.lim k + 1 by unfold bumpN; split <;> omega)
    have HH := Lib.hid h
    have HC := Lib.hid (show (∀ w3, Below w.heap.size w w3 → w3.cell? ⟨T, 6 + k, none⟩ = some (.int .i64 (at0 s.cnt k))) ∧ (∀ w3, Below w.heap.size w w3 → w3.cell? ⟨T, k, none⟩ = some (.int .i64 (at0 s.lim k))) from ⟨fun w3 hb => (h.below hb).cnt hk6, fun w3 hb => (h.below hb).lim hk6⟩)
    have HK := Lib.hid hk6
    clear hk h
    obtain ⟨c, hcc⟩ : ∃ c, at0 s.cnt k = c := ⟨_, rfl⟩
    obtain ⟨l, hll⟩ : ∃ l, at0 s.lim k = l := ⟨_, rfl⟩
    have HLe := Lib.hid hll
    rw [hcc, hll] at hb HC hw
    rw [hcc] at hc
    rw [hll] at hl HE HV
    clear hcc hll
    obtain ⟨m, hm⟩ : ∃ m, (if l < c then l else c) = m := ⟨_, rfl⟩
    rw [hm] at hb
    have HMn := Lib.hid hm
    have HAdd := Lib.hid (show IntKind.i64.wrap (m + 1) = m + 1 from wrap_i64_small (by rw [← hm]; split <;> omega) (by rw [← hm]; split <;> omega))
    have HD := Lib.hid hb
    clear hm hb hc hl hw hk6
    go_enter Try.func12, Try.ntmps12
    go_wp2_with fail
    refine (has18_any _ _ _).mono ?_
    rintro e w1 ⟨rfl, rfl⟩
    rw [HI.out]
    go_wp2_with fail
    refine wp_region_table 19 [10, 11, 12, 13, 14, 15, 16, 17, 18, 19, 20, 21, 22, 23, 24, 25, 26, 27, 28] [[], [], [], [], [(2, 12)], [(4, 14)], [(5, 15), (3, 13)], [(6, 16)], [], [], [(8, 18)], [(10, 20)], [(11, 21), (9, 19)], [(12, 22)], [(7, 17), (13, 23)], [(14, 24)], [(0, 10)], [(16, 26)], [(17, 27), (1, 11)]]
      (fun i v w' => match i with
        | 0 => v = .pointer (some ⟨T, 0, none⟩)
        | 1 => v = .int .i64 (k : Int)
        | 2 => v = .pointer (some ⟨T, 0, none⟩)
        | 3 => v = .int .i64 (k : Int)
        | 4 => v = .pointer (some ⟨T, 0, none⟩)
        | 5 => v = .pointer (some ⟨T, 6, none⟩)
        | 6 => v = .pointer (some ⟨T, 6 + k, none⟩)
        | 7 => v = .int .i64 c
        | 8 => v = .pointer (some ⟨T, 0, none⟩)
        | 9 => v = .int .i64 (k : Int)
        | 10 => v = .pointer (some ⟨T, 0, none⟩)
        | 11 => v = .pointer (some ⟨T, 0, none⟩)
        | 12 => v = .pointer (some ⟨T, k, none⟩)
        | 13 => v = .int .i64 l
        | 14 => v = .int .i64 m
        | 15 => v = .int .i64 (m + 1)
        | 16 => v = .pointer (some ⟨T, 0, none⟩)
        | 17 => v = .pointer (some ⟨T, 6, none⟩)
        | 18 => v = .pointer (some ⟨T, 6 + k, none⟩)
        | _ => True) (by kernel_rfl) (by kernel_rfl) ?tStab ?tOps ?tRest
    case tStab =>
      intro i v w3 w4 h hb
      match i, h with
      | 0, h | 1, h | 2, h | 3, h | 4, h | 5, h | 6, h | 7, h | 8, h | 9, h | 10, h | 11, h | 12, h | 13, h | 14, h | 15, h | 16, h | 17, h | 18, h => exact h
      | i + 19, _ => trivial
    case tOps =>
      simp only [List.take_succ_cons, List.take_zero, opsOk]
      refine ⟨?_, ?_, ?_, ?_, ?_, ?_, ?_, ?_, ?_, ?_, ?_, ?_, ?_, ?_, ?_, ?_, ?_, ?_, ?_, trivial⟩
      · intro ρ w3 hc hf ho hB hj
        have x0 : ρ (.tmp 0) = .pointer (some ⟨T, 0, none⟩) := ho 0 (by decide)
        simp [gives, go_sem, x0, Below.refl]
      · intro ρ w3 hc hf ho hB hj
        have x0 : ρ (.tmp 1) = .int .i64 (k : Int) := ho 1 (by decide)
        simp [gives, go_sem, x0, Below.refl]
      · intro ρ w3 hc hf ho hB hj
        have x0 : ρ (.tmp 0) = .pointer (some ⟨T, 0, none⟩) := ho 0 (by decide)
        simp [gives, go_sem, x0, Below.refl]
      · intro ρ w3 hc hf ho hB hj
        have x0 : ρ (.tmp 1) = .int .i64 (k : Int) := ho 1 (by decide)
        simp [gives, go_sem, x0, Below.refl]
      · intro ρ w3 hc hf ho hB hj
        have x0 : ρ (.tmp 12) = .pointer (some ⟨T, 0, none⟩) := hj (2, 12) (by simp)
        simp [gives, go_sem, x0, Below.refl]
      · intro ρ w3 hc hf ho hB hj
        have x0 : ρ (.tmp 14) = .pointer (some ⟨T, 0, none⟩) := hj (4, 14) (by simp)
        simp [gives, go_sem, x0, Below.refl]
      · intro ρ w3 hc hf ho hB hj
        have x0 : ρ (.tmp 15) = .pointer (some ⟨T, 6, none⟩) := hj (5, 15) (by simp)
        have x1 : ρ (.tmp 13) = .int .i64 (k : Int) := hj (3, 13) (by simp)
        have i1 : (k : Int) < 6 := by have := HK.out; omega
        simp [gives, go_sem, x0, x1, i1, Below.refl]
      · intro ρ w3 hc hf ho hB hj
        have x0 : ρ (.tmp 16) = .pointer (some ⟨T, 6 + k, none⟩) := hj (6, 16) (by simp)
        have i2 := HC.out.1 w3 hB
        simp [gives, go_sem, x0, i2, Below.refl]
      · intro ρ w3 hc hf ho hB hj
        have x0 : ρ (.tmp 0) = .pointer (some ⟨T, 0, none⟩) := ho 0 (by decide)
        simp [gives, go_sem, x0, Below.refl]
      · intro ρ w3 hc hf ho hB hj
        have x0 : ρ (.tmp 1) = .int .i64 (k : Int) := ho 1 (by decide)
        simp [gives, go_sem, x0, Below.refl]
      · intro ρ w3 hc hf ho hB hj
        have x0 : ρ (.tmp 18) = .pointer (some ⟨T, 0, none⟩) := hj (8, 18) (by simp)
        simp [gives, go_sem, x0, Below.refl]
      · intro ρ w3 hc hf ho hB hj
        have x0 : ρ (.tmp 20) = .pointer (some ⟨T, 0, none⟩) := hj (10, 20) (by simp)
        simp [gives, go_sem, x0, Below.refl]
      · intro ρ w3 hc hf ho hB hj
        have x0 : ρ (.tmp 21) = .pointer (some ⟨T, 0, none⟩) := hj (11, 21) (by simp)
        have x1 : ρ (.tmp 19) = .int .i64 (k : Int) := hj (9, 19) (by simp)
        have i1 : (k : Int) < 6 := by have := HK.out; omega
        simp [gives, go_sem, x0, x1, i1, Below.refl]
      · intro ρ w3 hc hf ho hB hj
        have x0 : ρ (.tmp 22) = .pointer (some ⟨T, k, none⟩) := hj (12, 22) (by simp)
        have i2 := HC.out.2 w3 hB
        simp [gives, go_sem, x0, i2, Below.refl]
      · intro ρ w3 hc hf ho hB hj
        have x0 : ρ (.tmp 17) = .int .i64 c := hj (7, 17) (by simp)
        have x1 : ρ (.tmp 23) = .int .i64 l := hj (13, 23) (by simp)
        have i3 := HMn.out
        simp [gives, go_sem, x0, x1, i3, Below.refl]
      · intro ρ w3 hc hf ho hB hj
        have x0 : ρ (.tmp 24) = .int .i64 m := hj (14, 24) (by simp)
        have i3 := HAdd.out
        simp [gives, go_sem, x0, hc, i3, Below.refl]
      · intro ρ w3 hc hf ho hB hj
        have x0 : ρ (.tmp 10) = .pointer (some ⟨T, 0, none⟩) := hj (0, 10) (by simp)
        simp [gives, go_sem, x0, Below.refl]
      · intro ρ w3 hc hf ho hB hj
        have x0 : ρ (.tmp 26) = .pointer (some ⟨T, 0, none⟩) := hj (16, 26) (by simp)
        simp [gives, go_sem, x0, Below.refl]
      · intro ρ w3 hc hf ho hB hj
        have x0 : ρ (.tmp 27) = .pointer (some ⟨T, 6, none⟩) := hj (17, 27) (by simp)
        have x1 : ρ (.tmp 11) = .int .i64 (k : Int) := hj (1, 11) (by simp)
        have i1 : (k : Int) < 6 := by have := HK.out; omega
        simp [gives, go_sem, x0, x1, i1, Below.refl]
    case tRest =>
      intro X w3 hBw hX
      have x0 : X 0 = .pointer (some ⟨T, 0, none⟩) := hX 0 (by decide)
      have x1 : X 1 = .int .i64 (k : Int) := hX 1 (by decide)
      have x2 : X 2 = .pointer (some ⟨T, 0, none⟩) := hX 2 (by decide)
      have x3 : X 3 = .int .i64 (k : Int) := hX 3 (by decide)
      have x4 : X 4 = .pointer (some ⟨T, 0, none⟩) := hX 4 (by decide)
      have x5 : X 5 = .pointer (some ⟨T, 6, none⟩) := hX 5 (by decide)
      have x6 : X 6 = .pointer (some ⟨T, 6 + k, none⟩) := hX 6 (by decide)
      have x7 : X 7 = .int .i64 c := hX 7 (by decide)
      have x8 : X 8 = .pointer (some ⟨T, 0, none⟩) := hX 8 (by decide)
      have x9 : X 9 = .int .i64 (k : Int) := hX 9 (by decide)
      have x10 : X 10 = .pointer (some ⟨T, 0, none⟩) := hX 10 (by decide)
      have x11 : X 11 = .pointer (some ⟨T, 0, none⟩) := hX 11 (by decide)
      have x12 : X 12 = .pointer (some ⟨T, k, none⟩) := hX 12 (by decide)
      have x13 : X 13 = .int .i64 l := hX 13 (by decide)
      have x14 : X 14 = .int .i64 m := hX 14 (by decide)
      have x15 : X 15 = .int .i64 (m + 1) := hX 15 (by decide)
      have x16 : X 16 = .pointer (some ⟨T, 0, none⟩) := hX 16 (by decide)
      have x17 : X 17 = .pointer (some ⟨T, 6, none⟩) := hX 17 (by decide)
      have x18 : X 18 = .pointer (some ⟨T, 6 + k, none⟩) := hX 18 (by decide)
      simp only [putAll, List.getD_cons_zero, List.getD_cons_succ, Act.put, List.setIfInBounds_toArray, List.set_cons_zero, List.set_cons_succ, List.drop_succ_cons, List.drop_zero]
      rw [x0, x1, x2, x3, x4, x5, x6, x7, x8, x9, x10, x11, x12, x13, x14, x15, x16, x17, x18]
      clear x0 x1 x2 x3 x4 x5 x6 x7 x8 x9 x10 x11 x12 x13 x14 x15 x16 x17 x18
      have HR3 := Lib.hid (HH.out.below hBw)
      have HT3 := Lib.hid hBw
      clear hBw hX
      have c0 := HR3.out.cnt HK.out
      have g0 := HR3.out.free (6 + k)
      have hlt := HR3.out.ltT
      go_wp2_with fail
      have h1 := HR3.out.set HK.out (v := m + 1) (by rw [← HD.out]; exact HR.out.1) (by rw [← HD.out, HLe.out]; exact HV.out)
      have HR4 := Lib.hid (And.intro h1.1 ((Turn.of_below HT3.out).trans h1.2))
      clear h1 c0 g0 hlt
      generalize w3.setCell ⟨T, 6 + k, none⟩ (.int .i64 (m + 1)) = w4 at HR4 ⊢
      have c0 : w4.cell? ⟨T, 6 + k, none⟩ = some (.int .i64 (m + 1)) := by
        have h1 := HR4.out.1.cnt HK.out
        dsimp only at h1
        rw [show at0 (s.cnt.set k (m + 1)) k = m + 1 by simp [at0, HH.out.ok.n, HK.out]] at h1
        exact h1
      have c1 : w4.cell? ⟨T, k, none⟩ = some (.int .i64 l) := by
        have h1 := HR4.out.1.lim HK.out
        dsimp only at h1
        rw [HLe.out] at h1
        exact h1
      have hlt := HR4.out.1.ltT
      have hk6 := HK.out
      go_quiet (fail)
      go_wp2_with fail
      go_ret2
      refine ⟨B, ?_, ?_, HR4.out.2.trans (Turn.of_below (below_drewN (Below.refl _ _) _)), fun g hg => .inl hg⟩
      · rw [HE.out.1, HE.out.2.2, HD.out]; rfl
      · rw [HE.out.2.1, HD.out]; exact HR4.out.1.below (below_drewN (Below.refl _ _) _)
  · have HE := Lib.hid (show kindE n = 1 ∧ countS s n = s ∧ countO s n = false from ⟨if_neg hk, if_neg hk, if_neg hk⟩)
    have HH := Lib.hid h
    have HI := Lib.hid (inM_kindN hk)
    clear hk h
    go_enter Try.func12, Try.ntmps12
    go_wp2_with fail
    refine (has18_any _ _ _).mono ?_
    rintro e w1 ⟨rfl, rfl⟩
    rw [HI.out]
    go_wp2_with fail
    go_ret2
    exact ⟨B, by rw [HE.out.1, HE.out.2.2]; rfl, by rw [HE.out.2.1]; exact HH.out, Turn.of_below (Below.refl _ _), fun g hg => .inl hg⟩
end Go.Proofs.Ytcembofjhajpbaa
