
/-
  Layer 17's reference: the table, late, Open, Close, Kind, Begin.
-/
import Derived.Test.YtcompnndnelamaaStrmRef
import Derived.Test.YtcompnndnelamaaTurn
namespace Go.Proofs.Ytcompnndnelamaa
set_option maxRecDepth 20000
open Go.RowKit

def RtBlk (W : World) (R : Nat) (most mem hi : Int) (av lv : Value) : Prop := W.heap[R]? = some (.cells #[.int .i64 most, .int .i64 mem, .int .i64 hi, av, lv] 39 (0, 0))
theorem RtBlk.lt {W : World} {R : Nat} {most mem hi : Int} {av lv : Value} (h : RtBlk W R most mem hi av lv) : R < W.heap.size := (Array.getElem?_eq_some_iff.1 h).1
theorem RtBlk.cells {W : World} {R : Nat} {most mem hi : Int} {av lv : Value} (h : RtBlk W R most mem hi av lv) : W.cell? ⟨R, 0, none⟩ = some (.int .i64 most) ∧ W.cell? ⟨R, 1, none⟩ = some (.int .i64 mem) ∧ W.cell? ⟨R, 2, none⟩ = some (.int .i64 hi) ∧ W.cell? ⟨R, 3, none⟩ = some av ∧ W.cell? ⟨R, 4, none⟩ = some lv ∧ R < W.heap.size :=
  ⟨blk_cell h rfl, blk_cell h rfl, blk_cell h rfl, blk_cell h rfl, blk_cell h rfl, h.lt⟩
theorem RtBlk.free {W : World} {R : Nat} {most mem hi : Int} {av lv : Value} (h : RtBlk W R most mem hi av lv) (j : Nat) : W.frozen? ⟨R, j, none⟩ = false := blk_free h
/-- the reference's table in block R, its lists in other blocks; 'lo': the blocks lie from a number on -/
structure RtObj (W : World) (R : Nat) (av lv : Value) (s : St17) : Prop where
  blk : RtBlk W R s.most s.mem s.hi av lv
  a : Sl .i64 W av s.A
  l : Sl .i64 W lv s.L
  na : ∀ g, av.ownBlock = some g → g ≠ R ∧ g < W.heap.size
  nl : ∀ g, lv.ownBlock = some g → g ≠ R ∧ g < W.heap.size
section
variable {W W' : World} {R : Nat} {av lv : Value} {s : St17}
theorem RtObj.turn {S : Nat → Prop} (h : RtObj W R av lv s) (ht : Turn S W W') (h0 : ¬ S R) (h1 : ∀ g, av.ownBlock = some g → ¬ S g) (h2 : ∀ g, lv.ownBlock = some g → ¬ S g) : RtObj W' R av lv s :=
  ⟨ht.obj h.blk h0, h.a.turn ht h1, h.l.turn ht h2, fun g hg => ⟨(h.na g hg).1, Nat.lt_of_lt_of_le (h.na g hg).2 ht.size⟩, fun g hg => ⟨(h.nl g hg).1, Nat.lt_of_lt_of_le (h.nl g hg).2 ht.size⟩⟩
theorem RtObj.below (h : RtObj W R av lv s) (hb : Below W.heap.size W W') : RtObj W' R av lv s := h.turn (Turn.of_below hb (S := fun _ => False)) id (fun _ _ => id) (fun _ _ => id)
theorem turn_set17 {W : World} (T j : Nat) (u : Value) : Turn (fun k => k = T) W (W.setCell ⟨T, j, none⟩ u) := Turn.of_grown ⟨rfl, rfl, rfl, by simp [World.setCell], fun k _ hne => Below.heap_setCell _ _ _ _ (fun e => hne (by rw [show k = T from e]))⟩
/-- a new list of the active ones -/
theorem RtObj.setA (h : RtObj W R av lv s) {u : Value} {A : List Int} (ha : Sl .i64 W u A) (hn : ∀ g, u.ownBlock = some g → g ≠ R ∧ g < W.heap.size) : RtObj (W.setCell ⟨R, 3, none⟩ u) R u lv { s with A := A } := by
  have ht := turn_set17 (W := W) R 3 u
  exact ⟨heap_setCell_same _ R 3 _ _ _ h.blk, ha.turn ht (fun g hg => (hn g hg).1), h.l.turn ht (fun g hg => (h.nl g hg).1), fun g hg => ⟨(hn g hg).1, Nat.lt_of_lt_of_le (hn g hg).2 ht.size⟩, fun g hg => ⟨(h.nl g hg).1, Nat.lt_of_lt_of_le (h.nl g hg).2 ht.size⟩⟩
theorem RtObj.setL (h : RtObj W R av lv s) {u : Value} {L : List Int} (ha : Sl .i64 W u L) (hn : ∀ g, u.ownBlock = some g → g ≠ R ∧ g < W.heap.size) : RtObj (W.setCell ⟨R, 4, none⟩ u) R av u { s with L := L } := by
  have ht := turn_set17 (W := W) R 4 u
  exact ⟨heap_setCell_same _ R 4 _ _ _ h.blk, h.a.turn ht (fun g hg => (h.na g hg).1), ha.turn ht (fun g hg => (hn g hg).1), fun g hg => ⟨(h.na g hg).1, Nat.lt_of_lt_of_le (h.na g hg).2 ht.size⟩, fun g hg => ⟨(hn g hg).1, Nat.lt_of_lt_of_le (hn g hg).2 ht.size⟩⟩
theorem RtObj.setHi (h : RtObj W R av lv s) (n : Int) : RtObj (W.setCell ⟨R, 2, none⟩ (.int .i64 n)) R av lv { s with hi := n } := by
  have ht := turn_set17 (W := W) R 2 (.int .i64 n)
  exact ⟨heap_setCell_same _ R 2 _ _ _ h.blk, h.a.turn ht (fun g hg => (h.na g hg).1), h.l.turn ht (fun g hg => (h.nl g hg).1), fun g hg => ⟨(h.na g hg).1, Nat.lt_of_lt_of_le (h.na g hg).2 ht.size⟩, fun g hg => ⟨(h.nl g hg).1, Nat.lt_of_lt_of_le (h.nl g hg).2 ht.size⟩⟩
end
/-- a list's block is an older one, or new -/
def FromV (w w' : World) (v x : Value) : Prop := ∀ g, x.ownBlock = some g → v.ownBlock = some g ∨ (w.heap.size ≤ g ∧ g < w'.heap.size)
theorem Try.sliceI17 : Try.prog.underlying 36 = some (.slice (Try.prog.elem 36)) := by kernel_rfl
theorem Try.sizeI17 (w : World) : (sizeOf (Try.prog.elem 36)).run Try.prog w = .ok 1 w := by kernel_rfl
theorem sliced_own17 {a : Option Addr} {l h m s n c : Nat} : ∀ g, (sliced a l h m s).ownBlock = some g → (Value.slice a n c).ownBlock = some g := fun g hg => by
  unfold sliced at hg
  split at hg
  · cases a with
    | none => cases hg
    | some a => exact hg
  · cases a with
    | none => cases hg
    | some a =>
      simp only [Value.ownBlock, Option.map_some, Addr.add] at hg ⊢
      split at hg <;> exact hg
theorem from_own17 {P : Program} {t : TypeId} (ht : P.underlying t = some (.slice (P.elem t))) (he : ∀ w, (sizeOf (P.elem t)).run P w = .ok 1 w) {a : Option Addr} {n cap : Nat} {lo : Int} (h0 : 0 ≤ lo) (h1 : lo ≤ (n : Int)) {v : Value} (w : World)
    (hv : ∀ (kl : IntKind) (w1 : World), (Instr.slice t (.slice a n cap) (some (.int kl lo)) none none).run P w1 = .ok v w1) : ∀ g, v.ownBlock = some g → (Value.slice a n cap).ownBlock = some g := by
  have h := hv .i64 w
  rw [run_slice_l w t a n cap ht .i64 lo h0 h1, he] at h
  have e : sliced a lo.toNat n cap 1 = v := by injection h
  rw [← e]
  exact sliced_own17
set_option maxHeartbeats 1000000 in
theorem rlate_any (R : Nat) (av lv : Value) (s : St17) (n : Int) (w : World) (h : RtObj w R av lv s) (hn : (Lit.int .i64 n).wf = true) (hl : s.L.length ≤ 1000000) :
    Calls Try.prog 23 #[.pointer (some ⟨R, 0, none⟩), .int .i64 n] w fun e w' => e = .returned (.tuple #[]) ∧ ∃ lv', RtObj w' R av lv' (lateT s n) ∧ Turn (fun k => k = R) w w' ∧ FromV w w' lv lv' := by
  obtain ⟨most, mem, hi, A, L⟩ := s
  obtain ⟨f0, f1, f2, f3, f4, f5⟩ := h.blk.cells
  have g4 := h.blk.free 4
  obtain ⟨al, cl, rfl, _⟩ := id h.l
  have HH := Lib.hid h
  have HI := Lib.hid hn
  have HL := Lib.hid hl
  dsimp only at f0 f1 f2 HL
  clear h hn hl
  have HA := Lib.hid (show (w.alloc (.cells #[] 3)).ownsRow w.heap.size 3 1 (.slice (some ⟨w.heap.size, 0, none⟩) 0 0) 0 (([] : List Int).map (Value.int .i64)) ∧ Below w.heap.size w (w.alloc (.cells #[] 3)) from
    ⟨owned_lit [] (Nat.le_refl _) rfl rfl rfl (by simp), (Below.refl _ _).alloc (Nat.le_refl _) _⟩)
  go_enter Try.func23, Try.ntmps23
  go_wp2_with (first
    | (at_builtin; refine app_ints rfl (.tmp 5) (.tmp 9) 36 rfl w.heap.size 3 .i64 8 Try.underlying36 Try.infoI17 _ _ ([] : List Int) rfl HA.out.1 _ L rfl (HH.out.l.below HA.out.2) (by have := HL.out; simp; omega) (by have := HL.out; unfold maxLen; simp; omega) (by simp) ?_; intro v2 w2 hO2 hb2 hg2; simp only [List.length_nil, Nat.zero_add, List.nil_append] at hO2; obtain ⟨a2, k2, rfl, _⟩ := owned_shape hO2; have HO2 := Lib.hid (And.intro hO2 (HA.out.2.trans hb2)); have HB3 := Lib.hid (show Below w2.heap.size w2 (w2.alloc (.cells #[.int .i64 n] 3)) ∧ Sl .i64 (w2.alloc (.cells #[.int .i64 n] 3)) (.slice (some ⟨w2.heap.size, 0, none⟩) 1 1) [n] from ⟨(Below.refl _ _).alloc (Nat.le_refl _) _, Sl.lit' [n] rfl rfl rfl (by intro z hz; rw [List.mem_singleton] at hz; rw [hz]; exact HI.out) (by unfold maxLen; simp)⟩); clear hO2 hb2 hg2)
    | (at_builtin; refine app_ints rfl (.tmp 10) (.tmp 12) 36 rfl w.heap.size 3 .i64 8 Try.underlying36 Try.infoI17 _ _ L rfl (owned_below HO2.out.1 HB3.out.1) _ [n] rfl HB3.out.2 (by have := HL.out; simp; omega) (by have := HL.out; unfold maxLen; simp; omega) (Nat.le_trans HO2.out.2.size HB3.out.1.size) ?_; intro v4 w4 hO4 hb4 hg4; obtain ⟨a4, k4, rfl, _⟩ := owned_shape hO4; have HO4 := Lib.hid (And.intro hO4 ((HO2.out.2.trans (HB3.out.1.mono HO2.out.2.size)).trans hb4)); have j1 := HO4.out.2.cell (p := ⟨R, 4, none⟩) f5; have j2 := (HH.out.below HO4.out.2).blk.free 4; have j3 := (HH.out.below HO4.out.2).blk.lt; clear hO4 hb4 hg4))
  have HW5 := Lib.hid (show RtObj (w4.setCell ⟨R, 4, none⟩ (.slice a4 (L.length + 1) k4)) R av (.slice a4 (L.length + 1) k4) ⟨most, mem, hi, A, L ++ [n]⟩ ∧ Turn (fun k => k = R) w (w4.setCell ⟨R, 4, none⟩ (.slice a4 (L.length + 1) k4)) ∧ FromV w (w4.setCell ⟨R, 4, none⟩ (.slice a4 (L.length + 1) k4)) (.slice al L.length cl) (.slice a4 (L.length + 1) k4) from by
    obtain ⟨ho, hb⟩ := HO4.out
    rw [List.length_singleton] at ho
    have hfit : Fit .i64 (L ++ [n]) := Fit.append HH.out.l.fit (by intro z hz; rw [List.mem_singleton] at hz; rw [hz]; exact HI.out)
    have hn : ∀ g, (Value.slice a4 (L.length + 1) k4).ownBlock = some g → g ≠ R ∧ g < w4.heap.size := fun g hg => by have := ho.lt g hg; have := HH.out.blk.lt; omega
    exact ⟨(HH.out.below hb).setL (Sl.of_own ho hfit (by have := HL.out; unfold maxLen; simp; omega)) hn, (Turn.of_below hb).trans (turn_set17 _ _ _), fun g hg => .inr ⟨(ho.lt g hg).1, by simpa [World.setCell] using (hn g hg).2⟩⟩)
  generalize hw5 : w4.setCell ⟨R, 4, none⟩ (.slice a4 (L.length + 1) k4) = w5 at HW5 ⊢
  clear j1 j2 j3 f0 f1 f2 f3 f4 f5 g4 hw5
  obtain ⟨f0, f1, f2, f3, f4, f5⟩ := HW5.out.1.blk.cells
  dsimp only at f0 f1 f2
  by_cases hm : mem < ((L.length + 1 : Nat) : Int)
  · have d0 : decide (mem < ((L.length : Int) + 1)) = true := decide_eq_true (by omega)
    have d1 : decide (mem < ((L.length + 1 : Nat) : Int)) = true := decide_eq_true hm
    have HE := Lib.hid (show lateT ⟨most, mem, hi, A, L⟩ n = ⟨most, mem, hi, A, (L ++ [n]).drop 1⟩ by unfold lateT; rw [if_pos (by rw [List.length_append]; exact hm)])
    clear hm
    go_quiet (fail)
    have HW6 := Lib.hid (show RtObj (w5.drewN nq) R av (.slice a4 (L.length + 1) k4) ⟨most, mem, hi, A, L ++ [n]⟩ ∧ Turn (fun k => k = R) w (w5.drewN nq) from ⟨HW5.out.1.below (below_drewN (Below.refl _ _) _), HW5.out.2.1.trans (Turn.of_below (below_drewN (Below.refl _ _) _))⟩)
    have HS6 := Lib.hid (show (w5.drewN nq).heap.size = w5.heap.size from rfl)
    generalize w5.drewN nq = w6 at HW6 HS6 ⊢
    clear f0 f1 f2 f3 f4 f5
    obtain ⟨f0, f1, f2, f3, f4, f5⟩ := HW6.out.1.blk.cells
    have g4 := HW6.out.1.blk.free 4
    dsimp only at f0 f1 f2
    obtain ⟨vr, hrun, hvr⟩ := HW6.out.1.l.from_ Try.sliceI17 Try.sizeI17 (1 : Int) (by omega) (by simp; omega)
    have HVr := Lib.hid (And.intro hvr (from_own17 Try.sliceI17 Try.sizeI17 (by omega) (by omega) w6 hrun))
    obtain ⟨ar, kr, e5, _⟩ := id hvr
    obtain ⟨D, hD⟩ : ∃ D, (List.drop (Int.toNat 1) (L ++ [n])).length = D := ⟨_, rfl⟩
    rw [hD] at e5
    subst e5
    clear hvr d0 d1 hD
    go_wp2_with fail
    refine bodyPost_end (results_none rfl _ _ _) rfl ?_
    refine ⟨rfl, .slice ar D kr, ?_, HW6.out.2.trans (turn_set17 _ _ _), fun g hg => ?_⟩
    · rw [HE.out]
      exact HW6.out.1.setL HVr.out.1 (fun g hg => HW6.out.1.nl g (HVr.out.2 g hg))
    · rcases HW5.out.2.2 g (HVr.out.2 g hg) with e | e
      · exact .inl e
      · exact .inr ⟨e.1, by have := HS6.out; simp [World.setCell]; omega⟩
  · have d0 : decide (mem < ((L.length : Int) + 1)) = false := decide_eq_false (by omega)
    have d1 : decide (mem < ((L.length + 1 : Nat) : Int)) = false := decide_eq_false hm
    have HE := Lib.hid (show lateT ⟨most, mem, hi, A, L⟩ n = ⟨most, mem, hi, A, L ++ [n]⟩ by unfold lateT; rw [if_neg (by rw [List.length_append]; exact hm)])
    clear hm
    go_quiet (fail)
    go_wp2_with fail
    refine bodyPost_end (results_none rfl _ _ _) rfl ?_
    refine ⟨rfl, _, by rw [HE.out]; exact HW5.out.1.below (below_drewN (Below.refl _ _) _), HW5.out.2.1.trans (Turn.of_below (below_drewN (Below.refl _ _) _)), fun g hg => (HW5.out.2.2 g hg).imp_right (fun e => ⟨e.1, e.2⟩)⟩
theorem FromV.refl (w w' : World) (v : Value) : FromV w w' v v := fun _ h => .inl h
theorem FromV.trans {w w1 w2 : World} {v x y : Value} (h : FromV w w1 v x) (hs : w.heap.size ≤ w1.heap.size) (hs2 : w1.heap.size ≤ w2.heap.size) (h2 : FromV w1 w2 x y) : FromV w w2 v y := fun g hg =>
  (h2 g hg).elim (fun e => (h g e).imp_right (fun e => ⟨e.1, Nat.lt_of_lt_of_le e.2 hs2⟩)) (fun e => .inr ⟨Nat.le_trans hs e.1, e.2⟩)
theorem FromV.later {w w1 w2 : World} {v x : Value} (h : FromV w w1 v x) (hs2 : w1.heap.size ≤ w2.heap.size) : FromV w w2 v x := fun g hg => (h g hg).imp_right (fun e => ⟨e.1, Nat.lt_of_lt_of_le e.2 hs2⟩)
theorem badId_wf {n : Int} (h : ¬ badId n) : (Lit.int .i64 n).wf = true ∧ 1 ≤ n ∧ n ≤ 2147483647 := by
  unfold badId at h
  exact ⟨WalkArith.wf_i64 (by omega), by omega, by omega⟩
set_option maxHeartbeats 2000000 in
theorem ropen_any (R : Nat) (av lv : Value) (s : St17) (n : Int) (w : World) (h : RtObj w R av lv s) (hA : s.A.length ≤ 1000000) (hL : s.L.length ≤ 1000000) :
    Calls Try.prog 9 #[.pointer (some ⟨R, 0, none⟩), .int .i64 n] w fun e w' => e = .returned (.int .i64 (openE s n)) ∧ ∃ av' lv', RtObj w' R av' lv' (openS s n) ∧ Turn (fun k => k = R) w w' ∧ FromV w w' av av' ∧ FromV w w' lv lv' := by
  obtain ⟨f0, f1, f2, f3, f4, f5⟩ := h.blk.cells
  have HH := Lib.hid h
  by_cases hb : badId n
  · have HE := Lib.hid (show openE s n = 1 ∧ openS s n = s from ⟨if_pos hb, if_pos hb⟩)
    have hbb : n < 1 ∨ (¬ n < 1 ∧ 2147483647 < n) ∨ (¬ n < 1 ∧ ¬ 2147483647 < n ∧ n % 2 = 0) := by unfold badId at hb; omega
    clear h hb
    rcases hbb with h1 | ⟨h1, h2⟩ | ⟨h1, h2, h3⟩
    · have d1 : decide (n < 1) = true := decide_eq_true h1
      clear h1
      go_enter Try.func9, Try.ntmps9
      go_wp2_with fail
      go_ret
      exact ⟨by rw [HE.out.1]; rfl, av, lv, by rw [HE.out.2]; exact HH.out, Turn.of_below (Below.refl _ _), FromV.refl _ _ _, FromV.refl _ _ _⟩
    · have d1 : decide (n < 1) = false := decide_eq_false h1
      have d2 : decide (2147483647 < n) = true := decide_eq_true h2
      clear h1 h2
      go_enter Try.func9, Try.ntmps9
      go_wp2_with fail
      go_ret
      exact ⟨by rw [HE.out.1]; rfl, av, lv, by rw [HE.out.2]; exact HH.out, Turn.of_below (Below.refl _ _), FromV.refl _ _ _, FromV.refl _ _ _⟩
    · have d1 : decide (n < 1) = false := decide_eq_false h1
      have d2 : decide (2147483647 < n) = false := decide_eq_false h2
      go_enter Try.func9, Try.ntmps9
      go_wp2_with fail
      go_ret
      exact ⟨by rw [HE.out.1]; rfl, av, lv, by rw [HE.out.2]; exact HH.out, Turn.of_below (Below.refl _ _), FromV.refl _ _ _, FromV.refl _ _ _⟩
  · have HB := Lib.hid (badId_wf hb)
    have hb3 : n.tmod 2 = 1 := by
      have := HB.out
      rw [Int.tmod_eq_emod_of_nonneg (by omega)]
      unfold badId at hb; omega
    have d1 : decide (n < 1) = false := decide_eq_false (by have := HB.out; omega)
    have d2 : decide (2147483647 < n) = false := decide_eq_false (by have := HB.out; omega)
    by_cases hle : n ≤ s.hi
    · have HE := Lib.hid (show openE s n = 6 ∧ openS s n = s from ⟨by unfold openE; rw [if_neg hb, if_pos hle], by unfold openS; rw [if_neg hb, if_pos hle]⟩)
      have d3 : decide (n ≤ s.hi) = true := decide_eq_true hle
      clear h hb hle
      go_enter Try.func9, Try.ntmps9
      go_wp2_with fail
      go_ret
      exact ⟨by rw [HE.out.1]; rfl, av, lv, by rw [HE.out.2]; exact HH.out, Turn.of_below (Below.refl _ _), FromV.refl _ _ _, FromV.refl _ _ _⟩
    · have d3 : decide (n ≤ s.hi) = false := decide_eq_false hle
      have g2 := h.blk.free 2
      have HHi := Lib.hid (show RtObj (w.setCell ⟨R, 2, none⟩ (.int .i64 n)) R av lv { s with hi := n } ∧ Turn (fun k => k = R) w (w.setCell ⟨R, 2, none⟩ (.int .i64 n)) from ⟨h.setHi n, turn_set17 _ _ _⟩)
      have HL := Lib.hid (And.intro hA hL)
      by_cases hm : s.most ≤ (s.A.length : Int)
      · have HE := Lib.hid (show openE s n = 4 ∧ openS s n = lateT { s with hi := n } n from ⟨by unfold openE; rw [if_neg hb, if_neg hle, if_pos hm], by unfold openS; rw [if_neg hb, if_neg hle, if_pos hm]⟩)
        have d4 : decide (s.most ≤ (s.A.length : Int)) = true := decide_eq_true hm
        clear h hb hle hm hA hL
        go_enter Try.func9, Try.ntmps9
        go_wp2_with fail
        generalize w.setCell ⟨R, 2, none⟩ (.int .i64 n) = w1 at HHi ⊢
        clear f0 f1 f2 f3 f4 f5 g2 d3
        obtain ⟨f0, f1, f2, f3, f4, f5⟩ := HHi.out.1.blk.cells
        obtain ⟨aa, ca, ea, _⟩ := id HHi.out.1.a
        dsimp only at f0 ea
        subst ea
        go_quiet (fail)
        have HW := Lib.hid (show RtObj (w1.drewN nq) R (.slice aa s.A.length ca) lv { s with hi := n } ∧ Turn (fun k => k = R) w (w1.drewN nq) ∧ (w1.drewN nq).heap.size = w1.heap.size from ⟨HHi.out.1.below (below_drewN (Below.refl _ _) _), HHi.out.2.trans (Turn.of_below (below_drewN (Below.refl _ _) _)), rfl⟩)
        generalize w1.drewN nq = w2 at HW ⊢
        clear f0 f1 f2 f3 f4 f5
        go_wp2_with fail
        refine (rlate_any R _ lv { s with hi := n } n w2 HW.out.1 HB.out.1 HL.out.2).mono ?_
        rintro e w3 ⟨rfl, lv', h1, h2, h3⟩
        have HX := Lib.hid (And.intro h1 (And.intro h2 h3))
        clear h1 h2 h3
        go_wp2_with fail
        go_ret
        obtain ⟨h1, h2, h3⟩ := HX.out
        exact ⟨by rw [HE.out.1]; rfl, _, lv', by rw [HE.out.2]; exact h1, HW.out.2.1.trans h2, FromV.refl _ _ _, (FromV.refl w w2 lv).trans HW.out.2.1.size h2.size h3⟩
      · have HE := Lib.hid (show openE s n = 0 ∧ openS s n = { s with hi := n, A := s.A ++ [n] } from ⟨by unfold openE; rw [if_neg hb, if_neg hle, if_neg hm], by unfold openS; rw [if_neg hb, if_neg hle, if_neg hm]⟩)
        have d4 : decide (s.most ≤ (s.A.length : Int)) = false := decide_eq_false hm
        clear h hb hle hm hA hL
        go_enter Try.func9, Try.ntmps9
        go_wp2_with fail
        generalize w.setCell ⟨R, 2, none⟩ (.int .i64 n) = w1 at HHi ⊢
        clear f0 f1 f2 f3 f4 f5 g2 d3
        obtain ⟨f0, f1, f2, f3, f4, f5⟩ := HHi.out.1.blk.cells
        obtain ⟨aa, ca, ea, _⟩ := id HHi.out.1.a
        dsimp only at f0 ea
        subst ea
        go_quiet (fail)
        have HW := Lib.hid (show RtObj (w1.drewN nq) R (.slice aa s.A.length ca) lv { s with hi := n } ∧ Turn (fun k => k = R) w (w1.drewN nq) from ⟨HHi.out.1.below (below_drewN (Below.refl _ _) _), HHi.out.2.trans (Turn.of_below (below_drewN (Below.refl _ _) _))⟩)
        generalize w1.drewN nq = w2 at HW ⊢
        clear f0 f1 f2 f3 f4 f5
        obtain ⟨f0, f1, f2, f3, f4, f5⟩ := HW.out.1.blk.cells
        dsimp only at f0
        obtain ⟨L, hL⟩ : ∃ L, s.A = L := ⟨_, rfl⟩
        have HAs := Lib.hid hL
        have HSl := Lib.hid (show Sl .i64 w2 (.slice aa L.length ca) L ∧ L.length ≤ 1000000 from ⟨by rw [← hL]; exact HW.out.1.a, by rw [← hL]; exact HL.out.1⟩)
        rw [hL] at f3 HW
        rw [hL]
        clear hL
        have HA := Lib.hid (show (w2.alloc (.cells #[] 3)).ownsRow w2.heap.size 3 1 (.slice (some ⟨w2.heap.size, 0, none⟩) 0 0) 0 (([] : List Int).map (Value.int .i64)) ∧ Below w2.heap.size w2 (w2.alloc (.cells #[] 3)) from
          ⟨owned_lit [] (Nat.le_refl _) rfl rfl rfl (by simp), (Below.refl _ _).alloc (Nat.le_refl _) _⟩)
        go_wp2_with (first
          | (at_builtin; refine app_ints rfl (.tmp 40) (.tmp 44) 36 rfl w2.heap.size 3 .i64 8 Try.underlying36 Try.infoI17 _ _ ([] : List Int) rfl HA.out.1 _ L rfl (HSl.out.1.below HA.out.2) (by have := HSl.out.2; simp; omega) (by have := HSl.out.2; unfold maxLen; simp; omega) (by simp) ?_; intro v5 w5 hO5 hb5 hg5; simp only [List.length_nil, Nat.zero_add, List.nil_append] at hO5; obtain ⟨a5, k5, rfl, _⟩ := owned_shape hO5; have HO5 := Lib.hid (And.intro hO5 (HA.out.2.trans hb5)); have HB6 := Lib.hid (show Below w5.heap.size w5 (w5.alloc (.cells #[.int .i64 n] 3)) ∧ Sl .i64 (w5.alloc (.cells #[.int .i64 n] 3)) (.slice (some ⟨w5.heap.size, 0, none⟩) 1 1) [n] from ⟨(Below.refl _ _).alloc (Nat.le_refl _) _, Sl.lit' [n] rfl rfl rfl (by intro z hz; rw [List.mem_singleton] at hz; rw [hz]; exact HB.out.1) (by unfold maxLen; simp)⟩); clear hO5 hb5 hg5)
          | (at_builtin; refine app_ints rfl (.tmp 45) (.tmp 47) 36 rfl w2.heap.size 3 .i64 8 Try.underlying36 Try.infoI17 _ _ L rfl (owned_below HO5.out.1 HB6.out.1) _ [n] rfl HB6.out.2 (by have := HSl.out.2; simp; omega) (by have := HSl.out.2; unfold maxLen; simp; omega) (Nat.le_trans HO5.out.2.size HB6.out.1.size) ?_; intro v7 w7 hO7 hb7 hg7; obtain ⟨a7, k7, rfl, _⟩ := owned_shape hO7; have HO7 := Lib.hid (And.intro hO7 ((HO5.out.2.trans (HB6.out.1.mono HO5.out.2.size)).trans hb7)); have j1 := HO7.out.2.cell (p := ⟨R, 3, none⟩) f5; have j2 := (HW.out.1.below HO7.out.2).blk.free 3; have j3 := (HW.out.1.below HO7.out.2).blk.lt; clear hO7 hb7 hg7))
        go_ret
        obtain ⟨ho, hb⟩ := HO7.out
        rw [List.length_singleton] at ho
        have hfit : Fit .i64 (L ++ [n]) := Fit.append HSl.out.1.fit (by intro z hz; rw [List.mem_singleton] at hz; rw [hz]; exact HB.out.1)
        have hn : ∀ g, (Value.slice a7 (L.length + 1) k7).ownBlock = some g → g ≠ R ∧ g < w7.heap.size := fun g hg => by have := ho.lt g hg; have := HW.out.1.blk.lt; omega
        refine ⟨by rw [HE.out.1]; rfl, .slice a7 (L.length + 1) k7, lv, ?_, (HW.out.2.trans (Turn.of_below hb)).trans (turn_set17 _ _ _), fun g hg => .inr ⟨Nat.le_trans HW.out.2.size (ho.lt g hg).1, by simpa [World.setCell] using (hn g hg).2⟩, FromV.refl _ _ _⟩
        rw [HE.out.2, HAs.out]
        exact (HW.out.1.below hb).setA (Sl.of_own ho hfit (by have := HSl.out.2; unfold maxLen; simp; omega)) hn
end Go.Proofs.Ytcompnndnelamaa
