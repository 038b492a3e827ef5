
/-
  Layer 19's reference: the queue, Push, Last (written by wip/tools/gen19.py).
-/
import Derived.Test.YtiappeagdnkedaaCtlMath
import Derived.Test.YtiappeagdnkedaaFreshRow
import Derived.Test.YtiappeagdnkedaaAppAt
import Derived.Test.YtiappeagdnkedaaProg
import Derived.BigQuiet
import Derived.Deep.QuietTactic
namespace Go.Proofs.Ytiappeagdnkedaa
set_option maxRecDepth 20000
open Go.RowKit

theorem Try.infoFr19 : (Try.prog.info? 34).map (fun i => (i.zero, i.size, i.bytes)) = some (some (.agg #[.int .i64 0, .int .i64 0, .int .i64 0, .slice none 0 0]), 4, 48) := by kernel_rfl
theorem empty_row19 {w : World} {base : Nat} (hb : base ≤ w.heap.size) : (w.alloc (.cells #[] 34)).ownsRow base 34 4 (.slice (some ⟨w.heap.size, 0, none⟩) 0 0) 0 [] :=
  ⟨rfl, .inr ⟨w.heap.size, 0, #[], rfl, hb, heap_alloc_new w _, Nat.le_refl _, by simp, rfl, rfl⟩⟩
theorem one_row19 {w : World} {base : Nat} (F : Fr) (pv : Value) (hb : base ≤ w.heap.size) : (w.alloc (.cells #[.int .i64 F.kind, .int .i64 F.flags, .int .i64 F.stream, pv] 34)).ownsRow base 34 4 (.slice (some ⟨w.heap.size, 0, none⟩) 1 1) 1 (flat [(F, pv)]) :=
  ⟨rfl, .inr ⟨w.heap.size, 1, _, rfl, hb, heap_alloc_new w _, Nat.le_refl _, by unfold maxLen; decide, rfl, rfl⟩⟩
def RqBlk (W : World) (R : Nat) (room : Int) (lv : Value) (ended : Bool) : Prop := W.heap[R]? = some (.cells #[.int .i64 room, lv, .bool ended] 44 (0, 0))
theorem RqBlk.lt {W : World} {R : Nat} {room : Int} {lv : Value} {ended : Bool} (h : RqBlk W R room lv ended) : R < W.heap.size := (Array.getElem?_eq_some_iff.1 h).1
theorem RqBlk.cells {W : World} {R : Nat} {room : Int} {lv : Value} {ended : Bool} (h : RqBlk W R room lv ended) : W.cell? ⟨R, 0, none⟩ = some (.int .i64 room) ∧ W.cell? ⟨R, 1, none⟩ = some lv ∧ W.cell? ⟨R, 2, none⟩ = some (.bool ended) ∧ R < W.heap.size := ⟨blk_cell h rfl, blk_cell h rfl, blk_cell h rfl, h.lt⟩
theorem RqBlk.free {W : World} {R : Nat} {room : Int} {lv : Value} {ended : Bool} (h : RqBlk W R room lv ended) (j : Nat) : W.frozen? ⟨R, j, none⟩ = false := blk_free h
/-- the reference's queue in block R, its frames in another one, their payloads wherever -/
structure RqObj (W : World) (R : Nat) (lv : Value) (ps : List (Fr × Value)) (q : Q19) : Prop where
  blk : RqBlk W R q.room lv q.ended
  l : SlF W lv ps
  e : q.l = ps.map (·.1)
  nl : ∀ g, lv.ownBlock = some g → g ≠ R ∧ g < W.heap.size
  np : ∀ p ∈ ps, p.1.pay ≠ [] → ∀ g, p.2.ownBlock = some g → g ≠ R
section
variable {W W' : World} {R : Nat} {lv : Value} {ps : List (Fr × Value)} {q : Q19}
theorem RqObj.turn {S : Nat → Prop} (h : RqObj W R lv ps q) (ht : Turn S W W') (h0 : ¬ S R) (h1 : ∀ g, lv.ownBlock = some g → ¬ S g) (h2 : ∀ p ∈ ps, p.1.pay ≠ [] → ∀ g, p.2.ownBlock = some g → ¬ S g) : RqObj W' R lv ps q :=
  ⟨ht.obj h.blk h0, h.l.turn ht h1 h2, h.e, fun g hg => ⟨(h.nl g hg).1, Nat.lt_of_lt_of_le (h.nl g hg).2 ht.size⟩, h.np⟩
theorem RqObj.below (h : RqObj W R lv ps q) (hb : Below W.heap.size W W') : RqObj W' R lv ps q := h.turn (Turn.of_below hb (S := fun _ => False)) id (fun _ _ => id) (fun _ _ _ _ _ => id)
theorem turn_set19 {W : World} (T j : Nat) (u : Value) : Turn (fun k => k = T) W (W.setCell ⟨T, j, none⟩ u) := Turn.of_grown ⟨rfl, rfl, rfl, by simp [World.setCell], fun k _ hne => Below.heap_setCell _ _ _ _ (fun e => hne (by rw [show k = T from e]))⟩
theorem RqObj.setL (h : RqBlk W R q.room lv q.ended) {u : Value} {us : List (Fr × Value)} (hl : SlF W u us) (hn : ∀ g, u.ownBlock = some g → g ≠ R ∧ g < W.heap.size) (hp : ∀ p ∈ us, p.1.pay ≠ [] → ∀ g, p.2.ownBlock = some g → g ≠ R) : RqObj (W.setCell ⟨R, 1, none⟩ u) R u us { q with l := us.map (·.1) } := by
  have ht := turn_set19 (W := W) R 1 u
  exact ⟨heap_setCell_same _ R 1 _ _ _ h, hl.turn ht (fun g hg => (hn g hg).1) (fun p hm hz g hg => hp p hm hz g hg), rfl, fun g hg => ⟨(hn g hg).1, Nat.lt_of_lt_of_le (hn g hg).2 ht.size⟩, hp⟩
theorem RqObj.setE (h : RqObj W R lv ps q) (b : Bool) : RqObj (W.setCell ⟨R, 2, none⟩ (.bool b)) R lv ps { q with ended := b } := by
  have ht := turn_set19 (W := W) R 2 (.bool b)
  exact ⟨heap_setCell_same _ R 2 _ _ _ h.blk, h.l.turn ht (fun g hg => (h.nl g hg).1) (fun p hm hz g hg => h.np p hm hz g hg), h.e, fun g hg => ⟨(h.nl g hg).1, Nat.lt_of_lt_of_le (h.nl g hg).2 ht.size⟩, h.np⟩
end
theorem below_drop19 {w w' : World} {base R n : Nat} (h : Below base w w') (_hR : R < n) (hz : base ≤ n ∧ R < base) : w'.heap[R]? = w.heap[R]? := h.block R hz.2
/-- bytes that lay ahead of a number stay where only what lies from there on is turned -/
theorem Sl.later19 {k : IntKind} {w0 w w' : World} {v : Value} {zs : List Int} (h : Sl k w v zs) (h0 : Sl k w0 v zs) (hb : Below w0.heap.size w w') : Sl k w' v zs := by
  rcases h0.parts with ⟨rfl, _⟩ | ⟨hp, b, off, cap, rfl, hlc, hcm, hbl, _⟩
  · obtain ⟨a, c, rfl, h1, h2, h3, h4⟩ := h
    rcases h4 with ⟨_, h5⟩ | ⟨b, off, rfl, hl, _⟩
    · exact ⟨a, c, rfl, h1, h2, h3, .inl ⟨rfl, h5⟩⟩
    · exact ⟨_, c, rfl, h1, h2, h3, .inl ⟨rfl, fun e => by cases e⟩⟩
  · exact h.turn (S := fun k => w0.heap.size ≤ k) ⟨hb.os, hb.tape, hb.output, hb.size, fun k _ hk => hb.block k (Nat.not_le.1 hk)⟩ (fun g hg => by cases hg; exact Nat.not_le.2 hbl)
/-- a list's block is an older one, or new -/
def FromL (w w' : World) (v x : Value) : Prop := ∀ g, x.ownBlock = some g → v.ownBlock = some g ∨ (w.heap.size ≤ g ∧ g < w'.heap.size)
set_option maxHeartbeats 4000000 in
theorem rpush19_any (R : Nat) (lv : Value) (ps : List (Fr × Value)) (q : Q19) (F : Fr) (pv : Value) (w : World) (h : RqObj w R lv ps q) (hf : Sl .u8 w pv F.pay) (hfR : F.pay ≠ [] → ∀ g, pv.ownBlock = some g → g ≠ R) (hl : ps.length ≤ 100000) :
    Calls Try.prog 15 #[.pointer (some ⟨R, 0, none⟩), .agg #[.int .i64 F.kind, .int .i64 F.flags, .int .i64 F.stream, pv]] w fun e w' =>
      e = .returned (.int .i64 (pushQE q)) ∧ ∃ lv' ps', RqObj w' R lv' ps' (pushQ q F) ∧ Turn (fun k => k = R) w w' ∧ FromL w w' lv lv' ∧ (ps' = ps ∨ ps' = ps ++ [(F, pv)]) := by
  obtain ⟨room, ql, ended⟩ := q
  obtain ⟨al, cl, elv, hcl1, hcl2, _⟩ := id h.l.2
  obtain ⟨N, hN⟩ : ∃ N, N = ps.length := ⟨_, rfl⟩
  rw [← hN] at elv hl
  subst elv
  have HN := Lib.hid hN
  have HLn := Lib.hid hl
  obtain ⟨ap, cp, rfl, _⟩ := id hf
  obtain ⟨X, hXe⟩ : ∃ X, w.heap.size = X := ⟨_, rfl⟩
  obtain ⟨W1, hW1⟩ : ∃ W1, w.alloc (.cells #[.int .i64 F.kind, .int .i64 F.flags, .int .i64 F.stream, .slice ap F.pay.length cp] 34) = W1 := ⟨_, rfl⟩
  have HB1 := Lib.hid (show Below w.heap.size w W1 by rw [← hW1]; exact (Below.refl _ _).alloc (Nat.le_refl _) _)
  have hbx : Bx W1 X 34 F (.slice ap F.pay.length cp) := by rw [← hW1, ← hXe]; exact Bx.new _ _ _ _
  have HBx := Lib.hid hbx
  have HR := Lib.hid (h.below HB1.out)
  have HP := Lib.hid (show Sl .u8 W1 (.slice ap F.pay.length cp) F.pay ∧ (F.pay ≠ [] → ∀ g, (Value.slice ap F.pay.length cp).ownBlock = some g → g ≠ R) from ⟨hf.below HB1.out, hfR⟩)
  have HE0 := Lib.hid h.e
  clear h hf hfR hbx
  obtain ⟨f0, f1, f2, f3⟩ := HR.out.blk.cells
  dsimp only at f0 f2
  cases ended
  rotate_left
  · clear hN
    go_enter Try.func15, Try.ntmps15
    go_wp2_with fail
    go_ret
    exact ⟨rfl, _, ps, HR.out, Turn.of_below HB1.out, fun g hg => .inl hg, .inl rfl⟩
  · have hql : ql.length = N := by rw [show ql = ps.map (·.1) from HE0.out, List.length_map, hN]
    by_cases hm : room ≤ (N : Int)
    · have d0 : decide (room ≤ (N : Int)) = true := decide_eq_true hm
      have HE := Lib.hid (show pushQE ⟨room, ql, false⟩ = 4 ∧ pushQ ⟨room, ql, false⟩ F = ⟨room, ql, false⟩ from pushQ_full F (by rw [hql]; exact hm))
      clear hm hql hN
      go_enter Try.func15, Try.ntmps15
      go_wp2_with fail
      go_quiet (fail)
      go_wp2_with fail
      go_ret
      exact ⟨by rw [HE.out.1]; rfl, _, ps, by rw [HE.out.2]; exact HR.out.below (below_drewN (Below.refl _ _) _), Turn.of_below (below_drewN HB1.out _), fun g hg => .inl hg, .inl rfl⟩
    · have d0 : decide (room ≤ (N : Int)) = false := decide_eq_false hm
      have HE := Lib.hid (show pushQE ⟨room, ql, false⟩ = 0 ∧ pushQ ⟨room, ql, false⟩ F = ⟨room, (ps ++ [(F, Value.slice ap F.pay.length cp)]).map (fun p => p.1), false⟩ from by
        have h1 := pushQ_ok (room := room) (l := ql) F (by rw [hql]; exact hm)
        refine ⟨h1.1, ?_⟩
        rw [h1.2, show ql = ps.map (·.1) from HE0.out, List.map_append]
        rfl)
      clear hm hql hN
      go_enter Try.func15, Try.ntmps15
      go_wp2_with fail
      go_quiet (fail)
      have HW := Lib.hid (HR.out.below (below_drewN (Below.refl _ _) nq))
      have HT := Lib.hid (show Turn (fun k => k = R) w (W1.drewN nq) from Turn.of_below (below_drewN HB1.out nq))
      have HX := Lib.hid (HBx.out.below (below_drewN (Below.refl _ _) nq))
      have HPy := Lib.hid (HP.out.1.below (below_drewN (Below.refl _ _) nq))
      generalize W1.drewN nq = W2 at HW HT HX HPy ⊢
      obtain ⟨D, hD⟩ : ∃ D, (ps ++ [(F, Value.slice ap F.pay.length cp)]).length = D := ⟨_, rfl⟩
      have HD := Lib.hid hD
      clear f0 f1 f2 f3 d0 hW1 hXe hD
      go_wp2_with fail
      refine wp_region_late 9 [19, 20, 21, 22, 23, 24, 25, 26, 27] [[], [], [], [(2, 21)], [(3, 22)], [(4, 23)], [(1, 20), (5, 24)], [], [(7, 26)]] [0]
        (fun i v w' => match i with
          | 0 => v = .pointer (some ⟨R, 0, none⟩)
          | 1 => ∃ C, v = .slice (some ⟨C, 0, none⟩) 0 0 ∧ w'.ownsRow W2.heap.size 34 4 (.slice (some ⟨C, 0, none⟩) 0 0) 0 []
          | 2 => v = .pointer (some ⟨R, 0, none⟩)
          | 3 => v = .pointer (some ⟨R, 0, none⟩)
          | 4 => v = .pointer (some ⟨R, 1, none⟩)
          | 5 => v = .slice al N cl
          | 6 => w'.ownsRow W2.heap.size 34 4 v N (flat ps)
          | 7 => v = .agg #[.int .i64 F.kind, .int .i64 F.flags, .int .i64 F.stream, .slice ap F.pay.length cp]
          | 8 => ∃ C, v = .slice (some ⟨C, 0, none⟩) 1 1 ∧ w'.ownsRow W2.heap.size 34 4 (.slice (some ⟨C, 0, none⟩) 1 1) 1 (flat [(F, .slice ap F.pay.length cp)])
          | _ => True) (by kernel_rfl) (by kernel_rfl) ?tStab ?tOps ?tLate ?tRest
      case tStab =>
        intro i v w3 w4 h hb
        match i, h with
        | 0, h | 2, h | 3, h | 4, h | 5, h | 7, h => exact h
        | 1, h => exact (by obtain ⟨C, e, h1⟩ := h; exact ⟨C, e, owned_below h1 hb⟩)
        | 6, h => exact owned_below h hb
        | 8, h => exact (by obtain ⟨C, e, h1⟩ := h; exact ⟨C, e, owned_below h1 hb⟩)
        | i + 9, _ => trivial
      case tOps =>
        simp only [List.take_succ_cons, List.take_zero, opsOk]
        refine ⟨?_, ?_, ?_, ?_, ?_, ?_, ?_, ?_, ?_, trivial⟩
        · intro ρ w3 hc hf ho hB hj
          have x0 : ρ (.tmp 0) = .pointer (some ⟨R, 0, none⟩) := ho 0 (by decide)
          simp [gives, go_sem, x0, Below.refl]
        · intro ρ w3 hc hf ho hB hj
          simp [gives, go_sem]
          exact ⟨empty_row19 hB.size, (Below.refl _ _).alloc (Nat.le_refl _) _⟩
        · intro ρ w3 hc hf ho hB hj
          have x0 : ρ (.tmp 0) = .pointer (some ⟨R, 0, none⟩) := ho 0 (by decide)
          simp [gives, go_sem, x0, Below.refl]
        · intro ρ w3 hc hf ho hB hj
          have x0 : ρ (.tmp 21) = .pointer (some ⟨R, 0, none⟩) := hj (2, 21) (by simp)
          simp [gives, go_sem, x0, Below.refl]
        · intro ρ w3 hc hf ho hB hj
          have x0 : ρ (.tmp 22) = .pointer (some ⟨R, 0, none⟩) := hj (3, 22) (by simp)
          simp [gives, go_sem, x0, Below.refl]
        · intro ρ w3 hc hf ho hB hj
          have x0 : ρ (.tmp 23) = .pointer (some ⟨R, 1, none⟩) := hj (4, 23) (by simp)
          obtain ⟨f0, f1, f2, f3⟩ := (HW.out.below hB).blk.cells
          simp [gives, go_sem, x0, f1, Below.refl]
        · intro ρ w3 hc hf ho hB hj
          have x0 : ∃ C, (ρ (.tmp 20)) = .slice (some ⟨C, 0, none⟩) 0 0 ∧ w3.ownsRow W2.heap.size 34 4 (.slice (some ⟨C, 0, none⟩) 0 0) 0 [] := hj (1, 20) (by simp)
          have x1 : ρ (.tmp 24) = .slice al N cl := hj (5, 24) (by simp)
          obtain ⟨C, x0, hown⟩ := x0
          have hl := (HW.out.below hB).l
          refine gives_fresh_row (.tmp 20) (.tmp 24) 42 rfl W2.heap.size 34 _ 4 48 Try.underlying42 Try.infoFr19 rfl (by decide) C 0 [] x0 hown al N cl (flat ps) x1 hl.bare (by rw [flat_length, HN.out]) hl.src (by have := HLn.out; unfold maxLen; omega) (by have := HLn.out; omega) hB.size ?_
          intro v5 w5 ho5 hb5
          exact ⟨by simpa using ho5, hb5⟩
        · intro ρ w3 hc hf ho hB hj
          have x0 : ρ (.tmp 3) = .pointer (some ⟨X, 0, none⟩) := ho 3 (by decide)
          have g0 := (HX.out.below hB).c0
          have g1 := (HX.out.below hB).c1
          have g2 := (HX.out.below hB).c2
          have g3 := (HX.out.below hB).c3
          simp [gives, go_sem, x0, g0, g1, g2, g3, Below.refl]
        · intro ρ w3 hc hf ho hB hj
          have x0 : ρ (.tmp 26) = .agg #[.int .i64 F.kind, .int .i64 F.flags, .int .i64 F.stream, .slice ap F.pay.length cp] := hj (7, 26) (by simp)
          simp [gives, go_sem, x0]
          exact ⟨one_row19 F _ hB.size, (Below.refl _ _).alloc (Nat.le_refl _) _⟩
      case tLate =>
        intro i hi _ o ho
        obtain rfl := List.mem_singleton.1 hi
        obtain rfl := Option.some.inj ho
        intro ρ w3 hc ho _ hj
        have x0 : ρ (.tmp 0) = .pointer (some ⟨R, 0, none⟩) := ho 0 (by decide)
        exact ⟨_, fun w' => by simp [go_sem, x0], rfl⟩
      case tRest =>
        intro X w3 hBw hX
        have x0 : X 0 = .pointer (some ⟨R, 0, none⟩) := hX 0 (by decide)
        have x1 := hX 1 (by decide)
        have x2 : X 2 = .pointer (some ⟨R, 0, none⟩) := hX 2 (by decide)
        have x3 : X 3 = .pointer (some ⟨R, 0, none⟩) := hX 3 (by decide)
        have x4 : X 4 = .pointer (some ⟨R, 1, none⟩) := hX 4 (by decide)
        have x5 : X 5 = .slice al N cl := hX 5 (by decide)
        have x6 := hX 6 (by decide)
        have x7 : X 7 = .agg #[.int .i64 F.kind, .int .i64 F.flags, .int .i64 F.stream, .slice ap F.pay.length cp] := hX 7 (by decide)
        have x8 := hX 8 (by decide)
        simp only [putAll, List.getD_cons_zero, List.getD_cons_succ, Act.put, List.setIfInBounds_toArray, List.set_cons_zero, List.set_cons_succ, List.drop_succ_cons, List.drop_zero]
        rw [x0, x2, x3, x4, x5, x7]
        obtain ⟨C, e8, ho8⟩ := x8
        obtain ⟨a6, k6, e6, _⟩ := owned_shape x6
        rw [e6] at x6
        rw [e6, e8]
        have HO := Lib.hid (And.intro x6 ho8)
        have HW3 := Lib.hid (HW.out.below hBw)
        have HT3 := Lib.hid (HT.out.trans (Turn.of_below hBw))
        have HZ := Lib.hid (And.intro hBw.size HW.out.blk.lt)
        have HBw := Lib.hid hBw
        clear x0 x1 x2 x3 x4 x5 x6 x7 e6 e8 ho8 hBw hX
        go_wp2_with (at_builtin; refine app_frames_at rfl (.tmp 25) (.tmp 27) 42 rfl W2.heap.size W2.heap.size 34 Try.underlying42 Try.infoFr19 _ ps rfl (by rw [← HN.out]; exact HO.out.1) _ [(F, .slice ap F.pay.length cp)] rfl HO.out.2 (fun p hp => by rw [List.mem_singleton] at hp; subst hp; exact ⟨_, _, _, rfl⟩) (by have := HLn.out; have := HN.out; simp; omega) HZ.out.1 ?_; intro v9 w9 own9 hb9 hg9 hat9; have HO9 := Lib.hid (And.intro own9 (And.intro hb9 hat9)); obtain ⟨a9, k9, e9, _⟩ := owned_shape own9; rw [HD.out] at e9; subst e9; have HB9 := Lib.hid (below_drop19 hb9 HW3.out.blk.lt HZ.out); have j1 := blk_free (j := 1) (HB9.out.trans HW3.out.blk); have j2 := blk_cell (j := 1) (HB9.out.trans HW3.out.blk) rfl; have j3 := (Array.getElem?_eq_some_iff.1 (HB9.out.trans HW3.out.blk)).1; clear own9 hb9 hg9 hat9)
        refine Calm.intro ?_
        go_wp2_with fail
        go_ret
        obtain ⟨ho, hb, hat⟩ := HO9.out
        have hlv : ∀ g, (Value.slice a9 D k9).ownBlock = some g → W2.heap.size ≤ g ∧ g < w9.heap.size := fun g hg => ho.lt g hg
        have hz := HZ.out
        have hps : ∀ p ∈ ps ++ [(F, Value.slice ap F.pay.length cp)], Sl .u8 w9 p.2 p.1.pay := fun p hp => by
          rcases List.mem_append.1 hp with hp | hp
          · have h1 := HW.out.l.1 p hp
            exact (h1.below HBw.out).later19 h1 hb
          · rw [List.mem_singleton] at hp
            subst hp
            exact (HPy.out.below HBw.out).later19 HPy.out hb
        have hsl : SlF w9 (.slice a9 D k9) (ps ++ [(F, Value.slice ap F.pay.length cp)]) := SlF.of_own ho hps
        refine ⟨by rw [HE.out.1]; rfl, .slice a9 D k9, ps ++ [(F, Value.slice ap F.pay.length cp)], ?_, (HT.out.trans (Turn.of_below (HBw.out.trans hb))).trans (turn_set19 _ _ _), fun g hg => .inr ⟨?_, by simpa [World.setCell] using (hlv g hg).2⟩, .inr rfl⟩
        · rw [HE.out.2]
          exact RqObj.setL (q := ⟨room, ql, false⟩) (HB9.out.trans HW3.out.blk) hsl (fun g hg => ⟨by have := (hlv g hg).1; omega, (hlv g hg).2⟩) (fun p hp => by
            rcases List.mem_append.1 hp with hp | hp
            · exact HW.out.np p hp
            · rw [List.mem_singleton] at hp
              subst hp
              exact HP.out.2)
        · have := (hlv g hg).1; have := HT.out.size; omega
set_option maxHeartbeats 4000000 in
theorem rlast19_any (R : Nat) (lv : Value) (ps : List (Fr × Value)) (q : Q19) (F : Fr) (pv : Value) (w : World) (h : RqObj w R lv ps q) (hf : Sl .u8 w pv F.pay) (hfR : F.pay ≠ [] → ∀ g, pv.ownBlock = some g → g ≠ R) (hl : ps.length ≤ 100000) :
    Calls Try.prog 13 #[.pointer (some ⟨R, 0, none⟩), .agg #[.int .i64 F.kind, .int .i64 F.flags, .int .i64 F.stream, pv]] w fun e w' =>
      e = .returned (.int .i64 (lastQE q)) ∧ ∃ lv' ps', RqObj w' R lv' ps' (lastQ q F) ∧ Turn (fun k => k = R) w w' ∧ FromL w w' lv lv' ∧ (ps' = ps ∨ ps' = ps ++ [(F, pv)]) := by
  obtain ⟨room, ql, ended⟩ := q
  obtain ⟨al, cl, elv, hcl1, hcl2, _⟩ := id h.l.2
  obtain ⟨N, hN⟩ : ∃ N, N = ps.length := ⟨_, rfl⟩
  rw [← hN] at elv hl
  subst elv
  have HN := Lib.hid hN
  have HLn := Lib.hid hl
  obtain ⟨ap, cp, rfl, _⟩ := id hf
  obtain ⟨X, hXe⟩ : ∃ X, w.heap.size = X := ⟨_, rfl⟩
  obtain ⟨W1, hW1⟩ : ∃ W1, w.alloc (.cells #[.int .i64 F.kind, .int .i64 F.flags, .int .i64 F.stream, .slice ap F.pay.length cp] 34) = W1 := ⟨_, rfl⟩
  have HB1 := Lib.hid (show Below w.heap.size w W1 by rw [← hW1]; exact (Below.refl _ _).alloc (Nat.le_refl _) _)
  have hbx : Bx W1 X 34 F (.slice ap F.pay.length cp) := by rw [← hW1, ← hXe]; exact Bx.new _ _ _ _
  have HBx := Lib.hid hbx
  have HR := Lib.hid (h.below HB1.out)
  have HP := Lib.hid (show Sl .u8 W1 (.slice ap F.pay.length cp) F.pay ∧ (F.pay ≠ [] → ∀ g, (Value.slice ap F.pay.length cp).ownBlock = some g → g ≠ R) from ⟨hf.below HB1.out, hfR⟩)
  have HE0 := Lib.hid h.e
  clear h hf hfR hbx
  obtain ⟨f0, f1, f2, f3⟩ := HR.out.blk.cells
  dsimp only at f0 f2
  cases ended
  rotate_left
  · clear hN
    go_enter Try.func13, Try.ntmps13
    go_wp2_with fail
    go_ret
    exact ⟨rfl, _, ps, HR.out, Turn.of_below HB1.out, fun g hg => .inl hg, .inl rfl⟩
  · have HE := Lib.hid (show lastQE ⟨room, ql, false⟩ = 0 ∧ lastQ ⟨room, ql, false⟩ F = ⟨room, (ps ++ [(F, Value.slice ap F.pay.length cp)]).map (fun p => p.1), true⟩ from by
      refine ⟨rfl, ?_⟩
      have h1 : lastQ ⟨room, ql, false⟩ F = ⟨room, ql ++ [F], true⟩ := rfl
      rw [h1, show ql = ps.map (·.1) from HE0.out, List.map_append]
      rfl)
    clear hN
    go_enter Try.func13, Try.ntmps13
    go_wp2_with fail
    have HW := HR
    have HT := Lib.hid (show Turn (fun k => k = R) w W1 from Turn.of_below HB1.out)
    have HX := HBx
    have HPy := Lib.hid HP.out.1
    clear hW1
    generalize W1 = W2 at HW HT HX HPy ⊢
    obtain ⟨D, hD⟩ : ∃ D, (ps ++ [(F, Value.slice ap F.pay.length cp)]).length = D := ⟨_, rfl⟩
    have HD := Lib.hid hD
    clear f0 f1 f2 f3 hXe hD
    refine wp_region_late 9 [9, 10, 11, 12, 13, 14, 15, 16, 17] [[], [], [], [(2, 11)], [(3, 12)], [(4, 13)], [(1, 10), (5, 14)], [], [(7, 16)]] [0]
      (fun i v w' => match i with
        | 0 => v = .pointer (some ⟨R, 0, none⟩)
        | 1 => ∃ C, v = .slice (some ⟨C, 0, none⟩) 0 0 ∧ w'.ownsRow W2.heap.size 34 4 (.slice (some ⟨C, 0, none⟩) 0 0) 0 []
        | 2 => v = .pointer (some ⟨R, 0, none⟩)
        | 3 => v = .pointer (some ⟨R, 0, none⟩)
        | 4 => v = .pointer (some ⟨R, 1, none⟩)
        | 5 => v = .slice al N cl
        | 6 => w'.ownsRow W2.heap.size 34 4 v N (flat ps)
        | 7 => v = .agg #[.int .i64 F.kind, .int .i64 F.flags, .int .i64 F.stream, .slice ap F.pay.length cp]
        | 8 => ∃ C, v = .slice (some ⟨C, 0, none⟩) 1 1 ∧ w'.ownsRow W2.heap.size 34 4 (.slice (some ⟨C, 0, none⟩) 1 1) 1 (flat [(F, .slice ap F.pay.length cp)])
        | _ => True) (by kernel_rfl) (by kernel_rfl) ?tStab ?tOps ?tLate ?tRest
    case tStab =>
      intro i v w3 w4 h hb
      match i, h with
      | 0, h | 2, h | 3, h | 4, h | 5, h | 7, h => exact h
      | 1, h => exact (by obtain ⟨C, e, h1⟩ := h; exact ⟨C, e, owned_below h1 hb⟩)
      | 6, h => exact owned_below h hb
      | 8, h => exact (by obtain ⟨C, e, h1⟩ := h; exact ⟨C, e, owned_below h1 hb⟩)
      | i + 9, _ => trivial
    case tOps =>
      simp only [List.take_succ_cons, List.take_zero, opsOk]
      refine ⟨?_, ?_, ?_, ?_, ?_, ?_, ?_, ?_, ?_, trivial⟩
      · intro ρ w3 hc hf ho hB hj
        have x0 : ρ (.tmp 0) = .pointer (some ⟨R, 0, none⟩) := ho 0 (by decide)
        simp [gives, go_sem, x0, Below.refl]
      · intro ρ w3 hc hf ho hB hj
        simp [gives, go_sem]
        exact ⟨empty_row19 hB.size, (Below.refl _ _).alloc (Nat.le_refl _) _⟩
      · intro ρ w3 hc hf ho hB hj
        have x0 : ρ (.tmp 0) = .pointer (some ⟨R, 0, none⟩) := ho 0 (by decide)
        simp [gives, go_sem, x0, Below.refl]
      · intro ρ w3 hc hf ho hB hj
        have x0 : ρ (.tmp 11) = .pointer (some ⟨R, 0, none⟩) := hj (2, 11) (by simp)
        simp [gives, go_sem, x0, Below.refl]
      · intro ρ w3 hc hf ho hB hj
        have x0 : ρ (.tmp 12) = .pointer (some ⟨R, 0, none⟩) := hj (3, 12) (by simp)
        simp [gives, go_sem, x0, Below.refl]
      · intro ρ w3 hc hf ho hB hj
        have x0 : ρ (.tmp 13) = .pointer (some ⟨R, 1, none⟩) := hj (4, 13) (by simp)
        obtain ⟨f0, f1, f2, f3⟩ := (HW.out.below hB).blk.cells
        simp [gives, go_sem, x0, f1, Below.refl]
      · intro ρ w3 hc hf ho hB hj
        have x0 : ∃ C, (ρ (.tmp 10)) = .slice (some ⟨C, 0, none⟩) 0 0 ∧ w3.ownsRow W2.heap.size 34 4 (.slice (some ⟨C, 0, none⟩) 0 0) 0 [] := hj (1, 10) (by simp)
        have x1 : ρ (.tmp 14) = .slice al N cl := hj (5, 14) (by simp)
        obtain ⟨C, x0, hown⟩ := x0
        have hl := (HW.out.below hB).l
        refine gives_fresh_row (.tmp 10) (.tmp 14) 42 rfl W2.heap.size 34 _ 4 48 Try.underlying42 Try.infoFr19 rfl (by decide) C 0 [] x0 hown al N cl (flat ps) x1 hl.bare (by rw [flat_length, HN.out]) hl.src (by have := HLn.out; unfold maxLen; omega) (by have := HLn.out; omega) hB.size ?_
        intro v5 w5 ho5 hb5
        exact ⟨by simpa using ho5, hb5⟩
      · intro ρ w3 hc hf ho hB hj
        have x0 : ρ (.tmp 3) = .pointer (some ⟨X, 0, none⟩) := ho 3 (by decide)
        have g0 := (HX.out.below hB).c0
        have g1 := (HX.out.below hB).c1
        have g2 := (HX.out.below hB).c2
        have g3 := (HX.out.below hB).c3
        simp [gives, go_sem, x0, g0, g1, g2, g3, Below.refl]
      · intro ρ w3 hc hf ho hB hj
        have x0 : ρ (.tmp 16) = .agg #[.int .i64 F.kind, .int .i64 F.flags, .int .i64 F.stream, .slice ap F.pay.length cp] := hj (7, 16) (by simp)
        simp [gives, go_sem, x0]
        exact ⟨one_row19 F _ hB.size, (Below.refl _ _).alloc (Nat.le_refl _) _⟩
    case tLate =>
      intro i hi _ o ho
      obtain rfl := List.mem_singleton.1 hi
      obtain rfl := Option.some.inj ho
      intro ρ w3 hc ho _ hj
      have x0 : ρ (.tmp 0) = .pointer (some ⟨R, 0, none⟩) := ho 0 (by decide)
      exact ⟨_, fun w' => by simp [go_sem, x0], rfl⟩
    case tRest =>
      intro X w3 hBw hX
      have x0 : X 0 = .pointer (some ⟨R, 0, none⟩) := hX 0 (by decide)
      have x1 := hX 1 (by decide)
      have x2 : X 2 = .pointer (some ⟨R, 0, none⟩) := hX 2 (by decide)
      have x3 : X 3 = .pointer (some ⟨R, 0, none⟩) := hX 3 (by decide)
      have x4 : X 4 = .pointer (some ⟨R, 1, none⟩) := hX 4 (by decide)
      have x5 : X 5 = .slice al N cl := hX 5 (by decide)
      have x6 := hX 6 (by decide)
      have x7 : X 7 = .agg #[.int .i64 F.kind, .int .i64 F.flags, .int .i64 F.stream, .slice ap F.pay.length cp] := hX 7 (by decide)
      have x8 := hX 8 (by decide)
      simp only [putAll, List.getD_cons_zero, List.getD_cons_succ, Act.put, List.setIfInBounds_toArray, List.set_cons_zero, List.set_cons_succ, List.drop_succ_cons, List.drop_zero]
      rw [x0, x2, x3, x4, x5, x7]
      obtain ⟨C, e8, ho8⟩ := x8
      obtain ⟨a6, k6, e6, _⟩ := owned_shape x6
      rw [e6] at x6
      rw [e6, e8]
      have HO := Lib.hid (And.intro x6 ho8)
      have HW3 := Lib.hid (HW.out.below hBw)
      have HT3 := Lib.hid (HT.out.trans (Turn.of_below hBw))
      have HZ := Lib.hid (And.intro hBw.size HW.out.blk.lt)
      have HBw := Lib.hid hBw
      clear x0 x1 x2 x3 x4 x5 x6 x7 e6 e8 ho8 hBw hX
      go_wp2_with (at_builtin; refine app_frames_at rfl (.tmp 15) (.tmp 17) 42 rfl W2.heap.size W2.heap.size 34 Try.underlying42 Try.infoFr19 _ ps rfl (by rw [← HN.out]; exact HO.out.1) _ [(F, .slice ap F.pay.length cp)] rfl HO.out.2 (fun p hp => by rw [List.mem_singleton] at hp; subst hp; exact ⟨_, _, _, rfl⟩) (by have := HLn.out; have := HN.out; simp; omega) HZ.out.1 ?_; intro v9 w9 own9 hb9 hg9 hat9; have HO9 := Lib.hid (And.intro own9 (And.intro hb9 hat9)); obtain ⟨a9, k9, e9, _⟩ := owned_shape own9; rw [HD.out] at e9; subst e9; have HB9 := Lib.hid (below_drop19 hb9 HW3.out.blk.lt HZ.out); have j1 := blk_free (j := 1) (HB9.out.trans HW3.out.blk); have j2 := blk_cell (j := 1) (HB9.out.trans HW3.out.blk) rfl; have j3 := (Array.getElem?_eq_some_iff.1 (HB9.out.trans HW3.out.blk)).1; clear own9 hb9 hg9 hat9)
      refine Calm.intro ?_
      have hz := HZ.out
      have HQ := Lib.hid (show RqObj (w9.setCell ⟨R, 1, none⟩ (.slice a9 D k9)) R (.slice a9 D k9) (ps ++ [(F, Value.slice ap F.pay.length cp)]) ⟨room, (ps ++ [(F, Value.slice ap F.pay.length cp)]).map (fun p => p.1), false⟩ ∧ Turn (fun k => k = R) w (w9.setCell ⟨R, 1, none⟩ (.slice a9 D k9)) ∧ FromL w (w9.setCell ⟨R, 1, none⟩ (.slice a9 D k9)) (.slice al N cl) (.slice a9 D k9) from by
        obtain ⟨ho, hb, hat⟩ := HO9.out
        have hlv : ∀ g, (Value.slice a9 D k9).ownBlock = some g → W2.heap.size ≤ g ∧ g < w9.heap.size := fun g hg => ho.lt g hg
        have hps : ∀ p ∈ ps ++ [(F, Value.slice ap F.pay.length cp)], Sl .u8 w9 p.2 p.1.pay := fun p hp => by
          rcases List.mem_append.1 hp with hp | hp
          · have h1 := HW.out.l.1 p hp
            exact (h1.below HBw.out).later19 h1 hb
          · rw [List.mem_singleton] at hp
            subst hp
            exact (HPy.out.below HBw.out).later19 HPy.out hb
        have hsl : SlF w9 (.slice a9 D k9) (ps ++ [(F, Value.slice ap F.pay.length cp)]) := SlF.of_own ho hps
        refine ⟨?_, (HT.out.trans (Turn.of_below (HBw.out.trans hb))).trans (turn_set19 _ _ _), fun g hg => .inr ⟨?_, by simpa [World.setCell] using (hlv g hg).2⟩⟩
        · exact RqObj.setL (q := ⟨room, ql, false⟩) (HB9.out.trans HW3.out.blk) hsl (fun g hg => ⟨by have := (hlv g hg).1; omega, (hlv g hg).2⟩) (fun p hp => by
            rcases List.mem_append.1 hp with hp | hp
            · exact HW.out.np p hp
            · rw [List.mem_singleton] at hp
              subst hp
              exact HP.out.2)
        · have := (hlv g hg).1; have := HT.out.size; omega)
      generalize w9.setCell ⟨R, 1, none⟩ (.slice a9 D k9) = wf at HQ ⊢
      clear j1 j2 j3 hz
      obtain ⟨f0, f1, f2, f3⟩ := HQ.out.1.blk.cells
      have g2 := HQ.out.1.blk.free 2
      go_wp2_with fail
      go_ret
      refine ⟨by rw [HE.out.1]; rfl, _, _, ?_, HQ.out.2.1.trans (turn_set19 _ _ _), fun g hg => (HQ.out.2.2 g hg).imp_right (fun e => ⟨e.1, by simpa [World.setCell] using e.2⟩), .inr rfl⟩
      rw [HE.out.2]
      exact HQ.out.1.setE true
end Go.Proofs.Ytiappeagdnkedaa
