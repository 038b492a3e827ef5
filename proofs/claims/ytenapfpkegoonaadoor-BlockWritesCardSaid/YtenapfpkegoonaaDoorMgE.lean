/-
  Several texts of mine, one behind the other: BlkKit, BlkSmall, BlkField, BlkTell, BlkRead, BlkIter, BlkDec, BlkObj, BlkTable, StatMath, StatRef, StatRefFind, BlkRefKit, BlkRef, StatFind, BlkEncMath, BlkEnc, BlkRefEnc, BlkFields.
-/
import Derived.Test.YtenapfpkegoonaaDoorMgD
import Derived.WalkKit
import Derived.OwnWalkIn
import Derived.TacticsInMore
import Derived.LoopNIn
import Derived.LoopIn
import Derived.WalkMore
import Derived.BigQuiet
import Derived.Deep.LoopGhost
import Derived.Deep.QuietTactic
import Derived.Maps.AppendAt
import Derived.Outline

/-
  Layer 9: a block that is being read: where the reader lies; what its calls turn; how far it has come.
-/
namespace Go.Proofs.YtenapfpkegoonaaDoor
set_option maxRecDepth 20000
open Go.RowKit

/-- the reader lies there -/
def RdAt (W : World) (R T : Nat) (sz : Int) (lv : Value) (room : Int) : Prop := W.heap[R]? = some (.cells #[.pointer (some ⟨T, 0, none⟩), .int .i64 sz, lv, .int .i64 room] 60 (0, 0))
theorem RdAt.lt {W : World} {R T : Nat} {z m : Int} {v : Value} (h : RdAt W R T z v m) : R < W.heap.size := (Array.getElem?_eq_some_iff.1 h).1
theorem RdAt.c0 {W : World} {R T : Nat} {z m : Int} {v : Value} (h : RdAt W R T z v m) : W.cell? ⟨R, 0, none⟩ = some (.pointer (some ⟨T, 0, none⟩)) := blk_cell h rfl
theorem RdAt.c1 {W : World} {R T : Nat} {z m : Int} {v : Value} (h : RdAt W R T z v m) : W.cell? ⟨R, 1, none⟩ = some (.int .i64 z) := blk_cell h rfl
theorem RdAt.c2 {W : World} {R T : Nat} {z m : Int} {v : Value} (h : RdAt W R T z v m) : W.cell? ⟨R, 2, none⟩ = some v := blk_cell h rfl
theorem RdAt.c3 {W : World} {R T : Nat} {z m : Int} {v : Value} (h : RdAt W R T z v m) : W.cell? ⟨R, 3, none⟩ = some (.int .i64 m) := blk_cell h rfl
theorem RdAt.free {W : World} {R T j : Nat} {z m : Int} {v : Value} (h : RdAt W R T z v m) : W.frozen? ⟨R, j, none⟩ = false := blk_free h
theorem RdAt.s1 {W : World} {R T : Nat} {z m : Int} {v : Value} (h : RdAt W R T z v m) (x : Int) : RdAt (W.setCell ⟨R, 1, none⟩ (.int .i64 x)) R T x v m := heap_setCell_same W R 1 _ _ _ h
theorem RdAt.s2 {W : World} {R T : Nat} {z m : Int} {v : Value} (h : RdAt W R T z v m) (x : Value) : RdAt (W.setCell ⟨R, 2, none⟩ x) R T z x m := heap_setCell_same W R 2 _ _ _ h
theorem RdAt.s3 {W : World} {R T : Nat} {z m : Int} {v : Value} (h : RdAt W R T z v m) (x : Int) : RdAt (W.setCell ⟨R, 3, none⟩ (.int .i64 x)) R T z v x := heap_setCell_same W R 3 _ _ _ h
theorem RdAt.of_block {W W' : World} {R T : Nat} {z m : Int} {v : Value} (h : RdAt W R T z v m) (hb : W'.heap[R]? = W.heap[R]?) : RdAt W' R T z v m := hb.trans h
theorem RdAt.below {W W' : World} {R T : Nat} {z m : Int} {v : Value} (h : RdAt W R T z v m) (hb : Below W.heap.size W W') : RdAt W' R T z v m := h.of_block (hb.block R h.lt)
theorem RdAt.apart {W : World} {base R T : Nat} {z m : Int} {v u : Value} {fs : List Fd} (h : RdAt W R T z v m) (hr : RowF W base u fs) : u.ownBlock ≠ some R :=
  hr.apart h (fun cs fr e => by injection e with _ e2 _; exact absurd e2 (by decide))
theorem RdAt.ne {W : World} {R T T' : Nat} {z m b k y : Int} {v u : Value} (h : RdAt W R T z v m) (hT : TabAt W T' b k u y) : R ≠ T' := fun e => by
  subst e
  rw [RdAt, hT] at h
  injection h with h
  injection h with _ e2 _
  exact absurd e2 (by decide)

/-- what a call of the reader may turn: readers, tables, fields -/
def Soft (o : Obj) : Prop := ∃ cs fr, o = .cells cs 60 fr ∨ o = .cells cs 83 fr ∨ o = .cells cs 46 fr
structure Kt (w w' : World) : Prop where
  size : w.heap.size ≤ w'.heap.size
  block : ∀ (k : Nat) (o : Obj), w.heap[k]? = some o → ¬ Soft o → w'.heap[k]? = some o
theorem Kt.refl (w : World) : Kt w w := ⟨Nat.le_refl _, fun _ _ h _ => h⟩
theorem Kt.trans {a b c : World} (h : Kt a b) (k : Kt b c) : Kt a c := ⟨Nat.le_trans h.size k.size, fun i o h1 h2 => k.block i o (h.block i o h1 h2) h2⟩
theorem Kt.of {w w' : World} (h : Below w.heap.size w w') : Kt w w' := ⟨h.size, fun k _ h1 _ => (h.block k (Array.getElem?_eq_some_iff.1 h1).1).trans h1⟩
theorem Kt.set {w : World} {R T : Nat} {z m : Int} {v : Value} (h : RdAt w R T z v m) (j : Nat) (x : Value) : Kt w (w.setCell ⟨R, j, none⟩ x) :=
  ⟨by simp, fun k o h1 h2 => (Below.heap_setCell _ _ _ _ (by
    show k ≠ R
    rintro rfl
    rw [RdAt, h1] at h
    exact h2 ⟨_, _, .inl (Option.some.inj h)⟩)).trans h1⟩
theorem Kt.grown {w w' : World} {base : Nat} {v : Value} {fs : List Fd} (hr : RowF w base v fs) (h : w.grownBy w' v.ownBlock) : Kt w w' :=
  ⟨h.size, fun k o h1 h2 => (h.block k (Array.getElem?_eq_some_iff.1 h1).1 (fun e => by
    obtain ⟨cs, fr, h3⟩ := hr.block k e.symm
    rw [h1] at h3
    exact h2 ⟨cs, fr, .inr (.inr (Option.some.inj h3))⟩)).trans h1⟩
theorem Kt.mv {w w' : World} {T base : Nat} {b m : Int} {v : Value} {fs : List Fd} (hT : TabO w base T b m v fs) (h : Mv T v w w') : Kt w w' :=
  ⟨h.size, fun k o h1 h2 => (h.block k (Array.getElem?_eq_some_iff.1 h1).1 (fun e => by
    subst e
    have h3 := hT.2.1
    rw [TabAt, h1] at h3
    exact h2 ⟨_, _, .inr (.inl (Option.some.inj h3))⟩) (fun e => by
    obtain ⟨cs, fr, h3⟩ := hT.2.2.block k e
    rw [h1] at h3
    exact h2 ⟨cs, fr, .inr (.inr (Option.some.inj h3))⟩)).trans h1⟩

/-- how many sizes may still come -/
def leftS (r : Rs) : Int := if r.out = [] then 2 - (r.s : Int) else 0
def roomIs (limit : Int) (out : List Fd) (room : Int) : Prop := if (sumF out : Int) ≤ limit then room = limit - (sumF out : Nat) else room < 0
/-- the table, behind what was turned since W0 -/
def TbS (b : Int) (base : Nat) (W0 : World) (T : Nat) (v0 : Value) (r : Rs) (W : World) : Prop :=
  ∃ v, TabO W base T b r.most v r.fs.reverse ∧ From W0 v0 v ∧ Mv T v0 W0 W
/-- a block is being read, and its parts -/
def RdP (b limit : Int) (base : Nat) (W0 : World) (T : Nat) (v0 : Value) (R : Nat) (sz most : Int) (fs out : List Fd) (W : World) : Prop :=
  ∃ v lv room, RdAt W R T sz lv room ∧ TabO W base T b most v fs.reverse ∧ RowF W W0.heap.size lv (tellL limit out) ∧ roomIs limit out room ∧ (∀ g, lv.ownBlock = some g → v.ownBlock ≠ some g) ∧ From W0 v0 v ∧ Mv T v0 W0 W
/-- how far it has come since W0 -/
def RdS (b limit : Int) (base : Nat) (W0 : World) (T : Nat) (v0 : Value) (R : Nat) (r : Rs) (W : World) : Prop := RdP b limit base W0 T v0 R (leftS r) r.most r.fs r.out W
theorem RdS.tb {b limit : Int} {base : Nat} {W0 : World} {T : Nat} {v0 : Value} {R : Nat} {r : Rs} {W : World} (h : RdS b limit base W0 T v0 R r W) : TbS b base W0 T v0 r W := by
  obtain ⟨v, lv, room, _, h2, _, _, _, h6, h7⟩ := h
  exact ⟨v, h2, h6, h7⟩
theorem TbS.grows {b : Int} {base : Nat} {W0 : World} {T : Nat} {v0 : Value} {r : Rs} {W W' : World} (h : TbS b base W0 T v0 r W) (hb : Below W.heap.size W W') : TbS b base W0 T v0 r W' := by
  obtain ⟨v, h2, h6, h7⟩ := h
  exact ⟨v, h2.below hb, h6, h7.trans (Mv.of (v := v0) hb) (fun g hg => .inl hg)⟩
theorem RdP.grows {b limit : Int} {base : Nat} {W0 : World} {T : Nat} {v0 : Value} {R : Nat} {sz most : Int} {fs out : List Fd} {W W' : World} (h : RdP b limit base W0 T v0 R sz most fs out W) (hb : Below W.heap.size W W') : RdP b limit base W0 T v0 R sz most fs out W' := by
  obtain ⟨v, lv, room, h1, h2, h3, h4, h5, h6, h7⟩ := h
  exact ⟨v, lv, room, h1.below hb, h2.below hb, h3.below hb, h4, h5, h6, h7.trans (Mv.of (v := v0) hb) (fun g hg => .inl hg)⟩
theorem RdS.grows {b limit : Int} {base : Nat} {W0 : World} {T : Nat} {v0 : Value} {R : Nat} {r : Rs} {W W' : World} (h : RdS b limit base W0 T v0 R r W) (hb : Below W.heap.size W W') : RdS b limit base W0 T v0 R r W' := RdP.grows h hb
theorem RdP.tb {b limit : Int} {base : Nat} {W0 : World} {T : Nat} {v0 : Value} {R : Nat} {sz : Int} {r : Rs} {W : World} (h : RdP b limit base W0 T v0 R sz r.most r.fs r.out W) : TbS b base W0 T v0 r W := by
  obtain ⟨v, lv, room, _, h2, _, _, _, h6, h7⟩ := h
  exact ⟨v, h2, h6, h7⟩
/-- a block that is no cells is turned -/
theorem Mv.put {T : Nat} {v : Value} {w w' : World} {l : Nat} {o' : Obj} (h : Mv T v w w') (hl : w.heap.size ≤ l) : Mv T v w (w'.putObj l o') :=
  ⟨h.os, h.tape, h.output, by rw [World.putObj_size]; exact h.size, fun k hk h1 h2 => (World.putObj_heap_other (by omega)).trans (h.block k hk h1 h2)⟩
theorem not_cells {W : World} {l k : Nat} {o : Obj} {cs : Array Value} {t : TypeId} {fr : Nat × Nat} (hl : W.heap[l]? = some o) (ho : o.isCells = false) (hk : W.heap[k]? = some (.cells cs t fr)) : k ≠ l := by
  rintro rfl
  rw [hl] at hk
  cases hk
  cases ho
theorem TbS.turns {b : Int} {base : Nat} {W0 : World} {T : Nat} {v0 : Value} {r : Rs} {W : World} {l : Nat} {o o' : Obj} (h : TbS b base W0 T v0 r W) (h0 : W0.heap.size ≤ l) (hl : W.heap[l]? = some o) (ho : o.isCells = false) : TbS b base W0 T v0 r (W.putObj l o') := by
  obtain ⟨v, h2, h6, h7⟩ := h
  refine ⟨v, h2.of_blocks (World.putObj_heap_other (not_cells hl ho h2.2.1)) (fun g hg => ?_), h6, h7.put h0⟩
  obtain ⟨cs, fr, hc⟩ := h2.2.2.block g hg
  exact World.putObj_heap_other (not_cells hl ho hc)
theorem RdS.turns {b limit : Int} {base : Nat} {W0 : World} {T : Nat} {v0 : Value} {R : Nat} {r : Rs} {W : World} {l : Nat} {o o' : Obj} (h : RdS b limit base W0 T v0 R r W) (h0 : W0.heap.size ≤ l) (hl : W.heap[l]? = some o) (ho : o.isCells = false) : RdS b limit base W0 T v0 R r (W.putObj l o') := by
  obtain ⟨v, lv, room, h1, h2, h3, h4, h5, h6, h7⟩ := h
  refine ⟨v, lv, room, h1.of_block (World.putObj_heap_other (not_cells hl ho h1)), h2.of_blocks (World.putObj_heap_other (not_cells hl ho h2.2.1)) (fun g hg => ?_), h3.of_block (fun g hg => ?_), h4, h5, h6, h7.put h0⟩
  · obtain ⟨cs, fr, hc⟩ := h2.2.2.block g hg
    exact World.putObj_heap_other (not_cells hl ho hc)
  · obtain ⟨cs, fr, hc⟩ := h3.block g hg
    exact World.putObj_heap_other (not_cells hl ho hc)

theorem Mv.set_new {T : Nat} {v : Value} {w w' : World} (h : Mv T v w w') {p : Addr} (hp : w.heap.size ≤ p.block) (x : Value) : Mv T v w (w'.setCell p x) :=
  ⟨h.os, h.tape, h.output, by simpa using h.size, fun k hk h1 h2 => (Below.heap_setCell _ _ _ _ (by omega)).trans (h.block k hk h1 h2)⟩
/-- the table is another one -/
theorem rd_moved {W0 W W' : World} {base T R : Nat} {b m sz room : Int} {v v' v0 lv : Value} {fo l : List Fd} (h1 : RdAt W R T sz lv room) (h2 : TabO W base T b m v fo) (h3 : RowF W W0.heap.size lv l) (h5 : ∀ g, lv.ownBlock = some g → v.ownBlock ≠ some g) (h6 : From W0 v0 v) (h7 : Mv T v0 W0 W)
    (hf : From W v v') (hm : Mv T v W W') : RdAt W' R T sz lv room ∧ RowF W' W0.heap.size lv l ∧ (∀ g, lv.ownBlock = some g → v'.ownBlock ≠ some g) ∧ From W0 v0 v' ∧ Mv T v0 W0 W' := by
  refine ⟨h1.of_block (hm.block R h1.lt (h1.ne h2.2.1) (h1.apart h2.2.2)), h3.of_block (fun g hg => hm.block g (h3.lt g hg).2 (fun e => h2.2.1.apart h3 (by rw [hg, e])) (h5 g hg)), fun g hg e => ?_, h6.trans hf h7.size, h7.trans hm h6⟩
  rcases hf g e with h | h
  · exact h5 g hg h
  · have := (h3.lt g hg).2
    omega
/-- a slice whose bytes lay elsewhere stays -/
theorem Sl.kept {k : IntKind} {w w' : World} {u : Value} {zs : List Int} (h : Sl k w u zs) (hs : w.heap.size ≤ w'.heap.size) (hk : ∀ g off q n c, 0 < n → u = .slice (some ⟨g, off, q⟩) n c → w'.heap[g]? = w.heap[g]?) : Sl k w' u zs := by
  obtain ⟨a, cap, rfl, h1, h2, h4, h3⟩ := h
  refine ⟨a, cap, rfl, h1, h2, h4, ?_⟩
  rcases h3 with h3 | ⟨g, off, rfl, hlt, hc⟩
  · exact .inl h3
  · by_cases h0 : zs.length = 0
    · exact .inl ⟨h0, fun e => by cases e⟩
    · have hblk := hk _ _ _ _ _ (by omega) rfl
      refine .inr ⟨g, off, rfl, Nat.lt_of_lt_of_le hlt hs, fun i hi => ?_⟩
      have := hc i hi
      unfold World.cell? at this ⊢
      rw [hblk]
      exact this
/-- a slice that lies elsewhere -/
def Far (T : Nat) (v u : Value) : Prop := ∀ g off q n c, 0 < n → u = .slice (some ⟨g, off, q⟩) n c → g ≠ T ∧ v.ownBlock ≠ some g
theorem Sl.lt {k : IntKind} {w : World} {u : Value} {zs : List Int} (h : Sl k w u zs) : ∀ g off q n c, 0 < n → u = .slice (some ⟨g, off, q⟩) n c → g < w.heap.size := by
  rintro g off q n c hn rfl
  obtain ⟨a, cap, e, h1, h2, h4, h3⟩ := h
  simp only [Value.slice.injEq] at e
  obtain ⟨rfl, rfl, rfl⟩ := e
  rcases h3 with ⟨h3, _⟩ | ⟨b, off2, e, hlt, _⟩
  · omega
  · cases e; exact hlt
theorem Sl.moved {k : IntKind} {w w' : World} {T : Nat} {v u : Value} {zs : List Int} (h : Sl k w u zs) (hf : Far T v u) (hm : Mv T v w w') : Sl k w' u zs :=
  h.kept hm.size fun g off q n c h0 e => hm.block g (h.lt g off q n c h0 e) (hf g off q n c h0 e).1 (hf g off q n c h0 e).2
theorem ShT.moved {w w' : World} {T : Nat} {v : Value} (h : ShT w) (h1 : 0 ≠ T) (h2 : v.ownBlock ≠ some 0) (hm : Mv T v w w') : ShT w' := by
  obtain ⟨t, fr, hh⟩ := h
  exact ⟨t, fr, (hm.block _ (Array.getElem?_eq_some_iff.1 hh).1 h1 h2).trans hh⟩
end Go.Proofs.YtenapfpkegoonaaDoor

/-
  Layer 9: isCutOff, named, field, resize.
-/
namespace Go.Proofs.YtenapfpkegoonaaDoor
set_option maxRecDepth 20000
open Go.RowKit

theorem cut_any (R T : Nat) (sz room : Int) (lv : Value) (w : World) (h : RdAt w R T sz lv room) :
    Calls Tryd.prog 23 #[.pointer (some ⟨R, 0, none⟩)] w fun e w' => e = .returned (.bool (decide (room < 0))) ∧ w' = w := by
  have c3 := h.c3
  clear h
  go_enter Tryd.func23, Tryd.ntmps23
  go_wp2_with fail
  go_ret
  exact ⟨rfl, rfl⟩
theorem optT_shape (o : Option Fd) : ∃ n v e, optT o = .tuple #[.agg #[.string n, .string v], .int .i64 e] := by
  cases o
  · exact ⟨_, _, _, rfl⟩
  · exact ⟨_, _, _, rfl⟩
set_option maxHeartbeats 1000000 in
theorem bNamed_any (R T base : Nat) (b m sz room i : Int) (v lv : Value) (fs : List Fd) (w : World) (hR : RdAt w R T sz lv room) (h : TabO w base T b m v fs.reverse) (hi : 0 ≤ i ∧ i ≤ 16777215) :
    Calls Tryd.prog 69 #[.pointer (some ⟨R, 0, none⟩), .int .i64 i] w fun e w' => e = .returned (optT (namedF fs i)) ∧ Below w.heap.size w w' := by
  by_cases h1 : i ≤ 61
  · obtain ⟨n, x, e, hT⟩ := optT_shape (namedF fs i)
    have hg := get_opt fs h1
    rw [hT] at hg
    have HT := Lib.hid hT
    have HG := Lib.hid hg
    have d1 : decide (i ≤ 61) = true := decide_eq_true h1
    clear hg hT h1 hi hR h
    go_enter Tryd.func69, Tryd.ntmps69
    go_wp2_with fail
    refine (get_any i _).mono ?_
    rintro e w' ⟨rfl, hb⟩
    rw [HG.out]
    have hg : Hid (w'.heap[w.heap.size]? = some (.cells #[.string ⟨#[]⟩, .string ⟨#[]⟩] 46 (0, 0)) ∧ Below w.heap.size w w') :=
      ⟨(hb.block _ (by simp)).trans (heap_alloc_new _ _), ((Below.refl _ _).alloc (Nat.le_refl _) _).trans (hb.mono (by simp))⟩
    clear hb
    go_wp2_with (with_reducible refine store_fld rfl (.tmp 4) (.tmp 10) rfl w.heap.size n x _ _ rfl rfl hg.out.1 ?_)
    refine bodyPost_ret (results_row_tmp1 rfl _ _ w.heap.size 46 #[.string n, .string x] (0, 0) _ rfl (setRow_heap _ _ _ _ _ _ hg.out.1) Tryd.underlying46 rfl (by kernel_rfl)) rfl ⟨?_, below_setRow hg.out.2 (Nat.le_refl _) _⟩
    rw [HT.out]; rfl
  · obtain ⟨n, x, e, hT⟩ := optT_shape (namedF fs i)
    have hg := getO_opt fs h1
    rw [hT] at hg
    have HT := Lib.hid hT
    have HG := Lib.hid hg
    have d1 : decide (i ≤ 61) = false := decide_eq_false h1
    have hal := (Below.refl w.heap.size w).alloc (Nat.le_refl _) (.cells #[.string ⟨#[]⟩, .string ⟨#[]⟩] 46)
    have c0 := (hR.below hal).c0
    have HH := Lib.hid (h.below hal)
    clear hg hT hR h hal
    go_enter Tryd.func69, Tryd.ntmps69
    go_wp2_with fail
    refine (tget_any T base b m (i - 61) v fs.reverse _ HH.out).mono ?_
    rintro e w' ⟨rfl, hb⟩
    rw [HG.out]
    have hg : Hid (w'.heap[w.heap.size]? = some (.cells #[.string ⟨#[]⟩, .string ⟨#[]⟩] 46 (0, 0)) ∧ Below w.heap.size w w') :=
      ⟨(hb.block _ (by simp)).trans (heap_alloc_new _ _), ((Below.refl _ _).alloc (Nat.le_refl _) _).trans (hb.mono (by simp))⟩
    clear hb
    go_wp2_with (with_reducible refine store_fld rfl (.tmp 4) (.tmp 19) rfl w.heap.size n x _ _ rfl rfl hg.out.1 ?_)
    refine bodyPost_ret (results_row_tmp1 rfl _ _ w.heap.size 46 #[.string n, .string x] (0, 0) _ rfl (setRow_heap _ _ _ _ _ _ hg.out.1) Tryd.underlying46 rfl (by kernel_rfl)) rfl ⟨?_, below_setRow hg.out.2 (Nat.le_refl _) _⟩
    rw [HT.out]; rfl
end Go.Proofs.YtenapfpkegoonaaDoor

/-
  Layer 9: field.
-/
namespace Go.Proofs.YtenapfpkegoonaaDoor
set_option maxRecDepth 20000
open Go.RowKit

theorem FldAt.put1 {W : World} {g : Nat} {n v : ByteArray} (h : FldAt W g n v) (x : ByteArray) : FldAt (W.setCell ⟨g, 1, none⟩ (.string x)) g n x := heap_setCell_same W g 1 _ _ _ h
theorem FldAt.put0 {W : World} {g : Nat} {n v : ByteArray} (h : FldAt W g n v) (x : ByteArray) : FldAt (W.setCell ⟨g, 0, none⟩ (.string x)) g x v := heap_setCell_same W g 0 _ _ _ h
theorem FldAt.free {W : World} {g j : Nat} {n v : ByteArray} (h : FldAt W g n v) : W.frozen? ⟨g, j, none⟩ = false := blk_free h
theorem field_item {fs : List Fd} {d : DecO} (h : d.k ≠ 0 ∧ d.n = 0) : optT (fieldF fs d) = .tuple #[.agg #[.string (strOfNums d.a), .string (strOfNums d.b)], .int .i64 0] := by
  rw [fieldF, if_pos h]; rfl
theorem field_named {fs : List Fd} {d : DecO} {n v : ByteArray} {e : Int} (h : ¬ (d.k ≠ 0 ∧ d.n = 0)) (hn : optT (namedF fs d.n) = .tuple #[.agg #[.string n, .string v], .int .i64 e]) :
    optT (fieldF fs d) = .tuple #[.agg #[.string n, .string (if d.k ≠ 0 ∧ e = 0 then strOfNums d.b else v)], .int .i64 e] := by
  rw [fieldF, if_neg h]
  cases ho : namedF fs d.n with
  | none =>
    rw [ho] at hn
    simp only [optT, Value.tuple.injEq, Array.mk.injEq, List.cons.injEq, Value.agg.injEq, Value.string.injEq, Value.int.injEq, and_true, true_and] at hn
    obtain ⟨⟨rfl, rfl⟩, rfl⟩ := hn
    rw [if_neg (by omega)]
    rfl
  | some g =>
    rw [ho] at hn
    simp only [optT, Value.tuple.injEq, Array.mk.injEq, List.cons.injEq, Value.agg.injEq, Value.string.injEq, Value.int.injEq, and_true, true_and] at hn
    obtain ⟨⟨rfl, rfl⟩, rfl⟩ := hn
    by_cases hk : d.k = 0
    · rw [if_neg (fun x => x.1 hk), Option.map_some, if_pos hk]; rfl
    · rw [if_pos ⟨hk, rfl⟩, Option.map_some, if_neg hk]; rfl
set_option maxHeartbeats 1000000 in
theorem bField_any (R T base : Nat) (b m sz room : Int) (v lv : Value) (fs : List Fd) (d : DecO) (hd : DOk d) (w : World) (hR : RdAt w R T sz lv room) (h : TabO w base T b m v fs.reverse) :
    Calls Tryd.prog 42 #[.pointer (some ⟨R, 0, none⟩), itV d.k d.n (strOfNums d.a) (strOfNums d.b)] w fun e w' => e = .returned (optT (fieldF fs d)) ∧ Below w.heap.size w w' := by
  obtain ⟨hn0, hn1⟩ : 0 ≤ d.n ∧ d.n ≤ 16777215 := ⟨hd.n0, hd.n1⟩
  have HF := fun (n v : ByteArray) (e : Int) => @field_named fs d n v e
  have HI := @field_item fs d
  obtain ⟨k, hk⟩ : ∃ k, d.k = k := ⟨_, rfl⟩
  obtain ⟨i, hi⟩ : ∃ i, d.n = i := ⟨_, rfl⟩
  obtain ⟨s, hs⟩ : ∃ s, strOfNums d.a = s := ⟨_, rfl⟩
  obtain ⟨t, ht⟩ : ∃ t, strOfNums d.b = t := ⟨_, rfl⟩
  obtain ⟨X, hX⟩ : ∃ X, optT (fieldF fs d) = X := ⟨_, rfl⟩
  simp only [hk, hi, hs, ht, hX] at HF HI hn0 hn1 ⊢
  clear hk hi hs ht hX hd
  dsimp only [itV]
  have hB1 : Below w.heap.size w (w.alloc (.cells #[.int .i64 k, .int .i64 i, .string s, .string t] 65)) := (Below.refl _ _).alloc (Nat.le_refl _) _
  have hB2 : Below w.heap.size w ((w.alloc (.cells #[.int .i64 k, .int .i64 i, .string s, .string t] 65)).alloc (.cells #[.string ⟨#[]⟩, .string ⟨#[]⟩] 46)) := hB1.alloc (by simp) _
  have hI2 : ItAt ((w.alloc (.cells #[.int .i64 k, .int .i64 i, .string s, .string t] 65)).alloc (.cells #[.string ⟨#[]⟩, .string ⟨#[]⟩] 46)) w.heap.size 65 k i s t := ItAt.grown (W := w.alloc (.cells #[.int .i64 k, .int .i64 i, .string s, .string t] 65)) (heap_alloc_new w _) ((Below.refl _ _).alloc (Nat.le_refl _) _)
  have hF2 : FldAt ((w.alloc (.cells #[.int .i64 k, .int .i64 i, .string s, .string t] 65)).alloc (.cells #[.string ⟨#[]⟩, .string ⟨#[]⟩] 46)) (w.heap.size + 1) ⟨#[]⟩ ⟨#[]⟩ := by
    have := FldAt.new (w.alloc (.cells #[.int .i64 k, .int .i64 i, .string s, .string t] 65)) ⟨#[]⟩ ⟨#[]⟩
    simpa using this
  have hR2 := hR.below hB2
  have hT2 := h.below hB2
  obtain ⟨n0, v0, e0, hS⟩ := optT_shape (namedF fs i)
  have HS := Lib.hid hS
  by_cases hk : k = 0
  · have HX := Lib.hid (HF n0 v0 e0 (fun x => x.1 hk) hS)
    clear hS HF HI
    subst hk
    go_enter Tryd.func42, Tryd.ntmps42
    go_wp2_with fail
    refine (bNamed_any R T base b m sz room i v lv fs _ hR2 hT2 ⟨hn0, hn1⟩).mono ?_
    rintro e w1 ⟨rfl, hb⟩
    rw [HS.out]
    have hI1 := hI2.grown hb
    have hF1 := hF2.grown hb
    have hB := hB2.trans (hb.mono (by simp; omega))
    have hN : w.heap.size + 1 < w1.heap.size := hF1.lt
    have u0 := hF1.c0
    have u1 := hF1.c1
    have uf0 : w1.frozen? ⟨w.heap.size + 1, 0, none⟩ = false := hF1.free
    have uf1 : w1.frozen? ⟨w.heap.size + 1, 1, none⟩ = false := hF1.free
    have hA : Below w1.heap.size w1 (w1.alloc (.cells #[.string n0, .string v0] 46)) := (Below.refl _ _).alloc (Nat.le_refl _) _
    have hI3 := hI1.grown hA
    have y0 := hI3.c0
    have y3 := hI3.c3
    clear hI3 hA
    have HR := Lib.hid (And.intro hF1 hB)
    clear hI1 hF1 hB hb hI2 hF2 hR2 hT2 hB1 hB2
    go_wp2_with fail
    refine bodyPost_ret (results_row_tmp1 rfl _ _ (w.heap.size + 1) 46 #[.string n0, .string v0] (0, 0) _ rfl (((HR.out.1.put0 n0).put1 v0).grown ((Below.refl _ _).alloc (Nat.le_refl _) _)) Tryd.underlying46 rfl (by kernel_rfl)) rfl ⟨?_, ((HR.out.2.setCell (p := ⟨w.heap.size + 1, 0, none⟩) (Nat.le_succ _) _).setCell (p := ⟨w.heap.size + 1, 1, none⟩) (Nat.le_succ _) _).alloc (by simp; omega) _⟩
    rw [HX.out, if_neg (fun x => x.1 rfl)]; rfl
  · have d0 : (k != 0) = true := by simpa using hk
    by_cases hi : i = 0
    · have HX := Lib.hid (HI ⟨hk, hi⟩)
      subst hi
      clear hS HF HI hR2 hT2
      have HB := Lib.hid (And.intro hF2 hB2)
      clear hF2 hB1 hB2 hI2
      go_enter Tryd.func42, Tryd.ntmps42
      go_wp2_with (with_reducible refine store_fld rfl (.tmp 4) (.tmp 20) rfl (w.heap.size + 1) s t _ _ rfl rfl HB.out.1 ?_)
      refine bodyPost_ret (results_row_tmp1 rfl _ _ (w.heap.size + 1) 46 #[.string s, .string t] (0, 0) _ rfl (by simpa using heap_alloc_new (w.alloc (.cells #[.int .i64 k, .int .i64 0, .string s, .string t] 65)) (.cells #[.string s, .string t] 46)) Tryd.underlying46 rfl (by kernel_rfl)) rfl ⟨?_, ((Below.refl _ _).alloc (Nat.le_refl _) _).alloc (by simp) _⟩
      rw [HX.out]; rfl
    · have d1 : (i == 0) = false := by simpa using hi
      have HX := Lib.hid (HF n0 v0 e0 (fun x => hi x.2) hS)
      clear hS HF HI
      by_cases he : e0 = 0
      · subst he
        have HK := Lib.hid hk
        clear hk
        go_enter Tryd.func42, Tryd.ntmps42
        go_wp2_with fail
        refine (bNamed_any R T base b m sz room i v lv fs _ hR2 hT2 ⟨hn0, hn1⟩).mono ?_
        rintro e w1 ⟨rfl, hb⟩
        rw [HS.out]
        have hI1 := hI2.grown hb
        have hF1 := hF2.grown hb
        have hB := hB2.trans (hb.mono (by simp; omega))
        have hN : w.heap.size + 1 < w1.heap.size := hF1.lt
        have u0 := hF1.c0
        have u1 := hF1.c1
        have uf0 : w1.frozen? ⟨w.heap.size + 1, 0, none⟩ = false := hF1.free
        have uf1 : w1.frozen? ⟨w.heap.size + 1, 1, none⟩ = false := hF1.free
        have hA : Below w1.heap.size w1 (w1.alloc (.cells #[.string n0, .string v0] 46)) := (Below.refl _ _).alloc (Nat.le_refl _) _
        have hI3 := hI1.grown hA
        have y0 := hI3.c0
        have y3 := hI3.c3
        clear hI3 hA
        have HR := Lib.hid (And.intro hF1 hB)
        clear hI1 hF1 hB hb hI2 hF2 hR2 hT2 hB1 hB2
        go_wp2_with fail
        refine bodyPost_ret (results_row_tmp1 rfl _ _ (w.heap.size + 1) 46 #[.string n0, .string t] (0, 0) _ rfl (((HR.out.1.put0 n0).put1 t).grown ((Below.refl _ _).alloc (Nat.le_refl _) _)) Tryd.underlying46 rfl (by kernel_rfl)) rfl ⟨?_, ((HR.out.2.setCell (p := ⟨w.heap.size + 1, 0, none⟩) (Nat.le_succ _) _).setCell (p := ⟨w.heap.size + 1, 1, none⟩) (Nat.le_succ _) _).alloc (by simp; omega) _⟩
        rw [HX.out]; first | (rw [if_pos (And.intro HK.out trivial)]; rfl) | (rw [if_pos (And.intro HK.out rfl)]; rfl)
      · have d2 : (e0 == 0) = false := by simpa using he
        have HE := Lib.hid he
        clear he
        go_enter Tryd.func42, Tryd.ntmps42
        go_wp2_with fail
        refine (bNamed_any R T base b m sz room i v lv fs _ hR2 hT2 ⟨hn0, hn1⟩).mono ?_
        rintro e w1 ⟨rfl, hb⟩
        rw [HS.out]
        have hI1 := hI2.grown hb
        have hF1 := hF2.grown hb
        have hB := hB2.trans (hb.mono (by simp; omega))
        have hN : w.heap.size + 1 < w1.heap.size := hF1.lt
        have u0 := hF1.c0
        have u1 := hF1.c1
        have uf0 : w1.frozen? ⟨w.heap.size + 1, 0, none⟩ = false := hF1.free
        have uf1 : w1.frozen? ⟨w.heap.size + 1, 1, none⟩ = false := hF1.free
        have hA : Below w1.heap.size w1 (w1.alloc (.cells #[.string n0, .string v0] 46)) := (Below.refl _ _).alloc (Nat.le_refl _) _
        have hI3 := hI1.grown hA
        have y0 := hI3.c0
        have y3 := hI3.c3
        clear hI3 hA
        have HR := Lib.hid (And.intro hF1 hB)
        clear hI1 hF1 hB hb hI2 hF2 hR2 hT2 hB1 hB2
        go_wp2_with fail
        refine bodyPost_ret (results_row_tmp1 rfl _ _ (w.heap.size + 1) 46 #[.string n0, .string v0] (0, 0) _ rfl (((HR.out.1.put0 n0).put1 v0).grown ((Below.refl _ _).alloc (Nat.le_refl _) _)) Tryd.underlying46 rfl (by kernel_rfl)) rfl ⟨?_, ((HR.out.2.setCell (p := ⟨w.heap.size + 1, 0, none⟩) (Nat.le_succ _) _).setCell (p := ⟨w.heap.size + 1, 1, none⟩) (Nat.le_succ _) _).alloc (by simp; omega) _⟩
        rw [HX.out, if_neg (fun x => HE.out x.2)]; rfl
end Go.Proofs.YtenapfpkegoonaaDoor

/-
  Layer 9: tell: a field comes to the list, if there is room.
-/
namespace Go.Proofs.YtenapfpkegoonaaDoor
set_option maxRecDepth 20000
open Go.RowKit

theorem tellL_fit {limit : Int} {out : List Fd} (h : (sumF out : Int) ≤ limit) : tellL limit out = out := if_pos h
theorem tellL_over {limit : Int} {out : List Fd} (h : ¬ (sumF out : Int) ≤ limit) : tellL limit out = [] := if_neg h
theorem sumF_snoc (out : List Fd) (f : Fd) : sumF (out ++ [f]) = sumF out + szF f := by rw [sumF_append, sumF_one]
set_option maxHeartbeats 2000000 in
theorem tell_any (b limit : Int) (base : Nat) (W0 : World) (T : Nat) (v0 : Value) (R : Nat) (sz most : Int) (fs out : List Fd) (f : Fd) (w : World) (h : RdP b limit base W0 T v0 R sz most fs out w) (hR0 : W0.heap.size ≤ R) (hf0 : szF f ≤ 131104) (hlim : limit ≤ 9223372036854775807) (hl : out.length ≤ 1000000) :
    Calls Tryd.prog 44 #[.pointer (some ⟨R, 0, none⟩), .agg #[.string f.1, .string f.2]] w fun e w' => e = .returned (.tuple #[]) ∧ RdP b limit base W0 T v0 R sz most fs (out ++ [f]) w' ∧ Kt w w' := by
  obtain ⟨v, lv, room, hR, hT, hL, hroom, hap0, hfr, hmv⟩ := h
  have hA : Below w.heap.size w (w.alloc (.cells #[.string f.1, .string f.2] 46)) := (Below.refl _ _).alloc (Nat.le_refl _) _
  have hA' : Below (w.alloc (.cells #[.string f.1, .string f.2] 46)).heap.size (w.alloc (.cells #[.string f.1, .string f.2] 46)) (w.alloc (.cells #[.string f.1, .string f.2] 46)) := Below.refl _ _
  have hRA := hR.below hA
  have hFA := FldAt.new w f.1 f.2
  by_cases hfit : (sumF out : Int) ≤ limit
  · rw [roomIs, if_pos hfit] at hroom
    rw [tellL_fit hfit] at hL
    have hsm : small f := by unfold szF at hf0; unfold small; omega
    obtain ⟨S, hS⟩ : ∃ S : Nat, S = szF f := ⟨_, rfl⟩
    have HSA := Lib.hid (size_any f hsm)
    rw [← hS] at HSA hf0
    have HS := Lib.hid hS
    have HRM := Lib.hid hroom
    have hr0 : 0 ≤ room := by omega
    have hr1 : room ≤ 9223372036854775807 := by omega
    have d0 : decide (room < 0) = false := decide_eq_false (by omega)
    have HFit := Lib.hid hfit
    have hBN : lv.ownBlock ≠ some w.heap.size := fun e => by have := (hL.lt _ e).2; omega
    have HBN := Lib.hid hBN
    clear hS hsm hfit hroom hBN
    go_enter Tryd.func44, Tryd.ntmps44
    go_wp2_with fail
    refine (cut_any R T sz room lv _ hRA).mono ?_
    rintro e w1 ⟨rfl, rfl⟩
    rw [d0]
    go_wp2_with fail
    refine wp_region_table 9 [6, 7, 8, 9, 10, 11, 12, 13, 14] [[], [(0, 6)], [(1, 7)], [(2, 8)], [], [(4, 10)], [(3, 9), (5, 11)], [(0, 6)], [(7, 13)]]
      (fun i u w' => match i with
        | 0 => u = .pointer (some ⟨R, 0, none⟩)
        | 1 => u = .pointer (some ⟨R, 0, none⟩)
        | 2 => u = .pointer (some ⟨R, 3, none⟩)
        | 3 => u = .int .i64 room
        | 4 => u = .agg #[.string f.1, .string f.2]
        | 5 => u = .int .i64 (S : Nat)
        | 6 => u = .int .i64 (room - (S : Nat))
        | 7 => u = .pointer (some ⟨R, 0, none⟩)
        | 8 => u = .pointer (some ⟨R, 3, none⟩)
        | _ => True) (by kernel_rfl) (by kernel_rfl) ?tStab ?tOps ?tRest
    case tStab =>
      intro i u w3 w4 h hb
      match i, h with
      | 0, h | 1, h | 2, h | 3, h | 4, h | 5, h | 6, h | 7, h | 8, h => exact h
      | i + 9, _ => trivial
    case tOps =>
      simp only [List.take_succ_cons, List.take_zero, opsOk]
      refine ⟨?_, ?_, ?_, ?_, ?_, ?_, ?_, ?_, ?_, trivial⟩
      · intro ρ w3 hc hf ho hB hj
        have x0 : ρ (.tmp 0) = .pointer (some ⟨R, 0, none⟩) := ho 0 (by decide)
        simp [gives, go_sem, x0, Below.refl]
      · intro ρ w3 hc hf ho hB hj
        have x0 : ρ (.tmp 6) = .pointer (some ⟨R, 0, none⟩) := hj (0, 6) (by simp)
        simp [gives, go_sem, x0, Below.refl]
      · intro ρ w3 hc hf ho hB hj
        have x0 : ρ (.tmp 7) = .pointer (some ⟨R, 0, none⟩) := hj (1, 7) (by simp)
        simp [gives, go_sem, x0, Below.refl]
      · intro ρ w3 hc hf ho hB hj
        have x0 : ρ (.tmp 8) = .pointer (some ⟨R, 3, none⟩) := hj (2, 8) (by simp)
        have cc := (hRA.below hB).c3
        simp [gives, go_sem, x0, cc, Below.refl]
      · intro ρ w3 hc hf ho hB hj
        have x0 : ρ (.tmp 3) = .pointer (some ⟨w.heap.size, 0, none⟩) := ho 3 (by decide)
        have cd := (hFA.grown hB).c0
        have ce := (hFA.grown hB).c1
        simp [gives, go_sem, x0, cd, ce, Below.refl]
      · intro ρ w3 hc hf ho hB hj
        have x0 : ρ (.tmp 10) = .agg #[.string f.1, .string f.2] := hj (4, 10) (by simp)
        simp [gives, go_sem, x0, hf]
        refine (HSA.out _).mono ?_
        rintro e w4 ⟨rfl, hb⟩
        exact ⟨_, rfl, rfl, hb⟩
      · intro ρ w3 hc hf ho hB hj
        have x0 : ρ (.tmp 9) = .int .i64 room := hj (3, 9) (by simp)
        have x1 : ρ (.tmp 11) = .int .i64 (S : Nat) := hj (5, 11) (by simp)
        have hw : IntKind.i64.wrap (room - (S : Nat)) = room - (S : Nat) := IntWalk.i64_in _ (by omega)
        simp [gives, go_sem, x0, x1, hw, Below.refl]
      · intro ρ w3 hc hf ho hB hj
        have x0 : ρ (.tmp 6) = .pointer (some ⟨R, 0, none⟩) := hj (0, 6) (by simp)
        simp [gives, go_sem, x0, Below.refl]
      · intro ρ w3 hc hf ho hB hj
        have x0 : ρ (.tmp 13) = .pointer (some ⟨R, 0, none⟩) := hj (7, 13) (by simp)
        simp [gives, go_sem, x0, Below.refl]
    case tRest =>
      intro X w3 hB hX
      have x0 : X 0 = .pointer (some ⟨R, 0, none⟩) := hX 0 (by decide)
      have x1 : X 1 = .pointer (some ⟨R, 0, none⟩) := hX 1 (by decide)
      have x2 : X 2 = .pointer (some ⟨R, 3, none⟩) := hX 2 (by decide)
      have x3 : X 3 = .int .i64 room := hX 3 (by decide)
      have x4 : X 4 = .agg #[.string f.1, .string f.2] := hX 4 (by decide)
      have x5 : X 5 = .int .i64 (S : Nat) := hX 5 (by decide)
      have x6 : X 6 = .int .i64 (room - (S : Nat)) := hX 6 (by decide)
      have x7 : X 7 = .pointer (some ⟨R, 0, none⟩) := hX 7 (by decide)
      have x8 : X 8 = .pointer (some ⟨R, 3, none⟩) := hX 8 (by decide)
      simp only [putAll, List.getD_cons_zero, List.getD_cons_succ, Act.put, List.setIfInBounds_toArray, List.set_cons_zero, List.set_cons_succ, List.drop_succ_cons, List.drop_zero]
      rw [x0, x1, x2, x3, x4, x5, x6, x7, x8]
      clear x0 x1 x2 x3 x4 x5 x6 x7 x8 hX
      have hRw := (hR.below hA).below hB
      have hFw := hFA.grown hB
      have hBw := hA.trans (hB.mono (by simp))
      have c3 := hRw.c3
      have f3 : w3.frozen? ⟨R, 3, none⟩ = false := hRw.free
      obtain ⟨w4, hw4⟩ : ∃ w4, w4 = w3.setCell ⟨R, 3, none⟩ (.int .i64 (room - (S : Nat))) := ⟨_, rfl⟩
      have hR4 : RdAt w4 R T sz lv (room - (S : Nat)) := by rw [hw4]; exact hRw.s3 _
      have hNR : w.heap.size ≠ R := by have := hR.lt; omega
      have hF4 : FldAt w4 w.heap.size f.1 f.2 := by rw [hw4]; exact (Below.heap_setCell _ _ _ _ (by show w.heap.size ≠ R; exact hNR)).trans hFw
      have hK4 : Kt w w4 := by rw [hw4]; exact (Kt.of hBw).trans (Kt.set hRw 3 _)
      have hm4 : Mv T v0 W0 w4 := by rw [hw4]; exact (hmv.trans (Mv.of (v := v0) hBw) (fun g hg => .inl hg)).set_new hR0 _
      have hT4 : TabO w4 base T b most v fs.reverse := by
        rw [hw4]
        have := hT.below hBw
        exact this.of_blocks (Below.heap_setCell _ _ _ _ (fun e => hRw.ne this.2.1 e.symm)) (fun g hg => Below.heap_setCell _ _ _ _ (fun e => hRw.apart this.2.2 (by rw [hg]; exact congrArg some e)))
      have hr4 : RowF w4 W0.heap.size lv out := by
        rw [hw4]
        have := hL.below hBw
        exact this.of_block (fun g hg => Below.heap_setCell _ _ _ _ (fun e => hRw.apart this (by rw [hg]; exact congrArg some e)))
      have HW4 := Lib.hid hw4
      have HP := Lib.hid (And.intro hT4 (And.intro hap0 (And.intro hfr (And.intro hm4 hK4))))
      clear hT4 hap0 hfr hm4 hK4 hT hL hmv hRw hFw hBw hB hA hA' hFA hRA hR
      go_wp2_with fail
      rw [← HW4.out]
      clear hw4 c3 f3
      refine (cut_any R T sz (room - (S : Nat)) lv _ hR4).mono ?_
      rintro e w1 ⟨rfl, hw1⟩
      rw [hw1]
      clear hw1
      by_cases hneg : room - (S : Nat) < 0
      · rw [decide_eq_true hneg]
        have c2 := hR4.c2
        have f2 : w4.frozen? ⟨R, 2, none⟩ = false := hR4.free
        have HQ := Lib.hid (And.intro hneg (And.intro hR4 hr4))
        clear hneg hR4 hr4 hF4 HW4
        go_wp2_with fail
        refine bodyPost_ret (results_none rfl _ _ _) rfl ?_
        obtain ⟨hneg, hR4, hr4⟩ := HQ.out
        obtain ⟨hT4, hap0, hfr, hm4, hK4⟩ := HP.out
        have ho : ¬ (sumF (out ++ [f]) : Int) ≤ limit := by rw [sumF_snoc, ← HS.out]; have := HRM.out; push_cast; omega
        refine ⟨rfl, ⟨v, .slice none 0 0, room - (S : Nat), hR4.s2 _, ?_, ?_, ?_, fun g hg => (by cases hg), hfr, hm4.set_new hR0 _⟩, hK4.trans (Kt.set hR4 2 _)⟩
        · exact hT4.of_blocks (Below.heap_setCell _ _ _ _ (fun e => hR4.ne hT4.2.1 e.symm)) (fun g hg => Below.heap_setCell _ _ _ _ (fun e => hR4.apart hT4.2.2 (by rw [hg]; exact congrArg some e)))
        · rw [tellL_over ho]; exact RowF.nil _ _
        · rw [roomIs, if_neg ho]; exact hneg
      · rw [decide_eq_false hneg]
        have hap : lv.ownBlock ≠ some R := hR4.apart hr4
        have hRlt := hR4.lt
        have hBlt := hF4.lt
        have hN4 : ∀ g, lv.ownBlock = some g → g < w4.heap.size := fun g hg => (hr4.lt g hg).2
        have hBn : lv.ownBlock ≠ some w.heap.size := HBN.out
        have hW0 : W0.heap.size ≤ w4.heap.size := by omega
        clear HW4
        go_wp2_with fail
        refine Moved.wp_region 10 [20, 21, 22, 23, 24, 25, 26, 27, 28, 29] [[], [], [(1, 21)], [(2, 22)], [(3, 23)], [], [(5, 25)], [(4, 24), (6, 26)], [(0, 20)], [(8, 28)]] []
          (fun i u w' => match i with
            | 0 => u = .pointer (some ⟨R, 0, none⟩)
            | 1 => u = .pointer (some ⟨R, 0, none⟩)
            | 2 => u = .pointer (some ⟨R, 0, none⟩)
            | 3 => u = .pointer (some ⟨R, 2, none⟩)
            | 4 => u = lv
            | 5 => u = .agg #[.string f.1, .string f.2]
            | 6 => ∃ C, u = .slice (some ⟨C, 0, none⟩) 1 1 ∧ w4.heap.size ≤ C ∧ FldAt w' C f.1 f.2
            | 7 => RowF w' W0.heap.size u (out ++ [f]) ∧ From w4 lv u
            | 8 => u = .pointer (some ⟨R, 0, none⟩)
            | 9 => u = .pointer (some ⟨R, 2, none⟩)
            | _ => True) 7 (fun w' => w4.grownBy w' lv.ownBlock) (fun w' w'' => w'.grownBy w'' lv.ownBlock) (by kernel_rfl) (by kernel_rfl) ?tWay ?tOps ?tLate ?tRest
        case tWay =>
          refine ⟨fun w1 h => grown_of h, fun w1 w2 h hb => h.trans (grown_of hb), fun w1 w2 h hb => (grown_of h).trans hb, ?_, ?_⟩
          · intro i u w5 w6 h hb
            match i, h with
            | 0, h | 1, h | 2, h | 3, h | 4, h | 5, h | 8, h | 9, h => exact h
            | 6, ⟨C, e, hle, hh⟩ => exact ⟨C, e, hle, hh.grown hb⟩
            | 7, h => exact ⟨h.1.below hb, h.2⟩
            | i + 10, _ => trivial
          · intro i u w5 w6 hi h hb hg
            match i, h, hi with
            | 0, h, _ | 1, h, _ | 2, h, _ | 3, h, _ | 4, h, _ | 5, h, _ | 8, h, _ | 9, h, _ => exact h
            | 6, ⟨C, e, hle, hh⟩, _ => exact ⟨C, e, hle, (hg.block C hh.lt (fun e => by have := hN4 C e.symm; omega)).trans hh⟩
            | 7, _, hi => exact absurd rfl hi
            | i + 10, _, _ => trivial
        case tLate => intro i hi; cases hi
        case tOps =>
          simp only [List.take_succ_cons, List.take_zero, Moved.opsOk, Nat.zero_add, Nat.reduceAdd, Nat.reduceEqDiff, reduceCtorEq, reduceIte]
          refine ⟨?_, ?_, ?_, ?_, ?_, ?_, ?_, ?_, ?_, ?_, trivial⟩
          · intro ρ w5 hc hff ho hB2 hj
            have x0 : ρ (.tmp 0) = .pointer (some ⟨R, 0, none⟩) := ho 0 (by decide)
            simp [gives, go_sem, x0, Moved.Grow, Below.refl]
          · intro ρ w5 hc hff ho hB2 hj
            have x0 : ρ (.tmp 0) = .pointer (some ⟨R, 0, none⟩) := ho 0 (by decide)
            simp [gives, go_sem, x0, Moved.Grow, Below.refl]
          · intro ρ w5 hc hff ho hB2 hj
            have x0 : ρ (.tmp 21) = .pointer (some ⟨R, 0, none⟩) := hj (1, 21) (by simp)
            simp [gives, go_sem, x0, Moved.Grow, Below.refl]
          · intro ρ w5 hc hff ho hB2 hj
            have x0 : ρ (.tmp 22) = .pointer (some ⟨R, 0, none⟩) := hj (2, 22) (by simp)
            simp [gives, go_sem, x0, Moved.Grow, Below.refl]
          · intro ρ w5 hc hff ho hB2 hj
            have x0 : ρ (.tmp 23) = .pointer (some ⟨R, 2, none⟩) := hj (3, 23) (by simp)
            have cc := (hR4.of_block (hB2.block _ hRlt (fun e => hap e.symm))).c2
            simp [gives, go_sem, x0, cc, Moved.Grow, Below.refl]
          · intro ρ w5 hc hff ho hB2 hj
            have x0 : ρ (.tmp 3) = .pointer (some ⟨w.heap.size, 0, none⟩) := ho 3 (by decide)
            have hF5 : FldAt w5 w.heap.size f.1 f.2 := (hB2.block _ hBlt (fun e => hBn e.symm)).trans hF4
            have cc := hF5.c0
            have cd := hF5.c1
            simp [gives, go_sem, x0, cc, cd, Moved.Grow, Below.refl]
          · intro ρ w5 hc hff ho hB2 hj
            have x0 : ρ (.tmp 25) = .agg #[.string f.1, .string f.2] := hj (5, 25) (by simp)
            simp [gives, go_sem, x0, Moved.Grow]
            exact ⟨⟨hB2.size, FldAt.new w5 _ _⟩, (Below.refl _ _).alloc (Nat.le_refl _) _⟩
          · intro ρ w5 hc hff ho hB2 hj
            have x0 : ρ (.tmp 24) = lv := hj (4, 24) (by simp)
            obtain ⟨C, x1, hCle, hFC⟩ := hj (6, 26) (by simp)
            dsimp only at x1
            refine gives_app_at (.tmp 24) (.tmp 26) 33 rfl W0.heap.size 46 _ 2 32 sliceFld sizeFld rfl (by decide) lv out.length (fcs out) x0 (hr4.below hB2) ⟨C, 0, none⟩ 1 1 (fcs [f]) x1 (fcs_length _) (fcs_one_at w5 C f hFC) (fcs_oneCell _) (by unfold maxLen; omega) (by omega) (by have := hB2.size; omega) ?_
            intro v' w6 hown hg hfr
            refine ⟨⟨?_, fun g hg => (hfr g hg).imp_right (fun h => by have := hB2.size; omega)⟩, hg⟩
            unfold RowF
            rw [List.length_append, List.length_singleton, fcs_append]
            exact hown
          · intro ρ w5 hc hff ho hB2 hj
            have x0 : ρ (.tmp 20) = .pointer (some ⟨R, 0, none⟩) := hj (0, 20) (by simp)
            simp [gives, go_sem, x0, Moved.Grow, Below.refl]
          · intro ρ w5 hc hff ho hB2 hj
            have x0 : ρ (.tmp 28) = .pointer (some ⟨R, 0, none⟩) := hj (8, 28) (by simp)
            simp [gives, go_sem, x0, Moved.Grow, Below.refl]
        case tRest =>
          intro x5 w5 hG hx5
          have y0 : x5 0 = .pointer (some ⟨R, 0, none⟩) := hx5 0 (by decide)
          have y1 : x5 1 = .pointer (some ⟨R, 0, none⟩) := hx5 1 (by decide)
          have y2 : x5 2 = .pointer (some ⟨R, 0, none⟩) := hx5 2 (by decide)
          have y3 : x5 3 = .pointer (some ⟨R, 2, none⟩) := hx5 3 (by decide)
          have y4 : x5 4 = lv := hx5 4 (by decide)
          have y5 : x5 5 = .agg #[.string f.1, .string f.2] := hx5 5 (by decide)
          obtain ⟨C, y6, _, _⟩ := hx5 6 (by decide)
          obtain ⟨hr5, hfr5⟩ := hx5 7 (by decide)
          have y8 : x5 8 = .pointer (some ⟨R, 0, none⟩) := hx5 8 (by decide)
          have y9 : x5 9 = .pointer (some ⟨R, 2, none⟩) := hx5 9 (by decide)
          obtain ⟨v', hv'⟩ : ∃ v', x5 7 = v' := ⟨_, rfl⟩
          simp only [putAll, List.getD_cons_zero, List.getD_cons_succ, Act.put, List.setIfInBounds_toArray, List.set_cons_zero, List.set_cons_succ, List.drop_succ_cons, List.drop_zero]
          rw [hv'] at hr5 hfr5
          rw [y0, y1, y2, y3, y4, y5, y6, y8, y9, hv']
          clear hx5 y0 y1 y2 y3 y4 y5 y6 y8 y9 hv'
          obtain ⟨N', hN'⟩ : ∃ N', N' = (out ++ [f]).length := ⟨_, rfl⟩
          obtain ⟨a', c', e5⟩ := hr5.shape
          rw [← hN'] at e5
          subst e5
          clear hN'
          have hR5 := hR4.of_block (hG.block _ hRlt (fun e => hap e.symm))
          have c2 := hR5.c2
          have f2 : w5.frozen? ⟨R, 2, none⟩ = false := hR5.free
          have hR6 := hR5.s2 (.slice a' N' c')
          have hap5 := hR5.apart hr5
          have hT5 : TabO w5 base T b most v fs.reverse := HP.out.1.of_blocks (hG.block _ HP.out.1.2.1.lt (fun e => HP.out.1.2.1.apart hr4 e.symm)) (fun g hg => hG.block g (HP.out.1.2.2.lt g hg).2 (fun e => HP.out.2.1 g e.symm hg))
          have hT6 : TabO (w5.setCell ⟨R, 2, none⟩ (.slice a' N' c')) base T b most v fs.reverse := hT5.of_blocks (Below.heap_setCell _ _ _ _ (fun e => hR5.ne hT5.2.1 e.symm)) (fun g hg => Below.heap_setCell _ _ _ _ (fun e => hR5.apart hT5.2.2 (by rw [hg]; exact congrArg some e)))
          have hr6 : RowF (w5.setCell ⟨R, 2, none⟩ (.slice a' N' c')) W0.heap.size (.slice a' N' c') (out ++ [f]) := hr5.of_block (fun g hg => Below.heap_setCell _ _ _ _ (fun e => hap5 (by rw [hg]; exact congrArg some e)))
          have hap6 : ∀ g, (Value.slice a' N' c').ownBlock = some g → v.ownBlock ≠ some g := fun g hg e => by
            rcases hfr5 g hg with h | h
            · exact HP.out.2.1 g h e
            · have := (HP.out.1.2.2.lt g e).2
              omega
          have hm6 : Mv T v0 W0 (w5.setCell ⟨R, 2, none⟩ (.slice a' N' c')) := by
            refine Mv.set_new ?_ hR0 _
            have hm4 := HP.out.2.2.2.1
            exact ⟨hG.os.trans hm4.os, hG.tape.trans hm4.tape, hG.output.trans hm4.output, Nat.le_trans hm4.size hG.size, fun k hk h1 h2 => (hG.block k (by have := hm4.size; omega) (fun e => by have := (hr4.lt k e.symm).1; omega)).trans (hm4.block k hk h1 h2)⟩
          have hK6 : Kt w (w5.setCell ⟨R, 2, none⟩ (.slice a' N' c')) := (HP.out.2.2.2.2.trans (Kt.grown hr4 hG)).trans (Kt.set hR5 2 _)
          have HE := Lib.hid (And.intro hR6 (And.intro hT6 (And.intro hr6 (And.intro hap6 (And.intro hm6 hK6)))))
          have HN := Lib.hid hneg
          clear hR5 hR6 hT5 hT6 hr6 hap6 hm6 hK6 hr5 hfr5 hG hap5 hneg hR4 hr4 hF4
          go_wp2
          refine Calm.intro ?_
          go_wp2_with fail
          go_end0
          obtain ⟨hR6, hT6, hr6, hap6, hm6, hK6⟩ := HE.out
          have ho : (sumF (out ++ [f]) : Int) ≤ limit := by rw [sumF_snoc, ← HS.out]; have := HRM.out; have := HN.out; push_cast; omega
          refine ⟨rfl, ⟨v, .slice a' N' c', room - (S : Nat), hR6, hT6, ?_, ?_, hap6, HP.out.2.2.1, hm6⟩, hK6⟩
          · rw [tellL_fit ho]; exact hr6
          · rw [roomIs, if_pos ho, sumF_snoc, ← HS.out, HRM.out]; push_cast; omega
  · rw [roomIs, if_neg hfit] at hroom
    rw [tellL_over hfit] at hL
    have d0 : decide (room < 0) = true := decide_eq_true hroom
    have ho : ¬ (sumF (out ++ [f]) : Int) ≤ limit := by rw [sumF_snoc]; push_cast; omega
    have hE : RdP b limit base W0 T v0 R sz most fs (out ++ [f]) (w.alloc (.cells #[.string f.1, .string f.2] 46)) := by
      refine ⟨v, lv, room, hRA, hT.below hA, ?_, ?_, hap0, hfr, hmv.trans (Mv.of (v := v0) hA) (fun g hg => .inl hg)⟩
      · rw [tellL_over ho]; exact hL.below hA
      · rw [roomIs, if_neg ho]; exact hroom
    have HE := Lib.hid (And.intro hE (Kt.of hA))
    clear hE ho hroom hfit hL hT hap0 hfr hmv hFA hA' hA
    go_enter Tryd.func44, Tryd.ntmps44
    go_wp2_with fail
    refine (cut_any R T sz room lv _ hRA).mono ?_
    rintro e w1 ⟨rfl, rfl⟩
    rw [d0]
    go_wp2_with fail
    refine bodyPost_ret (results_none rfl _ _ _) rfl ?_
    exact ⟨rfl, HE.out⟩
end Go.Proofs.YtenapfpkegoonaaDoor

/-
  Layer 9: resize, read.
-/
namespace Go.Proofs.YtenapfpkegoonaaDoor
set_option maxRecDepth 20000
open Go.RowKit

theorem leftS_range {b : Int} {r : Rs} (h : r.Ok b) : 0 ≤ leftS r ∧ leftS r ≤ 2 := by
  have := h.s2
  unfold leftS
  split <;> omega
theorem leftS_zero {b : Int} {r : Rs} (h : r.Ok b) : leftS r = 0 ↔ ¬ (r.out = [] ∧ r.s < 2) := by
  have := h.s2
  unfold leftS
  by_cases h0 : r.out = []
  · rw [if_pos h0]
    constructor
    · rintro h1 ⟨_, h2⟩; omega
    · intro h1
      have : ¬ r.s < 2 := fun h2 => h1 ⟨h0, h2⟩
      omega
  · rw [if_neg h0]
    exact ⟨fun _ h1 => h0 h1.1, fun _ => rfl⟩
theorem fit_back (n : Int) (fs : List Fd) : shrinkF n fs.reverse = (fitF n fs).reverse := by
  have := shrink_fit n fs.reverse
  rw [List.reverse_reverse] at this
  rw [← this, List.reverse_reverse]
theorem add_back (n : Int) (fs : List Fd) (f : Fd) : addF n fs.reverse f = (fitF n (f :: fs)).reverse := by
  have := add_fit n fs.reverse f
  rw [List.reverse_reverse] at this
  rw [← this, List.reverse_reverse]
set_option maxHeartbeats 1000000 in
theorem resize_any (b limit : Int) (base : Nat) (W0 : World) (T : Nat) (v0 : Value) (R : Nat) (r : Rs) (n : Int) (hok : r.Ok b) (hb : b ≤ 4096) (w : World) (h : RdS b limit base W0 T v0 R r w) (hR0 : W0.heap.size ≤ R) :
    Calls Tryd.prog 41 #[.pointer (some ⟨R, 0, none⟩), .int .i64 n] w fun e w' => Kt w w' ∧
      (((r.out = [] ∧ r.s < 2 ∧ 0 ≤ n ∧ n ≤ b) ∧ e = .returned (.bool true) ∧ RdS b limit base W0 T v0 R ⟨r.s + 1, n, fitF n r.fs, r.out⟩ w') ∨ (¬ (r.out = [] ∧ r.s < 2 ∧ 0 ≤ n ∧ n ≤ b) ∧ e = .returned (.bool false) ∧ TbS b base W0 T v0 r w')) := by
  have HT := Lib.hid h.tb
  obtain ⟨v, lv, room, hR, hT, hL, hroom, hap0, hfr, hmv⟩ := h
  obtain ⟨z, hz⟩ : ∃ z, z = leftS r := ⟨_, rfl⟩
  have hrg := leftS_range hok
  have hz0 := leftS_zero hok
  rw [← hz] at hR hrg hz0
  have c1 := hR.c1
  by_cases h0 : z = 0
  · have d0 : (z == 0) = true := by simpa using h0
    have HN := Lib.hid (hz0.1 h0)
    clear h0 hz hz0 hR hT hL hroom hap0 hfr hmv hok
    go_enter Tryd.func41, Tryd.ntmps41
    go_wp2_with fail
    go_ret
    exact ⟨Kt.refl _, .inr ⟨fun x => HN.out ⟨x.1, x.2.1⟩, rfl, HT.out⟩⟩
  · have d0 : (z == 0) = false := by simpa using h0
    have HN := Lib.hid (show r.out = [] ∧ r.s < 2 from Classical.byContradiction fun x => h0 (hz0.2 x))
    have f1 : w.frozen? ⟨R, 1, none⟩ = false := hR.free
    have hw : IntKind.i64.wrap (z - 1) = z - 1 := IntWalk.i64_in _ (by omega)
    obtain ⟨w1, hw1⟩ : ∃ w1, w1 = w.setCell ⟨R, 1, none⟩ (.int .i64 (z - 1)) := ⟨_, rfl⟩
    have hR1 : RdAt w1 R T (z - 1) lv room := by rw [hw1]; exact hR.s1 _
    have hT1 : TabO w1 base T b r.most v r.fs.reverse := by
      rw [hw1]; exact hT.of_blocks (Below.heap_setCell _ _ _ _ (fun e => hR.ne hT.2.1 e.symm)) (fun g hg => Below.heap_setCell _ _ _ _ (fun e => hR.apart hT.2.2 (by rw [hg]; exact congrArg some e)))
    have hL1 : RowF w1 W0.heap.size lv (tellL limit r.out) := by
      rw [hw1]; exact hL.of_block (fun g hg => Below.heap_setCell _ _ _ _ (fun e => hR.apart hL (by rw [hg]; exact congrArg some e)))
    have hm1 : Mv T v0 W0 w1 := by rw [hw1]; exact hmv.set_new hR0 _
    have hK1 : Kt w w1 := by rw [hw1]; exact Kt.set hR 1 _
    have g0 := hR1.c0
    have hsum : sumF r.fs.reverse ≤ 1000000000 := by have := hok.sum; have := hok.mb; rw [sumF_reverse]; omega
    have HP := Lib.hid (And.intro hR1 (And.intro hT1 (And.intro hL1 (And.intro hroom (And.intro hap0 (And.intro hfr (And.intro hm1 hK1)))))))
    have HZ := Lib.hid hz
    have HW := Lib.hid hw1
    rw [hw1] at g0
    clear h0 hz hz0 hR hT hL hroom hap0 hfr hmv hok hR1 hT1 hL1 hm1 hK1 hw1
    go_enter Tryd.func41, Tryd.ntmps41
    go_wp2_with fail
    rw [← HW.out]
    by_cases hn : 0 ≤ n ∧ n ≤ b
    · refine (tset_any T base b r.most n v r.fs.reverse w1 HP.out.2.1 hn hsum).mono ?_
      rintro e w2 ⟨rfl, v', hT2, hf2, hm2⟩
      obtain ⟨hR1, hT1, hL1, hroom, hap0, hfr, hm1, hK1⟩ := HP.out
      obtain ⟨hR2, hL2, hap2, hfr2, hm02⟩ := rd_moved hR1 hT1 hL1 hap0 hfr hm1 hf2 hm2
      rw [fit_back] at hT2
      have hS : RdS b limit base W0 T v0 R ⟨r.s + 1, n, fitF n r.fs, r.out⟩ w2 := by
        refine ⟨v', lv, room, ?_, hT2, hL2, hroom, hap2, hfr2, hm02⟩
        have e : leftS ⟨r.s + 1, n, fitF n r.fs, r.out⟩ = z - 1 := by
          rw [HZ.out, leftS, leftS, if_pos HN.out.1, if_pos HN.out.1]; push_cast; omega
        rw [e]
        exact hR2
      have HE := Lib.hid (And.intro (hK1.trans (Kt.mv hT1 hm2)) (And.intro hn hS))
      clear hR1 hT1 hL1 hroom hap0 hfr hm1 hK1 hR2 hL2 hap2 hfr2 hm02 hS hT2 hf2 hm2 g0 hn
      go_wp2_with fail
      go_ret
      exact ⟨HE.out.1, .inl ⟨⟨HN.out.1, HN.out.2, HE.out.2.1⟩, rfl, HE.out.2.2⟩⟩
    · refine (tset_no T base b r.most n v r.fs.reverse w1 HP.out.2.1 hn).mono ?_
      rintro e w2 ⟨rfl, hw2⟩
      rw [hw2]
      have HE := Lib.hid hn
      clear hw2 g0 hn
      go_wp2_with fail
      go_ret
      obtain ⟨hR1, hT1, hL1, hroom, hap0, hfr, hm1, hK1⟩ := HP.out
      exact ⟨hK1, .inr ⟨fun x => HE.out x.2.2, rfl, v, hT1, hfr, hm1⟩⟩
theorem fieldT_cases {fs : List Fd} {d : DecO} : (∃ f, fieldF fs d = some f ∧ optT (fieldF fs d) = .tuple #[.agg #[.string f.1, .string f.2], .int .i64 0]) ∨ (fieldF fs d = none ∧ optT (fieldF fs d) = .tuple #[.agg #[.string ⟨#[]⟩, .string ⟨#[]⟩], .int .i64 5]) := by
  cases fieldF fs d with
  | none => exact .inr ⟨rfl, rfl⟩
  | some f => exact .inl ⟨f, rfl, rfl⟩
/-- the parts, with no sizes any more -/
theorem RdP.stop {b limit : Int} {base : Nat} {W0 : World} {T : Nat} {v0 : Value} {R : Nat} {sz most : Int} {fs out : List Fd} {w : World} (h : RdP b limit base W0 T v0 R sz most fs out w) (hR0 : W0.heap.size ≤ R) (x : Int) :
    w.frozen? ⟨R, 1, none⟩ = false ∧ w.cell? ⟨R, 1, none⟩ = some (.int .i64 sz) ∧ RdP b limit base W0 T v0 R x most fs out (w.setCell ⟨R, 1, none⟩ (.int .i64 x)) ∧ Kt w (w.setCell ⟨R, 1, none⟩ (.int .i64 x)) := by
  obtain ⟨v, lv, room, hR, hT, hL, hroom, hap0, hfr, hmv⟩ := h
  exact ⟨hR.free, hR.c1, ⟨v, lv, room, hR.s1 _, hT.of_blocks (Below.heap_setCell _ _ _ _ (fun e => hR.ne hT.2.1 e.symm)) (fun g hg => Below.heap_setCell _ _ _ _ (fun e => hR.apart hT.2.2 (by rw [hg]; exact congrArg some e))),
    hL.of_block (fun g hg => Below.heap_setCell _ _ _ _ (fun e => hR.apart hL (by rw [hg]; exact congrArg some e))), hroom, hap0, hfr, hmv.set_new hR0 _⟩, Kt.set hR 1 _⟩
set_option maxHeartbeats 2000000 in
theorem read_any (b limit : Int) (base : Nat) (W0 : World) (T : Nat) (v0 : Value) (R : Nat) (r : Rs) (d : DecO) (hd : DOk d) (hok : r.Ok b) (hb : b ≤ 4096) (hR0 : W0.heap.size ≤ R) (hlim : limit ≤ 9223372036854775807) (hlen : r.out.length ≤ 1000000) (hbase : base ≤ W0.heap.size) (w : World) (h : RdS b limit base W0 T v0 R r w) :
    Calls Tryd.prog 22 #[.pointer (some ⟨R, 0, none⟩), itV d.k d.n (strOfNums d.a) (strOfNums d.b)] w fun e w' => Kt w w' ∧
      ((∃ r', stepI b r d = some r' ∧ e = .returned (.bool true) ∧ RdS b limit base W0 T v0 R r' w') ∨ (stepI b r d = none ∧ e = .returned (.bool false) ∧ TbS b base W0 T v0 r w')) := by
  have HD := Lib.hid hd
  have hsum : sumF r.fs.reverse ≤ 1000000000 := by have := hok.sum; have := hok.mb; rw [sumF_reverse]; omega
  have hm : 0 ≤ r.most ∧ r.most ≤ 1000000000 := ⟨hok.m0, by have := hok.mb; omega⟩
  have HSM := Lib.hid (fun f (hf : fieldF r.fs d = some f) => field_small hf hd (by have := hok.sum; have := hok.mb; omega))
  obtain ⟨k, hk⟩ : ∃ k, k = d.k := ⟨_, rfl⟩
  obtain ⟨i, hi⟩ : ∃ i, i = d.n := ⟨_, rfl⟩
  obtain ⟨s, hs⟩ : ∃ s, s = strOfNums d.a := ⟨_, rfl⟩
  obtain ⟨t, ht⟩ : ∃ t, t = strOfNums d.b := ⟨_, rfl⟩
  rw [← hk, ← hi, ← hs, ← ht]
  have HK := Lib.hid hk
  have HI := Lib.hid hi
  have HV := Lib.hid (show itV k i s t = itV d.k d.n (strOfNums d.a) (strOfNums d.b) by rw [hk, hi, hs, ht])
  clear hk hi hs ht hd
  dsimp only [itV]
  have hA : Below w.heap.size w (w.alloc (.cells #[.int .i64 k, .int .i64 i, .string s, .string t] 65)) := (Below.refl _ _).alloc (Nat.le_refl _) _
  have hIA : ItAt (w.alloc (.cells #[.int .i64 k, .int .i64 i, .string s, .string t] 65)) w.heap.size 65 k i s t := heap_alloc_new _ _
  have hA1 : RdS b limit base W0 T v0 R r (w.alloc (.cells #[.int .i64 k, .int .i64 i, .string s, .string t] 65)) := h.grows hA
  by_cases h4 : k = 4
  · have d0 : (k == 4) = true := by simpa using h4
    have H4 := Lib.hid h4
    have HA := Lib.hid hA
    clear h4 hA h hIA HSM hsum hm
    go_enter Tryd.func22, Tryd.ntmps22
    go_wp2_with fail
    refine (resize_any b limit base W0 T v0 R r i hok hb _ hA1 hR0).mono ?_
    rintro e w1 ⟨hK1, ⟨hc, rfl, hS⟩ | ⟨hc, rfl, hS⟩⟩
    · have HE := Lib.hid (And.intro hK1 (And.intro hc hS))
      clear hK1 hc hS hA1
      go_wp2_with fail
      go_ret
      refine ⟨(Kt.of HA.out).trans HE.out.1, .inl ⟨_, ?_, rfl, HE.out.2.2⟩⟩
      rw [stepI, if_pos (HK.out.symm.trans H4.out), ← HI.out, if_pos HE.out.2.1]
    · have HE := Lib.hid (And.intro hK1 (And.intro hc hS))
      clear hK1 hc hS hA1
      go_wp2_with fail
      go_ret
      refine ⟨(Kt.of HA.out).trans HE.out.1, .inr ⟨?_, rfl, HE.out.2.2⟩⟩
      rw [stepI, if_pos (HK.out.symm.trans H4.out), ← HI.out, if_neg HE.out.2.1]
  · have d0 : (k == 4) = false := by simpa using h4
    have H4 := Lib.hid h4
    obtain ⟨f1, c1, hP2, hK2⟩ := RdP.stop hA1 hR0 0
    obtain ⟨w2, hw2⟩ : ∃ w2, w2 = (w.alloc (.cells #[.int .i64 k, .int .i64 i, .string s, .string t] 65)).setCell ⟨R, 1, none⟩ (.int .i64 0) := ⟨_, rfl⟩
    have hNR : w.heap.size ≠ R := by
      obtain ⟨v, lv, room, hR, _⟩ := h
      have := hR.lt
      omega
    have hI2 : ItAt w2 w.heap.size 65 k i s t := by rw [hw2]; exact (Below.heap_setCell _ _ _ _ (by show w.heap.size ≠ R; exact hNR)).trans hIA
    have y0 := hI2.c0
    have y1 := hI2.c1
    have y2 := hI2.c2
    have y3 := hI2.c3
    rw [hw2] at y0 y1 y2 y3
    rw [← hw2] at hP2 hK2
    have HW := Lib.hid hw2
    have HA := Lib.hid hA
    have HI2 := Lib.hid hI2
    clear h4 hA hw2 hI2 hIA hA1
    go_enter Tryd.func22, Tryd.ntmps22
    go_wp2_with fail
    rw [← HW.out]
    clear y0 y1 y2 y3 f1 c1
    obtain ⟨v, lv, room, hR2, hT2, hx⟩ := id hP2
    have hfa := bField_any R T base b r.most 0 room v lv r.fs d HD.out w2 hR2 hT2
    rw [← HV.out] at hfa
    refine hfa.mono ?_
    clear hfa
    rintro e w3 ⟨rfl, hb3⟩
    have HB3 := Lib.hid hb3
    rcases fieldT_cases (fs := r.fs) (d := d) with ⟨f, hf, hv⟩ | ⟨hf, hv⟩
    · rw [hv]
      have hfs := HSM.out f hf
      have HF := Lib.hid hf
      have hsm : small f := by unfold szF at hfs; unfold small; omega
      have hI3 := HI2.out.grown hb3
      have hB4 : Below w3.heap.size w3 (w3.alloc (.cells #[.string f.1, .string f.2] 46)) := (Below.refl _ _).alloc (Nat.le_refl _) _
      have hI4 := hI3.grown hB4
      have z0 := hI4.c0
      have hP4 := (hP2.grows hb3).grows hB4
      obtain ⟨w4, hw4⟩ : ∃ w4, w4 = w3.alloc (.cells #[.string f.1, .string f.2] 46) := ⟨_, rfl⟩
      have hF4 : FldAt w4 w3.heap.size f.1 f.2 := by rw [hw4]; exact FldAt.new w3 f.1 f.2
      rw [← hw4] at hP4 hB4
      have HK4 := Lib.hid (((Kt.of HA.out).trans hK2).trans ((Kt.of HB3.out).trans (Kt.of hB4)))
      have HW4 := Lib.hid hw4
      have h34 : w3.heap.size ≤ w4.heap.size := hB4.size
      have h03 : W0.heap.size ≤ w3.heap.size := by
        obtain ⟨_, _, _, _, _, _, _, _, _, h7⟩ := hP2
        exact Nat.le_trans h7.size hb3.size
      have HP3 := Lib.hid (And.intro (hP2.grows hb3) hB4)
      clear hI3 hI4 hB4 hw4 hb3 hP2 hK2 hR2 hT2 hx hf hv HI2
      by_cases h1 : k = 1
      · have d1 : (k == 1) = true := by simpa using h1
        have H1 := Lib.hid h1
        clear h1
        go_wp2_with fail
        rw [← HW4.out]
        clear z0
        obtain ⟨⟨v, lv, room, hR3, hT3, hL3, hroom, hap0, hfr, hmv3⟩, hB4⟩ := HP3.out
        have hv4 : v.ownBlock ≠ some w3.heap.size := fun e => by have := (hT3.2.2.lt _ e).2; omega
        have hR4 := hR3.below hB4
        have hT4 := hT3.below hB4
        have hL4 := hL3.below hB4
        have hmv := hmv3.trans (Mv.of (v := v0) hB4) (fun g hg => .inl hg)
        clear hR3 hT3 hL3 hmv3 hB4 hP4
        have hbase4 : base ≤ w4.heap.size := by omega
        have hRlt := hR4.lt
        have hT4n : w3.heap.size ≠ T := fun e => by
          have h := hT4.2.1
          rw [TabAt, ← e, hF4] at h
          injection h with h
          injection h with _ e2 _
          exact absurd e2 (by decide)
        refine Moved.wp_region 6 [28, 29, 30, 31, 32, 33] [[], [(0, 28)], [(1, 29)], [(2, 30)], [], [(3, 31), (4, 32)]] []
          (fun i u w' => match i with
            | 0 => u = .pointer (some ⟨R, 0, none⟩)
            | 1 => u = .pointer (some ⟨R, 0, none⟩)
            | 2 => u = .pointer (some ⟨R, 0, none⟩)
            | 3 => u = .pointer (some ⟨T, 0, none⟩)
            | 4 => u = .agg #[.string f.1, .string f.2]
            | 5 => u = .int .i64 0 ∧ ∃ v', TabO w' base T b r.most v' (addF r.most r.fs.reverse f) ∧ From w4 v v'
            | _ => True) 5 (fun w' => Mv T v w4 w') (fun w' w'' => Mv T v w' w'') (by kernel_rfl) (by kernel_rfl) ?tWay ?tOps ?tLate ?tRest
        case tWay =>
          refine ⟨fun w1 h => Mv.of h, fun w1 w2 h hb => h.trans (Mv.of (v := v) hb) (fun g hg => .inl hg), fun w1 w2 h hb => (Mv.of (v := v) h).trans hb (fun g hg => .inl hg), ?_, ?_⟩
          · intro i u w5 w6 h hb
            match i, h with
            | 0, h | 1, h | 2, h | 3, h | 4, h => exact h
            | 5, ⟨e, v', h1, h2⟩ => exact ⟨e, v', h1.below hb, h2⟩
            | i + 6, _ => trivial
          · intro i u w5 w6 hi h hb hg
            match i, h, hi with
            | 0, h, _ | 1, h, _ | 2, h, _ | 3, h, _ | 4, h, _ => exact h
            | 5, _, hi => exact absurd rfl hi
            | i + 6, _, _ => trivial
        case tLate => intro i hi; cases hi
        case tOps =>
          simp only [List.take_succ_cons, List.take_zero, Moved.opsOk, Nat.zero_add, Nat.reduceAdd, Nat.reduceEqDiff, reduceCtorEq, reduceIte]
          refine ⟨?_, ?_, ?_, ?_, ?_, ?_, trivial⟩
          · intro ρ w5 hc hff ho hB2 hj
            have x0 : ρ (.tmp 0) = .pointer (some ⟨R, 0, none⟩) := ho 0 (by decide)
            simp [gives, go_sem, x0, Moved.Grow, Below.refl]
          · intro ρ w5 hc hff ho hB2 hj
            have x0 : ρ (.tmp 28) = .pointer (some ⟨R, 0, none⟩) := hj (0, 28) (by simp)
            simp [gives, go_sem, x0, Moved.Grow, Below.refl]
          · intro ρ w5 hc hff ho hB2 hj
            have x0 : ρ (.tmp 29) = .pointer (some ⟨R, 0, none⟩) := hj (1, 29) (by simp)
            simp [gives, go_sem, x0, Moved.Grow, Below.refl]
          · intro ρ w5 hc hff ho hB2 hj
            have x0 : ρ (.tmp 30) = .pointer (some ⟨R, 0, none⟩) := hj (2, 30) (by simp)
            have cc := (hR4.of_block (hB2.block _ hRlt (hR4.ne hT4.2.1) (hR4.apart hT4.2.2))).c0
            simp [gives, go_sem, x0, cc, Moved.Grow, Below.refl]
          · intro ρ w5 hc hff ho hB2 hj
            have x0 : ρ (.tmp 5) = .pointer (some ⟨w3.heap.size, 0, none⟩) := ho 5 (by decide)
            have hF5 : FldAt w5 w3.heap.size f.1 f.2 := (hB2.block _ hF4.lt hT4n hv4).trans hF4
            have cc := hF5.c0
            have cd := hF5.c1
            simp [gives, go_sem, x0, cc, cd, Moved.Grow, Below.refl]
          · intro ρ w5 hc hff ho hB2 hj
            have x0 : ρ (.tmp 31) = .pointer (some ⟨T, 0, none⟩) := hj (3, 31) (by simp)
            have x1 : ρ (.tmp 32) = .agg #[.string f.1, .string f.2] := hj (4, 32) (by simp)
            simp [gives, go_sem, x0, x1, hff]
            refine (tadd_any T base b r.most v r.fs.reverse f w5 (hT4.below hB2) hsm hm hsum (Nat.le_trans hbase4 hB2.size)).mono ?_
            rintro e w6 ⟨rfl, v', h1, h2, h3⟩
            exact ⟨_, rfl, ⟨rfl, v', h1, fun g hg => (h2 g hg).imp_right (fun h => Nat.le_trans hB2.size h)⟩, h3⟩
        case tRest =>
          intro x5 w5 hG hx5
          have y0 : x5 0 = .pointer (some ⟨R, 0, none⟩) := hx5 0 (by decide)
          have y1 : x5 1 = .pointer (some ⟨R, 0, none⟩) := hx5 1 (by decide)
          have y2 : x5 2 = .pointer (some ⟨R, 0, none⟩) := hx5 2 (by decide)
          have y3 : x5 3 = .pointer (some ⟨T, 0, none⟩) := hx5 3 (by decide)
          have y4 : x5 4 = .agg #[.string f.1, .string f.2] := hx5 4 (by decide)
          obtain ⟨y5, v', hT5, hf5⟩ := hx5 5 (by decide)
          simp only [putAll, List.getD_cons_zero, List.getD_cons_succ, Act.put, List.setIfInBounds_toArray, List.set_cons_zero, List.set_cons_succ, List.drop_succ_cons, List.drop_zero]
          rw [y0, y1, y2, y3, y4, y5]
          clear hx5 y0 y1 y2 y3 y4 y5
          rw [add_back] at hT5
          have hF5 : FldAt w5 w3.heap.size f.1 f.2 := (hG.block _ hF4.lt hT4n hv4).trans hF4
          have c0 := hF5.c0
          have c1 := hF5.c1
          obtain ⟨hR5, hL5, hap5, hfr5, hm5⟩ := rd_moved hR4 hT4 hL4 hap0 hfr hmv hf5 hG
          have hP5 : RdP b limit base W0 T v0 R 0 r.most (fitF r.most (f :: r.fs)) r.out w5 := ⟨v', lv, room, hR5, hT5, hL5, hroom, hap5, hfr5, hm5⟩
          have HK5 := Lib.hid (HK4.out.trans (Kt.mv hT4 hG))
          clear hR5 hL5 hap5 hfr5 hm5 hT5 hf5 hG hR4 hT4 hL4 hap0 hfr hmv hroom hF5 hF4
          go_wp2
          refine Calm.intro ?_
          go_wp2_with fail
          refine (tell_any b limit base W0 T v0 R 0 r.most (fitF r.most (f :: r.fs)) r.out f w5 hP5 hR0 hfs hlim hlen).mono ?_
          rintro e w6 ⟨rfl, hP6, hK6⟩
          have HE := Lib.hid (And.intro hP6 (HK5.out.trans hK6))
          clear hP6 hK6 hP5 c0 c1
          go_wp2_with fail
          go_ret
          refine ⟨HE.out.2, .inl ⟨⟨r.s, r.most, fitF r.most (f :: r.fs), r.out ++ [f]⟩, ?_, rfl, ?_⟩⟩
          · rw [stepI, if_neg (fun x => H4.out (HK.out.trans x)), HF.out, Option.map_some, if_pos (HK.out.symm.trans H1.out)]
          · have e : leftS ⟨r.s, r.most, fitF r.most (f :: r.fs), r.out ++ [f]⟩ = 0 := by rw [leftS, if_neg (by simp)]
            rw [RdS, e]
            exact HE.out.1
      · have d1 : (k == 1) = false := by simpa using h1
        have H1 := Lib.hid h1
        clear h1
        have u0 := hF4.c0
        have u1 := hF4.c1
        rw [HW4.out] at u0 u1
        go_wp2_with fail
        rw [← HW4.out]
        clear z0 u0 u1
        refine (tell_any b limit base W0 T v0 R 0 r.most r.fs r.out f w4 hP4 hR0 hfs hlim hlen).mono ?_
        rintro e w6 ⟨rfl, hP6, hK6⟩
        have HE := Lib.hid (And.intro hP6 (HK4.out.trans hK6))
        clear hP6 hK6 hP4
        go_wp2_with fail
        go_ret
        refine ⟨HE.out.2, .inl ⟨⟨r.s, r.most, r.fs, r.out ++ [f]⟩, ?_, rfl, ?_⟩⟩
        · rw [stepI, if_neg (fun x => H4.out (HK.out.trans x)), HF.out, Option.map_some, if_neg (fun x => H1.out (HK.out.trans x))]
        · have e : leftS ⟨r.s, r.most, r.fs, r.out ++ [f]⟩ = 0 := by rw [leftS, if_neg (by simp)]
          rw [RdS, e]
          exact HE.out.1
    · rw [hv]
      have HF := Lib.hid hf
      have HE := Lib.hid (And.intro ((((Kt.of HA.out).trans hK2).trans (Kt.of hb3)).trans (Kt.of ((Below.refl w3.heap.size w3).alloc (Nat.le_refl _) (.cells #[.string ⟨#[]⟩, .string ⟨#[]⟩] 46)))) ((RdP.tb (r := r) (hP2.grows hb3)).grows ((Below.refl w3.heap.size w3).alloc (Nat.le_refl _) (.cells #[.string ⟨#[]⟩, .string ⟨#[]⟩] 46))))
      clear hb3 hP2 hK2 hR2 hT2 hx hf hv HI2
      go_wp2_with fail
      go_ret
      refine ⟨HE.out.1, .inr ⟨?_, rfl, HE.out.2⟩⟩
      rw [stepI, if_neg (fun x => H4.out (HK.out.trans x)), HF.out, Option.map_none]
end Go.Proofs.YtenapfpkegoonaaDoor

/-
  Layer 9: items: what a block is gone through by.
-/
namespace Go.Proofs.YtenapfpkegoonaaDoor
set_option maxRecDepth 20000
open Go.RowKit
attribute [local go_sem] Oper.semAt_some

theorem items_any (v : Value) (w : World) (ao : Option Addr) (n c : Nat) (hv : v = .slice ao n c) :
    Calls Tryd.prog 21 #[v] w fun e w' => e = .returned (.func (.func 39) #[] #[.pointer (some ⟨w.heap.size, 0, none⟩)]) ∧ w' = w.alloc (.cells #[v] 30) := by
  subst hv
  go_enter Tryd.func21, Tryd.ntmps21
  go_wp2
  go_ret
  exact ⟨rfl, rfl⟩

/-- what a round may turn: not these blocks -/
def KeepK (K : Nat → Prop) (A B : World) : Prop := A.heap.size ≤ B.heap.size ∧ ∀ k, K k → B.heap[k]? = A.heap[k]?
theorem KeepK.refl (K : Nat → Prop) (A : World) : KeepK K A A := ⟨Nat.le_refl _, fun _ _ => rfl⟩
theorem KeepK.trans {K : Nat → Prop} {A B C : World} (h : KeepK K A B) (k : KeepK K B C) : KeepK K A C := ⟨Nat.le_trans h.1 k.1, fun g hg => (k.2 g hg).trans (h.2 g hg)⟩
/-- what the going through needs: the box, the bytes, the table of kinds -/
def NeedK (Bb : Nat) (v : Value) (k : Nat) : Prop := k = Bb ∨ k = 0 ∨ ∃ off q n c, 0 < n ∧ v = .slice (some ⟨k, off, q⟩) n c
structure Box (W : World) (Bb : Nat) (v : Value) (zs : List Int) : Prop where
  sl : Sl .u8 W v zs
  box : W.heap[Bb]? = some (.cells #[v] 30 (0, 0))
  sh : ShT W
theorem Box.keep {W W' : World} {Bb : Nat} {v : Value} {zs : List Int} (h : Box W Bb v zs) (hk : KeepK (NeedK Bb v) W W') : Box W' Bb v zs :=
  ⟨h.sl.kept hk.1 (fun g off q n c h0 e => hk.2 g (.inr (.inr ⟨off, q, n, c, h0, e⟩))), (hk.2 Bb (.inl rfl)).trans h.box, by
    obtain ⟨t, fr, hh⟩ := h.sh
    exact ⟨t, fr, (hk.2 _ (.inr (.inl rfl))).trans hh⟩⟩
theorem Box.below {W W' : World} {Bb : Nat} {v : Value} {zs : List Int} (h : Box W Bb v zs) (hb : Below W.heap.size W W') : Box W' Bb v zs :=
  ⟨h.sl.below hb, (hb.block _ (Array.getElem?_eq_some_iff.1 h.box).1).trans h.box, h.sh.below hb⟩
def encIt (d : DecO) : Array Value := #[itV d.k d.n (strOfNums d.a) (strOfNums d.b), .int .i64 d.e]
def NextIt (l : List DecO) (pre : List DecO) (d : DecO) (_ : World) : Prop := l[pre.length]? = some d
def AllIt (l : List DecO) (xs : List DecO) : Prop := xs = l
def SomeIt (l : List DecO) (xs : List DecO) : Prop := ∃ m, xs = l.take m

/-- where it stands: so many items have come, so many bytes are behind it -/
def Stand (zs : List Int) (p : Nat) (j : Nat) : Prop := p ≤ zs.length ∧ itemsOf zs = (itemsOf zs).take j ++ itemsOf (zs.drop p) ∧ j ≤ (itemsOf zs).length
theorem Stand.start (zs : List Int) : Stand zs 0 0 := ⟨Nat.zero_le _, by simp, Nat.zero_le _⟩
theorem Stand.next {zs : List Int} {p j : Nat} (h : Stand zs p j) (hf : Fit .u8 zs) (hlt : p < zs.length) : (itemsOf zs)[j]? = some (decI 65536 (zs.drop p)) ∧ j < (itemsOf zs).length ∧
    (itemsOf zs).take (j + 1) = (itemsOf zs).take j ++ [decI 65536 (zs.drop p)] ∧
    ((decI 65536 (zs.drop p)).e = 0 → 1 ≤ (decI 65536 (zs.drop p)).at_ ∧ (decI 65536 (zs.drop p)).at_ ≤ ((zs.length - p : Nat) : Int) ∧ Stand zs (p + (decI 65536 (zs.drop p)).at_.toNat) (j + 1)) ∧
    ((decI 65536 (zs.drop p)).e ≠ 0 → (itemsOf zs).take (j + 1) = itemsOf zs) := by
  obtain ⟨h1, h2, h3⟩ := h
  have hd : 0 < (zs.drop p).length := by rw [List.length_drop]; omega
  have hm := items_more (hf.drop p) hd
  have hl : ((itemsOf zs).take j).length = j := by rw [List.length_take]; omega
  have hu := decI_used (most := 65536) (hf.drop p)
  rw [List.length_drop] at hu
  obtain ⟨l, hl0⟩ : ∃ l, l = itemsOf zs := ⟨_, rfl⟩
  rw [← hl0] at h2 h3 hl ⊢
  obtain ⟨a, ha⟩ : ∃ a, a = l.take j := ⟨_, rfl⟩
  rw [← ha] at h2 hl ⊢
  by_cases he : (decI 65536 (zs.drop p)).e = 0
  · rw [if_neg (by simp [he])] at hm
    rw [hm] at h2
    have hu := hu he
    have e1 : l[j]? = some (decI 65536 (zs.drop p)) := by rw [h2, List.getElem?_append_right (by omega), hl]; simp
    have e2 : l.take (j + 1) = a ++ [decI 65536 (zs.drop p)] := by rw [List.take_add_one, ← ha, e1]; rfl
    have e3 : j < l.length := (List.getElem?_eq_some_iff.1 e1).1
    refine ⟨e1, e3, e2, fun _ => ⟨hu.1, hu.2, by omega, ?_, by rw [← hl0]; omega⟩, fun h => absurd he h⟩
    rw [← hl0, e2, ← List.drop_drop, List.append_assoc]
    exact h2
  · rw [if_pos he] at hm
    rw [hm] at h2
    have e1 : l[j]? = some (decI 65536 (zs.drop p)) := by rw [h2, List.getElem?_append_right (by omega), hl]; simp
    have e2 : l.take (j + 1) = a ++ [decI 65536 (zs.drop p)] := by rw [List.take_add_one, ← ha, e1]; rfl
    exact ⟨e1, (List.getElem?_eq_some_iff.1 e1).1, e2, fun h => absurd h he, fun _ => by rw [e2, ← h2]⟩
theorem Stand.over {zs : List Int} {p j : Nat} (h : Stand zs p j) (he : ¬ p < zs.length) : (itemsOf zs).take j = itemsOf zs := by
  obtain ⟨h1, h2, h3⟩ := h
  have : zs.drop p = [] := List.drop_of_length_le (by omega)
  rw [this, items_nil, List.append_nil] at h2
  exact h2.symm
theorem Box.need {W : World} {Bb : Nat} {v : Value} {zs : List Int} (h : Box W Bb v zs) {k : Nat} (hk : NeedK Bb v k) : k < W.heap.size := by
  rcases hk with rfl | rfl | ⟨off, q, n, c, h0, e⟩
  · exact (Array.getElem?_eq_some_iff.1 h.box).1
  · exact h.sh.lt
  · exact h.sl.lt k off q n c h0 e
theorem Box.grew {W W' : World} {Bb : Nat} {v : Value} {zs : List Int} (h : Box W Bb v zs) (hb : Below W.heap.size W W') : KeepK (NeedK Bb v) W W' := ⟨hb.size, fun k hk => hb.block k (h.need hk)⟩

set_option maxHeartbeats 1000000 in
theorem blk_iter (n l Bb : Nat) (v : Value) (zs : List Int) (J Jx : List DecO → World → Prop) (hJg : Grows J)
    (hY : ∀ pre d W1, J pre W1 → NextIt (itemsOf zs) pre d W1 → pre.length < (itemsOf zs).length → YieldAt Fence.wide (n - 1) Tryd.prog l (encIt d) W1 fun e W' =>
      (e = .returned (.bool true) ∧ J (pre ++ [d]) W' ∧ KeepK (NeedK Bb v) W1 W') ∨ (e = .returned (.bool false) ∧ Jx (pre ++ [d]) W'))
    (W : World) (hB : Box W Bb v zs) (hz : zs.length ≤ 1000000) (h0 : J [] W) :
    CallsIn Fence.wide n Tryd.prog 39 #[.func (.yield l) #[] #[], .pointer (some ⟨Bb, 0, none⟩)] W fun e W' => (∃ v, e = .returned v) ∧ ((∃ xs, AllIt (itemsOf zs) xs ∧ J xs W') ∨ ∃ pre, SomeIt (itemsOf zs) pre ∧ Jx pre W') := by
  have hfit := hB.sl.fit
  obtain ⟨a, cap, hav, _⟩ := id hB.sl
  subst hav
  refine callsIn_of_wp Tryd.func39 rfl trivial ?_ rfl
  simp only [Tryd.ntmps39, List.size_toArray, List.length_cons, List.length_nil, Nat.reduceAdd, Nat.reduceSub, Array.replicate_succ, Array.replicate_zero, List.push_toArray, List.append_toArray, List.nil_append, List.cons_append]
  gi_wp2
  gi_loopw [3] (fun i wr => ∃ p j : Nat, i = .int .i64 (p : Int) ∧ Stand zs p j ∧ J ((itemsOf zs).take j) wr ∧ KeepK (NeedK Bb (.slice a zs.length cap)) W wr)
    (fun i _ => zs.length - (intOf i).toNat)
  case atStart => exact ⟨0, 0, rfl, Stand.start zs, h0, KeepK.refl _ _⟩
  case round =>
    obtain ⟨p, j, rfl, hS, hJ, hk⟩ := hrel
    have hBr := hB.keep hk
    have cb := blk_cell (j := 0) hBr.box rfl
    have hpz := hS.1
    by_cases hlt : p < zs.length
    · obtain ⟨u, hu, hsu⟩ := Sl.from_ (P := Tryd.prog) (t := 30) Tryd.underlying30 (fun _ => by kernel_rfl) hBr.sl (p : Int) (by omega) (by omega)
      rw [Int.toNat_natCast] at hsu
      obtain ⟨hnx, hjl, htk, hok, hno⟩ := hS.next hfit hlt
      have hdl : (zs.drop p).length ≤ 1000000 := by rw [List.length_drop]; omega
      obtain ⟨D, hD⟩ : ∃ D, D = decI 65536 (zs.drop p) := ⟨_, rfl⟩
      have hdec := iDec_any u (zs.drop p) 65536 wr hsu hdl hBr.sh
      rw [← hD] at hnx htk hok hno hdec
      have HDEC := Lib.hid hdec
      have HS := Lib.hid (And.intro hnx (And.intro hjl (And.intro htk (And.intro hok hno))))
      have HJ := Lib.hid (And.intro hJ hk)
      have HB := Lib.hid hBr
      clear hdec hnx hjl htk hok hno hD hJ hk hBr hsu
      gi_wp2
      refine ⟨trivial, fun h => by simp [Fence.wide] at h, ?_⟩
      refine (callsIn_wide.2 HDEC.out).mono ?_
      rintro e w5 ⟨rfl, hb5⟩
      obtain ⟨k, m, x, y, u, c, hdv⟩ : ∃ k m x y u c, D = ⟨k, m, x, y, u, c⟩ := ⟨_, _, _, _, _, _, rfl⟩
      obtain ⟨s, hs⟩ : ∃ s, strOfNums x = s := ⟨_, rfl⟩
      obtain ⟨t, ht⟩ : ∃ t, strOfNums y = t := ⟨_, rfl⟩
      have hv5 : D.val = .tuple #[.agg #[.int .i64 k, .int .i64 m, .string s, .string t], .int .i64 u, .int .i64 c] := by rw [hdv, ← hs, ← ht]; rfl
      have hen : encIt D = #[.agg #[.int .i64 k, .int .i64 m, .string s, .string t], .int .i64 c] := by rw [hdv, ← hs, ← ht]; rfl
      rw [hv5]
      have hA5 : Below w5.heap.size w5 (w5.alloc (.cells #[.int .i64 k, .int .i64 m, .string s, .string t] 65)) := (Below.refl _ _).alloc (Nat.le_refl _) _
      have hbA := hb5.trans (hA5.mono hb5.size)
      have hk6 := HJ.out.2.trans (HB.out.grew hbA)
      have hll : ((itemsOf zs).take j).length = j := by rw [List.length_take]; have := HS.out.2.1; omega
      obtain ⟨fn, tmps, assign, body, hy, hR⟩ := hY _ D _ (hJg _ _ _ HJ.out.1 hbA) (show (itemsOf zs)[((itemsOf zs).take j).length]? = some D by rw [hll]; exact HS.out.1) (by rw [hll]; exact HS.out.2.1)
      rw [hen] at hy
      rw [← HS.out.2.2.1] at hR
      have HD := Lib.hid hdv
      have HK6 := Lib.hid hk6
      clear hv5 hen hA5 hbA hk6 hdv hb5
      by_cases he : c = 0
      · have d0 : (c != 0) = false := by simpa using he
        obtain ⟨o1, o2, o3⟩ : 1 ≤ u ∧ u ≤ ((zs.length - p : Nat) : Int) ∧ Stand zs (p + u.toNat) (j + 1) := by
          have := HS.out.2.2.2.1
          rw [HD.out] at this
          exact this he
        have hw : IntKind.i64.wrap ((p : Int) + u) = (p : Int) + u := IntWalk.i64_in _ (by omega)
        clear he
        gi_wp2
        refine ⟨fun h => by simp [Fence.wide] at h, ?_⟩
        refine hR.mono ?_
        rintro e W5 (⟨rfl, hJ5, hk5⟩ | ⟨rfl, hJx5⟩)
        · gi_wp2
          go_roundw
          case rel => exact ⟨p + u.toNat, j + 1, by congr 1; omega, o3, hJ5, HK6.out.trans hk5⟩
          case measure => simp [intOf]; omega
        · gi_wp2
          refine bodyPost_ret (results_none rfl _ _ _) rfl ?_
          exact ⟨⟨_, rfl⟩, .inr ⟨_, ⟨j + 1, rfl⟩, hJx5⟩⟩
      · have d0 : (c != 0) = true := by simpa using he
        have hend : (itemsOf zs).take (j + 1) = itemsOf zs := by
          have := HS.out.2.2.2.2
          rw [HD.out] at this
          exact this he
        have HEn := Lib.hid hend
        clear he hend
        gi_wp2
        refine ⟨fun h => by simp [Fence.wide] at h, ?_⟩
        refine hR.mono ?_
        rintro e W5 (⟨rfl, hJ5, hk5⟩ | ⟨rfl, hJx5⟩)
        · gi_wp2
          refine bodyPost_ret (results_none rfl _ _ _) rfl ?_
          exact ⟨⟨_, rfl⟩, .inl ⟨_, HEn.out, hJ5⟩⟩
        · gi_wp2
          refine bodyPost_ret (results_none rfl _ _ _) rfl ?_
          exact ⟨⟨_, rfl⟩, .inr ⟨_, ⟨j + 1, rfl⟩, hJx5⟩⟩
    · obtain rfl : p = zs.length := by omega
      have HO := Lib.hid (hS.over hlt)
      gi_wp2
      go_end0
      exact ⟨⟨_, rfl⟩, .inl ⟨_, HO.out, hJ⟩⟩
theorem blk_seq (n Bb : Nat) (v : Value) (zs : List Int) (w : World) (hB : Box w Bb v zs) (hz : zs.length ≤ 1000000) :
    SeqP Tryd.prog n 39 #[.pointer (some ⟨Bb, 0, none⟩)] encIt (NextIt (itemsOf zs)) (KeepK (NeedK Bb v)) (AllIt (itemsOf zs)) (SomeIt (itemsOf zs)) (itemsOf zs).length w := fun l J Jx W hW hJg _ hY h0 =>
  blk_iter n l Bb v zs J Jx hJg hY W (hB.keep (hB.grew hW)) hz h0
end Go.Proofs.YtenapfpkegoonaaDoor

/-
  Layer 9: Decode.
-/
namespace Go.Proofs.YtenapfpkegoonaaDoor
set_option maxRecDepth 20000
open Go.RowKit
attribute [local go_sem] Oper.semAt_some

/-- the decoder lies there -/
def DecAt (W : World) (D T : Nat) : Prop := W.heap[D]? = some (.cells #[.pointer (some ⟨T, 0, none⟩)] 57 (0, 0))
theorem DecAt.lt {W : World} {D T : Nat} (h : DecAt W D T) : D < W.heap.size := (Array.getElem?_eq_some_iff.1 h).1
theorem DecAt.c0 {W : World} {D T : Nat} (h : DecAt W D T) : W.cell? ⟨D, 0, none⟩ = some (.pointer (some ⟨T, 0, none⟩)) := blk_cell h rfl
theorem DecAt.below {W W' : World} {D T : Nat} (h : DecAt W D T) (hb : Below W.heap.size W W') : DecAt W' D T := (hb.block _ h.lt).trans h
theorem DecAt.moved {W W' : World} {D T T1 : Nat} {v : Value} {base : Nat} {b m : Int} {fs : List Fd} (h : DecAt W D T) (hT : TabO W base T1 b m v fs) (hm : Mv T1 v W W') : DecAt W' D T :=
  (hm.block _ h.lt (fun e => by
    have h2 := hT.2.1
    rw [TabAt, ← e, h] at h2
    injection h2 with h2
    injection h2 with _ e2 _
    exact absurd e2 (by decide)) (hT.2.2.apart h (fun cs fr e => by injection e with _ e2 _; exact absurd e2 (by decide)))).trans h

theorem keeps_kt {B : Nat} {W W' : World} (h : Kt W W') : KeepsFrom B W W' := ⟨h.size, fun k o _ hk ho => h.block k o hk (by
  rintro ⟨cs, fr, rfl | rfl | rfl⟩ <;> cases ho)⟩
/-- what the going through needs stays -/
theorem need_kept {W0 W W' : World} {T Bb : Nat} {v0 u : Value} {zs : List Int} (hm : Mv T v0 W0 W) (hm' : Mv T v0 W0 W') (hk : Kt W W') (hbox : W.heap[Bb]? = some (.cells #[u] 30 (0, 0)))
    (hsl : Sl .u8 W0 u zs) (hfar : Far T v0 u) (hsh : ShT W0) (h1 : 0 ≠ T) (h2 : v0.ownBlock ≠ some 0) : KeepK (NeedK Bb u) W W' := by
  refine ⟨hk.size, fun k hn => ?_⟩
  rcases hn with rfl | rfl | ⟨off, q, n, c, h0, e⟩
  · rw [hbox]
    refine hk.block _ _ hbox ?_
    rintro ⟨cs, fr, h | h | h⟩ <;> (injection h with _ e2 _; exact absurd e2 (by decide))
  · rw [hm.block _ hsh.lt h1 h2, hm'.block _ hsh.lt h1 h2]
  · obtain ⟨f1, f2⟩ := hfar k off q n c h0 e
    have hl := hsl.lt k off q n c h0 e
    rw [hm.block _ hl f1 f2, hm'.block _ hl f1 f2]
/-- how far it has come -/
structure DcAt (b limit : Int) (base : Nat) (w : World) (T : Nat) (v0 : Value) (R E Bb : Nat) (u : Value) (r0 : Rs) (pre : List DecO) (W : World) : Prop where
  ex : ∃ r, foldI b r0 pre = (r, true) ∧ r.Ok b ∧ r.out.length ≤ pre.length ∧ RdS b limit base w T v0 R r W
  err : W.heap[E]? = some (.cells #[.int .i64 0] 25 (0, 0))
  box : W.heap[Bb]? = some (.cells #[u] 30 (0, 0))
structure DcNo (b : Int) (base : Nat) (w : World) (T : Nat) (v0 : Value) (E : Nat) (r0 : Rs) (pre : List DecO) (W : World) : Prop where
  ex : ∃ r, foldI b r0 pre = (r, false) ∧ TbS b base w T v0 r W
  err : W.heap[E]? = some (.cells #[.int .i64 3] 25 (0, 0))
theorem DcAt.grows {b limit : Int} {base : Nat} {w : World} {T : Nat} {v0 : Value} {R E Bb : Nat} {u : Value} {r0 : Rs} : Grows (DcAt b limit base w T v0 R E Bb u r0) := by
  rintro pre A B ⟨⟨r, h1, h2, h3, h4⟩, h5, h6⟩ hb
  exact ⟨⟨r, h1, h2, h3, h4.grows hb⟩, (hb.block _ (Array.getElem?_eq_some_iff.1 h5).1).trans h5, (hb.block _ (Array.getElem?_eq_some_iff.1 h6).1).trans h6⟩
theorem DcNo.grows {b : Int} {base : Nat} {w : World} {T : Nat} {v0 : Value} {E : Nat} {r0 : Rs} : Grows (DcNo b base w T v0 E r0) := by
  rintro pre A B ⟨⟨r, h1, h2⟩, h5⟩ hb
  exact ⟨⟨r, h1, h2.grows hb⟩, (hb.block _ (Array.getElem?_eq_some_iff.1 h5).1).trans h5⟩
theorem DcAt.turns {b limit : Int} {base : Nat} {w : World} {T : Nat} {v0 : Value} {R E Bb : Nat} {u : Value} {r0 : Rs} {B : Nat} (hB : w.heap.size ≤ B) : Turns B (DcAt b limit base w T v0 R E Bb u r0) := by
  rintro pre A l o o' ⟨⟨r, h1, h2, h3, h4⟩, h5, h6⟩ hl hlo ho
  exact ⟨⟨r, h1, h2, h3, h4.turns (by omega) hlo ho⟩, (World.putObj_heap_other (not_cells hlo ho h5)).trans h5, (World.putObj_heap_other (not_cells hlo ho h6)).trans h6⟩
theorem DcNo.turns {b : Int} {base : Nat} {w : World} {T : Nat} {v0 : Value} {E : Nat} {r0 : Rs} {B : Nat} (hB : w.heap.size ≤ B) : Turns B (DcNo b base w T v0 E r0) := by
  rintro pre A l o o' ⟨⟨r, h1, h2⟩, h5⟩ hl hlo ho
  exact ⟨⟨r, h1, h2.turns (by omega) hlo ho⟩, (World.putObj_heap_other (not_cells hlo ho h5)).trans h5⟩

/-- the loop's own block is turned -/
theorem tb_put {W0 W : World} {base T : Nat} {b m : Int} {v v0 : Value} {fs : List Fd} {l : Nat} {o o' : Obj} (h2 : TabO W base T b m v fs) (h7 : Mv T v0 W0 W) (h0 : W0.heap.size ≤ l) (hl : W.heap[l]? = some o) (ho : o.isCells = false) : TabO (W.putObj l o') base T b m v fs ∧ Mv T v0 W0 (W.putObj l o') := by
  refine ⟨h2.of_blocks (World.putObj_heap_other (not_cells hl ho h2.2.1)) (fun g hg => ?_), h7.put h0⟩
  obtain ⟨cs, fr, hc⟩ := h2.2.2.block g hg
  exact World.putObj_heap_other (not_cells hl ho hc)
/-- the error is set: nothing else is -/
theorem TbS.set {b : Int} {base : Nat} {W0 : World} {T : Nat} {v0 : Value} {r : Rs} {W : World} {E : Nat} {cs : Array Value} (h : TbS b base W0 T v0 r W) (hE : W.heap[E]? = some (.cells cs 25 (0, 0))) (h0 : W0.heap.size ≤ E) (j : Nat) (x : Value) : TbS b base W0 T v0 r (W.setCell ⟨E, j, none⟩ x) := by
  obtain ⟨v, h2, h6, h7⟩ := h
  refine ⟨v, h2.of_blocks (Below.heap_setCell _ _ _ _ (fun e => ?_)) (fun g hg => Below.heap_setCell _ _ _ _ (fun e => h2.2.2.apart hE (fun cs fr e => by injection e with _ e2 _; exact absurd e2 (by decide)) (by rw [hg]; exact congrArg some e))), h6, h7.set_new h0 x⟩
  have h3 := h2.2.1
  rw [TabAt, show T = E from e, hE] at h3
  injection h3 with h3
  injection h3 with _ e2 _
  exact absurd e2 (by decide)
theorem SomeIt.over {b : Int} {l pre : List DecO} {r0 r : Rs} (h : SomeIt l pre) (hf : foldI b r0 pre = (r, false)) : foldI b r0 l = (r, false) := by
  obtain ⟨m, rfl⟩ := h
  rw [← List.take_append_drop m l]
  exact foldI_over hf

set_option maxHeartbeats 2000000 in
theorem bDec_any (D T base : Nat) (b m limit : Int) (v u : Value) (fs : List Fd) (zs : List Int) (w : World) (hD : DecAt w D T) (hT : TabO w base T b m v fs.reverse) (hs : Sl .u8 w u zs) (hz : zs.length ≤ 1000000) (hfar : Far T v u) (hsh : ShT w)
    (h1 : 0 ≠ T) (h2 : v.ownBlock ≠ some 0) (hb : b ≤ 4096) (hm : 0 ≤ m ∧ m ≤ b) (hsum : (sumF fs : Int) ≤ m) (hlim : limit ≤ 9223372036854775807) (hbase : base ≤ w.heap.size) :
    Calls Tryd.prog 10 #[.pointer (some ⟨D, 0, none⟩), u, .int .i64 limit] w fun e w' => ∃ lv, e = .returned (.tuple #[lv, .bool (tellC limit (readB b m fs zs)), .int .i64 (tellE (readB b m fs zs))]) ∧
      RowF w' w.heap.size lv (tellB limit (readB b m fs zs)) ∧ ∃ v', TabO w' base T b (readB b m fs zs).1.most v' (readB b m fs zs).1.fs.reverse ∧ From w v v' ∧ Mv T v w w' ∧ (∀ g, lv.ownBlock = some g → v'.ownBlock ≠ some g) := by
  have hfit := hs.fit
  obtain ⟨a, cap, hu, _⟩ := id hs
  subst hu
  have c0 := hD.c0
  obtain ⟨r0, hr0⟩ : ∃ r0 : Rs, r0 = ⟨0, m, fs, []⟩ := ⟨_, rfl⟩
  have hok0 : r0.Ok b := by rw [hr0]; exact ⟨Nat.zero_le _, hm.1, hm.2, hsum, fun f hf => by simp at hf⟩
  obtain ⟨X, hX⟩ : ∃ X, X = readB b m fs zs := ⟨_, rfl⟩
  have hX2 : X = foldI b r0 (itemsOf zs) := by rw [hX, hr0]; rfl
  rw [← hX]
  have HX := Lib.hid hX2
  clear hX hX2
  refine (callsIn_wide (n := 4)).1 ?_
  refine callsIn_of_wp_marks Tryd.func10 rfl trivial ?_ rfl
  simp only [Tryd.ntmps10, List.size_toArray, List.length_cons, List.length_nil, Nat.reduceAdd, Nat.reduceSub, Array.replicate_succ, Array.replicate_zero, List.push_toArray, List.append_toArray, List.nil_append, List.cons_append]
  refine wpIn_wide.2 ?_
  go_wp2_with fail
  go_step3
  go_wp2_with fail
  go_step3
  go_wp2_with fail
  refine (items_any _ _ a zs.length cap rfl).mono ?_
  rintro e w' ⟨rfl, rfl⟩
  go_wp2_with fail
  refine (wpIn_wide (n := 4)).1 ?_
  gi_wp2
  have k0 : (((w.alloc (.cells #[.pointer (some ⟨T, 0, none⟩), .int .i64 2, .slice none 0 0, .int .i64 limit] 60)).alloc (.cells #[.int .i64 0] 25)).alloc (.cells #[.slice a zs.length cap] 30)).heap[w.heap.size]? = some (.cells #[.pointer (some ⟨T, 0, none⟩), .int .i64 2, .slice none 0 0, .int .i64 limit] 60 (0, 0)) :=
    (Below.heap_alloc _ _ _ (by simp <;> omega)).trans ((Below.heap_alloc _ _ _ (by simp)).trans (heap_alloc_new _ _))
  have k1 : (((w.alloc (.cells #[.pointer (some ⟨T, 0, none⟩), .int .i64 2, .slice none 0 0, .int .i64 limit] 60)).alloc (.cells #[.int .i64 0] 25)).alloc (.cells #[.slice a zs.length cap] 30)).heap[w.heap.size + 1]? = some (.cells #[.int .i64 0] 25 (0, 0)) :=
    (Below.heap_alloc _ _ _ (by simp)).trans (heap_alloc2_new _ _ _)
  have k2 : (((w.alloc (.cells #[.pointer (some ⟨T, 0, none⟩), .int .i64 2, .slice none 0 0, .int .i64 limit] 60)).alloc (.cells #[.int .i64 0] 25)).alloc (.cells #[.slice a zs.length cap] 30)).heap[w.heap.size + 1 + 1]? = some (.cells #[.slice a zs.length cap] 30 (0, 0)) := by
    have := heap_alloc_new ((w.alloc (.cells #[.pointer (some ⟨T, 0, none⟩), .int .i64 2, .slice none 0 0, .int .i64 limit] 60)).alloc (.cells #[.int .i64 0] 25)) (.cells #[.slice a zs.length cap] 30)
    simpa using this
  have hB1 : Below w.heap.size w (((w.alloc (.cells #[.pointer (some ⟨T, 0, none⟩), .int .i64 2, .slice none 0 0, .int .i64 limit] 60)).alloc (.cells #[.int .i64 0] 25)).alloc (.cells #[.slice a zs.length cap] 30)) := (((Below.refl _ w).alloc (Nat.le_refl _) _).alloc (by simp) _).alloc (by simp <;> omega) _
  have hs1 : (((w.alloc (.cells #[.pointer (some ⟨T, 0, none⟩), .int .i64 2, .slice none 0 0, .int .i64 limit] 60)).alloc (.cells #[.int .i64 0] 25)).alloc (.cells #[.slice a zs.length cap] 30)).heap.size = w.heap.size + 3 := by simp
  obtain ⟨W1, hW1⟩ : ∃ W1, (((w.alloc (.cells #[.pointer (some ⟨T, 0, none⟩), .int .i64 2, .slice none 0 0, .int .i64 limit] 60)).alloc (.cells #[.int .i64 0] 25)).alloc (.cells #[.slice a zs.length cap] 30)) = W1 := ⟨_, rfl⟩
  rw [hW1] at k0 k1 k2 hB1 hs1 ⊢
  have HS := Lib.hid hs1
  clear hW1 hs1 c0
  have hT1 := hT.below hB1
  have hsl1 := hs.below hB1
  have hsh1 := hsh.below hB1
  have hBox : Box W1 (w.heap.size + 1 + 1) (.slice a zs.length cap) zs := ⟨hsl1, k2, hsh1⟩
  have hroom : roomIs limit [] limit := by
    rw [roomIs]
    split
    · simp [sumF]
    · rename_i h; simp only [sumF] at h; omega
  have hS1 : RdS b limit base w T v w.heap.size r0 W1 := by
    rw [hr0]
    refine ⟨v, .slice none 0 0, limit, k0, hT1, ?_, hroom, fun g hg => (by cases hg), From.refl _ _, Mv.of hB1⟩
    rw [show tellL limit [] = [] by rw [tellL]; split <;> rfl]
    exact RowF.nil _ _
  have hI1 : DcAt b limit base w T v w.heap.size (w.heap.size + 1) (w.heap.size + 1 + 1) (.slice a zs.length cap) r0 [] W1 := ⟨⟨r0, rfl, hok0, by rw [hr0]; exact Nat.le_refl _, hS1⟩, k1, k2⟩
  have hlen0 := items_length zs
  have HOK := Lib.hid (items_ok hfit)
  have HIN := Lib.hid (And.intro hT (And.intro hs (And.intro hfar (And.intro hsh (And.intro h1 h2)))))
  clear hS1 hroom hsh1 hsl1 hT1 k0 k1 k2 hT hs hfar hsh h1 h2 hD
  refine range_seqP (gf := 39) (lb := #[.pointer (some ⟨w.heap.size + 1 + 1, 0, none⟩)]) rfl (enters_of Tryd.func39 (by kernel_rfl) rfl)
    (blk_seq _ _ _ zs W1 hBox hz) (fun _ => rfl)
    (fun h k => h.trans k)
    (fun W l o o' hl hlo _ => ⟨by rw [World.putObj_size]; exact Nat.le_refl _, fun g hg => World.putObj_heap_other (by have := hBox.need hg; omega)⟩)
    (DcAt b limit base w T v w.heap.size (w.heap.size + 1) (w.heap.size + 1 + 1) (.slice a zs.length cap) r0)
    (fun c pre W => c = .exit 0 ∧ DcNo b base w T v (w.heap.size + 1) r0 pre W)
    (fun pre x a' W => (itemsOf zs)[pre.length]? = some x ∧ ∃ Bx, ItAt W Bx 65 x.k x.n (strOfNums x.a) (strOfNums x.b) ∧ a' = { tmps := #[.pointer (some ⟨D, 0, none⟩), .slice a zs.length cap, .int .i64 limit, undef, undef, undef, .slice none 0 0, .bool false, .int .i64 0, .pointer (some ⟨w.heap.size, 0, none⟩), .pointer (some ⟨w.heap.size + 1, 0, none⟩), .pointer (some ⟨Bx, 0, none⟩), .int .i64 x.e, .pointer (some ⟨D, 0, none⟩), .bool false, .pointer (some ⟨D, 0, none⟩), .pointer (some ⟨D, 0, none⟩), .pointer (some ⟨D, 0, none⟩), .pointer (some ⟨T, 0, none⟩), .int .i64 limit, .agg #[.pointer (some ⟨T, 0, none⟩), .int .i64 2, .slice none 0 0, .int .i64 limit], .slice a zs.length cap, .func (.func 39) #[] #[.pointer (some ⟨w.heap.size + 1 + 1, 0, none⟩)], .agg #[.int .i64 x.k, .int .i64 x.n, .string (strOfNums x.a), .string (strOfNums x.b)], .int .i64 x.e, undef, undef, undef, undef, undef, undef, undef, undef, undef, undef, undef, undef, undef], defers := [] })
    DcAt.grows (DcAt.turns (by have := HS.out; omega))
    (by rintro c s A W ⟨hc, h⟩ hg; exact ⟨hc, DcNo.grows _ _ _ h hg⟩)
    (by rintro c s A l o o' ⟨hc, h⟩ hl hlo ho; exact ⟨hc, DcNo.turns (by have := HS.out; omega) _ _ _ _ _ h hl hlo ho⟩)
    ?tTurn hI1 ?tAssign ?tBody ?tDone ?tStop
  case tTurn =>
    rintro pre x a' _ A l o o' ⟨h0, Bx, h2, h3⟩ hl hlo ho
    exact ⟨h0, Bx, (World.putObj_heap_other (not_cells hlo ho h2)).trans h2, h3⟩
  case tAssign =>
    rintro l pre x W K hI hY hK
    dsimp only [encIt, itV]
    have hA : Below W.heap.size W (W.alloc (.cells #[.int .i64 x.k, .int .i64 x.n, .string (strOfNums x.a), .string (strOfNums x.b)] 65)) := (Below.refl _ _).alloc (Nat.le_refl _) _
    have hIA : ItAt (W.alloc (.cells #[.int .i64 x.k, .int .i64 x.n, .string (strOfNums x.a), .string (strOfNums x.b)] 65)) W.heap.size 65 x.k x.n (strOfNums x.a) (strOfNums x.b) := heap_alloc_new _ _
    have hIg := DcAt.grows _ _ _ hI hA
    have hkp : KeepK (NeedK (w.heap.size + 1 + 1) (.slice a zs.length cap)) W (W.alloc (.cells #[.int .i64 x.k, .int .i64 x.n, .string (strOfNums x.a), .string (strOfNums x.b)] 65)) := by
      obtain ⟨⟨r, _, _, _, hr⟩, _, hbx⟩ := hI
      obtain ⟨⟨r', _, _, _, hr'⟩, _, _⟩ := hIg
      obtain ⟨_, _, _, _, _, _, _, _, _, hm1⟩ := hr
      obtain ⟨_, _, _, _, _, _, _, _, _, hm2⟩ := hr'
      exact need_kept hm1 hm2 (Kt.of hA) hbx HIN.out.2.1 HIN.out.2.2.1 HIN.out.2.2.2.1 HIN.out.2.2.2.2.1 HIN.out.2.2.2.2.2
    have HK := Lib.hid (And.intro hkp (And.intro hIg (And.intro hIA hA)))
    clear hkp hIg hIA hA
    gi_wp2
    exact hK _ _ (keeps_below HK.out.2.2.2) HK.out.1 HK.out.2.1 ⟨hY, _, HK.out.2.2.1, rfl⟩
  case tBody =>
    rintro l pre x a' W hI ⟨hx, Bx, hit, rfl⟩ hlen
    obtain ⟨⟨r, hf, hok, hol, hS⟩, herr, hbx⟩ := hI
    have hpl : pre.length ≤ 1000000 := by omega
    have hxm : x ∈ itemsOf zs := List.mem_of_getElem? hx
    have y0 := hit.c0
    have y1 := hit.c1
    have y2 := hit.c2
    have y3 := hit.c3
    by_cases he : x.e = 0
    · have d0 : (x.e != 0) = false := by simpa using he
      have hdk := HOK.out x hxm he
      have hrd := read_any b limit base w T v w.heap.size r x hdk hok hb (Nat.le_refl _) hlim (by omega) hbase W hS
      have HRD := Lib.hid hrd
      have HI := Lib.hid (And.intro hf (And.intro hok (And.intro hol (And.intro hS (And.intro herr (And.intro hbx (And.intro hdk he)))))))
      clear hrd hf hok hol hS herr hbx hdk he hx hit
      gi_wp2
      refine ⟨trivial, ?_⟩
      refine (CallsIn.inRound l (callsIn_wide.2 HRD.out)).mono ?_
      obtain ⟨hf, hok, hol, hS, herr, hbx, hdk, he⟩ := HI.out
      have hm1 : Mv T v w W := by
        obtain ⟨_, _, _, _, _, _, _, _, _, hm1⟩ := hS
        exact hm1
      have nS : ∀ (x : Value), ¬ Soft (.cells #[x] 25 (0, 0)) := by
        rintro x ⟨cs, fr, h | h | h⟩ <;> (injection h with _ e2 _; exact absurd e2 (by decide))
      have nB : ∀ (x : Value), ¬ Soft (.cells #[x] 30 (0, 0)) := by
        rintro x ⟨cs, fr, h | h | h⟩ <;> (injection h with _ e2 _; exact absurd e2 (by decide))
      have HN := Lib.hid (And.intro nS nB)
      have HI2 := Lib.hid (And.intro hf (And.intro hok (And.intro hol (And.intro herr (And.intro hbx (And.intro hdk (And.intro he hm1)))))))
      clear HI HRD hf hok hol hS herr hbx hdk he hm1 nS nB
      rintro e W2 ⟨hK2, ⟨r', hst, rfl, hS2⟩ | ⟨hst, rfl, hS2⟩⟩
      · have HE := Lib.hid (And.intro hK2 (And.intro hst hS2))
        clear hK2 hst hS2
        gi_wp2
        obtain ⟨hK2, hst, hS2⟩ := HE.out
        obtain ⟨hf, hok, hol, herr, hbx, hdk, he, hm1⟩ := HI2.out
        have hm2 : Mv T v w W2 := by
          obtain ⟨_, _, _, _, _, _, _, _, _, hm2⟩ := hS2
          exact hm2
        refine ⟨keeps_kt hK2, need_kept hm1 hm2 hK2 hbx HIN.out.2.1 HIN.out.2.2.1 HIN.out.2.2.2.1 HIN.out.2.2.2.2.1 HIN.out.2.2.2.2.2, ⟨r', ?_, step_ok hst hok hb hdk, ?_, hS2⟩, hK2.block _ _ herr (HN.out.1 _), hK2.block _ _ hbx (HN.out.2 _)⟩
        · rw [foldI_one hf, if_neg (by simp [he]), hst]
        · have := step_len hst
          rw [List.length_append, List.length_singleton]
          omega
      · have herr2 := hK2.block _ _ HI2.out.2.2.2.1 (HN.out.1 _)
        have c1 := blk_cell (j := 0) herr2 rfl
        have f1 := blk_free (j := 0) herr2
        have HE := Lib.hid (And.intro hK2 (And.intro hst (And.intro hS2 herr2)))
        clear hK2 hst hS2 herr2
        gi_wp2
        obtain ⟨hK2, hst, hS2, herr2⟩ := HE.out
        obtain ⟨hf, hok, hol, herr, hbx, hdk, he, hm1⟩ := HI2.out
        refine ⟨(keeps_kt hK2).trans (set_keeps _ _ _ _), rfl, ⟨r, ?_, hS2.set herr2 (by omega) 0 _⟩, heap_setCell_same _ _ 0 _ _ _ herr2⟩
        rw [foldI_one hf, if_neg (by simp [he]), hst]
    · have d0 : (x.e != 0) = true := by simpa using he
      have c1 := blk_cell (j := 0) herr rfl
      have f1 := blk_free (j := 0) herr
      have HI := Lib.hid (And.intro hf (And.intro hS (And.intro herr he)))
      clear hf hok hol hS herr hbx he hx hit
      gi_wp2
      refine ⟨trivial, ?_⟩
      gi_wp2
      obtain ⟨hf, hS, herr, he⟩ := HI.out
      refine ⟨set_keeps _ _ _ _, rfl, ⟨r, ?_, hS.tb.set herr (by omega) 0 _⟩, heap_setCell_same _ _ 0 _ _ _ herr⟩
      rw [foldI_one hf, if_pos he]
  case tDone =>
    rintro Df xs W hD hcame hat hDk
    obtain ⟨⟨r, hf, hok, hol, hS⟩, herr, hbx⟩ := hat
    have hX : X = (r, true) := by rw [HX.out, ← hf, show xs = itemsOf zs from hcame]
    obtain ⟨v2, lv, room, hR2, hT2, hL2, hroom2, hap2, hfr2, hm2⟩ := hS
    obtain ⟨al, cl, hlv⟩ := hL2.shape
    have ce := blk_cell (j := 0) herr rfl
    have c2 := hR2.c2
    obtain ⟨nl, hnl⟩ : ∃ nl, nl = (tellL limit r.out).length := ⟨_, rfl⟩
    rw [← hnl] at hlv
    subst hlv
    have HC := Lib.hid (fun n : Nat => cut_any w.heap.size T (leftS r) room (.slice al nl cl) (W.drewN n) (hR2.below (below_drewN (Below.refl _ _) n)))
    have HR := Lib.hid (And.intro hX (And.intro hT2 (And.intro hL2 (And.intro hroom2 (And.intro hfr2 (And.intro hm2 (And.intro hap2 hDk)))))))
    clear hX hR2 hT2 hL2 hroom2 hap2 hfr2 hm2 hf hok hol herr hbx hDk hI1 hBox hnl
    gi_wp2
    go_wp2_with fail
    go_quiet ((go_at_call 23; exact Calls.quiet_of_same (HC.out _)))
    go_wp2_with fail
    rw [Exit.noGoto_ret]
    obtain ⟨hX, hT2, hL2, hroom2, hfr2, hm2, hap2, hDk⟩ := HR.out
    have hDd : (W.drewN nq).heap[Df]? = some (.deferred (some [])) := hDk
    refine ⟨by simp, .inl ⟨_, _, rfl, run_takeDeferred hDd, ?_⟩⟩
    refine ⟨_, results_tmp3 rfl _ _ _, .slice al nl cl, ?_, ?_, ?_⟩
    · have e : decide (room < 0) = decide (limit < (sumF r.out : Int)) := by
        refine decide_eq_decide.2 ?_
        unfold roomIs at hroom2
        split at hroom2 <;> omega
      rw [hX, tellC, tellE, if_pos rfl, Bool.true_and, ← e]
      rfl
    · rw [hX, tellB, if_pos rfl]
      refine RowF.of_block (w := W.drewN nq) (hL2.below (below_drewN (Below.refl _ _) nq)) fun g hg => World.putObj_heap_other ?_
      obtain ⟨cs, fr, hc⟩ := (hL2.below (below_drewN (Below.refl _ _) nq)).block g hg
      exact not_cells hDd rfl hc
    · rw [hX]
      obtain ⟨p1, p2⟩ := tb_put (hT2.below (below_drewN (Below.refl _ _) nq)) (hm2.trans (Mv.of (v := v) (below_drewN (Below.refl _ _) nq)) (fun g hg => .inl hg)) (by have := HS.out; omega) hDd rfl
      exact ⟨v2, p1, hfr2, p2, hap2⟩
  case tStop =>
    rintro Df c pre W hD hcame ⟨rfl, ⟨r, hf, hS⟩, herr⟩ hDk
    have hX : X = (r, false) := by rw [HX.out]; exact SomeIt.over hcame hf
    have ce := blk_cell (j := 0) herr rfl
    have HR := Lib.hid (And.intro hX (And.intro hS (And.intro herr hDk)))
    clear hX hS herr hf hDk hI1 hBox
    gi_wp2
    go_wp2_with fail
    go_quiet (fail)
    go_wp2_with fail
    rw [Exit.noGoto_ret]
    obtain ⟨hX, hS, herr, hDk⟩ := HR.out
    have hDd : (W.drewN nq).heap[Df]? = some (.deferred (some [])) := hDk
    refine ⟨by simp, .inl ⟨_, _, rfl, run_takeDeferred hDd, ?_⟩⟩
    refine ⟨_, results_tmp3 rfl _ _ _, .slice none 0 0, ?_, ?_, ?_⟩
    · rw [hX]; rfl
    · rw [hX]; exact RowF.nil _ _
    · rw [hX]
      obtain ⟨v2, hT2, hfr2, hm2⟩ := hS
      obtain ⟨p1, p2⟩ := tb_put (hT2.below (below_drewN (Below.refl _ _) nq)) (hm2.trans (Mv.of (v := v) (below_drewN (Below.refl _ _) nq)) (fun g hg => .inl hg)) (by have := HS.out; omega) hDd rfl
      exact ⟨v2, p1, hfr2, p2, fun g hg => (by cases hg)⟩
end Go.Proofs.YtenapfpkegoonaaDoor

/-
  Layer 9: New, Clone, Table, Size; on nil.
-/
namespace Go.Proofs.YtenapfpkegoonaaDoor
set_option maxRecDepth 20000
open Go.RowKit

theorem bNew_any (b : Int) (w : World) (h0 : 0 ≤ b) (h1 : b ≤ 4096) : Calls Tryd.prog 7 #[.int .i64 b] w fun e w' => ∃ D T v, e = .returned (.tuple #[.pointer (some ⟨D, 0, none⟩), .int .i64 0]) ∧ DecAt w' D T ∧ TabO w' w.heap.size T b b v [] ∧ w.heap.size ≤ D ∧ Below w.heap.size w w' := by
  go_enter Tryd.func7, Tryd.ntmps7
  go_wp2_with fail
  refine (new_any b w h0 h1).mono ?_
  rintro e w1 ⟨rfl, hT, hb⟩
  have HR := Lib.hid (And.intro hT hb)
  clear hT hb
  go_wp2_with fail
  go_ret2
  obtain ⟨hT, hb⟩ := HR.out
  have hA : Below w1.heap.size w1 (w1.alloc (.cells #[.pointer (some ⟨w.heap.size, 0, none⟩)] 57)) := (Below.refl _ _).alloc (Nat.le_refl _) _
  exact ⟨w1.heap.size, w.heap.size, .slice none 0 0, rfl, heap_alloc_new _ _, hT.below hA, hb.size, hb.trans (hA.mono hb.size)⟩
theorem bNew_no (b : Int) (w : World) (h : ¬ (0 ≤ b ∧ b ≤ 4096)) : Calls Tryd.prog 7 #[.int .i64 b] w fun e w' => e = .returned (.tuple #[.pointer none, .int .i64 1]) ∧ w' = w := by
  go_enter Tryd.func7, Tryd.ntmps7
  go_wp2_with fail
  refine (new_no b w h).mono ?_
  rintro e w1 ⟨rfl, hw⟩
  rw [hw]
  clear hw
  go_wp2_with fail
  go_ret2
  exact ⟨rfl, rfl⟩
theorem bClone_any (D T base : Nat) (b m : Int) (v : Value) (fs : List Fd) (w : World) (hD : DecAt w D T) (h : TabO w base T b m v fs) (hl : fs.length ≤ 1000000000) :
    Calls Tryd.prog 9 #[.pointer (some ⟨D, 0, none⟩)] w fun e w' => ∃ D' T' v', e = .returned (.pointer (some ⟨D', 0, none⟩)) ∧ DecAt w' D' T' ∧ TabO w' w.heap.size T' b m v' fs ∧ w.heap.size ≤ D' ∧ Below w.heap.size w w' := by
  have c0 := hD.c0
  go_enter Tryd.func9, Tryd.ntmps9
  go_wp2_with fail
  refine (tclone_any T base b m v fs w h hl).mono ?_
  rintro e w1 ⟨T', v', rfl, hT, hb⟩
  have HR := Lib.hid (And.intro hT hb)
  clear hT hb
  go_wp2_with fail
  go_ret
  obtain ⟨hT, hb⟩ := HR.out
  have hA : Below w1.heap.size w1 (w1.alloc (.cells #[.pointer (some ⟨T', 0, none⟩)] 57)) := (Below.refl _ _).alloc (Nat.le_refl _) _
  exact ⟨w1.heap.size, T', v', rfl, heap_alloc_new _ _, hT.below hA, hb.size, hb.trans (hA.mono hb.size)⟩
theorem bSize_any (D T base : Nat) (b m : Int) (v : Value) (fs : List Fd) (w : World) (hD : DecAt w D T) (h : TabO w base T b m v fs) :
    Calls Tryd.prog 14 #[.pointer (some ⟨D, 0, none⟩)] w fun e w' => e = .returned (.int .i64 (sumF fs : Nat)) ∧ w' = w := by
  have c0 := hD.c0
  go_enter Tryd.func14, Tryd.ntmps14
  go_wp2_with fail
  refine (tsize_any T base b m v fs w h).mono ?_
  rintro e w1 ⟨rfl, hw⟩
  rw [hw]
  clear hw
  go_wp2_with fail
  go_ret
  exact ⟨rfl, rfl⟩
theorem bSize_nil (w : World) : Calls Tryd.prog 14 #[.pointer none] w fun e w' => e = .returned (.int .i64 0) ∧ w' = w := by
  go_enter Tryd.func14, Tryd.ntmps14
  go_wp2_with fail
  go_ret
  exact ⟨rfl, rfl⟩
theorem bClone_nil (w : World) : Calls Tryd.prog 9 #[.pointer none] w fun e w' => e = .returned (.pointer none) ∧ w' = w := by
  go_enter Tryd.func9, Tryd.ntmps9
  go_wp2_with fail
  go_ret
  exact ⟨rfl, rfl⟩
theorem bTable_nil (w : World) : Calls Tryd.prog 13 #[.pointer none] w fun e w' => e = .returned (.slice none 0 0) ∧ w' = w := by
  go_enter Tryd.func13, Tryd.ntmps13
  go_wp2_with fail
  go_ret
  exact ⟨rfl, rfl⟩
theorem bDec_nil (u : Value) (limit : Int) (w : World) : Calls Tryd.prog 10 #[.pointer none, u, .int .i64 limit] w fun e w' => e = .returned (.tuple #[.slice none 0 0, .bool false, .int .i64 1]) ∧ w' = w := by
  go_enter Tryd.func10, Tryd.ntmps10
  go_wp2_with fail
  go_step3
  go_wp2_with fail
  rw [Exit.noGoto_ret]
  go_ret3
  exact ⟨rfl, rfl⟩
end Go.Proofs.YtenapfpkegoonaaDoor

/-
  Layer 9: Table.
-/
namespace Go.Proofs.YtenapfpkegoonaaDoor
set_option maxRecDepth 20000
open Go.RowKit

theorem getO_new {fs : List Fd} {k : Nat} {f : Fd} (h : fs[k]? = some f) : getO fs.reverse ((k : Int) + 1) = .tuple #[.agg #[.string f.1, .string f.2], .int .i64 0] := by
  have hl := (List.getElem?_eq_some_iff.1 h).1
  rw [← getR_reverse, List.reverse_reverse, getR, if_pos (by omega), show ((k : Int) + 1).toNat - 1 = k by omega, List.getD_eq_getElem?_getD, h, Option.getD_some]
set_option maxHeartbeats 1000000 in
theorem bTable_any (D T base : Nat) (b m : Int) (v : Value) (fs : List Fd) (w : World) (hD : DecAt w D T) (h : TabO w base T b m v fs.reverse) (hl : fs.length ≤ 1000000000) :
    Calls Tryd.prog 13 #[.pointer (some ⟨D, 0, none⟩)] w fun e w' => ∃ v', e = .returned v' ∧ RowF w' w.heap.size v' fs ∧ Below w.heap.size w w' := by
  obtain ⟨i0, hi, hz0, hz1, hz2⟩ := info_parts sizeFld
  have c0 := hD.c0
  obtain ⟨N, hN⟩ : ∃ N, N = fs.length := ⟨_, rfl⟩
  have hlen : ∀ W, TabO W base T b m v fs.reverse → Calls Tryd.prog 28 #[.pointer (some ⟨T, 0, none⟩)] W fun e w' => e = .returned (.int .i64 (N : Nat)) ∧ w' = W := fun W hW => by
    have := tlen_any T base b m v fs.reverse W hW
    rwa [List.length_reverse, ← hN] at this
  have HL := Lib.hid hlen
  have HN := Lib.hid hN
  have hl : N ≤ 1000000000 := by omega
  have HT := Lib.hid h
  have HD := Lib.hid hD
  clear hN hlen h hD
  go_enter Tryd.func13, Tryd.ntmps13
  go_wp2_with fail
  refine (HL.out w HT.out).mono ?_
  rintro e w1 ⟨rfl, hw1⟩
  rw [hw1]
  clear hw1
  go_wp2_with (at_make; refine wpList_make_own _ rfl _ _ 33 rfl w.heap.size 46 i0 _ 2 Tryd.underlying33 hi hz0 hz1 .i64 .i64 _ N rfl rfl (by omega) (by rw [hz2]; omega) (by unfold maxLen; omega) (Nat.le_refl _) ?_; intro w3 hown hgrow; have hb3 : Below w.heap.size w w3 := (Below.refl _ _).grown hgrow (Nat.le_refl _) (fun k h => by simp at h); have HB3 := Lib.hid hb3; have hr3 : RowF w3 w.heap.size (.slice (some ⟨w.heap.size, 0, none⟩) 0 N) [] := hown; have HR3 := Lib.hid hr3; have c3 := (HD.out.below hb3).c0; clear hown hgrow hb3 hr3)
  refine (HL.out w3 (HT.out.below HB3.out)).mono ?_
  rintro e w1 ⟨rfl, hw1⟩
  rw [hw1]
  clear hw1 c3
  go_wp2_with fail
  go_loopg [3, 20] N (fun q s3 s20 wr => ∃ k : Nat, k + q = N ∧ s20 = .int .i64 k ∧ Hid (Below w.heap.size w wr ∧ RowF wr w.heap.size s3 (fs.take k)))
  case atStart => exact ⟨0, by omega, rfl, HB3.out, HR3.out⟩
  case round =>
    obtain ⟨k, hkq, rfl, HF⟩ := hrel
    have HKQ := Lib.hid hkq
    have hk : k ≤ N := by omega
    clear hkq
    obtain ⟨au, cu, eu⟩ := HF.out.2.shape
    have hlk : (fs.take k).length = k := by rw [List.length_take, ← HN.out]; omega
    rw [hlk] at eu
    subst eu
    by_cases hlt : k < N
    · obtain ⟨f, hf⟩ : ∃ f, fs[k]? = some f := ⟨fs[k]'(by rw [← HN.out]; exact hlt), List.getElem?_eq_getElem (by rw [← HN.out]; exact hlt)⟩
      have HG := Lib.hid (getO_new hf)
      have HTK := Lib.hid (show fs.take (k + 1) = fs.take k ++ [f] by rw [List.take_add_one, hf]; rfl)
      have cr := (HD.out.below HF.out.1).c0
      have e1 : (1 : Int) + (k : Int) = (k : Int) + 1 := by omega
      clear hf
      go_wp2_with fail
      first | rw [e1] | skip
      refine (tget_any T base b m ((k : Int) + 1) v fs.reverse wr (HT.out.below HF.out.1)).mono ?_
      rintro e w1 ⟨rfl, hb1⟩
      rw [HG.out]
      have hB1 := HF.out.1.trans (hb1.mono HF.out.1.size)
      have hru := HF.out.2.below hb1
      unfold RowF at hru
      rw [hlk] at hru
      have hsz1 := hB1.size
      have HB1 := Lib.hid hB1
      clear hb1 hB1 cr
      go_wp2_with (at_builtin; refine app_row rfl (.tmp 33) (.tmp 35) 33 rfl w.heap.size 46 i0 _ 2 32 Tryd.underlying33 hi hz0 hz1 hz2 rfl (by decide) (.slice au k cu) k (fcs (fs.take k)) rfl ((hru.alloc _).alloc _) (some ⟨w1.heap.size + 1, 0, none⟩) 1 1 (fcs [f]) rfl (fun h => by cases h) rfl (fun ad hd => by cases hd; exact fcs_one_at _ _ f (by have := FldAt.new (w1.alloc (.cells #[.string f.1, .string f.2] 46)) f.1 f.2; simpa using this)) (fcs_oneCell _) (by unfold maxLen; omega) (by omega) (by simp; omega) ?_; intro v2 w2 hown2 hb2 hg2; obtain ⟨a2, c2, rfl, _⟩ := owned_shape hown2; have HO2 := Lib.hid (And.intro hown2 hb2); clear hown2 hb2 hg2)
      go_roundg (N - (k + 1))
      case measure => have := HKQ.out; omega
      case rel =>
        refine ⟨k + 1, by omega, by go_num, ?_⟩
        obtain ⟨hown2, hb2⟩ := HO2.out
        have hbw : Below w.heap.size w1 ((w1.alloc (.cells #[.string f.1, .string f.2] 46)).alloc (.cells #[.string f.1, .string f.2] 46)) := ((Below.refl _ _).alloc hsz1 _).alloc (by simp; omega) _
        refine (show Hid (_ ∧ _) from ⟨HB1.out.trans (hbw.trans hb2), ?_⟩)
        unfold RowF
        rw [HTK.out, List.length_append, hlk, List.length_singleton, fcs_append]
        exact hown2
    · obtain rfl : k = N := by omega
      have HE := Lib.hid (show fs.take k = fs from List.take_of_length_le (by rw [HN.out]; exact Nat.le_refl _))
      clear hlt hk
      go_wp2_with fail
      go_ret
      exact ⟨_, rfl, by have := HF.out.2; rwa [HE.out] at this, HF.out.1⟩
end Go.Proofs.YtenapfpkegoonaaDoor

/-
  Layer 6, plain: what is found of a name and a value. No program is named here.
-/
namespace Go.Proofs.YtenapfpkegoonaaDoor
open Go.RowKit

/-- the least index of a name among the first k (0: none) -/
def nameTo (n : ByteArray) : Nat → Nat
  | 0 => 0
  | k + 1 => if nameTo n k = 0 ∧ fNm k = n then k + 1 else nameTo n k
/-- the least index of a name and a value among the first k (0: none) -/
def bothTo (n v : ByteArray) : Nat → Nat
  | 0 => 0
  | k + 1 => if bothTo n v k = 0 ∧ fNm k = n ∧ fVl k = v then k + 1 else bothTo n v k
/-- the least index of a name among the last g (0: none) -/
def nameOf (n : ByteArray) : Nat → Nat
  | 0 => 0
  | g + 1 => if fNm (61 - (g + 1)) = n then 61 - g else nameOf n g
def findI (n v : ByteArray) : Nat := if bothTo n v 61 = 0 then nameTo n 61 else bothTo n v 61
def findB (n v : ByteArray) : Bool := decide (bothTo n v 61 ≠ 0)
def findT (n v : ByteArray) : Value := .tuple #[.int .i64 (findI n v), .bool (findB n v)]

theorem nameTo_says (n : ByteArray) : ∀ k, (nameTo n k = 0 ∧ ∀ i, i < k → fNm i ≠ n) ∨ (∃ i, i < k ∧ nameTo n k = i + 1 ∧ fNm i = n ∧ ∀ j, j < i → fNm j ≠ n)
  | 0 => .inl ⟨rfl, fun i hi => by omega⟩
  | k + 1 => by
    unfold nameTo
    rcases nameTo_says n k with ⟨h0, h1⟩ | ⟨i, hi, h0, h1, h2⟩
    · by_cases hk : fNm k = n
      · rw [if_pos ⟨h0, hk⟩]
        exact .inr ⟨k, by omega, rfl, hk, h1⟩
      · rw [if_neg (fun h => hk h.2)]
        refine .inl ⟨h0, fun i hi => ?_⟩
        by_cases e : i = k
        · rw [e]; exact hk
        · exact h1 i (by omega)
    · rw [if_neg (fun h => by omega)]
      exact .inr ⟨i, by omega, h0, h1, h2⟩
theorem bothTo_says (n v : ByteArray) : ∀ k, (bothTo n v k = 0 ∧ ∀ i, i < k → ¬ (fNm i = n ∧ fVl i = v)) ∨ (∃ i, i < k ∧ bothTo n v k = i + 1 ∧ fNm i = n ∧ fVl i = v ∧ ∀ j, j < i → ¬ (fNm j = n ∧ fVl j = v))
  | 0 => .inl ⟨rfl, fun i hi => by omega⟩
  | k + 1 => by
    unfold bothTo
    rcases bothTo_says n v k with ⟨h0, h1⟩ | ⟨i, hi, h0, h1, h2, h3⟩
    · by_cases hk : fNm k = n ∧ fVl k = v
      · rw [if_pos ⟨h0, hk⟩]
        exact .inr ⟨k, by omega, rfl, hk.1, hk.2, h1⟩
      · rw [if_neg (fun h => hk h.2)]
        refine .inl ⟨h0, fun i hi => ?_⟩
        by_cases e : i = k
        · rw [e]; exact hk
        · exact h1 i (by omega)
    · rw [if_neg (fun h => by omega)]
      exact .inr ⟨i, by omega, h0, h1, h2, h3⟩
theorem nameOf_says (n : ByteArray) : ∀ g, g ≤ 61 → (nameOf n g = 0 ∧ ∀ i, 61 - g ≤ i → i < 61 → fNm i ≠ n) ∨ (∃ i, 61 - g ≤ i ∧ i < 61 ∧ nameOf n g = i + 1 ∧ fNm i = n ∧ ∀ j, 61 - g ≤ j → j < i → fNm j ≠ n)
  | 0, _ => .inl ⟨rfl, fun i hi => by omega⟩
  | g + 1, hg => by
    unfold nameOf
    by_cases hk : fNm (61 - (g + 1)) = n
    · rw [if_pos hk]
      exact .inr ⟨61 - (g + 1), by omega, by omega, by omega, hk, fun j h1 h2 => by omega⟩
    · rw [if_neg hk]
      rcases nameOf_says n g (by omega) with ⟨h0, h1⟩ | ⟨i, h1, h2, h3, h4, h5⟩
      · refine .inl ⟨h0, fun i hi h61 => ?_⟩
        by_cases e : i = 61 - (g + 1)
        · rw [e]; exact hk
        · exact h1 i (by omega) h61
      · refine .inr ⟨i, by omega, h2, h3, h4, fun j hj hi => ?_⟩
        by_cases e : j = 61 - (g + 1)
        · rw [e]; exact hk
        · exact h5 j (by omega) hi
theorem nameOf_all (n : ByteArray) : nameOf n 61 = nameTo n 61 := by
  rcases nameTo_says n 61 with ⟨h0, h1⟩ | ⟨i, hi, h0, h1, h2⟩ <;> rcases nameOf_says n 61 (Nat.le_refl _) with ⟨k0, k1⟩ | ⟨j, kj, kj2, k0, k1, k2⟩
  · omega
  · exact absurd k1 (h1 j kj2)
  · exact absurd h1 (k1 i (by omega) hi)
  · have a1 : ¬ i < j := fun h => k2 i (by omega) h h1
    have a2 : ¬ j < i := fun h => h2 j h k1
    omega
/-- what was found stays so -/
theorem bothTo_first (n v : ByteArray) {k : Nat} (h0 : bothTo n v k = 0) (hk : k < 61) (h1 : fNm k = n) (h2 : fVl k = v) : bothTo n v 61 = k + 1 := by
  rcases bothTo_says n v k with ⟨_, g1⟩ | ⟨i, _, g, _⟩
  · rcases bothTo_says n v 61 with ⟨_, f1⟩ | ⟨i, hi, f0, f1, f2, f3⟩
    · exact absurd ⟨h1, h2⟩ (f1 k hk)
    · have a1 : ¬ i < k := fun h => g1 i h ⟨f1, f2⟩
      have a2 : ¬ k < i := fun h => f3 k h ⟨h1, h2⟩
      omega
  · omega
theorem find_both {n v : ByteArray} {k : Nat} (h0 : bothTo n v k = 0) (hk : k < 61) (h1 : fNm k = n) (h2 : fVl k = v) : findT n v = .tuple #[.int .i64 ((k : Int) + 1), .bool true] := by
  have := bothTo_first n v h0 hk h1 h2
  rw [findT, findI, findB, this, if_neg (by omega), decide_eq_true (by omega)]
  rfl
theorem find_name {n v : ByteArray} (h0 : bothTo n v 61 = 0) : findT n v = .tuple #[.int .i64 (nameTo n 61), .bool false] := by
  rw [findT, findI, findB, h0, if_pos rfl, decide_eq_false (by omega)]
theorem bothTo_next {n v : ByteArray} {k : Nat} (h0 : bothTo n v k = 0) (h : ¬ (fNm k = n ∧ fVl k = v)) : bothTo n v (k + 1) = 0 := by
  rw [bothTo, if_neg (fun g => h g.2)]; exact h0
theorem nameTo_le (n : ByteArray) (k : Nat) : nameTo n k ≤ k := by
  rcases nameTo_says n k with ⟨h, _⟩ | ⟨i, hi, h, _⟩ <;> omega

/-- each field is found at its own index -/
theorem own_all : (List.range 61).all (fun i => (List.range 61).all fun j => i == j || !(eqB (fNm i) (fNm j) && eqB (fVl i) (fVl j))) = true := by decide +kernel
theorem own_one {i j : Nat} (hi : i < 61) (hj : j < 61) (h1 : fNm j = fNm i) (h2 : fVl j = fVl i) : j = i := by
  have := List.all_eq_true.1 (List.all_eq_true.1 own_all i (List.mem_range.2 hi)) j (List.mem_range.2 hj)
  rw [h1, h2, eqB_iff.2 rfl, eqB_iff.2 rfl] at this
  simp at this
  exact this.symm
theorem find_own {k : Nat} (hk : k < 61) : findT (fNm k) (fVl k) = .tuple #[.int .i64 ((k : Int) + 1), .bool true] := by
  refine find_both ?_ hk rfl rfl
  rcases bothTo_says (fNm k) (fVl k) k with ⟨h, _⟩ | ⟨i, hi, _, h1, h2, _⟩
  · exact h
  · have := own_one hk (by omega) h1 h2
    omega
/-- a value that no field has -/
def noVal : ByteArray := ⟨#[110, 111, 32, 115, 117, 99, 104, 32, 118, 97, 108, 117, 101]⟩
theorem noVal_all : (List.range 61).all (fun i => !eqB (fVl i) noVal) = true := by decide +kernel
theorem find_noVal (n : ByteArray) : findT n noVal = .tuple #[.int .i64 (nameTo n 61), .bool false] := by
  refine find_name ?_
  rcases bothTo_says n noVal 61 with ⟨h, _⟩ | ⟨i, hi, _, _, h2, _⟩
  · exact h
  · have := List.all_eq_true.1 noVal_all i (List.mem_range.2 hi)
    rw [h2, eqB_iff.2 rfl] at this
    simp at this
/-- what is found, in full -/
theorem find_says (n v : ByteArray) :
    (findI n v = 0 ∧ findB n v = false) ∨
    (∃ k, k < 61 ∧ findI n v = k + 1 ∧ fNm k = n ∧ (fVl k = v ∨ findB n v = false) ∧ 1 ≤ nameTo n 61 ∧ nameTo n 61 ≤ k + 1) := by
  rcases bothTo_says n v 61 with ⟨h0, _⟩ | ⟨i, hi, h0, h1, h2, _⟩
  · rcases nameTo_says n 61 with ⟨g0, _⟩ | ⟨j, hj, g0, g1, _⟩
    · exact .inl ⟨by rw [findI, if_pos h0, g0], by rw [findB, h0]; rfl⟩
    · exact .inr ⟨j, hj, by rw [findI, if_pos h0, g0], g1, .inr (by rw [findB, h0]; rfl), by omega, by omega⟩
  · refine .inr ⟨i, hi, by rw [findI, if_neg (by omega), h0], h1, .inl h2, ?_⟩
    rcases nameTo_says n 61 with ⟨_, g1⟩ | ⟨j, hj, g0, g1, g2⟩
    · exact absurd h1 (g1 i hi)
    · have : ¬ i < j := fun h => g2 i h h1
      omega
end Go.Proofs.YtenapfpkegoonaaDoor

/-
  Layer 6's reference: names, value.
-/
namespace Go.Proofs.YtenapfpkegoonaaDoor
open Go.RowKit

theorem vals_all : (List.range 61).all (fun k => ((1 ≤ k && k ≤ 13) || k == 15) || eqB (fVl k) ⟨#[]⟩) = true := by decide +kernel
theorem getV_rest {i : Int} (h : ¬ ((2 ≤ i ∧ i ≤ 14) ∨ i = 16)) : getV i = ⟨#[]⟩ := by
  unfold getV
  split
  · rename_i hi
    have := List.all_eq_true.1 vals_all (i - 1).toNat (List.mem_range.2 (by omega))
    simp only [Bool.or_eq_true, Bool.and_eq_true, decide_eq_true_eq, beq_iff_eq, eqB_iff] at this
    rcases this with (⟨h1, h2⟩ | h1) | h1
    · omega
    · omega
    · exact h1
  · rfl
set_option maxRecDepth 20000 in
theorem value_any (i : Int) (w : World) : Calls Tryd.prog 58 #[.int .i64 i] w fun e w' => e = .returned (.string (getV i)) ∧ w = w' := by
  by_cases h : (2 ≤ i ∧ i ≤ 14) ∨ i = 16
  · rcases (show i = 2 ∨ i = 3 ∨ i = 4 ∨ i = 5 ∨ i = 6 ∨ i = 7 ∨ i = 8 ∨ i = 9 ∨ i = 10 ∨ i = 11 ∨ i = 12 ∨ i = 13 ∨ i = 14 ∨ i = 16 by omega) with rfl | rfl | rfl | rfl | rfl | rfl | rfl | rfl | rfl | rfl | rfl | rfl | rfl | rfl
    all_goals
      clear h
      go_enter Tryd.func58, Tryd.ntmps58
      go_wp2
      go_ret
      exact ⟨rfl, rfl⟩
  · have HV := Lib.hid (getV_rest h)
    have e2 : (i == 2) = false := by rw [beq_eq_false_iff_ne]; omega
    have e3 : (i == 3) = false := by rw [beq_eq_false_iff_ne]; omega
    have e4 : (i == 4) = false := by rw [beq_eq_false_iff_ne]; omega
    have e5 : (i == 5) = false := by rw [beq_eq_false_iff_ne]; omega
    have e6 : (i == 6) = false := by rw [beq_eq_false_iff_ne]; omega
    have e7 : (i == 7) = false := by rw [beq_eq_false_iff_ne]; omega
    have e8 : (i == 8) = false := by rw [beq_eq_false_iff_ne]; omega
    have e9 : (i == 9) = false := by rw [beq_eq_false_iff_ne]; omega
    have e10 : (i == 10) = false := by rw [beq_eq_false_iff_ne]; omega
    have e11 : (i == 11) = false := by rw [beq_eq_false_iff_ne]; omega
    have e12 : (i == 12) = false := by rw [beq_eq_false_iff_ne]; omega
    have e13 : (i == 13) = false := by rw [beq_eq_false_iff_ne]; omega
    have e14 : (i == 14) = false := by rw [beq_eq_false_iff_ne]; omega
    have e16 : (i == 16) = false := by rw [beq_eq_false_iff_ne]; omega
    clear h
    go_enter Tryd.func58, Tryd.ntmps58
    go_wp2
    go_ret
    exact ⟨by rw [HV.out]; rfl, rfl⟩
/-- the names, as a row's cells -/
def nameVs : List Value := statTab.map fun p => .string p.1
theorem nameVs_len : nameVs.length = 61 := by rw [nameVs, List.length_map, statTab_len]
theorem nameVs_at {i : Nat} (h : i < 61) : nameVs.toArray[i]? = some (.string (fNm i)) := by
  have hl : i < statTab.length := by rw [statTab_len]; exact h
  simp [nameVs, fNm, hl]
/-- the names lie in this block -/
def NamesAt (W : World) (g : Nat) : Prop := W.heap[g]? = some (.cells nameVs.toArray 9 (0, 0))
theorem NamesAt.grown {W W' : World} {g : Nat} (h : NamesAt W g) (hb : Below W.heap.size W W') : NamesAt W' g := (hb.block g (Array.getElem?_eq_some_iff.1 h).1).trans h
theorem NamesAt.at_ {W : World} {g i : Nat} (h : NamesAt W g) (hi : i < 61) : W.cell? ⟨g, i, none⟩ = some (.string (fNm i)) := by
  have := nameVs_at hi
  unfold NamesAt at h
  simp only [World.cell?, h]
  exact this
theorem sliceStr : Tryd.prog.underlying 111 = some (.slice (Tryd.prog.elem 111)) := by kernel_rfl
theorem sizeElemStr (w : World) : (sizeOf (Tryd.prog.elem 111)).run Tryd.prog w = .ok 1 w := by kernel_rfl
theorem names_index (g k : Nat) (hk : k < 61) (q : IntKind) (W : World) : (Instr.indexAt 111 (.slice (some ⟨g, 0, none⟩) 61 61) (.int q k)).run Tryd.prog W = .ok (.pointer (some ⟨g, k, none⟩)) W := by
  have := run_index_sl sliceStr sizeElemStr g 0 61 61 k hk q W
  rwa [Nat.zero_add, Nat.mul_one] at this
set_option maxRecDepth 20000 in
theorem names_any (w : World) : Calls Tryd.prog 57 #[] w fun e w' => e = .returned (.slice (some ⟨w.heap.size, 0, none⟩) 61 61) ∧ NamesAt w' w.heap.size ∧ Below w.heap.size w w' := by
  go_enter Tryd.func57, Tryd.ntmps57
  go_wp2_with (refine wpList_buildOnes rfl 111 9 61 _ rfl nameVs Tryd.underlying111 (by kernel_rfl) (by kernel_rfl) (by rw [nameVs_len]) (by decide) (by decide) (by kernel_rfl) (fun v hv => by obtain ⟨p, _, rfl⟩ := List.mem_map.1 hv; rfl) ?_)
  go_ret
  exact ⟨rfl, heap_alloc_new _ _, (Below.refl _ _).alloc (Nat.le_refl _) _⟩
theorem refGet_any (i : Int) (w : World) :
    Calls Tryd.prog 50 #[.int .i64 i] w fun e w' => e = .returned (getT i) ∧ Below w.heap.size w w' := by
  by_cases h : 1 ≤ i ∧ i ≤ 61
  · obtain ⟨k, rfl⟩ : ∃ k : Nat, i = (k : Int) + 1 := ⟨(i - 1).toNat, by omega⟩
    have hk : k < 61 := by omega
    have HT := Lib.hid (show getT ((k : Int) + 1) = .tuple #[fldV (fNm k) (fVl k), .int .i64 0] by
      rw [getT, getN, getV, getE, if_pos h, if_pos h, if_pos h, show ((k : Int) + 1 - 1).toNat = k by omega])
    have HV := Lib.hid (show getV ((k : Int) + 1) = fVl k by rw [getV, if_pos h, show ((k : Int) + 1 - 1).toNat = k by omega])
    have d1 : decide ((k : Int) + 1 < 1) = false := decide_eq_false (by omega)
    have d2 : decide (61 < (k : Int) + 1) = false := decide_eq_false (by omega)
    clear h
    go_enter Tryd.func50, Tryd.ntmps50
    go_wp2_with fail
    refine (names_any _).mono ?_
    rintro e w1 ⟨rfl, hn, hb⟩
    have hg : Hid (w1.heap[w.heap.size]? = some (.cells #[.string ⟨#[]⟩, .string ⟨#[]⟩] 46 (0, 0)) ∧ Below w.heap.size w w1) :=
      ⟨(hb.block _ (by simp)).trans (heap_alloc_new _ _), ((Below.refl _ _).alloc (Nat.le_refl _) _).trans (hb.mono (by simp))⟩
    have HN := Lib.hid hn
    obtain ⟨g, hgg⟩ : ∃ g, (w.alloc (.cells #[.string ⟨#[]⟩, .string ⟨#[]⟩] 46)).heap.size = g := ⟨_, rfl⟩
    rw [hgg] at HN ⊢
    clear hgg hn hb
    go_wp2_with fail
    refine wp_region_table 8 [15, 16, 17, 18, 19, 20, 21, 22] [[], [], [(1, 16)], [(0, 15), (2, 17)], [(3, 18)], [], [(5, 20)], [(4, 19), (6, 21)]]
      (fun i v _ => match i with
        | 0 => v = .slice (some ⟨g, 0, none⟩) 61 61
        | 1 => v = .int .i64 ((k : Int) + 1)
        | 2 => v = .int .i64 k
        | 3 => v = .pointer (some ⟨g, k, none⟩)
        | 4 => v = .string (fNm k)
        | 5 => v = .int .i64 ((k : Int) + 1)
        | 6 => v = .string (fVl k)
        | 7 => v = .agg #[.string (fNm k), .string (fVl k)]
        | _ => True) (by kernel_rfl) (by kernel_rfl) ?tStab ?tOps ?tRest
    case tStab => intro i v w2 w3 h _; exact h
    case tOps =>
      simp only [List.take_succ_cons, List.take_zero, opsOk]
      refine ⟨?_, ?_, ?_, ?_, ?_, ?_, ?_, ?_, trivial⟩
      · intro ρ w2 hc hf ho hB hj
        have h0 : ρ (.tmp 4) = .slice (some ⟨g, 0, none⟩) 61 61 := ho 4 (by decide)
        simp [gives, go_sem, h0, Below.refl]
      · intro ρ w2 hc hf ho hB hj
        have h0 : ρ (.tmp 0) = .int .i64 ((k : Int) + 1) := ho 0 (by decide)
        simp [gives, go_sem, h0, Below.refl]
      · intro ρ w2 hc hf ho hB hj
        have h0 : ρ (.tmp 16) = .int .i64 ((k : Int) + 1) := hj (1, 16) (by simp)
        have hw : IntKind.i64.wrap (k : Int) = k := wrap_i64_small (by omega) (by omega)
        simp [gives, go_sem, h0, hc, hw, Below.refl]
      · intro ρ w2 hc hf ho hB hj
        have h0 : ρ (.tmp 15) = .slice (some ⟨g, 0, none⟩) 61 61 := hj (0, 15) (by simp)
        have h1 : ρ (.tmp 17) = .int .i64 k := hj (2, 17) (by simp)
        simp [gives, go_sem, h0, h1, names_index g k hk, Below.refl]
      · intro ρ w2 hc hf ho hB hj
        have h0 : ρ (.tmp 18) = .pointer (some ⟨g, k, none⟩) := hj (3, 18) (by simp)
        have hcell := (HN.out.grown hB).at_ hk
        simp [gives, go_sem, h0, hcell, Below.refl]
      · intro ρ w2 hc hf ho hB hj
        have h0 : ρ (.tmp 0) = .int .i64 ((k : Int) + 1) := ho 0 (by decide)
        simp [gives, go_sem, h0, Below.refl]
      · intro ρ w2 hc hf ho hB hj
        have h0 : ρ (.tmp 20) = .int .i64 ((k : Int) + 1) := hj (5, 20) (by simp)
        simp [gives, go_sem, h0, hf]
        refine (value_any _ _).mono ?_
        rintro e w3 ⟨rfl, rfl⟩
        exact ⟨_, rfl, by rw [HV.out], Below.refl _ _⟩
      · intro ρ w2 hc hf ho hB hj
        have h0 : ρ (.tmp 19) = .string (fNm k) := hj (4, 19) (by simp)
        have h1 : ρ (.tmp 21) = .string (fVl k) := hj (6, 21) (by simp)
        simp [gives, go_sem, h0, h1, Below.refl]
    case tRest =>
      intro x w2 hB hx
      have h7 : x 7 = .agg #[.string (fNm k), .string (fVl k)] := hx 7 (by decide)
      simp only [putAll, List.getD_cons_zero, List.getD_cons_succ, Act.put, List.setIfInBounds_toArray, List.set_cons_zero, List.set_cons_succ, List.drop_succ_cons, List.drop_zero]
      rw [h7]
      have hg2 : Hid (w2.heap[w.heap.size]? = some (.cells #[.string ⟨#[]⟩, .string ⟨#[]⟩] 46 (0, 0)) ∧ Below w.heap.size w w2) :=
        ⟨(hB.block _ (Array.getElem?_eq_some_iff.1 hg.out.1).1).trans hg.out.1, hg.out.2.trans (hB.mono hg.out.2.size)⟩
      clear hx h7 hB
      go_wp2_with (with_reducible refine store_fld rfl (.tmp 2) (.tmp 22) rfl w.heap.size (fNm k) (fVl k) _ _ rfl rfl hg2.out.1 ?_)
      refine bodyPost_ret (results_row_tmp1 rfl _ _ w.heap.size 46 #[.string (fNm k), .string (fVl k)] (0, 0) _ rfl (setRow_heap _ _ _ _ _ _ hg2.out.1) Tryd.underlying46 rfl (by kernel_rfl)) rfl ⟨?_, below_setRow hg2.out.2 (Nat.le_refl _) _⟩
      rw [HT.out]; rfl
  · have HT := Lib.hid (show getT i = .tuple #[fldV ⟨#[]⟩ ⟨#[]⟩, .int .i64 5] by
      rw [getT, getN, getV, getE, if_neg h, if_neg h, if_neg h])
    by_cases h1 : i < 1
    · have d1 : decide (i < 1) = true := decide_eq_true h1
      clear h h1
      go_enter Tryd.func50, Tryd.ntmps50
      go_wp2_with fail
      refine (names_any _).mono ?_
      rintro e w1 ⟨rfl, _, hb⟩
      have hg : Hid (w1.heap[w.heap.size]? = some (.cells #[.string ⟨#[]⟩, .string ⟨#[]⟩] 46 (0, 0)) ∧ Below w.heap.size w w1) :=
        ⟨(hb.block _ (by simp)).trans (heap_alloc_new _ _), ((Below.refl _ _).alloc (Nat.le_refl _) _).trans (hb.mono (by simp))⟩
      clear hb
      go_wp2_with (with_reducible refine store_fld rfl (.tmp 2) (.tmp 14) rfl w.heap.size ⟨#[]⟩ ⟨#[]⟩ _ _ rfl rfl hg.out.1 ?_)
      refine bodyPost_ret (results_row_tmp1 rfl _ _ w.heap.size 46 #[.string ⟨#[]⟩, .string ⟨#[]⟩] (0, 0) _ rfl (setRow_heap _ _ _ _ _ _ hg.out.1) Tryd.underlying46 rfl (by kernel_rfl)) rfl ⟨?_, below_setRow hg.out.2 (Nat.le_refl _) _⟩
      rw [HT.out]; rfl
    · have d1 : decide (i < 1) = false := decide_eq_false h1
      have d2 : decide (61 < i) = true := decide_eq_true (by omega)
      clear h h1
      go_enter Tryd.func50, Tryd.ntmps50
      go_wp2_with fail
      refine (names_any _).mono ?_
      rintro e w1 ⟨rfl, _, hb⟩
      have hg : Hid (w1.heap[w.heap.size]? = some (.cells #[.string ⟨#[]⟩, .string ⟨#[]⟩] 46 (0, 0)) ∧ Below w.heap.size w w1) :=
        ⟨(hb.block _ (by simp)).trans (heap_alloc_new _ _), ((Below.refl _ _).alloc (Nat.le_refl _) _).trans (hb.mono (by simp))⟩
      clear hb
      go_wp2_with (with_reducible refine store_fld rfl (.tmp 2) (.tmp 14) rfl w.heap.size ⟨#[]⟩ ⟨#[]⟩ _ _ rfl rfl hg.out.1 ?_)
      refine bodyPost_ret (results_row_tmp1 rfl _ _ w.heap.size 46 #[.string ⟨#[]⟩, .string ⟨#[]⟩] (0, 0) _ rfl (setRow_heap _ _ _ _ _ _ hg.out.1) Tryd.underlying46 rfl (by kernel_rfl)) rfl ⟨?_, below_setRow hg.out.2 (Nat.le_refl _) _⟩
      rw [HT.out]; rfl
end Go.Proofs.YtenapfpkegoonaaDoor

/-
  Layer 6's reference: Find.
-/
namespace Go.Proofs.YtenapfpkegoonaaDoor
open Go.RowKit

theorem nameOf_step (n : ByteArray) {j : Nat} (h : j < 61) : nameOf n (61 - j) = if fNm j = n then j + 1 else nameOf n (61 - (j + 1)) := by
  rw [show 61 - j = 60 - j + 1 by omega, nameOf, show 61 - (60 - j + 1) = j by omega, show 61 - (60 - j) = j + 1 by omega, show 61 - (j + 1) = 60 - j by omega]
theorem nameOf_le (n : ByteArray) {q : Nat} (h : q ≤ 61) : nameOf n q ≤ 61 := by
  rcases nameOf_says n q h with ⟨h, _⟩ | ⟨i, _, hi, h, _⟩ <;> omega
set_option maxHeartbeats 1000000 in
set_option maxRecDepth 20000 in
theorem refFind_any (n v : ByteArray) (w : World) :
    Calls Tryd.prog 34 #[fldV n v] w fun e w' => e = .returned (findT n v) ∧ Below w.heap.size w w' := by
  unfold fldV
  go_enter Tryd.func34, Tryd.ntmps34
  go_wp2_with fail
  refine (names_any _).mono ?_
  rintro e w1 ⟨rfl, hn, hb1⟩
  have hf1 : FldAt w1 w.heap.size n v := (FldAt.new w n v).grown hb1
  have hB1 : Below w.heap.size w w1 := ((Below.refl _ _).alloc (Nat.le_refl _) _).trans (hb1.mono (by simp))
  clear hb1
  obtain ⟨g, hgg⟩ : ∃ g, (w.alloc (.cells #[.string n, .string v] 46)).heap.size = g := ⟨_, rfl⟩
  rw [hgg] at hn ⊢
  clear hgg
  have HF := Lib.hid (And.intro hf1 (And.intro hn hB1))
  clear hf1 hB1 hn
  go_wp2_with fail
  go_loopg [5, 6] 61 (fun q s5 s6 wr => ∃ k : Nat, q = k ∧ k ≤ 61 ∧ s6 = .int .i64 k ∧ s5 = .int .i64 (nameOf n (61 - k)) ∧ Hid (FldAt wr w.heap.size n v ∧ NamesAt wr g ∧ Below w.heap.size w wr))
  case atStart => exact ⟨61, rfl, Nat.le_refl _, rfl, rfl, HF⟩
  case round =>
    obtain ⟨k, hq, hk, rfl, rfl, HW⟩ := hrel
    have HQ := Lib.hid hq
    clear HF hq
    by_cases h1 : 1 ≤ k
    · obtain ⟨j, rfl⟩ : ∃ j, k = j + 1 := ⟨k - 1, by omega⟩
      have hj : j < 61 := by omega
      obtain ⟨m, hm⟩ : ∃ m, nameOf n (61 - (j + 1)) = m := ⟨_, rfl⟩
      have hm61 : m ≤ 61 := by rw [← hm]; exact nameOf_le n (by omega)
      have HS := Lib.hid (nameOf_step n hj)
      rw [hm] at HS ⊢
      clear hm
      obtain ⟨a, ha⟩ : ∃ a, fNm j = a := ⟨_, rfl⟩
      have hx := names_index g j hj
      have c0 := HW.out.1.c0
      have ca := HW.out.2.1.at_ hj
      rw [ha] at ca HS
      have hgs : g < wr.heap.size := (Array.getElem?_eq_some_iff.1 HW.out.2.1).1
      clear ha
      have ej : (((j + 1 : Nat) : Int)) = (j : Int) + 1 := by omega
      rw [ej]
      have d1 : decide (1 ≤ (j : Int) + 1) = true := decide_eq_true (by omega)
      have hw : IntKind.i64.wrap (j : Int) = j := wrap_i64_small (by omega) (by omega)
      have HD : ∀ d : Nat, Hid (FldAt (wr.drewN d) w.heap.size n v ∧ NamesAt (wr.drewN d) g ∧ Below w.heap.size w (wr.drewN d)) := fun d => ⟨HW.out.1, HW.out.2.1, below_drewN HW.out.2.2 d⟩
      by_cases han : a = n
      · have e2 : (a.toList == n.toList) = true := eqB_iff.2 han
        rw [if_pos han] at HS
        clear han
        go_wp2_with fail
        go_quiet (fail)
        go_wp2_with fail
        go_roundg j
        case measure => have := HQ.out; omega
        case rel => exact ⟨j, rfl, by omega, rfl, by rw [HS.out]; go_num, HD _⟩
      · have e2 : (a.toList == n.toList) = false := by rw [Bool.eq_false_iff]; exact fun h => han (eqB_iff.1 h)
        rw [if_neg han] at HS
        clear han
        go_wp2_with fail
        go_quiet (fail)
        go_wp2_with fail
        go_roundg j
        case measure => have := HQ.out; omega
        case rel => exact ⟨j, rfl, by omega, rfl, by rw [HS.out], HD _⟩
    · obtain rfl : k = 0 := by omega
      have HM := Lib.hid (nameOf_all n)
      rw [Nat.sub_zero]
      rw [HM.out]
      obtain ⟨m, hm⟩ : ∃ m, nameTo n 61 = m := ⟨_, rfl⟩
      have HM2 := Lib.hid hm
      rw [hm]
      clear hm hk
      have d1 : decide ((1 : Int) ≤ (0 : Nat)) = false := rfl
      go_wp2_with fail
      go_loopg [7] 61 (fun q s7 wx => ∃ k : Nat, k + q = 61 ∧ s7 = .int .i64 ((k : Int) + 1) ∧ Hid (bothTo n v k = 0) ∧ Hid (FldAt wx w.heap.size n v ∧ NamesAt wx g ∧ Below w.heap.size w wx))
      case atStart => exact ⟨0, rfl, rfl, Lib.hid rfl, HW⟩
      case round =>
        obtain ⟨k, hkq, rfl, H0, HX⟩ := hrel
        have HKQ := Lib.hid hkq
        have hk : k ≤ 61 := by omega
        clear hkq HW
        by_cases hlt : k < 61
        · have HV := Lib.hid (show getV ((k : Int) + 1) = fVl k by rw [getV, if_pos (by omega), show ((k : Int) + 1 - 1).toNat = k by omega])
          obtain ⟨a, ha⟩ : ∃ a, fNm k = a := ⟨_, rfl⟩
          obtain ⟨b, hb⟩ : ∃ b, fVl k = b := ⟨_, rfl⟩
          have hx := names_index g k hlt
          have c0 := HX.out.1.c0
          have c1 := HX.out.1.c1
          have ca := HX.out.2.1.at_ hlt
          rw [ha] at ca
          rw [hb] at HV
          have HA := Lib.hid ha
          have HB := Lib.hid hb
          clear ha hb
          have hw : IntKind.i64.wrap (k : Int) = k := wrap_i64_small (by omega) (by omega)
          have d2 : decide ((k : Int) + 1 ≤ 61) = true := decide_eq_true (by omega)
          have HD : ∀ d : Nat, Hid (FldAt (wr.drewN d) w.heap.size n v ∧ NamesAt (wr.drewN d) g ∧ Below w.heap.size w (wr.drewN d)) := fun d => ⟨HX.out.1, HX.out.2.1, below_drewN HX.out.2.2 d⟩
          by_cases han : a = n
          · have e2 : (a.toList == n.toList) = true := eqB_iff.2 han
            by_cases hbv : b = v
            · have e3 : (b.toList == v.toList) = true := eqB_iff.2 hbv
              have HR := Lib.hid (find_both H0.out hlt (HA.out.trans han) (HB.out.trans hbv))
              clear han hbv
              go_wp2_with fail
              refine (value_any _ _).mono ?_
              rintro e w' ⟨rfl, rfl⟩
              rw [HV.out]
              go_wp2_with fail
              go_quiet (fail)
              go_wp2_with fail
              go_ret2
              exact ⟨by rw [HR.out]; rfl, (HD _).out.2.2⟩
            · have e3 : (b.toList == v.toList) = false := by rw [Bool.eq_false_iff]; exact fun h => hbv (eqB_iff.1 h)
              have H1 := Lib.hid (bothTo_next H0.out (fun h => hbv (HB.out.symm.trans h.2)))
              clear han hbv
              go_wp2_with fail
              refine (value_any _ _).mono ?_
              rintro e w' ⟨rfl, rfl⟩
              rw [HV.out]
              go_wp2_with fail
              go_quiet (fail)
              go_wp2_with fail
              go_roundg (61 - (k + 1))
              case measure => have := HKQ.out; omega
              case rel => exact ⟨k + 1, by omega, by go_num, H1, HD _⟩
          · have e2 : (a.toList == n.toList) = false := by rw [Bool.eq_false_iff]; exact fun h => han (eqB_iff.1 h)
            have H1 := Lib.hid (bothTo_next H0.out (fun h => han (HA.out.symm.trans h.1)))
            clear han
            go_wp2_with fail
            refine (value_any _ _).mono ?_
            rintro e w' ⟨rfl, rfl⟩
            rw [HV.out]
            go_wp2_with fail
            go_quiet (fail)
            go_wp2_with fail
            go_roundg (61 - (k + 1))
            case measure => have := HKQ.out; omega
            case rel => exact ⟨k + 1, by omega, by go_num, H1, HD _⟩
        · obtain rfl : k = 61 := by omega
          have HR := Lib.hid (find_name H0.out)
          rw [HM2.out] at HR
          clear hlt hk
          have d2 : decide (((61 : Nat) : Int) + 1 ≤ 61) = false := rfl
          go_wp2_with fail
          go_ret2
          exact ⟨by rw [HR.out]; rfl, HX.out.2.2⟩
end Go.Proofs.YtenapfpkegoonaaDoor

/-
  Layer 9, the reference: named; what its reading turns.
-/
namespace Go.Proofs.YtenapfpkegoonaaDoor
set_option maxRecDepth 20000
open Go.RowKit

set_option maxHeartbeats 1000000 in
theorem refNamed_any (T base : Nat) (b m i : Int) (v : Value) (fs : List Fd) (w : World) (h : TabR w base T b m v fs) (hi : 0 ≤ i ∧ i ≤ 16777215) :
    Calls Tryd.prog 26 #[.pointer (some ⟨T, 0, none⟩), .int .i64 i] w fun e w' => e = .returned (optT (namedF fs i)) ∧ Below w.heap.size w w' := by
  by_cases h1 : i ≤ 61
  · obtain ⟨n, x, e, hT⟩ := optT_shape (namedF fs i)
    have hg := get_opt fs h1
    rw [hT] at hg
    have HT := Lib.hid hT
    have HG := Lib.hid hg
    have d1 : decide (i ≤ 61) = true := decide_eq_true h1
    clear hg hT h1 hi h
    go_enter Tryd.func26, Tryd.ntmps26
    go_wp2_with fail
    refine (refGet_any i _).mono ?_
    rintro e w' ⟨rfl, hb⟩
    rw [HG.out]
    have hg : Hid (w'.heap[w.heap.size]? = some (.cells #[.string ⟨#[]⟩, .string ⟨#[]⟩] 46 (0, 0)) ∧ Below w.heap.size w w') :=
      ⟨(hb.block _ (by simp)).trans (heap_alloc_new _ _), ((Below.refl _ _).alloc (Nat.le_refl _) _).trans (hb.mono (by simp))⟩
    clear hb
    go_wp2_with (with_reducible refine store_fld rfl (.tmp 4) (.tmp 10) rfl w.heap.size n x _ _ rfl rfl hg.out.1 ?_)
    refine bodyPost_ret (results_row_tmp1 rfl _ _ w.heap.size 46 #[.string n, .string x] (0, 0) _ rfl (setRow_heap _ _ _ _ _ _ hg.out.1) Tryd.underlying46 rfl (by kernel_rfl)) rfl ⟨?_, below_setRow hg.out.2 (Nat.le_refl _) _⟩
    rw [HT.out]; rfl
  · obtain ⟨n, x, e, hT⟩ := optT_shape (namedF fs i)
    have hg := getR_opt fs h1
    rw [hT] at hg
    have HT := Lib.hid hT
    have HG := Lib.hid hg
    have d1 : decide (i ≤ 61) = false := decide_eq_false h1
    have hal := (Below.refl w.heap.size w).alloc (Nat.le_refl _) (.cells #[.string ⟨#[]⟩, .string ⟨#[]⟩] 46)
    have HH := Lib.hid (h.below hal)
    clear hg hT h hal
    go_enter Tryd.func26, Tryd.ntmps26
    go_wp2_with fail
    refine (refGet7_any T base b m (i - 61) v fs _ HH.out).mono ?_
    rintro e w' ⟨rfl, hb⟩
    rw [HG.out]
    have hg : Hid (w'.heap[w.heap.size]? = some (.cells #[.string ⟨#[]⟩, .string ⟨#[]⟩] 46 (0, 0)) ∧ Below w.heap.size w w') :=
      ⟨(hb.block _ (by simp)).trans (heap_alloc_new _ _), ((Below.refl _ _).alloc (Nat.le_refl _) _).trans (hb.mono (by simp))⟩
    clear hb
    go_wp2_with (with_reducible refine store_fld rfl (.tmp 4) (.tmp 16) rfl w.heap.size n x _ _ rfl rfl hg.out.1 ?_)
    refine bodyPost_ret (results_row_tmp1 rfl _ _ w.heap.size 46 #[.string n, .string x] (0, 0) _ rfl (setRow_heap _ _ _ _ _ _ hg.out.1) Tryd.underlying46 rfl (by kernel_rfl)) rfl ⟨?_, below_setRow hg.out.2 (Nat.le_refl _) _⟩
    rw [HT.out]; rfl

/-- 'append(l, f)': one field more behind a row of fields of the call's own -/
theorem app_fld {Z : World} {ops : Array Oper} {rest : List Oper} {o : Oper} {a : Act} {Q : Exit → Act → World → Prop} (hgd : o.guard = none) (s x : Operand)
    (ho : o.op = .call { callee := .builtin .append, args := #[s, x], argTypes := #[33, 33] }) (base : Nat) (v : Value) (fs : List Fd) (hs : a.eval s = v) (hr : RowF Z base v fs) (g : Nat) (f : Fd) (hx : a.eval x = .slice (some ⟨g, 0, none⟩) 1 1)
    (hf : FldAt Z g f.1 f.2) (hl : fs.length ≤ 1000000) (hbase : base ≤ Z.heap.size)
    (h : ∀ (v' : Value) (Z' : World), RowF Z' base v' (fs ++ [f]) → Z.grownBy Z' v.ownBlock → From Z v v' → wpList Tryd.prog ops Q rest (a.put o.dst v') Z') : wpList Tryd.prog ops Q (o :: rest) a Z := by
  obtain ⟨i0, hi, hz0, hz1, hz2⟩ := info_parts sizeFld
  refine wpList_append_own_at Z hgd s x 33 ho base 46 i0 _ 2 32 sliceFld hi hz0 hz1 hz2 rfl (by decide) v fs.length (fcs fs) hs hr ⟨g, 0, none⟩ 1 1 (fcs [f]) hx (fcs_length _) (fcs_one_at Z g f hf) (fcs_oneCell _) (by unfold maxLen; omega) (by omega) hbase ?_
  intro v' Z' hown hg _ hat
  refine h v' Z' ?_ hg (fun k hk => ?_)
  · unfold RowF
    rw [List.length_append, List.length_singleton, fcs_append]
    exact hown
  · rcases hat with hat | hat
    · exact .inl (hat ▸ hk)
    · rw [hat] at hk
      exact .inr (by cases hk; exact Nat.le_refl _)

/-- the reference's reading: the table, the list, behind what was turned since w -/
def RfP (b : Int) (base : Nat) (w : World) (T : Nat) (v0 : Value) (most : Int) (fs : List Fd) (lv : Value) (out : List Fd) (Z : World) : Prop :=
  ∃ v, TabR Z base T b most v fs ∧ RowF Z w.heap.size lv out ∧ (∀ g, lv.ownBlock = some g → v.ownBlock ≠ some g) ∧ From w v0 v ∧ Mv T v0 w Z
def TrP (b : Int) (base : Nat) (w : World) (T : Nat) (v0 : Value) (r : Rs) (Z : World) : Prop := ∃ v, TabR Z base T b r.most v r.fs ∧ From w v0 v ∧ Mv T v0 w Z
theorem RfP.tr {b : Int} {base : Nat} {w : World} {T : Nat} {v0 : Value} {r : Rs} {lv : Value} {out : List Fd} {Z : World} (h : RfP b base w T v0 r.most r.fs lv out Z) : TrP b base w T v0 r Z := by
  obtain ⟨v, h1, _, _, h4, h5⟩ := h
  exact ⟨v, h1, h4, h5⟩
theorem RfP.grows {b : Int} {base : Nat} {w : World} {T : Nat} {v0 : Value} {most : Int} {fs out : List Fd} {lv : Value} {Z Z' : World} (h : RfP b base w T v0 most fs lv out Z) (hb : Below Z.heap.size Z Z') : RfP b base w T v0 most fs lv out Z' := by
  obtain ⟨v, h1, h2, h3, h4, h5⟩ := h
  exact ⟨v, h1.below hb, h2.below hb, h3, h4, h5.trans (Mv.of (v := v0) hb) (fun g hg => .inl hg)⟩
theorem TrP.grows {b : Int} {base : Nat} {w : World} {T : Nat} {v0 : Value} {r : Rs} {Z Z' : World} (h : TrP b base w T v0 r Z) (hb : Below Z.heap.size Z Z') : TrP b base w T v0 r Z' := by
  obtain ⟨v, h1, h4, h5⟩ := h
  exact ⟨v, h1.below hb, h4, h5.trans (Mv.of (v := v0) hb) (fun g hg => .inl hg)⟩
/-- the table is another one -/
theorem RfP.moved {b : Int} {base : Nat} {w : World} {T : Nat} {v0 v v' : Value} {most most' : Int} {fs fs' out : List Fd} {lv : Value} {Z Z' : World} (h1 : TabR Z base T b most v fs) (h2 : RowF Z w.heap.size lv out) (h3 : ∀ g, lv.ownBlock = some g → v.ownBlock ≠ some g) (h4 : From w v0 v) (h5 : Mv T v0 w Z)
    (hT : TabR Z' base T b most' v' fs') (hf : From Z v v') (hm : Mv T v Z Z') : RfP b base w T v0 most' fs' lv out Z' := by
  refine ⟨v', hT, h2.of_block (fun g hg => hm.block g (h2.lt g hg).2 (fun e => h1.2.1.apart h2 (by rw [hg, e])) (h3 g hg)), fun g hg e => ?_, h4.trans hf h5.size, h5.trans hm h4⟩
  rcases hf g e with h | h
  · exact h3 g hg h
  · have := (h2.lt g hg).2
    omega
/-- a field comes to the list -/
theorem RfP.app {b : Int} {base : Nat} {w : World} {T : Nat} {v0 : Value} {most : Int} {fs out out' : List Fd} {lv lv' : Value} {Z Z' : World} (h : RfP b base w T v0 most fs lv out Z) (hr : RowF Z' w.heap.size lv' out') (hg : Z.grownBy Z' lv.ownBlock) (hf : From Z lv lv') : RfP b base w T v0 most fs lv' out' Z' := by
  obtain ⟨v, h1, h2, h3, h4, h5⟩ := h
  refine ⟨v, h1.of_blocks (hg.block _ h1.2.1.lt (fun e => h1.2.1.apart h2 e.symm)) (fun g hgv => hg.block g (h1.2.2.lt g hgv).2 (fun e => h3 g e.symm hgv)), hr, fun g hgl e => ?_, h4, ?_⟩
  · rcases hf g hgl with h | h
    · exact h3 g h e
    · have := (h1.2.2.lt g e).2
      omega
  · exact ⟨hg.os.trans h5.os, hg.tape.trans h5.tape, hg.output.trans h5.output, Nat.le_trans h5.size hg.size, fun k hk e1 e2 => (hg.block k (by have := h5.size; omega) (fun e => by have := (h2.lt k e.symm).1; omega)).trans (h5.block k hk e1 e2)⟩
end Go.Proofs.YtenapfpkegoonaaDoor

/-
  Layer 9, the reference: Decode.
-/
namespace Go.Proofs.YtenapfpkegoonaaDoor
set_option maxRecDepth 20000
open Go.RowKit

theorem Stand.all {zs : List Int} {p j : Nat} (h : Stand zs p j) : j ≤ zs.length := Nat.le_trans h.2.2 (items_length zs)
set_option maxHeartbeats 4000000 in
theorem refBDec_any (T base : Nat) (b m limit : Int) (v u : Value) (fs : List Fd) (zs : List Int) (w : World) (hT : TabR w base T b m v fs) (hs : Sl .u8 w u zs) (hz : zs.length ≤ 5000) (hfar : Far T v u)
    (hb : b ≤ 4096) (hm : 0 ≤ m ∧ m ≤ b) (hsum : (sumF fs : Int) ≤ m) (hbase : base ≤ w.heap.size) :
    Calls Tryd.prog 11 #[.pointer (some ⟨T, 0, none⟩), u, .int .i64 limit] w fun e w' => ∃ lv, e = .returned (.tuple #[lv, .bool (tellC limit (readB b m fs zs)), .int .i64 (tellE (readB b m fs zs))]) ∧
      RowF w' w.heap.size lv (tellB limit (readB b m fs zs)) ∧ TrP b base w T v (readB b m fs zs).1 w' := by
  have hfit := hs.fit
  obtain ⟨a, cap, hu, _⟩ := id hs
  subst hu
  obtain ⟨r0, hr0⟩ : ∃ r0 : Rs, r0 = ⟨0, m, fs, []⟩ := ⟨_, rfl⟩
  have hok0 : r0.Ok b := by rw [hr0]; exact ⟨Nat.zero_le _, hm.1, hm.2, hsum, fun f hf => by simp at hf⟩
  obtain ⟨X, hX⟩ : ∃ X, X = readB b m fs zs := ⟨_, rfl⟩
  have hX2 : X = foldI b r0 (itemsOf zs) := by rw [hX, hr0]; rfl
  rw [← hX]
  have HX := Lib.hid hX2
  have HIN := Lib.hid (And.intro hs hfar)
  have HOK := Lib.hid (items_ok hfit)
  have hR0 : RfP b base w T v r0.most r0.fs (.slice none 0 0) r0.out w := by
    rw [hr0]; exact ⟨v, hT, RowF.nil _ _, fun g hg => (by cases hg), From.refl _ _, Mv.refl _ _ _⟩
  have HR0 := Lib.hid (And.intro hok0 hR0)
  have hr0s : (r0.s : Int) = 0 := by rw [hr0]; rfl
  have hr0o : r0.out.length = 0 := by rw [hr0]; rfl
  obtain ⟨N, hN⟩ : ∃ N, N = zs.length := ⟨_, rfl⟩
  have HN := Lib.hid hN
  rw [← hN] at hz ⊢
  clear hX hX2 hN hT hs hfar hok0 hR0 hm hsum hr0
  go_enter Tryd.func11, Tryd.ntmps11
  go_wp2_with fail
  go_loopg [9, 10, 11] N (fun q s9 s10 s11 wr => ∃ (p j : Nat) (r : Rs), p + q = N ∧ s11 = .int .i64 (p : Int) ∧ Hid (Stand zs p j) ∧ s10 = .int .i64 (r.s : Int) ∧ Hid (foldI b r0 ((itemsOf zs).take j) = (r, true) ∧ r.Ok b ∧ r.out.length ≤ j ∧ RfP b base w T v r.most r.fs s9 r.out wr))
  case atStart => exact ⟨0, 0, r0, by omega, rfl, Stand.start zs, by rw [hr0s], ⟨rfl, HR0.out.1, by omega, HR0.out.2⟩⟩
  case round =>
    obtain ⟨p, j, r, hpq, rfl, HST, rfl, HF⟩ := hrel
    have hp : p ≤ N := by omega
    have HPQ := Lib.hid hpq
    have hjN : j ≤ N := by rw [HN.out]; exact HST.out.all
    clear hpq hr0s hr0o
    obtain ⟨no, hno⟩ : ∃ no, no = r.out.length := ⟨_, rfl⟩
    have HNO := Lib.hid hno
    have hnoj : no ≤ j := by rw [hno]; exact HF.out.2.2.1
    have hs9 : ∃ au cu, u9 = .slice au no cu := by
      obtain ⟨_, _, hr, _⟩ := HF.out.2.2.2
      obtain ⟨au, cu, e⟩ := hr.shape
      exact ⟨au, cu, by rw [hno]; exact e⟩
    obtain ⟨au, cu, rfl⟩ := hs9
    clear hno
    obtain ⟨ns, hns⟩ : ∃ ns : Nat, ns = r.s := ⟨_, rfl⟩
    rw [← hns]
    have HNS := Lib.hid hns
    have hns2 : ns ≤ 2 := by rw [hns]; exact HF.out.2.1.s2
    clear hns
    by_cases hlt : p < N
    · obtain ⟨v1, hv1⟩ : ∃ v1, TabR wr base T b r.most v1 r.fs ∧ RowF wr w.heap.size (.slice au no cu) r.out ∧ (∀ g, (Value.slice au no cu).ownBlock = some g → v1.ownBlock ≠ some g) ∧ From w v v1 ∧ Mv T v w wr := HF.out.2.2.2
      have hsl := HIN.out.1.moved HIN.out.2 hv1.2.2.2.2
      have HV1 := Lib.hid hv1
      have hwr : w.heap.size ≤ wr.heap.size := hv1.2.2.2.2.size
      clear hv1
      rw [← HN.out] at hsl
      obtain ⟨u, hu, hsu⟩ := Sl.from_ (P := Tryd.prog) (t := 30) Tryd.underlying30 (fun _ => by kernel_rfl) hsl (p : Int) (by omega) (by rw [← HN.out]; omega)
      rw [Int.toNat_natCast] at hsu
      obtain ⟨hnx, hjl, htk, hok, hend⟩ := HST.out.next hfit (by rw [← HN.out]; exact hlt)
      have hdl : (zs.drop p).length ≤ 1000000 := by rw [List.length_drop, ← HN.out]; omega
      obtain ⟨D, hD⟩ : ∃ D, D = decI 65536 (zs.drop p) := ⟨_, rfl⟩
      have hdec := refIDec_any u (zs.drop p) 65536 wr hsu hdl
      rw [← hD] at hnx htk hok hend hdec
      have hD1 := HOK.out D (List.mem_of_getElem? hnx)
      have HDEC := Lib.hid hdec
      have HS := Lib.hid (And.intro hjl (And.intro htk (And.intro hok (And.intro hend hD1))))
      clear hdec hnx hjl htk hok hend hD hsu hsl hD1
      obtain ⟨k, m1, x, y, uu, c, hdv⟩ : ∃ k m x y u c, D = ⟨k, m, x, y, u, c⟩ := ⟨_, _, _, _, _, _, rfl⟩
      obtain ⟨s, hs⟩ : ∃ s, strOfNums x = s := ⟨_, rfl⟩
      obtain ⟨t, ht⟩ : ∃ t, strOfNums y = t := ⟨_, rfl⟩
      have HV5 := Lib.hid (show D.val = .tuple #[.agg #[.int .i64 k, .int .i64 m1, .string s, .string t], .int .i64 uu, .int .i64 c] by rw [hdv, ← hs, ← ht]; rfl)
      have HD := Lib.hid hdv
      have HST2 := Lib.hid (And.intro hs ht)
      clear hdv hs ht
      by_cases hc : c = 0
      · have d0 : (c != 0) = false := by simpa using hc
        have hck : (c = 0) := hc
        obtain ⟨o1, o2, o3⟩ : 1 ≤ uu ∧ uu ≤ ((zs.length - p : Nat) : Int) ∧ Stand zs (p + uu.toNat) (j + 1) := by
          have := HS.out.2.2.1
          rw [HD.out] at this
          exact this hc
        rw [← HN.out] at o2
        have HO3 := Lib.hid o3
        have hDK := HS.out.2.2.2.2 (by rw [HD.out]; exact hc)
        have hk0 : 0 ≤ k := by have := hDK.k0; rwa [HD.out] at this
        have hm0 : 0 ≤ m1 := by have := hDK.n0; rwa [HD.out] at this
        have hm2 : m1 ≤ 16777215 := by have := hDK.n1; rwa [HD.out] at this
        have hkm : k = 0 → 1 ≤ m1 := by have := hDK.least; rwa [HD.out] at this
        have HDK := Lib.hid hDK
        have hw : IntKind.i64.wrap ((p : Int) + uu) = (p : Int) + uu := IntWalk.i64_in _ (by omega)
        have HSOME := Lib.hid (fun (r' : Rs) (h : stepI b r D = some r') => (show foldI b r0 ((itemsOf zs).take (j + 1)) = (r', true) by
          rw [HS.out.2.1, foldI_one HF.out.1, if_neg (by rw [HD.out]; simpa using hc), h]))
        have HOV := Lib.hid (fun (h : stepI b r D = none) => (show X = (r, false) by
          rw [HX.out, ← List.take_append_drop (j + 1) (itemsOf zs)]
          refine foldI_over ?_
          rw [HS.out.2.1, foldI_one HF.out.1, if_neg (by rw [HD.out]; simpa using hc), h]))
        clear o3 hDK hc
        go_wp2_with fail
        refine (HDEC.out).mono ?_
        rintro e w5 ⟨rfl, hb5⟩
        rw [HV5.out]
        have hsz5 : wr.heap.size ≤ w5.heap.size := hb5.size
        have HB5 := Lib.hid hb5
        have hbase5 : base ≤ w5.heap.size := by omega
        have hsr : sumF r.fs ≤ 1000000000 := by have := HF.out.2.1.sum; have := HF.out.2.1.mb; omega
        have hTlt : T < wr.heap.size := HV1.out.1.2.1.lt
        have hvlt : ∀ g, v1.ownBlock = some g → g < wr.heap.size := fun g hg => (HV1.out.1.2.2.lt g hg).2
        clear hb5
        by_cases h4 : k = 4
        · have d4 : (k == 4) = true := by simpa using h4
          have HSZ := Lib.hid (show stepI b r D = if r.out = [] ∧ r.s < 2 ∧ 0 ≤ m1 ∧ m1 ≤ b then some ⟨r.s + 1, m1, fitF m1 r.fs, r.out⟩ else none by rw [HD.out, stepI]; exact if_pos h4)
          clear h4
          by_cases h0 : no = 0
          · subst h0
            by_cases h2 : ns = 2
            · subst h2
              have HXE := Lib.hid (HOV.out (by rw [HSZ.out, if_neg (by rw [← HNS.out]; rintro ⟨_, h, _⟩; omega)]))
              go_wp2_with fail
              go_ret3
              refine ⟨.slice none 0 0, by rw [HXE.out]; rfl, by rw [HXE.out]; exact RowF.nil _ _, ?_⟩
              rw [HXE.out]
              exact RfP.tr (r := r) (RfP.grows HF.out.2.2.2 ((HB5.out.alloc HB5.out.size _)))

            · have ds : decide ((2 : Int) < (ns : Int) + 1) = false := decide_eq_false (by omega)
              have hno0 : r.out = [] := List.eq_nil_of_length_eq_zero HNO.out.symm
              have HNO0 := Lib.hid hno0
              have HN2 := Lib.hid (show ns < 2 by omega)
              have hZ : Below wr.heap.size wr (w5.alloc (.cells #[.int .i64 k, .int .i64 m1, .string s, .string t] 67)) := (HB5.out.alloc HB5.out.size _)
              have hTZ := HV1.out.1.below hZ
              have HZ := Lib.hid (And.intro hZ hTZ)
              have hbZ : base ≤ (w5.alloc (.cells #[.int .i64 k, .int .i64 m1, .string s, .string t] 67)).heap.size := by simp; omega
              clear hZ hTZ hno0 h2
              go_wp2_with fail
              by_cases hn : 0 ≤ m1 ∧ m1 ≤ b
              · refine (refSet_any T base b r.most m1 v1 r.fs _ HZ.out.2 hn hsr hbZ).mono ?_
                rintro e w8 ⟨rfl, v2, hT8, hf8, hm8⟩
                have HE := Lib.hid (And.intro hn (RfP.moved (v0 := v) (HZ.out.2) (HV1.out.2.1.below HZ.out.1) HV1.out.2.2.1 HV1.out.2.2.2.1 (HV1.out.2.2.2.2.trans (Mv.of (v := v) HZ.out.1) (fun g hg => .inl hg)) hT8 hf8 hm8))
                clear hT8 hf8 hm8 hn hbZ
                go_wp2_with fail
                go_roundg (N - (p + uu.toNat))
                case measure => have := HPQ.out; omega
                case rel =>
                  have hst : stepI b r D = some ⟨r.s + 1, m1, fitF m1 r.fs, r.out⟩ := by rw [HSZ.out, if_pos ⟨HNO0.out, by rw [← HNS.out]; exact HN2.out, HE.out.1⟩]
                  refine ⟨p + uu.toNat, j + 1, ⟨r.s + 1, m1, fitF m1 r.fs, r.out⟩, by omega, by congr 1; omega, HO3.out, by rw [show ((⟨r.s + 1, m1, fitF m1 r.fs, r.out⟩ : Rs).s : Int) = (ns : Int) + 1 by rw [HNS.out]; push_cast; rfl], ?_⟩
                  exact ⟨HSOME.out _ hst, step_ok hst HF.out.2.1 hb HDK.out, by have := HF.out.2.2.1; show r.out.length ≤ _; omega, HE.out.2⟩
              · have HXE := Lib.hid (HOV.out (by rw [HSZ.out, if_neg (fun x => hn x.2.2)]))
                refine (refSet_no T base b r.most m1 v1 r.fs _ HZ.out.2 hn).mono ?_
                rintro e w8 ⟨rfl, hw8⟩
                rw [hw8]
                clear hn hw8 hbZ
                go_wp2_with fail
                go_ret3
                refine ⟨.slice none 0 0, by rw [HXE.out]; rfl, by rw [HXE.out]; exact RowF.nil _ _, ?_⟩
                rw [HXE.out]
                exact RfP.tr (r := r) (RfP.grows HF.out.2.2.2 (HZ.out.1))

          · have d9 : decide ((0 : Int) < (no : Int)) = true := decide_eq_true (by omega)
            have d9b : decide (0 < no) = true := decide_eq_true (by omega)
            have HXE := Lib.hid (HOV.out (by rw [HSZ.out, if_neg (by rintro ⟨h, _⟩; rw [HNO.out, h] at h0; exact h0 rfl)]))
            clear h0
            go_wp2_with fail
            go_ret3
            refine ⟨.slice none 0 0, by rw [HXE.out]; rfl, by rw [HXE.out]; exact RowF.nil _ _, ?_⟩
            rw [HXE.out]
            exact RfP.tr (r := r) (RfP.grows HF.out.2.2.2 ((HB5.out.alloc HB5.out.size _)))
        · have d4 : (k == 4) = false := by simpa using h4
          have HST4 := Lib.hid (show stepI b r D = (fieldF r.fs D).map fun f => ⟨r.s, r.most, if k = 1 then fitF r.most (f :: r.fs) else r.fs, r.out ++ [f]⟩ by rw [HD.out, stepI]; exact if_neg h4)
          have hlen : r.out.length ≤ 1000000 := by rw [← HNO.out]; omega
          clear h4
          by_cases hm10 : m1 = 0
          · subst hm10
            have hk1 : k ≠ 0 := fun e => by have := hkm e; omega
            have HFD := Lib.hid (show fieldF r.fs D = some (s, t) by rw [HD.out, fieldF]; rw [← HST2.out.1, ← HST2.out.2]; exact if_pos ⟨hk1, rfl⟩)
            by_cases h1 : k = 1
            · have d1 : (k == 1) = true := by simpa using h1
              have HK1 := Lib.hid h1
              clear h1
              have hZ : Below wr.heap.size wr ((w5.alloc (.cells #[.int .i64 k, .int .i64 0, .string s, .string t] 67)).alloc (.cells #[.string s, .string t] 46)) := (HB5.out.alloc HB5.out.size _).alloc (by simp; omega) _
              have hTZ := HV1.out.1.below hZ
              have hFZ : FldAt ((w5.alloc (.cells #[.int .i64 k, .int .i64 0, .string s, .string t] 67)).alloc (.cells #[.string s, .string t] 46)) (w5.heap.size + 1) s t := by have := FldAt.new (w5.alloc (.cells #[.int .i64 k, .int .i64 0, .string s, .string t] 67)) s t; simpa using this
              have HZ := Lib.hid (And.intro hZ (And.intro hTZ hFZ))
              have hbZ : base ≤ ((w5.alloc (.cells #[.int .i64 k, .int .i64 0, .string s, .string t] 67)).alloc (.cells #[.string s, .string t] 46)).heap.size := by have := hZ.size; omega
              have hsz2 : sumF ((s, t) :: r.fs) ≤ 1000000000 := by
                have h1 := field_small HFD.out HDK.out (by have := HF.out.2.1.sum; have := HF.out.2.1.mb; omega)
                have h2 : sumF ((s, t) :: r.fs) = szF (s, t) + sumF r.fs := rfl
                have := HF.out.2.1.sum
                have := HF.out.2.1.mb
                omega
              have hadd := refAdd_any T base b r.most v1 r.fs (s, t) _ HZ.out.2.1 hsz2 hbZ
              dsimp only at hadd
              have HADD := Lib.hid hadd
              clear hZ hTZ hFZ hbZ hsz2 hadd
              go_wp2_with fail
              refine (HADD.out).mono ?_
              rintro e w8 ⟨rfl, v2, hT8, hf8, hm8⟩
              have hF8 : FldAt w8 (w5.heap.size + 1) s t := (hm8.block _ HZ.out.2.2.lt (by omega) (fun e => by have := hvlt _ e; omega)).trans HZ.out.2.2
              have q0 := hF8.c0
              have q1 := hF8.c1
              have HM8 := Lib.hid (RfP.moved (v0 := v) HZ.out.2.1 (HV1.out.2.1.below HZ.out.1) HV1.out.2.2.1 HV1.out.2.2.2.1 (HV1.out.2.2.2.2.trans (Mv.of (v := v) HZ.out.1) (fun g hg => .inl hg)) hT8 hf8 hm8)
              clear hT8 hf8 hm8 hF8
              have HRP := Lib.hid (RfP.grows (show RfP b base w T v r.most (fitF r.most ((s, t) :: r.fs)) (.slice au no cu) r.out (w8) from HM8.out) ((Below.refl _ _).alloc (Nat.le_refl _) (.cells #[.string s, .string t] 46)))
              have hru : RowF ((w8).alloc (.cells #[.string s, .string t] 46)) w.heap.size (.slice au no cu) r.out := by
                obtain ⟨_, _, hr, _⟩ := HRP.out
                exact hr
              have hfz : FldAt ((w8).alloc (.cells #[.string s, .string t] 46)) (w8.heap.size) s t := by
                have := FldAt.new (w8) s t
                simpa using this
              have hbz : w.heap.size ≤ ((w8).alloc (.cells #[.string s, .string t] 46)).heap.size := by
                obtain ⟨_, _, _, _, _, hm⟩ := HRP.out
                exact hm.size
              go_wp2_with (at_builtin; refine app_fld rfl (.tmp 86) (.tmp 88) rfl w.heap.size (.slice au no cu) r.out rfl hru (w8.heap.size) (s, t) rfl hfz hlen hbz ?_; intro lv2 Z2 hr2 hg2 hf2; obtain ⟨a2, c2, e2⟩ := hr2.shape; have hl2 : (r.out ++ [(s, t)]).length = no + 1 := (by rw [List.length_append, ← HNO.out]; rfl); rw [hl2] at e2; subst e2; have HO2 := Lib.hid (HRP.out.app hr2 hg2 hf2); clear hr2 hg2 hf2 hl2)
              go_roundg (N - (p + uu.toNat))
              case measure => have := HPQ.out; omega
              case rel =>
                have hst : stepI b r D = some ⟨r.s, r.most, fitF r.most ((s, t) :: r.fs), r.out ++ [(s, t)]⟩ := by rw [HST4.out, HFD.out, Option.map_some, if_pos HK1.out]
                refine ⟨p + uu.toNat, j + 1, ⟨r.s, r.most, fitF r.most ((s, t) :: r.fs), r.out ++ [(s, t)]⟩, by omega, by congr 1; omega, HO3.out, by rw [HNS.out], ?_⟩
                exact ⟨HSOME.out _ hst, step_ok hst HF.out.2.1 hb HDK.out, by have := HF.out.2.2.1; rw [List.length_append, List.length_singleton]; omega, HO2.out⟩
            · have d1 : (k == 1) = false := by simpa using h1
              have HK1 := Lib.hid h1
              clear h1
              have HRP := Lib.hid (RfP.grows (show RfP b base w T v r.most (r.fs) (.slice au no cu) r.out ((w5.alloc (.cells #[.int .i64 k, .int .i64 0, .string s, .string t] 67)).alloc (.cells #[.string s, .string t] 46)) from RfP.grows HF.out.2.2.2 ((HB5.out.alloc HB5.out.size _).alloc (by simp; omega) _)) ((Below.refl _ _).alloc (Nat.le_refl _) (.cells #[.string s, .string t] 46)))
              have hru : RowF (((w5.alloc (.cells #[.int .i64 k, .int .i64 0, .string s, .string t] 67)).alloc (.cells #[.string s, .string t] 46)).alloc (.cells #[.string s, .string t] 46)) w.heap.size (.slice au no cu) r.out := by
                obtain ⟨_, _, hr, _⟩ := HRP.out
                exact hr
              have hfz : FldAt (((w5.alloc (.cells #[.int .i64 k, .int .i64 0, .string s, .string t] 67)).alloc (.cells #[.string s, .string t] 46)).alloc (.cells #[.string s, .string t] 46)) (w5.heap.size + 1 + 1) s t := by
                have := FldAt.new ((w5.alloc (.cells #[.int .i64 k, .int .i64 0, .string s, .string t] 67)).alloc (.cells #[.string s, .string t] 46)) s t
                simpa using this
              have hbz : w.heap.size ≤ (((w5.alloc (.cells #[.int .i64 k, .int .i64 0, .string s, .string t] 67)).alloc (.cells #[.string s, .string t] 46)).alloc (.cells #[.string s, .string t] 46)).heap.size := by
                obtain ⟨_, _, _, _, _, hm⟩ := HRP.out
                exact hm.size
              go_wp2_with (at_builtin; refine app_fld rfl (.tmp 86) (.tmp 88) rfl w.heap.size (.slice au no cu) r.out rfl hru (w5.heap.size + 1 + 1) (s, t) rfl hfz hlen hbz ?_; intro lv2 Z2 hr2 hg2 hf2; obtain ⟨a2, c2, e2⟩ := hr2.shape; have hl2 : (r.out ++ [(s, t)]).length = no + 1 := (by rw [List.length_append, ← HNO.out]; rfl); rw [hl2] at e2; subst e2; have HO2 := Lib.hid (HRP.out.app hr2 hg2 hf2); clear hr2 hg2 hf2 hl2)
              go_roundg (N - (p + uu.toNat))
              case measure => have := HPQ.out; omega
              case rel =>
                have hst : stepI b r D = some ⟨r.s, r.most, r.fs, r.out ++ [(s, t)]⟩ := by rw [HST4.out, HFD.out, Option.map_some, if_neg HK1.out]
                refine ⟨p + uu.toNat, j + 1, ⟨r.s, r.most, r.fs, r.out ++ [(s, t)]⟩, by omega, by congr 1; omega, HO3.out, by rw [HNS.out], ?_⟩
                exact ⟨HSOME.out _ hst, step_ok hst HF.out.2.1 hb HDK.out, by have := HF.out.2.2.1; rw [List.length_append, List.length_singleton]; omega, HO2.out⟩
          · have dm : decide ((0 : Int) < m1) = true := decide_eq_true (by omega)
            obtain ⟨n0, v0, e0, hS⟩ := optT_shape (namedF r.fs m1)
            have HSH := Lib.hid hS
            have HFN := Lib.hid (show optT (fieldF r.fs D) = .tuple #[.agg #[.string n0, .string (if k ≠ 0 ∧ e0 = 0 then t else v0)], .int .i64 e0] by
              have := field_named (fs := r.fs) (d := D) (n := n0) (v := v0) (e := e0) (by rw [HD.out]; exact fun x => hm10 x.2) (by rw [HD.out]; exact hS)
              rw [this, HD.out, ← HST2.out.2])
            have hZ7 : Below wr.heap.size wr ((w5.alloc (.cells #[.int .i64 k, .int .i64 m1, .string s, .string t] 67)).alloc (.cells #[.string s, .string t] 46)) := (HB5.out.alloc HB5.out.size _).alloc (by simp; omega) _
            have hnm := refNamed_any T base b r.most m1 v1 r.fs _ (HV1.out.1.below hZ7) ⟨hm0, hm2⟩
            have hIM : ItAt ((w5.alloc (.cells #[.int .i64 k, .int .i64 m1, .string s, .string t] 67)).alloc (.cells #[.string s, .string t] 46)) w5.heap.size 67 k m1 s t := ItAt.grown (W := w5.alloc (.cells #[.int .i64 k, .int .i64 m1, .string s, .string t] 67)) (heap_alloc_new _ _) ((Below.refl _ _).alloc (Nat.le_refl _) _)
            have hFM : FldAt ((w5.alloc (.cells #[.int .i64 k, .int .i64 m1, .string s, .string t] 67)).alloc (.cells #[.string s, .string t] 46)) (w5.heap.size + 1) s t := by have := FldAt.new (w5.alloc (.cells #[.int .i64 k, .int .i64 m1, .string s, .string t] 67)) s t; simpa using this
            have HNM := Lib.hid (And.intro hnm (And.intro hZ7 (And.intro hIM hFM)))
            clear hS hZ7 hnm hIM hFM
            go_wp2_with fail
            refine (HNM.out.1).mono ?_
            rintro e w7 ⟨rfl, hb7⟩
            rw [HSH.out]
            have hB7 : Below wr.heap.size wr w7 := HNM.out.2.1.trans (hb7.mono HNM.out.2.1.size)
            have hI7 := HNM.out.2.2.1.grown hb7
            have hF7 := HNM.out.2.2.2.grown hb7
            have hN7 : w5.heap.size + 1 < w7.heap.size := hF7.lt
            have HB7 := Lib.hid (And.intro hB7 (And.intro hI7 hF7))
            clear hb7
            by_cases he : e0 = 0
            · have de : (e0 != 0) = false := by simpa using he
              have HE := Lib.hid he
              have u0 := hF7.c0
              have u1 := hF7.c1
              have uf0 : w7.frozen? ⟨w5.heap.size + 1, 0, none⟩ = false := hF7.free
              have uf1 : w7.frozen? ⟨w5.heap.size + 1, 1, none⟩ = false := hF7.free
              have hZa : Below wr.heap.size wr ((w7.setCell ⟨w5.heap.size + 1, 0, none⟩ (.string n0)).alloc (.cells #[.string n0, .string v0] 46)) := (hB7.setCell (p := ⟨w5.heap.size + 1, 0, none⟩) (by show wr.heap.size ≤ w5.heap.size + 1; omega) _).alloc (by simp; omega) _
              have hFa : FldAt ((w7.setCell ⟨w5.heap.size + 1, 0, none⟩ (.string n0)).alloc (.cells #[.string n0, .string v0] 46)) (w5.heap.size + 1) n0 t := (hF7.put0 n0).grown ((Below.refl _ _).alloc (Nat.le_refl _) _)
              have hIa : ItAt ((w7.setCell ⟨w5.heap.size + 1, 0, none⟩ (.string n0)).alloc (.cells #[.string n0, .string v0] 46)) w5.heap.size 67 k m1 s t := ItAt.grown (W := w7.setCell ⟨w5.heap.size + 1, 0, none⟩ (.string n0)) ((Below.heap_setCell _ _ _ _ (by show w5.heap.size ≠ w5.heap.size + 1; omega)).trans hI7) ((Below.refl _ _).alloc (Nat.le_refl _) _)
              have y0 := hIa.c0
              have z0 := hFa.c0
              have z1 := hFa.c1
              have HA := Lib.hid (And.intro hZa (And.intro hFa hIa))
              clear hB7 hI7 hF7 he hFa hIa
              by_cases hk : k = 0
              · subst hk
                have HFD := Lib.hid (show fieldF r.fs D = some (n0, v0) by
                  have h := HFN.out
                  rw [if_neg (fun x => x.1 rfl)] at h
                  rcases fieldT_cases (fs := r.fs) (d := D) with ⟨f, hf, hv⟩ | ⟨hf, hv⟩
                  · rw [hv] at h
                    simp only [Value.tuple.injEq, Array.mk.injEq, List.cons.injEq, Value.agg.injEq, Value.string.injEq, Value.int.injEq, and_true, true_and] at h
                    rw [hf]
                    exact congrArg some (Prod.ext h.1.1 h.1.2)
                  · rw [hv] at h
                    simp only [Value.tuple.injEq, Array.mk.injEq, List.cons.injEq, Value.agg.injEq, Value.string.injEq, Value.int.injEq, and_true, true_and] at h
                    have := h.2
                    have := HE.out
                    omega)
                have hZb : Below wr.heap.size wr (((w7.setCell ⟨w5.heap.size + 1, 0, none⟩ (.string n0)).setCell ⟨w5.heap.size + 1, 1, none⟩ (.string v0)).alloc (.cells #[.string n0, .string v0] 46)) := ((HB7.out.1.setCell (p := ⟨w5.heap.size + 1, 0, none⟩) (by show wr.heap.size ≤ w5.heap.size + 1; omega) _).setCell (p := ⟨w5.heap.size + 1, 1, none⟩) (by show wr.heap.size ≤ w5.heap.size + 1; omega) _).alloc (by simp; omega) _
                have hFb : FldAt (((w7.setCell ⟨w5.heap.size + 1, 0, none⟩ (.string n0)).setCell ⟨w5.heap.size + 1, 1, none⟩ (.string v0)).alloc (.cells #[.string n0, .string v0] 46)) (w5.heap.size + 1) n0 v0 := ((HB7.out.2.2.put0 n0).put1 v0).grown ((Below.refl _ _).alloc (Nat.le_refl _) _)
                have hIb : ItAt (((w7.setCell ⟨w5.heap.size + 1, 0, none⟩ (.string n0)).setCell ⟨w5.heap.size + 1, 1, none⟩ (.string v0)).alloc (.cells #[.string n0, .string v0] 46)) w5.heap.size 67 0 m1 s t := ItAt.grown (W := (w7.setCell ⟨w5.heap.size + 1, 0, none⟩ (.string n0)).setCell ⟨w5.heap.size + 1, 1, none⟩ (.string v0)) ((Below.heap_setCell _ _ _ _ (by show w5.heap.size ≠ w5.heap.size + 1; omega)).trans ((Below.heap_setCell _ _ _ _ (by show w5.heap.size ≠ w5.heap.size + 1; omega)).trans HB7.out.2.1)) ((Below.refl _ _).alloc (Nat.le_refl _) _)
                have yb := hIb.c0
                have zb0 := hFb.c0
                have zb1 := hFb.c1
                clear hFb hIb hZa
                have HRP := Lib.hid (RfP.grows (show RfP b base w T v r.most (r.fs) (.slice au no cu) r.out (((w7.setCell ⟨w5.heap.size + 1, 0, none⟩ (.string n0)).setCell ⟨w5.heap.size + 1, 1, none⟩ (.string v0)).alloc (.cells #[.string n0, .string v0] 46)) from RfP.grows HF.out.2.2.2 hZb) ((Below.refl _ _).alloc (Nat.le_refl _) (.cells #[.string n0, .string v0] 46)))
                have hru : RowF ((((w7.setCell ⟨w5.heap.size + 1, 0, none⟩ (.string n0)).setCell ⟨w5.heap.size + 1, 1, none⟩ (.string v0)).alloc (.cells #[.string n0, .string v0] 46)).alloc (.cells #[.string n0, .string v0] 46)) w.heap.size (.slice au no cu) r.out := by
                  obtain ⟨_, _, hr, _⟩ := HRP.out
                  exact hr
                have hfz : FldAt ((((w7.setCell ⟨w5.heap.size + 1, 0, none⟩ (.string n0)).setCell ⟨w5.heap.size + 1, 1, none⟩ (.string v0)).alloc (.cells #[.string n0, .string v0] 46)).alloc (.cells #[.string n0, .string v0] 46)) (w7.heap.size + 1) n0 v0 := by
                  have := FldAt.new (((w7.setCell ⟨w5.heap.size + 1, 0, none⟩ (.string n0)).setCell ⟨w5.heap.size + 1, 1, none⟩ (.string v0)).alloc (.cells #[.string n0, .string v0] 46)) n0 v0
                  simpa using this
                have hbz : w.heap.size ≤ ((((w7.setCell ⟨w5.heap.size + 1, 0, none⟩ (.string n0)).setCell ⟨w5.heap.size + 1, 1, none⟩ (.string v0)).alloc (.cells #[.string n0, .string v0] 46)).alloc (.cells #[.string n0, .string v0] 46)).heap.size := by
                  obtain ⟨_, _, _, _, _, hm⟩ := HRP.out
                  exact hm.size
                go_wp2_with (at_builtin; refine app_fld rfl (.tmp 86) (.tmp 88) rfl w.heap.size (.slice au no cu) r.out rfl hru (w7.heap.size + 1) (n0, v0) rfl hfz hlen hbz ?_; intro lv2 Z2 hr2 hg2 hf2; obtain ⟨a2, c2, e2⟩ := hr2.shape; have hl2 : (r.out ++ [(n0, v0)]).length = no + 1 := (by rw [List.length_append, ← HNO.out]; rfl); rw [hl2] at e2; subst e2; have HO2 := Lib.hid (HRP.out.app hr2 hg2 hf2); clear hr2 hg2 hf2 hl2)
                go_roundg (N - (p + uu.toNat))
                case measure => have := HPQ.out; omega
                case rel =>
                  have hst : stepI b r D = some ⟨r.s, r.most, r.fs, r.out ++ [(n0, v0)]⟩ := by rw [HST4.out, HFD.out, Option.map_some, if_neg (by decide)]
                  refine ⟨p + uu.toNat, j + 1, ⟨r.s, r.most, r.fs, r.out ++ [(n0, v0)]⟩, by omega, by congr 1; omega, HO3.out, by rw [HNS.out], ?_⟩
                  exact ⟨HSOME.out _ hst, step_ok hst HF.out.2.1 hb HDK.out, by have := HF.out.2.2.1; rw [List.length_append, List.length_singleton]; omega, HO2.out⟩
              · have dk : (k == 0) = false := by simpa using hk
                have HFD := Lib.hid (show fieldF r.fs D = some (n0, t) by
                  have h := HFN.out
                  rw [if_pos ⟨hk, HE.out⟩] at h
                  rcases fieldT_cases (fs := r.fs) (d := D) with ⟨f, hf, hv⟩ | ⟨hf, hv⟩
                  · rw [hv] at h
                    simp only [Value.tuple.injEq, Array.mk.injEq, List.cons.injEq, Value.agg.injEq, Value.string.injEq, Value.int.injEq, and_true, true_and] at h
                    rw [hf]
                    exact congrArg some (Prod.ext h.1.1 h.1.2)
                  · rw [hv] at h
                    simp only [Value.tuple.injEq, Array.mk.injEq, List.cons.injEq, Value.agg.injEq, Value.string.injEq, Value.int.injEq, and_true, true_and] at h
                    have := h.2
                    have := HE.out
                    omega)
                clear hk
                by_cases h1 : k = 1
                · have d1 : (k == 1) = true := by simpa using h1
                  have HK1 := Lib.hid h1
                  clear h1 hZa
                  have hZ : Below wr.heap.size wr ((w7.setCell ⟨w5.heap.size + 1, 0, none⟩ (.string n0)).alloc (.cells #[.string n0, .string v0] 46)) := HA.out.1
                  have hTZ := HV1.out.1.below hZ
                  have hFZ : FldAt ((w7.setCell ⟨w5.heap.size + 1, 0, none⟩ (.string n0)).alloc (.cells #[.string n0, .string v0] 46)) (w5.heap.size + 1) n0 t := HA.out.2.1
                  have HZ := Lib.hid (And.intro hZ (And.intro hTZ hFZ))
                  have hbZ : base ≤ ((w7.setCell ⟨w5.heap.size + 1, 0, none⟩ (.string n0)).alloc (.cells #[.string n0, .string v0] 46)).heap.size := by have := hZ.size; omega
                  have hsz2 : sumF ((n0, t) :: r.fs) ≤ 1000000000 := by
                    have h1 := field_small HFD.out HDK.out (by have := HF.out.2.1.sum; have := HF.out.2.1.mb; omega)
                    have h2 : sumF ((n0, t) :: r.fs) = szF (n0, t) + sumF r.fs := rfl
                    have := HF.out.2.1.sum
                    have := HF.out.2.1.mb
                    omega
                  have hadd := refAdd_any T base b r.most v1 r.fs (n0, t) _ HZ.out.2.1 hsz2 hbZ
                  dsimp only at hadd
                  have HADD := Lib.hid hadd
                  clear hZ hTZ hFZ hbZ hsz2 hadd
                  go_wp2_with fail
                  refine (HADD.out).mono ?_
                  rintro e w8 ⟨rfl, v2, hT8, hf8, hm8⟩
                  have hF8 : FldAt w8 (w5.heap.size + 1) n0 t := (hm8.block _ HZ.out.2.2.lt (by omega) (fun e => by have := hvlt _ e; omega)).trans HZ.out.2.2
                  have q0 := hF8.c0
                  have q1 := hF8.c1
                  have HM8 := Lib.hid (RfP.moved (v0 := v) HZ.out.2.1 (HV1.out.2.1.below HZ.out.1) HV1.out.2.2.1 HV1.out.2.2.2.1 (HV1.out.2.2.2.2.trans (Mv.of (v := v) HZ.out.1) (fun g hg => .inl hg)) hT8 hf8 hm8)
                  clear hT8 hf8 hm8 hF8
                  have HRP := Lib.hid (RfP.grows (show RfP b base w T v r.most (fitF r.most ((n0, t) :: r.fs)) (.slice au no cu) r.out (w8) from HM8.out) ((Below.refl _ _).alloc (Nat.le_refl _) (.cells #[.string n0, .string t] 46)))
                  have hru : RowF ((w8).alloc (.cells #[.string n0, .string t] 46)) w.heap.size (.slice au no cu) r.out := by
                    obtain ⟨_, _, hr, _⟩ := HRP.out
                    exact hr
                  have hfz : FldAt ((w8).alloc (.cells #[.string n0, .string t] 46)) (w8.heap.size) n0 t := by
                    have := FldAt.new (w8) n0 t
                    simpa using this
                  have hbz : w.heap.size ≤ ((w8).alloc (.cells #[.string n0, .string t] 46)).heap.size := by
                    obtain ⟨_, _, _, _, _, hm⟩ := HRP.out
                    exact hm.size
                  go_wp2_with (at_builtin; refine app_fld rfl (.tmp 86) (.tmp 88) rfl w.heap.size (.slice au no cu) r.out rfl hru (w8.heap.size) (n0, t) rfl hfz hlen hbz ?_; intro lv2 Z2 hr2 hg2 hf2; obtain ⟨a2, c2, e2⟩ := hr2.shape; have hl2 : (r.out ++ [(n0, t)]).length = no + 1 := (by rw [List.length_append, ← HNO.out]; rfl); rw [hl2] at e2; subst e2; have HO2 := Lib.hid (HRP.out.app hr2 hg2 hf2); clear hr2 hg2 hf2 hl2)
                  go_roundg (N - (p + uu.toNat))
                  case measure => have := HPQ.out; omega
                  case rel =>
                    have hst : stepI b r D = some ⟨r.s, r.most, fitF r.most ((n0, t) :: r.fs), r.out ++ [(n0, t)]⟩ := by rw [HST4.out, HFD.out, Option.map_some, if_pos HK1.out]
                    refine ⟨p + uu.toNat, j + 1, ⟨r.s, r.most, fitF r.most ((n0, t) :: r.fs), r.out ++ [(n0, t)]⟩, by omega, by congr 1; omega, HO3.out, by rw [HNS.out], ?_⟩
                    exact ⟨HSOME.out _ hst, step_ok hst HF.out.2.1 hb HDK.out, by have := HF.out.2.2.1; rw [List.length_append, List.length_singleton]; omega, HO2.out⟩
                · have d1 : (k == 1) = false := by simpa using h1
                  have HK1 := Lib.hid h1
                  clear h1
                  have HRP := Lib.hid (RfP.grows (show RfP b base w T v r.most (r.fs) (.slice au no cu) r.out ((w7.setCell ⟨w5.heap.size + 1, 0, none⟩ (.string n0)).alloc (.cells #[.string n0, .string v0] 46)) from RfP.grows HF.out.2.2.2 hZa) ((Below.refl _ _).alloc (Nat.le_refl _) (.cells #[.string n0, .string t] 46)))
                  have hru : RowF (((w7.setCell ⟨w5.heap.size + 1, 0, none⟩ (.string n0)).alloc (.cells #[.string n0, .string v0] 46)).alloc (.cells #[.string n0, .string t] 46)) w.heap.size (.slice au no cu) r.out := by
                    obtain ⟨_, _, hr, _⟩ := HRP.out
                    exact hr
                  have hfz : FldAt (((w7.setCell ⟨w5.heap.size + 1, 0, none⟩ (.string n0)).alloc (.cells #[.string n0, .string v0] 46)).alloc (.cells #[.string n0, .string t] 46)) (w7.heap.size + 1) n0 t := by
                    have := FldAt.new ((w7.setCell ⟨w5.heap.size + 1, 0, none⟩ (.string n0)).alloc (.cells #[.string n0, .string v0] 46)) n0 t
                    simpa using this
                  have hbz : w.heap.size ≤ (((w7.setCell ⟨w5.heap.size + 1, 0, none⟩ (.string n0)).alloc (.cells #[.string n0, .string v0] 46)).alloc (.cells #[.string n0, .string t] 46)).heap.size := by
                    obtain ⟨_, _, _, _, _, hm⟩ := HRP.out
                    exact hm.size
                  go_wp2_with (at_builtin; refine app_fld rfl (.tmp 86) (.tmp 88) rfl w.heap.size (.slice au no cu) r.out rfl hru (w7.heap.size + 1) (n0, t) rfl hfz hlen hbz ?_; intro lv2 Z2 hr2 hg2 hf2; obtain ⟨a2, c2, e2⟩ := hr2.shape; have hl2 : (r.out ++ [(n0, t)]).length = no + 1 := (by rw [List.length_append, ← HNO.out]; rfl); rw [hl2] at e2; subst e2; have HO2 := Lib.hid (HRP.out.app hr2 hg2 hf2); clear hr2 hg2 hf2 hl2)
                  go_roundg (N - (p + uu.toNat))
                  case measure => have := HPQ.out; omega
                  case rel =>
                    have hst : stepI b r D = some ⟨r.s, r.most, r.fs, r.out ++ [(n0, t)]⟩ := by rw [HST4.out, HFD.out, Option.map_some, if_neg HK1.out]
                    refine ⟨p + uu.toNat, j + 1, ⟨r.s, r.most, r.fs, r.out ++ [(n0, t)]⟩, by omega, by congr 1; omega, HO3.out, by rw [HNS.out], ?_⟩
                    exact ⟨HSOME.out _ hst, step_ok hst HF.out.2.1 hb HDK.out, by have := HF.out.2.2.1; rw [List.length_append, List.length_singleton]; omega, HO2.out⟩
            · have de : (e0 != 0) = true := by simpa using he
              have HXE := Lib.hid (HOV.out (by
                rw [HST4.out]
                rcases fieldT_cases (fs := r.fs) (d := D) with ⟨f, hf, hv⟩ | ⟨hf, hv⟩
                · have h := HFN.out
                  rw [hv] at h
                  simp only [Value.tuple.injEq, Array.mk.injEq, List.cons.injEq, Value.agg.injEq, Value.string.injEq, Value.int.injEq, and_true, true_and] at h
                  exact absurd h.2.symm he
                · rw [hf, Option.map_none]))
              clear he hB7 hI7 hF7
              go_wp2_with fail
              go_ret3
              refine ⟨.slice none 0 0, by rw [HXE.out]; rfl, by rw [HXE.out]; exact RowF.nil _ _, ?_⟩
              rw [HXE.out]
              exact RfP.tr (r := r) (RfP.grows HF.out.2.2.2 (HB7.out.1.alloc (by omega) _))
      · have d0 : (c != 0) = true := by simpa using hc
        have HXE := Lib.hid (show X = (r, false) by
          have he := HS.out.2.2.2.1
          rw [HD.out] at he
          have h2 := HS.out.2.1
          rw [he hc] at h2
          rw [HX.out, h2, foldI_one HF.out.1, if_pos (by rw [HD.out]; exact hc)])
        clear hc
        go_wp2_with fail
        refine (HDEC.out).mono ?_
        rintro e w5 ⟨rfl, hb5⟩
        rw [HV5.out]
        have HB5 := Lib.hid hb5
        clear hb5
        go_wp2_with fail
        go_ret3
        refine ⟨.slice none 0 0, by rw [HXE.out]; rfl, by rw [HXE.out]; exact RowF.nil _ _, ?_⟩
        rw [HXE.out]
        exact (TrP.grows (RfP.tr (r := r) HF.out.2.2.2) HB5.out).grows ((Below.refl _ _).alloc (Nat.le_refl _) _)
    · obtain rfl : p = N := by omega
      have hXT : X = (r, true) := by
        have h := HST.out.over (by rw [← HN.out]; exact hlt)
        rw [HX.out, ← h]
        exact HF.out.1
      have hso : sumF r.out ≤ 1000000000 := by
        have h1 := out_sum HF.out.2.1.out
        have h2 : r.out.length ≤ 5000 := by rw [← HNO.out]; omega
        omega
      have hslD : SlD wr (.slice au no cu) r.out := by
        obtain ⟨_, _, hr, _⟩ := HF.out.2.2.2
        exact hr.toSl
      have HXT := Lib.hid hXT
      have HSM := Lib.hid (refSum_any _ _ wr hslD hso)
      obtain ⟨S, hS⟩ : ∃ S : Nat, S = sumF r.out := ⟨_, rfl⟩
      rw [← hS] at HSM
      have HSS := Lib.hid hS
      clear hXT hslD hso hlt hS
      go_wp2_with fail
      refine (HSM.out).mono ?_
      rintro e w5 ⟨rfl, hb5⟩
      have hP := HF.out.2.2.2.grows hb5
      have HP := Lib.hid hP
      clear hb5 hP
      by_cases hov : limit < (S : Int)
      · have d : decide (limit < (S : Int)) = true := decide_eq_true hov
        have HO := Lib.hid hov
        clear hov
        go_wp2_with fail
        go_ret3
        have ho : ¬ (sumF r.out : Int) ≤ limit := by rw [← HSS.out]; have := HO.out; omega
        refine ⟨.slice none 0 0, ?_, ?_, by rw [HXT.out]; exact RfP.tr (r := r) HP.out⟩
        · rw [HXT.out, tellC, tellE, if_pos rfl, Bool.true_and, ← HSS.out, d]; rfl
        · rw [HXT.out, tellB, if_pos rfl, tellL_over ho]; exact RowF.nil _ _
      · have d : decide (limit < (S : Int)) = false := decide_eq_false hov
        have HO := Lib.hid hov
        clear hov
        go_wp2_with fail
        go_ret3
        have ho : (sumF r.out : Int) ≤ limit := by rw [← HSS.out]; have := HO.out; omega
        refine ⟨.slice au no cu, ?_, ?_, by rw [HXT.out]; exact RfP.tr (r := r) HP.out⟩
        · rw [HXT.out, tellC, tellE, if_pos rfl, Bool.true_and, ← HSS.out, d]; rfl
        · rw [HXT.out, tellB, if_pos rfl, tellL_fit ho]
          obtain ⟨_, _, hr, _⟩ := HP.out
          exact hr
end Go.Proofs.YtenapfpkegoonaaDoor

/-
  static.Find.
-/
namespace Go.Proofs.YtenapfpkegoonaaDoor
open Go.RowKit

set_option maxHeartbeats 1000000 in
set_option maxRecDepth 20000 in
theorem sfind_any (n v : ByteArray) (w : World) :
    Calls Tryd.prog 56 #[fldV n v] w fun e w' => e = .returned (findT n v) ∧ Below w.heap.size w w' := by
  unfold fldV
  go_enter Tryd.func56, Tryd.ntmps56
  go_wp2_with fail
  refine (fields_any _).mono ?_
  rintro e w1 ⟨rfl, hb1⟩
  have hf1 : FldAt w1 w.heap.size n v := (FldAt.new w n v).grown hb1
  have hB1 : Below w.heap.size w w1 := ((Below.refl _ _).alloc (Nat.le_refl _) _).trans (hb1.mono (by simp))
  clear hb1
  have HF := Lib.hid hf1
  have HB := Lib.hid hB1
  clear hf1 hB1
  go_wp2_with fail
  go_loopg [4, 8] 61 (fun g s4 s8 wr => ∃ k : Nat, k + g = 61 ∧ s8 = .int .i64 k ∧ s4 = .int .i64 (nameTo n k) ∧ Hid (bothTo n v k = 0) ∧ Hid (FldAt wr w.heap.size n v ∧ Below w.heap.size w wr))
  case atStart => exact ⟨0, rfl, rfl, rfl, Lib.hid rfl, Lib.hid ⟨HF.out, HB.out⟩⟩
  case round =>
    obtain ⟨k, hkg, rfl, rfl, H0, HW⟩ := hrel
    clear HF HB
    have HKG := Lib.hid hkg
    have hk : k ≤ 61 := by omega
    clear hkg
    have hn := nameTo_le n k
    obtain ⟨m, hm⟩ : ∃ m, nameTo n k = m := ⟨_, rfl⟩
    have HM := Lib.hid hm
    rw [hm] at hn ⊢
    clear hm
    by_cases hlt : k < 61
    · obtain ⟨a, ha⟩ : ∃ a, fNm k = a := ⟨_, rfl⟩
      obtain ⟨b, hb⟩ : ∃ b, fVl k = b := ⟨_, rfl⟩
      have hx : ∀ (q : IntKind) (W : World), (Instr.index 127 (.agg statV) (.int q (k : Int))).run Tryd.prog W = .ok (.agg #[.string a, .string b]) W := by
        rw [← ha, ← hb]; exact run_static k hlt
      have HA := Lib.hid ha
      have HBV := Lib.hid hb
      clear ha hb
      have c0 := HW.out.1.c0
      have c1 := HW.out.1.c1
      have hsz := HW.out.1.lt
      by_cases hboth : a = n ∧ b = v
      · obtain ⟨rfl, rfl⟩ := hboth
        have heq := fld_eql a b a b
        rw [eqB_iff.2 rfl, eqB_iff.2 rfl] at heq
        have HR := Lib.hid (find_both H0.out hlt HA.out HBV.out)
        go_wp2_with fail
        go_ret2
        exact ⟨by rw [HR.out, Int.add_comm]; rfl, HW.out.2.alloc HW.out.2.size _⟩
      · have heq := fld_eql a b n v
        have hne : (eqB a n && eqB b v) = false := by
          rw [Bool.eq_false_iff]
          intro h
          rw [Bool.and_eq_true, eqB_iff, eqB_iff] at h
          exact hboth h
        rw [hne] at heq
        clear hne
        have H1 := Lib.hid (bothTo_next H0.out (fun h => hboth ⟨HA.out.symm.trans h.1, HBV.out.symm.trans h.2⟩))
        have HW2 : ∀ (n0 v0 : ByteArray), Hid (FldAt (wr.alloc (.cells #[.string n0, .string v0] 46)) w.heap.size n v ∧ Below w.heap.size w (wr.alloc (.cells #[.string n0, .string v0] 46))) := fun n0 v0 =>
          ⟨HW.out.1.grown ((Below.refl _ _).alloc (Nat.le_refl _) _), HW.out.2.alloc HW.out.2.size _⟩
        by_cases hm : m = 0
        · have e1 : ((m : Int) == 0) = true := by rw [hm]; rfl
          by_cases han : a = n
          · have e2 : (a.toList == n.toList) = true := eqB_iff.2 han
            have HN := Lib.hid (show nameTo n (k + 1) = k + 1 by rw [nameTo, if_pos ⟨HM.out.trans hm, HA.out.trans han⟩])
            clear hm han hboth
            go_wp2_with fail
            go_roundg (61 - (k + 1))
            case measure => have := HKG.out; omega
            case rel => exact ⟨k + 1, by omega, by go_num, by rw [HN.out]; go_num, H1, HW2 _ _⟩
          · have e2 : (a.toList == n.toList) = false := by rw [Bool.eq_false_iff]; exact fun h => han (eqB_iff.1 h)
            have HN := Lib.hid (show nameTo n (k + 1) = m by rw [nameTo, if_neg (fun h => han (HA.out.symm.trans h.2)), HM.out])
            clear hm han hboth
            go_wp2_with fail
            go_roundg (61 - (k + 1))
            case measure => have := HKG.out; omega
            case rel => exact ⟨k + 1, by omega, by go_num, by rw [HN.out], H1, HW2 _ _⟩
        · have e1 : ((m : Int) == 0) = false := by rw [beq_eq_false_iff_ne]; omega
          have HN := Lib.hid (show nameTo n (k + 1) = m by rw [nameTo, if_neg (fun h => hm (HM.out.symm.trans h.1)), HM.out])
          clear hm hboth
          go_wp2_with fail
          go_roundg (61 - (k + 1))
          case measure => have := HKG.out; omega
          case rel => exact ⟨k + 1, by omega, by go_num, by rw [HN.out], H1, HW2 _ _⟩
    · obtain rfl : k = 61 := by omega
      have HR := Lib.hid (find_name H0.out)
      rw [HM.out] at HR
      clear hlt hk
      go_wp2_with fail
      go_ret2
      exact ⟨by rw [HR.out]; rfl, HW.out.2⟩
end Go.Proofs.YtenapfpkegoonaaDoor

/-
  Layer 9: a list's block, and that it is read as the list. No function of the program is named here.
-/
namespace Go.Proofs.YtenapfpkegoonaaDoor
set_option maxRecDepth 20000
open Go.RowKit

def emp : ByteArray := ⟨#[]⟩
/-- the item that a field is written as -/
def itK (f : Fd) : Int := if findB f.1 f.2 then 0 else 2
def itN (f : Fd) : Int := (findI f.1 f.2 : Nat)
def itA (f : Fd) : ByteArray := if findI f.1 f.2 = 0 then f.1 else emp
def itB (f : Fd) : ByteArray := if findB f.1 f.2 then emp else f.2
def okF (f : Fd) : Prop := f.1.size ≤ 65536 ∧ f.2.size ≤ 65536
instance (f : Fd) : Decidable (okF f) := by unfold okF; infer_instance
def encF (f : Fd) : List Int := encI (itK f) (itN f) (itA f) (itB f)
def encLs (l : List Fd) : List Int := l.flatMap encF
def headB (first : Bool) : List Int := if first then [32] else []
def encB (first : Bool) (l : List Fd) : List Int := headB first ++ encLs l
/-- the block, and the error -/
def encR (first : Bool) (l : List Fd) : List Int × Int := if ∀ f ∈ l, okF f then (encB first l, 0) else ([], 1)
theorem encLs_snoc (l : List Fd) (f : Fd) : encLs (l ++ [f]) = encLs l ++ encF f := by simp [encLs]
theorem encLs_cons (f : Fd) (l : List Fd) : encLs (f :: l) = encF f ++ encLs l := by simp [encLs]
theorem encB_snoc (first : Bool) (l : List Fd) (f : Fd) : encB first (l ++ [f]) = encB first l ++ encF f := by rw [encB, encB, encLs_snoc, List.append_assoc]

theorem fNm_small (i : Nat) : (fNm i).size ≤ 200 ∧ (fVl i).size ≤ 200 := by
  by_cases h : i < 61
  · have h1 := of_decide_eq_true (List.all_eq_true.1 stat_small i (List.mem_range.2 h))
    unfold szF at h1
    dsimp only at h1
    omega
  · have e : statTab[i]? = none := List.getElem?_eq_none (by rw [statTab_len]; omega)
    unfold fNm fVl
    rw [List.getD_eq_getElem?_getD, e]
    decide
/-- what Find says, in one piece -/
theorem find_cases (f : Fd) : (findI f.1 f.2 = 0 ∧ findB f.1 f.2 = false) ∨ ∃ k, k < 61 ∧ findI f.1 f.2 = k + 1 ∧ fNm k = f.1 ∧ (findB f.1 f.2 = true → fVl k = f.2) := by
  rcases find_says f.1 f.2 with ⟨h1, h2⟩ | ⟨k, h1, h2, h3, h4, _⟩
  · exact .inl ⟨h1, h2⟩
  · exact .inr ⟨k, h1, h2, h3, fun h => by
      rcases h4 with h4 | h4
      · exact h4
      · rw [h] at h4; cases h4⟩
theorem texts2 : textsI 2 = true := by decide
theorem texts0 : textsI 0 = false := by decide
theorem texts4 : textsI 4 = false := by decide
theorem size_emp : emp.size = 0 := rfl
theorem right20 (a b : ByteArray) : rightI 2 0 a b ↔ a.size ≤ 65536 ∧ b.size ≤ 65536 :=
  ⟨fun h => ⟨(h.2.2.2.1 texts2).1, (h.2.2.2.1 texts2).2.1⟩, fun h => ⟨by omega, by decide, by decide, fun _ => ⟨h.1, h.2, fun x => absurd rfl x⟩, fun x => by rw [texts2] at x; cases x⟩⟩
theorem right2n {n : Int} (h0 : 1 ≤ n) (h1 : n ≤ 61) (b : ByteArray) : rightI 2 n emp b ↔ b.size ≤ 65536 :=
  ⟨fun h => (h.2.2.2.1 texts2).2.1, fun h => ⟨by omega, by unfold leastI; rw [if_neg (by decide)]; omega, by omega, fun _ => ⟨by rw [size_emp]; omega, h, fun _ => rfl⟩, fun x => by rw [texts2] at x; cases x⟩⟩
theorem right0n {n : Int} (h0 : 1 ≤ n) (h1 : n ≤ 61) : rightI 0 n emp emp :=
  ⟨by omega, by unfold leastI; rw [if_pos rfl]; omega, by omega, fun x => (by rw [texts0] at x; cases x), fun _ => ⟨rfl, rfl⟩⟩
/-- the item's parts, in each way -/
theorem item_parts (f : Fd) : (itK f = 2 ∧ itN f = 0 ∧ itA f = f.1 ∧ itB f = f.2) ∨ (∃ k, k < 61 ∧ itN f = ((k + 1 : Nat) : Int) ∧ fNm k = f.1 ∧ itA f = emp ∧ ((itK f = 2 ∧ itB f = f.2) ∨ (itK f = 0 ∧ itB f = emp ∧ fVl k = f.2))) := by
  rcases find_cases f with ⟨h1, h2⟩ | ⟨k, hk, h1, h2, h3⟩
  · refine .inl ⟨?_, ?_, ?_, ?_⟩
    · unfold itK; rw [h2]; rfl
    · unfold itN; rw [h1]; rfl
    · unfold itA; rw [if_pos h1]
    · unfold itB; rw [h2]; rfl
  · refine .inr ⟨k, hk, ?_, h2, ?_, ?_⟩
    · unfold itN; rw [h1]
    · unfold itA; rw [if_neg (by omega)]
    · cases hb : findB f.1 f.2 with
      | true => exact .inr ⟨by unfold itK; rw [hb]; rfl, by unfold itB; rw [hb]; rfl, h3 hb⟩
      | false => exact .inl ⟨by unfold itK; rw [hb]; rfl, by unfold itB; rw [hb]; rfl⟩
theorem item_right (f : Fd) : rightI (itK f) (itN f) (itA f) (itB f) ↔ okF f := by
  unfold okF
  rcases item_parts f with ⟨e1, e2, e3, e4⟩ | ⟨k, hk, e2, e5, e3, ⟨e1, e4⟩ | ⟨e1, e4, e6⟩⟩
  · rw [e1, e2, e3, e4]; exact right20 _ _
  · have hs := fNm_small k
    rw [e1, e2, e3, e4, right2n (by omega) (by omega), ← e5]
    exact ⟨fun h => ⟨by omega, h⟩, fun h => h.2⟩
  · have hs := fNm_small k
    rw [e1, e2, e3, e4, ← e5, ← e6]
    exact ⟨fun _ => ⟨by omega, by omega⟩, fun _ => right0n (by omega) (by omega)⟩
theorem encT_item (f : Fd) : encT (itK f) (itN f) (itA f) (itB f) = if okF f then (encF f, 0) else ([], 1) := by
  unfold encT
  by_cases h : okF f
  · rw [if_pos h, if_pos ((item_right f).2 h)]; rfl
  · rw [if_neg h, if_neg (fun x => h ((item_right f).1 x))]
theorem encI_size : encI 4 0 emp emp = [32] := by decide
theorem right_size : rightI 4 0 emp emp := by decide
theorem encF_fit {f : Fd} (h : okF f) : Fit .u8 (encF f) := encI_fit ((item_right f).2 h)
theorem encF_len {f : Fd} (h : okF f) : 1 ≤ (encF f).length ∧ (encF f).length ≤ 16 + 4 * f.1.size + 4 * f.2.size := by
  have := encI_length ((item_right f).2 h)
  unfold encF
  have ha : (itA f).size ≤ f.1.size := by unfold itA; split <;> simp [size_emp]
  have hb : (itB f).size ≤ f.2.size := by unfold itB; split <;> simp [size_emp]
  omega
theorem encLs_fit {l : List Fd} (h : ∀ f ∈ l, okF f) : Fit .u8 (encLs l) := by
  intro n hn
  obtain ⟨f, hf, hn⟩ := List.mem_flatMap.1 hn
  exact encF_fit (h f hf) n hn
theorem headB_fit (first : Bool) : Fit .u8 (headB first) := by cases first <;> (intro n hn; simp [headB] at hn) <;> subst hn; decide
theorem encB_fit {first : Bool} {l : List Fd} (h : ∀ f ∈ l, okF f) : Fit .u8 (encB first l) := (headB_fit first).append (encLs_fit h)
theorem headB_len (first : Bool) : (headB first).length ≤ 1 := by cases first <;> simp [headB]
/-- each text of so many bytes at most: how long the block is -/
theorem encLs_len {l : List Fd} {M : Nat} (hM : M ≤ 65536) (h : ∀ f ∈ l, f.1.size ≤ M ∧ f.2.size ≤ M) : (encLs l).length ≤ l.length * (16 + 8 * M) := by
  induction l with
  | nil => simp [encLs]
  | cons f r ih =>
    have h1 := h f List.mem_cons_self
    have h2 := ih (fun x hx => h x (List.mem_cons_of_mem _ hx))
    have h3 := (encF_len (f := f) ⟨by omega, by omega⟩).2
    rw [encLs_cons, List.length_append, List.length_cons, Nat.add_mul, Nat.one_mul]
    omega

/-- a field's item, read -/
theorem dec_encF {f : Fd} (h : okF f) (behind : List Int) : decI 65536 (encF f ++ behind) = ⟨itK f, itN f, nums (itA f), nums (itB f), ((encF f).length : Int), 0⟩ := by
  have ha : (itA f).size ≤ f.1.size := by unfold itA; split <;> simp [size_emp]
  have hb : (itB f).size ≤ f.2.size := by unfold itB; split <;> simp [size_emp]
  have h1 := h.1
  have h2 := h.2
  unfold encF
  exact encI_back ((item_right f).2 h) (most := 65536) (by omega) (by omega) behind
theorem field_nums (fs : List Fd) (k n : Int) (a b : ByteArray) (u e : Int) : fieldF fs ⟨k, n, nums a, nums b, u, e⟩ = if k ≠ 0 ∧ n = 0 then some (a, b) else (namedF fs n).map fun g => (g.1, if k = 0 then g.2 else b) := by
  have ha := str_nums a
  have hb := str_nums b
  generalize nums a = x at *
  generalize nums b = y at *
  subst ha
  subst hb
  rfl
theorem field_back (f : Fd) (fs : List Fd) (u e : Int) : fieldF fs ⟨itK f, itN f, nums (itA f), nums (itB f), u, e⟩ = some f := by
  rw [field_nums]
  rcases item_parts f with ⟨e1, e2, e3, e4⟩ | ⟨k, hk, e2, e5, e3, e6⟩
  · rw [e1, e2, e3, e4, if_pos ⟨by decide, rfl⟩]
  · have hg : namedF fs ((k + 1 : Nat) : Int) = some (fNm k, fVl k) := by
      unfold namedF
      rw [if_pos (by omega), if_pos (by omega)]
      unfold getN getV
      rw [if_pos (by omega), if_pos (by omega), show (((k + 1 : Nat) : Int) - 1).toNat = k by omega]
    rw [e2, if_neg (fun x => by omega), hg, Option.map_some]
    rcases e6 with ⟨e1, e4⟩ | ⟨e1, e4, e6⟩
    · rw [e1, e4, if_neg (by decide), e5]
    · rw [e1, if_pos rfl, e5, e6]
theorem itK_two (f : Fd) : itK f ≠ 4 ∧ itK f ≠ 1 := by unfold itK; split <;> decide
theorem step_back (b : Int) (r : Rs) (f : Fd) (u e : Int) : stepI b r ⟨itK f, itN f, nums (itA f), nums (itB f), u, e⟩ = some ⟨r.s, r.most, r.fs, r.out ++ [f]⟩ := by
  unfold stepI
  rw [if_neg (itK_two f).1, field_back, Option.map_some, if_neg (itK_two f).2]
theorem items_fields : ∀ (l : List Fd) (b : Int) (r : Rs), (∀ f ∈ l, okF f) → foldI b r (itemsOf (encLs l)) = (⟨r.s, r.most, r.fs, r.out ++ l⟩, true)
  | [], b, r, _ => by
    rw [show encLs [] = [] from rfl, items_nil, List.append_nil]; rfl
  | f :: l, b, r, h => by
    have hf := h f List.mem_cons_self
    have hl : ∀ x ∈ l, okF x := fun x hx => h x (List.mem_cons_of_mem _ hx)
    have hfit : Fit .u8 (encF f ++ encLs l) := (encF_fit hf).append (encLs_fit hl)
    have hlen := (encF_len hf).1
    rw [encLs_cons, items_more hfit (by rw [List.length_append]; omega), dec_encF hf, if_neg (by simp)]
    dsimp only
    rw [foldI, if_neg (by simp), step_back]
    dsimp only
    rw [show (encF f ++ encLs l).drop ((encF f).length : Int).toNat = encLs l from drop_head _ _, items_fields l b _ hl]
    dsimp only
    rw [List.append_assoc, List.singleton_append]
theorem fit_zero (l : List Fd) : fitF 0 l = [] := by
  cases l with
  | nil => rfl
  | cons f r => rw [fitF, if_pos (by unfold szF; omega)]
/-- **a block is read as its list; a first one empties the table** -/
theorem read_back (b most : Int) (fs l : List Fd) (first : Bool) (h : ∀ f ∈ l, okF f) (hb : 0 ≤ b) : readB b most fs (encB first l) = (if first then ⟨1, 0, [], l⟩ else ⟨0, most, fs, l⟩, true) := by
  unfold readB
  cases first with
  | false =>
    rw [show encB false l = encLs l from rfl, items_fields l b _ h]
    rfl
  | true =>
    have hfit : Fit .u8 (encB true l) := encB_fit h
    have hd : decI 65536 (encI 4 0 emp emp ++ encLs l) = ⟨4, 0, nums emp, nums emp, 1, 0⟩ := by
      have := encI_back right_size (most := 65536) (by decide) (by decide) (encLs l)
      rw [this, encI_size]; rfl
    rw [encI_size] at hd
    rw [items_more hfit (by simp [encB, headB]), show encB true l = [32] ++ encLs l from rfl, hd, if_neg (by simp)]
    dsimp only
    rw [foldI, if_neg (by simp), stepI, if_pos rfl, if_pos ⟨rfl, Nat.zero_lt_two, Int.le_refl 0, hb⟩]
    show foldI b ⟨1, 0, fitF 0 fs, []⟩ (itemsOf (encLs l)) = _
    rw [fit_zero, items_fields l b _ h]
    rfl
end Go.Proofs.YtenapfpkegoonaaDoor

/-
  Layer 9: itemOf, Encode.
-/
namespace Go.Proofs.YtenapfpkegoonaaDoor
set_option maxRecDepth 20000
open Go.RowKit

set_option maxHeartbeats 1000000 in
theorem itemOf_any (f : Fd) (w : World) :
    Calls Tryd.prog 33 #[.agg #[.string f.1, .string f.2]] w fun e w' => e = .returned (itV (itK f) (itN f) (itA f) (itB f)) ∧ Below w.heap.size w w' := by
  obtain ⟨n, x⟩ := f
  dsimp only
  have hT : findT n x = .tuple #[.int .i64 (findI n x : Nat), .bool (findB n x)] := rfl
  have hpos : findB n x = true → findI n x ≠ 0 := by
    rcases find_cases (n, x) with ⟨h1, h2⟩ | ⟨k, hk, h1, _⟩
    · intro h; rw [h2] at h; cases h
    · intro _; dsimp only at h1; omega
  have HV := Lib.hid (show itV (itK (n, x)) (itN (n, x)) (itA (n, x)) (itB (n, x)) = itV (if findB n x then 0 else 2) (findI n x : Nat) (if findI n x = 0 then n else emp) (if findB n x then emp else x) from rfl)
  have hn61 : findI n x ≤ 61 := by
    rcases find_cases (n, x) with ⟨h1, h2⟩ | ⟨k, hk, h1, _⟩ <;> dsimp only at h1 <;> omega
  obtain ⟨I, hI⟩ : ∃ I, findI n x = I := ⟨_, rfl⟩
  obtain ⟨B, hB⟩ : ∃ B, findB n x = B := ⟨_, rfl⟩
  rw [hI, hB] at hT hpos HV
  rw [hI] at hn61
  have HT := Lib.hid hT
  clear hT hI hB
  have hB2 : Below w.heap.size w ((w.alloc (.cells #[.string n, .string x] 46)).alloc (.cells #[.int .i64 0, .int .i64 0, .string ⟨#[]⟩, .string ⟨#[]⟩] 65)) := ((Below.refl _ _).alloc (Nat.le_refl _) _).alloc (by simp) _
  have hF2 : FldAt ((w.alloc (.cells #[.string n, .string x] 46)).alloc (.cells #[.int .i64 0, .int .i64 0, .string ⟨#[]⟩, .string ⟨#[]⟩] 65)) w.heap.size n x := (FldAt.new w n x).grown ((Below.refl _ _).alloc (Nat.le_refl _) _)
  have hI2 : ItAt ((w.alloc (.cells #[.string n, .string x] 46)).alloc (.cells #[.int .i64 0, .int .i64 0, .string ⟨#[]⟩, .string ⟨#[]⟩] 65)) (w.heap.size + 1) 65 0 0 ⟨#[]⟩ ⟨#[]⟩ := by
    have := heap_alloc_new (w.alloc (.cells #[.string n, .string x] 46)) (.cells #[.int .i64 0, .int .i64 0, .string ⟨#[]⟩, .string ⟨#[]⟩] 65)
    unfold ItAt
    simpa using this
  have H2 := Lib.hid (And.intro hB2 (And.intro hF2 hI2))
  clear hB2 hF2 hI2
  go_enter Tryd.func33, Tryd.ntmps33
  go_wp2_with fail
  refine (sfind_any n x _).mono ?_
  rintro e w1 ⟨rfl, hb⟩
  rw [HT.out]
  have hF1 := H2.out.2.1.grown hb
  have c0 := hF1.c0
  have c1 := hF1.c1
  have HI := Lib.hid (And.intro (H2.out.2.2.grown hb) (H2.out.1.trans (hb.mono H2.out.1.size)))
  clear hb hF1
  cases B with
  | true =>
    have hI0 : I ≠ 0 := hpos rfl
    have HVV := Lib.hid (show itV (itK (n, x)) (itN (n, x)) (itA (n, x)) (itB (n, x)) = .agg #[.int .i64 0, .int .i64 (I : Nat), .string ⟨#[]⟩, .string ⟨#[]⟩] by rw [HV.out, if_pos rfl, if_pos rfl, if_neg hI0]; rfl)
    clear hpos hI0
    go_wp2_with (with_reducible refine store_it rfl (.tmp 2) (.tmp 18) rfl (w.heap.size + 1) 0 (I : Nat) _ _ ⟨#[]⟩ ⟨#[]⟩ _ _ rfl rfl HI.out.1 ?_)
    refine bodyPost_ret (results_row0 rfl _ _ (w.heap.size + 1) 65 #[.int .i64 0, .int .i64 (I : Nat), .string ⟨#[]⟩, .string ⟨#[]⟩] (0, 0) _ rfl (HI.out.1.set 0 (I : Nat) ⟨#[]⟩ ⟨#[]⟩) it_struct rfl (by kernel_rfl)) rfl ⟨?_, below_setRow HI.out.2 (Nat.le_succ _) _⟩
    rw [HVV.out]
  | false =>
    by_cases hI0 : I = 0
    · subst hI0
      have HVV := Lib.hid (show itV (itK (n, x)) (itN (n, x)) (itA (n, x)) (itB (n, x)) = .agg #[.int .i64 2, .int .i64 0, .string n, .string x] by rw [HV.out, if_neg (by decide : ¬ (false = true)), if_pos rfl, if_neg (by decide : ¬ (false = true))]; rfl)
      clear hpos
      go_wp2_with (with_reducible refine store_it rfl (.tmp 2) (.tmp 14) rfl (w.heap.size + 1) 2 0 _ _ n x _ _ rfl rfl HI.out.1 ?_)
      refine bodyPost_ret (results_row0 rfl _ _ (w.heap.size + 1) 65 #[.int .i64 2, .int .i64 0, .string n, .string x] (0, 0) _ rfl (HI.out.1.set 2 0 n x) it_struct rfl (by kernel_rfl)) rfl ⟨?_, below_setRow HI.out.2 (Nat.le_succ _) _⟩
      rw [HVV.out]
    · have d : decide ((0 : Int) < (I : Int)) = true := decide_eq_true (by omega)
      have db : decide (0 < I) = true := decide_eq_true (by omega)
      have HVV := Lib.hid (show itV (itK (n, x)) (itN (n, x)) (itA (n, x)) (itB (n, x)) = .agg #[.int .i64 2, .int .i64 (I : Nat), .string ⟨#[]⟩, .string x] by rw [HV.out, if_neg (by decide : ¬ (false = true)), if_neg hI0, if_neg (by decide : ¬ (false = true))]; rfl)
      clear hpos hI0
      go_wp2_with (with_reducible refine store_it rfl (.tmp 2) (.tmp 25) rfl (w.heap.size + 1) 2 (I : Nat) _ _ ⟨#[]⟩ x _ _ rfl rfl HI.out.1 ?_)
      refine bodyPost_ret (results_row0 rfl _ _ (w.heap.size + 1) 65 #[.int .i64 2, .int .i64 (I : Nat), .string ⟨#[]⟩, .string x] (0, 0) _ rfl (HI.out.1.set 2 (I : Nat) ⟨#[]⟩ x) it_struct rfl (by kernel_rfl)) rfl ⟨?_, below_setRow HI.out.2 (Nat.le_succ _) _⟩
      rw [HVV.out]
theorem encR_yes {first : Bool} {l : List Fd} (h : ∀ f ∈ l, okF f) : encR first l = (encB first l, 0) := if_pos h
theorem encR_no {first : Bool} {l : List Fd} {f : Fd} (hm : f ∈ l) (h : ¬ okF f) : encR first l = ([], 1) := if_neg (fun x => h (x f hm))
/-- what is there of the block so far -/
def PtAt (w : World) (first : Bool) (l : List Fd) (k : Nat) (u : Value) (W : World) : Prop :=
  Below w.heap.size w W ∧ (∀ f ∈ l.take k, okF f) ∧ W.ownsRow w.heap.size 5 1 u (encB first (l.take k)).length ((encB first (l.take k)).map (Value.int .u8))
set_option maxHeartbeats 2000000 in
theorem bEnc_any (v : Value) (l : List Fd) (first : Bool) (w : World) (h : SlD w v l) (hl : l.length ≤ 1000) (hT : ShT w) :
    Calls Tryd.prog 16 #[v, .bool first] w fun e w' => ∃ u, e = .returned (.tuple #[u, .int .i64 (encR first l).2]) ∧ Sl .u8 w' u (encR first l).1 ∧ Below w.heap.size w w' := by
  obtain ⟨a, c, rfl, hc1, hc2⟩ := h.shape
  unfold maxLen at hc2
  obtain ⟨N, hN⟩ : ∃ N, N = l.length := ⟨_, rfl⟩
  rw [← hN] at h hc1 hl ⊢
  have HN := Lib.hid hN
  have HT := Lib.hid hT
  clear hN hT
  cases first with
  | false =>
    go_enter Tryd.func16, Tryd.ntmps16
    go_wp2_with fail
    go_loopg [6, 19] N (fun q s6 s19 wr => ∃ k : Nat, k + q = N ∧ s19 = .int .i64 k ∧ Hid (PtAt w false l k s6 wr))
    case atStart => exact ⟨0, by omega, rfl, Lib.hid ⟨Below.refl _ _, fun f hf => by simp at hf, World.ownsRow_nil _ _ _ _⟩⟩
    case round =>
      obtain ⟨k, hkq, rfl, HF⟩ := hrel
      have HKQ := Lib.hid hkq
      have hk : k ≤ N := by omega
      clear hkq
      obtain ⟨LN, hLN⟩ : ∃ LN, LN = (encB false (l.take k)).length := ⟨_, rfl⟩
      have hLNb : LN ≤ 600000000 := by
        have h1 := encLs_len (l := l.take k) (M := 65536) (Nat.le_refl _) (fun f hf => HF.out.2.1 f hf)
        have h2 := headB_len false
        have h3 : (l.take k).length ≤ 1000 := by rw [List.length_take]; omega
        have h4 : (l.take k).length * (16 + 8 * 65536) ≤ 1000 * (16 + 8 * 65536) := Nat.mul_le_mul_right _ h3
        rw [hLN, encB, List.length_append]
        omega
      have hO := HF.out.2.2
      rw [← hLN] at hO
      obtain ⟨au, cu, eu, _⟩ := owned_shape hO
      subst eu
      have HLN := Lib.hid hLN
      clear hLN
      by_cases hlt : k < N
      · obtain ⟨f, hf⟩ : ∃ f, l[k]? = some f := ⟨l[k]'(by rw [← HN.out]; exact hlt), List.getElem?_eq_getElem (by rw [← HN.out]; exact hlt)⟩
        obtain ⟨bk, off, rfl, hbl, hcell⟩ := (h.below HF.out.1).at_ (i := k) (by rw [← HN.out]; exact hlt)
        obtain ⟨x0, x1⟩ := hcell f hf
        have HTK := Lib.hid (show l.take (k + 1) = l.take k ++ [f] by rw [List.take_add_one, hf]; rfl)
        have HMEM := Lib.hid (List.mem_of_getElem? hf)
        have hszr : w.heap.size ≤ wr.heap.size := HF.out.1.size
        have HW0 := Lib.hid (show Below wr.heap.size wr (wr.alloc (.cells #[.string f.1, .string f.2] 46)) from (Below.refl _ _).alloc (Nat.le_refl _) _)
        clear hcell hf hO
        go_wp2_with fail
        refine (itemOf_any f _).mono ?_
        rintro e w1 ⟨rfl, hb1⟩
        have hB1 : Below wr.heap.size wr w1 := HW0.out.trans (hb1.mono HW0.out.size)
        have HB1 := Lib.hid hB1
        clear hb1 hB1
        go_wp2_with fail
        refine (iEnc_any (itK f) (itN f) (itA f) (itB f) w1 (HT.out.below (HF.out.1.trans (HB1.out.mono hszr)))).mono ?_
        rw [encT_item]
        by_cases hok : okF f
        · rw [if_pos hok]
          rintro e w2 ⟨pv, rfl, hpv, hb2⟩
          have hB2 : Below wr.heap.size wr w2 := HB1.out.trans (hb2.mono HB1.out.size)
          have hO2 := owned_below HF.out.2.2 hB2
          have hpl := (encF_len hok).2
          obtain ⟨PL, hPL⟩ : ∃ PL, PL = (encF f).length := ⟨_, rfl⟩
          rw [← hPL] at hpl
          have hok1 := hok.1
          have hok2 := hok.2
          obtain ⟨ap, cp, ep, _⟩ := id hpv
          subst ep
          have HPV := Lib.hid hpv
          have HOK := Lib.hid (And.intro hok (And.intro hB2 hPL))
          rw [← HLN.out] at hO2
          have hbz : w.heap.size ≤ w2.heap.size := by have := hB2.size; omega
          clear hok hB2 hpv hb2
          go_wp2_with (at_builtin; refine app_ints rfl (.tmp 32) (.tmp 33) 30 rfl w.heap.size 5 .u8 1 Tryd.underlying30 Tryd.info5' (.slice au LN cu) LN (encB false (l.take k)) rfl hO2 _ (encF f) rfl HPV.out (by rw [← HLN.out, ← hPL]; omega) (by rw [← HLN.out, ← hPL]; unfold maxLen; omega) hbz ?_; intro v2 w3 hO3 hb3 hg3; obtain ⟨a2, c2, e2, _⟩ := owned_shape hO3; subst e2; have HO3 := Lib.hid (And.intro hO3 hb3); clear hO3 hb3 hg3)
          go_roundg (N - (k + 1))
          case measure => have := HKQ.out; omega
          case rel =>
            refine ⟨k + 1, by omega, by go_num, ?_⟩
            obtain ⟨hO3, hb3⟩ := HO3.out
            obtain ⟨hok, hB2, _⟩ := HOK.out
            refine (show PtAt _ _ _ _ _ _ from ⟨(HF.out.1.trans (hB2.mono hszr)).trans hb3, ?_, ?_⟩)
            · rw [HTK.out]
              intro g hg
              rcases List.mem_append.1 hg with hg | hg
              · exact HF.out.2.1 g hg
              · rw [List.mem_singleton] at hg; rw [hg]; exact hok
            · rw [HTK.out, encB_snoc, List.length_append]
              exact hO3
        · rw [if_neg hok]
          rintro e w2 ⟨pv, rfl, hpv, hb2⟩
          have HB2 := Lib.hid (And.intro (HB1.out.trans (hb2.mono HB1.out.size)) (encR_no (first := false) HMEM.out hok))
          obtain ⟨ap, cp, ep, _⟩ := id hpv
          subst ep
          clear hok hpv hb2
          go_wp2_with fail
          go_ret2
          refine ⟨.slice none 0 0, by rw [HB2.out.2]; rfl, by rw [HB2.out.2]; exact Sl.nil _ _, HF.out.1.trans (HB2.out.1.mono hszr)⟩
      · obtain rfl : k = N := by omega
        have hall : l.take k = l := List.take_of_length_le (by rw [HN.out]; exact Nat.le_refl _)
        have HE := Lib.hid (And.intro hall (And.intro (encR_yes (first := false) (by have := HF.out.2.1; rwa [hall] at this)) hO))
        clear hlt hall hO
        go_wp2_with fail
        go_ret2
        obtain ⟨hall, he, hO⟩ := HE.out
        refine ⟨.slice au LN cu, by rw [he]; rfl, ?_, HF.out.1⟩
        rw [he]
        have hO' := HF.out.2.2
        rw [← HLN.out, hall] at hO'
        exact Sl.of_own hO' (encB_fit (by have := HF.out.2.1; rwa [hall] at this)) (by rw [hall] at HLN; show (encB false l).length ≤ maxLen; rw [← HLN.out]; unfold maxLen; omega)
  | true =>
    have hsz := iEnc_yes 4 0 emp emp w HT.out right_size
    rw [encI_size] at hsz
    have HSZ := Lib.hid (show Calls Tryd.prog 32 #[.agg #[.int .i64 4, .int .i64 0, .string ⟨#[]⟩, .string ⟨#[]⟩]] w _ from hsz)
    clear hsz
    go_enter Tryd.func16, Tryd.ntmps16
    go_wp2_with fail
    refine (HSZ.out).mono ?_
    rintro e w0 ⟨v0, rfl, hO0, hb0⟩
    obtain ⟨a0, c0, e0, _⟩ := owned_shape hO0
    subst e0
    have HO0 := Lib.hid (And.intro hO0 hb0)
    clear hO0 hb0
    go_wp2_with fail
    go_loopg [6, 19] N (fun q s6 s19 wr => ∃ k : Nat, k + q = N ∧ s19 = .int .i64 k ∧ Hid (PtAt w true l k s6 wr))
    case atStart => exact ⟨0, by omega, rfl, Lib.hid ⟨HO0.out.2, fun f hf => by simp at hf, HO0.out.1⟩⟩
    case round =>
      obtain ⟨k, hkq, rfl, HF⟩ := hrel
      have HKQ := Lib.hid hkq
      have hk : k ≤ N := by omega
      clear hkq
      obtain ⟨LN, hLN⟩ : ∃ LN, LN = (encB true (l.take k)).length := ⟨_, rfl⟩
      have hLNb : LN ≤ 600000000 := by
        have h1 := encLs_len (l := l.take k) (M := 65536) (Nat.le_refl _) (fun f hf => HF.out.2.1 f hf)
        have h2 := headB_len true
        have h3 : (l.take k).length ≤ 1000 := by rw [List.length_take]; omega
        have h4 : (l.take k).length * (16 + 8 * 65536) ≤ 1000 * (16 + 8 * 65536) := Nat.mul_le_mul_right _ h3
        rw [hLN, encB, List.length_append]
        omega
      have hO := HF.out.2.2
      rw [← hLN] at hO
      obtain ⟨au, cu, eu, _⟩ := owned_shape hO
      subst eu
      have HLN := Lib.hid hLN
      clear hLN
      by_cases hlt : k < N
      · obtain ⟨f, hf⟩ : ∃ f, l[k]? = some f := ⟨l[k]'(by rw [← HN.out]; exact hlt), List.getElem?_eq_getElem (by rw [← HN.out]; exact hlt)⟩
        obtain ⟨bk, off, rfl, hbl, hcell⟩ := (h.below HF.out.1).at_ (i := k) (by rw [← HN.out]; exact hlt)
        obtain ⟨x0, x1⟩ := hcell f hf
        have HTK := Lib.hid (show l.take (k + 1) = l.take k ++ [f] by rw [List.take_add_one, hf]; rfl)
        have HMEM := Lib.hid (List.mem_of_getElem? hf)
        have hszr : w.heap.size ≤ wr.heap.size := HF.out.1.size
        have HW0 := Lib.hid (show Below wr.heap.size wr (wr.alloc (.cells #[.string f.1, .string f.2] 46)) from (Below.refl _ _).alloc (Nat.le_refl _) _)
        clear hcell hf hO
        go_wp2_with fail
        refine (itemOf_any f _).mono ?_
        rintro e w1 ⟨rfl, hb1⟩
        have hB1 : Below wr.heap.size wr w1 := HW0.out.trans (hb1.mono HW0.out.size)
        have HB1 := Lib.hid hB1
        clear hb1 hB1
        go_wp2_with fail
        refine (iEnc_any (itK f) (itN f) (itA f) (itB f) w1 (HT.out.below (HF.out.1.trans (HB1.out.mono hszr)))).mono ?_
        rw [encT_item]
        by_cases hok : okF f
        · rw [if_pos hok]
          rintro e w2 ⟨pv, rfl, hpv, hb2⟩
          have hB2 : Below wr.heap.size wr w2 := HB1.out.trans (hb2.mono HB1.out.size)
          have hO2 := owned_below HF.out.2.2 hB2
          have hpl := (encF_len hok).2
          obtain ⟨PL, hPL⟩ : ∃ PL, PL = (encF f).length := ⟨_, rfl⟩
          rw [← hPL] at hpl
          have hok1 := hok.1
          have hok2 := hok.2
          obtain ⟨ap, cp, ep, _⟩ := id hpv
          subst ep
          have HPV := Lib.hid hpv
          have HOK := Lib.hid (And.intro hok (And.intro hB2 hPL))
          rw [← HLN.out] at hO2
          have hbz : w.heap.size ≤ w2.heap.size := by have := hB2.size; omega
          clear hok hB2 hpv hb2
          go_wp2_with (at_builtin; refine app_ints rfl (.tmp 32) (.tmp 33) 30 rfl w.heap.size 5 .u8 1 Tryd.underlying30 Tryd.info5' (.slice au LN cu) LN (encB true (l.take k)) rfl hO2 _ (encF f) rfl HPV.out (by rw [← HLN.out, ← hPL]; omega) (by rw [← HLN.out, ← hPL]; unfold maxLen; omega) hbz ?_; intro v2 w3 hO3 hb3 hg3; obtain ⟨a2, c2, e2, _⟩ := owned_shape hO3; subst e2; have HO3 := Lib.hid (And.intro hO3 hb3); clear hO3 hb3 hg3)
          go_roundg (N - (k + 1))
          case measure => have := HKQ.out; omega
          case rel =>
            refine ⟨k + 1, by omega, by go_num, ?_⟩
            obtain ⟨hO3, hb3⟩ := HO3.out
            obtain ⟨hok, hB2, _⟩ := HOK.out
            refine (show PtAt _ _ _ _ _ _ from ⟨(HF.out.1.trans (hB2.mono hszr)).trans hb3, ?_, ?_⟩)
            · rw [HTK.out]
              intro g hg
              rcases List.mem_append.1 hg with hg | hg
              · exact HF.out.2.1 g hg
              · rw [List.mem_singleton] at hg; rw [hg]; exact hok
            · rw [HTK.out, encB_snoc, List.length_append]
              exact hO3
        · rw [if_neg hok]
          rintro e w2 ⟨pv, rfl, hpv, hb2⟩
          have HB2 := Lib.hid (And.intro (HB1.out.trans (hb2.mono HB1.out.size)) (encR_no (first := true) HMEM.out hok))
          obtain ⟨ap, cp, ep, _⟩ := id hpv
          subst ep
          clear hok hpv hb2
          go_wp2_with fail
          go_ret2
          refine ⟨.slice none 0 0, by rw [HB2.out.2]; rfl, by rw [HB2.out.2]; exact Sl.nil _ _, HF.out.1.trans (HB2.out.1.mono hszr)⟩
      · obtain rfl : k = N := by omega
        have hall : l.take k = l := List.take_of_length_le (by rw [HN.out]; exact Nat.le_refl _)
        have HE := Lib.hid (And.intro hall (And.intro (encR_yes (first := true) (by have := HF.out.2.1; rwa [hall] at this)) hO))
        clear hlt hall hO
        go_wp2_with fail
        go_ret2
        obtain ⟨hall, he, hO⟩ := HE.out
        refine ⟨.slice au LN cu, by rw [he]; rfl, ?_, HF.out.1⟩
        rw [he]
        have hO' := HF.out.2.2
        rw [← HLN.out, hall] at hO'
        exact Sl.of_own hO' (encB_fit (by have := HF.out.2.1; rwa [hall] at this)) (by rw [hall] at HLN; show (encB true l).length ≤ maxLen; rw [← HLN.out]; unfold maxLen; omega)
end Go.Proofs.YtenapfpkegoonaaDoor

/-
  Layer 9, the reference: Encode.
-/
namespace Go.Proofs.YtenapfpkegoonaaDoor
set_option maxRecDepth 20000
open Go.RowKit

set_option maxHeartbeats 4000000 in
theorem refBEnc_any (v : Value) (l : List Fd) (first : Bool) (w : World) (h : SlD w v l) (hl : l.length ≤ 1000) :
    Calls Tryd.prog 17 #[v, .bool first] w fun e w' => ∃ u, e = .returned (.tuple #[u, .int .i64 (encR first l).2]) ∧ Sl .u8 w' u (encR first l).1 ∧ Below w.heap.size w w' := by
  obtain ⟨a, c, rfl, hc1, hc2⟩ := h.shape
  unfold maxLen at hc2
  obtain ⟨N, hN⟩ : ∃ N, N = l.length := ⟨_, rfl⟩
  rw [← hN] at h hc1 hl ⊢
  have HN := Lib.hid hN
  clear hN
  cases first with
  | false =>
    go_enter Tryd.func17, Tryd.ntmps17
    go_wp2_with fail
    go_loopg [6, 7] N (fun q s6 s7 wr => ∃ k : Nat, k + q = N ∧ s7 = .int .i64 k ∧ Hid (PtAt w false l k s6 wr))
    case atStart => exact ⟨0, by omega, rfl, Lib.hid ⟨Below.refl _ _, fun f hf => by simp at hf, World.ownsRow_nil _ _ _ _⟩⟩
    case round =>
      obtain ⟨k, hkq, rfl, HF⟩ := hrel
      have HKQ := Lib.hid hkq
      have hk : k ≤ N := by omega
      clear hkq
      obtain ⟨LN, hLN⟩ : ∃ LN, LN = (encB false (l.take k)).length := ⟨_, rfl⟩
      have hLNb : LN ≤ 600000000 := by
        have h1 := encLs_len (l := l.take k) (M := 65536) (Nat.le_refl _) (fun f hf => HF.out.2.1 f hf)
        have h2 := headB_len false
        have h3 : (l.take k).length ≤ 1000 := by rw [List.length_take]; omega
        have h4 : (l.take k).length * (16 + 8 * 65536) ≤ 1000 * (16 + 8 * 65536) := Nat.mul_le_mul_right _ h3
        rw [hLN, encB, List.length_append]
        omega
      have hO := HF.out.2.2
      rw [← hLN] at hO
      obtain ⟨au, cu, eu, _⟩ := owned_shape hO
      subst eu
      have HLN := Lib.hid hLN
      clear hLN
      by_cases hlt : k < N
      · obtain ⟨f, hf⟩ : ∃ f, l[k]? = some f := ⟨l[k]'(by rw [← HN.out]; exact hlt), List.getElem?_eq_getElem (by rw [← HN.out]; exact hlt)⟩
        obtain ⟨bk, off, rfl, hbl, hcell⟩ := (h.below HF.out.1).at_ (i := k) (by rw [← HN.out]; exact hlt)
        obtain ⟨x0, x1⟩ := hcell f hf
        have HTK := Lib.hid (show l.take (k + 1) = l.take k ++ [f] by rw [List.take_add_one, hf]; rfl)
        have HMEM := Lib.hid (List.mem_of_getElem? hf)
        have hszr : w.heap.size ≤ wr.heap.size := HF.out.1.size
        have hix := run_index_sl (P := Tryd.prog) (t := 33) (s := 2) sliceFld (fun _ => by kernel_rfl) bk off N c k hlt
        clear hcell hf hO
        by_cases h1 : f.1.size ≤ 65536
        · have d1 : decide ((65536 : Int) < (f.1.size : Int)) = false := decide_eq_false (by omega)
          have d1b : decide (65536 < f.1.size) = false := decide_eq_false (by omega)
          by_cases h2 : f.2.size ≤ 65536
          · have d2 : decide ((65536 : Int) < (f.2.size : Int)) = false := decide_eq_false (by omega)
            have d2b : decide (65536 < f.2.size) = false := decide_eq_false (by omega)
            have hok : okF f := ⟨h1, h2⟩
            have HOK0 := Lib.hid hok
            have hfind := refFind_any f.1 f.2 wr
            have HFIND := Lib.hid (show Calls Tryd.prog 34 #[.agg #[.string f.1, .string f.2]] wr _ from hfind)
            clear hok hfind
            have HV := Lib.hid (show itV (itK f) (itN f) (itA f) (itB f) = itV (if findB f.1 f.2 then 0 else 2) (findI f.1 f.2 : Nat) (if findI f.1 f.2 = 0 then f.1 else emp) (if findB f.1 f.2 then emp else f.2) from rfl)
            have hT : findT f.1 f.2 = .tuple #[.int .i64 (findI f.1 f.2 : Nat), .bool (findB f.1 f.2)] := rfl
            have hpos : findB f.1 f.2 = true → findI f.1 f.2 ≠ 0 := by
              rcases find_cases f with ⟨h1, h2⟩ | ⟨k, hk, h1, _⟩
              · intro h; rw [h2] at h; cases h
              · intro _; omega
            obtain ⟨I, hI⟩ : ∃ I, findI f.1 f.2 = I := ⟨_, rfl⟩
            obtain ⟨B, hB⟩ : ∃ B, findB f.1 f.2 = B := ⟨_, rfl⟩
            rw [hI, hB] at hT hpos HV
            have HTT := Lib.hid hT
            clear hT hI hB
            go_wp2_with fail
            refine (HFIND.out).mono ?_
            rintro e w1 ⟨rfl, hb1⟩
            rw [HTT.out]
            have HB1 := Lib.hid hb1
            have y0 := (hb1.cell (p := ⟨bk, off + k * 2, none⟩) hbl).trans x0
            have y1 := (hb1.cell (p := ⟨bk, off + k * 2 + 1, none⟩) hbl).trans x1
            have hsz1 : wr.heap.size ≤ w1.heap.size := hb1.size
            have hbl1 : bk < w1.heap.size := by omega
            clear hb1
            cases B with
            | true =>
              have hI0 : I ≠ 0 := hpos rfl
              have di : ((I : Int) == 0) = false := by rw [beq_eq_false_iff_ne]; omega
              have HVV := Lib.hid (show itV (itK f) (itN f) (itA f) (itB f) = .agg #[.int .i64 0, .int .i64 (I : Nat), .string ⟨#[]⟩, .string ⟨#[]⟩] by rw [HV.out, if_pos rfl, if_pos rfl, if_neg hI0]; rfl)
              clear hpos hI0
              go_wp2_with fail
              have HEN := Lib.hid (fun W => refIEnc_any (itK f) (itN f) (itA f) (itB f) W)
              have hen := HEN.out
              rw [HVV.out, encT_item, if_pos HOK0.out] at hen
              refine (hen _).mono ?_
              clear hen
              rintro e w2 ⟨pv, rfl, hpv, hb2⟩
              have hB2 : Below wr.heap.size wr w2 := HB1.out.trans (Below.trans ((Below.refl wr.heap.size w1).alloc hsz1 _) (hb2.mono (by simp; omega)))
              have hO2 := owned_below HF.out.2.2 hB2
              have hpl := (encF_len HOK0.out).2
              obtain ⟨PL, hPL⟩ : ∃ PL, PL = (encF f).length := ⟨_, rfl⟩
              rw [← hPL] at hpl
              obtain ⟨ap, cp, ep, _⟩ := id hpv
              subst ep
              have HPV := Lib.hid hpv
              have HOK := Lib.hid (And.intro hB2 hPL)
              rw [← HLN.out] at hO2
              have hbz : w.heap.size ≤ w2.heap.size := by have := hB2.size; omega
              clear hB2 hpv hb2 y0 y1 x0 x1
              go_wp2_with (at_builtin; refine app_ints rfl (.tmp 70) (.tmp 71) 30 rfl w.heap.size 5 .u8 1 Tryd.underlying30 Tryd.info5' (.slice au LN cu) LN (encB false (l.take k)) rfl hO2 _ (encF f) rfl HPV.out (by rw [← HLN.out, ← hPL]; omega) (by rw [← HLN.out, ← hPL]; unfold maxLen; omega) hbz ?_; intro v2 w3 hO3 hb3 hg3; obtain ⟨a2, c2, e2, _⟩ := owned_shape hO3; subst e2; have HO3 := Lib.hid (And.intro hO3 hb3); clear hO3 hb3 hg3)
              go_roundg (N - (k + 1))
              case measure => have := HKQ.out; omega
              case rel =>
                refine ⟨k + 1, by omega, by go_num, ?_⟩
                obtain ⟨hO3, hb3⟩ := HO3.out
                obtain ⟨hB2, _⟩ := HOK.out
                refine (show PtAt _ _ _ _ _ _ from ⟨(HF.out.1.trans (hB2.mono hszr)).trans hb3, ?_, ?_⟩)
                · rw [HTK.out]
                  intro g hg
                  rcases List.mem_append.1 hg with hg | hg
                  · exact HF.out.2.1 g hg
                  · rw [List.mem_singleton] at hg; rw [hg]; exact HOK0.out
                · rw [HTK.out, encB_snoc, List.length_append]
                  exact hO3
            | false =>
              by_cases hI0 : I = 0
              · subst hI0
                have HVV := Lib.hid (show itV (itK f) (itN f) (itA f) (itB f) = .agg #[.int .i64 2, .int .i64 0, .string f.1, .string f.2] by rw [HV.out, if_neg (by decide : ¬ (false = true)), if_pos rfl, if_neg (by decide : ¬ (false = true))]; rfl)
                clear hpos
                go_wp2_with fail
                have HEN := Lib.hid (fun W => refIEnc_any (itK f) (itN f) (itA f) (itB f) W)
                have hen := HEN.out
                rw [HVV.out, encT_item, if_pos HOK0.out] at hen
                refine (hen _).mono ?_
                clear hen
                rintro e w2 ⟨pv, rfl, hpv, hb2⟩
                have hB2 : Below wr.heap.size wr w2 := HB1.out.trans (Below.trans ((Below.refl wr.heap.size w1).alloc hsz1 _) (hb2.mono (by simp; omega)))
                have hO2 := owned_below HF.out.2.2 hB2
                have hpl := (encF_len HOK0.out).2
                obtain ⟨PL, hPL⟩ : ∃ PL, PL = (encF f).length := ⟨_, rfl⟩
                rw [← hPL] at hpl
                obtain ⟨ap, cp, ep, _⟩ := id hpv
                subst ep
                have HPV := Lib.hid hpv
                have HOK := Lib.hid (And.intro hB2 hPL)
                rw [← HLN.out] at hO2
                have hbz : w.heap.size ≤ w2.heap.size := by have := hB2.size; omega
                clear hB2 hpv hb2 y0 y1 x0 x1
                go_wp2_with (at_builtin; refine app_ints rfl (.tmp 70) (.tmp 71) 30 rfl w.heap.size 5 .u8 1 Tryd.underlying30 Tryd.info5' (.slice au LN cu) LN (encB false (l.take k)) rfl hO2 _ (encF f) rfl HPV.out (by rw [← HLN.out, ← hPL]; omega) (by rw [← HLN.out, ← hPL]; unfold maxLen; omega) hbz ?_; intro v2 w3 hO3 hb3 hg3; obtain ⟨a2, c2, e2, _⟩ := owned_shape hO3; subst e2; have HO3 := Lib.hid (And.intro hO3 hb3); clear hO3 hb3 hg3)
                go_roundg (N - (k + 1))
                case measure => have := HKQ.out; omega
                case rel =>
                  refine ⟨k + 1, by omega, by go_num, ?_⟩
                  obtain ⟨hO3, hb3⟩ := HO3.out
                  obtain ⟨hB2, _⟩ := HOK.out
                  refine (show PtAt _ _ _ _ _ _ from ⟨(HF.out.1.trans (hB2.mono hszr)).trans hb3, ?_, ?_⟩)
                  · rw [HTK.out]
                    intro g hg
                    rcases List.mem_append.1 hg with hg | hg
                    · exact HF.out.2.1 g hg
                    · rw [List.mem_singleton] at hg; rw [hg]; exact HOK0.out
                  · rw [HTK.out, encB_snoc, List.length_append]
                    exact hO3
              · have di : ((I : Int) == 0) = false := by rw [beq_eq_false_iff_ne]; omega
                have HVV := Lib.hid (show itV (itK f) (itN f) (itA f) (itB f) = .agg #[.int .i64 2, .int .i64 (I : Nat), .string ⟨#[]⟩, .string f.2] by rw [HV.out, if_neg (by decide : ¬ (false = true)), if_neg hI0, if_neg (by decide : ¬ (false = true))]; rfl)
                clear hpos hI0
                go_wp2_with fail
                have HEN := Lib.hid (fun W => refIEnc_any (itK f) (itN f) (itA f) (itB f) W)
                have hen := HEN.out
                rw [HVV.out, encT_item, if_pos HOK0.out] at hen
                refine (hen _).mono ?_
                clear hen
                rintro e w2 ⟨pv, rfl, hpv, hb2⟩
                have hB2 : Below wr.heap.size wr w2 := HB1.out.trans (Below.trans ((Below.refl wr.heap.size w1).alloc hsz1 _) (hb2.mono (by simp; omega)))
                have hO2 := owned_below HF.out.2.2 hB2
                have hpl := (encF_len HOK0.out).2
                obtain ⟨PL, hPL⟩ : ∃ PL, PL = (encF f).length := ⟨_, rfl⟩
                rw [← hPL] at hpl
                obtain ⟨ap, cp, ep, _⟩ := id hpv
                subst ep
                have HPV := Lib.hid hpv
                have HOK := Lib.hid (And.intro hB2 hPL)
                rw [← HLN.out] at hO2
                have hbz : w.heap.size ≤ w2.heap.size := by have := hB2.size; omega
                clear hB2 hpv hb2 y0 y1 x0 x1
                go_wp2_with (at_builtin; refine app_ints rfl (.tmp 70) (.tmp 71) 30 rfl w.heap.size 5 .u8 1 Tryd.underlying30 Tryd.info5' (.slice au LN cu) LN (encB false (l.take k)) rfl hO2 _ (encF f) rfl HPV.out (by rw [← HLN.out, ← hPL]; omega) (by rw [← HLN.out, ← hPL]; unfold maxLen; omega) hbz ?_; intro v2 w3 hO3 hb3 hg3; obtain ⟨a2, c2, e2, _⟩ := owned_shape hO3; subst e2; have HO3 := Lib.hid (And.intro hO3 hb3); clear hO3 hb3 hg3)
                go_roundg (N - (k + 1))
                case measure => have := HKQ.out; omega
                case rel =>
                  refine ⟨k + 1, by omega, by go_num, ?_⟩
                  obtain ⟨hO3, hb3⟩ := HO3.out
                  obtain ⟨hB2, _⟩ := HOK.out
                  refine (show PtAt _ _ _ _ _ _ from ⟨(HF.out.1.trans (hB2.mono hszr)).trans hb3, ?_, ?_⟩)
                  · rw [HTK.out]
                    intro g hg
                    rcases List.mem_append.1 hg with hg | hg
                    · exact HF.out.2.1 g hg
                    · rw [List.mem_singleton] at hg; rw [hg]; exact HOK0.out
                  · rw [HTK.out, encB_snoc, List.length_append]
                    exact hO3
          · have d2 : decide ((65536 : Int) < (f.2.size : Int)) = true := decide_eq_true (by omega)
            have d2b : decide (65536 < f.2.size) = true := decide_eq_true (by omega)
            have HRN := Lib.hid (encR_no (first := false) HMEM.out (fun x => h2 x.2))
            clear h2
            go_wp2_with fail
            go_ret2
            exact ⟨.slice none 0 0, by rw [HRN.out]; rfl, by rw [HRN.out]; exact Sl.nil _ _, HF.out.1⟩
        · have d1 : decide ((65536 : Int) < (f.1.size : Int)) = true := decide_eq_true (by omega)
          have d1b : decide (65536 < f.1.size) = true := decide_eq_true (by omega)
          have HRN := Lib.hid (encR_no (first := false) HMEM.out (fun x => h1 x.1))
          clear h1
          go_wp2_with fail
          go_ret2
          exact ⟨.slice none 0 0, by rw [HRN.out]; rfl, by rw [HRN.out]; exact Sl.nil _ _, HF.out.1⟩
      · obtain rfl : k = N := by omega
        have hall : l.take k = l := List.take_of_length_le (by rw [HN.out]; exact Nat.le_refl _)
        have HE := Lib.hid (And.intro hall (And.intro (encR_yes (first := false) (by have := HF.out.2.1; rwa [hall] at this)) hO))
        clear hlt hall hO
        go_wp2_with fail
        go_ret2
        obtain ⟨hall, he, hO⟩ := HE.out
        refine ⟨.slice au LN cu, by rw [he]; rfl, ?_, HF.out.1⟩
        rw [he]
        have hO' := HF.out.2.2
        rw [← HLN.out, hall] at hO'
        exact Sl.of_own hO' (encB_fit (by have := HF.out.2.1; rwa [hall] at this)) (by rw [hall] at HLN; show (encB false l).length ≤ maxLen; rw [← HLN.out]; unfold maxLen; omega)
  | true =>
    go_enter Tryd.func17, Tryd.ntmps17
    go_wp2_with (at_builtin; refine app_ints rfl (.tmp 14) (.tmp 15) 30 rfl w.heap.size 5 .u8 1 Tryd.underlying30 Tryd.info5' (.slice none 0 0) 0 [] rfl (World.ownsRow_nil _ _ _ _) _ [32] rfl (Sl.lit [32] rfl rfl rfl (by decide) (by decide)) (by decide) (by decide) (by simp) ?_; intro v0 w0 hO0 hb0 hg0; obtain ⟨a0, c0, e0, _⟩ := owned_shape hO0; subst e0; have HO0 := Lib.hid (And.intro hO0 (((Below.refl w.heap.size w).alloc (Nat.le_refl _) _).trans hb0)); clear hO0 hb0 hg0)
    go_loopg [6, 7] N (fun q s6 s7 wr => ∃ k : Nat, k + q = N ∧ s7 = .int .i64 k ∧ Hid (PtAt w true l k s6 wr))
    case atStart => exact ⟨0, by omega, rfl, Lib.hid ⟨HO0.out.2, fun f hf => by simp at hf, HO0.out.1⟩⟩
    case round =>
      obtain ⟨k, hkq, rfl, HF⟩ := hrel
      have HKQ := Lib.hid hkq
      have hk : k ≤ N := by omega
      clear hkq
      obtain ⟨LN, hLN⟩ : ∃ LN, LN = (encB true (l.take k)).length := ⟨_, rfl⟩
      have hLNb : LN ≤ 600000000 := by
        have h1 := encLs_len (l := l.take k) (M := 65536) (Nat.le_refl _) (fun f hf => HF.out.2.1 f hf)
        have h2 := headB_len true
        have h3 : (l.take k).length ≤ 1000 := by rw [List.length_take]; omega
        have h4 : (l.take k).length * (16 + 8 * 65536) ≤ 1000 * (16 + 8 * 65536) := Nat.mul_le_mul_right _ h3
        rw [hLN, encB, List.length_append]
        omega
      have hO := HF.out.2.2
      rw [← hLN] at hO
      obtain ⟨au, cu, eu, _⟩ := owned_shape hO
      subst eu
      have HLN := Lib.hid hLN
      clear hLN
      by_cases hlt : k < N
      · obtain ⟨f, hf⟩ : ∃ f, l[k]? = some f := ⟨l[k]'(by rw [← HN.out]; exact hlt), List.getElem?_eq_getElem (by rw [← HN.out]; exact hlt)⟩
        obtain ⟨bk, off, rfl, hbl, hcell⟩ := (h.below HF.out.1).at_ (i := k) (by rw [← HN.out]; exact hlt)
        obtain ⟨x0, x1⟩ := hcell f hf
        have HTK := Lib.hid (show l.take (k + 1) = l.take k ++ [f] by rw [List.take_add_one, hf]; rfl)
        have HMEM := Lib.hid (List.mem_of_getElem? hf)
        have hszr : w.heap.size ≤ wr.heap.size := HF.out.1.size
        have hix := run_index_sl (P := Tryd.prog) (t := 33) (s := 2) sliceFld (fun _ => by kernel_rfl) bk off N c k hlt
        clear hcell hf hO
        by_cases h1 : f.1.size ≤ 65536
        · have d1 : decide ((65536 : Int) < (f.1.size : Int)) = false := decide_eq_false (by omega)
          have d1b : decide (65536 < f.1.size) = false := decide_eq_false (by omega)
          by_cases h2 : f.2.size ≤ 65536
          · have d2 : decide ((65536 : Int) < (f.2.size : Int)) = false := decide_eq_false (by omega)
            have d2b : decide (65536 < f.2.size) = false := decide_eq_false (by omega)
            have hok : okF f := ⟨h1, h2⟩
            have HOK0 := Lib.hid hok
            have hfind := refFind_any f.1 f.2 wr
            have HFIND := Lib.hid (show Calls Tryd.prog 34 #[.agg #[.string f.1, .string f.2]] wr _ from hfind)
            clear hok hfind
            have HV := Lib.hid (show itV (itK f) (itN f) (itA f) (itB f) = itV (if findB f.1 f.2 then 0 else 2) (findI f.1 f.2 : Nat) (if findI f.1 f.2 = 0 then f.1 else emp) (if findB f.1 f.2 then emp else f.2) from rfl)
            have hT : findT f.1 f.2 = .tuple #[.int .i64 (findI f.1 f.2 : Nat), .bool (findB f.1 f.2)] := rfl
            have hpos : findB f.1 f.2 = true → findI f.1 f.2 ≠ 0 := by
              rcases find_cases f with ⟨h1, h2⟩ | ⟨k, hk, h1, _⟩
              · intro h; rw [h2] at h; cases h
              · intro _; omega
            obtain ⟨I, hI⟩ : ∃ I, findI f.1 f.2 = I := ⟨_, rfl⟩
            obtain ⟨B, hB⟩ : ∃ B, findB f.1 f.2 = B := ⟨_, rfl⟩
            rw [hI, hB] at hT hpos HV
            have HTT := Lib.hid hT
            clear hT hI hB
            go_wp2_with fail
            refine (HFIND.out).mono ?_
            rintro e w1 ⟨rfl, hb1⟩
            rw [HTT.out]
            have HB1 := Lib.hid hb1
            have y0 := (hb1.cell (p := ⟨bk, off + k * 2, none⟩) hbl).trans x0
            have y1 := (hb1.cell (p := ⟨bk, off + k * 2 + 1, none⟩) hbl).trans x1
            have hsz1 : wr.heap.size ≤ w1.heap.size := hb1.size
            have hbl1 : bk < w1.heap.size := by omega
            clear hb1
            cases B with
            | true =>
              have hI0 : I ≠ 0 := hpos rfl
              have di : ((I : Int) == 0) = false := by rw [beq_eq_false_iff_ne]; omega
              have HVV := Lib.hid (show itV (itK f) (itN f) (itA f) (itB f) = .agg #[.int .i64 0, .int .i64 (I : Nat), .string ⟨#[]⟩, .string ⟨#[]⟩] by rw [HV.out, if_pos rfl, if_pos rfl, if_neg hI0]; rfl)
              clear hpos hI0
              go_wp2_with fail
              have HEN := Lib.hid (fun W => refIEnc_any (itK f) (itN f) (itA f) (itB f) W)
              have hen := HEN.out
              rw [HVV.out, encT_item, if_pos HOK0.out] at hen
              refine (hen _).mono ?_
              clear hen
              rintro e w2 ⟨pv, rfl, hpv, hb2⟩
              have hB2 : Below wr.heap.size wr w2 := HB1.out.trans (Below.trans ((Below.refl wr.heap.size w1).alloc hsz1 _) (hb2.mono (by simp; omega)))
              have hO2 := owned_below HF.out.2.2 hB2
              have hpl := (encF_len HOK0.out).2
              obtain ⟨PL, hPL⟩ : ∃ PL, PL = (encF f).length := ⟨_, rfl⟩
              rw [← hPL] at hpl
              obtain ⟨ap, cp, ep, _⟩ := id hpv
              subst ep
              have HPV := Lib.hid hpv
              have HOK := Lib.hid (And.intro hB2 hPL)
              rw [← HLN.out] at hO2
              have hbz : w.heap.size ≤ w2.heap.size := by have := hB2.size; omega
              clear hB2 hpv hb2 y0 y1 x0 x1
              go_wp2_with (at_builtin; refine app_ints rfl (.tmp 70) (.tmp 71) 30 rfl w.heap.size 5 .u8 1 Tryd.underlying30 Tryd.info5' (.slice au LN cu) LN (encB true (l.take k)) rfl hO2 _ (encF f) rfl HPV.out (by rw [← HLN.out, ← hPL]; omega) (by rw [← HLN.out, ← hPL]; unfold maxLen; omega) hbz ?_; intro v2 w3 hO3 hb3 hg3; obtain ⟨a2, c2, e2, _⟩ := owned_shape hO3; subst e2; have HO3 := Lib.hid (And.intro hO3 hb3); clear hO3 hb3 hg3)
              go_roundg (N - (k + 1))
              case measure => have := HKQ.out; omega
              case rel =>
                refine ⟨k + 1, by omega, by go_num, ?_⟩
                obtain ⟨hO3, hb3⟩ := HO3.out
                obtain ⟨hB2, _⟩ := HOK.out
                refine (show PtAt _ _ _ _ _ _ from ⟨(HF.out.1.trans (hB2.mono hszr)).trans hb3, ?_, ?_⟩)
                · rw [HTK.out]
                  intro g hg
                  rcases List.mem_append.1 hg with hg | hg
                  · exact HF.out.2.1 g hg
                  · rw [List.mem_singleton] at hg; rw [hg]; exact HOK0.out
                · rw [HTK.out, encB_snoc, List.length_append]
                  exact hO3
            | false =>
              by_cases hI0 : I = 0
              · subst hI0
                have HVV := Lib.hid (show itV (itK f) (itN f) (itA f) (itB f) = .agg #[.int .i64 2, .int .i64 0, .string f.1, .string f.2] by rw [HV.out, if_neg (by decide : ¬ (false = true)), if_pos rfl, if_neg (by decide : ¬ (false = true))]; rfl)
                clear hpos
                go_wp2_with fail
                have HEN := Lib.hid (fun W => refIEnc_any (itK f) (itN f) (itA f) (itB f) W)
                have hen := HEN.out
                rw [HVV.out, encT_item, if_pos HOK0.out] at hen
                refine (hen _).mono ?_
                clear hen
                rintro e w2 ⟨pv, rfl, hpv, hb2⟩
                have hB2 : Below wr.heap.size wr w2 := HB1.out.trans (Below.trans ((Below.refl wr.heap.size w1).alloc hsz1 _) (hb2.mono (by simp; omega)))
                have hO2 := owned_below HF.out.2.2 hB2
                have hpl := (encF_len HOK0.out).2
                obtain ⟨PL, hPL⟩ : ∃ PL, PL = (encF f).length := ⟨_, rfl⟩
                rw [← hPL] at hpl
                obtain ⟨ap, cp, ep, _⟩ := id hpv
                subst ep
                have HPV := Lib.hid hpv
                have HOK := Lib.hid (And.intro hB2 hPL)
                rw [← HLN.out] at hO2
                have hbz : w.heap.size ≤ w2.heap.size := by have := hB2.size; omega
                clear hB2 hpv hb2 y0 y1 x0 x1
                go_wp2_with (at_builtin; refine app_ints rfl (.tmp 70) (.tmp 71) 30 rfl w.heap.size 5 .u8 1 Tryd.underlying30 Tryd.info5' (.slice au LN cu) LN (encB true (l.take k)) rfl hO2 _ (encF f) rfl HPV.out (by rw [← HLN.out, ← hPL]; omega) (by rw [← HLN.out, ← hPL]; unfold maxLen; omega) hbz ?_; intro v2 w3 hO3 hb3 hg3; obtain ⟨a2, c2, e2, _⟩ := owned_shape hO3; subst e2; have HO3 := Lib.hid (And.intro hO3 hb3); clear hO3 hb3 hg3)
                go_roundg (N - (k + 1))
                case measure => have := HKQ.out; omega
                case rel =>
                  refine ⟨k + 1, by omega, by go_num, ?_⟩
                  obtain ⟨hO3, hb3⟩ := HO3.out
                  obtain ⟨hB2, _⟩ := HOK.out
                  refine (show PtAt _ _ _ _ _ _ from ⟨(HF.out.1.trans (hB2.mono hszr)).trans hb3, ?_, ?_⟩)
                  · rw [HTK.out]
                    intro g hg
                    rcases List.mem_append.1 hg with hg | hg
                    · exact HF.out.2.1 g hg
                    · rw [List.mem_singleton] at hg; rw [hg]; exact HOK0.out
                  · rw [HTK.out, encB_snoc, List.length_append]
                    exact hO3
              · have di : ((I : Int) == 0) = false := by rw [beq_eq_false_iff_ne]; omega
                have HVV := Lib.hid (show itV (itK f) (itN f) (itA f) (itB f) = .agg #[.int .i64 2, .int .i64 (I : Nat), .string ⟨#[]⟩, .string f.2] by rw [HV.out, if_neg (by decide : ¬ (false = true)), if_neg hI0, if_neg (by decide : ¬ (false = true))]; rfl)
                clear hpos hI0
                go_wp2_with fail
                have HEN := Lib.hid (fun W => refIEnc_any (itK f) (itN f) (itA f) (itB f) W)
                have hen := HEN.out
                rw [HVV.out, encT_item, if_pos HOK0.out] at hen
                refine (hen _).mono ?_
                clear hen
                rintro e w2 ⟨pv, rfl, hpv, hb2⟩
                have hB2 : Below wr.heap.size wr w2 := HB1.out.trans (Below.trans ((Below.refl wr.heap.size w1).alloc hsz1 _) (hb2.mono (by simp; omega)))
                have hO2 := owned_below HF.out.2.2 hB2
                have hpl := (encF_len HOK0.out).2
                obtain ⟨PL, hPL⟩ : ∃ PL, PL = (encF f).length := ⟨_, rfl⟩
                rw [← hPL] at hpl
                obtain ⟨ap, cp, ep, _⟩ := id hpv
                subst ep
                have HPV := Lib.hid hpv
                have HOK := Lib.hid (And.intro hB2 hPL)
                rw [← HLN.out] at hO2
                have hbz : w.heap.size ≤ w2.heap.size := by have := hB2.size; omega
                clear hB2 hpv hb2 y0 y1 x0 x1
                go_wp2_with (at_builtin; refine app_ints rfl (.tmp 70) (.tmp 71) 30 rfl w.heap.size 5 .u8 1 Tryd.underlying30 Tryd.info5' (.slice au LN cu) LN (encB true (l.take k)) rfl hO2 _ (encF f) rfl HPV.out (by rw [← HLN.out, ← hPL]; omega) (by rw [← HLN.out, ← hPL]; unfold maxLen; omega) hbz ?_; intro v2 w3 hO3 hb3 hg3; obtain ⟨a2, c2, e2, _⟩ := owned_shape hO3; subst e2; have HO3 := Lib.hid (And.intro hO3 hb3); clear hO3 hb3 hg3)
                go_roundg (N - (k + 1))
                case measure => have := HKQ.out; omega
                case rel =>
                  refine ⟨k + 1, by omega, by go_num, ?_⟩
                  obtain ⟨hO3, hb3⟩ := HO3.out
                  obtain ⟨hB2, _⟩ := HOK.out
                  refine (show PtAt _ _ _ _ _ _ from ⟨(HF.out.1.trans (hB2.mono hszr)).trans hb3, ?_, ?_⟩)
                  · rw [HTK.out]
                    intro g hg
                    rcases List.mem_append.1 hg with hg | hg
                    · exact HF.out.2.1 g hg
                    · rw [List.mem_singleton] at hg; rw [hg]; exact HOK0.out
                  · rw [HTK.out, encB_snoc, List.length_append]
                    exact hO3
          · have d2 : decide ((65536 : Int) < (f.2.size : Int)) = true := decide_eq_true (by omega)
            have d2b : decide (65536 < f.2.size) = true := decide_eq_true (by omega)
            have HRN := Lib.hid (encR_no (first := true) HMEM.out (fun x => h2 x.2))
            clear h2
            go_wp2_with fail
            go_ret2
            exact ⟨.slice none 0 0, by rw [HRN.out]; rfl, by rw [HRN.out]; exact Sl.nil _ _, HF.out.1⟩
        · have d1 : decide ((65536 : Int) < (f.1.size : Int)) = true := decide_eq_true (by omega)
          have d1b : decide (65536 < f.1.size) = true := decide_eq_true (by omega)
          have HRN := Lib.hid (encR_no (first := true) HMEM.out (fun x => h1 x.1))
          clear h1
          go_wp2_with fail
          go_ret2
          exact ⟨.slice none 0 0, by rw [HRN.out]; rfl, by rw [HRN.out]; exact Sl.nil _ _, HF.out.1⟩
      · obtain rfl : k = N := by omega
        have hall : l.take k = l := List.take_of_length_le (by rw [HN.out]; exact Nat.le_refl _)
        have HE := Lib.hid (And.intro hall (And.intro (encR_yes (first := true) (by have := HF.out.2.1; rwa [hall] at this)) hO))
        clear hlt hall hO
        go_wp2_with fail
        go_ret2
        obtain ⟨hall, he, hO⟩ := HE.out
        refine ⟨.slice au LN cu, by rw [he]; rfl, ?_, HF.out.1⟩
        rw [he]
        have hO' := HF.out.2.2
        rw [← HLN.out, hall] at hO'
        exact Sl.of_own hO' (encB_fit (by have := HF.out.2.1; rwa [hall] at this)) (by rw [hall] at HLN; show (encB true l).length ≤ maxLen; rw [← HLN.out]; unfold maxLen; omega)
end Go.Proofs.YtenapfpkegoonaaDoor

/-
  Layer 7's Fields (whether two lists are the same).
-/
namespace Go.Proofs.YtenapfpkegoonaaDoor
set_option maxRecDepth 20000
open Go.RowKit

theorem fld_neq9 (a b c d : ByteArray) (w : World) : (binOp .neq 46 (.agg #[.string a, .string b]) (.agg #[.string c, .string d])).run Tryd.prog w = .ok (.bool (!(eqB a c && eqB b d))) w := by
  have h := fld_eql a b c d w
  rw [run_eql_struct] at h
  rw [run_neq_struct]
  generalize (Op.equalIn 10000 46 (.agg #[.string a, .string b]) (.agg #[.string c, .string d])).run Tryd.prog w = r at *
  cases r with
  | ok b w' =>
    simp only [Result.andThen, Result.ok.injEq, Value.bool.injEq] at h
    obtain ⟨rfl, rfl⟩ := h
    rfl
  | halt x w' => cases h
theorem fld_neq_dec (f g : Fd) (w : World) : (binOp .neq 46 (.agg #[.string f.1, .string f.2]) (.agg #[.string g.1, .string g.2])).run Tryd.prog w = .ok (.bool (decide (f ≠ g))) w := by
  rw [fld_neq9]
  congr 2
  by_cases h : f = g
  · subst h
    rw [show (eqB f.1 f.1 && eqB f.2 f.2) = true by rw [Bool.and_eq_true]; exact ⟨eqB_iff.2 rfl, eqB_iff.2 rfl⟩]
    simp
  · rw [show decide (f ≠ g) = true from decide_eq_true h]
    cases hb : (eqB f.1 g.1 && eqB f.2 g.2) with
    | false => rfl
    | true =>
      rw [Bool.and_eq_true] at hb
      exact absurd (Prod.ext (eqB_iff.1 hb.1) (eqB_iff.1 hb.2)) h
theorem take_one {l m : List Fd} {k : Nat} {f g : Fd} (hl : l[k]? = some f) (hm : m[k]? = some g) (h : l.take k = m.take k) : l.take (k + 1) = m.take (k + 1) ↔ f = g := by
  rw [List.take_add_one, List.take_add_one, hl, hm, h]
  simp
set_option maxHeartbeats 1000000 in
theorem refFields_any (u v : Value) (l m : List Fd) (w : World) (hu : SlD w u l) (hv : SlD w v m) :
    Calls Tryd.prog 12 #[u, v] w fun e w' => e = .returned (.bool (decide (l = m))) ∧ ∃ n, w' = w.drewN n := by
  obtain ⟨a, c, rfl, hc1, hc2⟩ := hu.shape
  obtain ⟨a', c', rfl, hc1', hc2'⟩ := hv.shape
  unfold maxLen at hc2 hc2'
  by_cases hl : l.length = m.length
  · obtain ⟨N, hN⟩ : ∃ N, N = l.length := ⟨_, rfl⟩
    rw [← hl, ← hN] at hv
    rw [← hN] at hu hc1
    rw [← hl, ← hN] at hc1'
    rw [← hl, ← hN]
    have HN := Lib.hid (And.intro hN (hN.trans hl))
    clear hN hl
    go_enter Tryd.func12, Tryd.ntmps12
    go_wp2_with fail
    go_loopg [5] N (fun q s5 wr => ∃ k : Nat, k + q = N ∧ s5 = .int .i64 k ∧ Hid (l.take k = m.take k) ∧ ∃ n, wr = w.drewN n)
    case atStart => exact ⟨0, by omega, rfl, Lib.hid rfl, 0, rfl⟩
    case round =>
      obtain ⟨k, hkq, rfl, HE, n, rfl⟩ := hrel
      have HKQ := Lib.hid hkq
      have hk : k ≤ N := by omega
      clear hkq
      by_cases hlt : k < N
      · obtain ⟨f, hf⟩ : ∃ f, l[k]? = some f := ⟨l[k]'(by rw [← HN.out.1]; exact hlt), List.getElem?_eq_getElem (by rw [← HN.out.1]; exact hlt)⟩
        obtain ⟨g, hg⟩ : ∃ g, m[k]? = some g := ⟨m[k]'(by rw [← HN.out.2]; exact hlt), List.getElem?_eq_getElem (by rw [← HN.out.2]; exact hlt)⟩
        obtain ⟨b1, o1, rfl, hb1, hx1⟩ := (hu.drewN n).at_ (i := k) (by rw [← HN.out.1]; exact hlt)
        obtain ⟨b2, o2, rfl, hb2, hx2⟩ := (hv.drewN n).at_ (i := k) (by rw [← HN.out.2]; exact hlt)
        obtain ⟨x0, x1⟩ := hx1 f hf
        obtain ⟨y0, y1⟩ := hx2 g hg
        have x0w : w.cell? ⟨b1, o1 + k * 2, none⟩ = some (.string f.1) := x0
        have x1w : w.cell? ⟨b1, o1 + k * 2 + 1, none⟩ = some (.string f.2) := x1
        have y0w : w.cell? ⟨b2, o2 + k * 2, none⟩ = some (.string g.1) := y0
        have y1w : w.cell? ⟨b2, o2 + k * 2 + 1, none⟩ = some (.string g.2) := y1
        have hi1 := run_index_sl (P := Tryd.prog) (t := 33) (s := 2) sliceFld (fun _ => by kernel_rfl) b1 o1 N c k hlt
        have hi2 := run_index_sl (P := Tryd.prog) (t := 33) (s := 2) sliceFld (fun _ => by kernel_rfl) b2 o2 N c' k hlt
        have hT := take_one hf hg HE.out
        by_cases hfg : f = g
        · have hne : ∀ W, (binOp .neq 46 (.agg #[.string f.1, .string f.2]) (.agg #[.string g.1, .string g.2])).run Tryd.prog W = .ok (.bool false) W := fun W => by rw [fld_neq_dec, decide_eq_false (fun h => h hfg)]
          have HT := Lib.hid (hT.2 hfg)
          clear hT hfg hf hg hx1 hx2
          go_wp2_with fail
          go_quiet (fail)
          go_wp2_with fail
          go_roundg (N - (k + 1))
          case measure => have := HKQ.out; omega
          case rel => exact ⟨k + 1, by omega, by go_num, HT, n + nq, rfl⟩
        · have hne : ∀ W, (binOp .neq 46 (.agg #[.string f.1, .string f.2]) (.agg #[.string g.1, .string g.2])).run Tryd.prog W = .ok (.bool true) W := fun W => by rw [fld_neq_dec, decide_eq_true hfg]
          have HD := Lib.hid (decide_eq_false (show ¬ l = m from fun h => hfg (hT.1 (by rw [h]))))
          clear hT hfg hf hg hx1 hx2
          go_wp2_with fail
          go_quiet (fail)
          go_wp2_with fail
          go_ret
          exact ⟨by rw [HD.out]; rfl, _, by rw [World.drewN_drewN]⟩
      · obtain rfl : k = N := by omega
        have HD := Lib.hid (decide_eq_true (show l = m by
          have h := HE.out
          rwa [List.take_of_length_le (by rw [HN.out.1]; exact Nat.le_refl _), List.take_of_length_le (by rw [HN.out.2]; exact Nat.le_refl _)] at h))
        clear hlt hk
        go_wp2_with fail
        go_ret
        exact ⟨by rw [HD.out]; rfl, n, rfl⟩
  · have HD := Lib.hid (decide_eq_false (show ¬ l = m from fun h => hl (by rw [h])))
    have hn : ((l.length : Int) != (m.length : Int)) = true := by simp; omega
    clear hl hu hv
    go_enter Tryd.func12, Tryd.ntmps12
    go_wp2_with fail
    go_ret
    exact ⟨by rw [HD.out]; rfl, 0, rfl⟩
end Go.Proofs.YtenapfpkegoonaaDoor
