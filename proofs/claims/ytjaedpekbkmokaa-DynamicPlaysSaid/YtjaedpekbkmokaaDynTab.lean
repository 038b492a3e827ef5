
/-
  Tables: the program's, the reference's; what a call on one may turn. No function of the program is named here.
-/
import Derived.Test.YtjaedpekbkmokaaDynKit
namespace Go.Proofs.Ytjaedpekbkmokaa
open Go.RowKit

/-- what a call on an object may turn: the block T, and the one that v lies in; what else lay stays -/
structure Mv (T : Nat) (v : Value) (w w' : World) : Prop where
  os : w'.os = w.os
  tape : w'.tape = w.tape
  output : w'.output = w.output
  size : w.heap.size ≤ w'.heap.size
  block : ∀ k, k < w.heap.size → k ≠ T → v.ownBlock ≠ some k → w'.heap[k]? = w.heap[k]?
theorem Mv.refl (T : Nat) (v : Value) (w : World) : Mv T v w w := ⟨rfl, rfl, rfl, Nat.le_refl _, fun _ _ _ _ => rfl⟩
theorem Mv.of {T : Nat} {v : Value} {w w' : World} (h : Below w.heap.size w w') : Mv T v w w' := ⟨h.os, h.tape, h.output, h.size, fun k hk _ _ => h.block k hk⟩
theorem Mv.below {T : Nat} {v : Value} {w w' : World} {B : Nat} (h : Mv T v w w') (hT : B ≤ T) (hv : ∀ g, v.ownBlock = some g → B ≤ g) (hB : B ≤ w.heap.size) : Below B w w' :=
  ⟨h.os, h.tape, h.output, h.size, fun k hk => h.block k (by omega) (by omega) (fun e => by have := hv k e; omega)⟩
theorem Mv.trans {T : Nat} {v v1 : Value} {w w1 w2 : World} (h : Mv T v w w1) (k : Mv T v1 w1 w2) (hv : ∀ g, v1.ownBlock = some g → v.ownBlock = some g ∨ w.heap.size ≤ g) : Mv T v w w2 :=
  ⟨k.os.trans h.os, k.tape.trans h.tape, k.output.trans h.output, Nat.le_trans h.size k.size, fun i hi hT hv' => (k.block i (Nat.lt_of_lt_of_le hi h.size) hT (fun e => by
    rcases hv i e with h1 | h1
    · exact hv' h1
    · omega)).trans (h.block i hi hT hv')⟩
theorem Mv.grown {T : Nat} {v : Value} {w w' : World} (h : w.grownBy w' v.ownBlock) : Mv T v w w' := ⟨h.os, h.tape, h.output, h.size, fun k hk _ hv => h.block k hk (fun e => hv e.symm)⟩
theorem Mv.set (T : Nat) (v : Value) (w : World) (j : Nat) (x : Value) : Mv T v w (w.setCell ⟨T, j, none⟩ x) :=
  ⟨rfl, rfl, rfl, by simp, fun k _ hT _ => Below.heap_setCell _ _ _ _ (by show k ≠ T; exact hT)⟩
theorem Mv.drewN {T : Nat} {v : Value} {w w' : World} (h : Mv T v w w') (n : Nat) : Mv T v w (w'.drewN n) := ⟨h.os, h.tape, h.output, h.size, h.block⟩

/-- where a value's block comes from: it was the old one's; or it is new -/
def From (w : World) (v v' : Value) : Prop := ∀ g, v'.ownBlock = some g → v.ownBlock = some g ∨ w.heap.size ≤ g
theorem From.refl (w : World) (v : Value) : From w v v := fun _ h => .inl h
theorem From.trans {w w1 : World} {v v1 v2 : Value} (h : From w v v1) (k : From w1 v1 v2) (hs : w.heap.size ≤ w1.heap.size) : From w v v2 := fun g hg => by
  rcases k g hg with h1 | h1
  · exact h g h1
  · exact .inr (Nat.le_trans hs h1)
theorem From.kept {w : World} {n n' c c' : Nat} {a : Option Addr} : From w (.slice a n c) (.slice a n' c') := fun g h => .inl (by cases a <;> exact h)

/-- the program's table lies there -/
def TabAt (W : World) (T : Nat) (bound most : Int) (v : Value) (z : Int) : Prop := W.heap[T]? = some (.cells #[.int .i64 bound, .int .i64 most, v, .int .i64 z] 48 (0, 0))
theorem TabAt.lt {W : World} {T : Nat} {b m z : Int} {v : Value} (h : TabAt W T b m v z) : T < W.heap.size := (Array.getElem?_eq_some_iff.1 h).1
theorem TabAt.c0 {W : World} {T : Nat} {b m z : Int} {v : Value} (h : TabAt W T b m v z) : W.cell? ⟨T, 0, none⟩ = some (.int .i64 b) := blk_cell h rfl
theorem TabAt.c1 {W : World} {T : Nat} {b m z : Int} {v : Value} (h : TabAt W T b m v z) : W.cell? ⟨T, 1, none⟩ = some (.int .i64 m) := blk_cell h rfl
theorem TabAt.c2 {W : World} {T : Nat} {b m z : Int} {v : Value} (h : TabAt W T b m v z) : W.cell? ⟨T, 2, none⟩ = some v := blk_cell h rfl
theorem TabAt.c3 {W : World} {T : Nat} {b m z : Int} {v : Value} (h : TabAt W T b m v z) : W.cell? ⟨T, 3, none⟩ = some (.int .i64 z) := blk_cell h rfl
theorem TabAt.free {W : World} {T j : Nat} {b m z : Int} {v : Value} (h : TabAt W T b m v z) : W.frozen? ⟨T, j, none⟩ = false := blk_free h
theorem TabAt.s1 {W : World} {T : Nat} {b m z : Int} {v : Value} (h : TabAt W T b m v z) (x : Int) : TabAt (W.setCell ⟨T, 1, none⟩ (.int .i64 x)) T b x v z := heap_setCell_same W T 1 _ _ _ h
theorem TabAt.s2 {W : World} {T : Nat} {b m z : Int} {v : Value} (h : TabAt W T b m v z) (x : Value) : TabAt (W.setCell ⟨T, 2, none⟩ x) T b m x z := heap_setCell_same W T 2 _ _ _ h
theorem TabAt.s3 {W : World} {T : Nat} {b m z : Int} {v : Value} (h : TabAt W T b m v z) (x : Int) : TabAt (W.setCell ⟨T, 3, none⟩ (.int .i64 x)) T b m v x := heap_setCell_same W T 3 _ _ _ h
theorem TabAt.of_block {W W' : World} {T : Nat} {b m z : Int} {v : Value} (h : TabAt W T b m v z) (hb : W'.heap[T]? = W.heap[T]?) : TabAt W' T b m v z := hb.trans h
theorem TabAt.below {W W' : World} {T : Nat} {b m z : Int} {v : Value} (h : TabAt W T b m v z) (hb : Below W.heap.size W W') : TabAt W' T b m v z := h.of_block (hb.block T h.lt)
theorem TabAt.apart {W : World} {base T : Nat} {b m z : Int} {v u : Value} {fs : List Fd} (h : TabAt W T b m v z) (hr : RowF W base u fs) : u.ownBlock ≠ some T :=
  hr.apart h (fun cs fr e => by injection e with _ e2 _; exact absurd e2 (by decide))

/-- the program's table: its bound, its most, its fields, the oldest one first -/
def TabO (W : World) (base T : Nat) (b m : Int) (v : Value) (fs : List Fd) : Prop := base ≤ T ∧ TabAt W T b m v (sumF fs : Nat) ∧ RowF W base v fs
theorem TabO.of_blocks {W W' : World} {base T : Nat} {b m : Int} {v : Value} {fs : List Fd} (h : TabO W base T b m v fs) (hT : W'.heap[T]? = W.heap[T]?) (hv : ∀ g, v.ownBlock = some g → W'.heap[g]? = W.heap[g]?) : TabO W' base T b m v fs :=
  ⟨h.1, h.2.1.of_block hT, h.2.2.of_block hv⟩
theorem TabO.below {W W' : World} {base T : Nat} {b m : Int} {v : Value} {fs : List Fd} (h : TabO W base T b m v fs) (hb : Below W.heap.size W W') : TabO W' base T b m v fs :=
  ⟨h.1, h.2.1.below hb, h.2.2.below hb⟩
theorem TabO.drewN {W : World} {base T : Nat} {b m : Int} {v : Value} {fs : List Fd} (h : TabO W base T b m v fs) (n : Nat) : TabO (W.drewN n) base T b m v fs := h.below (below_drewN (Below.refl _ _) n)
theorem TabO.sep {W : World} {base T : Nat} {b m : Int} {v : Value} {fs : List Fd} (h : TabO W base T b m v fs) : v.ownBlock ≠ some T := h.2.1.apart h.2.2

/-- the reference's table lies there -/
def RefAt (W : World) (T : Nat) (v : Value) (bound most : Int) : Prop := W.heap[T]? = some (.cells #[v, .int .i64 bound, .int .i64 most] 50 (0, 0))
theorem RefAt.lt {W : World} {T : Nat} {b m : Int} {v : Value} (h : RefAt W T v b m) : T < W.heap.size := (Array.getElem?_eq_some_iff.1 h).1
theorem RefAt.c0 {W : World} {T : Nat} {b m : Int} {v : Value} (h : RefAt W T v b m) : W.cell? ⟨T, 0, none⟩ = some v := blk_cell h rfl
theorem RefAt.c1 {W : World} {T : Nat} {b m : Int} {v : Value} (h : RefAt W T v b m) : W.cell? ⟨T, 1, none⟩ = some (.int .i64 b) := blk_cell h rfl
theorem RefAt.c2 {W : World} {T : Nat} {b m : Int} {v : Value} (h : RefAt W T v b m) : W.cell? ⟨T, 2, none⟩ = some (.int .i64 m) := blk_cell h rfl
theorem RefAt.free {W : World} {T j : Nat} {b m : Int} {v : Value} (h : RefAt W T v b m) : W.frozen? ⟨T, j, none⟩ = false := blk_free h
theorem RefAt.s0 {W : World} {T : Nat} {b m : Int} {v : Value} (h : RefAt W T v b m) (x : Value) : RefAt (W.setCell ⟨T, 0, none⟩ x) T x b m := heap_setCell_same W T 0 _ _ _ h
theorem RefAt.s2 {W : World} {T : Nat} {b m : Int} {v : Value} (h : RefAt W T v b m) (x : Int) : RefAt (W.setCell ⟨T, 2, none⟩ (.int .i64 x)) T v b x := heap_setCell_same W T 2 _ _ _ h
theorem RefAt.of_block {W W' : World} {T : Nat} {b m : Int} {v : Value} (h : RefAt W T v b m) (hb : W'.heap[T]? = W.heap[T]?) : RefAt W' T v b m := hb.trans h
theorem RefAt.below {W W' : World} {T : Nat} {b m : Int} {v : Value} (h : RefAt W T v b m) (hb : Below W.heap.size W W') : RefAt W' T v b m := h.of_block (hb.block T h.lt)
theorem RefAt.apart {W : World} {base T : Nat} {b m : Int} {v u : Value} {fs : List Fd} (h : RefAt W T v b m) (hr : RowF W base u fs) : u.ownBlock ≠ some T :=
  hr.apart h (fun cs fr e => by injection e with _ e2 _; exact absurd e2 (by decide))
/-- the reference's table: the newest field first -/
def TabR (W : World) (base T : Nat) (b m : Int) (v : Value) (fs : List Fd) : Prop := base ≤ T ∧ RefAt W T v b m ∧ RowF W base v fs
theorem TabR.of_blocks {W W' : World} {base T : Nat} {b m : Int} {v : Value} {fs : List Fd} (h : TabR W base T b m v fs) (hT : W'.heap[T]? = W.heap[T]?) (hv : ∀ g, v.ownBlock = some g → W'.heap[g]? = W.heap[g]?) : TabR W' base T b m v fs :=
  ⟨h.1, h.2.1.of_block hT, h.2.2.of_block hv⟩
theorem TabR.below {W W' : World} {base T : Nat} {b m : Int} {v : Value} {fs : List Fd} (h : TabR W base T b m v fs) (hb : Below W.heap.size W W') : TabR W' base T b m v fs :=
  ⟨h.1, h.2.1.below hb, h.2.2.below hb⟩
theorem TabR.drewN {W : World} {base T : Nat} {b m : Int} {v : Value} {fs : List Fd} (h : TabR W base T b m v fs) (n : Nat) : TabR (W.drewN n) base T b m v fs := h.below (below_drewN (Below.refl _ _) n)
theorem TabR.sep {W : World} {base T : Nat} {b m : Int} {v : Value} {fs : List Fd} (h : TabR W base T b m v fs) : v.ownBlock ≠ some T := h.2.1.apart h.2.2
end Go.Proofs.Ytjaedpekbkmokaa
