
/-
  Layer 7's statement: the live question.
-/
import Derived.Test.YtjaedpekbkmokaaDynAdd
import Derived.Test.YtjaedpekbkmokaaDynClone
namespace Go.Proofs.Ytjaedpekbkmokaa
open Go.RowKit

theorem getO_none {fs : List Fd} {i : Int} (h : ¬ (1 ≤ i ∧ i ≤ fs.length)) : getO fs i = .tuple #[.agg #[.string ⟨#[]⟩, .string ⟨#[]⟩], .int .i64 5] := by rw [getO, if_neg h]
theorem getO_some {fs : List Fd} {i : Int} {f : Fd} (h : 1 ≤ i ∧ i ≤ fs.length) (hf : fs[fs.length - i.toNat]? = some f) : getO fs i = .tuple #[.agg #[.string f.1, .string f.2], .int .i64 0] := by
  rw [getO, if_pos h, List.getD_eq_getElem?_getD, hf, Option.getD_some]
def fA : Fd := (⟨#[97]⟩, ⟨#[49]⟩)
def fB : Fd := (⟨#[98]⟩, ⟨#[50, 50]⟩)
def fC : Fd := (⟨#[99]⟩, ⟨#[]⟩)
theorem fA_small : small fA := by constructor <;> decide
theorem fB_small : small fB := by constructor <;> decide
theorem fC_small : small fC := by constructor <;> decide
theorem add1 : addF 100 [] fA = [fA] := by decide +kernel
theorem add2 : addF 100 [fA] fB = [fA, fB] := by decide +kernel
theorem add3 : addF 100 [fA, fB] fC = [fB, fC] := by decide +kernel
theorem set1 : shrinkF 34 [fB, fC] = [fC] := by decide +kernel
theorem sum2 : sumF [fB, fC] = 68 := by decide +kernel
theorem sz35 : szF fB = 35 := by decide +kernel
theorem get1 : getO [fB, fC] 1 = .tuple #[.agg #[.string ⟨#[99]⟩, .string ⟨#[]⟩], .int .i64 0] := getO_some (f := fC) (by decide) rfl
theorem get2 : getO [fB, fC] 2 = .tuple #[.agg #[.string ⟨#[98]⟩, .string ⟨#[50, 50]⟩], .int .i64 0] := getO_some (f := fB) (by decide) rfl
theorem get3 : getO [fB, fC] 3 = .tuple #[.agg #[.string ⟨#[]⟩, .string ⟨#[]⟩], .int .i64 5] := getO_none (by decide)

/-- a table, behind what has gone on since w -/
def Live (w : World) (T : Nat) (m : Int) (v : Value) (fs : List Fd) (W : World) : Prop := TabO W w.heap.size T 100 m v fs ∧ Below w.heap.size w W ∧ w.heap.size ≤ W.heap.size
theorem Live.lt {w W : World} {T : Nat} {m : Int} {v : Value} {fs : List Fd} (h : Live w T m v fs W) : T < W.heap.size := h.1.2.1.lt
theorem Live.moved {w W W' : World} {T : Nat} {m m' : Int} {v v' : Value} {fs fs' : List Fd} (h : Live w T m v fs W) (hT : TabO W' w.heap.size T 100 m' v' fs') (hm : Mv T v W W') : Live w T m' v' fs' W' :=
  ⟨hT, h.2.1.trans (hm.below h.1.1 (fun g hg => (h.1.2.2.lt g hg).1) h.2.2), Nat.le_trans h.2.2 hm.size⟩
theorem Live.grown {w W W' : World} {T : Nat} {m : Int} {v : Value} {fs : List Fd} (h : Live w T m v fs W) (hb : Below W.heap.size W W') : Live w T m v fs W' :=
  ⟨h.1.below hb, h.2.1.trans (hb.mono h.2.2), Nat.le_trans h.2.2 hb.size⟩
theorem Live.alloc {w W : World} {T : Nat} {m : Int} {v : Value} {fs : List Fd} (h : Live w T m v fs W) (o : Obj) : Live w T m v fs (W.alloc o) := h.grown ((Below.refl _ _).alloc (Nat.le_refl _) o)
/-- a field that was laid behind the table -/
def Beside (T : Nat) (v : Value) (B : Nat) (f : Fd) (W : World) : Prop := FldAt W B f.1 f.2 ∧ B ≠ T ∧ v.ownBlock ≠ some B
theorem Live.beside {w W : World} {T : Nat} {m : Int} {v : Value} {fs : List Fd} (h : Live w T m v fs W) (f : Fd) : Beside T v W.heap.size f (W.alloc (.cells #[.string f.1, .string f.2] 32)) :=
  ⟨FldAt.new _ _ _, by have := h.lt; omega, fun e => by have := (h.1.2.2.lt _ e).2; omega⟩
theorem Beside.grown {T B : Nat} {v : Value} {f : Fd} {W W' : World} (h : Beside T v B f W) (hb : Below W.heap.size W W') : Beside T v B f W' := ⟨h.1.grown hb, h.2⟩
theorem Beside.moved {T B : Nat} {v v' : Value} {f : Fd} {W W' : World} (h : Beside T v B f W) (hm : Mv T v W W') (hf : From W v v') : Beside T v' B f W' :=
  ⟨(hm.block B h.1.lt h.2.1 h.2.2).trans h.1, h.2.1, fun e => by
    rcases hf B e with h1 | h1
    · exact h.2.2 h1
    · have := h.1.lt; omega⟩

set_option maxHeartbeats 4000000 in
set_option maxRecDepth 20000 in
theorem alive7_any (w : World) : Calls Try.prog 5 #[] w fun e w' => e = .returned (.bool true) ∧ Below w.heap.size w w' := by
  go_enter Try.func5, Try.ntmps5
  go_wp2_with fail
  refine (new_any 100 _ (by decide) (by decide)).mono ?_
  rintro e w1 ⟨rfl, hT, hb⟩
  have HL : Hid (Live w w.heap.size 100 (.slice none 0 0) [] w1) := ⟨hT, hb, hb.size⟩
  clear hT hb
  go_wp2_with fail
  refine (tadd_any w.heap.size w.heap.size 100 100 _ [] fA w1 HL.out.1 fA_small (by decide) (by decide) HL.out.2.2).mono ?_
  rintro e w2 ⟨rfl, v2, hT, hf, hm⟩
  rw [add1] at hT
  have HL2 := Lib.hid (HL.out.moved hT hm)
  clear hT hf hm HL
  go_wp2_with fail
  refine (tadd_any w.heap.size w.heap.size 100 100 _ [fA] fB w2 HL2.out.1 fB_small (by decide) (by decide) HL2.out.2.2).mono ?_
  rintro e w3 ⟨rfl, v3, hT, hf, hm⟩
  rw [add2] at hT
  have HL3 := Lib.hid (HL2.out.moved hT hm)
  clear hT hf hm HL2
  go_wp2_with fail
  refine (tadd_any w.heap.size w.heap.size 100 100 _ [fA, fB] fC w3 HL3.out.1 fC_small (by decide) (by decide) HL3.out.2.2).mono ?_
  rintro e w4 ⟨rfl, v4, hT, hf, hm⟩
  rw [add3] at hT
  have HL4 := Lib.hid (HL3.out.moved hT hm)
  clear hT hf hm HL3
  go_wp2_with fail
  refine (tget_any w.heap.size w.heap.size 100 100 1 _ [fB, fC] w4 HL4.out.1).mono ?_
  rintro e w5 ⟨rfl, hb⟩
  rw [get1]
  have HL5 := Lib.hid (HL4.out.grown hb)
  clear hb HL4
  go_wp2_with fail
  have HX : Hid (Live w w.heap.size 100 v4 [fB, fC] (w5.alloc (.cells #[.string ⟨#[99]⟩, .string ⟨#[]⟩] 32)) ∧ Beside w.heap.size v4 w5.heap.size fC (w5.alloc (.cells #[.string ⟨#[99]⟩, .string ⟨#[]⟩] 32))) := ⟨HL5.out.alloc _, HL5.out.beside fC⟩
  clear HL5
  refine (tget_any w.heap.size w.heap.size 100 100 2 _ [fB, fC] _ HX.out.1.1).mono ?_
  rintro e w6 ⟨rfl, hb⟩
  rw [get2]
  have HX6 := Lib.hid (And.intro (HX.out.1.grown hb) (HX.out.2.grown hb))
  clear hb HX
  obtain ⟨B5, hB5⟩ : ∃ B5, w5.heap.size = B5 := ⟨_, rfl⟩
  rw [hB5] at HX6 ⊢
  clear hB5
  go_wp2_with fail
  have HX7 : Hid (Live w w.heap.size 100 v4 [fB, fC] (w6.alloc (.cells #[.string ⟨#[98]⟩, .string ⟨#[50, 50]⟩] 32)) ∧ Beside w.heap.size v4 B5 fC (w6.alloc (.cells #[.string ⟨#[98]⟩, .string ⟨#[50, 50]⟩] 32)) ∧ Beside w.heap.size v4 w6.heap.size fB (w6.alloc (.cells #[.string ⟨#[98]⟩, .string ⟨#[50, 50]⟩] 32))) :=
    ⟨HX6.out.1.alloc _, HX6.out.2.grown ((Below.refl _ _).alloc (Nat.le_refl _) _), HX6.out.1.beside fB⟩
  clear HX6
  obtain ⟨W7, hW7⟩ : ∃ W7, w6.alloc (.cells #[.string ⟨#[98]⟩, .string ⟨#[50, 50]⟩] 32) = W7 := ⟨_, rfl⟩
  obtain ⟨B6, hB6⟩ : ∃ B6, w6.heap.size = B6 := ⟨_, rfl⟩
  rw [hW7, hB6] at HX7
  rw [hW7, hB6]
  clear hW7 hB6
  refine (tget_any w.heap.size w.heap.size 100 100 3 _ [fB, fC] _ HX7.out.1.1).mono ?_
  rintro e w8 ⟨rfl, hb⟩
  rw [get3]
  have HX8 := Lib.hid (And.intro (HX7.out.1.grown hb) (And.intro (HX7.out.2.1.grown hb) (HX7.out.2.2.grown hb)))
  clear hb HX7
  go_wp2_with fail
  have hal := (Below.refl w8.heap.size w8).alloc (Nat.le_refl _) (.cells #[.string ⟨#[]⟩, .string ⟨#[]⟩] 32)
  have HX9 := Lib.hid (And.intro (HX8.out.1.grown hal) (And.intro (HX8.out.2.1.grown hal) (HX8.out.2.2.grown hal)))
  clear hal HX8
  obtain ⟨W9, hW9⟩ : ∃ W9, w8.alloc (.cells #[.string ⟨#[]⟩, .string ⟨#[]⟩] 32) = W9 := ⟨_, rfl⟩
  rw [hW9] at HX9 ⊢
  clear hW9
  refine (tsize_any w.heap.size w.heap.size 100 100 _ [fB, fC] _ HX9.out.1.1).mono ?_
  rintro e w10 ⟨rfl, rfl⟩
  rw [sum2]
  go_wp2_with fail
  refine (tset_any w.heap.size w.heap.size 100 100 34 _ [fB, fC] _ HX9.out.1.1 (by decide) (by decide +kernel)).mono ?_
  rintro e w11 ⟨rfl, v11, hT, hf, hm⟩
  rw [set1] at hT
  have HX11 := Lib.hid (And.intro (HX9.out.1.moved hT hm) (And.intro (HX9.out.2.1.moved hm hf) (HX9.out.2.2.moved hm hf)))
  clear hT hf hm HX9
  go_wp2_with fail
  refine (tset_no w.heap.size w.heap.size 100 34 101 _ [fC] _ HX11.out.1.1 (by decide)).mono ?_
  rintro e w12 ⟨rfl, rfl⟩
  have hc : w12.cell? ⟨B5, 0, none⟩ = some (.string ⟨#[99]⟩) := HX11.out.2.1.1.c0
  have hb0 : w12.cell? ⟨B6, 0, none⟩ = some (.string ⟨#[98]⟩) := HX11.out.2.2.1.c0
  have hb1 : w12.cell? ⟨B6, 1, none⟩ = some (.string ⟨#[50, 50]⟩) := HX11.out.2.2.1.c1
  go_wp2_with fail
  refine (tlen_any w.heap.size w.heap.size 100 34 _ [fC] _ HX11.out.1.1).mono ?_
  rintro e w13 ⟨rfl, rfl⟩
  go_wp2_with fail
  refine (tmost_any w.heap.size w.heap.size 100 34 _ [fC] _ HX11.out.1.1).mono ?_
  rintro e w14 ⟨rfl, rfl⟩
  go_wp2_with fail
  refine (size_any fB fB_small _).mono ?_
  rintro e w15 ⟨rfl, hb⟩
  rw [sz35]
  have HE := Lib.hid (HX11.out.1.grown hb)
  clear hb
  go_wp2_with fail
  go_ret
  exact ⟨rfl, HE.out.2.1⟩
end Go.Proofs.Ytjaedpekbkmokaa
