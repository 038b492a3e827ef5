
/-
  Layer 13's intake, as the program keeps it: its block, the bytes that came (the call's own row, or a full slice), what lies apart.
-/
import Derived.Test.YtappehjcbjplaaaInkMath
import Derived.Test.YtappehjcbjplaaaTurn
import Derived.Test.YtappehjcbjplaaaAppAt
import Derived.Test.YtappehjcbjplaaaSame
import Derived.Test.YtappehjcbjplaaaFrameNext
import Derived.Test.YtappehjcbjplaaaRow0
import Derived.Deep.Upon
import Derived.Deep.QuietTactic
import Derived.BigQuiet
namespace Go.Proofs.Ytappehjcbjplaaa
set_option maxRecDepth 20000
open Go.RowKit

/-- the intake's block -/
def IkBlk (W : World) (T : Nat) (most : Int) (begun : Bool) (cv : Value) (told : Int) (over : Int) : Prop :=
  W.heap[T]? = some (.cells #[.int .i64 most, .bool begun, cv, .int .i64 told, .int .i64 over] 52 (0, 0))
theorem IkBlk.lt {W : World} {T : Nat} {most : Int} {begun : Bool} {cv : Value} {told over : Int} (h : IkBlk W T most begun cv told over) : T < W.heap.size := (Array.getElem?_eq_some_iff.1 h).1
theorem IkBlk.below {W W' : World} {T : Nat} {most : Int} {begun : Bool} {cv : Value} {told over : Int} (h : IkBlk W T most begun cv told over) (hb : Below W.heap.size W W') : IkBlk W' T most begun cv told over := (hb.block T h.lt).trans h
theorem IkBlk.cells {W : World} {T : Nat} {most : Int} {begun : Bool} {cv : Value} {told over : Int} (h : IkBlk W T most begun cv told over) :
    W.cell? ⟨T, 0, none⟩ = some (.int .i64 most) ∧ W.cell? ⟨T, 1, none⟩ = some (.bool begun) ∧ W.cell? ⟨T, 2, none⟩ = some cv ∧ W.cell? ⟨T, 3, none⟩ = some (.int .i64 told) ∧ W.cell? ⟨T, 4, none⟩ = some (.int .i64 over) ∧ T < W.heap.size :=
  ⟨blk_cell h rfl, blk_cell h rfl, blk_cell h rfl, blk_cell h rfl, blk_cell h rfl, h.lt⟩
theorem IkBlk.free {W : World} {T : Nat} {most : Int} {begun : Bool} {cv : Value} {told over : Int} (h : IkBlk W T most begun cv told over) (j : Nat) : W.frozen? ⟨T, j, none⟩ = false := blk_free h

/-- bytes that came: the call's own row, or a slice without room behind it -/
structure CamB (W : World) (cv : Value) (cs : List Int) : Prop where
  sl : Sl .u8 W cv cs
  own : W.ownsRow 0 5 1 cv cs.length (cs.map (Value.int .u8)) ∨ (0 < cs.length ∧ ∃ b off, cv = .slice (some ⟨b, off, none⟩) cs.length cs.length)
theorem CamB.nil (W : World) : CamB W (.slice none 0 0) [] := ⟨Sl.nil _ _, .inl (World.ownsRow_nil _ _ _ _)⟩
theorem CamB.of_own {W : World} {base : Nat} {cv : Value} {cs : List Int} (h : W.ownsRow base 5 1 cv cs.length (cs.map (Value.int .u8))) (hf : Fit .u8 cs) (hm : cs.length ≤ maxLen) : CamB W cv cs := ⟨Sl.of_own h hf hm, .inl (owned_mono h (Nat.zero_le _))⟩
theorem CamB.turn {W W' : World} {cv : Value} {cs : List Int} {S : Nat → Prop} (h : CamB W cv cs) (ht : Turn S W W') (hne : ∀ g, cv.ownBlock = some g → ¬ S g) : CamB W' cv cs := ⟨h.sl.turn ht hne, h.own.imp (fun x => owned_turn x ht hne) id⟩
theorem CamB.below {W W' : World} {cv : Value} {cs : List Int} (h : CamB W cv cs) (hb : Below W.heap.size W W') : CamB W' cv cs := h.turn (Turn.of_below hb (S := fun _ => False)) (fun _ _ => id)
theorem CamB.lt {W : World} {cv : Value} {cs : List Int} (h : CamB W cv cs) : ∀ g, cv.ownBlock = some g → g < W.heap.size := fun g hg => by
  rcases h.own with h1 | ⟨h0, b, off, rfl⟩
  · exact (h1.lt g hg).2
  · cases hg
    obtain ⟨a, cap, e, _, _, _, h3⟩ := h.sl
    simp only [Value.slice.injEq] at e
    rcases h3 with ⟨h3, _⟩ | ⟨b', off', e', hlt, _⟩
    · omega
    · rw [← e.1] at e'; cases e'; exact hlt
/-- nothing is appended: the slice stays as it is -/
theorem wpList_append_nothing {P : Program} {w : World} {ops : Array Oper} {rest : List Oper} {o : Oper} {a : Act} {Q : Exit → Act → World → Prop} (hgd : o.guard = none)
    (s x : Operand) (t : TypeId) (ho : o.op = .call { callee := .builtin .append, args := #[s, x], argTypes := #[t, t] }) (e : TypeId) (i : TypeInfo) (ht : P.underlying t = some (.slice e)) (hi : P.info? e = some i)
    (ao : Option Addr) (n cap : Nat) (hs : a.eval s = .slice ao n cap) (hle : n ≤ cap) (ax : Option Addr) (c : Nat) (hx : a.eval x = .slice ax 0 c)
    (h : wpList P ops Q rest (a.put o.dst (.slice ao n cap)) w) : wpList P ops Q (o :: rest) a w := by
  refine wpList_plain hgd fun K hK => ?_
  have hsrc : Src P i.size t (.slice ax 0 c) 0 [] w := by
    cases ax with
    | none => exact Src.ofNil w ht c
    | some ad => exact Src.ofSlice w ht ad 0 c [] (by simp) (fun j u hj => by simp at hj) (fun u hu => by cases hu)
  have hr := run_append_nothing (P := P) w t t o.type e i ht hi ao n cap hle _ hsrc
  unfold Oper.wp
  simp only [execOp, ho, resolve, invoke, builtin, Sem.run_bind, Sem.run_pure, Result.andThen_ok, List.map_toArray, List.map_cons, List.map_nil, hs, hx, hr]
  exact hK _ _ h
/-- 'append(s, x...)' of bytes that came -/
theorem app_came {w : World} {ops : Array Oper} {rest : List Oper} {o : Oper} {a : Act} {Q : Exit → Act → World → Prop} (hgd : o.guard = none)
    (s x : Operand) (ho : o.op = .call { callee := .builtin .append, args := #[s, x], argTypes := #[30, 30] }) (v : Value) (cs : List Int) (hs : a.eval s = v) (hv : CamB w v cs) (x' : Value) (ys : List Int)
    (hx : a.eval x = x') (hsrc : Sl .u8 w x' ys) (hlen : cs.length + ys.length ≤ 100000000)
    (h : ∀ (v' : Value) (w' : World), CamB w' v' (cs ++ ys) → w.grownBy w' v.ownBlock → (v'.ownBlock = v.ownBlock ∨ ∀ g, v'.ownBlock = some g → w.heap.size ≤ g) → wpList Try.prog ops Q rest (a.put o.dst v') w') : wpList Try.prog ops Q (o :: rest) a w := by
  have hfit : Fit .u8 (cs ++ ys) := Fit.append' hv.sl.fit hsrc.fit
  have hml : (cs ++ ys).length ≤ maxLen := by unfold maxLen; rw [List.length_append]; omega
  rcases hv.own with hown | ⟨h0, b, off, rfl⟩
  · refine app_ints_at hgd s x 30 ho 0 5 .u8 1 Try.underlying30 Try.info5' v cs.length cs hs hown x' ys hx hsrc (by omega) (by unfold maxLen; omega) (Nat.zero_le _) ?_
    intro v' w' hown' _ hg hat
    exact h v' w' (CamB.of_own (by rw [List.length_append]; exact hown') hfit hml) hg (hat.imp_right (fun e g hg' => by rw [e] at hg'; cases hg'; exact Nat.le_refl _))
  · obtain ⟨ax, cx, rfl, _⟩ := id hsrc
    obtain ⟨i0, hi0, hz0, hz1, hz2⟩ := info_parts Try.info5'
    by_cases hy : ys.length = 0
    · have hy' : ys = [] := List.eq_nil_of_length_eq_zero hy
      subst hy'
      refine wpList_append_nothing hgd s x 30 ho 5 i0 Try.underlying30 hi0 _ _ _ hs (Nat.le_refl _) ax cx hx ?_
      exact h _ w (by rw [List.append_nil]; exact hv) (World.grownBy.refl _ _) (.inl rfl)
    · obtain ⟨ad, rfl, hsc⟩ := hsrc.cells (by omega)
      obtain ⟨ad', e', hoc⟩ := hv.sl.cells h0
      cases e'
      refine wpList_append_grows w hgd s x 30 ho 5 i0 (.int .u8 0) 1 1 Try.underlying30 hi0 hz0 hz1 hz2 rfl (by decide) (some ⟨b, off, none⟩) cs.length cs.length (cs.map (Value.int .u8)) hs (fun e => by cases e) (by simp)
        (fun b' e j u hj => by cases e; exact hoc j u hj) ad ys.length cx (ys.map (Value.int .u8)) hx (by simp) hsc (ints_oneCell _ _) (by omega) (by unfold maxLen; omega) (by omega) ?_
      intro v' w' hown' hg
      have hown2 : w'.ownsRow w.heap.size 5 1 v' (cs ++ ys).length ((cs ++ ys).map (Value.int .u8)) := by rw [List.length_append, List.map_append]; exact hown'
      exact h v' w' (CamB.of_own hown2 hfit hml) ⟨hg.os, hg.tape, hg.output, hg.size, fun k hk _ => hg.block k hk (by simp)⟩ (.inr (fun g hg' => (hown'.lt g hg').1))
/-- 'v[lo:hi:hi]': a run with no room behind it -/
theorem Sl.full_ {P : Program} {t : TypeId} (ht : P.underlying t = some (.slice (P.elem t))) (he : ∀ w, (sizeOf (P.elem t)).run P w = .ok 1 w) {w : World} {a : Option Addr} {n cap : Nat} {zs : List Int}
    (h : Sl .u8 w (.slice a n cap) zs) (lo : Nat) (h1 : lo < zs.length) :
    ∃ b off, (∀ (kl kh km : IntKind) (w1 : World), (Instr.slice t (.slice a n cap) (some (.int kl lo)) (some (.int kh zs.length)) (some (.int km zs.length))).run P w1 = .ok (.slice (some ⟨b, off, none⟩) (zs.drop lo).length (zs.drop lo).length) w1) ∧ Sl .u8 w (.slice (some ⟨b, off, none⟩) (zs.drop lo).length (zs.drop lo).length) (zs.drop lo) ∧ a.map (·.block) = some b := by
  have hfit := h.fit
  obtain ⟨a', cap', e, hc1, hc2, _, h3⟩ := h
  simp only [Value.slice.injEq] at e
  obtain ⟨rfl, rfl, rfl⟩ := e
  rcases h3 with ⟨h3, _⟩ | ⟨b, off, rfl, hb, hc⟩
  · omega
  · refine ⟨b, off + lo, fun kl kh km w1 => ?_, ⟨_, _, rfl, Nat.le_refl _, by rw [List.length_drop]; omega, hfit.drop lo, .inr ⟨b, off + lo, rfl, hb, fun i hi => ?_⟩⟩, rfl⟩
    · rw [run_slice_lhm w1 t _ _ _ ht kl kh km lo zs.length zs.length (by omega) (by omega) (by omega) (by omega), he]
      simp only [Result.andThen, sliced, Int.toNat_natCast, if_neg (show ¬ zs.length = lo by omega), Option.map_some, Nat.mul_one, Go.WideShapes.add_plain, List.length_drop]
    · rw [List.length_drop] at hi
      rw [at0_drop, Nat.add_assoc]
      exact hc (lo + i) (by omega)
/-- an intake that lies in block T: what came, what of it was told -/
structure IkObj (W : World) (T : Nat) (most : Int) (begun : Bool) (cv : Value) (cs : List Int) (told : Nat) (over : Int) : Prop where
  blk : IkBlk W T most begun cv told over
  came : CamB W cv cs
  le : told ≤ cs.length
  ne : ∀ g, cv.ownBlock = some g → g ≠ T
section
variable {W W' : World} {T : Nat} {most : Int} {begun : Bool} {cv : Value} {cs : List Int} {told : Nat} {over : Int}
theorem IkObj.turn {S : Nat → Prop} (h : IkObj W T most begun cv cs told over) (ht : Turn S W W') (h1 : ¬ S T) (h2 : ∀ g, cv.ownBlock = some g → ¬ S g) : IkObj W' T most begun cv cs told over := ⟨ht.obj h.blk h1, h.came.turn ht h2, h.le, h.ne⟩
theorem IkObj.below (h : IkObj W T most begun cv cs told over) (hb : Below W.heap.size W W') : IkObj W' T most begun cv cs told over := h.turn (Turn.of_below hb (S := fun _ => False)) id (fun _ _ => id)
end
/-- the block T alone is turned -/
theorem turn_set {W : World} (T j : Nat) (u : Value) : Turn (fun k => k = T) W (W.setCell ⟨T, j, none⟩ u) := Turn.of_grown ⟨rfl, rfl, rfl, by simp [World.setCell], fun k _ hne => Below.heap_setCell _ _ _ _ (fun e => hne (by rw [show k = T from e]))⟩
end Go.Proofs.Ytappehjcbjplaaa
