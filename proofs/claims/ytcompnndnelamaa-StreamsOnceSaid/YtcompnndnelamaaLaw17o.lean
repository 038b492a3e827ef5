
/-
  Layer 17: the law StreamsOnce: the table and the law's three rows, apart (written by wip/tools/gen17c.py).
-/
import Derived.Test.YtcompnndnelamaaLaw17
import Derived.Test.YtcompnndnelamaaStrmOnce
import Derived.Test.YtcompnndnelamaaActs17
namespace Go.Proofs.Ytcompnndnelamaa
set_option maxRecDepth 20000
open Go.RowKit

structure On17 (w W : World) (T : Nat) (B : Nat → Prop) (s : St17) (vo : Value) (xo : List Int) (va : Value) (xa : List Int) (vl : Value) (xl : List Int) : Prop where
  p : TbAt W T B s
  ro : W.ownsRow w.heap.size 3 1 vo xo.length (xo.map (Value.int .i64))
  ra : W.ownsRow w.heap.size 3 1 va xa.length (xa.map (Value.int .i64))
  rl : W.ownsRow w.heap.size 3 1 vl xl.length (xl.map (Value.int .i64))
  b : Below w.heap.size w W
  sep : Sep w.heap.size (onB B vo va vl) W
section
variable {w W W' : World} {T : Nat} {B B' : Nat → Prop} {s s' : St17} {vo va vl : Value} {xo xa xl : List Int}
theorem On17.grown (h : On17 w W T B s vo xo va xa vl xl) (hb : Below W.heap.size W W') : On17 w W' T B s vo xo va xa vl xl :=
  ⟨h.p.turn (Turn.of_below hb (S := fun _ => False)) (fun _ _ => id), owned_below h.ro hb, owned_below h.ra hb, owned_below h.rl hb, h.b.trans (hb.mono h.b.size), h.sep.grow hb.size⟩
theorem On17.stepP (h : On17 w W T B s vo xo va xa vl xl) (ha : TbAt W' T B' s') (ht : Turn B W W') (hB : ∀ g, B' g → B g ∨ W.heap.size ≤ g) : On17 w W' T B' s' vo xo va xa vl xl := by
  have hs := ht.size
  refine ⟨ha, owned_turn h.ro ht (fun g hg e => h.sep.ne 1 0 g (by decide) (show onB B vo va vl 1 g from hg) e), owned_turn h.ra ht (fun g hg e => h.sep.ne 2 0 g (by decide) (show onB B vo va vl 2 g from hg) e), owned_turn h.rl ht (fun g hg e => h.sep.ne 3 0 g (by decide) (show onB B vo va vl 3 g from hg) e), ht.base h.b h.b.size (fun k hk => h.sep.ge 0 k hk),
    h.sep.on hs ⟨hB, fun g hg => ha.lt g hg⟩ ⟨fun g hg => .inl hg, fun g hg => Nat.lt_of_lt_of_le (h.sep.lt 1 g hg) hs⟩ ⟨fun g hg => .inl hg, fun g hg => Nat.lt_of_lt_of_le (h.sep.lt 2 g hg) hs⟩ ⟨fun g hg => .inl hg, fun g hg => Nat.lt_of_lt_of_le (h.sep.lt 3 g hg) hs⟩ (fun i j g hij hge h1 h2 => ?_)⟩
  match j, h2 with
  | 1, h2 => have := h.sep.lt 1 g h2; omega
  | 2, h2 => have := h.sep.lt 2 g h2; omega
  | 3, h2 => have := h.sep.lt 3 g h2; omega
/-- a new row of the open ones -/
theorem On17.setA (h : On17 w W T B s vo xo va xa vl xl) (hb : Below W.heap.size W W') {va' : Value} {xa' : List Int} (own : W'.ownsRow W.heap.size 3 1 va' xa'.length (xa'.map (Value.int .i64))) : On17 w W' T B s vo xo va' xa' vl xl := by
  have hg := h.grown hb
  refine ⟨hg.p, hg.ro, owned_mono own h.b.size, hg.rl, hg.b, h.sep.on hb.size ⟨fun g hg => .inl hg, fun g hg => Nat.lt_of_lt_of_le (h.sep.lt 0 g hg) hb.size⟩ ⟨fun g hg => .inl hg, fun g hg => Nat.lt_of_lt_of_le (h.sep.lt 1 g hg) hb.size⟩ ⟨fun g hg => .inr (own.lt g hg).1, fun g hg => (own.lt g hg).2⟩ ⟨fun g hg => .inl hg, fun g hg => Nat.lt_of_lt_of_le (h.sep.lt 3 g hg) hb.size⟩ (fun i j g hij hge h1 h2 => ?_)⟩
  match j, h2 with
  | 1, h2 => have := h.sep.lt 1 g h2; omega
  | 2, h2 => match i, hij, h1 with
    | 0, _, h1 => have := h.sep.lt 0 g h1; omega
    | 1, _, h1 => have := h.sep.lt 1 g h1; omega
  | 3, h2 => have := h.sep.lt 3 g h2; omega
theorem On17.appO (h : On17 w W T B s vo xo va xa vl xl) {vo' : Value} {n : Int} (own : W'.ownsRow w.heap.size 3 1 vo' (xo ++ [n]).length ((xo ++ [n]).map (Value.int .i64))) (hg : W.grownBy W' vo.ownBlock) (hat : vo'.ownBlock = vo.ownBlock ∨ vo'.ownBlock = some W.heap.size) :
    On17 w W' T B s vo' (xo ++ [n]) va xa vl xl := by
  have ht := Turn.of_row hg
  have hs := ht.size
  refine ⟨h.p.turn ht (fun g hg e => h.sep.ne 0 1 g (by decide) (show onB B vo va vl 0 g from hg) (show onB B vo va vl 1 g from e)), own, owned_turn h.ra ht (fun g hg e => h.sep.ne 2 1 g (by decide) (show onB B vo va vl 2 g from hg) (show onB B vo va vl 1 g from e)), owned_turn h.rl ht (fun g hg e => h.sep.ne 3 1 g (by decide) (show onB B vo va vl 3 g from hg) (show onB B vo va vl 1 g from e)), ht.base h.b h.b.size (fun k hk => h.sep.ge 1 k hk), h.sep.on hs ⟨fun g hg => .inl hg, fun g hg => Nat.lt_of_lt_of_le (h.sep.lt 0 g hg) hs⟩ ⟨fun g hg => hat.elim (fun e => .inl (e ▸ hg)) (fun e => .inr (by rw [e] at hg; cases hg; exact Nat.le_refl _)), fun g hg => (own.lt g hg).2⟩ ⟨fun g hg => .inl hg, fun g hg => Nat.lt_of_lt_of_le (h.sep.lt 2 g hg) hs⟩ ⟨fun g hg => .inl hg, fun g hg => Nat.lt_of_lt_of_le (h.sep.lt 3 g hg) hs⟩ (fun i j g hij hge h1 h2 => ?_)⟩
  match j, h2 with
  | 1, h2 => match i, hij, h1 with
    | 0, _, h1 => have := h.sep.lt 0 g h1; omega
  | 2, h2 => have := h.sep.lt 2 g h2; omega
  | 3, h2 => have := h.sep.lt 3 g h2; omega
theorem On17.appA (h : On17 w W T B s vo xo va xa vl xl) {va' : Value} {n : Int} (own : W'.ownsRow w.heap.size 3 1 va' (xa ++ [n]).length ((xa ++ [n]).map (Value.int .i64))) (hg : W.grownBy W' va.ownBlock) (hat : va'.ownBlock = va.ownBlock ∨ va'.ownBlock = some W.heap.size) :
    On17 w W' T B s vo xo va' (xa ++ [n]) vl xl := by
  have ht := Turn.of_row hg
  have hs := ht.size
  refine ⟨h.p.turn ht (fun g hg e => h.sep.ne 0 2 g (by decide) (show onB B vo va vl 0 g from hg) (show onB B vo va vl 2 g from e)), owned_turn h.ro ht (fun g hg e => h.sep.ne 1 2 g (by decide) (show onB B vo va vl 1 g from hg) (show onB B vo va vl 2 g from e)), own, owned_turn h.rl ht (fun g hg e => h.sep.ne 3 2 g (by decide) (show onB B vo va vl 3 g from hg) (show onB B vo va vl 2 g from e)), ht.base h.b h.b.size (fun k hk => h.sep.ge 2 k hk), h.sep.on hs ⟨fun g hg => .inl hg, fun g hg => Nat.lt_of_lt_of_le (h.sep.lt 0 g hg) hs⟩ ⟨fun g hg => .inl hg, fun g hg => Nat.lt_of_lt_of_le (h.sep.lt 1 g hg) hs⟩ ⟨fun g hg => hat.elim (fun e => .inl (e ▸ hg)) (fun e => .inr (by rw [e] at hg; cases hg; exact Nat.le_refl _)), fun g hg => (own.lt g hg).2⟩ ⟨fun g hg => .inl hg, fun g hg => Nat.lt_of_lt_of_le (h.sep.lt 3 g hg) hs⟩ (fun i j g hij hge h1 h2 => ?_)⟩
  match j, h2 with
  | 1, h2 => have := h.sep.lt 1 g h2; omega
  | 2, h2 => match i, hij, h1 with
    | 0, _, h1 => have := h.sep.lt 0 g h1; omega
    | 1, _, h1 => have := h.sep.lt 1 g h1; omega
  | 3, h2 => have := h.sep.lt 3 g h2; omega
theorem On17.appL (h : On17 w W T B s vo xo va xa vl xl) {vl' : Value} {n : Int} (own : W'.ownsRow w.heap.size 3 1 vl' (xl ++ [n]).length ((xl ++ [n]).map (Value.int .i64))) (hg : W.grownBy W' vl.ownBlock) (hat : vl'.ownBlock = vl.ownBlock ∨ vl'.ownBlock = some W.heap.size) :
    On17 w W' T B s vo xo va xa vl' (xl ++ [n]) := by
  have ht := Turn.of_row hg
  have hs := ht.size
  refine ⟨h.p.turn ht (fun g hg e => h.sep.ne 0 3 g (by decide) (show onB B vo va vl 0 g from hg) (show onB B vo va vl 3 g from e)), owned_turn h.ro ht (fun g hg e => h.sep.ne 1 3 g (by decide) (show onB B vo va vl 1 g from hg) (show onB B vo va vl 3 g from e)), owned_turn h.ra ht (fun g hg e => h.sep.ne 2 3 g (by decide) (show onB B vo va vl 2 g from hg) (show onB B vo va vl 3 g from e)), own, ht.base h.b h.b.size (fun k hk => h.sep.ge 3 k hk), h.sep.on hs ⟨fun g hg => .inl hg, fun g hg => Nat.lt_of_lt_of_le (h.sep.lt 0 g hg) hs⟩ ⟨fun g hg => .inl hg, fun g hg => Nat.lt_of_lt_of_le (h.sep.lt 1 g hg) hs⟩ ⟨fun g hg => .inl hg, fun g hg => Nat.lt_of_lt_of_le (h.sep.lt 2 g hg) hs⟩ ⟨fun g hg => hat.elim (fun e => .inl (e ▸ hg)) (fun e => .inr (by rw [e] at hg; cases hg; exact Nat.le_refl _)), fun g hg => (own.lt g hg).2⟩ (fun i j g hij hge h1 h2 => ?_)⟩
  match j, h2 with
  | 1, h2 => have := h.sep.lt 1 g h2; omega
  | 2, h2 => have := h.sep.lt 2 g h2; omega
  | 3, h2 => match i, hij, h1 with
    | 0, _, h1 => have := h.sep.lt 0 g h1; omega
    | 1, _, h1 => have := h.sep.lt 1 g h1; omega
    | 2, _, h1 => have := h.sep.lt 2 g h1; omega
end
end Go.Proofs.Ytcompnndnelamaa
