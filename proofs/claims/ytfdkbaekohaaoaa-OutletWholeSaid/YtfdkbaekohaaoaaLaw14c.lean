
/-
  Layer 14: the law OutletWhole: what its objects are, apart.
-/
import Derived.Test.YtfdkbaekohaaoaaLaw14b
import Derived.Test.YtfdkbaekohaaoaaAppAt
import Derived.Test.YtfdkbaekohaaoaaBackMath
namespace Go.Proofs.Ytfdkbaekohaaoaa
set_option maxRecDepth 20000
open Go.RowKit

/-- the owners: the outlet, the frames that were pushed, the bytes that were drained -/
def whB (T : Nat) (O : Option Nat) (wv ov : Value) : Nat → Nat → Prop
  | 0, g => g = T ∨ O = some g
  | 1, g => wv.ownBlock = some g
  | 2, g => ov.ownBlock = some g
  | _, _ => False
structure WhW (w W : World) (T : Nat) (O : Option Nat) (q : List Int) (wv : Value) (ps : List (Fr × Value)) (ov : Value) (out : List Int) : Prop where
  sep : Sep w.heap.size (whB T O wv ov) W
  a : OutAt W T O q
  want : W.ownsRow w.heap.size 40 4 wv ps.length (flat ps)
  pay : ∀ p ∈ ps, Sl .u8 w p.2 p.1.pay
  out_ : W.ownsRow w.heap.size 5 1 ov out.length (out.map (Value.int .u8))
  bel : Below w.heap.size w W
section
variable {w W W' : World} {T : Nat} {O : Option Nat} {q : List Int} {wv ov : Value} {ps : List (Fr × Value)} {out : List Int}
theorem WhW.apart (h : WhW w W T O q wv ps ov out) (i j : Nat) (hij : i ≠ j) : ∀ g, whB T O wv ov i g → ¬ whB T O wv ov j g := fun g h1 h2 => h.sep.ne i j g hij h1 h2
theorem WhW.grown (h : WhW w W T O q wv ps ov out) (hb : Below W.heap.size W W') : WhW w W' T O q wv ps ov out := by
  have ht := Turn.of_below hb (S := fun _ => False)
  exact ⟨h.sep.grow hb.size, h.a.turn ht id (fun _ _ => id), owned_below h.want hb, h.pay, owned_below h.out_ hb, h.bel.trans (hb.mono h.sep.sz)⟩
theorem WhW.stepQ {O' : Option Nat} {q' : List Int} (h : WhW w W T O q wv ps ov out) (ht : Turn (fun g => g = T ∨ O = some g) W W') (ha : OutAt W' T O' q') (hO : O' = O ∨ ∀ g, O' = some g → W.heap.size ≤ g) : WhW w W' T O' q' wv ps ov out := by
  have hla := ha.lt
  refine ⟨h.sep.many ht.size (fun i g hg => ?_) (fun i g hg => ?_) (fun i j g hij hge h1 h2 => ?_), ha, owned_turn h.want ht (fun g hg => h.apart 1 0 (by decide) g hg), h.pay, owned_turn h.out_ ht (fun g hg => h.apart 2 0 (by decide) g hg), h.sep.below 0 ht h.bel⟩
  · match i, hg with
    | 0, .inl e => exact .inl (.inl e)
    | 0, .inr e => exact hO.elim (fun x => .inl (.inr (by rw [← x]; exact e))) (fun f => .inr (f g e))
    | 1, hg => exact .inl hg
    | 2, hg => exact .inl hg
  · match i, hg with
    | 0, .inl e => rw [e]; exact hla.1
    | 0, .inr e => exact hla.2 g e
    | 1, hg => exact Nat.lt_of_lt_of_le (h.sep.lt 1 g hg) ht.size
    | 2, hg => exact Nat.lt_of_lt_of_le (h.sep.lt 2 g hg) ht.size
  · match j, h2 with
    | 1, h2 => have := h.sep.lt 1 g h2; omega
    | 2, h2 => have := h.sep.lt 2 g h2; omega
theorem WhW.stepWant {wv' : Value} {qs : List (Fr × Value)} (h : WhW w W T O q wv ps ov out) (hg : W.grownBy W' wv.ownBlock) (ho : W'.ownsRow w.heap.size 40 4 wv' qs.length (flat qs)) (hp : ∀ p ∈ qs, Sl .u8 w p.2 p.1.pay) (hat : wv'.ownBlock = wv.ownBlock ∨ wv'.ownBlock = some W.heap.size) : WhW w W' T O q wv' qs ov out := by
  have ht : Turn (whB T O wv ov 1) W W' := Turn.of_row hg
  refine ⟨h.sep.many ht.size (fun i g hg => ?_) (fun i g hg => ?_) (fun i j g hij hge h1 h2 => ?_), h.a.turn ht (h.apart 0 1 (by decide) T (.inl rfl)) (fun g hg => h.apart 0 1 (by decide) g (.inr hg)), ho, hp, owned_turn h.out_ ht (fun g hg => h.apart 2 1 (by decide) g hg), h.sep.below 1 ht h.bel⟩
  · match i, hg with
    | 0, hg => exact .inl hg
    | 1, hg => exact hat.elim (fun e => .inl (by show wv.ownBlock = some g; rw [← e]; exact hg)) (fun e => .inr (by have hg' : wv'.ownBlock = some g := hg; rw [e] at hg'; have := Option.some.inj hg'; omega))
    | 2, hg => exact .inl hg
  · match i, hg with
    | 0, hg => exact Nat.lt_of_lt_of_le (h.sep.lt 0 g hg) ht.size
    | 1, hg => exact (ho.lt g hg).2
    | 2, hg => exact Nat.lt_of_lt_of_le (h.sep.lt 2 g hg) ht.size
  · match j, h2 with
    | 1, h2 =>
      match i, hij, h1 with
      | 0, _, h1 => have := h.sep.lt 0 g h1; omega
    | 2, h2 => have := h.sep.lt 2 g h2; omega
theorem WhW.stepOut {ov' : Value} {out' : List Int} (h : WhW w W T O q wv ps ov out) (hg : W.grownBy W' ov.ownBlock) (ho : W'.ownsRow w.heap.size 5 1 ov' out'.length (out'.map (Value.int .u8))) (hat : ov'.ownBlock = ov.ownBlock ∨ ov'.ownBlock = some W.heap.size) : WhW w W' T O q wv ps ov' out' := by
  have ht : Turn (whB T O wv ov 2) W W' := Turn.of_row hg
  refine ⟨h.sep.many ht.size (fun i g hg => ?_) (fun i g hg => ?_) (fun i j g hij hge h1 h2 => ?_), h.a.turn ht (h.apart 0 2 (by decide) T (.inl rfl)) (fun g hg => h.apart 0 2 (by decide) g (.inr hg)), owned_turn h.want ht (fun g hg => h.apart 1 2 (by decide) g hg), h.pay, ho, h.sep.below 2 ht h.bel⟩
  · match i, hg with
    | 0, hg => exact .inl hg
    | 1, hg => exact .inl hg
    | 2, hg => exact hat.elim (fun e => .inl (by show ov.ownBlock = some g; rw [← e]; exact hg)) (fun e => .inr (by have hg' : ov'.ownBlock = some g := hg; rw [e] at hg'; have := Option.some.inj hg'; omega))
  · match i, hg with
    | 0, hg => exact Nat.lt_of_lt_of_le (h.sep.lt 0 g hg) ht.size
    | 1, hg => exact Nat.lt_of_lt_of_le (h.sep.lt 1 g hg) ht.size
    | 2, hg => exact (ho.lt g hg).2
  · match j, h2 with
    | 1, h2 => have := h.sep.lt 1 g h2; omega
    | 2, h2 =>
      match i, hij, h1 with
      | 0, _, h1 => have := h.sep.lt 0 g h1; omega
      | 1, _, h1 => have := h.sep.lt 1 g h1; omega
theorem WhW.new (hT : w.heap.size ≤ T) (hO : ∀ g, O = some g → w.heap.size ≤ g) (ha : OutAt W T O q) (hb : Below w.heap.size w W) : WhW w W T O q (.slice none 0 0) [] (.slice none 0 0) [] := by
  have hla := ha.lt
  have h0 : Sep w.heap.size (fun _ _ => False) w := ⟨fun _ _ h => h.elim, fun _ _ h => h.elim, fun _ _ _ _ h => h.elim, Nat.le_refl _⟩
  refine ⟨h0.many hb.size (fun i g hg => .inr ?_) (fun i g hg => ?_) (fun i j g hij _ h1 h2 => ?_), ha, World.ownsRow_nil _ _ _ _, fun p hp => (by cases hp), World.ownsRow_nil _ _ _ _, hb⟩
  · match i, hg with
    | 0, .inl e => omega
    | 0, .inr e => exact hO g e
    | 1, hg => cases hg
    | 2, hg => cases hg
  · match i, hg with
    | 0, .inl e => have := hla.1; omega
    | 0, .inr e => exact hla.2 g e
    | 1, hg => cases hg
    | 2, hg => cases hg
  · match j, h2 with
    | 1, h2 => cases h2
    | 2, h2 => cases h2
end
/-- what was pushed, and what of it was drained -/
structure Whole14 (fs : List Fr) (q out : List Int) : Prop where
  eq : out ++ q = encs fs
  ok : ∀ f ∈ fs, Okf 500 f
theorem Whole14.new : Whole14 [] [] [] := ⟨rfl, fun f hf => by cases hf⟩
theorem Whole14.push {fs : List Fr} {q out : List Int} (h : Whole14 fs q out) (f : Fr) (hf : Fit .u8 f.pay) (hl : f.pay.length ≤ 500) (hr : f.right) : Whole14 (fs ++ [f]) (pushL q f) out := by
  refine ⟨by rw [pushL, if_pos hr, ← List.append_assoc, h.eq, encs_snoc], fun g hg => ?_⟩
  rcases List.mem_append.1 hg with hg | hg
  · exact h.ok g hg
  · rw [List.mem_singleton.1 hg]; exact ⟨hr, hf, by omega⟩
theorem Whole14.drain {fs : List Fr} {q out : List Int} (h : Whole14 fs q out) (d : Nat) : Whole14 fs (q.drop d) (out ++ q.take d) := ⟨by rw [List.append_assoc, List.take_append_drop, h.eq], h.ok⟩
theorem Whole14.le {fs : List Fr} {q out : List Int} (h : Whole14 fs q out) : out.length + q.length ≤ fs.length * 509 := by
  have h1 := encs_length_le (most := 500) h.ok
  rw [← h.eq, List.length_append] at h1
  omega
theorem Whole14.all {fs : List Fr} {out : List Int} (h : Whole14 fs [] out) : allOf 500 out = (fs, (out.length : Int), 0) := by
  have := h.eq
  rw [List.append_nil] at this
  rw [this]
  exact allOf_encs h.ok
theorem Whole14.fit {fs : List Fr} {q out : List Int} (h : Whole14 fs q out) : Fit .u8 out := fun n hn => encs_fit h.ok n (by rw [← h.eq]; exact List.mem_append_left _ hn)
theorem drainN_le' {n : Int} {len : Nat} (h : 0 < drainN n len) : (drainN n len : Int) ≤ n := by
  unfold drainN at h ⊢
  split at h
  · omega
  · rename_i h0
    rw [if_neg h0]
    split at h
    · rename_i h1; rw [if_pos h1]; omega
    · rename_i h1; rw [if_neg h1]; omega
end Go.Proofs.Ytfdkbaekohaaoaa
