
/-
  Layer 13: the law IntakeChunks: what its objects are, apart.
-/
import Derived.Test.YtappehjcbjplaaaLaw13c
import Derived.Test.YtappehjcbjplaaaAppAt
namespace Go.Proofs.Ytappehjcbjplaaa
set_option maxRecDepth 20000
open Go.RowKit

/-- the owners: the two intakes, all bytes, the frames that were told, their payloads, the frames that were told last -/
def chB (Ta : Nat) (Oa : Option Nat) (Tb : Nat) (Ob : Option Nat) (av tv xv : Value) (ps : List (Fr × Value)) : Nat → Nat → Prop
  | 0, g => g = Ta ∨ Oa = some g
  | 1, g => g = Tb ∨ Ob = some g
  | 2, g => av.ownBlock = some g
  | 3, g => tv.ownBlock = some g
  | 4, g => ∃ p ∈ ps, p.2.ownBlock = some g
  | 5, g => xv.ownBlock = some g
  | _, _ => False
structure ChW (w W : World) (Ta : Nat) (Oa : Option Nat) (n : Nat) (s : Ik) (Tb : Nat) (Ob : Option Nat) (m : Nat) (r : Ik) (av : Value) (all : List Int) (tv : Value) (ps : List (Fr × Value)) (xv : Value) (qs : List (Fr × Value)) : Prop where
  sep : Sep w.heap.size (chB Ta Oa Tb Ob av tv xv (ps ++ qs)) W
  a : InAt W Ta Oa n s
  b : InAt W Tb Ob m r
  all_ : W.ownsRow w.heap.size 5 1 av all.length (all.map (Value.int .u8))
  fit : Fit .u8 all
  told : W.ownsRow w.heap.size 36 4 tv ps.length (flat ps)
  x : W.ownsRow w.heap.size 36 4 xv qs.length (flat qs)
  pay : ∀ p ∈ ps ++ qs, Sl .u8 W p.2 p.1.pay ∧ ∃ a c, p.2 = .slice a p.1.pay.length c
  bel : Below w.heap.size w W
section
variable {w W W' : World} {Ta n Tb m : Nat} {Oa Ob : Option Nat} {s r : Ik} {av tv xv : Value} {all : List Int} {ps qs : List (Fr × Value)}
theorem ChW.apart (h : ChW w W Ta Oa n s Tb Ob m r av all tv ps xv qs) (i j : Nat) (hij : i ≠ j) : ∀ g, chB Ta Oa Tb Ob av tv xv (ps ++ qs) i g → ¬ chB Ta Oa Tb Ob av tv xv (ps ++ qs) j g := fun g h1 h2 => h.sep.ne i j g hij h1 h2
theorem ChW.grown (h : ChW w W Ta Oa n s Tb Ob m r av all tv ps xv qs) (hb : Below W.heap.size W W') : ChW w W' Ta Oa n s Tb Ob m r av all tv ps xv qs := by
  have ht := Turn.of_below hb (S := fun _ => False)
  exact ⟨h.sep.grow hb.size, h.a.turn ht id (fun _ _ => id), h.b.turn ht id (fun _ _ => id), owned_below h.all_ hb, h.fit, owned_below h.told hb, owned_below h.x hb, fun p hp => ⟨(h.pay p hp).1.below hb, (h.pay p hp).2⟩, h.bel.trans (hb.mono h.sep.sz)⟩
theorem ChW.stepA {Oa' : Option Nat} {n' : Nat} {s' : Ik} (h : ChW w W Ta Oa n s Tb Ob m r av all tv ps xv qs) (ht : Turn (fun g => g = Ta ∨ Oa = some g) W W') (ha : InAt W' Ta Oa' n' s') (hO : ∀ g, Oa' = some g → Oa = some g ∨ W.heap.size ≤ g) : ChW w W' Ta Oa' n' s' Tb Ob m r av all tv ps xv qs := by
  have hla := ha.lt
  refine ⟨h.sep.many ht.size (fun i g hg => ?_) (fun i g hg => ?_) (fun i j g hij hge h1 h2 => ?_), ha, h.b.turn ht (h.apart 1 0 (by decide) Tb (.inl rfl)) (fun g hg => h.apart 1 0 (by decide) g (.inr hg)), owned_turn h.all_ ht (fun g hg => h.apart 2 0 (by decide) g hg), h.fit, owned_turn h.told ht (fun g hg => h.apart 3 0 (by decide) g hg), owned_turn h.x ht (fun g hg => h.apart 5 0 (by decide) g hg), fun p hp => ⟨(h.pay p hp).1.turn ht (fun g hg => h.apart 4 0 (by decide) g ⟨p, hp, hg⟩), (h.pay p hp).2⟩, h.sep.below 0 ht h.bel⟩
  · match i, hg with
    | 0, .inl e => exact .inl (.inl e)
    | 0, .inr e => exact (hO g e).imp_left .inr
    | 1, hg => exact .inl hg
    | 2, hg => exact .inl hg
    | 3, hg => exact .inl hg
    | 4, hg => exact .inl hg
    | 5, hg => exact .inl hg
  · match i, hg with
    | 0, .inl e => rw [e]; exact hla.1
    | 0, .inr e => exact hla.2 g e
    | 1, hg => exact Nat.lt_of_lt_of_le (h.sep.lt 1 g hg) ht.size
    | 2, hg => exact Nat.lt_of_lt_of_le (h.sep.lt 2 g hg) ht.size
    | 3, hg => exact Nat.lt_of_lt_of_le (h.sep.lt 3 g hg) ht.size
    | 4, hg => exact Nat.lt_of_lt_of_le (h.sep.lt 4 g hg) ht.size
    | 5, hg => exact Nat.lt_of_lt_of_le (h.sep.lt 5 g hg) ht.size
  · match j, h2 with
    | 1, h2 => have := h.sep.lt 1 g h2; omega
    | 2, h2 => have := h.sep.lt 2 g h2; omega
    | 3, h2 => have := h.sep.lt 3 g h2; omega
    | 4, h2 => have := h.sep.lt 4 g h2; omega
    | 5, h2 => have := h.sep.lt 5 g h2; omega
theorem ChW.stepB {Ob' : Option Nat} {m' : Nat} {r' : Ik} (h : ChW w W Ta Oa n s Tb Ob m r av all tv ps xv qs) (ht : Turn (fun g => g = Tb ∨ Ob = some g) W W') (hb : InAt W' Tb Ob' m' r') (hO : ∀ g, Ob' = some g → Ob = some g ∨ W.heap.size ≤ g) : ChW w W' Ta Oa n s Tb Ob' m' r' av all tv ps xv qs := by
  have hlb := hb.lt
  refine ⟨h.sep.many ht.size (fun i g hg => ?_) (fun i g hg => ?_) (fun i j g hij hge h1 h2 => ?_), h.a.turn ht (h.apart 0 1 (by decide) Ta (.inl rfl)) (fun g hg => h.apart 0 1 (by decide) g (.inr hg)), hb, owned_turn h.all_ ht (fun g hg => h.apart 2 1 (by decide) g hg), h.fit, owned_turn h.told ht (fun g hg => h.apart 3 1 (by decide) g hg), owned_turn h.x ht (fun g hg => h.apart 5 1 (by decide) g hg), fun p hp => ⟨(h.pay p hp).1.turn ht (fun g hg => h.apart 4 1 (by decide) g ⟨p, hp, hg⟩), (h.pay p hp).2⟩, h.sep.below 1 ht h.bel⟩
  · match i, hg with
    | 1, .inl e => exact .inl (.inl e)
    | 1, .inr e => exact (hO g e).imp_left .inr
    | 0, hg => exact .inl hg
    | 2, hg => exact .inl hg
    | 3, hg => exact .inl hg
    | 4, hg => exact .inl hg
    | 5, hg => exact .inl hg
  · match i, hg with
    | 1, .inl e => rw [e]; exact hlb.1
    | 1, .inr e => exact hlb.2 g e
    | 0, hg => exact Nat.lt_of_lt_of_le (h.sep.lt 0 g hg) ht.size
    | 2, hg => exact Nat.lt_of_lt_of_le (h.sep.lt 2 g hg) ht.size
    | 3, hg => exact Nat.lt_of_lt_of_le (h.sep.lt 3 g hg) ht.size
    | 4, hg => exact Nat.lt_of_lt_of_le (h.sep.lt 4 g hg) ht.size
    | 5, hg => exact Nat.lt_of_lt_of_le (h.sep.lt 5 g hg) ht.size
  · match j, h2 with
    | 1, h2 =>
      obtain rfl : i = 0 := by omega
      have := h.sep.lt 0 g h1; omega
    | 2, h2 => have := h.sep.lt 2 g h2; omega
    | 3, h2 => have := h.sep.lt 3 g h2; omega
    | 4, h2 => have := h.sep.lt 4 g h2; omega
    | 5, h2 => have := h.sep.lt 5 g h2; omega
theorem ChW.stepAll {av' : Value} {all' : List Int} (h : ChW w W Ta Oa n s Tb Ob m r av all tv ps xv qs) (hg : W.grownBy W' av.ownBlock) (ho : W'.ownsRow w.heap.size 5 1 av' all'.length (all'.map (Value.int .u8))) (hf : Fit .u8 all') (hat : av'.ownBlock = av.ownBlock ∨ av'.ownBlock = some W.heap.size) :
    ChW w W' Ta Oa n s Tb Ob m r av' all' tv ps xv qs := by
  have ht : Turn (chB Ta Oa Tb Ob av tv xv (ps ++ qs) 2) W W' := Turn.of_row hg
  refine ⟨h.sep.many ht.size (fun i g hg => ?_) (fun i g hg => ?_) (fun i j g hij hge h1 h2 => ?_), h.a.turn ht (h.apart 0 2 (by decide) Ta (.inl rfl)) (fun g hg => h.apart 0 2 (by decide) g (.inr hg)), h.b.turn ht (h.apart 1 2 (by decide) Tb (.inl rfl)) (fun g hg => h.apart 1 2 (by decide) g (.inr hg)), ho, hf, owned_turn h.told ht (fun g hg => h.apart 3 2 (by decide) g hg), owned_turn h.x ht (fun g hg => h.apart 5 2 (by decide) g hg), fun p hp => ⟨(h.pay p hp).1.turn ht (fun g hg => h.apart 4 2 (by decide) g ⟨p, hp, hg⟩), (h.pay p hp).2⟩, h.sep.below 2 ht h.bel⟩
  · match i, hg with
    | 0, hg => exact .inl hg
    | 1, hg => exact .inl hg
    | 2, hg => exact hat.elim (fun e => .inl (by show av.ownBlock = some g; rw [← e]; exact hg)) (fun e => .inr (by have hg' : av'.ownBlock = some g := hg; rw [e] at hg'; have := Option.some.inj hg'; omega))
    | 3, hg => exact .inl hg
    | 4, hg => exact .inl hg
    | 5, hg => exact .inl hg
  · match i, hg with
    | 0, hg => exact Nat.lt_of_lt_of_le (h.sep.lt 0 g hg) ht.size
    | 1, hg => exact Nat.lt_of_lt_of_le (h.sep.lt 1 g hg) ht.size
    | 2, hg => exact (ho.lt g hg).2
    | 3, hg => exact Nat.lt_of_lt_of_le (h.sep.lt 3 g hg) ht.size
    | 4, hg => exact Nat.lt_of_lt_of_le (h.sep.lt 4 g hg) ht.size
    | 5, hg => exact Nat.lt_of_lt_of_le (h.sep.lt 5 g hg) ht.size
  · match j, h2 with
    | 1, h2 => have := h.sep.lt 1 g h2; omega
    | 2, h2 =>
      match i, hij, h1 with
      | 0, _, h1 => have := h.sep.lt 0 g h1; omega
      | 1, _, h1 => have := h.sep.lt 1 g h1; omega
    | 3, h2 => have := h.sep.lt 3 g h2; omega
    | 4, h2 => have := h.sep.lt 4 g h2; omega
    | 5, h2 => have := h.sep.lt 5 g h2; omega
theorem ChW.stepTold {tv' : Value} (h : ChW w W Ta Oa n s Tb Ob m r av all tv ps xv qs) (hg : W.grownBy W' tv.ownBlock) (ho : W'.ownsRow w.heap.size 36 4 tv' (ps ++ qs).length (flat (ps ++ qs))) (hat : tv'.ownBlock = tv.ownBlock ∨ tv'.ownBlock = some W.heap.size) :
    ChW w W' Ta Oa n s Tb Ob m r av all tv' (ps ++ qs) (.slice none 0 0) [] := by
  have ht : Turn (chB Ta Oa Tb Ob av tv xv (ps ++ qs) 3) W W' := Turn.of_row hg
  have hpay := (fun p hp => ⟨(h.pay p hp).1.turn ht (fun g hg => h.apart 4 3 (by decide) g ⟨p, hp, hg⟩), (h.pay p hp).2⟩ : ∀ p ∈ ps ++ qs, Sl .u8 W' p.2 p.1.pay ∧ ∃ a c, p.2 = .slice a p.1.pay.length c)
  refine ⟨h.sep.many ht.size (fun i g hg => ?_) (fun i g hg => ?_) (fun i j g hij hge h1 h2 => ?_), h.a.turn ht (h.apart 0 3 (by decide) Ta (.inl rfl)) (fun g hg => h.apart 0 3 (by decide) g (.inr hg)), h.b.turn ht (h.apart 1 3 (by decide) Tb (.inl rfl)) (fun g hg => h.apart 1 3 (by decide) g (.inr hg)), owned_turn h.all_ ht (fun g hg => h.apart 2 3 (by decide) g hg), h.fit, ho, World.ownsRow_nil _ _ _ _, by rw [List.append_nil]; exact hpay, h.sep.below 3 ht h.bel⟩
  · match i, hg with
    | 0, hg => exact .inl hg
    | 1, hg => exact .inl hg
    | 2, hg => exact .inl hg
    | 3, hg => exact hat.elim (fun e => .inl (by show tv.ownBlock = some g; rw [← e]; exact hg)) (fun e => .inr (by have hg' : tv'.ownBlock = some g := hg; rw [e] at hg'; have := Option.some.inj hg'; omega))
    | 4, hg => exact .inl (by have hg' : ∃ p ∈ (ps ++ qs) ++ [], p.2.ownBlock = some g := hg; rw [List.append_nil] at hg'; exact hg')
    | 5, hg => cases hg
  · match i, hg with
    | 0, hg => exact Nat.lt_of_lt_of_le (h.sep.lt 0 g hg) ht.size
    | 1, hg => exact Nat.lt_of_lt_of_le (h.sep.lt 1 g hg) ht.size
    | 2, hg => exact Nat.lt_of_lt_of_le (h.sep.lt 2 g hg) ht.size
    | 3, hg => exact (ho.lt g hg).2
    | 4, hg => exact Nat.lt_of_lt_of_le (h.sep.lt 4 g (by have hg' : ∃ p ∈ (ps ++ qs) ++ [], p.2.ownBlock = some g := hg; rw [List.append_nil] at hg'; exact hg')) ht.size
    | 5, hg => cases hg
  · match j, h2 with
    | 1, h2 => have := h.sep.lt 1 g h2; omega
    | 2, h2 => have := h.sep.lt 2 g h2; omega
    | 3, h2 =>
      match i, hij, h1 with
      | 0, _, h1 => have := h.sep.lt 0 g h1; omega
      | 1, _, h1 => have := h.sep.lt 1 g h1; omega
      | 2, _, h1 => have := h.sep.lt 2 g h1; omega
    | 4, h2 => have := h.sep.lt 4 g (by have hg' : ∃ p ∈ (ps ++ qs) ++ [], p.2.ownBlock = some g := h2; rw [List.append_nil] at hg'; exact hg'); omega
    | 5, h2 => cases h2
/-- all frames of one intake -/
theorem ChW.framesA {O' : Option Nat} {s' : Ik} {zv : Value} {zs : List (Fr × Value)} (h : ChW w W Ta Oa n s Tb Ob m r av all tv ps (.slice none 0 0) []) (ht : Turn (fun g => g = Ta ∨ Oa = some g) W W') (ha : InAt W' Ta O' n s') (hO : ∀ g, O' = some g → Oa = some g ∨ W.heap.size ≤ g)
    (hr : RowN W' W.heap.size W.heap.size zv zs) (hn : ∀ g, O' = some g → zv.ownBlock ≠ some g ∧ ∀ p ∈ zs, p.2.ownBlock ≠ some g) : ChW w W' Ta O' n s' Tb Ob m r av all tv ps zv zs := by
  have hla := ha.lt
  have hTl := h.a.lt
  have hp0 : ∀ p ∈ ps, p ∈ ps ++ ([] : List (Fr × Value)) := fun p hp => by rw [List.append_nil]; exact hp
  refine ⟨h.sep.many ht.size (fun i g hg => ?_) (fun i g hg => ?_) (fun i j g hij hge h1 h2 => ?_), ha, h.b.turn ht (h.apart 1 0 (by decide) Tb (.inl rfl)) (fun g hg => h.apart 1 0 (by decide) g (.inr hg)), owned_turn h.all_ ht (fun g hg => h.apart 2 0 (by decide) g hg), h.fit, owned_turn h.told ht (fun g hg => h.apart 3 0 (by decide) g hg), owned_mono hr.1 h.sep.sz, fun p hp => ?_, h.sep.below 0 ht h.bel⟩
  · match i, hg with
    | 0, .inl e => exact .inl (.inl e)
    | 0, .inr e => exact (hO g e).imp_left .inr
    | 1, hg => exact .inl hg
    | 2, hg => exact .inl hg
    | 3, hg => exact .inl hg
    | 4, ⟨p, hp, hg⟩ =>
      rcases List.mem_append.1 hp with hp | hp
      · exact .inl ⟨p, hp0 p hp, hg⟩
      · exact .inr ((hr.2 p hp).2.1 g hg).1
    | 5, hg => exact .inr (hr.1.lt g hg).1
  · match i, hg with
    | 0, .inl e => rw [e]; exact hla.1
    | 0, .inr e => exact hla.2 g e
    | 1, hg => exact Nat.lt_of_lt_of_le (h.sep.lt 1 g hg) ht.size
    | 2, hg => exact Nat.lt_of_lt_of_le (h.sep.lt 2 g hg) ht.size
    | 3, hg => exact Nat.lt_of_lt_of_le (h.sep.lt 3 g hg) ht.size
    | 4, ⟨p, hp, hg⟩ =>
      rcases List.mem_append.1 hp with hp | hp
      · exact Nat.lt_of_lt_of_le (h.sep.lt 4 g ⟨p, hp0 p hp, hg⟩) ht.size
      · exact ((hr.2 p hp).2.1 g hg).2.1
    | 5, hg => exact (hr.1.lt g hg).2
  · have old : ∀ q, q = 1 ∨ q = 2 ∨ q = 3 → chB Ta O' Tb Ob av tv zv (ps ++ zs) q g → False := fun q hq hh => by
      have : chB Ta Oa Tb Ob av tv (.slice none 0 0) (ps ++ []) q g := by
        rcases hq with rfl | rfl | rfl <;> exact hh
      have := h.sep.lt q g this; omega
    have new0 : chB Ta O' Tb Ob av tv zv (ps ++ zs) 0 g → O' = some g := fun hh => by
      rcases hh with e | e
      · rw [e] at hge; have := hTl.1; omega
      · exact e
    have new4 : chB Ta O' Tb Ob av tv zv (ps ++ zs) 4 g → ∃ p ∈ zs, p.2.ownBlock = some g := fun ⟨p, hp, hh⟩ => by
      rcases List.mem_append.1 hp with hp | hp
      · have := h.sep.lt 4 g ⟨p, hp0 p hp, hh⟩; omega
      · exact ⟨p, hp, hh⟩
    match i, j, hij, h1, h2 with
    | 0, 1, _, h1, h2 => exact old 1 (by decide) h2
    | 0, 2, _, h1, h2 => exact old 2 (by decide) h2
    | 0, 3, _, h1, h2 => exact old 3 (by decide) h2
    | 0, 4, _, h1, h2 => obtain ⟨p, hp, hh⟩ := new4 h2; exact (hn g (new0 h1)).2 p hp hh
    | 0, 5, _, h1, h2 => exact (hn g (new0 h1)).1 h2
    | 1, 2, _, h1, h2 => exact old 2 (by decide) h2
    | 1, 3, _, h1, h2 => exact old 3 (by decide) h2
    | 1, 4, _, h1, h2 => exact old 1 (by decide) h1
    | 1, 5, _, h1, h2 => exact old 1 (by decide) h1
    | 2, 3, _, h1, h2 => exact old 3 (by decide) h2
    | 2, 4, _, h1, h2 => exact old 2 (by decide) h1
    | 2, 5, _, h1, h2 => exact old 2 (by decide) h1
    | 3, 4, _, h1, h2 => exact old 3 (by decide) h1
    | 3, 5, _, h1, h2 => exact old 3 (by decide) h1
    | 4, 5, _, h1, h2 => obtain ⟨p, hp, hh⟩ := new4 h1; exact ((hr.2 p hp).2.1 g hh).2.2 h2
    | i + 6, _, _, h1, _ => cases h1
    | 0, j + 6, _, _, h2 => cases h2
    | 1, j + 6, _, _, h2 => cases h2
    | 2, j + 6, _, _, h2 => cases h2
    | 3, j + 6, _, _, h2 => cases h2
    | 4, j + 6, _, _, h2 => cases h2
    | 5, j + 6, _, _, h2 => cases h2
  · rcases List.mem_append.1 hp with hp | hp
    · exact ⟨(h.pay p (hp0 p hp)).1.turn ht (fun g hg => h.apart 4 0 (by decide) g ⟨p, hp0 p hp, hg⟩), (h.pay p (hp0 p hp)).2⟩
    · exact ⟨(hr.2 p hp).1, (hr.2 p hp).2.2⟩
/-- all frames of one intake -/
theorem ChW.framesB {O' : Option Nat} {s' : Ik} {zv : Value} {zs : List (Fr × Value)} (h : ChW w W Ta Oa n s Tb Ob m r av all tv ps (.slice none 0 0) []) (ht : Turn (fun g => g = Tb ∨ Ob = some g) W W') (ha : InAt W' Tb O' m s') (hO : ∀ g, O' = some g → Ob = some g ∨ W.heap.size ≤ g)
    (hr : RowN W' W.heap.size W.heap.size zv zs) (hn : ∀ g, O' = some g → zv.ownBlock ≠ some g ∧ ∀ p ∈ zs, p.2.ownBlock ≠ some g) : ChW w W' Ta Oa n s Tb O' m s' av all tv ps zv zs := by
  have hla := ha.lt
  have hTl := h.b.lt
  have hp0 : ∀ p ∈ ps, p ∈ ps ++ ([] : List (Fr × Value)) := fun p hp => by rw [List.append_nil]; exact hp
  refine ⟨h.sep.many ht.size (fun i g hg => ?_) (fun i g hg => ?_) (fun i j g hij hge h1 h2 => ?_), h.a.turn ht (h.apart 0 1 (by decide) Ta (.inl rfl)) (fun g hg => h.apart 0 1 (by decide) g (.inr hg)), ha, owned_turn h.all_ ht (fun g hg => h.apart 2 1 (by decide) g hg), h.fit, owned_turn h.told ht (fun g hg => h.apart 3 1 (by decide) g hg), owned_mono hr.1 h.sep.sz, fun p hp => ?_, h.sep.below 1 ht h.bel⟩
  · match i, hg with
    | 1, .inl e => exact .inl (.inl e)
    | 1, .inr e => exact (hO g e).imp_left .inr
    | 0, hg => exact .inl hg
    | 2, hg => exact .inl hg
    | 3, hg => exact .inl hg
    | 4, ⟨p, hp, hg⟩ =>
      rcases List.mem_append.1 hp with hp | hp
      · exact .inl ⟨p, hp0 p hp, hg⟩
      · exact .inr ((hr.2 p hp).2.1 g hg).1
    | 5, hg => exact .inr (hr.1.lt g hg).1
  · match i, hg with
    | 1, .inl e => rw [e]; exact hla.1
    | 1, .inr e => exact hla.2 g e
    | 0, hg => exact Nat.lt_of_lt_of_le (h.sep.lt 0 g hg) ht.size
    | 2, hg => exact Nat.lt_of_lt_of_le (h.sep.lt 2 g hg) ht.size
    | 3, hg => exact Nat.lt_of_lt_of_le (h.sep.lt 3 g hg) ht.size
    | 4, ⟨p, hp, hg⟩ =>
      rcases List.mem_append.1 hp with hp | hp
      · exact Nat.lt_of_lt_of_le (h.sep.lt 4 g ⟨p, hp0 p hp, hg⟩) ht.size
      · exact ((hr.2 p hp).2.1 g hg).2.1
    | 5, hg => exact (hr.1.lt g hg).2
  · have old : ∀ q, q = 0 ∨ q = 2 ∨ q = 3 → chB Ta Oa Tb O' av tv zv (ps ++ zs) q g → False := fun q hq hh => by
      have : chB Ta Oa Tb Ob av tv (.slice none 0 0) (ps ++ []) q g := by
        rcases hq with rfl | rfl | rfl <;> exact hh
      have := h.sep.lt q g this; omega
    have new0 : chB Ta Oa Tb O' av tv zv (ps ++ zs) 1 g → O' = some g := fun hh => by
      rcases hh with e | e
      · rw [e] at hge; have := hTl.1; omega
      · exact e
    have new4 : chB Ta Oa Tb O' av tv zv (ps ++ zs) 4 g → ∃ p ∈ zs, p.2.ownBlock = some g := fun ⟨p, hp, hh⟩ => by
      rcases List.mem_append.1 hp with hp | hp
      · have := h.sep.lt 4 g ⟨p, hp0 p hp, hh⟩; omega
      · exact ⟨p, hp, hh⟩
    match i, j, hij, h1, h2 with
    | 0, 1, _, h1, h2 => exact old 0 (by decide) h1
    | 0, 2, _, h1, h2 => exact old 2 (by decide) h2
    | 0, 3, _, h1, h2 => exact old 3 (by decide) h2
    | 0, 4, _, h1, h2 => exact old 0 (by decide) h1
    | 0, 5, _, h1, h2 => exact old 0 (by decide) h1
    | 1, 2, _, h1, h2 => exact old 2 (by decide) h2
    | 1, 3, _, h1, h2 => exact old 3 (by decide) h2
    | 1, 4, _, h1, h2 => obtain ⟨p, hp, hh⟩ := new4 h2; exact (hn g (new0 h1)).2 p hp hh
    | 1, 5, _, h1, h2 => exact (hn g (new0 h1)).1 h2
    | 2, 3, _, h1, h2 => exact old 3 (by decide) h2
    | 2, 4, _, h1, h2 => exact old 2 (by decide) h1
    | 2, 5, _, h1, h2 => exact old 2 (by decide) h1
    | 3, 4, _, h1, h2 => exact old 3 (by decide) h1
    | 3, 5, _, h1, h2 => exact old 3 (by decide) h1
    | 4, 5, _, h1, h2 => obtain ⟨p, hp, hh⟩ := new4 h1; exact ((hr.2 p hp).2.1 g hh).2.2 h2
    | i + 6, _, _, h1, _ => cases h1
    | 0, j + 6, _, _, h2 => cases h2
    | 1, j + 6, _, _, h2 => cases h2
    | 2, j + 6, _, _, h2 => cases h2
    | 3, j + 6, _, _, h2 => cases h2
    | 4, j + 6, _, _, h2 => cases h2
    | 5, j + 6, _, _, h2 => cases h2
  · rcases List.mem_append.1 hp with hp | hp
    · exact ⟨(h.pay p (hp0 p hp)).1.turn ht (fun g hg => h.apart 4 1 (by decide) g ⟨p, hp0 p hp, hg⟩), (h.pay p (hp0 p hp)).2⟩
    · exact ⟨(hr.2 p hp).1, (hr.2 p hp).2.2⟩
end
end Go.Proofs.Ytappehjcbjplaaa
