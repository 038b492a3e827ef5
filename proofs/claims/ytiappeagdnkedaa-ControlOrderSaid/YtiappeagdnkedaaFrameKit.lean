
/-
  Frames: what a value of the frame's type, and a slice of them, read as; plain words, no function of the program is named here.
-/
import Derived.Test.YtiappeagdnkedaaKit
import Derived.Test.YtiappeagdnkedaaWireMath
namespace Go.Proofs.Ytiappeagdnkedaa
open Go.RowKit

/-- the parts of a frame -/
structure Fr where
  kind : Int
  flags : Int
  stream : Int
  pay : List Int
deriving DecidableEq
def Fr.zero : Fr := ⟨0, 0, 0, []⟩
/-- its cells -/
def frCells (f : Fr) (pv : Value) : List Value := [.int .i64 f.kind, .int .i64 f.flags, .int .i64 f.stream, pv]
/-- the value 'v' reads as this frame -/
def FrV (w : World) (v : Value) (f : Fr) : Prop := ∃ pv, v = .agg #[.int .i64 f.kind, .int .i64 f.flags, .int .i64 f.stream, pv] ∧ Sl .u8 w pv f.pay
theorem FrV.below {w w' : World} {v : Value} {f : Fr} (h : FrV w v f) (hb : Below w.heap.size w w') : FrV w' v f := by
  obtain ⟨pv, rfl, h⟩ := h; exact ⟨pv, rfl, h.below hb⟩
theorem Fr.eq_iff {f g : Fr} : f = g ↔ f.pay = g.pay ∧ f.kind = g.kind ∧ f.flags = g.flags ∧ f.stream = g.stream := by
  cases f; cases g; simp only [Fr.mk.injEq]
  constructor
  · rintro ⟨h1, h2, h3, h4⟩; exact ⟨h4, h1, h2, h3⟩
  · rintro ⟨h1, h2, h3, h4⟩; exact ⟨h2, h3, h4, h1⟩
/-- a frame may be -/
def Fr.right (f : Fr) : Prop := 0 ≤ f.kind ∧ f.kind ≤ 255 ∧ 0 ≤ f.flags ∧ f.flags ≤ 255 ∧ 0 ≤ f.stream ∧ f.stream ≤ 2147483647 ∧ (f.pay.length : Int) ≤ 16777215
instance (f : Fr) : Decidable f.right := by unfold Fr.right; infer_instance
/-- its bytes -/
def Fr.enc (f : Fr) : List Int := putL f.pay.length 3 ++ [f.kind, f.flags] ++ putL f.stream 4 ++ f.pay

/-- a frame that lies in a block of its own -/
def Bx (W : World) (B : Nat) (t : TypeId) (f : Fr) (pv : Value) : Prop := W.heap[B]? = some (.cells #[.int .i64 f.kind, .int .i64 f.flags, .int .i64 f.stream, pv] t (0, 0))
theorem Bx.new (w : World) (t : TypeId) (f : Fr) (pv : Value) : Bx (w.alloc (.cells #[.int .i64 f.kind, .int .i64 f.flags, .int .i64 f.stream, pv] t)) w.heap.size t f pv := heap_alloc_new w _
theorem Bx.lt {W : World} {B : Nat} {t : TypeId} {f : Fr} {pv : Value} (h : Bx W B t f pv) : B < W.heap.size := (Array.getElem?_eq_some_iff.1 h).1
theorem Bx.below {W W' : World} {B : Nat} {t : TypeId} {f : Fr} {pv : Value} (h : Bx W B t f pv) (hb : Below W.heap.size W W') : Bx W' B t f pv := (hb.block B h.lt).trans h
theorem Bx.c0 {W : World} {B : Nat} {t : TypeId} {f : Fr} {pv : Value} (h : Bx W B t f pv) : W.cell? ⟨B, 0, none⟩ = some (.int .i64 f.kind) := by unfold Bx at h; simp [World.cell?, h]
theorem Bx.c1 {W : World} {B : Nat} {t : TypeId} {f : Fr} {pv : Value} (h : Bx W B t f pv) : W.cell? ⟨B, 1, none⟩ = some (.int .i64 f.flags) := by unfold Bx at h; simp [World.cell?, h]
theorem Bx.c2 {W : World} {B : Nat} {t : TypeId} {f : Fr} {pv : Value} (h : Bx W B t f pv) : W.cell? ⟨B, 2, none⟩ = some (.int .i64 f.stream) := by unfold Bx at h; simp [World.cell?, h]
theorem Bx.c3 {W : World} {B : Nat} {t : TypeId} {f : Fr} {pv : Value} (h : Bx W B t f pv) : W.cell? ⟨B, 3, none⟩ = some pv := by unfold Bx at h; simp [World.cell?, h]
theorem Fr.enc_length (f : Fr) : f.enc.length = 9 + f.pay.length := by simp [Fr.enc, putL_length]; omega
theorem Fr.enc_fit {f : Fr} (h : f.right) (hp : Fit .u8 f.pay) : Fit .u8 f.enc := by
  obtain ⟨h1, h2, h3, h4, _⟩ := h
  intro n hn
  simp only [Fr.enc, List.mem_append, List.mem_cons, List.not_mem_nil, or_false] at hn
  rcases hn with ((hn | rfl | rfl) | hn) | hn
  · exact putL_fit _ _ n hn
  · exact WalkArith.wf_u8 (by omega)
  · exact WalkArith.wf_u8 (by omega)
  · exact putL_fit _ _ n hn
  · exact hp n hn
theorem putL_one {n : Int} (h1 : 0 ≤ n) (h2 : n ≤ 255) : putL n 1 = [n] := by simp [putL]; omega

/-- what bytes begin with: the error; how many bytes it has; the frame -/
def nextE (zs : List Int) (most : Int) : Int := if zs.length < 9 then 2 else if most < num (zs.take 3) then 4 else if (zs.length : Int) < 9 + num (zs.take 3) then 2 else 0
def nextN (zs : List Int) (most : Int) : Int := if nextE zs most = 0 then 9 + num (zs.take 3) else 0
def nextF (zs : List Int) (most : Int) : Fr := if nextE zs most = 0 then ⟨at0 zs 3, at0 zs 4, num ((zs.drop 5).take 4) % 2147483648, (zs.drop 9).take (num (zs.take 3)).toNat⟩ else Fr.zero
theorem next_step {zs : List Int} {most : Int} (h : nextE zs most = 0) (hf : Fit .u8 zs) : 9 ≤ zs.length ∧ 9 ≤ nextN zs most ∧ nextN zs most ≤ zs.length ∧ 9 + ((nextF zs most).pay.length : Int) = nextN zs most := by
  have h' := h
  unfold nextE at h
  split at h
  · cases h
  · split at h
    · cases h
    · split at h
      · cases h
      · have hb := num_take_bound zs 3 hf (by omega)
        have e : nextN zs most = 9 + num (zs.take 3) := by rw [nextN, if_pos h']
        refine ⟨by omega, by omega, by omega, ?_⟩
        rw [e, nextF, if_pos h']
        simp only [List.length_take, List.length_drop]
        omega
theorem nextF_len (zs : List Int) (most : Int) : (nextF zs most).pay.length ≤ zs.length := by
  unfold nextF
  split
  · simp; omega
  · simp [Fr.zero]
/-- all that bytes are: the frames; how many bytes these have; the error. ('k': no more steps than these) -/
def allS (most : Int) : Nat → List Int → List Fr × Int × Int
  | 0, _ => ([], 0, 0)
  | k + 1, zs => if zs.length = 0 then ([], 0, 0) else if nextE zs most = 0 then
      (nextF zs most :: (allS most k (zs.drop (nextN zs most).toNat)).1, nextN zs most + (allS most k (zs.drop (nextN zs most).toNat)).2.1, (allS most k (zs.drop (nextN zs most).toNat)).2.2)
    else ([], 0, nextE zs most)
theorem allS_succ (most : Int) (k : Nat) (zs : List Int) : allS most (k + 1) zs = if zs.length = 0 then ([], 0, 0) else if nextE zs most = 0 then
      (nextF zs most :: (allS most k (zs.drop (nextN zs most).toNat)).1, nextN zs most + (allS most k (zs.drop (nextN zs most).toNat)).2.1, (allS most k (zs.drop (nextN zs most).toNat)).2.2)
    else ([], 0, nextE zs most) := rfl
theorem allS_more (most : Int) : ∀ (k : Nat) (zs : List Int), Fit .u8 zs → zs.length ≤ k → allS most (k + 1) zs = allS most k zs := by
  intro k
  induction k with
  | zero => intro zs _ h; rw [allS_succ, if_pos (by omega)]; rfl
  | succ k ih =>
    intro zs hf h
    rw [allS_succ most (k + 1) zs, allS_succ most k zs]
    by_cases h0 : zs.length = 0
    · rw [if_pos h0, if_pos h0]
    · rw [if_neg h0, if_neg h0]
      by_cases he : nextE zs most = 0
      · have hs := next_step he hf
        rw [if_pos he, if_pos he, ih _ (hf.drop _) (by simp; omega)]
      · rw [if_neg he, if_neg he]
/-- all that bytes are -/
def allOf (most : Int) (zs : List Int) : List Fr × Int × Int := allS most zs.length zs
theorem allS_enough (most : Int) (zs : List Int) (hf : Fit .u8 zs) : ∀ k, zs.length ≤ k → allS most k zs = allOf most zs := by
  intro k hk
  obtain ⟨d, rfl⟩ : ∃ d, k = zs.length + d := ⟨k - zs.length, by omega⟩
  clear hk
  induction d with
  | zero => rfl
  | succ d ih => rw [← Nat.add_assoc, allS_more most _ zs hf (by omega), ih]
theorem allOf_nil (most : Int) : allOf most [] = ([], 0, 0) := rfl
theorem allOf_bad {most : Int} {zs : List Int} (h0 : zs.length ≠ 0) (he : nextE zs most ≠ 0) : allOf most zs = ([], 0, nextE zs most) := by
  obtain ⟨k, hk⟩ : ∃ k, zs.length = k + 1 := ⟨zs.length - 1, by omega⟩
  rw [allOf, hk, allS_succ, if_neg h0, if_neg he]
theorem allOf_step {most : Int} {zs : List Int} (hf : Fit .u8 zs) (he : nextE zs most = 0) :
    allOf most zs = (nextF zs most :: (allOf most (zs.drop (nextN zs most).toNat)).1, nextN zs most + (allOf most (zs.drop (nextN zs most).toNat)).2.1, (allOf most (zs.drop (nextN zs most).toNat)).2.2) := by
  have hs := next_step he hf
  obtain ⟨k, hk⟩ : ∃ k, zs.length = k + 1 := ⟨zs.length - 1, by omega⟩
  rw [allOf, hk, allS_succ, if_neg (by omega), if_pos he, allS_enough most _ (hf.drop _) k (by simp; omega)]
/-- what has come, before the rest -/
def joinA (fs : List Fr) (m : Int) (r : List Fr × Int × Int) : List Fr × Int × Int := (fs ++ r.1, m + r.2.1, r.2.2)
theorem joinA_step {most : Int} {zs : List Int} (hf : Fit .u8 zs) (m : Nat) (fs : List Fr) (he : nextE (zs.drop m) most = 0) :
    joinA fs m (allOf most (zs.drop m)) = joinA (fs ++ [nextF (zs.drop m) most]) ((m : Int) + nextN (zs.drop m) most) (allOf most (zs.drop (m + (nextN (zs.drop m) most).toNat))) := by
  rw [allOf_step (hf.drop m) he, List.drop_drop]
  simp only [joinA, List.append_assoc, List.cons_append, List.nil_append, Int.add_assoc]
theorem FrV.zero (w : World) : FrV w (.agg #[.int .i64 0, .int .i64 0, .int .i64 0, .slice none 0 0]) Fr.zero := ⟨_, rfl, Sl.nil _ _⟩

theorem num_three {zs : List Int} (h : 3 ≤ zs.length) : num (zs.take 3) = 65536 * at0 zs 0 + 256 * at0 zs 1 + at0 zs 2 := by
  have a := num_take zs 2 (by omega)
  have b := num_take zs 1 (by omega)
  have c := num_take zs 0 (by omega)
  simp only [Nat.reduceAdd, Nat.zero_add, List.take_zero, num_nil] at a b c
  omega
theorem num_head {zs : List Int} (hf : Fit .u8 zs) (hl : 9 ≤ zs.length) : 0 ≤ num (zs.take 3) ∧ num (zs.take 3) ≤ 16777215 := by
  have := num_take_bound zs 3 hf (by omega)
  have e : (256 : Int) ^ 3 = 16777216 := by decide
  omega
theorem num_id {zs : List Int} (hf : Fit .u8 zs) (h : 9 ≤ zs.length) : num ((zs.drop 5).take 4) % 2147483648 = 16777216 * (at0 zs 5 % 128) + 65536 * at0 zs 6 + 256 * at0 zs 7 + at0 zs 8 := by
  have a := num_take (zs.drop 5) 3 (by simp; omega)
  have b := num_take (zs.drop 5) 2 (by simp; omega)
  have c := num_take (zs.drop 5) 1 (by simp; omega)
  have d := num_take (zs.drop 5) 0 (by simp; omega)
  simp only [Nat.reduceAdd, Nat.zero_add, List.take_zero, num_nil, at0_drop, Nat.add_zero] at a b c d
  have h5 := hf.byte 5
  have h6 := hf.byte 6
  have h7 := hf.byte 7
  have h8 := hf.byte 8
  omega

/-- the block that a slice lies in is one of this element type -/
def Ty (w : World) (t : TypeId) (v : Value) : Prop := ∀ g, v.ownBlock = some g → ∃ cs fr, w.heap[g]? = some (.cells cs t fr)
theorem Ty.below {w w' : World} {t : TypeId} {v : Value} (h : Ty w t v) (hb : Below w.heap.size w w') : Ty w' t v := fun g hg => by
  obtain ⟨cs, fr, e⟩ := h g hg
  exact ⟨cs, fr, (hb.block g (Array.getElem?_eq_some_iff.1 e).1).trans e⟩
theorem Ty.of_own {w : World} {base n size : Nat} {t : TypeId} {v : Value} {xs : List Value} (h : w.ownsRow base t size v n xs) : Ty w t v := fun g hg => by
  obtain ⟨_, ⟨rfl, _⟩ | ⟨g', cap, cur, rfl, _, hh, _⟩⟩ := h
  · cases hg
  · simp only [Value.ownBlock, Option.some.injEq] at hg
    subst hg
    exact ⟨cur, _, hh⟩
theorem Ty.bare (w : World) (t : TypeId) (n c : Nat) : Ty w t (.slice none n c) := fun g hg => by cases hg
/-- the value 'v' reads as this frame; its payload lies in a block of that element type -/
def FrT (w : World) (t : TypeId) (v : Value) (f : Fr) : Prop := ∃ pv, v = .agg #[.int .i64 f.kind, .int .i64 f.flags, .int .i64 f.stream, pv] ∧ Sl .u8 w pv f.pay ∧ Ty w t pv
theorem FrT.toV {w : World} {t : TypeId} {v : Value} {f : Fr} (h : FrT w t v f) : FrV w v f := by obtain ⟨pv, e, h1, _⟩ := h; exact ⟨pv, e, h1⟩
theorem FrT.below {w w' : World} {t : TypeId} {v : Value} {f : Fr} (h : FrT w t v f) (hb : Below w.heap.size w w') : FrT w' t v f := by
  obtain ⟨pv, e, h1, h2⟩ := h; exact ⟨pv, e, h1.below hb, h2.below hb⟩
theorem FrT.zero (w : World) (t : TypeId) : FrT w t (.agg #[.int .i64 0, .int .i64 0, .int .i64 0, .slice none 0 0]) Fr.zero := ⟨_, rfl, Sl.nil _ _, Ty.bare _ _ _ _⟩

end Go.Proofs.Ytiappeagdnkedaa
