/-
  Several texts of mine, one behind the other: WireMath, FrameKit, Own, FrameList, Turn, CtlMath, Region, RowKit, SndMath, FreshRow, AppAt, CtlRef, SndRef, SndRef2, SndRef3, SndRef4, StrmMath, StrmRef, SndRef5, Builds, Same, SndRef6, Held, Quiet.
-/
import Derived.Test.YtnoegbdmjinfjaaMgA
import Derived.Laws.AppendOwnNone
import Derived.StillTail
import Derived.ArgAppend
import Derived.Maps.AppendAt
import Derived.Test.YtnoegbdmjinfjaaProg
import Derived.BigQuiet
import Derived.Deep.QuietTactic
import Derived.Deep.LoopGhost
import Derived.WalkMore
import Derived.WalkKit
import Derived.Great.BuildSlice
import Derived.Outline
import Derived.OrdersHeld
import Derived.Laws.IdiomCopy

/-
  Numbers as bytes, plain mathematics: no program is named here.
-/
namespace Go.Proofs.Ytnoegbdmjinfjaa

/-- the number whose bytes these are, the highest one first -/
def num (zs : List Int) : Int := zs.foldl (fun n z => 256 * n + z) 0
theorem num_nil : num [] = 0 := rfl
theorem num_snoc (zs : List Int) (z : Int) : num (zs ++ [z]) = 256 * num zs + z := by simp [num, List.foldl_append]
theorem num_take (zs : List Int) (k : Nat) (h : k < zs.length) : num (zs.take (k + 1)) = 256 * num (zs.take k) + at0 zs k := by
  rw [take_at0 zs k h, num_snoc]
theorem num_bound : ∀ (k : Nat) (zs : List Int), zs.length = k → Fit .u8 zs → 0 ≤ num zs ∧ num zs < 256 ^ k := by
  intro k
  induction k with
  | zero => intro zs h _; obtain rfl := List.eq_nil_of_length_eq_zero h; simp [num]
  | succ k ih =>
    intro zs h hf
    have e := take_at0 zs k (by omega)
    rw [List.take_of_length_le (by omega)] at e
    have hb := hf.byte k
    have := ih (zs.take k) (by simp; omega) (hf.take k)
    rw [e, num_snoc, Int.pow_succ]
    omega
theorem num_take_bound (zs : List Int) (k : Nat) (hf : Fit .u8 zs) (hk : k ≤ zs.length) : 0 ≤ num (zs.take k) ∧ num (zs.take k) < 256 ^ k :=
  num_bound k _ (by simp; omega) (hf.take k)
theorem num_small (zs : List Int) (k : Nat) (hf : Fit .u8 zs) (hk : k < zs.length) (h4 : zs.length ≤ 4) : 0 ≤ num (zs.take k) ∧ num (zs.take k) ≤ 16777215 := by
  have := num_take_bound zs k hf (by omega)
  have h : (256 : Int) ^ k ≤ 256 ^ 3 := by
    rcases (show k = 0 ∨ k = 1 ∨ k = 2 ∨ k = 3 by omega) with rfl | rfl | rfl | rfl <;> decide
  have e : (256 : Int) ^ 3 = 16777216 := by decide
  omega

/-- a number's bytes, the highest one first: the lowest so many -/
def putL (n : Int) : Nat → List Int
  | 0 => []
  | s + 1 => putL (n / 256) s ++ [n % 256]
theorem putL_length (s : Nat) : ∀ n, (putL n s).length = s := by
  induction s with
  | zero => intro n; rfl
  | succ s ih => intro n; simp [putL, ih]
theorem putL_fit (s : Nat) : ∀ n, Fit .u8 (putL n s) := by
  induction s with
  | zero => intro n x hx; simp [putL] at hx
  | succ s ih =>
    intro n x hx
    simp only [putL, List.mem_append, List.mem_singleton] at hx
    rcases hx with hx | rfl
    · exact ih _ x hx
    · exact WalkArith.wf_u8 (by omega)
theorem div_pow8 (n : Int) (k : Nat) : n / 2 ^ (8 * k) = n / 256 ^ k := by rw [Int.pow_mul]; rfl
theorem putL_cons (s : Nat) : ∀ n, putL n (s + 1) = (n / 256 ^ s % 256) :: putL n s := by
  induction s with
  | zero => intro n; simp [putL]
  | succ s ih =>
    intro n
    rw [putL, ih (n / 256), putL, List.cons_append, Int.ediv_ediv_of_nonneg (by omega), Int.pow_succ, Int.mul_comm]
/-- so many places, of which the last k are filled -/
def rowP (n : Int) (s k : Nat) : List Int := List.replicate (s - k) 0 ++ putL n k
theorem rowP_length (n : Int) (s k : Nat) (h : k ≤ s) : (rowP n s k).length = s := by simp [rowP, putL_length]; omega
theorem rowP_set (n : Int) (s k : Nat) (h : k < s) : (rowP n s k).set (s - 1 - k) (n / 256 ^ k % 256) = rowP n s (k + 1) := by
  unfold rowP
  obtain ⟨d, rfl⟩ : ∃ d, s = k + 1 + d := ⟨s - (k + 1), by omega⟩
  rw [show k + 1 + d - k = d + 1 by omega, show k + 1 + d - 1 - k = d by omega, show k + 1 + d - (k + 1) = d by omega, List.replicate_succ', List.append_assoc, putL_cons,
    List.set_append_right _ _ (by simp)]
  simp
theorem rowP_whole (n : Int) (s : Nat) : rowP n s s = putL n s := by simp [rowP]
theorem rowP_zero (n : Int) (s : Nat) : rowP n s 0 = List.replicate s 0 := by simp [rowP, putL]
theorem num_putL (s : Nat) : ∀ n, 0 ≤ n → n < 256 ^ s → num (putL n s) = n := by
  induction s with
  | zero => intro n h1 h2; simp at h2; have : n = 0 := by omega
            subst this; rfl
  | succ s ih =>
    intro n h1 h2
    rw [Int.pow_succ] at h2
    rw [putL, num_snoc, ih (n / 256) (by omega) (by omega)]
    omega
theorem putL_num : ∀ (s : Nat) (zs : List Int), zs.length = s → Fit .u8 zs → putL (num zs) s = zs := by
  intro s
  induction s with
  | zero => intro zs h _; obtain rfl := List.eq_nil_of_length_eq_zero h; rfl
  | succ s ih =>
    intro zs h hf
    have e := take_at0 zs s (by omega)
    rw [List.take_of_length_le (by omega)] at e
    have hb := hf.byte s
    have := ih (zs.take s) (by simp; omega) (hf.take s)
    have hn : num zs = 256 * num (zs.take s) + at0 zs s := by rw [← num_snoc, ← e]
    rw [putL, hn, show (256 * num (zs.take s) + at0 zs s) / 256 = num (zs.take s) by omega, show (256 * num (zs.take s) + at0 zs s) % 256 = at0 zs s by omega, this, ← e]

theorem num_cons_aux (zs : List Int) : ∀ a : Int, zs.foldl (fun n z => 256 * n + z) a = a * 256 ^ zs.length + num zs := by
  induction zs with
  | nil => intro a; simp [num]
  | cons z zs ih =>
    intro a
    have h2 : num (z :: zs) = (256 * 0 + z) * 256 ^ zs.length + num zs := ih _
    rw [List.foldl_cons, ih, h2, List.length_cons, Int.pow_succ]
    generalize (256 : Int) ^ zs.length = P
    rw [Int.mul_zero, Int.zero_add, Int.add_mul, Int.mul_comm 256 a, Int.mul_assoc, Int.mul_comm P 256, Int.add_assoc]
theorem num_cons (a : Int) (zs : List Int) : num (a :: zs) = a * 256 ^ zs.length + num zs := by
  have := num_cons_aux zs (256 * 0 + a)
  simpa [num] using this
/-- are bytes less than others, the first that differs telling? -/
def lessL : List Int → List Int → Bool
  | a :: us, b :: bs => if a = b then lessL us bs else decide (a < b)
  | _, _ => false
theorem lessL_num : ∀ (xs ys : List Int), xs.length = ys.length → Fit .u8 xs → Fit .u8 ys → lessL xs ys = decide (num xs < num ys) := by
  intro xs
  induction xs with
  | nil => intro ys h _ _; obtain rfl := List.eq_nil_of_length_eq_zero h.symm; simp [lessL]
  | cons a us ih =>
    intro ys h hx hy
    cases ys with
    | nil => simp at h
    | cons b bs =>
      have hl : us.length = bs.length := by simpa using h
      have fx : Fit .u8 us := fun n hn => hx n (List.mem_cons_of_mem _ hn)
      have fy : Fit .u8 bs := fun n hn => hy n (List.mem_cons_of_mem _ hn)
      have bx := num_bound _ us rfl fx
      have by_ := num_bound _ bs rfl fy
      rw [lessL, num_cons, num_cons, hl]
      rw [hl] at bx
      have hp : (0 : Int) ≤ 256 ^ bs.length := Int.le_of_lt (Int.pow_pos (by omega))
      generalize (256 : Int) ^ bs.length = P at *
      by_cases e : a = b
      · subst e
        rw [if_pos rfl, ih bs hl fx fy]
        congr 1
        apply propext
        omega
      · rw [if_neg e]
        congr 1
        apply propext
        by_cases hab : a < b
        · have := Int.mul_le_mul_of_nonneg_right (show a + 1 ≤ b by omega) hp
          rw [Int.add_mul] at this
          omega
        · have := Int.mul_le_mul_of_nonneg_right (show b + 1 ≤ a by omega) hp
          rw [Int.add_mul] at this
          omega
theorem lessL_at : ∀ (k : Nat) (xs ys : List Int), xs.take k = ys.take k → k < xs.length → k < ys.length → at0 xs k ≠ at0 ys k → lessL xs ys = decide (at0 xs k < at0 ys k) := by
  intro k
  induction k with
  | zero =>
    intro xs ys _ h1 h2 hne
    cases xs with
    | nil => simp at h1
    | cons a us =>
      cases ys with
      | nil => simp at h2
      | cons b bs => simp [at0] at hne ⊢; simp [lessL, hne]
  | succ k ih =>
    intro xs ys h h1 h2 hne
    cases xs with
    | nil => simp at h1
    | cons a us =>
      cases ys with
      | nil => simp at h2
      | cons b bs =>
        simp only [List.take_succ_cons, List.cons.injEq] at h
        obtain ⟨rfl, h⟩ := h
        have e1 : at0 (a :: us) (k + 1) = at0 us k := by simp [at0]
        have e2 : at0 (a :: bs) (k + 1) = at0 bs k := by simp [at0]
        rw [e1, e2] at *
        rw [lessL, if_pos rfl]
        exact ih us bs h (by simpa using h1) (by simpa using h2) hne
theorem lessL_end : ∀ (xs ys : List Int), xs.take (min xs.length ys.length) = ys.take (min xs.length ys.length) → lessL xs ys = false := by
  intro xs
  induction xs with
  | nil => intro ys _; simp [lessL]
  | cons a us ih =>
    intro ys h
    cases ys with
    | nil => simp [lessL]
    | cons b bs =>
      have e : min (a :: us).length (b :: bs).length = min us.length bs.length + 1 := by simp only [List.length_cons]; omega
      rw [e] at h
      simp only [List.take_succ_cons, List.cons.injEq] at h
      obtain ⟨rfl, h⟩ := h
      rw [lessL, if_pos rfl]
      exact ih bs h

end Go.Proofs.Ytnoegbdmjinfjaa

/-
  Frames: what a value of the frame's type, and a slice of them, read as; plain words, no function of the program is named here.
-/
namespace Go.Proofs.Ytnoegbdmjinfjaa
open Go.RowKit

/-- the parts of a frame -/
structure Fr where
  kind : Int
  flags : Int
  stream : Int
  pay : List Int
deriving DecidableEq
def Fr.zero : Fr := ⟨0, 0, 0, []⟩
/-- its cells -/
def frCells (f : Fr) (pv : Value) : List Value := [.int .i64 f.kind, .int .i64 f.flags, .int .i64 f.stream, pv]
/-- the value 'v' reads as this frame -/
def FrV (w : World) (v : Value) (f : Fr) : Prop := ∃ pv, v = .agg #[.int .i64 f.kind, .int .i64 f.flags, .int .i64 f.stream, pv] ∧ Sl .u8 w pv f.pay
theorem FrV.below {w w' : World} {v : Value} {f : Fr} (h : FrV w v f) (hb : Below w.heap.size w w') : FrV w' v f := by
  obtain ⟨pv, rfl, h⟩ := h; exact ⟨pv, rfl, h.below hb⟩
theorem Fr.eq_iff {f g : Fr} : f = g ↔ f.pay = g.pay ∧ f.kind = g.kind ∧ f.flags = g.flags ∧ f.stream = g.stream := by
  cases f; cases g; simp only [Fr.mk.injEq]
  constructor
  · rintro ⟨h1, h2, h3, h4⟩; exact ⟨h4, h1, h2, h3⟩
  · rintro ⟨h1, h2, h3, h4⟩; exact ⟨h2, h3, h4, h1⟩
/-- a frame may be -/
def Fr.right (f : Fr) : Prop := 0 ≤ f.kind ∧ f.kind ≤ 255 ∧ 0 ≤ f.flags ∧ f.flags ≤ 255 ∧ 0 ≤ f.stream ∧ f.stream ≤ 2147483647 ∧ (f.pay.length : Int) ≤ 16777215
instance (f : Fr) : Decidable f.right := by unfold Fr.right; infer_instance
/-- its bytes -/
def Fr.enc (f : Fr) : List Int := putL f.pay.length 3 ++ [f.kind, f.flags] ++ putL f.stream 4 ++ f.pay

/-- a frame that lies in a block of its own -/
def Bx (W : World) (B : Nat) (t : TypeId) (f : Fr) (pv : Value) : Prop := W.heap[B]? = some (.cells #[.int .i64 f.kind, .int .i64 f.flags, .int .i64 f.stream, pv] t (0, 0))
theorem Bx.new (w : World) (t : TypeId) (f : Fr) (pv : Value) : Bx (w.alloc (.cells #[.int .i64 f.kind, .int .i64 f.flags, .int .i64 f.stream, pv] t)) w.heap.size t f pv := heap_alloc_new w _
theorem Bx.lt {W : World} {B : Nat} {t : TypeId} {f : Fr} {pv : Value} (h : Bx W B t f pv) : B < W.heap.size := (Array.getElem?_eq_some_iff.1 h).1
theorem Bx.below {W W' : World} {B : Nat} {t : TypeId} {f : Fr} {pv : Value} (h : Bx W B t f pv) (hb : Below W.heap.size W W') : Bx W' B t f pv := (hb.block B h.lt).trans h
theorem Bx.c0 {W : World} {B : Nat} {t : TypeId} {f : Fr} {pv : Value} (h : Bx W B t f pv) : W.cell? ⟨B, 0, none⟩ = some (.int .i64 f.kind) := by unfold Bx at h; simp [World.cell?, h]
theorem Bx.c1 {W : World} {B : Nat} {t : TypeId} {f : Fr} {pv : Value} (h : Bx W B t f pv) : W.cell? ⟨B, 1, none⟩ = some (.int .i64 f.flags) := by unfold Bx at h; simp [World.cell?, h]
theorem Bx.c2 {W : World} {B : Nat} {t : TypeId} {f : Fr} {pv : Value} (h : Bx W B t f pv) : W.cell? ⟨B, 2, none⟩ = some (.int .i64 f.stream) := by unfold Bx at h; simp [World.cell?, h]
theorem Bx.c3 {W : World} {B : Nat} {t : TypeId} {f : Fr} {pv : Value} (h : Bx W B t f pv) : W.cell? ⟨B, 3, none⟩ = some pv := by unfold Bx at h; simp [World.cell?, h]
theorem Fr.enc_length (f : Fr) : f.enc.length = 9 + f.pay.length := by simp [Fr.enc, putL_length]; omega
theorem Fr.enc_fit {f : Fr} (h : f.right) (hp : Fit .u8 f.pay) : Fit .u8 f.enc := by
  obtain ⟨h1, h2, h3, h4, _⟩ := h
  intro n hn
  simp only [Fr.enc, List.mem_append, List.mem_cons, List.not_mem_nil, or_false] at hn
  rcases hn with ((hn | rfl | rfl) | hn) | hn
  · exact putL_fit _ _ n hn
  · exact WalkArith.wf_u8 (by omega)
  · exact WalkArith.wf_u8 (by omega)
  · exact putL_fit _ _ n hn
  · exact hp n hn
theorem putL_one {n : Int} (h1 : 0 ≤ n) (h2 : n ≤ 255) : putL n 1 = [n] := by simp [putL]; omega

/-- what bytes begin with: the error; how many bytes it has; the frame -/
def nextE (zs : List Int) (most : Int) : Int := if zs.length < 9 then 2 else if most < num (zs.take 3) then 4 else if (zs.length : Int) < 9 + num (zs.take 3) then 2 else 0
def nextN (zs : List Int) (most : Int) : Int := if nextE zs most = 0 then 9 + num (zs.take 3) else 0
def nextF (zs : List Int) (most : Int) : Fr := if nextE zs most = 0 then ⟨at0 zs 3, at0 zs 4, num ((zs.drop 5).take 4) % 2147483648, (zs.drop 9).take (num (zs.take 3)).toNat⟩ else Fr.zero
theorem next_step {zs : List Int} {most : Int} (h : nextE zs most = 0) (hf : Fit .u8 zs) : 9 ≤ zs.length ∧ 9 ≤ nextN zs most ∧ nextN zs most ≤ zs.length ∧ 9 + ((nextF zs most).pay.length : Int) = nextN zs most := by
  have h' := h
  unfold nextE at h
  split at h
  · cases h
  · split at h
    · cases h
    · split at h
      · cases h
      · have hb := num_take_bound zs 3 hf (by omega)
        have e : nextN zs most = 9 + num (zs.take 3) := by rw [nextN, if_pos h']
        refine ⟨by omega, by omega, by omega, ?_⟩
        rw [e, nextF, if_pos h']
        simp only [List.length_take, List.length_drop]
        omega
theorem nextF_len (zs : List Int) (most : Int) : (nextF zs most).pay.length ≤ zs.length := by
  unfold nextF
  split
  · simp; omega
  · simp [Fr.zero]
/-- all that bytes are: the frames; how many bytes these have; the error. ('k': no more steps than these) -/
def allS (most : Int) : Nat → List Int → List Fr × Int × Int
  | 0, _ => ([], 0, 0)
  | k + 1, zs => if zs.length = 0 then ([], 0, 0) else if nextE zs most = 0 then
      (nextF zs most :: (allS most k (zs.drop (nextN zs most).toNat)).1, nextN zs most + (allS most k (zs.drop (nextN zs most).toNat)).2.1, (allS most k (zs.drop (nextN zs most).toNat)).2.2)
    else ([], 0, nextE zs most)
theorem allS_succ (most : Int) (k : Nat) (zs : List Int) : allS most (k + 1) zs = if zs.length = 0 then ([], 0, 0) else if nextE zs most = 0 then
      (nextF zs most :: (allS most k (zs.drop (nextN zs most).toNat)).1, nextN zs most + (allS most k (zs.drop (nextN zs most).toNat)).2.1, (allS most k (zs.drop (nextN zs most).toNat)).2.2)
    else ([], 0, nextE zs most) := rfl
theorem allS_more (most : Int) : ∀ (k : Nat) (zs : List Int), Fit .u8 zs → zs.length ≤ k → allS most (k + 1) zs = allS most k zs := by
  intro k
  induction k with
  | zero => intro zs _ h; rw [allS_succ, if_pos (by omega)]; rfl
  | succ k ih =>
    intro zs hf h
    rw [allS_succ most (k + 1) zs, allS_succ most k zs]
    by_cases h0 : zs.length = 0
    · rw [if_pos h0, if_pos h0]
    · rw [if_neg h0, if_neg h0]
      by_cases he : nextE zs most = 0
      · have hs := next_step he hf
        rw [if_pos he, if_pos he, ih _ (hf.drop _) (by simp; omega)]
      · rw [if_neg he, if_neg he]
/-- all that bytes are -/
def allOf (most : Int) (zs : List Int) : List Fr × Int × Int := allS most zs.length zs
theorem allS_enough (most : Int) (zs : List Int) (hf : Fit .u8 zs) : ∀ k, zs.length ≤ k → allS most k zs = allOf most zs := by
  intro k hk
  obtain ⟨d, rfl⟩ : ∃ d, k = zs.length + d := ⟨k - zs.length, by omega⟩
  clear hk
  induction d with
  | zero => rfl
  | succ d ih => rw [← Nat.add_assoc, allS_more most _ zs hf (by omega), ih]
theorem allOf_nil (most : Int) : allOf most [] = ([], 0, 0) := rfl
theorem allOf_bad {most : Int} {zs : List Int} (h0 : zs.length ≠ 0) (he : nextE zs most ≠ 0) : allOf most zs = ([], 0, nextE zs most) := by
  obtain ⟨k, hk⟩ : ∃ k, zs.length = k + 1 := ⟨zs.length - 1, by omega⟩
  rw [allOf, hk, allS_succ, if_neg h0, if_neg he]
theorem allOf_step {most : Int} {zs : List Int} (hf : Fit .u8 zs) (he : nextE zs most = 0) :
    allOf most zs = (nextF zs most :: (allOf most (zs.drop (nextN zs most).toNat)).1, nextN zs most + (allOf most (zs.drop (nextN zs most).toNat)).2.1, (allOf most (zs.drop (nextN zs most).toNat)).2.2) := by
  have hs := next_step he hf
  obtain ⟨k, hk⟩ : ∃ k, zs.length = k + 1 := ⟨zs.length - 1, by omega⟩
  rw [allOf, hk, allS_succ, if_neg (by omega), if_pos he, allS_enough most _ (hf.drop _) k (by simp; omega)]
/-- what has come, before the rest -/
def joinA (fs : List Fr) (m : Int) (r : List Fr × Int × Int) : List Fr × Int × Int := (fs ++ r.1, m + r.2.1, r.2.2)
theorem joinA_step {most : Int} {zs : List Int} (hf : Fit .u8 zs) (m : Nat) (fs : List Fr) (he : nextE (zs.drop m) most = 0) :
    joinA fs m (allOf most (zs.drop m)) = joinA (fs ++ [nextF (zs.drop m) most]) ((m : Int) + nextN (zs.drop m) most) (allOf most (zs.drop (m + (nextN (zs.drop m) most).toNat))) := by
  rw [allOf_step (hf.drop m) he, List.drop_drop]
  simp only [joinA, List.append_assoc, List.cons_append, List.nil_append, Int.add_assoc]
theorem FrV.zero (w : World) : FrV w (.agg #[.int .i64 0, .int .i64 0, .int .i64 0, .slice none 0 0]) Fr.zero := ⟨_, rfl, Sl.nil _ _⟩

theorem num_three {zs : List Int} (h : 3 ≤ zs.length) : num (zs.take 3) = 65536 * at0 zs 0 + 256 * at0 zs 1 + at0 zs 2 := by
  have a := num_take zs 2 (by omega)
  have b := num_take zs 1 (by omega)
  have c := num_take zs 0 (by omega)
  simp only [Nat.reduceAdd, Nat.zero_add, List.take_zero, num_nil] at a b c
  omega
theorem num_head {zs : List Int} (hf : Fit .u8 zs) (hl : 9 ≤ zs.length) : 0 ≤ num (zs.take 3) ∧ num (zs.take 3) ≤ 16777215 := by
  have := num_take_bound zs 3 hf (by omega)
  have e : (256 : Int) ^ 3 = 16777216 := by decide
  omega
theorem num_id {zs : List Int} (hf : Fit .u8 zs) (h : 9 ≤ zs.length) : num ((zs.drop 5).take 4) % 2147483648 = 16777216 * (at0 zs 5 % 128) + 65536 * at0 zs 6 + 256 * at0 zs 7 + at0 zs 8 := by
  have a := num_take (zs.drop 5) 3 (by simp; omega)
  have b := num_take (zs.drop 5) 2 (by simp; omega)
  have c := num_take (zs.drop 5) 1 (by simp; omega)
  have d := num_take (zs.drop 5) 0 (by simp; omega)
  simp only [Nat.reduceAdd, Nat.zero_add, List.take_zero, num_nil, at0_drop, Nat.add_zero] at a b c d
  have h5 := hf.byte 5
  have h6 := hf.byte 6
  have h7 := hf.byte 7
  have h8 := hf.byte 8
  omega

/-- the block that a slice lies in is one of this element type -/
def Ty (w : World) (t : TypeId) (v : Value) : Prop := ∀ g, v.ownBlock = some g → ∃ cs fr, w.heap[g]? = some (.cells cs t fr)
theorem Ty.below {w w' : World} {t : TypeId} {v : Value} (h : Ty w t v) (hb : Below w.heap.size w w') : Ty w' t v := fun g hg => by
  obtain ⟨cs, fr, e⟩ := h g hg
  exact ⟨cs, fr, (hb.block g (Array.getElem?_eq_some_iff.1 e).1).trans e⟩
theorem Ty.of_own {w : World} {base n size : Nat} {t : TypeId} {v : Value} {xs : List Value} (h : w.ownsRow base t size v n xs) : Ty w t v := fun g hg => by
  obtain ⟨_, ⟨rfl, _⟩ | ⟨g', cap, cur, rfl, _, hh, _⟩⟩ := h
  · cases hg
  · simp only [Value.ownBlock, Option.some.injEq] at hg
    subst hg
    exact ⟨cur, _, hh⟩
theorem Ty.bare (w : World) (t : TypeId) (n c : Nat) : Ty w t (.slice none n c) := fun g hg => by cases hg
/-- the value 'v' reads as this frame; its payload lies in a block of that element type -/
def FrT (w : World) (t : TypeId) (v : Value) (f : Fr) : Prop := ∃ pv, v = .agg #[.int .i64 f.kind, .int .i64 f.flags, .int .i64 f.stream, pv] ∧ Sl .u8 w pv f.pay ∧ Ty w t pv
theorem FrT.toV {w : World} {t : TypeId} {v : Value} {f : Fr} (h : FrT w t v f) : FrV w v f := by obtain ⟨pv, e, h1, _⟩ := h; exact ⟨pv, e, h1⟩
theorem FrT.below {w w' : World} {t : TypeId} {v : Value} {f : Fr} (h : FrT w t v f) (hb : Below w.heap.size w w') : FrT w' t v f := by
  obtain ⟨pv, e, h1, h2⟩ := h; exact ⟨pv, e, h1.below hb, h2.below hb⟩
theorem FrT.zero (w : World) (t : TypeId) : FrT w t (.agg #[.int .i64 0, .int .i64 0, .int .i64 0, .slice none 0 0]) Fr.zero := ⟨_, rfl, Sl.nil _ _, Ty.bare _ _ _ _⟩

end Go.Proofs.Ytnoegbdmjinfjaa

/-
  Rows that a call itself makes and appends to, from whatever source: one law for the walk. No program is named here.
-/
namespace Go.Proofs.Ytnoegbdmjinfjaa
open Go.RowKit

/-- an owned slice has a length and a capacity -/
theorem owned_shape {w : World} {base : Nat} {e : TypeId} {size n : Nat} {v : Value} {xs : List Value} (h : w.ownsRow base e size v n xs) : ∃ ao cap, v = .slice ao n cap ∧ (ao = none → n = 0 ∧ cap = 0) := by
  obtain ⟨_, ⟨rfl, rfl⟩ | ⟨g, cap, cur, rfl, _⟩⟩ := h
  · exact ⟨none, 0, rfl, fun _ => ⟨rfl, rfl⟩⟩
  · exact ⟨_, cap, rfl, fun h => by cases h⟩
/-- what is owned from one number on is owned from a lesser one on -/
theorem owned_mono {w : World} {base base' : Nat} {e : TypeId} {size n : Nat} {v : Value} {xs : List Value} (h : w.ownsRow base e size v n xs) (hb : base' ≤ base) : w.ownsRow base' e size v n xs := by
  obtain ⟨h1, h2⟩ := h
  refine ⟨h1, h2.imp_right ?_⟩
  rintro ⟨g, cap, cur, rfl, hg, h3⟩
  exact ⟨g, cap, cur, rfl, Nat.le_trans hb hg, h3⟩
/-- an owned row stays so where what lay stays -/
theorem owned_below {w w' : World} {base : Nat} {e : TypeId} {size n : Nat} {v : Value} {xs : List Value} (h : w.ownsRow base e size v n xs) (hb : Below w.heap.size w w') : w'.ownsRow base e size v n xs := by
  obtain ⟨h1, h2⟩ := h
  refine ⟨h1, h2.imp_right ?_⟩
  rintro ⟨g, cap, cur, rfl, hg, hh, h3⟩
  exact ⟨g, cap, cur, rfl, hg, (hb.block g (Array.getElem?_eq_some_iff.1 hh).1).trans hh, h3⟩
theorem owned_block {w : World} {base : Nat} {e : TypeId} {size n : Nat} {v : Value} {xs : List Value} (h : w.ownsRow base e size v n xs) : ∀ g, v.ownBlock = some g → base ≤ g ∧ g < w.heap.size := h.lt
/-- a row that another row's growth leaves -/
theorem owned_kept {w w' : World} {base : Nat} {e : TypeId} {size n : Nat} {v : Value} {xs : List Value} {row : Option Nat} (h : w.ownsRow base e size v n xs) (hg : w.grownBy w' row) (hne : ∀ g, v.ownBlock = some g → row ≠ some g) : w'.ownsRow base e size v n xs := by
  obtain ⟨h1, h2⟩ := h
  refine ⟨h1, h2.imp_right ?_⟩
  rintro ⟨g, cap, cur, rfl, hgb, hh, h3⟩
  exact ⟨g, cap, cur, rfl, hgb, (hg.block g (Array.getElem?_eq_some_iff.1 hh).1 (fun e => hne g rfl e.symm)).trans hh, h3⟩

/-- 'append(s, x...)': s a row of the call's own, x whatever; it may grow -/
theorem app_row {P : Program} {w : World} {ops : Array Oper} {rest : List Oper} {o : Oper} {a : Act} {Q : Exit → Act → World → Prop} (hgd : o.guard = none)
    (s x : Operand) (t : TypeId) (ho : o.op = .call { callee := .builtin .append, args := #[s, x], argTypes := #[t, t] }) (base : Nat) (e : TypeId) (i : TypeInfo)
    (z : Value) (size bytes : Nat) (ht : P.underlying t = some (.slice e)) (hi : P.info? e = some i) (hz : i.zero = some z) (hsize : i.size = size) (hby : i.bytes = bytes)
    (hzs : z.cells.size = size) (hsz : 0 < size) (v : Value) (n : Nat) (xs : List Value) (hs : a.eval s = v) (hown : w.ownsRow base e size v n xs) (ao : Option Addr) (m c : Nat) (news : List Value)
    (hx : a.eval x = .slice ao m c) (hnone : ao = none → m = 0 ∧ c = 0) (hl : news.length = m * size) (hnews : ∀ ad, ao = some ad → ∀ (j : Nat) (u : Value), news[j]? = some u → w.cell? (ad.add j) = some u)
    (h1 : ∀ u, u ∈ news → u.oneCell' = true) (h63 : n + m ≤ maxLen) (hbytes : (n + m) * bytes ≤ 140737488355328) (hbase : base ≤ w.heap.size)
    (h : ∀ (v' : Value) (w' : World), w'.ownsRow base e size v' (n + m) (xs ++ news) → Below base w w' → w.grownBy w' v.ownBlock → wpList P ops Q rest (a.put o.dst v') w') : wpList P ops Q (o :: rest) a w := by
  cases ao with
  | none =>
    obtain ⟨rfl, rfl⟩ := hnone rfl
    have hn : news = [] := List.eq_nil_of_length_eq_zero (by simpa using hl)
    subst hn
    refine wpList_append_own_none hgd s x t ho base e i size ht hi _ n xs hs hown hx ?_
    exact h v w (by simpa using hown) (Below.refl _ _) (World.grownBy.refl _ _)
  | some ad =>
    refine wpList_append_own w hgd s x t ho base e i z size bytes ht hi hz hsize hby hzs hsz v n xs hs hown ad m c news hx hl (hnews ad rfl) h1 h63 hbytes hbase ?_
    intro v' w' hown' hgrow _
    exact h v' w' hown' ((Below.refl _ _).grown hgrow hbase (fun k hk => (hown.lt k hk).1)) hgrow
/-- the same, of integers -/
theorem app_ints {P : Program} {w : World} {ops : Array Oper} {rest : List Oper} {o : Oper} {a : Act} {Q : Exit → Act → World → Prop} (hgd : o.guard = none)
    (s x : Operand) (t : TypeId) (ho : o.op = .call { callee := .builtin .append, args := #[s, x], argTypes := #[t, t] }) (base : Nat) (e : TypeId) (k : IntKind) (bytes : Nat) (ht : P.underlying t = some (.slice e))
    (hi : (P.info? e).map (fun i => (i.zero, i.size, i.bytes)) = some (some (.int k 0), 1, bytes)) (v : Value) (n : Nat) (xs : List Int) (hs : a.eval s = v) (hown : w.ownsRow base e 1 v n (xs.map (Value.int k))) (x' : Value) (ys : List Int)
    (hx : a.eval x = x') (hsrc : Sl k w x' ys) (hlen : (xs.length + ys.length) * bytes ≤ 140737488355328) (hm : xs.length + ys.length ≤ maxLen) (hbase : base ≤ w.heap.size)
    (h : ∀ (v' : Value) (w' : World), w'.ownsRow base e 1 v' (xs.length + ys.length) ((xs ++ ys).map (Value.int k)) → Below base w w' → w.grownBy w' v.ownBlock → wpList P ops Q rest (a.put o.dst v') w') : wpList P ops Q (o :: rest) a w := by
  obtain ⟨i0, hi0, hz0, hz1, hz2⟩ := info_parts hi
  have hn : n = xs.length := by have := hown.1; simpa using this.symm
  subst hn
  obtain ⟨ao, c, e', _⟩ := id hsrc
  subst e'
  refine app_row hgd s x t ho base e i0 (.int k 0) 1 bytes ht hi0 hz0 hz1 hz2 rfl (by decide) v xs.length (xs.map (Value.int k)) hs hown ao ys.length c (ys.map (Value.int k)) hx ?_ (by simp) ?_ (ints_oneCell _ _) hm hlen hbase ?_
  · intro h0; subst h0; exact hsrc.bare
  · intro ad h0; subst h0
    by_cases h0 : 0 < ys.length
    · obtain ⟨ad', e', hc⟩ := hsrc.cells h0
      cases e'
      exact hc
    · intro j u hj
      obtain rfl : ys = [] := List.eq_nil_of_length_eq_zero (by omega)
      simp at hj
  · intro v' w' hown' hb hg
    exact h v' w' (by simpa using hown') hb hg

/-- an owned row of integers reads as it is -/
theorem Sl.of_own {k : IntKind} {w : World} {base n : Nat} {e : TypeId} {v : Value} {zs : List Int} (h : w.ownsRow base e 1 v n (zs.map (Value.int k))) (hf : Fit k zs) (hm : zs.length ≤ maxLen) : Sl k w v zs := by
  have hn : n = zs.length := by have := h.1; simpa using this.symm
  subst hn
  exact Sl.owned h hf hm
theorem Fit.append {k : IntKind} {xs ys : List Int} (hx : Fit k xs) (hy : Fit k ys) : Fit k (xs ++ ys) := fun n hn => by
  rcases List.mem_append.1 hn with h | h
  · exact hx n h
  · exact hy n h

/-- a list of numbers that was just laid, each of which fits -/
theorem Sl.lit' {k : IntKind} {w : World} {g n : Nat} {e : TypeId} {cs : Array Value} (zs : List Int) (hg : g = w.heap.size) (hc : cs = (zs.map (Value.int k)).toArray) (hn : n = zs.length) (hf : Fit k zs) (hm : zs.length ≤ maxLen) :
    Sl k (w.alloc (.cells cs e)) (.slice (some ⟨g, 0, none⟩) n n) zs := by
  subst hg; subst hc; subst hn
  exact Sl.block (e := e) (heap_alloc_new w _) hf hm
/-- a list of numbers that was just laid is the call's own -/
theorem owned_lit {k : IntKind} {w : World} {base g n : Nat} {e : TypeId} {cs : Array Value} (zs : List Int) (hb : base ≤ w.heap.size) (hg : g = w.heap.size) (hc : cs = (zs.map (Value.int k)).toArray) (hn : n = zs.length) (hm : zs.length ≤ maxLen) :
    (w.alloc (.cells cs e)).ownsRow base e 1 (.slice (some ⟨g, 0, none⟩) n n) n (zs.map (Value.int k)) := by
  subst hg; subst hc; subst hn
  exact ⟨by simp, .inr ⟨w.heap.size, zs.length, _, rfl, hb, heap_alloc_new w _, Nat.le_refl _, hm, by simp, List.take_of_length_le (by simp)⟩⟩
theorem fit_bytes2 {a b : Int} (h1 : 0 ≤ a) (h2 : a ≤ 255) (h3 : 0 ≤ b) (h4 : b ≤ 255) : Fit .u8 [a, b] := by
  intro n hn
  simp only [List.mem_cons, List.not_mem_nil, or_false] at hn
  rcases hn with rfl | rfl
  · exact WalkArith.wf_u8 (by omega)
  · exact WalkArith.wf_u8 (by omega)

/-- three results, the first of which lies in a block of its own -/
theorem results_row_tmp2 {P : Program} {fn : Func} {p u v : Tmp} {ty : TypeId} (h : fn.results = #[.cell p ty, .tmp u, .tmp v]) (tmps : Array Value) (w : World) (g : Nat) (t : TypeId) (cs : Array Value) (fr : Nat × Nat) (d : TypeDesc)
    (hp : tmps.getD p undef = .pointer (some ⟨g, 0, none⟩)) (hg : w.heap[g]? = some (.cells cs t fr))
    (hu : P.underlying ty = some d) (hd : (match d with | .struct _ | .array _ _ => true | _ => false) = true) (hi : (P.info? ty).map (·.size) = some cs.size) :
    (results fn tmps).run P w = .ok (.tuple #[.agg cs, tmps.getD u undef, tmps.getD v undef]) w := by
  have hp' : tmps[p]?.getD undef = .pointer (some ⟨g, 0, none⟩) := by simpa using hp
  simp [results, h, hp', asAddr, run_loadVar_row w g t ty cs fr d hg hu hd hi, Result.andThen]

/-- 'make([]T, n, n)' as an equation, for regions that draw their order: the world behind it under a name -/
theorem make_named {P : Program} (t e : TypeId) (z : Value) (size bytes : Nat) (ht : P.underlying t = some (.slice e)) (hi : (P.info? e).map (fun i => (i.zero, i.size, i.bytes)) = some (some z, size, bytes)) (n : Int) (N : Nat) (hn : n = (N : Int))
    (hb : bytes * N ≤ 281474976710656) (hm : N ≤ maxLen) :
    ∃ mk : World → World, (∀ (kl kc : IntKind) (w : World), (Instr.makeSlice t (.int kl n) (.int kc n)).run P w = .ok (.slice (some ⟨w.heap.size, 0, none⟩) N N) (mk w)) ∧
      (∀ w : World, (mk w).ownsRow w.heap.size e size (.slice (some ⟨w.heap.size, 0, none⟩) N N) N (madeCells z.cells (N * size)).toList) ∧ ∀ w : World, w.grownBy (mk w) none := by
  obtain ⟨i0, hi0, hz0, hz1, hz2⟩ := info_parts hi
  subst hn
  have h := fun (w : World) => run_make_full (P := P) w w.heap.size t e i0 z size ht hi0 hz0 hz1 .i64 .i64 N (by rw [hz2]; exact hb) hm (Nat.le_refl _)
  refine ⟨fun w => Classical.choose (h w), fun kl kc w => ?_, fun w => (Classical.choose_spec (h w)).2.1, fun w => (Classical.choose_spec (h w)).2.2⟩
  have h1 := (Classical.choose_spec (h w)).1
  rw [← h1]
  rfl

/-- the cells of a block of which nothing is frozen -/
theorem blk_cell {W : World} {B j : Nat} {t : TypeId} {cs : Array Value} {v : Value} (h : W.heap[B]? = some (.cells cs t (0, 0))) (hj : cs[j]? = some v) : W.cell? ⟨B, j, none⟩ = some v := by simp [World.cell?, h, hj]
theorem blk_free {W : World} {B j : Nat} {t : TypeId} {cs : Array Value} (h : W.heap[B]? = some (.cells cs t (0, 0))) : W.frozen? ⟨B, j, none⟩ = false := by simp [World.frozen?, h]

theorem setRow_grown (w : World) (g : Nat) (cs : Array Value) : w.grownBy (w.setRow g cs) (some g) := by
  refine ⟨rfl, rfl, rfl, by simp [World.setRow], fun k _ hne => ?_⟩
  have : k ≠ g := fun e => hne (by rw [e])
  simp [World.setRow, Array.getElem?_modify, Ne.symm this]
/-- 'copy(d, s)' over the whole of a row that the call itself made -/
theorem copy_ints {P : Program} {w : World} {ops : Array Oper} {rest : List Oper} {o : Oper} {a : Act} {Q : Exit → Act → World → Prop} (hgd : o.guard = none)
    (d s : Operand) (t : TypeId) (ho : o.op = .call { callee := .builtin .copy, args := #[d, s], argTypes := #[t, t] }) (e : TypeId) (k : IntKind) (hu : P.underlying t = some (.slice e)) (hsz : (P.info? e).map (·.size) = some 1)
    (base g N : Nat) (xs : List Int) (hd : a.eval d = .slice (some ⟨g, 0, none⟩) N N) (hown : w.ownsRow base e 1 (.slice (some ⟨g, 0, none⟩) N N) N (xs.map (Value.int k))) (sv : Value) (ys : List Int) (hs : a.eval s = sv) (hsrc : Sl k w sv ys) (hl : ys.length = N)
    (h : ∀ w', w'.ownsRow base e 1 (.slice (some ⟨g, 0, none⟩) N N) N (ys.map (Value.int k)) → w.grownBy w' (some g) → Below base w w' → wpList P ops Q rest (a.put o.dst (goInt N)) w') : wpList P ops Q (o :: rest) a w := by
  subst hl
  obtain ⟨sp, c, e', _⟩ := id hsrc
  subst e'
  by_cases h0 : ys.length = 0
  · refine wpList_copy_nothing hgd d s t t ho e hu hsz _ sp _ _ ys.length c hd hs (by simp [h0]) ?_
    have hx : xs = [] := List.eq_nil_of_length_eq_zero (by have := hown.1; simp at this; omega)
    have hy : ys = [] := List.eq_nil_of_length_eq_zero h0
    have := h w (by rw [hx] at hown; rw [hy] at hown ⊢; exact hown) (World.grownBy.refl _ _) (Below.refl _ _)
    rw [h0] at this
    exact this
  · obtain ⟨ad, rfl, hsc⟩ := hsrc.cells (by omega)
    have hg := own_block hown
    have hlx : xs.length = ys.length := by have := hown.1; simpa using this
    have hb := (hown.lt g rfl).1
    refine wpList_copy_own hgd d s t t ho e hu hsz g 0 _ _ ad _ c hd hs _ e hg (ys.map (Value.int k)) (by simp) hsc (by simp [hlx]) (ints_oneCell _ _) ?_
    have hcs : (List.take 0 (xs.map (Value.int k)).toArray.toList ++ (ys.map (Value.int k) ++ List.drop (0 + (ys.map (Value.int k)).length) (xs.map (Value.int k)).toArray.toList)).toArray = (ys.map (Value.int k)).toArray := by simp [hlx]
    have hr := setRow_heap w g _ (ys.map (Value.int k)).toArray e (0, 0) hg
    have := h (w.setRow g (ys.map (Value.int k)).toArray) ⟨by simp, .inr ⟨g, ys.length, _, rfl, hb, hr, Nat.le_refl _, hsrc.len, by simp, List.take_of_length_le (by simp)⟩⟩ (setRow_grown _ _ _) (below_setRow (Below.refl _ _) hb _)
    rw [hcs]
    simpa using this

/-- a block of four cells, each of which is written -/
theorem set4 {W : World} {B : Nat} {t : TypeId} {x0 x1 x2 x3 : Value} (h : W.heap[B]? = some (.cells #[x0, x1, x2, x3] t (0, 0))) (y0 y1 y2 y3 : Value) :
    ((((W.setCell ⟨B, 0, none⟩ y0).setCell ⟨B, 1, none⟩ y1).setCell ⟨B, 2, none⟩ y2).setCell ⟨B, 3, none⟩ y3).heap[B]? = some (.cells #[y0, y1, y2, y3] t (0, 0)) :=
  heap_setCell_same _ B 3 _ t y3 (heap_setCell_same _ B 2 _ t y2 (heap_setCell_same _ B 1 _ t y1 (heap_setCell_same W B 0 _ t y0 h)))

theorem set4_grown (W : World) (B : Nat) (y0 y1 y2 y3 : Value) : W.grownBy ((((W.setCell ⟨B, 0, none⟩ y0).setCell ⟨B, 1, none⟩ y1).setCell ⟨B, 2, none⟩ y2).setCell ⟨B, 3, none⟩ y3) (some B) := by
  refine ⟨rfl, rfl, rfl, by simp, fun k _ hne => ?_⟩
  have : k ≠ B := fun e => hne (by rw [e])
  rw [Below.heap_setCell _ _ _ _ this, Below.heap_setCell _ _ _ _ this, Below.heap_setCell _ _ _ _ this, Below.heap_setCell _ _ _ _ this]

end Go.Proofs.Ytnoegbdmjinfjaa

/-
  Slices of frames: what they read as; rows of them that the call itself makes. No function of the program is named here.
-/
namespace Go.Proofs.Ytnoegbdmjinfjaa
open Go.RowKit

/-- the cells of frames, one behind the other: with each its payload's value -/
def flat (ps : List (Fr × Value)) : List Value := ps.flatMap fun p => frCells p.1 p.2
theorem flat_append (ps qs : List (Fr × Value)) : flat (ps ++ qs) = flat ps ++ flat qs := by simp [flat]
theorem flat_one (f : Fr) (pv : Value) : flat [(f, pv)] = frCells f pv := by simp [flat]
theorem flat_length : ∀ ps : List (Fr × Value), (flat ps).length = ps.length * 4
  | [] => rfl
  | p :: ps => by
    have := flat_length ps
    rw [show flat (p :: ps) = frCells p.1 p.2 ++ flat ps from by simp [flat], List.length_append, this, List.length_cons]
    simp only [frCells, List.length_cons, List.length_nil]
    omega
theorem flat_at : ∀ (ps : List (Fr × Value)) (i : Nat) (p : Fr × Value), ps[i]? = some p → ∀ j, j < 4 → (flat ps)[i * 4 + j]? = (frCells p.1 p.2)[j]?
  | [], i, p, h, j, _ => by simp at h
  | q :: ps, 0, p, h, j, hj => by
    simp only [List.getElem?_cons_zero, Option.some.injEq] at h
    subst h
    simp only [flat, List.flatMap_cons, Nat.zero_mul, Nat.zero_add]
    rw [List.getElem?_append_left (by simpa [frCells] using hj)]
  | q :: ps, i + 1, p, h, j, hj => by
    have := flat_at ps i p (by simpa using h) j hj
    simp only [flat, List.flatMap_cons] at this ⊢
    rw [List.getElem?_append_right (by simp [frCells]; omega), ← this]
    congr 1
    simp [frCells]; omega

/-- the cells of one frame at an address -/
def frAt (w : World) (b o : Nat) (f : Fr) (pv : Value) : Prop :=
  w.cell? ⟨b, o, none⟩ = some (.int .i64 f.kind) ∧ w.cell? ⟨b, o + 1, none⟩ = some (.int .i64 f.flags) ∧ w.cell? ⟨b, o + 2, none⟩ = some (.int .i64 f.stream) ∧ w.cell? ⟨b, o + 3, none⟩ = some pv
theorem frAt.below {w w' : World} {b o : Nat} {f : Fr} {pv : Value} (h : frAt w b o f pv) (hb : Below w.heap.size w w') (hl : b < w.heap.size) : frAt w' b o f pv :=
  ⟨(hb.cell (p := ⟨b, o, none⟩) hl).trans h.1, (hb.cell (p := ⟨b, o + 1, none⟩) hl).trans h.2.1, (hb.cell (p := ⟨b, o + 2, none⟩) hl).trans h.2.2.1, (hb.cell (p := ⟨b, o + 3, none⟩) hl).trans h.2.2.2⟩
/-- the value 'v' is a slice that reads as these frames -/
def SlF (w : World) (v : Value) (ps : List (Fr × Value)) : Prop :=
  (∀ p ∈ ps, Sl .u8 w p.2 p.1.pay) ∧ ∃ a cap, v = .slice a ps.length cap ∧ ps.length ≤ cap ∧ cap ≤ maxLen ∧
    ((ps.length = 0 ∧ (a = none → cap = 0)) ∨ ∃ b off, a = some ⟨b, off, none⟩ ∧ b < w.heap.size ∧ ∀ (i : Nat) (p : Fr × Value), ps[i]? = some p → frAt w b (off + i * 4) p.1 p.2)
theorem SlF.below {w w' : World} {v : Value} {ps : List (Fr × Value)} (h : SlF w v ps) (hb : Below w.heap.size w w') : SlF w' v ps := by
  obtain ⟨h1, a, cap, rfl, h2, h3, h4⟩ := h
  refine ⟨fun p hp => (h1 p hp).below hb, a, cap, rfl, h2, h3, h4.imp_right ?_⟩
  rintro ⟨b, off, rfl, hl, hc⟩
  exact ⟨b, off, rfl, Nat.lt_of_lt_of_le hl hb.size, fun i p hi => (hc i p hi).below hb hl⟩
theorem SlF.len {w : World} {v : Value} {ps : List (Fr × Value)} (h : SlF w v ps) : ps.length ≤ maxLen := by
  obtain ⟨_, a, cap, _, h2, h3, _⟩ := h; exact Nat.le_trans h2 h3
theorem SlF.nil (w : World) : SlF w (.slice none 0 0) [] := ⟨fun p hp => by simp at hp, none, 0, rfl, Nat.le_refl _, by simp, .inl ⟨rfl, fun _ => rfl⟩⟩
/-- a row of frames that the call itself owns -/
theorem SlF.of_own {w : World} {base n : Nat} {e : TypeId} {v : Value} {ps : List (Fr × Value)} (h : w.ownsRow base e 4 v n (flat ps)) (hp : ∀ p ∈ ps, Sl .u8 w p.2 p.1.pay) : SlF w v ps := by
  have h' := h
  obtain ⟨h1, h2⟩ := h
  rw [flat_length] at h1
  have hn : n = ps.length := by omega
  subst hn
  refine ⟨hp, ?_⟩
  rcases h2 with ⟨rfl, h3⟩ | ⟨g, cap, cur, rfl, hg, hblk, hnc, hcm, hcs, htake⟩
  · refine ⟨none, 0, ?_, by omega, by simp, .inl ⟨h3, fun _ => rfl⟩⟩
    rw [h3]
  · refine ⟨some ⟨g, 0, none⟩, cap, rfl, hnc, hcm, .inr ⟨g, 0, rfl, (h'.lt g rfl).2, fun i p hi => ?_⟩⟩
    have hil : i < ps.length := (List.getElem?_eq_some_iff.1 hi).1
    have at_ : ∀ j, j < 4 → w.cell? ⟨g, 0 + i * 4 + j, none⟩ = (frCells p.1 p.2)[j]? := fun j hj => by
      rw [Nat.zero_add, h'.cellAt (i * 4 + j) (by omega), flat_at ps i p hi j hj]
    exact ⟨at_ 0 (by omega), at_ 1 (by omega), at_ 2 (by omega), at_ 3 (by omega)⟩

/-- a slice that another row's growth leaves -/
theorem Sl.kept {k : IntKind} {w w' : World} {v : Value} {zs : List Int} {row : Option Nat} (h : Sl k w v zs) (hg : w.grownBy w' row) (hne : ∀ g, v.ownBlock = some g → row ≠ some g) : Sl k w' v zs := by
  obtain ⟨a, cap, rfl, h1, h2, h4, h3⟩ := h
  refine ⟨a, cap, rfl, h1, h2, h4, h3.imp_right ?_⟩
  rintro ⟨b, off, rfl, hlt, hc⟩
  exact ⟨b, off, rfl, Nat.lt_of_lt_of_le hlt hg.size, fun i hi => hg.cell (hc i hi) (fun e => hne b rfl e.symm)⟩
theorem Ty.kept {w w' : World} {t : TypeId} {v : Value} {row : Option Nat} (h : Ty w t v) (hg : w.grownBy w' row) (hne : ∀ g, v.ownBlock = some g → row ≠ some g) : Ty w' t v := fun g hgv => by
  obtain ⟨cs, fr, e⟩ := h g hgv
  exact ⟨cs, fr, (hg.block g (Array.getElem?_eq_some_iff.1 e).1 (fun e' => hne g hgv e'.symm)).trans e⟩
/-- blocks of two element types are two -/
theorem apart_ty {w : World} {base n size : Nat} {t t' : TypeId} {v u : Value} {xs : List Value} (h : w.ownsRow base t size v n xs) (hu : Ty w t' u) (hne : t ≠ t') : ∀ g, u.ownBlock = some g → v.ownBlock ≠ some g := by
  intro g hg hv
  obtain ⟨cs, fr, e⟩ := hu g hg
  obtain ⟨_, ⟨rfl, _⟩ | ⟨g', cap, cur, rfl, _, hh, _⟩⟩ := h
  · cases hv
  · simp only [Value.ownBlock, Option.some.injEq] at hv
    subst hv
    rw [e] at hh
    simp only [Option.some.injEq, Obj.cells.injEq] at hh
    exact hne hh.2.1.symm
/-- the cells of a frame that has just been laid -/
theorem frCells_laid (w : World) (f : Fr) (pv : Value) (t : TypeId) (B : Nat) (hB : B = w.heap.size) : ∀ (j : Nat) (u : Value), (frCells f pv)[j]? = some u → (w.alloc (.cells #[.int .i64 f.kind, .int .i64 f.flags, .int .i64 f.stream, pv] t)).cell? ((⟨B, 0, none⟩ : Addr).add j) = some u := by
  subst hB
  intro j u hj
  rw [Go.WideShapes.add_plain, Nat.zero_add]
  refine blk_cell (cs := #[.int .i64 f.kind, .int .i64 f.flags, .int .i64 f.stream, pv]) (heap_alloc_new w _) ?_
  rw [← hj]
  simp [frCells]
theorem frCells_one (f : Fr) {ao : Option Addr} {n c : Nat} : ∀ u ∈ frCells f (.slice ao n c), u.oneCell' = true := by
  intro u hu
  simp only [frCells, List.mem_cons, List.not_mem_nil, or_false] at hu
  rcases hu with rfl | rfl | rfl | rfl <;> rfl

end Go.Proofs.Ytnoegbdmjinfjaa

/-
  What a call may turn of what lay: some blocks, by a predicate. No program is named here.
-/
namespace Go.Proofs.Ytnoegbdmjinfjaa
open Go.RowKit

def Turn (S : Nat → Prop) (w w' : World) : Prop := w'.os = w.os ∧ w'.tape = w.tape ∧ w'.output = w.output ∧ w.heap.size ≤ w'.heap.size ∧ ∀ k, k < w.heap.size → ¬ S k → w'.heap[k]? = w.heap[k]?
theorem Turn.of_below {S : Nat → Prop} {w w' : World} (h : Below w.heap.size w w') : Turn S w w' := ⟨h.os, h.tape, h.output, h.size, fun k hk _ => h.block k hk⟩
theorem Turn.of_grown {w w' : World} {R : Nat} (h : w.grownBy w' (some R)) : Turn (fun k => k = R) w w' := ⟨h.os, h.tape, h.output, h.size, fun k hk hne => h.block k hk (fun e => hne (Option.some.inj e))⟩
theorem Turn.trans {S : Nat → Prop} {w w1 w2 : World} (h1 : Turn S w w1) (h2 : Turn S w1 w2) : Turn S w w2 :=
  ⟨h2.1.trans h1.1, h2.2.1.trans h1.2.1, h2.2.2.1.trans h1.2.2.1, Nat.le_trans h1.2.2.2.1 h2.2.2.2.1, fun k hk hne => (h2.2.2.2.2 k (Nat.lt_of_lt_of_le hk h1.2.2.2.1) hne).trans (h1.2.2.2.2 k hk hne)⟩
theorem Turn.mono {S S' : Nat → Prop} {w w' : World} (h : Turn S w w') (hs : ∀ k, k < w.heap.size → S k → S' k) : Turn S' w w' := ⟨h.1, h.2.1, h.2.2.1, h.2.2.2.1, fun k hk hne => h.2.2.2.2 k hk (fun hh => hne (hs k hk hh))⟩
theorem Turn.trans' {S S1 : Nat → Prop} {w w1 w2 : World} (h1 : Turn S w w1) (h2 : Turn S1 w1 w2) (hs : ∀ k, k < w.heap.size → S1 k → S k) : Turn S w w2 :=
  ⟨h2.1.trans h1.1, h2.2.1.trans h1.2.1, h2.2.2.1.trans h1.2.2.1, Nat.le_trans h1.2.2.2.1 h2.2.2.2.1, fun k hk hne => (h2.2.2.2.2 k (Nat.lt_of_lt_of_le hk h1.2.2.2.1) (fun hh => hne (hs k hk hh))).trans (h1.2.2.2.2 k hk hne)⟩
theorem Turn.of_row {w w' : World} {row : Option Nat} (h : w.grownBy w' row) : Turn (fun k => row = some k) w w' := ⟨h.os, h.tape, h.output, h.size, fun k hk hne => h.block k hk (fun e => hne e.symm)⟩
theorem owned_turn {w w' : World} {base : Nat} {e : TypeId} {size n : Nat} {v : Value} {xs : List Value} {S : Nat → Prop} (h : w.ownsRow base e size v n xs) (ht : Turn S w w') (hne : ∀ g, v.ownBlock = some g → ¬ S g) : w'.ownsRow base e size v n xs := by
  obtain ⟨h1, h2⟩ := h
  refine ⟨h1, h2.imp_right ?_⟩
  rintro ⟨g, cap, cur, rfl, hgb, hh, h3⟩
  exact ⟨g, cap, cur, rfl, hgb, (ht.2.2.2.2 g (Array.getElem?_eq_some_iff.1 hh).1 (hne g rfl)).trans hh, h3⟩
theorem Turn.size {S : Nat → Prop} {w w' : World} (h : Turn S w w') : w.heap.size ≤ w'.heap.size := h.2.2.2.1
/-- the blocks from a number on may be turned: what lay ahead of it stays -/
theorem Turn.base {S : Nat → Prop} {base : Nat} {w0 w w' : World} (h : Turn S w w') (hb : Below base w0 w) (hs : base ≤ w.heap.size) (hS : ∀ k, S k → base ≤ k) : Below base w0 w' :=
  hb.trans ⟨h.1, h.2.1, h.2.2.1, h.2.2.2.1, fun k hk => h.2.2.2.2 k (by omega) (fun hk' => by have := hS k hk'; omega)⟩
theorem Turn.obj {S : Nat → Prop} {w w' : World} {k : Nat} {o : Obj} (h : Turn S w w') (hk : w.heap[k]? = some o) (hne : ¬ S k) : w'.heap[k]? = some o := (h.2.2.2.2 k (Array.getElem?_eq_some_iff.1 hk).1 hne).trans hk
theorem Sl.turn {k : IntKind} {S : Nat → Prop} {w w' : World} {v : Value} {zs : List Int} (h : Sl k w v zs) (ht : Turn S w w') (hne : ∀ g, v.ownBlock = some g → ¬ S g) : Sl k w' v zs := by
  obtain ⟨a, cap, rfl, h1, h2, h4, h3⟩ := h
  refine ⟨a, cap, rfl, h1, h2, h4, h3.imp_right ?_⟩
  rintro ⟨b, off, rfl, hlt, hc⟩
  exact ⟨b, off, rfl, Nat.lt_of_lt_of_le hlt ht.size, fun i hi => by
    have := hc i hi
    simp only [World.cell?, ht.2.2.2.2 b hlt (hne b rfl)] at this ⊢
    exact this⟩
/-- a frame whose payload is new, and in no block of a kind -/
def FrN (lo : Nat) (O : Option Nat) (w : World) (v : Value) (f : Fr) : Prop := ∃ pv, v = .agg #[.int .i64 f.kind, .int .i64 f.flags, .int .i64 f.stream, pv] ∧ Sl .u8 w pv f.pay ∧ ∀ g, pv.ownBlock = some g → lo ≤ g ∧ g < w.heap.size ∧ O ≠ some g
theorem FrN.toV {lo : Nat} {O : Option Nat} {w : World} {v : Value} {f : Fr} (h : FrN lo O w v f) : FrV w v f := by obtain ⟨pv, e, h1, _⟩ := h; exact ⟨pv, e, h1⟩

/-- owners of blocks, each by its number: what one owns no other one does; all lie from a number on -/
structure Sep (base : Nat) (B : Nat → Nat → Prop) (W : World) : Prop where
  lt : ∀ i g, B i g → g < W.heap.size
  ge : ∀ i g, B i g → base ≤ g
  ne : ∀ i j g, i ≠ j → B i g → B j g → False
  sz : base ≤ W.heap.size
def setB (B : Nat → Nat → Prop) (i : Nat) (X : Nat → Prop) : Nat → Nat → Prop := fun j => if j = i then X else B j
theorem setB_same (B : Nat → Nat → Prop) (i : Nat) (X : Nat → Prop) : setB B i X i = X := if_pos rfl
theorem setB_other (B : Nat → Nat → Prop) {i j : Nat} (X : Nat → Prop) (h : j ≠ i) : setB B i X j = B j := if_neg h
/-- one owner has turned its own blocks, and has others then, or new ones -/
theorem Sep.step {base : Nat} {B : Nat → Nat → Prop} {W W' : World} (h : Sep base B W) (i : Nat) (X : Nat → Prop) (hs : W.heap.size ≤ W'.heap.size) (hX : ∀ g, X g → B i g ∨ W.heap.size ≤ g) (hl : ∀ g, X g → g < W'.heap.size) : Sep base (setB B i X) W' := by
  refine ⟨fun j g hg => ?_, fun j g hg => ?_, fun j k g hjk h1 h2 => ?_, Nat.le_trans h.sz hs⟩
  · unfold setB at hg
    split at hg
    · exact hl g hg
    · exact Nat.lt_of_lt_of_le (h.lt j g hg) hs
  · unfold setB at hg
    split at hg
    · rcases hX g hg with hx | hx
      · exact h.ge i g hx
      · have := h.sz; omega
    · exact h.ge j g hg
  · unfold setB at h1 h2
    split at h1
    · split at h2
      · omega
      · rename_i e1 e2
        rcases hX g h1 with hx | hx
        · exact h.ne i k g (fun e => e2 e.symm) hx h2
        · have := h.lt k g h2; omega
    · split at h2
      · rename_i e1 e2
        rcases hX g h2 with hx | hx
        · exact h.ne i j g (fun e => e1 e.symm) hx h1
        · have := h.lt j g h1; omega
      · exact h.ne j k g hjk h1 h2
/-- several owners have others then, or new ones, each its own -/
theorem Sep.many {base : Nat} {B B' : Nat → Nat → Prop} {W W' : World} (h : Sep base B W) (hs : W.heap.size ≤ W'.heap.size) (hB : ∀ i g, B' i g → B i g ∨ W.heap.size ≤ g) (hl : ∀ i g, B' i g → g < W'.heap.size)
    (hn : ∀ i j g, i < j → W.heap.size ≤ g → B' i g → B' j g → False) : Sep base B' W' := by
  refine ⟨hl, fun i g hg => ?_, fun i j g hij h1 h2 => ?_, Nat.le_trans h.sz hs⟩
  · rcases hB i g hg with hx | hx
    · exact h.ge i g hx
    · have := h.sz; omega
  · by_cases hg : W.heap.size ≤ g
    · rcases Nat.lt_or_gt_of_ne hij with hlt | hlt
      · exact hn i j g hlt hg h1 h2
      · exact hn j i g hlt hg h2 h1
    · exact h.ne i j g hij ((hB i g h1).resolve_right hg) ((hB j g h2).resolve_right hg)
theorem Sep.grow {base : Nat} {B : Nat → Nat → Prop} {W W' : World} (h : Sep base B W) (hs : W.heap.size ≤ W'.heap.size) : Sep base B W' := ⟨fun i g hg => Nat.lt_of_lt_of_le (h.lt i g hg) hs, h.ge, h.ne, Nat.le_trans h.sz hs⟩
/-- the outer frame -/
theorem Sep.below {base : Nat} {B : Nat → Nat → Prop} {w0 W W' : World} (h : Sep base B W) (i : Nat) (ht : Turn (B i) W W') (hb : Below base w0 W) : Below base w0 W' := ht.base hb h.sz (h.ge i)
end Go.Proofs.Ytnoegbdmjinfjaa

/-
  Layer 19 as a machine: a queue's room, its frames, whether the last one has come. No program is named here.
-/
namespace Go.Proofs.Ytnoegbdmjinfjaa
open Go.RowKit

structure Q19 where
  room : Int
  l : List Fr
  ended : Bool
def pushQ (q : Q19) (f : Fr) : Q19 := if q.ended = true then q else if q.room ≤ (q.l.length : Int) then q else { q with l := q.l ++ [f] }
def pushQE (q : Q19) : Int := if q.ended = true then 7 else if q.room ≤ (q.l.length : Int) then 4 else 0
def lastQ (q : Q19) (f : Fr) : Q19 := if q.ended = true then q else { q with l := q.l ++ [f], ended := true }
def lastQE (q : Q19) : Int := if q.ended = true then 7 else 0
def popQ (q : Q19) : Q19 := { q with l := q.l.drop 1 }
def popF (q : Q19) : Fr := q.l.headD Fr.zero
def popB (q : Q19) : Bool := !q.l.isEmpty
def sumPay (l : List Fr) : Nat := l.foldr (fun f n => f.pay.length + n) 0
theorem sumPay_append (a b : List Fr) : sumPay (a ++ b) = sumPay a + sumPay b := by
  induction a with
  | nil => simp [sumPay]
  | cons x r ih => simp only [sumPay, List.cons_append, List.foldr_cons] at ih ⊢; omega
theorem pushQ_full {room : Int} {l : List Fr} (F : Fr) (h : room ≤ (l.length : Int)) : pushQE ⟨room, l, false⟩ = 4 ∧ pushQ ⟨room, l, false⟩ F = ⟨room, l, false⟩ := by simp [pushQE, pushQ, h]
theorem pushQ_ok {room : Int} {l : List Fr} (F : Fr) (h : ¬ room ≤ (l.length : Int)) : pushQE ⟨room, l, false⟩ = 0 ∧ pushQ ⟨room, l, false⟩ F = ⟨room, l ++ [F], false⟩ := by simp [pushQE, pushQ, h]
/-- what is turned matters to a slice that is not empty alone -/
theorem Sl.turn0 {k : IntKind} {S : Nat → Prop} {w w' : World} {v : Value} {zs : List Int} (h : Sl k w v zs) (ht : Turn S w w') (hne : zs ≠ [] → ∀ g, v.ownBlock = some g → ¬ S g) : Sl k w' v zs := by
  by_cases hz : zs = []
  · subst hz
    obtain ⟨a, c, rfl, h1, h2, h3, h4⟩ := h
    rcases h4 with ⟨_, h5⟩ | ⟨b, off, rfl, hl, _⟩
    · exact ⟨a, c, rfl, h1, h2, h3, .inl ⟨rfl, h5⟩⟩
    · exact ⟨_, c, rfl, h1, h2, h3, .inl ⟨rfl, fun e => by cases e⟩⟩
  · exact h.turn ht (hne hz)
theorem SlF.turnP {S : Nat → Prop} {w w' : World} {v : Value} {ps : List (Fr × Value)} (h : SlF w v ps) (ht : Turn S w w') (hv : ∀ g, v.ownBlock = some g → ¬ S g) (hp : ∀ p ∈ ps, Sl .u8 w' p.2 p.1.pay) : SlF w' v ps := by
  obtain ⟨h1, a, cap, rfl, h2, h3, h4⟩ := h
  refine ⟨hp, a, cap, rfl, h2, h3, h4.imp_right ?_⟩
  rintro ⟨b, off, rfl, hl, hc⟩
  have hb := ht.2.2.2.2 b hl (hv b rfl)
  have hcell : ∀ j, w'.cell? ⟨b, j, none⟩ = w.cell? ⟨b, j, none⟩ := fun j => by simp [World.cell?, hb]
  refine ⟨b, off, rfl, Nat.lt_of_lt_of_le hl ht.size, fun i p hi => ?_⟩
  obtain ⟨c0, c1, c2, c3⟩ := hc i p hi
  exact ⟨(hcell _).trans c0, (hcell _).trans c1, (hcell _).trans c2, (hcell _).trans c3⟩
theorem SlF.turn {S : Nat → Prop} {w w' : World} {v : Value} {ps : List (Fr × Value)} (h : SlF w v ps) (ht : Turn S w w') (hv : ∀ g, v.ownBlock = some g → ¬ S g) (hp : ∀ p ∈ ps, p.1.pay ≠ [] → ∀ g, p.2.ownBlock = some g → ¬ S g) : SlF w' v ps := h.turnP ht hv (fun p hm => (h.1 p hm).turn0 ht (hp p hm))
/-- where its cells lie -/
theorem SlF.src {w : World} {a : Option Addr} {n c : Nat} {ps : List (Fr × Value)} (h : SlF w (.slice a n c) ps) : ∀ ad, a = some ad → ∀ (j : Nat) (u : Value), (flat ps)[j]? = some u → w.cell? (ad.add j) = some u := by
  rintro ad rfl j u hj
  obtain ⟨_, a', c', e, _, _, h3⟩ := h
  simp only [Value.slice.injEq] at e
  have hjl : j < ps.length * 4 := by rw [← flat_length]; exact (List.getElem?_eq_some_iff.1 hj).1
  rcases h3 with ⟨h3, _⟩ | ⟨b, off, e2, _, hc⟩
  · omega
  · rw [← e.1] at e2
    cases e2
    obtain ⟨p, hp⟩ : ∃ p, ps[j / 4]? = some p := ⟨ps[j / 4]'(by omega), List.getElem?_eq_getElem (by omega)⟩
    obtain ⟨c0, c1, c2, c3⟩ := hc _ p hp
    have hf := flat_at ps _ p hp
    rw [Go.WideShapes.add_plain]
    have h4 : j % 4 < 4 := Nat.mod_lt _ (by decide)
    have hj4 : j = j / 4 * 4 + j % 4 := by omega
    have hfj := hf (j % 4) h4
    rw [← hj4, hj] at hfj
    rw [show off + j = off + j / 4 * 4 + j % 4 by omega]
    generalize j % 4 = r at h4 hfj ⊢
    obtain rfl | rfl | rfl | rfl : r = 0 ∨ r = 1 ∨ r = 2 ∨ r = 3 := by omega
    · simp only [frCells, List.getElem?_cons_zero] at hfj; cases hfj; exact c0
    · simp only [frCells, List.getElem?_cons_zero, List.getElem?_cons_succ] at hfj; cases hfj; exact c1
    · simp only [frCells, List.getElem?_cons_zero, List.getElem?_cons_succ] at hfj; cases hfj; exact c2
    · simp only [frCells, List.getElem?_cons_zero, List.getElem?_cons_succ] at hfj; cases hfj; exact c3
theorem SlF.bare {w : World} {n c : Nat} {a : Option Addr} {ps : List (Fr × Value)} (h : SlF w (.slice a n c) ps) : a = none → n = 0 ∧ c = 0 := by
  rintro rfl
  obtain ⟨_, a', c', e, _, _, h3⟩ := h
  simp only [Value.slice.injEq] at e
  obtain ⟨rfl, rfl, rfl⟩ := e
  rcases h3 with ⟨h3, h4⟩ | ⟨b, off, e, _⟩
  · exact ⟨h3, h4 rfl⟩
  · cases e
theorem Sl.lt0 {k : IntKind} {w : World} {v : Value} {zs : List Int} (h : Sl k w v zs) (hne : zs ≠ []) {g : Nat} (hg : v.ownBlock = some g) : g < w.heap.size := by
  rcases h.parts with ⟨rfl, _⟩ | ⟨_, b, off, cap, rfl, _, _, hb, _⟩
  · exact absurd rfl hne
  · cases hg; exact hb
end Go.Proofs.Ytnoegbdmjinfjaa

/-
  A region that draws its order and makes memory: each operation of its head is shown by itself, from what the operations that it waits for have left; its tail is walked in order. No program is named here.
-/
namespace Go.Proofs.Ytnoegbdmjinfjaa
open Go.RowKit

/-- what an operation yields, and the world behind it -/
def gives (P : Program) (o : Oper) (ρ : Operand → Value) (w : World) (R : Value → World → Prop) : Prop :=
  match (execOp ρ o).run P w with
  | .ok (.value v) w' => R v w'
  | .ok (.enter f args) w' => Calls P f args w' (fun e w'' => ∃ v, e = .returned v ∧ R v w'')
  | _ => False
theorem wp_of_gives {P : Program} {o : Oper} {a : Act} {w : World} {R : Value → World → Prop} {K : Act → World → Prop} {Q : Exit → Act → World → Prop}
    (h : gives P o a.eval w R) (hK : ∀ v w', R v w' → K (a.put o.dst v) w') : o.wp P a w K Q := by
  unfold gives at h
  unfold Oper.wp
  generalize (execOp a.eval o).run P w = r at *
  cases r with
  | ok n w' =>
    cases n <;> simp only [Oper.upon] at h ⊢
    case value v => exact hK _ _ h
    case enter f args => exact h.mono fun e w'' ⟨v, he, hR⟩ => by subst he; exact hK _ _ hR
  | halt x w' => simp at h

/-- the frame behind the head: each destination holds its value -/
def putAll (D : List Tmp) (x : Nat → Value) : Nat → Act → Act
  | 0, a => a
  | k + 1, a => (putAll D x k a).put (some (D.getD k 0)) (x k)
theorem putAll_size (D : List Tmp) (x : Nat → Value) (k : Nat) (a : Act) : (putAll D x k a).tmps.size = a.tmps.size := by
  induction k with
  | zero => rfl
  | succ k ih => simp [putAll, Act.put, ih]
theorem putAll_defers (D : List Tmp) (x : Nat → Value) (k : Nat) (a : Act) : (putAll D x k a).defers = a.defers := by
  induction k with
  | zero => rfl
  | succ k ih => simp [putAll, Act.put, ih]
theorem putAll_other (D : List Tmp) (x : Nat → Value) (a : Act) (t : Tmp) : ∀ k, (∀ i, i < k → D.getD i 0 ≠ t) → (putAll D x k a).tmps[t]? = a.tmps[t]? := by
  intro k
  induction k with
  | zero => intro _; rfl
  | succ k ih =>
    intro h
    have h1 := h k (by omega)
    simp only [putAll, Act.put]
    rw [Array.getElem?_setIfInBounds_ne h1]
    exact ih fun i hi => h i (by omega)
theorem putAll_at (D : List Tmp) (x : Nat → Value) (a : Act) : ∀ k i, i < k → (∀ i j, i < k → j < k → D.getD i 0 = D.getD j 0 → i = j) → D.getD i 0 < a.tmps.size → (putAll D x k a).tmps[D.getD i 0]? = some (x i) := by
  intro k
  induction k with
  | zero => intro i hi; omega
  | succ k ih =>
    intro i hi hd hb
    simp only [putAll, Act.put]
    by_cases hik : i = k
    · subst hik
      rw [Array.getElem?_setIfInBounds_self_of_lt]
      rw [putAll_size]; exact hb
    · rw [Array.getElem?_setIfInBounds_ne (fun e => hik (hd i k (by omega) (by omega) e.symm))]
      exact ih i (by omega) (fun i j h1 h2 => hd i j (by omega) (by omega)) hb

/-- what is asked of the region's shape: the kernel reckons it -/
def sinkE (ops : Array Oper) (n : Nat) (E L : List Nat) : Bool := (List.range n).all fun i => E.contains i || L.contains i || (List.range (n + 1)).any fun j => decide (i < j) && !L.contains j && Region.waitsFor .any ops j i
/-- an operation that may be late: every other one waits for it, or it for that, or they are apart -/
def lateB (l : List Oper) (L : List Nat) : Bool := L.all fun i => match l[i]? with
  | some oi => (List.range l.length).all fun j => j == i || Region.waitsFor .any l.toArray j i || Region.waitsFor .any l.toArray i j || (match l[j]? with | some oj => oi.apart l.toArray oj | none => true)
  | none => false
def tableB (l : List Oper) (n sz : Nat) (D : List Tmp) (js : List (List (Nat × Tmp))) (E L : List Nat) : Bool :=
  decide (n ≤ l.length) && decide (D.length = n) && decide (D.Nodup) && D.all (fun d => decide (d < sz)) &&
  (List.range n).all (fun i => match l[i]? with
    | some o => o.guard.isNone && o.dst == some (D.getD i 0) && o.after.all (fun e => !Region.binds .any e || decide (e.on < i)) && (js.getD i []).all (fun p => decide (p.1 < n) && (E.contains p.1 || Region.waitsFor .any l.toArray i p.1) && p.2 == D.getD p.1 0)
    | none => false) &&
  (decide (n = l.length) || sinkE l.toArray n E L && Region.chainB .any l.toArray n) && Region.noSelect l.toArray && lateB l L &&
  Region.seqB .any l.toArray (l.length - n) n ((List.range l.length).map (fun i => decide (i < n))).toArray

/-- one operation of the head, by itself -/
def opOk (P : Program) (D : List Tmp) (a0 : Act) (W0 : World) (Ψ : Nat → Value → World → Prop) (i : Nat) (js : List (Nat × Tmp)) (o : Oper) : Prop :=
  ∀ (ρ : Operand → Value) (w : World), (∀ v, ρ (.const v) = v) → (∀ f, ρ (.func f) = .func (.func f) #[] #[]) → (∀ t, t ∉ D → ρ (.tmp t) = a0.eval (.tmp t)) → Below W0.heap.size W0 w → (∀ p ∈ js, Ψ p.1 (ρ (.tmp p.2)) w) →
    gives P o ρ w fun v w' => Ψ i v w' ∧ Below w.heap.size w w'
/-- one that may be late: it yields in whatever world -/
def lateOk (P : Program) (D : List Tmp) (a0 : Act) (W0 : World) (Ψ : Nat → Value → World → Prop) (i : Nat) (js : List (Nat × Tmp)) (o : Oper) : Prop :=
  ∀ (ρ : Operand → Value) (w : World), (∀ v, ρ (.const v) = v) → (∀ t, t ∉ D → ρ (.tmp t) = a0.eval (.tmp t)) → Below W0.heap.size W0 w → (∀ p ∈ js, Ψ p.1 (ρ (.tmp p.2)) w) →
    ∃ v, (∀ w', (execOp ρ o).run P w' = .ok (.value v) w') ∧ Ψ i v w
theorem lateOk.opOk {P : Program} {D : List Tmp} {a0 : Act} {W0 : World} {Ψ : Nat → Value → World → Prop} {i : Nat} {js : List (Nat × Tmp)} {o : Oper} (h : lateOk P D a0 W0 Ψ i js o) : opOk P D a0 W0 Ψ i js o := by
  intro ρ w hc _ ho hB hj
  obtain ⟨v, hr, hv⟩ := h ρ w hc ho hB hj
  unfold gives
  rw [hr w]
  exact ⟨hv, Below.refl _ _⟩
def opsOk (P : Program) (D : List Tmp) (a0 : Act) (W0 : World) (Ψ : Nat → Value → World → Prop) : Nat → List (List (Nat × Tmp)) → List Oper → Prop
  | i, js :: jss, o :: l => opOk P D a0 W0 Ψ i js o ∧ opsOk P D a0 W0 Ψ (i + 1) jss l
  | i, [], o :: l => opOk P D a0 W0 Ψ i [] o ∧ opsOk P D a0 W0 Ψ (i + 1) [] l
  | _, _, [] => True
theorem opsOk_get {P : Program} {D : List Tmp} {a0 : Act} {W0 : World} {Ψ : Nat → Value → World → Prop} : ∀ (l : List Oper) (k : Nat) (jss : List (List (Nat × Tmp))), opsOk P D a0 W0 Ψ k jss l → ∀ i o, l[i]? = some o → opOk P D a0 W0 Ψ (k + i) (jss.getD i []) o
  | [], _, _, _, i, o, h => by simp at h
  | o :: l, k, [], h, 0, _, e => by simp at e; subst e; simpa using h.1
  | o :: l, k, js :: jss, h, 0, _, e => by simp at e; subst e; simpa using h.1
  | o :: l, k, [], h, i + 1, o', e => by
    have := opsOk_get l (k + 1) [] h.2 i o' (by simpa using e)
    simpa [Nat.add_assoc, Nat.add_comm 1 i] using this
  | o :: l, k, js :: jss, h, i + 1, o', e => by
    have := opsOk_get l (k + 1) jss h.2 i o' (by simpa using e)
    simpa [Nat.add_assoc, Nat.add_comm 1 i] using this

theorem countP_flip (p q : Nat → Bool) (i : Nat) (hp : p i = true) (hq : q i = false) (ho : ∀ j, j ≠ i → q j = p j) : ∀ r : List Nat, r.Nodup → i ∈ r → r.countP p = r.countP q + 1
  | [], _, h => by simp at h
  | j :: r, hn, h => by
    have hn' := List.nodup_cons.1 hn
    by_cases hj : j = i
    · subst hj
      have : r.countP p = r.countP q := List.countP_congr fun k hk => by rw [ho k (fun e => hn'.1 (e ▸ hk))]
      rw [List.countP_cons, List.countP_cons, this, hp, hq]
      simp
    · have hi : i ∈ r := by
        rcases List.mem_cons.1 h with h | h
        · exact absurd h.symm hj
        · exact h
      rw [List.countP_cons, List.countP_cons, countP_flip p q i hp hq ho r hn'.2 hi, ho j hj]
      omega

theorem least_one (p : Nat → Prop) : ∀ i, p i → ∃ k, p k ∧ ∀ j, j < k → ¬ p j := fun i => by
  induction i using Nat.strongRecOn with
  | _ i ih =>
    intro h
    by_cases h2 : ∃ j, j < i ∧ p j
    · obtain ⟨j, hj, hp⟩ := h2
      exact ih j hj hp
    · exact ⟨i, h, fun j hj hp => h2 ⟨j, hj, hp⟩⟩
theorem getD_of_true {listed : Array Bool} {i : Nat} (h : listed.getD i true = true) (hi : i < listed.size) : listed.getD i false = true := by
  simp [hi] at h ⊢; exact h
section
variable {P : Program} {l : List Oper} {n : Nat} {D : List Tmp} {js : List (List (Nat × Tmp))} {E L : List Nat} {a0 : Act} {W0 : World} {Ψ : Nat → Value → World → Prop} {Q : Exit → Act → World → Prop}
structure Shape (l : List Oper) (n sz : Nat) (D : List Tmp) (js : List (List (Nat × Tmp))) (E L : List Nat) : Prop where
  le : n ≤ l.length
  len : D.length = n
  inj : ∀ i j, i < n → j < n → D.getD i 0 = D.getD j 0 → i = j
  lt : ∀ i, i < n → D.getD i 0 < sz
  op : ∀ i, i < n → ∃ o, l[i]? = some o ∧ o.guard = none ∧ o.dst = some (D.getD i 0) ∧ (∀ e ∈ o.after, Region.binds .any e = true → e.on < i) ∧
    ∀ p ∈ js.getD i [], p.1 < n ∧ (p.1 ∈ E ∨ Region.waitsFor .any l.toArray i p.1 = true) ∧ p.2 = D.getD p.1 0
  sel : Region.noSelect l.toArray = true
  late : ∀ i ∈ L, ∀ oi, l[i]? = some oi → ∀ j oj, l[j]? = some oj → j ≠ i → Region.waitsFor .any l.toArray j i = true ∨ Region.waitsFor .any l.toArray i j = true ∨ oi.apart l.toArray oj = true
  tail : n = l.length ∨ (sinkE l.toArray n E L = true ∧ Region.chainB .any l.toArray n = true)
  seq : Region.seqB .any l.toArray (l.length - n) n ((List.range l.length).map (fun i => decide (i < n))).toArray = true
theorem tableB_spec {sz : Nat} (h : tableB l n sz D js E L = true) : Shape l n sz D js E L := by
  simp only [tableB, Bool.and_eq_true, decide_eq_true_eq, List.all_eq_true, Bool.or_eq_true] at h
  obtain ⟨⟨⟨⟨⟨⟨⟨⟨h1, h2⟩, h3⟩, h4⟩, h5⟩, h6⟩, h8⟩, h9⟩, h7⟩ := h
  refine ⟨h1, h2, ?_, ?_, ?_, h8, ?_, h6, h7⟩
  rotate_left 3
  · intro i hi oi ho j oj hj hne
    have := List.all_eq_true.1 h9 i hi
    rw [ho] at this
    have := List.all_eq_true.1 this j (List.mem_range.2 (List.getElem?_eq_some_iff.1 hj).1)
    rw [hj] at this
    simp only [Bool.or_eq_true, beq_iff_eq] at this
    rcases this with ((h | h) | h) | h
    · exact absurd h hne
    · exact .inl h
    · exact .inr (.inl h)
    · exact .inr (.inr h)
  · intro i j hi hj e
    rw [List.getD_eq_getElem?_getD, List.getD_eq_getElem?_getD, List.getElem?_eq_getElem (by omega), List.getElem?_eq_getElem (by omega), Option.getD_some, Option.getD_some] at e
    have hp := List.pairwise_iff_getElem.1 h3
    rcases Nat.lt_trichotomy i j with h | h | h
    · exact absurd e (hp i j (by omega) (by omega) h)
    · exact h
    · exact absurd e.symm (hp j i (by omega) (by omega) h)
  · intro i hi
    refine h4 _ ?_
    rw [List.getD_eq_getElem?_getD, List.getElem?_eq_getElem (by omega), Option.getD_some]
    exact List.getElem_mem _
  · intro i hi
    have := h5 i (List.mem_range.2 hi)
    split at this
    · rename_i o ho
      simp only [Bool.and_eq_true, Option.isNone_iff_eq_none, beq_iff_eq, Array.all_eq_true_iff_forall_mem, List.all_eq_true, decide_eq_true_eq, Bool.or_eq_true, Bool.not_eq_true'] at this
      obtain ⟨⟨⟨g1, g2⟩, g3⟩, g4⟩ := this
      refine ⟨o, ho, g1, g2, fun e he hb => (g3 e he).resolve_left (by simp [hb]), fun p hp => ?_⟩
      have := g4 p hp
      exact ⟨this.1.1, this.1.2.imp_left (by simp), this.2⟩
    · cases this

/-- where the head stands, in whatever order it has come so far -/
structure Mid (l : List Oper) (n : Nat) (D : List Tmp) (E : List Nat) (a0 : Act) (W0 : World) (Ψ : Nat → Value → World → Prop) (listed : Array Bool) (a : Act) (w : World) : Prop where
  head : HeadInv .any l.toArray n listed
  below : Below W0.heap.size W0 w
  size : a.tmps.size = a0.tmps.size
  defers : a.defers = a0.defers
  other : ∀ t, t ∉ D → a.tmps[t]? = a0.tmps[t]?
  early : ∀ i ∈ E, listed.getD i false = true
  holds : ∀ i, i < n → listed.getD i false = true → Ψ i (a.eval (.tmp (D.getD i 0))) w
/-- nothing of the tail comes up while something of the head is left -/
theorem head_first (hs : sinkE l.toArray n E L = true) (hc : Region.chainB .any l.toArray n = true) {listed : Array Bool} (inv : HeadInv .any l.toArray n listed) (he : ∀ i ∈ E, listed.getD i false = true) :
    ∀ (d i : Nat), n - i = d → i < n → i ∉ L → listed.getD i true = false → ∀ t, n ≤ t → t ∉ Region.ready .any l.toArray listed := by
  intro d
  induction d using Nat.strongRecOn with
  | _ d ih =>
    intro i hd hi hiL hun t ht hr
    obtain ⟨_, ot, hot, hall⟩ := mem_ready.1 hr
    have htlt : t < l.toArray.size := (Array.getElem?_eq_some_iff.1 hot).1
    by_cases htn : t = n
    · subst htn
      have h1 := List.all_eq_true.1 hs i (List.mem_range.2 hi)
      rw [Bool.or_eq_true, Bool.or_eq_true] at h1
      rcases h1 with (h1 | h1) | h1
      · have := he i (by simpa using h1)
        rw [getD_both hun] at this
        cases this
      · exact absurd (by simpa using h1) hiL
      · obtain ⟨j, hj, hj2⟩ := List.any_eq_true.1 h1
        simp only [Bool.and_eq_true, decide_eq_true_eq, Bool.not_eq_true'] at hj2
        have hjL : j ∉ L := by have := hj2.1.2; simpa using this
        obtain ⟨oj, hoj, e, hej, hb, hon⟩ := Region.waitsFor_spec hj2.2
        have hjle : j ≤ t := by have := List.mem_range.1 hj; omega
        by_cases hjt : j = t
        · subst hjt
          have : oj = ot := Option.some.inj (hoj.symm.trans hot)
          subst this
          have := hall e hej hb
          rw [hon, getD_both hun] at this
          cases this
        · have hjl : listed.getD j true = true := by
            by_cases h : listed.getD j true = true
            · exact h
            · exact absurd hr (ih (t - j) (by omega) j rfl (by omega) hjL (by simpa using h) t (Nat.le_refl _))
          have hjs : j < listed.size := by rw [inv.size]; omega
          have h2 := inv.closed j oj hoj (getD_of_true hjl hjs) e hej hb
          rw [hon, getD_both hun] at h2
          cases h2
    · have h1 := List.all_eq_true.1 hc t (List.mem_range.2 htlt)
      simp only [Bool.or_eq_true, decide_eq_true_eq] at h1
      rcases h1 with h1 | h1
      · omega
      · obtain ⟨oj, hoj, e, hej, hb, hon⟩ := Region.waitsFor_spec h1
        have : oj = ot := Option.some.inj (hoj.symm.trans hot)
        subst this
        have h2 := hall e hej hb
        have h3 := inv.tail (t - 1) (by omega) (by omega)
        rw [hon, getD_both h3] at h2
        cases h2

theorem wanted_none {o : Oper} (h : o.guard = none) (y : Nat → Option Bool) : Region.wanted o y = true := by simp [Region.wanted, h]

theorem Mid.facts {sz : Nat} {listed : Array Bool} {a : Act} {w : World} {i : Nat} (I : Mid l n D E a0 W0 Ψ listed a w) (S : Shape l n sz D js E L) (hi : i ∈ Region.ready .any l.toArray listed) (hin : i < n) : ∀ p ∈ js.getD i [], Ψ p.1 (a.eval (.tmp p.2)) w := by
  obtain ⟨o, ho, _, _, _, hjs⟩ := S.op i hin
  obtain ⟨_, o', ho', hready⟩ := mem_ready.1 hi
  have ho2 : l.toArray[i]? = some o := by simpa using ho
  obtain rfl : o' = o := Option.some.inj (ho'.symm.trans ho2)
  intro p hp
  obtain ⟨h1, h2, h3⟩ := hjs p hp
  rw [h3]
  refine I.holds p.1 h1 ?_
  rcases h2 with h2 | h2
  · exact I.early _ h2
  obtain ⟨oj, hoj, e, he, hb, hon⟩ := Region.waitsFor_spec h2
  have : oj = o' := Option.some.inj (hoj.symm.trans ho2)
  subst this
  rw [← hon]
  exact hready e he hb
/-- one more has come up -/
theorem Mid.put {sz : Nat} {listed : Array Bool} {a : Act} {w : World} {i : Nat} (I : Mid l n D E a0 W0 Ψ listed a w) (S : Shape l n sz D js E L) (hsz : a0.tmps.size = sz) (hΨ : ∀ i v w w', Ψ i v w → Below w.heap.size w w' → Ψ i v w')
    (hi : i ∈ Region.ready .any l.toArray listed) (hin : i < n) (v : Value) (w' : World) (hv : Ψ i v w') (hb : Below w.heap.size w w') :
    (List.range n).countP (fun j => !listed.getD j true) = (List.range n).countP (fun j => !(listed.setIfInBounds i true).getD j true) + 1 ∧ Mid l n D E a0 W0 Ψ (listed.setIfInBounds i true) (a.put (some (D.getD i 0)) v) w' := by
  have hls : listed.size = l.length := by simpa using I.head.size
  have hle := S.le
  have hiun := (mem_ready.1 hi).1
  refine ⟨?_, I.head.set hi hin, I.below.trans (hb.mono I.below.size), ?_, ?_, ?_, fun j hj => getD_set_true (I.early j hj), ?_⟩
  · exact countP_flip (fun j => !listed.getD j true) (fun j => !(listed.setIfInBounds i true).getD j true) i (by simp [hiun]) (by simp [show i < listed.size by rw [hls]; omega]) (fun j hj => by rw [getD_set_ne true (Ne.symm hj)]) (List.range n) List.nodup_range (List.mem_range.2 hin)
  · simp [Act.put, I.size]
  · simp [Act.put, I.defers]
  · intro t ht
    simp only [Act.put]
    rw [Array.getElem?_setIfInBounds_ne]
    · exact I.other t ht
    · intro e
      refine ht ?_
      rw [← e, List.getD_eq_getElem?_getD, List.getElem?_eq_getElem (by rw [S.len]; exact hin), Option.getD_some]
      exact List.getElem_mem _
  · intro j hj hlj
    by_cases hji : j = i
    · subst hji
      have : (a.put (some (D.getD j 0)) v).eval (.tmp (D.getD j 0)) = v := by
        simp only [Act.eval, Act.put]
        rw [Array.getD_eq_getD_getElem?, Array.getElem?_setIfInBounds_self_of_lt (by rw [I.size, hsz]; exact S.lt j hin), Option.getD_some]
      rw [this]
      exact hv
    · rw [getD_set_ne false (Ne.symm hji)] at hlj
      have : (a.put (some (D.getD i 0)) v).eval (.tmp (D.getD j 0)) = a.eval (.tmp (D.getD j 0)) := by
        refine Act.eval_put fun d hd' e => ?_
        simp only [Option.some.injEq] at hd'
        subst hd'
        simp only [Operand.tmp.injEq] at e
        exact hji (S.inj j i hj hin e)
      rw [this]
      exact hΨ _ _ _ _ (I.holds j hj hlj) hb

theorem mid_any {sz : Nat} (S : Shape l n sz D js E L) (hsz : a0.tmps.size = sz) (hΨ : ∀ i v w w', Ψ i v w → Below w.heap.size w w' → Ψ i v w') (hop : opsOk P D a0 W0 Ψ 0 js (l.take n)) (hQ : ∀ i ∈ L, ∀ c (a : Act) d v w, Q (.panic c) (a.put d v) w → Q (.panic c) a w) (hlate : ∀ i ∈ L, i < n → ∀ o, l[i]? = some o → lateOk P D a0 W0 Ψ i (js.getD i []) o)
    (hend : ∀ (x : Nat → Value) (w : World), Below W0.heap.size W0 w → (∀ i, i < n → Ψ i (x i) w) → wpList P l.toArray Q (l.drop n) (putAll D x n a0) w) :
    ∀ (m : Nat) (listed : Array Bool) (a : Act) (w : World), (List.range n).countP (fun i => !listed.getD i true) = m → Mid l n D E a0 W0 Ψ listed a w → wpAny P .any l.toArray Q (m + (l.length - n)) listed a w := by
  intro m
  induction m with
  | zero =>
    intro listed a w hm I
    have hall : ∀ i, i < n → listed.getD i true = true := fun i hi => by
      have := List.countP_eq_zero.1 hm i (List.mem_range.2 hi)
      simpa using this
    have hls : listed.size = l.length := by simpa using I.head.size
    have hle := S.le
    have hlisted : listed = ((List.range l.length).map (fun i => decide (i < n))).toArray := by
      apply Array.ext
      · simp [hls]
      · intro i h1 h2
        simp only [List.getElem_toArray, List.getElem_map, List.getElem_range]
        by_cases hi : i < n
        · have := hall i hi
          simp [h1] at this
          rw [this]; simp [hi]
        · have := I.head.tail i (by omega) (by simpa [hls] using h1)
          simp [h1] at this
          rw [this]; simp [hi]
    have ha : a = putAll D (fun i => a.eval (.tmp (D.getD i 0))) n a0 := by
      have ht : a.tmps = (putAll D (fun i => a.eval (.tmp (D.getD i 0))) n a0).tmps := by
        apply Array.ext_getElem?
        intro t
        by_cases ht : t ∈ D
        · obtain ⟨i, hi, rfl⟩ := List.getElem_of_mem ht
          have hi' : i < n := by rw [← S.len]; exact hi
          have e1 : D[i] = D.getD i 0 := by rw [List.getD_eq_getElem?_getD, List.getElem?_eq_getElem hi, Option.getD_some]
          have hlt := S.lt i hi'
          rw [e1, putAll_at D _ a0 n i hi' S.inj (by rw [hsz]; exact hlt)]
          have hb : D.getD i 0 < a.tmps.size := by rw [I.size, hsz]; exact hlt
          rw [Array.getElem?_eq_getElem hb]
          simp only [Act.eval]
          rw [Array.getD_eq_getD_getElem?, Array.getElem?_eq_getElem hb, Option.getD_some]
        · rw [I.other t ht, putAll_other]
          intro i hi e
          refine ht ?_
          rw [← e, List.getD_eq_getElem?_getD, List.getElem?_eq_getElem (by rw [S.len]; exact hi), Option.getD_some]
          exact List.getElem_mem _
      have hd : a.defers = (putAll D (fun i => a.eval (.tmp (D.getD i 0))) n a0).defers := by rw [putAll_defers, I.defers]
      generalize putAll D (fun i => a.eval (.tmp (D.getD i 0))) n a0 = b at ht hd
      cases a; cases b
      simp only at ht hd
      subst ht; subst hd
      rfl
    have hw := hend (fun i => a.eval (.tmp (D.getD i 0))) w I.below (fun i hi => I.holds i hi (getD_of_true (hall i hi) (by rw [hls]; omega)))
    rw [← ha] at hw
    have hq := wpAny_of_seq (md := .any) (Q' := Q) (l.drop n) n listed a w (fun j => by simp [List.getElem?_drop]) (by rw [List.length_drop, hlisted]; exact S.seq) hw
    rw [List.length_drop] at hq
    rw [Nat.zero_add]
    exact hq
  | succ m ih =>
    intro listed a w hm I
    have hls : listed.size = l.length := by simpa using I.head.size
    have hle := S.le
    rw [show m + 1 + (l.length - n) = (m + (l.length - n)) + 1 by omega]
    obtain ⟨i0, hi0, hun0⟩ : ∃ i, i < n ∧ listed.getD i true = false := by
      obtain ⟨i, hi, hp⟩ := List.countP_pos_iff.1 (show 0 < (List.range n).countP (fun i => !listed.getD i true) by omega)
      exact ⟨i, List.mem_range.1 hi, by simpa using hp⟩
    -- the least one that has not come up is ready
    obtain ⟨k, ⟨hk, hku⟩, hmin⟩ : ∃ k, (k < n ∧ listed.getD k true = false) ∧ ∀ j, j < k → ¬ (j < n ∧ listed.getD j true = false) := least_one (fun k => k < n ∧ listed.getD k true = false) i0 ⟨hi0, hun0⟩
    have hkr : k ∈ Region.ready .any l.toArray listed := by
      obtain ⟨o, ho, _, _, haft, _⟩ := S.op k hk
      refine mem_ready.2 ⟨hku, o, by simpa using ho, fun e he hb => ?_⟩
      have h1 := haft e he hb
      have h2 := hmin e.on h1
      have h3 : listed.getD e.on true = true := by
        by_cases h : listed.getD e.on true = true
        · exact h
        · exact absurd ⟨by omega, by simpa using h⟩ h2
      exact getD_of_true h3 (by rw [hls]; omega)
    clear i0 hi0 hun0
    by_cases hall : ∃ i, i < n ∧ listed.getD i true = false ∧ i ∉ L
    case neg =>
      -- only such as may be late are left of the head: the least one is taken first
      have hkL : k ∈ L := by
        by_cases h : k ∈ L
        · exact h
        · exact absurd ⟨k, hk, hku, h⟩ hall
      obtain ⟨o, ho, hg, hd, _, _⟩ := S.op k hk
      have ho2 : l.toArray[k]? = some o := by simpa using ho
      obtain ⟨v, hrun, hv⟩ := hlate k hkL hk o ho a.eval w (fun _ => rfl) (fun t ht => by simp only [Act.eval, Array.getD_eq_getD_getElem?, I.other t ht]) I.below (I.facts S hkr hk)
      obtain ⟨hc', I'⟩ := I.put S hsz hΨ hkr hk v w hv (Below.refl _ _)
      refine wpAny_first ho2 (Region.noSelect_spec S.sel) (fun c a w => hQ k hkL c a _ v w) _ listed a w ?_ hkr (.inl ⟨wanted_none hg _, hrun⟩) ?_
      · intro j oj hj hne hun hno
        obtain ⟨_, o', ho', hready⟩ := mem_ready.1 hkr
        obtain rfl : o' = o := Option.some.inj (ho'.symm.trans ho2)
        rcases S.late k hkL o' ho j oj (by simpa using hj) hne with h | h | h
        · obtain ⟨oj', hoj', e, he, hb, hon⟩ := Region.waitsFor_spec h
          obtain rfl : oj' = oj := Option.some.inj (hoj'.symm.trans hj)
          exact absurd hon (hno e he hb)
        · obtain ⟨o2, ho2', e, he, hb, hon⟩ := Region.waitsFor_spec h
          obtain rfl : o2 = o' := Option.some.inj (ho2'.symm.trans ho2)
          have := hready e he hb
          rw [hon, getD_both hun] at this
          cases this
        · exact h
      · rw [hd]
        exact ih _ _ _ (by omega) I'
    obtain ⟨i0, hi0, hun0, hi0L⟩ := hall
    refine ⟨fun hnil => ?_, fun i hi => ?_⟩
    · rw [hnil] at hkr
      cases hkr
    · have hin : i < n := by
        rcases S.tail with ht | ⟨hs, hc⟩
        · obtain ⟨_, o, ho, _⟩ := mem_ready.1 hi
          have := (Array.getElem?_eq_some_iff.1 ho).1
          simp at this
          omega
        · by_cases hn : n < l.length
          · by_cases h : i < n
            · exact h
            · exact absurd hi (head_first hs hc I.head I.early _ i0 rfl hi0 hi0L hun0 i (by omega))
          · obtain ⟨_, o, ho, _⟩ := mem_ready.1 hi
            have := (Array.getElem?_eq_some_iff.1 ho).1
            simp at this
            omega
      obtain ⟨o, ho, hg, hd, _, _⟩ := S.op i hin
      have ho2 : l.toArray[i]? = some o := by simpa using ho
      have hspec := opsOk_get (l.take n) 0 js hop i o (by rw [List.getElem?_take_of_lt hin]; exact ho)
      rw [Nat.zero_add] at hspec
      have hgv := hspec a.eval w (fun _ => rfl) (fun _ => rfl) (fun t ht => by simp only [Act.eval, Array.getD_eq_getD_getElem?, I.other t ht]) I.below (I.facts S hi hin)
      unfold wpOp
      simp only [ho2, wanted_none hg, if_true]
      refine .inl (wp_of_gives hgv fun v w' ⟨hv, hb⟩ => ?_)
      obtain ⟨hc', I'⟩ := I.put S hsz hΨ hi hin v w' hv hb
      rw [hd]
      exact ih _ _ _ (by omega) I'

/-- **a region that draws its order, by a table** -/
theorem wp_region_table {id : Nat} (n : Nat) (D : List Tmp) (js : List (List (Nat × Tmp))) (Ψ : Nat → Value → World → Prop) (hm : P.follows .mixedOrders = true) (hB : tableB l n a0.tmps.size D js [] [] = true)
    (hΨ : ∀ i v w w', Ψ i v w → Below w.heap.size w w' → Ψ i v w') (hop : opsOk P D a0 W0 Ψ 0 js (l.take n))
    (hend : ∀ (x : Nat → Value) (w : World), Below W0.heap.size W0 w → (∀ i, i < n → Ψ i (x i) w) → wpList P l.toArray Q (l.drop n) (putAll D x n a0) w) :
    (Code.region id l.toArray true).wp P Q a0 W0 := by
  have S := tableB_spec hB
  refine wp_region_any hm ?_
  have h := mid_any S rfl hΨ hop (fun _ h => by cases h) (fun _ h => by cases h) hend ((List.range n).countP (fun i => !(Array.replicate l.length false).getD i true)) (Array.replicate l.length false) a0 { W0 with drawn := W0.drawn + 1 } rfl
    ⟨⟨by simp, fun j oj _ hl => (by rw [getD_replicate_false] at hl; cases hl), fun t _ ht => getD_in (by simpa using ht) (getD_replicate_false _ _)⟩, (Below.refl _ W0).drew, rfl, rfl, fun _ _ => rfl, fun _ h => (by cases h), fun i _ hl => (by rw [getD_replicate_false] at hl; cases hl)⟩
  have hc : (List.range n).countP (fun i => !(Array.replicate l.length false).getD i true) = n := by
    rw [List.countP_eq_length.2]
    · simp
    · intro i hi
      have hi' : i < l.length := Nat.lt_of_lt_of_le (List.mem_range.1 hi) S.le
      simp [hi']
  rw [hc, show n + (l.length - n) = l.toArray.size by have := S.le; simp; omega] at h
  simpa using h
/-- a post that leaves no panic -/
def Calm (Q : Exit → Act → World → Prop) : Exit → Act → World → Prop
  | .panic _, _, _ => False
  | e, a, w => Q e a w
theorem Calm.intro {Q : Exit → Act → World → Prop} {a : Act} {w : World} (h : Q .normal a w) : Calm Q .normal a w := h
theorem Calm.imp {Q : Exit → Act → World → Prop} : ∀ (e : Exit) (a : Act) (w : World), Calm Q e a w → Q e a w := fun e a w h => by
  cases e <;> first | exact h | exact (h : False).elim
/-- the same, where some operations that yield in whatever world may be late ('L': they need not come up ahead of the tail) -/
theorem wp_region_late {id : Nat} (n : Nat) (D : List Tmp) (js : List (List (Nat × Tmp))) (L : List Nat) (Ψ : Nat → Value → World → Prop) (hm : P.follows .mixedOrders = true) (hB : tableB l n a0.tmps.size D js [] L = true)
    (hΨ : ∀ i v w w', Ψ i v w → Below w.heap.size w w' → Ψ i v w') (hop : opsOk P D a0 W0 Ψ 0 js (l.take n)) (hlate : ∀ i ∈ L, i < n → ∀ o, l[i]? = some o → lateOk P D a0 W0 Ψ i (js.getD i []) o)
    (hend : ∀ (x : Nat → Value) (w : World), Below W0.heap.size W0 w → (∀ i, i < n → Ψ i (x i) w) → wpList P l.toArray (Calm Q) (l.drop n) (putAll D x n a0) w) :
    (Code.region id l.toArray true).wp P Q a0 W0 := by
  have S := tableB_spec hB
  refine Code.wp_mono Calm.imp (wp_region_any (Q := Calm Q) hm ?_)
  have h := mid_any S rfl hΨ hop (fun _ _ _ _ _ _ _ h => h.elim) hlate hend ((List.range n).countP (fun i => !(Array.replicate l.length false).getD i true)) (Array.replicate l.length false) a0 { W0 with drawn := W0.drawn + 1 } rfl
    ⟨⟨by simp, fun j oj _ hl => (by rw [getD_replicate_false] at hl; cases hl), fun t _ ht => getD_in (by simpa using ht) (getD_replicate_false _ _)⟩, (Below.refl _ W0).drew, rfl, rfl, fun _ _ => rfl, fun _ h => (by cases h), fun i _ hl => (by rw [getD_replicate_false] at hl; cases hl)⟩
  have hc : (List.range n).countP (fun i => !(Array.replicate l.length false).getD i true) = n := by
    rw [List.countP_eq_length.2]
    · simp
    · intro i hi
      have hi' : i < l.length := Nat.lt_of_lt_of_le (List.mem_range.1 hi) S.le
      simp [hi']
  rw [hc, show n + (l.length - n) = l.toArray.size by have := S.le; simp; omega] at h
  simpa using h
def earlyB (l : List Oper) (n : Nat) (E : List Nat) : Bool :=
  decide (E.Nodup) && E.all (fun i => decide (i < n)) && E.all (fun i => match l[i]? with
    | some o => o.after.all (fun e => !Region.binds .any e || decide (e.on ∈ E))
    | none => true)
theorem earlyB_spec {E : List Nat} (h : earlyB l n E = true) : E.Nodup ∧ (∀ i ∈ E, i < n) ∧ ∀ i ∈ E, ∀ o, l[i]? = some o → ∀ e ∈ o.after, Region.binds .any e = true → e.on ∈ E := by
  simp only [earlyB, Bool.and_eq_true, decide_eq_true_eq, List.all_eq_true] at h
  refine ⟨h.1.1, h.1.2, fun i hi o ho e he hb => ?_⟩
  have := h.2 i hi
  rw [ho] at this
  simp only [Array.all_eq_true_iff_forall_mem, Bool.or_eq_true, Bool.not_eq_true', decide_eq_true_eq] at this
  exact (this e he).resolve_left (by simp [hb])
/-- the same, where some operations that yield in whatever world have been taken first ('E': their numbers; 'ep': which of the region's operations have come up) -/
theorem wpAny_table (n : Nat) (D : List Tmp) (js : List (List (Nat × Tmp))) (E : List Nat) (Ψ : Nat → Value → World → Prop) (hB : tableB l n a0.tmps.size D js E [] = true) {listed : Array Bool}
    (hl : listed = ((List.range l.length).map (fun i => decide (i ∈ E))).toArray) (hE0 : earlyB l n E = true)
    (hh : ∀ i ∈ E, Ψ i (a0.eval (.tmp (D.getD i 0))) W0) {fuel : Nat} (hf : fuel + E.length = l.length)
    (hΨ : ∀ i v w w', Ψ i v w → Below w.heap.size w w' → Ψ i v w') (hop : opsOk P D a0 W0 Ψ 0 js (l.take n))
    (hend : ∀ (x : Nat → Value) (w : World), Below W0.heap.size W0 w → (∀ i, i < n → Ψ i (x i) w) → wpList P l.toArray Q (l.drop n) (putAll D x n a0) w) :
    wpAny P .any l.toArray Q fuel listed a0 W0 := by
  have S := tableB_spec hB
  have hE := earlyB_spec hE0
  have hle := S.le
  have hsz : listed.size = l.length := by rw [hl]; simp
  have hat : ∀ i, i < l.length → ∀ d, listed.getD i d = decide (i ∈ E) := fun i hi d => by rw [hl]; simp [hi]
  have hc : (List.range n).countP (fun i => !listed.getD i true) = n - E.length := by
    have h1 : (List.range n).countP (fun i => !listed.getD i true) = (List.range n).countP (fun i => !decide (i ∈ E)) := List.countP_congr fun i hi => by
      rw [hat i (by have := List.mem_range.1 hi; omega)]
    have h2 := List.length_eq_countP_add_countP (p := fun i => decide (i ∈ E)) (l := List.range n)
    have h3 : (List.range n).countP (fun i => decide (i ∈ E)) = E.length := by
      rw [List.countP_eq_length_filter]
      refine (List.Perm.length_eq ?_)
      refine (List.perm_ext_iff_of_nodup (List.Nodup.sublist List.filter_sublist List.nodup_range) hE.1).2 fun i => ?_
      simp only [List.mem_filter, List.mem_range, decide_eq_true_eq]
      exact ⟨fun h => h.2, fun h => ⟨hE.2.1 i h, h⟩⟩
    have h4 : (List.range n).countP (fun i => !decide (i ∈ E)) = (List.range n).countP (fun i => decide ¬ (decide (i ∈ E) = true)) := List.countP_congr fun i _ => by simp
    rw [List.length_range] at h2
    rw [h1, h4]
    omega
  have hlen : E.length ≤ n := by
    have := List.countP_le_length (p := fun i => decide (i ∈ E)) (l := List.range n)
    have h3 : (List.range n).countP (fun i => decide (i ∈ E)) = E.length := by
      rw [List.countP_eq_length_filter]
      refine (List.Perm.length_eq ?_)
      refine (List.perm_ext_iff_of_nodup (List.Nodup.sublist List.filter_sublist List.nodup_range) hE.1).2 fun i => ?_
      simp only [List.mem_filter, List.mem_range, decide_eq_true_eq]
      exact ⟨fun h => h.2, fun h => ⟨hE.2.1 i h, h⟩⟩
    rw [h3, List.length_range] at this
    exact this
  have h := mid_any S rfl hΨ hop (fun _ h => by cases h) (fun _ h => by cases h) hend (n - E.length) listed a0 W0 hc
    ⟨⟨by simpa using hsz, fun j oj hj hlj e he hb => by
        have hjl : j < l.length := by have := (Array.getElem?_eq_some_iff.1 hj).1; simpa using this
        rw [hat j hjl] at hlj
        have hm := hE.2.2 j (by simpa using hlj) oj (by simpa using hj) e he hb
        rw [hat e.on (by have := hE.2.1 _ hm; omega)]
        simpa using hm, fun t ht htl => by
        rw [hat t (by simpa using htl)]
        simp only [decide_eq_false_iff_not]
        intro hm
        have := hE.2.1 t hm
        omega⟩, Below.refl _ _, rfl, rfl, fun _ _ => rfl, fun i hi => by
        rw [hat i (by have := hE.2.1 i hi; omega)]; simpa using hi, fun i hi hli => by
        rw [hat i (by omega)] at hli
        exact hh i (by simpa using hli)⟩
  rw [show n - E.length + (l.length - n) = fuel by omega] at h
  exact h
end

/-- an operation that yields in whatever world is taken first -/
theorem wpAny_early {P : Program} {md : Region.Mode} {ops : Array Oper} {Q : Exit → Act → World → Prop} (i : Nat) (d : Tmp) (v : Value) {fuel : Nat} {listed : Array Bool} {a : Act} {w : World}
    (hs : Region.noSelect ops = true) (hf : Region.free md ops listed i = true) (hr : (Region.ready md ops listed).contains i = true) (hQ : ∀ c a w, Q (.panic c) (a.put (some d) v) w → Q (.panic c) a w)
    (ho : (ops[i]?).map (·.dst) = some (some d)) (hy : ∀ o, ops[i]? = some o → Yields P ops o v a)
    (h : wpAny P md ops Q fuel (listed.setIfInBounds i true) (a.put (some d) v) w) : wpAny P md ops Q (fuel + 1) listed a w := by
  cases hi : ops[i]? with
  | none => rw [hi] at ho; cases ho
  | some o =>
    rw [hi] at ho
    have hd : o.dst = some d := by simpa using ho
    refine wpAny_take hi hs hf hr ?_ (hy o hi) ?_
    · rw [hd]; exact hQ
    · rw [hd]; exact h
/-- 'append(s, x...)' as one operation of such a region -/
theorem gives_app {P : Program} {o : Oper} {ρ : Operand → Value} {w : World} {R : Value → World → Prop} (s x : Operand) (t : TypeId) (ho : o.op = .call { callee := .builtin .append, args := #[s, x], argTypes := #[t, t] }) (base : Nat) (e : TypeId)
    (z : Value) (size bytes : Nat) (ht : P.underlying t = some (.slice e)) (hi : (P.info? e).map (fun i => (i.zero, i.size, i.bytes)) = some (some z, size, bytes)) (hzs : z.cells.size = size) (hsz : 0 < size) (v : Value) (n : Nat) (xs : List Value) (hs : ρ s = v)
    (hown : w.ownsRow base e size v n xs) (ao : Option Addr) (m c : Nat) (news : List Value) (hx : ρ x = .slice ao m c) (hnone : ao = none → m = 0 ∧ c = 0) (hl : news.length = m * size)
    (hnews : ∀ ad, ao = some ad → ∀ (j : Nat) (u : Value), news[j]? = some u → w.cell? (ad.add j) = some u) (h1 : ∀ u, u ∈ news → u.oneCell' = true) (h63 : n + m ≤ maxLen) (hbytes : (n + m) * bytes ≤ 140737488355328) (hbase : base ≤ w.heap.size)
    (h : ∀ (v' : Value) (w' : World), w'.ownsRow base e size v' (n + m) (xs ++ news) → Below base w w' → w.grownBy w' v.ownBlock → R v' w') : gives P o ρ w R := by
  obtain ⟨i0, hi0, hz0, hz1, hz2⟩ := info_parts hi
  cases ao with
  | none =>
    obtain ⟨rfl, rfl⟩ := hnone rfl
    have hn : news = [] := List.eq_nil_of_length_eq_zero (by simpa using hl)
    subst hn
    have hr := run_append_owned_none (P := P) w base t o.type e i0 size ht hi0 v n xs hown
    unfold gives execOp
    simp only [ho, resolve, invoke, builtin, Sem.run_bind, Sem.run_pure, Result.andThen_ok, List.map_toArray, List.map_cons, List.map_nil, hs, hx, hr]
    exact h v w (by simpa using hown) (Below.refl _ _) (World.grownBy.refl _ _)
  | some ad =>
    obtain ⟨v', w', hr, h2, h3, _⟩ := run_append_own (P := P) w base t o.type e i0 z size bytes ht hi0 hz0 hz1 hz2 hzs hsz v n xs hown ad m c news hl (hnews ad rfl) h1 h63 hbytes hbase
    unfold gives execOp
    simp only [ho, resolve, invoke, builtin, Sem.run_bind, Sem.run_pure, Result.andThen_ok, List.map_toArray, List.map_cons, List.map_nil, hs, hx, hr]
    exact h v' w' h2 ((Below.refl _ _).grown h3 hbase (fun k hk => (hown.lt k hk).1)) h3
theorem gives_app_ints {P : Program} {o : Oper} {ρ : Operand → Value} {w : World} {R : Value → World → Prop} (s x : Operand) (t : TypeId) (ho : o.op = .call { callee := .builtin .append, args := #[s, x], argTypes := #[t, t] }) (base : Nat) (e : TypeId) (k : IntKind)
    (bytes : Nat) (ht : P.underlying t = some (.slice e)) (hi : (P.info? e).map (fun i => (i.zero, i.size, i.bytes)) = some (some (.int k 0), 1, bytes)) (v : Value) (n : Nat) (xs : List Int) (hs : ρ s = v)
    (hown : w.ownsRow base e 1 v n (xs.map (Value.int k))) (x' : Value) (ys : List Int) (hx : ρ x = x') (hsrc : Sl k w x' ys) (hlen : (xs.length + ys.length) * bytes ≤ 140737488355328) (hm : xs.length + ys.length ≤ maxLen) (hbase : base ≤ w.heap.size)
    (h : ∀ (v' : Value) (w' : World), w'.ownsRow base e 1 v' (xs.length + ys.length) ((xs ++ ys).map (Value.int k)) → Below base w w' → w.grownBy w' v.ownBlock → R v' w') : gives P o ρ w R := by
  have hn : n = xs.length := by have := hown.1; simpa using this.symm
  subst hn
  obtain ⟨ao, c, e', _⟩ := id hsrc
  subst e'
  refine gives_app s x t ho base e (.int k 0) 1 bytes ht hi rfl (by decide) v xs.length (xs.map (Value.int k)) hs hown ao ys.length c (ys.map (Value.int k)) hx ?_ (by simp) ?_ (ints_oneCell _ _) hm hlen hbase ?_
  · intro h0; subst h0; exact hsrc.bare
  · intro ad h0; subst h0
    by_cases h0 : 0 < ys.length
    · obtain ⟨ad', e', hc⟩ := hsrc.cells h0
      cases e'
      exact hc
    · intro j u hj
      obtain rfl : ys = [] := List.eq_nil_of_length_eq_zero (by omega)
      simp at hj
  · intro v' w' hown' hb hg
    exact h v' w' (by simpa using hown') hb hg

/-- two worlds in which an empty row is owned at one block differ by nothing there -/
theorem empty_same {w w' : World} {base g : Nat} {e : TypeId} (h : w.ownsRow base e 1 (.slice (some ⟨g, 0, none⟩) 0 0) 0 []) (h' : w'.ownsRow base e 1 (.slice (some ⟨g, 0, none⟩) 0 0) 0 []) : w'.heap[g]? = w.heap[g]? := by
  have k := own_block h
  have k' := own_block h'
  rw [k, k']
/-- 'append([]T{}, x...)' as one operation of such a region: the empty literal has just been made -/
theorem gives_fresh_ints {P : Program} {o : Oper} {ρ : Operand → Value} {w : World} {R : Value → World → Prop} (s x : Operand) (t : TypeId) (ho : o.op = .call { callee := .builtin .append, args := #[s, x], argTypes := #[t, t] }) (base : Nat) (e : TypeId) (k : IntKind)
    (bytes : Nat) (ht : P.underlying t = some (.slice e)) (hi : (P.info? e).map (fun i => (i.zero, i.size, i.bytes)) = some (some (.int k 0), 1, bytes)) (g : Nat) (hs : ρ s = .slice (some ⟨g, 0, none⟩) 0 0)
    (hown : w.ownsRow base e 1 (.slice (some ⟨g, 0, none⟩) 0 0) 0 []) (x' : Value) (ys : List Int) (hx : ρ x = x') (hsrc : Sl k w x' ys) (hlen : ys.length * bytes ≤ 140737488355328) (hm : ys.length ≤ maxLen) (hbase : base ≤ w.heap.size)
    (h : ∀ (v' : Value) (w' : World), w'.ownsRow base e 1 v' ys.length (ys.map (Value.int k)) → Below w.heap.size w w' → R v' w') : gives P o ρ w R := by
  obtain ⟨i0, hi0, hz0, hz1, hz2⟩ := info_parts hi
  obtain ⟨ao, c, e', _⟩ := id hsrc
  subst e'
  have run : ∀ v' w', (Builtin.append_ #[t, t] o.type #[.slice (some ⟨g, 0, none⟩) 0 0, .slice ao ys.length c]).run P w = .ok v' w' → R v' w' → gives P o ρ w R := fun v' w' hr hR => by
    unfold gives execOp
    simp only [ho, resolve, invoke, builtin, Sem.run_bind, Sem.run_pure, Result.andThen_ok, List.map_toArray, List.map_cons, List.map_nil, hs, hx, hr]
    exact hR
  by_cases h0 : ys.length = 0
  · obtain rfl : ys = [] := List.eq_nil_of_length_eq_zero h0
    cases ao with
    | none =>
      have hc := hsrc.bare.2
      subst hc
      exact run _ _ (run_append_owned_none (P := P) w base t o.type e i0 1 ht hi0 _ 0 [] hown) (h _ _ (by simpa using hown) (Below.refl _ _))
    | some ad =>
      obtain ⟨w', hr, h2, h3⟩ := run_append_fits (P := P) w base t o.type e i0 1 ht hi0 hz1 g 0 0 [] hown ad 0 c [] rfl (by simp) (by simp) (by omega)
      refine run _ _ hr (h _ _ (by simpa using h2) ⟨h3.os, h3.tape, h3.output, h3.size, fun k hk => ?_⟩)
      by_cases hkg : k = g
      · subst hkg; exact empty_same hown (by simpa using h2)
      · exact h3.block k hk (fun e => hkg (Option.some.inj e))
  · obtain ⟨ad, rfl, hsc⟩ := hsrc.cells (by omega)
    obtain ⟨v', w', hr, h2, h3⟩ := run_append_arg_grows (P := P) w t o.type e i0 (.int k 0) 1 bytes ht hi0 hz0 hz1 hz2 rfl (by decide) ⟨g, 0, none⟩ 0 0 [] rfl (by simp) ad ys.length c (ys.map (Value.int k)) (by simp) hsc (by omega) (by omega) (by simpa using hlen)
    exact run _ _ hr (h _ _ (by simpa using owned_mono h2 hbase) ((Below.refl _ _).grown h3 (Nat.le_refl _) (fun k hk => by cases hk)))

end Go.Proofs.Ytnoegbdmjinfjaa

/-
  Rows that a call owns, of elements of several cells each; slices of such. No function of the program is named here.
-/
namespace Go.Proofs.Ytnoegbdmjinfjaa
open Go.RowKit

section
variable {α : Type} {c : α → List Value} {size : Nat}
def flatC (c : α → List Value) (xs : List α) : List Value := xs.flatMap c
theorem flatC_append (a b : List α) : flatC c (a ++ b) = flatC c a ++ flatC c b := by simp [flatC]
theorem flatC_one (x : α) : flatC c [x] = c x := by simp [flatC]
theorem flatC_length (hc : ∀ x, (c x).length = size) : ∀ xs : List α, (flatC c xs).length = xs.length * size
  | [] => by simp [flatC]
  | x :: r => by
    have := flatC_length hc r
    rw [show flatC c (x :: r) = c x ++ flatC c r from by simp [flatC], List.length_append, this, hc, List.length_cons, Nat.add_mul, Nat.one_mul, Nat.add_comm]
theorem flatC_at (hc : ∀ x, (c x).length = size) : ∀ (xs : List α) (i : Nat) (x : α), xs[i]? = some x → ∀ j, j < size → (flatC c xs)[i * size + j]? = (c x)[j]?
  | [], i, x, h, _, _ => by simp at h
  | y :: r, 0, x, h, j, hj => by
    have e : y = x := by simpa using h
    subst e
    rw [show flatC c (y :: r) = c y ++ flatC c r from by simp [flatC], Nat.zero_mul, Nat.zero_add, List.getElem?_append_left (by rw [hc]; exact hj)]
  | y :: r, i + 1, x, h, j, hj => by
    have := flatC_at hc r i x (by simpa using h) j hj
    rw [show flatC c (y :: r) = c y ++ flatC c r from by simp [flatC], show (i + 1) * size + j = (c y).length + (i * size + j) by rw [hc, Nat.add_mul, Nat.one_mul]; omega, List.getElem?_append_right (by omega), Nat.add_sub_cancel_left, this]
/-- v owns a row of these, from block base on -/
def RowC (c : α → List Value) (size : Nat) (w : World) (base : Nat) (e : TypeId) (v : Value) (xs : List α) : Prop := w.ownsRow base e size v xs.length (flatC c xs)
theorem RowC.nil (w : World) (base : Nat) (e : TypeId) : RowC c size w base e (.slice none 0 0) [] := World.ownsRow_nil _ _ _ _
theorem RowC.lt {w : World} {base : Nat} {e : TypeId} {v : Value} {xs : List α} (h : RowC c size w base e v xs) : ∀ k, v.ownBlock = some k → base ≤ k ∧ k < w.heap.size := World.ownsRow.lt h
theorem RowC.mono {w : World} {base base' : Nat} {e : TypeId} {v : Value} {xs : List α} (h : RowC c size w base e v xs) (hb : base' ≤ base) : RowC c size w base' e v xs := owned_mono h hb
theorem RowC.shape {w : World} {base : Nat} {e : TypeId} {v : Value} {xs : List α} (h : RowC c size w base e v xs) : ∃ a cap, v = .slice a xs.length cap := by
  rcases h.2 with ⟨e, h0⟩ | ⟨g, cap, cur, e, _⟩
  · exact ⟨none, 0, by rw [e, h0]⟩
  · exact ⟨_, _, e⟩
theorem RowC.of_block {w w' : World} {base : Nat} {e : TypeId} {v : Value} {xs : List α} (h : RowC c size w base e v xs) (hb : ∀ g, v.ownBlock = some g → w'.heap[g]? = w.heap[g]?) : RowC c size w' base e v xs := by
  refine ⟨h.1, h.2.imp_right ?_⟩
  rintro ⟨g, cap, cur, e1, h1, h2, h3⟩
  exact ⟨g, cap, cur, e1, h1, (hb g (by rw [e1]; rfl)).trans h2, h3⟩
theorem RowC.below {w w' : World} {base : Nat} {e : TypeId} {v : Value} {xs : List α} (h : RowC c size w base e v xs) (hb : Below w.heap.size w w') : RowC c size w' base e v xs := h.of_block fun g hg => hb.block g (h.lt g hg).2
theorem RowC.len {w : World} {base : Nat} {e : TypeId} {v : Value} {xs : List α} (h : RowC c size w base e v xs) : xs.length ≤ maxLen := by
  rcases h.2 with ⟨_, h0⟩ | ⟨g, cap, cur, _, _, _, h1, h2, _⟩
  · rw [h0]; exact Nat.zero_le _
  · exact Nat.le_trans h1 h2
/-- a slice of such, that is read -/
def SlC (c : α → List Value) (size : Nat) (w : World) (v : Value) (xs : List α) : Prop :=
  ∃ a cap, v = .slice a xs.length cap ∧ xs.length ≤ cap ∧ cap ≤ maxLen ∧
    ((xs.length = 0 ∧ (a = none → cap = 0)) ∨ ∃ b off, a = some ⟨b, off, none⟩ ∧ b < w.heap.size ∧ ∀ i x, xs[i]? = some x → ∀ j, j < size → w.cell? ⟨b, off + i * size + j, none⟩ = (c x)[j]?)
theorem SlC.below {w w' : World} {v : Value} {xs : List α} (h : SlC c size w v xs) (hb : Below w.heap.size w w') : SlC c size w' v xs := by
  obtain ⟨a, cap, rfl, h2, h3, h4⟩ := h
  refine ⟨a, cap, rfl, h2, h3, h4.imp_right ?_⟩
  rintro ⟨b, off, rfl, hl, hc⟩
  exact ⟨b, off, rfl, Nat.lt_of_lt_of_le hl hb.size, fun i x hi j hj => (hb.cell (p := ⟨b, off + i * size + j, none⟩) hl).trans (hc i x hi j hj)⟩
theorem SlC.shape {w : World} {v : Value} {xs : List α} (h : SlC c size w v xs) : ∃ a cap, v = .slice a xs.length cap ∧ xs.length ≤ cap ∧ cap ≤ maxLen := by
  obtain ⟨a, cap, e, h1, h2, _⟩ := h; exact ⟨a, cap, e, h1, h2⟩
theorem SlC.nil (w : World) : SlC c size w (.slice none 0 0) [] := ⟨none, 0, rfl, Nat.le_refl _, by simp, .inl ⟨rfl, fun _ => rfl⟩⟩
theorem SlC.at_ {w : World} {a : Option Addr} {n cap : Nat} {xs : List α} (h : SlC c size w (.slice a n cap) xs) {i : Nat} (hi : i < xs.length) :
    ∃ b off, a = some ⟨b, off, none⟩ ∧ b < w.heap.size ∧ ∀ x, xs[i]? = some x → ∀ j, j < size → w.cell? ⟨b, off + i * size + j, none⟩ = (c x)[j]? := by
  obtain ⟨a', cap', e, _, _, h3⟩ := h
  simp only [Value.slice.injEq] at e
  obtain ⟨rfl, rfl, rfl⟩ := e
  rcases h3 with ⟨h3, _⟩ | ⟨b, off, rfl, hb, hc⟩
  · omega
  · exact ⟨b, off, rfl, hb, hc i⟩
theorem RowC.toSl (hc : ∀ x, (c x).length = size) {w : World} {base : Nat} {e : TypeId} {v : Value} {xs : List α} (h : RowC c size w base e v xs) : SlC c size w v xs := by
  have h' := h
  obtain ⟨h1, h2⟩ := h
  rcases h2 with ⟨rfl, h3⟩ | ⟨g, cap, cur, rfl, hg, hblk, hnc, hcm, hcs, htake⟩
  · refine ⟨none, 0, by rw [h3], by omega, by simp, .inl ⟨h3, fun _ => rfl⟩⟩
  · refine ⟨some ⟨g, 0, none⟩, cap, rfl, hnc, hcm, .inr ⟨g, 0, rfl, (h'.lt g rfl).2, fun i x hi j hj => ?_⟩⟩
    have hil : i < xs.length := (List.getElem?_eq_some_iff.1 hi).1
    rw [Nat.zero_add, World.ownsRow.cellAt h' (i * size + j) ?_, flatC_at hc xs i x hi j hj]
    have : i * size + j < (i + 1) * size := by rw [Nat.add_mul, Nat.one_mul]; omega
    exact Nat.lt_of_lt_of_le this (Nat.mul_le_mul_right _ hil)
/-- where the new row lies: in the old one's block, or in a new one -/
def Hence (w : World) (v v' : Value) : Prop := ∀ g, v'.ownBlock = some g → v.ownBlock = some g ∨ w.heap.size ≤ g
/-- append of a row's elements, in a region that draws -/
theorem gives_rowC {P : Program} {o : Oper} {ρ : Operand → Value} {w : World} {R : Value → World → Prop} (s x : Operand) (t : TypeId) (ho : o.op = .call { callee := .builtin .append, args := #[s, x], argTypes := #[t, t] }) (base : Nat) (e : TypeId)
    (z : Value) (bytes : Nat) (ht : P.underlying t = some (.slice e)) (hi : (P.info? e).map (fun i => (i.zero, i.size, i.bytes)) = some (some z, size, bytes)) (hzs : z.cells.size = size) (hsz : 0 < size) (v : Value) (xs : List α) (hs : ρ s = v)
    (hc : ∀ x, (c x).length = size) (h1 : ∀ x, ∀ u ∈ c x, u.oneCell' = true)
    (hown : RowC c size w base e v xs) (ad : Addr) (m k : Nat) (news : List α) (hm : m = news.length) (hx : ρ x = .slice (some ad) m k)
    (hnews : ∀ (j : Nat) (u : Value), (flatC c news)[j]? = some u → w.cell? (ad.add j) = some u) (h63 : xs.length + m ≤ maxLen) (hbytes : (xs.length + m) * bytes ≤ 140737488355328) (hbase : base ≤ w.heap.size)
    (h : ∀ (v' : Value) (w' : World), RowC c size w' base e v' (xs ++ news) → w.grownBy w' v.ownBlock → Hence w v v' → R v' w') : gives P o ρ w R := by
  subst hm
  obtain ⟨i0, hi0, hz0, hz1, hz2⟩ := info_parts hi
  obtain ⟨v', w', hr, h2, h3, _, h5⟩ := run_append_own_at (P := P) w base t o.type e i0 z size bytes ht hi0 hz0 hz1 hz2 hzs hsz v xs.length (flatC c xs) hown ad news.length k (flatC c news) (flatC_length hc _) hnews (fun u hu => by
    simp only [flatC, List.mem_flatMap] at hu
    obtain ⟨x, _, hu⟩ := hu
    exact h1 x u hu) h63 hbytes hbase
  unfold gives execOp
  simp only [ho, resolve, invoke, builtin, Sem.run_bind, Sem.run_pure, Result.andThen_ok, List.map_toArray, List.map_cons, List.map_nil, hs, hx, hr]
  refine h v' w' ?_ h3 (fun g hg => ?_)
  · unfold RowC
    rw [List.length_append, flatC_append]
    exact h2
  · rcases h5 with h5 | h5
    · exact .inl (h5 ▸ hg)
    · rw [h5] at hg
      exact .inr (by cases hg; exact Nat.le_refl _)
/-- .. and as a statement of its own -/
theorem app_rowC {P : Program} {Z : World} {ops : Array Oper} {rest : List Oper} {o : Oper} {a : Act} {Q : Exit → Act → World → Prop} (hgd : o.guard = none) (s x : Operand) (t : TypeId)
    (ho : o.op = .call { callee := .builtin .append, args := #[s, x], argTypes := #[t, t] }) (base : Nat) (e : TypeId) (z : Value) (bytes : Nat) (ht : P.underlying t = some (.slice e))
    (hi : (P.info? e).map (fun i => (i.zero, i.size, i.bytes)) = some (some z, size, bytes)) (hzs : z.cells.size = size) (hsz : 0 < size) (v : Value) (xs : List α) (hs : a.eval s = v)
    (hc : ∀ x, (c x).length = size) (h1 : ∀ x, ∀ u ∈ c x, u.oneCell' = true) (hr : RowC c size Z base e v xs) (ad : Addr) (m k : Nat) (news : List α) (hm : m = news.length) (hx : a.eval x = .slice (some ad) m k)
    (hnews : ∀ (j : Nat) (u : Value), (flatC c news)[j]? = some u → Z.cell? (ad.add j) = some u) (h63 : xs.length + m ≤ maxLen) (hbytes : (xs.length + m) * bytes ≤ 140737488355328) (hbase : base ≤ Z.heap.size)
    (h : ∀ (v' : Value) (Z' : World), RowC c size Z' base e v' (xs ++ news) → Z.grownBy Z' v.ownBlock → wpList P ops Q rest (a.put o.dst v') Z') : wpList P ops Q (o :: rest) a Z := by
  subst hm
  obtain ⟨i0, hi0, hz0, hz1, hz2⟩ := info_parts hi
  refine wpList_append_own_at Z hgd s x t ho base e i0 z size bytes ht hi0 hz0 hz1 hz2 hzs hsz v xs.length (flatC c xs) hs hr ad news.length k (flatC c news) hx (flatC_length hc _) hnews (fun u hu => by
    simp only [flatC, List.mem_flatMap] at hu
    obtain ⟨x, _, hu⟩ := hu
    exact h1 x u hu) h63 hbytes hbase ?_
  intro v' Z' hown hg _ _
  refine h v' Z' ?_ hg
  unfold RowC
  rw [List.length_append, flatC_append]
  exact hown
/-- one element in a block of its own, as append's source -/
theorem one_at {w : World} {g : Nat} {e : TypeId} {x : α} (h : w.heap[g]? = some (.cells (c x).toArray e (0, 0))) : ∀ (j : Nat) (u : Value), (flatC c [x])[j]? = some u → w.cell? ((⟨g, 0, none⟩ : Addr).add j) = some u := by
  intro j u hj
  rw [flatC_one] at hj
  rw [show (⟨g, 0, none⟩ : Addr).add j = ⟨g, j, none⟩ by simp [Go.WideShapes.add_plain]]
  exact blk_cell h (by simpa using hj)
/-- the block g holds these cells -/
def BlkAt (W : World) (g : Nat) (e : TypeId) (cs : Array Value) : Prop := W.heap[g]? = some (.cells cs e (0, 0))
theorem BlkAt.new (w : World) (e : TypeId) (cs : Array Value) : BlkAt (w.alloc (.cells cs e)) w.heap.size e cs := heap_alloc_new w _
theorem BlkAt.lt {W : World} {g : Nat} {e : TypeId} {cs : Array Value} (h : BlkAt W g e cs) : g < W.heap.size := (Array.getElem?_eq_some_iff.1 h).1
theorem BlkAt.grown {W W' : World} {g : Nat} {e : TypeId} {cs : Array Value} (h : BlkAt W g e cs) (hb : Below W.heap.size W W') : BlkAt W' g e cs := (hb.block g h.lt).trans h
theorem grownBy_of {w w' : World} {r : Option Nat} (h : Below w.heap.size w w') : w.grownBy w' r := ⟨h.os, h.tape, h.output, h.size, fun k hk _ => h.block k hk⟩
/-- what lies below the rows' base stays, whatever becomes of the row -/
theorem RowC.keeps {W Z Z' : World} {e : TypeId} {v : Value} {xs : List α} (hb : Below W.heap.size W Z) (hr : RowC c size Z W.heap.size e v xs) (hg : Z.grownBy Z' v.ownBlock) : Below W.heap.size W Z' :=
  hb.trans ⟨hg.os, hg.tape, hg.output, hg.size, fun k hk => hg.block k (Nat.lt_of_lt_of_le hk hb.size) (fun e => by have := (hr.lt k e.symm).1; omega)⟩
end
end Go.Proofs.Ytnoegbdmjinfjaa

/-
  Layer 20 as a machine: a sender's cap and streams by ids. It names the window's reference alone (growW).
-/
namespace Go.Proofs.Ytnoegbdmjinfjaa
open Go.RowKit

/-- a stream: its id, its window, its head, whether that waits, whether it was said, and the last, bytes -/
structure Sm where
  id : Int
  win : Int
  head : List Int
  waits : Bool
  said : Bool
  fin : Bool
  b : List Int
structure Sd where
  cap : Int
  l : List Sm
/-- a stream with the values of its head and bytes -/
structure SmV where
  x : Sm
  hv : Value
  bv : Value
def smC (y : SmV) : List Value := [.int .i64 y.x.id, .int .i64 y.x.win, y.hv, .bool y.x.waits, .bool y.x.said, .bool y.x.fin, y.bv]
theorem smC_len (y : SmV) : (smC y).length = 7 := rfl
def SlS (w : World) (v : Value) (ys : List SmV) : Prop := SlC smC 7 w v ys ∧ ∀ y ∈ ys, Sl .u8 w y.hv y.x.head ∧ Sl .u8 w y.bv y.x.b
theorem SlS.below {w w' : World} {v : Value} {ys : List SmV} (h : SlS w v ys) (hb : Below w.heap.size w w') : SlS w' v ys := ⟨h.1.below hb, fun y hy => ⟨(h.2 y hy).1.below hb, (h.2 y hy).2.below hb⟩⟩
def hasId (id : Int) (x : Sm) : Bool := x.id == id
def at20 (l : List Sm) (id : Int) : Int := if l.any (hasId id) then (l.findIdx (hasId id) : Int) else -1
def sumB (l : List Sm) : Nat := l.foldr (fun x n => x.b.length + n) 0
def sumH (l : List Sm) : Nat := l.foldr (fun x n => x.head.length + n) 0
theorem sumB_append (a b : List Sm) : sumB (a ++ b) = sumB a + sumB b := by
  induction a with
  | nil => simp [sumB]
  | cons x r ih => simp only [sumB, List.cons_append, List.foldr_cons] at ih ⊢; omega
theorem sumH_append (a b : List Sm) : sumH (a ++ b) = sumH a + sumH b := by
  induction a with
  | nil => simp [sumH]
  | cons x r ih => simp only [sumH, List.cons_append, List.foldr_cons] at ih ⊢; omega
theorem sumB_le (c : Nat) : ∀ l : List Sm, (∀ x ∈ l, x.b.length ≤ c) → sumB l ≤ l.length * c
  | [], _ => by simp [sumB]
  | x :: r, h => by
    have h1 := sumB_le c r (fun y hy => h y (List.mem_cons_of_mem _ hy))
    have h2 := h x List.mem_cons_self
    simp only [sumB, List.foldr_cons, List.length_cons, Nat.add_mul, Nat.one_mul] at h1 ⊢
    omega
theorem sumH_le (c : Nat) : ∀ l : List Sm, (∀ x ∈ l, x.head.length ≤ c) → sumH l ≤ l.length * c
  | [], _ => by simp [sumH]
  | x :: r, h => by
    have h1 := sumH_le c r (fun y hy => h y (List.mem_cons_of_mem _ hy))
    have h2 := h x List.mem_cons_self
    simp only [sumH, List.foldr_cons, List.length_cons, Nat.add_mul, Nat.one_mul] at h1 ⊢
    omega
theorem at20_no {l : List Sm} {id : Int} (h : l.any (hasId id) = false) : at20 l id = -1 := by simp [at20, h]
theorem at20_yes {l : List Sm} {id : Int} {k : Nat} {x : Sm} (h : (l.take k).any (hasId id) = false) (hx : l[k]? = some x) (he : hasId id x = true) : at20 l id = k := by
  have hl : k < l.length := (List.getElem?_eq_some_iff.1 hx).1
  have hm : l.any (hasId id) = true := List.any_eq_true.2 ⟨x, List.mem_of_getElem? hx, he⟩
  rw [at20, if_pos hm]
  congr 1
  rw [List.findIdx_eq hl]
  refine ⟨by rw [List.getElem?_eq_getElem hl] at hx; cases hx; exact he, fun j hj => ?_⟩
  have hjl : j < l.length := by omega
  by_cases e : hasId id l[j] = true
  · have : (l.take k).any (hasId id) = true := List.any_eq_true.2 ⟨l[j], by rw [List.mem_take_iff_getElem]; exact ⟨j, by omega, rfl⟩, e⟩
    rw [h] at this; cases this
  · simpa using e
theorem flatS_set {u : Value} : ∀ (ys : List SmV) (i : Nat) (y y' : SmV) (j : Nat), ys[i]? = some y → j < 7 → smC y' = (smC y).set j u → (flatC smC ys).set (i * 7 + j) u = flatC smC (ys.set i y')
  | [], i, _, _, _, h, _, _ => by simp at h
  | z :: r, 0, y, y', j, h, hj, e => by
    obtain rfl : z = y := by simpa using h
    simp only [flatC, List.flatMap_cons, List.set_cons_zero, Nat.zero_mul, Nat.zero_add]
    rw [List.set_append_left _ _ (by rw [smC_len]; exact hj), e]
  | z :: r, i + 1, y, y', j, h, hj, e => by
    have ih := flatS_set r i y y' j (by simpa using h) hj e
    simp only [flatC, List.flatMap_cons, List.set_cons_succ] at ih ⊢
    rw [List.set_append_right _ _ (by rw [smC_len]; omega), smC_len, show (i + 1) * 7 + j - 7 = i * 7 + j by omega, ih]
/-- where an id is, if it is -/
theorem at20_at {l : List Sm} {id : Int} (h : l.any (hasId id) = true) : ∃ k x, at20 l id = (k : Nat) ∧ l[k]? = some x ∧ x.id = id := by
  have hl : l.findIdx (hasId id) < l.length := List.findIdx_lt_length_of_exists (by simpa using h)
  refine ⟨_, l[l.findIdx (hasId id)], by rw [at20, if_pos h], List.getElem?_eq_getElem hl, ?_⟩
  have := List.findIdx_getElem (w := hl)
  simpa [hasId] using this
def growS (q : Sd) (k : Nat) (x : Sm) (n : Int) : Sd := { q with l := q.l.set k { x with win := (growW x.win n).1 } }
def okS (d : Int) (x : Sm) : Bool := (shiftW x.win d).2
def movS (d : Int) (x : Sm) : Sm := { x with win := (shiftW x.win d).1 }
def shiftN (l : List Sm) (d : Int) : Int := match l.find? (fun x => !okS d x) with | some x => x.id | none => 0
def shiftS (q : Sd) (d : Int) : Sd := if q.l.all (okS d) then { q with l := q.l.map (movS d) } else q
theorem shift_bad {q : Sd} {d : Int} {k : Nat} {x : Sm} (h : (q.l.take k).all (okS d) = true) (hx : q.l[k]? = some x) (hb : okS d x = false) : shiftN q.l d = x.id ∧ shiftS q d = q := by
  obtain ⟨hl, hxe⟩ := List.getElem?_eq_some_iff.1 hx
  have e : q.l = q.l.take k ++ x :: q.l.drop (k + 1) := by rw [← hxe, ← List.drop_eq_getElem_cons hl, List.take_append_drop]
  have h1 : (q.l.take k).find? (fun x => !okS d x) = none := List.find?_eq_none.2 (fun y hy => by simpa using List.all_eq_true.1 h y hy)
  refine ⟨?_, ?_⟩
  · rw [shiftN, e, List.find?_append, h1, Option.none_or, List.find?_cons_of_pos (by simp [hb])]
  · rw [shiftS, if_neg]
    intro ha
    rw [List.all_eq_true.1 ha x (List.mem_of_getElem? hx)] at hb
    cases hb
theorem shift_ok {q : Sd} {d : Int} (h : q.l.all (okS d) = true) : shiftN q.l d = 0 ∧ shiftS q d = { q with l := q.l.map (movS d) } := by
  refine ⟨?_, by rw [shiftS, if_pos h]⟩
  rw [shiftN, List.find?_eq_none.2 (fun y hy => by simpa using List.all_eq_true.1 h y hy)]
def movV (d : Int) (y : SmV) : SmV := ⟨movS d y.x, y.hv, y.bv⟩
/-- how far the second loop has come -/
def midV (d : Int) (ys : List SmV) (k : Nat) : List SmV := (ys.take k).map (movV d) ++ ys.drop k
theorem midV_zero (d : Int) (ys : List SmV) : midV d ys 0 = ys := by simp [midV]
theorem midV_all (d : Int) (ys : List SmV) : midV d ys ys.length = ys.map (movV d) := by simp [midV]
theorem midV_length (d : Int) (ys : List SmV) {k : Nat} (hk : k ≤ ys.length) : (midV d ys k).length = ys.length := by simp [midV]; omega
theorem midV_at {d : Int} {ys : List SmV} {k : Nat} {y : SmV} (hy : ys[k]? = some y) : (midV d ys k)[k]? = some y := by
  have hk := (List.getElem?_eq_some_iff.1 hy).1
  rw [midV, List.getElem?_append_right (by simp; omega)]
  simp only [List.length_map, List.length_take, Nat.min_eq_left (Nat.le_of_lt hk), Nat.sub_self, List.getElem?_drop, Nat.add_zero]
  exact hy
theorem midV_next {d : Int} {ys : List SmV} {k : Nat} {y : SmV} (hy : ys[k]? = some y) : (midV d ys k).set k (movV d y) = midV d ys (k + 1) := by
  obtain ⟨hk, he⟩ := List.getElem?_eq_some_iff.1 hy
  rw [midV, midV, List.set_append_right _ _ (by simp; omega), List.take_add_one, hy, List.map_append, List.append_assoc]
  congr 1
  rw [List.drop_eq_getElem_cons hk, he]
  simp [Nat.min_eq_left (Nat.le_of_lt hk)]
end Go.Proofs.Ytnoegbdmjinfjaa

/-
  'append' onto a full row of the call's own, in a region that draws its order: nothing that lay is turned. No program is named here.
-/
namespace Go.Proofs.Ytnoegbdmjinfjaa
open Go.RowKit

/-- 'append(s, x...)', s full: nothing that lay is turned -/
theorem gives_fresh_row {P : Program} {o : Oper} {ρ : Operand → Value} {w : World} {R : Value → World → Prop} (s x : Operand) (t : TypeId) (ho : o.op = .call { callee := .builtin .append, args := #[s, x], argTypes := #[t, t] }) (base : Nat) (e : TypeId)
    (z : Value) (size bytes : Nat) (ht : P.underlying t = some (.slice e)) (hi : (P.info? e).map (fun i => (i.zero, i.size, i.bytes)) = some (some z, size, bytes)) (hzs : z.cells.size = size) (hsz : 0 < size) (g n : Nat) (xs : List Value) (hs : ρ s = .slice (some ⟨g, 0, none⟩) n n)
    (hown : w.ownsRow base e size (.slice (some ⟨g, 0, none⟩) n n) n xs) (ao : Option Addr) (m c : Nat) (news : List Value) (hx : ρ x = .slice ao m c) (hnone : ao = none → m = 0 ∧ c = 0) (hl : news.length = m * size)
    (hnews : ∀ ad, ao = some ad → ∀ (j : Nat) (u : Value), news[j]? = some u → w.cell? (ad.add j) = some u) (h63 : n + m ≤ maxLen) (hbytes : (n + m) * bytes ≤ 140737488355328) (hbase : base ≤ w.heap.size)
    (h : ∀ (v' : Value) (w' : World), w'.ownsRow base e size v' (n + m) (xs ++ news) → Below w.heap.size w w' → R v' w') : gives P o ρ w R := by
  obtain ⟨i0, hi0, hz0, hz1, hz2⟩ := info_parts hi
  have run : ∀ v' w', (Builtin.append_ #[t, t] o.type #[.slice (some ⟨g, 0, none⟩) n n, .slice ao m c]).run P w = .ok v' w' → R v' w' → gives P o ρ w R := fun v' w' hr hR => by
    unfold gives execOp
    simp only [ho, resolve, invoke, builtin, Sem.run_bind, Sem.run_pure, Result.andThen_ok, List.map_toArray, List.map_cons, List.map_nil, hs, hx, hr]
    exact hR
  have same : news = [] → R (.slice (some ⟨g, 0, none⟩) n n) w := fun hn => h _ w (by
    have hm : m = 0 := by
      rw [hn, List.length_nil] at hl
      rcases Nat.mul_eq_zero.1 hl.symm with h | h
      · exact h
      · omega
    rw [hn, hm, List.append_nil]; exact hown) (Below.refl _ _)
  cases ao with
  | none =>
    obtain ⟨rfl, rfl⟩ := hnone rfl
    have hn : news = [] := List.eq_nil_of_length_eq_zero (by simpa using hl)
    exact run _ _ (run_append_owned_none (P := P) w base t o.type e i0 size ht hi0 _ n xs hown) (same hn)
  | some ad =>
    by_cases hm : m = 0
    · subst hm
      have hn : news = [] := List.eq_nil_of_length_eq_zero (by simpa using hl)
      obtain ⟨_, ⟨h0, _⟩ | ⟨g', cap', cur, h0, hbg, hg, hnc, hcm, hcs, htake⟩⟩ := id hown
      · simp at h0
      · simp only [Value.slice.injEq, Option.some.injEq, Addr.mk.injEq, and_true, true_and] at h0
        obtain ⟨rfl, rfl⟩ := h0
        have hr := run_append_room (P := P) w t o.type e i0 ht hi0 g n n cur hg ad 0 c [] (by simp) (by simp) (by simp) (by omega) (by rw [hcs, hz1]; simp)
        simp only [List.append_nil, List.length_nil, Nat.add_zero, List.take_append_drop, Array.toArray_toList] at hr
        rw [setRow_self w g cur e (0, 0) hg] at hr
        exact run _ _ hr (same hn)
    · obtain ⟨v', w', hr, h2, h3⟩ := run_append_arg_grows (P := P) w t o.type e i0 z size bytes ht hi0 hz0 hz1 hz2 hzs hsz ⟨g, 0, none⟩ n n xs hown.1 (World.ownsRow.cells hown rfl) ad m c news hl (hnews ad rfl) (by omega) h63 hbytes
      exact run _ _ hr (h _ _ (owned_mono h2 hbase) ((Below.refl _ _).grown h3 (Nat.le_refl _) (fun k hk => by cases hk)))
end Go.Proofs.Ytnoegbdmjinfjaa

/-
  Rows that a call itself makes and appends to, as in XOwn, with where the result lies. No program is named here.
-/
namespace Go.Proofs.Ytnoegbdmjinfjaa
open Go.RowKit Go.Maps

/-- 'append(s, x...)': s a row of the call's own, x whatever; it may grow -/
theorem app_row_at {P : Program} {w : World} {ops : Array Oper} {rest : List Oper} {o : Oper} {a : Act} {Q : Exit → Act → World → Prop} (hgd : o.guard = none)
    (s x : Operand) (t : TypeId) (ho : o.op = .call { callee := .builtin .append, args := #[s, x], argTypes := #[t, t] }) (base : Nat) (e : TypeId) (i : TypeInfo)
    (z : Value) (size bytes : Nat) (ht : P.underlying t = some (.slice e)) (hi : P.info? e = some i) (hz : i.zero = some z) (hsize : i.size = size) (hby : i.bytes = bytes)
    (hzs : z.cells.size = size) (hsz : 0 < size) (v : Value) (n : Nat) (xs : List Value) (hs : a.eval s = v) (hown : w.ownsRow base e size v n xs) (ao : Option Addr) (m c : Nat) (news : List Value)
    (hx : a.eval x = .slice ao m c) (hnone : ao = none → m = 0 ∧ c = 0) (hl : news.length = m * size) (hnews : ∀ ad, ao = some ad → ∀ (j : Nat) (u : Value), news[j]? = some u → w.cell? (ad.add j) = some u)
    (h1 : ∀ u, u ∈ news → u.oneCell' = true) (h63 : n + m ≤ maxLen) (hbytes : (n + m) * bytes ≤ 140737488355328) (hbase : base ≤ w.heap.size)
    (h : ∀ (v' : Value) (w' : World), w'.ownsRow base e size v' (n + m) (xs ++ news) → Below base w w' → w.grownBy w' v.ownBlock → (v'.ownBlock = v.ownBlock ∨ v'.ownBlock = some w.heap.size) → wpList P ops Q rest (a.put o.dst v') w') : wpList P ops Q (o :: rest) a w := by
  cases ao with
  | none =>
    obtain ⟨rfl, rfl⟩ := hnone rfl
    have hn : news = [] := List.eq_nil_of_length_eq_zero (by simpa using hl)
    subst hn
    refine wpList_append_own_none hgd s x t ho base e i size ht hi _ n xs hs hown hx ?_
    exact h v w (by simpa using hown) (Below.refl _ _) (World.grownBy.refl _ _) (.inl rfl)
  | some ad =>
    refine wpList_append_own_at w hgd s x t ho base e i z size bytes ht hi hz hsize hby hzs hsz v n xs hs hown ad m c news hx hl (hnews ad rfl) h1 h63 hbytes hbase ?_
    intro v' w' hown' hgrow _ hat
    exact h v' w' hown' ((Below.refl _ _).grown hgrow hbase (fun k hk => (hown.lt k hk).1)) hgrow hat
/-- the same, of integers -/
theorem app_ints_at {P : Program} {w : World} {ops : Array Oper} {rest : List Oper} {o : Oper} {a : Act} {Q : Exit → Act → World → Prop} (hgd : o.guard = none)
    (s x : Operand) (t : TypeId) (ho : o.op = .call { callee := .builtin .append, args := #[s, x], argTypes := #[t, t] }) (base : Nat) (e : TypeId) (k : IntKind) (bytes : Nat) (ht : P.underlying t = some (.slice e))
    (hi : (P.info? e).map (fun i => (i.zero, i.size, i.bytes)) = some (some (.int k 0), 1, bytes)) (v : Value) (n : Nat) (xs : List Int) (hs : a.eval s = v) (hown : w.ownsRow base e 1 v n (xs.map (Value.int k))) (x' : Value) (ys : List Int)
    (hx : a.eval x = x') (hsrc : Sl k w x' ys) (hlen : (xs.length + ys.length) * bytes ≤ 140737488355328) (hm : xs.length + ys.length ≤ maxLen) (hbase : base ≤ w.heap.size)
    (h : ∀ (v' : Value) (w' : World), w'.ownsRow base e 1 v' (xs.length + ys.length) ((xs ++ ys).map (Value.int k)) → Below base w w' → w.grownBy w' v.ownBlock → (v'.ownBlock = v.ownBlock ∨ v'.ownBlock = some w.heap.size) → wpList P ops Q rest (a.put o.dst v') w') : wpList P ops Q (o :: rest) a w := by
  obtain ⟨i0, hi0, hz0, hz1, hz2⟩ := info_parts hi
  have hn : n = xs.length := by have := hown.1; simpa using this.symm
  subst hn
  obtain ⟨ao, c, e', _⟩ := id hsrc
  subst e'
  refine app_row_at hgd s x t ho base e i0 (.int k 0) 1 bytes ht hi0 hz0 hz1 hz2 rfl (by decide) v xs.length (xs.map (Value.int k)) hs hown ao ys.length c (ys.map (Value.int k)) hx ?_ (by simp) ?_ (ints_oneCell _ _) hm hlen hbase ?_
  · intro h0; subst h0; exact hsrc.bare
  · intro ad h0; subst h0
    by_cases h0 : 0 < ys.length
    · obtain ⟨ad', e', hc⟩ := hsrc.cells h0
      cases e'
      exact hc
    · intro j u hj
      obtain rfl : ys = [] := List.eq_nil_of_length_eq_zero (by omega)
      simp at hj
  · intro v' w' hown' hb hg hat
    exact h v' w' (by simpa using hown') hb hg hat

/-- the same, of frames that lie in another row of the call's own -/
theorem app_frames_at {P : Program} {w : World} {ops : Array Oper} {rest : List Oper} {o : Oper} {a : Act} {Q : Exit → Act → World → Prop} (hgd : o.guard = none)
    (s x : Operand) (t : TypeId) (ho : o.op = .call { callee := .builtin .append, args := #[s, x], argTypes := #[t, t] }) (base base2 : Nat) (e : TypeId) (ht : P.underlying t = some (.slice e))
    (hi : (P.info? e).map (fun i => (i.zero, i.size, i.bytes)) = some (some (.agg #[.int .i64 0, .int .i64 0, .int .i64 0, .slice none 0 0]), 4, 48)) (v : Value) (ps : List (Fr × Value)) (hs : a.eval s = v) (hown : w.ownsRow base e 4 v ps.length (flat ps)) (x' : Value) (qs : List (Fr × Value))
    (hx : a.eval x = x') (hsrc : w.ownsRow base2 e 4 x' qs.length (flat qs)) (hq : ∀ p ∈ qs, ∃ b n c, p.2 = .slice b n c) (hlen : ps.length + qs.length ≤ 1000000) (hbase : base ≤ w.heap.size)
    (h : ∀ (v' : Value) (w' : World), w'.ownsRow base e 4 v' (ps ++ qs).length (flat (ps ++ qs)) → Below base w w' → w.grownBy w' v.ownBlock → (v'.ownBlock = v.ownBlock ∨ v'.ownBlock = some w.heap.size) → wpList P ops Q rest (a.put o.dst v') w') : wpList P ops Q (o :: rest) a w := by
  obtain ⟨i0, hi0, hz0, hz1, hz2⟩ := info_parts hi
  obtain ⟨ao, c, e', hnone⟩ := owned_shape hsrc
  subst e'
  refine app_row_at hgd s x t ho base e i0 _ 4 48 ht hi0 hz0 hz1 hz2 rfl (by decide) v ps.length (flat ps) hs hown ao qs.length c (flat qs) hx hnone (flat_length qs) ?_ ?_ (by unfold maxLen; omega) (by omega) hbase ?_
  · intro ad h0 j u hj
    subst h0
    obtain ⟨_, ⟨h1, _⟩ | ⟨g, cap, cur, h1, _, _⟩⟩ := id hsrc
    · cases h1
    · simp only [Value.slice.injEq, Option.some.injEq] at h1
      obtain ⟨rfl, -, rfl⟩ := h1
      have hjl : j < (flat qs).length := (List.getElem?_eq_some_iff.1 hj).1
      rw [Go.WideShapes.add_plain, Nat.zero_add, hsrc.cellAt j (by rw [flat_length] at hjl; exact hjl)]
      exact hj
  · intro u hu
    simp only [flat, List.mem_flatMap] at hu
    obtain ⟨p, hp, hu⟩ := hu
    obtain ⟨b, n, c', e⟩ := hq p hp
    rw [e] at hu
    exact frCells_one p.1 u hu
  · intro v' w' hown' hb hg hat
    exact h v' w' (by rw [List.length_append, flat_append]; exact hown') hb hg hat
end Go.Proofs.Ytnoegbdmjinfjaa

/-
  Layer 19's reference: the queue, Push, Last (written by wip/tools/gen19.py).
-/
namespace Go.Proofs.Ytnoegbdmjinfjaa
set_option maxRecDepth 20000
open Go.RowKit

theorem Try.infoFr19 : (Try.prog.info? 34).map (fun i => (i.zero, i.size, i.bytes)) = some (some (.agg #[.int .i64 0, .int .i64 0, .int .i64 0, .slice none 0 0]), 4, 48) := by kernel_rfl
theorem empty_row19 {w : World} {base : Nat} (hb : base ≤ w.heap.size) : (w.alloc (.cells #[] 34)).ownsRow base 34 4 (.slice (some ⟨w.heap.size, 0, none⟩) 0 0) 0 [] :=
  ⟨rfl, .inr ⟨w.heap.size, 0, #[], rfl, hb, heap_alloc_new w _, Nat.le_refl _, by simp, rfl, rfl⟩⟩
theorem one_row19 {w : World} {base : Nat} (F : Fr) (pv : Value) (hb : base ≤ w.heap.size) : (w.alloc (.cells #[.int .i64 F.kind, .int .i64 F.flags, .int .i64 F.stream, pv] 34)).ownsRow base 34 4 (.slice (some ⟨w.heap.size, 0, none⟩) 1 1) 1 (flat [(F, pv)]) :=
  ⟨rfl, .inr ⟨w.heap.size, 1, _, rfl, hb, heap_alloc_new w _, Nat.le_refl _, by unfold maxLen; decide, rfl, rfl⟩⟩
section
variable {W W' : World} {R : Nat} {lv : Value} {ps : List (Fr × Value)} {q : Q19}
theorem turn_set19 {W : World} (T j : Nat) (u : Value) : Turn (fun k => k = T) W (W.setCell ⟨T, j, none⟩ u) := Turn.of_grown ⟨rfl, rfl, rfl, by simp [World.setCell], fun k _ hne => Below.heap_setCell _ _ _ _ (fun e => hne (by rw [show k = T from e]))⟩
end
theorem below_drop19 {w w' : World} {base R n : Nat} (h : Below base w w') (_hR : R < n) (hz : base ≤ n ∧ R < base) : w'.heap[R]? = w.heap[R]? := h.block R hz.2
/-- bytes that lay ahead of a number stay where only what lies from there on is turned -/
theorem Sl.later19 {k : IntKind} {w0 w w' : World} {v : Value} {zs : List Int} (h : Sl k w v zs) (h0 : Sl k w0 v zs) (hb : Below w0.heap.size w w') : Sl k w' v zs := by
  rcases h0.parts with ⟨rfl, _⟩ | ⟨hp, b, off, cap, rfl, hlc, hcm, hbl, _⟩
  · obtain ⟨a, c, rfl, h1, h2, h3, h4⟩ := h
    rcases h4 with ⟨_, h5⟩ | ⟨b, off, rfl, hl, _⟩
    · exact ⟨a, c, rfl, h1, h2, h3, .inl ⟨rfl, h5⟩⟩
    · exact ⟨_, c, rfl, h1, h2, h3, .inl ⟨rfl, fun e => by cases e⟩⟩
  · exact h.turn (S := fun k => w0.heap.size ≤ k) ⟨hb.os, hb.tape, hb.output, hb.size, fun k _ hk => hb.block k (Nat.not_le.1 hk)⟩ (fun g hg => by cases hg; exact Nat.not_le.2 hbl)
/-- a list's block is an older one, or new -/
def FromL (w w' : World) (v x : Value) : Prop := ∀ g, x.ownBlock = some g → v.ownBlock = some g ∨ (w.heap.size ≤ g ∧ g < w'.heap.size)
end Go.Proofs.Ytnoegbdmjinfjaa

/-
  Layer 20's reference: the sender, what reads it.
-/
namespace Go.Proofs.Ytnoegbdmjinfjaa
set_option maxRecDepth 20000
open Go.RowKit

def RsBlk (W : World) (R : Nat) (cap : Int) (lv : Value) : Prop := W.heap[R]? = some (.cells #[.int .i64 cap, lv] 64 (0, 0))
theorem RsBlk.lt {W : World} {R : Nat} {cap : Int} {lv : Value} (h : RsBlk W R cap lv) : R < W.heap.size := (Array.getElem?_eq_some_iff.1 h).1
theorem RsBlk.cells {W : World} {R : Nat} {cap : Int} {lv : Value} (h : RsBlk W R cap lv) : W.cell? ⟨R, 0, none⟩ = some (.int .i64 cap) ∧ W.cell? ⟨R, 1, none⟩ = some lv ∧ R < W.heap.size := ⟨blk_cell h rfl, blk_cell h rfl, h.lt⟩
/-- the reference's sender in block R, its streams in another one, their heads and bytes apart from both -/
structure RsObj (W : World) (R : Nat) (lv : Value) (ys : List SmV) (q : Sd) : Prop where
  blk : RsBlk W R q.cap lv
  row : RowC smC 7 W 0 72 lv ys
  pay : ∀ y ∈ ys, Sl .u8 W y.hv y.x.head ∧ Sl .u8 W y.bv y.x.b
  e : q.l = ys.map (·.x)
  nl : ∀ g, lv.ownBlock = some g → g ≠ R ∧ g < W.heap.size
  np : ∀ y ∈ ys, (y.x.head ≠ [] → ∀ g, y.hv.ownBlock = some g → g ≠ R ∧ lv.ownBlock ≠ some g) ∧ (y.x.b ≠ [] → ∀ g, y.bv.ownBlock = some g → g ≠ R ∧ lv.ownBlock ≠ some g)
theorem RsObj.l {W : World} {R : Nat} {lv : Value} {ys : List SmV} {q : Sd} (h : RsObj W R lv ys q) : SlS W lv ys := ⟨h.row.toSl smC_len, h.pay⟩
theorem RsObj.below {W W' : World} {R : Nat} {lv : Value} {ys : List SmV} {q : Sd} (h : RsObj W R lv ys q) (hb : Below W.heap.size W W') : RsObj W' R lv ys q :=
  ⟨(hb.block R h.blk.lt).trans h.blk, h.row.below hb, (h.l.below hb).2, h.e, fun g hg => ⟨(h.nl g hg).1, Nat.lt_of_lt_of_le (h.nl g hg).2 hb.size⟩, h.np⟩
/-- one cell of one stream is set -/
theorem RsObj.setC {W : World} {R g c : Nat} {ys : List SmV} {q : Sd} (h : RsObj W R (.slice (some ⟨g, 0, none⟩) ys.length c) ys q) {i j : Nat} {y y' : SmV} {u : Value} (hy : ys[i]? = some y) (hj : j < 7) (e : smC y' = (smC y).set j u) (hs : Sl .u8 W y'.hv y'.x.head ∧ Sl .u8 W y'.bv y'.x.b)
    (hn : (y'.x.head ≠ [] → ∀ k, y'.hv.ownBlock = some k → k ≠ R ∧ g ≠ k) ∧ (y'.x.b ≠ [] → ∀ k, y'.bv.ownBlock = some k → k ≠ R ∧ g ≠ k)) :
    RsObj (W.setCell ⟨g, i * 7 + j, none⟩ u) R (.slice (some ⟨g, 0, none⟩) ys.length c) (ys.set i y') { q with l := q.l.set i y'.x } ∧ Turn (fun k => k = g) W (W.setCell ⟨g, i * 7 + j, none⟩ u) := by
  have ht := turn_set19 (W := W) g (i * 7 + j) u
  have hg := h.nl g rfl
  have hr := (World.ownsRow.stored (w := W) (n := ys.length) h.row (i * 7 + j) u).1
  rw [flatS_set ys i y y' j hy hj e] at hr
  have one : ∀ z ∈ ys.set i y', (Sl .u8 W z.hv z.x.head ∧ Sl .u8 W z.bv z.x.b) ∧ (z.x.head ≠ [] → ∀ k, z.hv.ownBlock = some k → k ≠ R ∧ (Value.slice (some ⟨g, 0, none⟩) ys.length c).ownBlock ≠ some k) ∧ (z.x.b ≠ [] → ∀ k, z.bv.ownBlock = some k → k ≠ R ∧ (Value.slice (some ⟨g, 0, none⟩) ys.length c).ownBlock ≠ some k) := fun z hz => by
    rcases List.mem_or_eq_of_mem_set hz with hz | rfl
    · exact ⟨h.pay z hz, h.np z hz⟩
    · exact ⟨hs, fun h1 k hk => ⟨(hn.1 h1 k hk).1, fun e => (hn.1 h1 k hk).2 (by cases e; rfl)⟩, fun h1 k hk => ⟨(hn.2 h1 k hk).1, fun e => (hn.2 h1 k hk).2 (by cases e; rfl)⟩⟩
  refine ⟨⟨ht.obj h.blk (fun e => hg.1 e.symm), ?_, fun z hz => ⟨(one z hz).1.1.turn0 ht (fun h1 k hk e => ((one z hz).2.1 h1 k hk).2 (by rw [show k = g from e]; rfl)), (one z hz).1.2.turn0 ht (fun h1 k hk e => ((one z hz).2.2 h1 k hk).2 (by rw [show k = g from e]; rfl))⟩, by rw [h.e, List.map_set], fun k hk => ⟨(h.nl k hk).1, Nat.lt_of_lt_of_le (h.nl k hk).2 ht.size⟩, fun z hz => (one z hz).2⟩, ht⟩
  unfold RowC
  rw [List.length_set]
  exact hr
theorem rbegin20_any (cap : Int) (w : World) : Calls Try.prog 8 #[.int .i64 cap] w fun e w' => e = .returned (.pointer (some ⟨w.heap.size, 0, none⟩)) ∧ RsObj w' w.heap.size (.slice none 0 0) [] ⟨cap, []⟩ ∧ Below w.heap.size w w' := by
  go_enter Try.func8, Try.ntmps8
  go_wp2_with fail
  go_ret
  exact ⟨rfl, ⟨heap_alloc_new w _, RowC.nil _ _ _, (fun y hy => by cases hy), rfl, (fun g hg => by cases hg), (fun y hy => by cases hy)⟩, (Below.refl _ _).alloc (Nat.le_refl _) _⟩
set_option maxHeartbeats 1000000 in
theorem rat20_any (R : Nat) (lv : Value) (ys : List SmV) (q : Sd) (id : Int) (w : World) (h : RsObj w R lv ys q) :
    Calls Try.prog 53 #[.pointer (some ⟨R, 0, none⟩), .int .i64 id] w fun e w' => e = .returned (.int .i64 (at20 q.l id)) ∧ w' = w := by
  obtain ⟨al, cl, elv, hc1, hc2⟩ := h.l.1.shape
  unfold maxLen at hc2
  obtain ⟨N, hN⟩ : ∃ N, ys.length = N := ⟨_, rfl⟩
  rw [hN] at elv hc1
  subst elv
  have HN := Lib.hid (show ys.length = N ∧ q.l.length = N from ⟨hN, by rw [h.e, List.length_map, hN]⟩)
  have HR := Lib.hid h
  clear hN h
  obtain ⟨f0, f1, f2⟩ := HR.out.blk.cells
  go_enter Try.func53, Try.ntmps53
  go_wp2_with fail
  go_loopg [5] N (fun q' s5 wr => ∃ k : Nat, k + q' = N ∧ s5 = .int .i64 k ∧ Hid (wr = w ∧ (q.l.take k).any (hasId id) = false))
  case atStart => exact ⟨0, by omega, rfl, Lib.hid ⟨rfl, by simp⟩⟩
  case round =>
    obtain ⟨k, hkq, rfl, HP⟩ := hrel
    have HKQ := Lib.hid hkq
    have hk : k ≤ N := by omega
    clear hkq
    obtain rfl := HP.out.1
    have HA := Lib.hid HP.out.2
    clear HP
    by_cases hlt : k < N
    · obtain ⟨y, hy⟩ : ∃ y, ys[k]? = some y := ⟨ys[k]'(by rw [HN.out.1]; exact hlt), List.getElem?_eq_getElem (by rw [HN.out.1]; exact hlt)⟩
      obtain ⟨b, off, rfl, hbl, hcell⟩ := HR.out.l.1.at_ (i := k) (by rw [HN.out.1]; exact hlt)
      have c0 := hcell y hy 0 (by omega)
      simp only [smC, List.getElem?_cons_zero, Nat.add_zero] at c0
      have HX := Lib.hid (show q.l[k]? = some y.x by rw [HR.out.e, List.getElem?_map, hy]; rfl)
      clear hcell hy
      obtain ⟨be, hbe⟩ : ∃ be, (y.x.id == id) = be := ⟨_, rfl⟩
      cases be
      · have HE := Lib.hid hbe
        go_wp2_with fail
        go_roundg (N - (k + 1))
        case measure => have := HKQ.out; omega
        case rel => exact ⟨k + 1, by omega, by go_num, Lib.hid ⟨rfl, by
          rw [List.take_add_one, List.any_append, HA.out, HX.out]
          simp [hasId, HE.out]⟩⟩
      · have HE := Lib.hid (at20_yes HA.out HX.out hbe)
        go_wp2_with fail
        go_ret
        exact ⟨by rw [HE.out]; rfl, rfl⟩
    · obtain rfl : k = N := by omega
      have HE := Lib.hid (show at20 q.l id = -1 from at20_no (by
        have h1 := HA.out
        rw [← HN.out.2, List.take_length] at h1
        exact h1))
      clear hlt hk
      go_wp2_with fail
      go_ret
      exact ⟨by rw [HE.out]; rfl, rfl⟩
set_option maxHeartbeats 1000000 in
theorem rwaiting20_any (R : Nat) (lv : Value) (ys : List SmV) (q : Sd) (w : World) (h : RsObj w R lv ys q) (hl : ys.length ≤ 1000) (hp : ∀ y ∈ ys, y.x.b.length ≤ 1000000) :
    Calls Try.prog 16 #[.pointer (some ⟨R, 0, none⟩)] w fun e w' => e = .returned (.int .i64 (sumB q.l : Nat)) ∧ w' = w := by
  obtain ⟨al, cl, elv, hc1, hc2⟩ := h.l.1.shape
  unfold maxLen at hc2
  obtain ⟨N, hN⟩ : ∃ N, ys.length = N := ⟨_, rfl⟩
  rw [hN] at elv hc1 hl
  subst elv
  have HN := Lib.hid (show ys.length = N ∧ q.l.length = N from ⟨hN, by rw [h.e, List.length_map, hN]⟩)
  have HR := Lib.hid h
  have HPy := Lib.hid hp
  clear hN h hp
  obtain ⟨f0, f1, f2⟩ := HR.out.blk.cells
  go_enter Try.func16, Try.ntmps16
  go_wp2_with fail
  go_loopg [3, 4] N (fun q' s3 s4 wr => ∃ k : Nat, k + q' = N ∧ s4 = .int .i64 k ∧ ∃ S : Nat, s3 = .int .i64 S ∧ Hid (wr = w ∧ S = sumB (q.l.take k) ∧ S ≤ k * 1000000))
  case atStart => exact ⟨0, by omega, rfl, 0, rfl, Lib.hid ⟨rfl, by simp [sumB], by omega⟩⟩
  case round =>
    obtain ⟨k, hkq, rfl, S, rfl, HP⟩ := hrel
    have HKQ := Lib.hid hkq
    have hk : k ≤ N := by omega
    clear hkq
    obtain rfl := HP.out.1
    have HA := Lib.hid HP.out.2.1
    have hS := HP.out.2.2
    have hS2 : S ≤ 1000000000 := by omega
    clear HP
    by_cases hlt : k < N
    · obtain ⟨y, hy⟩ : ∃ y, ys[k]? = some y := ⟨ys[k]'(by rw [HN.out.1]; exact hlt), List.getElem?_eq_getElem (by rw [HN.out.1]; exact hlt)⟩
      have hmem := List.mem_of_getElem? hy
      have hb1 := HPy.out y hmem
      obtain ⟨pb, pc, hbv, _⟩ := id (HR.out.l.2 y hmem).2
      obtain ⟨b, off, rfl, hbl, hcell⟩ := HR.out.l.1.at_ (i := k) (by rw [HN.out.1]; exact hlt)
      have c6 := hcell y hy 6 (by omega)
      simp only [smC, List.getElem?_cons_succ, List.getElem?_cons_zero] at c6
      rw [hbv] at c6
      have HX := Lib.hid (show q.l[k]? = some y.x by rw [HR.out.e, List.getElem?_map, hy]; rfl)
      clear hcell hy hmem hbv
      go_wp2_with fail
      go_roundg (N - (k + 1))
      case measure => have := HKQ.out; omega
      case rel => exact ⟨k + 1, by omega, by go_num, S + y.x.b.length, by go_num, Lib.hid ⟨rfl, by
        rw [List.take_add_one, HX.out, sumB_append, ← HA.out]
        simp [sumB], by omega⟩⟩
    · obtain rfl : k = N := by omega
      have HE := Lib.hid (show sumB q.l = S by
        have h1 := HA.out
        rw [← HN.out.2, List.take_length] at h1
        exact h1.symm)
      clear hlt hk
      go_wp2_with fail
      go_ret
      exact ⟨by rw [HE.out]; rfl, rfl⟩
set_option maxHeartbeats 1000000 in
theorem rheads20_any (R : Nat) (lv : Value) (ys : List SmV) (q : Sd) (w : World) (h : RsObj w R lv ys q) (hl : ys.length ≤ 1000) (hp : ∀ y ∈ ys, y.x.head.length ≤ 1000000) :
    Calls Try.prog 18 #[.pointer (some ⟨R, 0, none⟩)] w fun e w' => e = .returned (.int .i64 (sumH q.l : Nat)) ∧ w' = w := by
  obtain ⟨al, cl, elv, hc1, hc2⟩ := h.l.1.shape
  unfold maxLen at hc2
  obtain ⟨N, hN⟩ : ∃ N, ys.length = N := ⟨_, rfl⟩
  rw [hN] at elv hc1 hl
  subst elv
  have HN := Lib.hid (show ys.length = N ∧ q.l.length = N from ⟨hN, by rw [h.e, List.length_map, hN]⟩)
  have HR := Lib.hid h
  have HPy := Lib.hid hp
  clear hN h hp
  obtain ⟨f0, f1, f2⟩ := HR.out.blk.cells
  go_enter Try.func18, Try.ntmps18
  go_wp2_with fail
  go_loopg [3, 4] N (fun q' s3 s4 wr => ∃ k : Nat, k + q' = N ∧ s4 = .int .i64 k ∧ ∃ S : Nat, s3 = .int .i64 S ∧ Hid (wr = w ∧ S = sumH (q.l.take k) ∧ S ≤ k * 1000000))
  case atStart => exact ⟨0, by omega, rfl, 0, rfl, Lib.hid ⟨rfl, by simp [sumH], by omega⟩⟩
  case round =>
    obtain ⟨k, hkq, rfl, S, rfl, HP⟩ := hrel
    have HKQ := Lib.hid hkq
    have hk : k ≤ N := by omega
    clear hkq
    obtain rfl := HP.out.1
    have HA := Lib.hid HP.out.2.1
    have hS := HP.out.2.2
    have hS2 : S ≤ 1000000000 := by omega
    clear HP
    by_cases hlt : k < N
    · obtain ⟨y, hy⟩ : ∃ y, ys[k]? = some y := ⟨ys[k]'(by rw [HN.out.1]; exact hlt), List.getElem?_eq_getElem (by rw [HN.out.1]; exact hlt)⟩
      have hmem := List.mem_of_getElem? hy
      have hb1 := HPy.out y hmem
      obtain ⟨pb, pc, hbv, _⟩ := id (HR.out.l.2 y hmem).1
      obtain ⟨b, off, rfl, hbl, hcell⟩ := HR.out.l.1.at_ (i := k) (by rw [HN.out.1]; exact hlt)
      have c2 := hcell y hy 2 (by omega)
      simp only [smC, List.getElem?_cons_succ, List.getElem?_cons_zero] at c2
      rw [hbv] at c2
      have HX := Lib.hid (show q.l[k]? = some y.x by rw [HR.out.e, List.getElem?_map, hy]; rfl)
      clear hcell hy hmem hbv
      go_wp2_with fail
      go_roundg (N - (k + 1))
      case measure => have := HKQ.out; omega
      case rel => exact ⟨k + 1, by omega, by go_num, S + y.x.head.length, by go_num, Lib.hid ⟨rfl, by
        rw [List.take_add_one, HX.out, sumH_append, ← HA.out]
        simp [sumH], by omega⟩⟩
    · obtain rfl : k = N := by omega
      have HE := Lib.hid (show sumH q.l = S by
        have h1 := HA.out
        rw [← HN.out.2, List.take_length] at h1
        exact h1.symm)
      clear hlt hk
      go_wp2_with fail
      go_ret
      exact ⟨by rw [HE.out]; rfl, rfl⟩
end Go.Proofs.Ytnoegbdmjinfjaa

/-
  Layer 20's reference: the sender, Grow.
-/
namespace Go.Proofs.Ytnoegbdmjinfjaa
set_option maxRecDepth 20000
open Go.RowKit

/-- a list that has a stream lies in a block, from its start on -/
theorem RsObj.shape {W : World} {R : Nat} {lv : Value} {ys : List SmV} {q : Sd} (h : RsObj W R lv ys q) {k : Nat} {y : SmV} (hy : ys[k]? = some y) :
    ∃ g c, lv = .slice (some ⟨g, 0, none⟩) ys.length c ∧ k < ys.length ∧ ys.length ≤ c ∧ c ≤ maxLen ∧ g ≠ R ∧ g < W.heap.size ∧ (∀ j, W.frozen? ⟨g, j, none⟩ = false) ∧ ∀ j, j < 7 → W.cell? ⟨g, k * 7 + j, none⟩ = (smC y)[j]? := by
  have hk : k < ys.length := (List.getElem?_eq_some_iff.1 hy).1
  obtain ⟨a, c, e, hc1, hc2⟩ := h.l.1.shape
  have hl := h.l.1
  rw [e] at hl
  obtain ⟨b, off, rfl, hbl, hcell⟩ := hl.at_ hk
  rcases h.row.2 with ⟨_, h0⟩ | ⟨g, cap, cur, e2, _, hblk, _⟩
  · omega
  · rw [e] at e2
    simp only [Value.slice.injEq, Option.some.injEq, Addr.mk.injEq] at e2
    obtain ⟨⟨rfl, rfl, _⟩, _, rfl⟩ := e2
    refine ⟨b, c, e, hk, hc1, hc2, (h.nl b (by rw [e]; rfl)).1, hbl, fun j => blk_free hblk, fun j hj => ?_⟩
    have := hcell y hy j hj
    rwa [Nat.zero_add] at this
theorem rgrow20_no (R : Nat) (lv : Value) (ys : List SmV) (q : Sd) (id n : Int) (w : World) (h : RsObj w R lv ys q) (hno : q.l.any (hasId id) = false) :
    Calls Try.prog 32 #[.pointer (some ⟨R, 0, none⟩), .int .i64 id, .int .i64 n] w fun e w' => e = .returned (.tuple #[.bool false, .int .i64 5]) ∧ w' = w := by
  have HR := Lib.hid h
  have HNo := Lib.hid (at20_no hno)
  clear h hno
  go_enter Try.func32, Try.ntmps32
  go_wp2_with fail
  refine (rat20_any R lv ys q id w HR.out).mono ?_
  rintro e w1 ⟨rfl, e0⟩
  have e1 := e0.symm
  clear e0
  subst e1
  rw [HNo.out]
  go_wp2_with fail
  go_ret2
  exact ⟨rfl, rfl⟩
set_option maxHeartbeats 1000000 in
theorem rgrow20_yes (R : Nat) (lv : Value) (ys : List SmV) (q : Sd) (id n : Int) (k : Nat) (y : SmV) (w : World) (h : RsObj w R lv ys q) (hat : at20 q.l id = k) (hy : ys[k]? = some y) :
    Calls Try.prog 32 #[.pointer (some ⟨R, 0, none⟩), .int .i64 id, .int .i64 n] w fun e w' => e = .returned (.tuple #[.bool (growW y.x.win n).2, .int .i64 0]) ∧
      RsObj w' R lv (ys.set k ⟨{ y.x with win := (growW y.x.win n).1 }, y.hv, y.bv⟩) (growS q k y.x n) ∧ Turn (fun g => lv.ownBlock = some g) w w' := by
  obtain ⟨g, c, elv, hk, hc1, hc2, hgR, hgl, hfr, hcell⟩ := h.shape hy
  unfold maxLen at hc2
  have HR := Lib.hid (show RsObj w R (.slice (some ⟨g, 0, none⟩) ys.length c) ys q from elv ▸ h)
  subst elv
  have HAt := Lib.hid hat
  have HY := Lib.hid hy
  have c1 := hcell 1 (by decide)
  simp only [smC, List.getElem?_cons_succ, List.getElem?_cons_zero] at c1
  have g1 := hfr (k * 7 + 1)
  obtain ⟨f0, f1, f2⟩ := HR.out.blk.cells
  obtain ⟨N, hN⟩ : ∃ N, ys.length = N := ⟨_, rfl⟩
  have HN := Lib.hid hN
  rw [hN] at f1 hk hc1
  have dk : decide ((k : Int) < 0) = false := decide_eq_false (by omega)
  obtain ⟨gw, hgw⟩ : ∃ gw, growW y.x.win n = gw := ⟨_, rfl⟩
  have HGW := Lib.hid hgw
  clear hcell hfr h hat hy hN hgw
  go_enter Try.func32, Try.ntmps32
  go_wp2_with fail
  refine (rat20_any R _ ys q id w HR.out).mono ?_
  rintro e w1 ⟨rfl, e0⟩
  have e1 := e0.symm
  clear e0
  subst e1
  rw [HAt.out]
  go_wp2_with fail
  refine (refGrow_any y.x.win n w).mono ?_
  rintro e w1 ⟨rfl, e0⟩
  have e1 := e0.symm
  clear e0
  subst e1
  rw [HGW.out]
  unfold tupW
  go_wp2_with fail
  go_ret2
  have hn := HR.out.np y (List.mem_of_getElem? HY.out)
  have hh := HR.out.setC (j := 1) (y' := ⟨{ y.x with win := gw.1 }, y.hv, y.bv⟩) (u := .int .i64 gw.1) HY.out (by decide) rfl (HR.out.pay y (List.mem_of_getElem? HY.out)) ⟨fun h1 k hk => ⟨(hn.1 h1 k hk).1, fun e => (hn.1 h1 k hk).2 (by rw [← e]; rfl)⟩, fun h1 k hk => ⟨(hn.2 h1 k hk).1, fun e => (hn.2 h1 k hk).2 (by rw [← e]; rfl)⟩⟩
  refine ⟨by rw [HGW.out]; rfl, ?_, hh.2.mono (fun j _ e => by rw [show j = g from e]; rfl)⟩
  rw [growS, HGW.out]
  exact hh.1
end Go.Proofs.Ytnoegbdmjinfjaa

/-
  Layer 20's reference: the sender, Shift.
-/
namespace Go.Proofs.Ytnoegbdmjinfjaa
set_option maxRecDepth 20000
open Go.RowKit

/-- what Shift leaves -/
def Shf20 (w w' : World) (R : Nat) (lv : Value) (ys : List SmV) (q : Sd) (d : Int) : Prop := ∃ zs, RsObj w' R lv zs (shiftS q d) ∧ Turn (fun g => lv.ownBlock = some g) w w' ∧ (zs = ys ∨ zs = ys.map (movV d))
set_option maxHeartbeats 2000000 in
theorem rshift20_any (R : Nat) (lv : Value) (ys : List SmV) (q : Sd) (d : Int) (w : World) (h : RsObj w R lv ys q) :
    Calls Try.prog 33 #[.pointer (some ⟨R, 0, none⟩), .int .i64 d] w fun e w' => e = .returned (.int .i64 (shiftN q.l d)) ∧
      Shf20 w w' R lv ys q d := by
  obtain ⟨al, cl, elv, hc1, hc2⟩ := h.l.1.shape
  unfold maxLen at hc2
  obtain ⟨N, hN⟩ : ∃ N, ys.length = N := ⟨_, rfl⟩
  rw [hN] at elv hc1
  subst elv
  have HN := Lib.hid (show ys.length = N ∧ q.l.length = N from ⟨hN, by rw [h.e, List.length_map, hN]⟩)
  have HR := Lib.hid h
  clear hN h
  obtain ⟨f0, f1, f2⟩ := HR.out.blk.cells
  go_enter Try.func33, Try.ntmps33
  go_wp2_with fail
  go_loopg [5] N (fun q' s5 wr => ∃ k : Nat, k + q' = N ∧ s5 = .int .i64 k ∧ Hid (wr = w ∧ (q.l.take k).all (okS d) = true))
  case atStart => exact ⟨0, by omega, rfl, Lib.hid ⟨rfl, by simp⟩⟩
  case round =>
    obtain ⟨k, hkq, rfl, HP⟩ := hrel
    have HKQ := Lib.hid hkq
    have hk : k ≤ N := by omega
    clear hkq
    obtain rfl := HP.out.1
    have HA := Lib.hid HP.out.2
    clear HP
    by_cases hlt : k < N
    · obtain ⟨y, hy⟩ : ∃ y, ys[k]? = some y := ⟨ys[k]'(by rw [HN.out.1]; exact hlt), List.getElem?_eq_getElem (by rw [HN.out.1]; exact hlt)⟩
      obtain ⟨b, off, rfl, hbl, hcell⟩ := HR.out.l.1.at_ (i := k) (by rw [HN.out.1]; exact hlt)
      have c0 := hcell y hy 0 (by omega)
      have c1 := hcell y hy 1 (by omega)
      simp only [smC, List.getElem?_cons_succ, List.getElem?_cons_zero, Nat.add_zero] at c0 c1
      have HX := Lib.hid (show q.l[k]? = some y.x by rw [HR.out.e, List.getElem?_map, hy]; rfl)
      clear hcell hy
      go_wp2_with fail
      refine (refShift_any y.x.win d wr).mono ?_
      rintro e w1 ⟨rfl, e0⟩
      have e1 := e0.symm
      clear e0
      subst e1
      obtain ⟨be, hbe⟩ : ∃ be, (shiftW y.x.win d).2 = be := ⟨_, rfl⟩
      unfold tupW
      rw [hbe]
      cases be
      · have HE := Lib.hid (shift_bad HA.out HX.out hbe)
        clear hbe
        go_wp2_with fail
        go_ret
        exact ⟨by rw [HE.out.1]; rfl, ys, by rw [HE.out.2]; exact HR.out, Turn.of_below (Below.refl _ _), .inl rfl⟩
      · have HE := Lib.hid hbe
        clear hbe
        go_wp2_with fail
        go_roundg (N - (k + 1))
        case measure => have := HKQ.out; omega
        case rel => exact ⟨k + 1, by omega, by go_num, Lib.hid ⟨rfl, by
          rw [List.take_add_one, List.all_append, HA.out, HX.out]
          simp [okS, HE.out]⟩⟩
    · obtain rfl : k = N := by omega
      have HE := Lib.hid (shift_ok (show q.l.all (okS d) = true from by
        have h1 := HA.out
        rw [← HN.out.2, List.take_length] at h1
        exact h1))
      clear hlt hk HA
      rename World => w0
      go_wp2_with fail
      go_loopg [8] k (fun q' s8 wx => ∃ j : Nat, j + q' = k ∧ s8 = .int .i64 j ∧ Hid (RsObj wx R (.slice al k cl) (midV d ys j) ⟨q.cap, (midV d ys j).map (·.x)⟩ ∧ Turn (fun g => (Value.slice al k cl).ownBlock = some g) w0 wx))
      case atStart => exact ⟨0, by omega, rfl, Lib.hid ⟨by rw [midV_zero]; have := HR.out; obtain ⟨cap, l⟩ := q; have e := this.e; dsimp only at e; subst e; exact this, Turn.of_below (Below.refl _ _)⟩⟩
      case round =>
        obtain ⟨j, hjq, rfl, HP⟩ := hrel
        have HJQ := Lib.hid hjq
        have hj : j ≤ k := by omega
        clear hjq f0 f1 f2
        obtain ⟨f0, f1, f2⟩ := HP.out.1.blk.cells
        by_cases hjt : j < k
        · obtain ⟨y, hy⟩ : ∃ y, ys[j]? = some y := ⟨ys[j]'(by rw [HN.out.1]; exact hjt), List.getElem?_eq_getElem (by rw [HN.out.1]; exact hjt)⟩
          have HY := Lib.hid hy
          obtain ⟨g, c, elv, hk2, _, _, hgR, hgl, hfr, hcell⟩ := HP.out.1.shape (midV_at (d := d) hy)
          simp only [Value.slice.injEq] at elv
          obtain ⟨ea, en, ec⟩ := elv
          clear en
          subst ea ec
          have c1 := hcell 1 (by decide)
          simp only [smC, List.getElem?_cons_succ, List.getElem?_cons_zero] at c1
          have g1 := hfr (j * 7 + 1)
          clear hcell hfr hy hk2
          go_wp2_with fail
          refine (refShift_any y.x.win d wr).mono ?_
          rintro e w1 ⟨rfl, e0⟩
          have e1 := e0.symm
          clear e0
          subst e1
          unfold tupW
          go_wp2_with fail
          have hlen := midV_length d ys (k := j) (by rw [HN.out.1]; exact hj)
          have hn := HP.out.1.np y (List.mem_of_getElem? (midV_at (d := d) HY.out))
          have hob := HP.out.1
          rw [show (Value.slice (some ⟨g, 0, none⟩) k cl) = .slice (some ⟨g, 0, none⟩) (midV d ys j).length cl by rw [hlen, HN.out.1]] at hob
          have hh := hob.setC (j := 1) (y' := movV d y) (u := .int .i64 (shiftW y.x.win d).1) (midV_at (d := d) HY.out) (by decide) rfl (HP.out.1.pay y (List.mem_of_getElem? (midV_at (d := d) HY.out))) ⟨fun h1 k hk => ⟨(hn.1 h1 k hk).1, fun e => (hn.1 h1 k hk).2 (by rw [← e]; rfl)⟩, fun h1 k hk => ⟨(hn.2 h1 k hk).1, fun e => (hn.2 h1 k hk).2 (by rw [← e]; rfl)⟩⟩
          rw [midV_next HY.out, hlen, HN.out.1] at hh
          have HH := Lib.hid (And.intro (show RsObj _ R (.slice (some ⟨g, 0, none⟩) k cl) (midV d ys (j + 1)) ⟨q.cap, (midV d ys (j + 1)).map (·.x)⟩ from ⟨hh.1.blk, hh.1.row, hh.1.pay, rfl, hh.1.nl, hh.1.np⟩) (HP.out.2.trans (hh.2.mono (fun i _ e => by rw [show i = g from e]; rfl))))
          clear hlen hn hob hh
          go_roundg (k - (j + 1))
          case measure => have := HJQ.out; omega
          case rel => exact ⟨j + 1, by omega, by go_num, HH⟩
        · obtain rfl : j = k := by omega
          clear hjt hj
          go_wp2_with fail
          go_ret
          refine ⟨by rw [HE.out.1]; rfl, midV d ys j, ?_, HP.out.2, .inr (by rw [← HN.out.1, midV_all])⟩
          rw [HE.out.2]
          have h1 := HP.out.1
          rw [show (midV d ys j).map (·.x) = q.l.map (movS d) by
            rw [HR.out.e, ← HN.out.1, midV_all, List.map_map, List.map_map]
            rfl] at h1
          exact h1
end Go.Proofs.Ytnoegbdmjinfjaa

/-
  Layer 20's reference: the sender, Drop.
-/
namespace Go.Proofs.Ytnoegbdmjinfjaa
set_option maxRecDepth 20000
open Go.RowKit

theorem Try.infoSm20 : (Try.prog.info? 72).map (fun i => (i.zero, i.size, i.bytes)) = some (some (.agg #[.int .i64 0, .int .i64 0, .slice none 0 0, .bool false, .bool false, .bool false, .slice none 0 0]), 7, 72) := by kernel_rfl
def dropS (q : Sd) (id : Int) : Sd := { q with l := q.l.filter (fun x => !hasId id x) }
def keptV (id : Int) (ys : List SmV) : List SmV := ys.filter (fun y => !hasId id y.x)
theorem keptV_take {id : Int} {ys : List SmV} {k : Nat} {y : SmV} (hy : ys[k]? = some y) : keptV id (ys.take (k + 1)) = keptV id (ys.take k) ++ (if hasId id y.x = true then [] else [y]) := by
  rw [keptV, keptV, List.take_add_one, hy, List.filter_append]
  congr 1
  by_cases h : hasId id y.x = true <;> simp [h]
theorem row_one20 {w : World} {y : SmV} {g : Nat} (h : w.heap[g]? = some (.cells (smC y).toArray 72 (0, 0))) : ∀ (j : Nat) (u : Value), (flatC smC [y])[j]? = some u → w.cell? ((⟨g, 0, none⟩ : Addr).add j) = some u := one_at h
set_option maxHeartbeats 2000000 in
theorem rdrop20_yes (R : Nat) (lv : Value) (ys : List SmV) (q : Sd) (id : Int) (k0 : Nat) (w : World) (h : RsObj w R lv ys q) (hat : at20 q.l id = k0) (hlen : ys.length ≤ 100000) :
    Calls Try.prog 34 #[.pointer (some ⟨R, 0, none⟩), .int .i64 id] w fun e w' => e = .returned (.int .i64 0) ∧
      ∃ lv', RsObj w' R lv' (keptV id ys) (dropS q id) ∧ Turn (fun g => g = R) w w' ∧ ∀ g, lv'.ownBlock = some g → w.heap.size ≤ g := by
  obtain ⟨al, cl, elv, hc1, hc2⟩ := h.l.1.shape
  unfold maxLen at hc2
  obtain ⟨N, hN⟩ : ∃ N, ys.length = N := ⟨_, rfl⟩
  rw [hN] at elv hc1 hlen
  subst elv
  have HN := Lib.hid (show ys.length = N ∧ q.l.length = N from ⟨hN, by rw [h.e, List.length_map, hN]⟩)
  have HR := Lib.hid h
  have HAt := Lib.hid hat
  obtain ⟨i0, hi0, hz0, hz1, hz2⟩ := info_parts Try.infoSm20
  have HI := Lib.hid (And.intro hi0 (And.intro hz0 (And.intro hz1 hz2)))
  clear hi0 hz0 hz1 hz2
  have dk : decide ((k0 : Int) < 0) = false := decide_eq_false (by omega)
  clear hN h hat
  obtain ⟨f0, f1, f2⟩ := HR.out.blk.cells
  go_enter Try.func34, Try.ntmps34
  go_wp2_with fail
  refine (rat20_any R _ ys q id w HR.out).mono ?_
  rintro e w1 ⟨rfl, e0⟩
  have e1 := e0.symm
  clear e0
  subst e1
  rw [HAt.out]
  go_wp2_with fail
  go_loopg [5, 6] N (fun q' s5 s6 wr => ∃ k : Nat, k + q' = N ∧ s6 = .int .i64 k ∧ ∃ ov, s5 = ov ∧ Hid (Below w.heap.size w wr ∧ wr.ownsRow w.heap.size 72 7 ov (keptV id (ys.take k)).length (flatC smC (keptV id (ys.take k)))))
  case atStart => exact ⟨0, by omega, rfl, _, rfl, Lib.hid ⟨Below.refl _ _, RowC.nil _ _ _⟩⟩
  case round =>
    obtain ⟨k, hkq, rfl, ov, rfl, HP⟩ := hrel
    have HKQ := Lib.hid hkq
    have hk : k ≤ N := by omega
    clear hkq f0 f1 f2
    have HRr := Lib.hid (HR.out.below HP.out.1)
    obtain ⟨f0, f1, f2⟩ := HRr.out.blk.cells
    obtain ⟨ao, co, rfl, _⟩ := owned_shape HP.out.2
    have hkl : (keptV id (ys.take k)).length ≤ k := Nat.le_trans (List.length_filter_le _ _) (by rw [List.length_take]; omega)
    obtain ⟨L, hL⟩ : ∃ L, (keptV id (ys.take k)).length = L := ⟨_, rfl⟩
    rw [hL] at HP hkl ⊢
    have HL := Lib.hid hL
    clear hL
    by_cases hlt : k < N
    · obtain ⟨y, hy⟩ : ∃ y, ys[k]? = some y := ⟨ys[k]'(by rw [HN.out.1]; exact hlt), List.getElem?_eq_getElem (by rw [HN.out.1]; exact hlt)⟩
      have HY := Lib.hid hy
      obtain ⟨b, off, rfl, hbl, hcell⟩ := HRr.out.l.1.at_ (i := k) (by rw [HN.out.1]; exact hlt)
      have hmem := List.mem_of_getElem? hy
      obtain ⟨⟨xi, xw, xh, xa, xs, xf, xb⟩, hv, bv⟩ := y
      have hpy := HRr.out.pay _ hmem
      dsimp only at hpy
      obtain ⟨⟨ah, ch, rfl, _⟩, ⟨ab, cb, rfl, _⟩⟩ := hpy
      have c0 := hcell _ hy 0 (by omega)
      have c1 := hcell _ hy 1 (by omega)
      have c2 := hcell _ hy 2 (by omega)
      have c3 := hcell _ hy 3 (by omega)
      have c4 := hcell _ hy 4 (by omega)
      have c5 := hcell _ hy 5 (by omega)
      have c6 := hcell _ hy 6 (by omega)
      simp only [smC, List.getElem?_cons_succ, List.getElem?_cons_zero, Nat.add_zero] at c0 c1 c2 c3 c4 c5 c6
      clear hcell hy hmem
      obtain ⟨be, hbe⟩ : ∃ be, (xi == id) = be := ⟨_, rfl⟩
      cases be
      · have hne : (xi != id) = true := by rw [bne, hbe]; rfl
        have HT := Lib.hid (keptV_take (id := id) HY.out)
        have HE := Lib.hid hbe
        go_wp2_with (at_builtin; refine app_row_at rfl (.tmp 30) (.tmp 38) 62 rfl w.heap.size 72 _ _ 7 72 Try.underlying62 HI.out.1 HI.out.2.1 HI.out.2.2.1 HI.out.2.2.2 rfl (by decide) _ L _ rfl (HP.out.2.alloc _) _ 1 1 (smC ⟨⟨xi, xw, xh, xa, xs, xf, xb⟩, .slice ah xh.length ch, .slice ab xb.length cb⟩) rfl (fun e => by cases e) rfl (fun ad e j u hu => by cases e; exact one_at (c := smC) (x := ⟨⟨xi, xw, xh, xa, xs, xf, xb⟩, .slice ah xh.length ch, .slice ab xb.length cb⟩) (heap_alloc_new wr _) j u (by simpa [flatC] using hu)) (fun u hu => by simp only [smC, List.mem_cons, List.not_mem_nil, or_false] at hu; rcases hu with rfl | rfl | rfl | rfl | rfl | rfl | rfl <;> rfl) (by unfold maxLen; omega) (by omega) (by have := HP.out.1.size; simp; omega) ?_; intro v9 w9 own9 hb9 hg9 hat9; obtain ⟨a9, k9, rfl, _⟩ := owned_shape own9)
        have HP9 := Lib.hid (show Below w.heap.size w w9 ∧ w9.ownsRow w.heap.size 72 7 (.slice a9 (L + 1) k9) (keptV id (ys.take (k + 1))).length (flatC smC (keptV id (ys.take (k + 1)))) from by
          refine ⟨HP.out.1.trans (((Below.refl _ _).alloc HP.out.1.size _).trans hb9), ?_⟩
          rw [HT.out, if_neg (by simp [hasId, HE.out]), List.length_append, HL.out, flatC_append, flatC_one]
          exact own9)
        clear own9 hb9 hg9 hat9
        go_roundg (N - (k + 1))
        case measure => have := HKQ.out; omega
        case rel => exact ⟨k + 1, by omega, by go_num, _, rfl, HP9⟩
      · have hne : (xi != id) = false := by rw [bne, hbe]; rfl
        have HT := Lib.hid (keptV_take (id := id) HY.out)
        have HE := Lib.hid hbe
        go_wp2_with fail
        go_roundg (N - (k + 1))
        case measure => have := HKQ.out; omega
        case rel => exact ⟨k + 1, by omega, by go_num, _, rfl, Lib.hid ⟨HP.out.1, by
          rw [HT.out, if_pos (by simp [hasId, HE.out]), List.append_nil, HL.out]
          exact HP.out.2⟩⟩
    · obtain rfl : k = N := by omega
      have hfz : wr.frozen? ⟨R, 1, none⟩ = false := blk_free HRr.out.blk
      have HLv := Lib.hid (show ∀ g, (Value.slice ao L co).ownBlock = some g → w.heap.size ≤ g ∧ g < wr.heap.size from fun g hg => HP.out.2.lt g hg)
      clear hlt hk
      go_wp2_with fail
      go_ret
      have ht := turn_set19 (W := wr) R 1 (.slice ao L co)
      have hall : ys.take k = ys := by rw [← HN.out.1, List.take_length]
      have hRw := HR.out.blk.lt
      have hrow : wr.ownsRow w.heap.size 72 7 (.slice ao L co) (keptV id ys).length (flatC smC (keptV id ys)) := by
        have h1 := HP.out.2
        have h2 := HL.out
        rw [hall] at h1 h2
        rw [h2]
        exact h1
      have one : ∀ y ∈ keptV id ys, y ∈ ys := fun y hy => (List.mem_filter.1 hy).1
      refine ⟨rfl, .slice ao L co, ⟨heap_setCell_same _ R 1 _ _ _ HRr.out.blk, RowC.mono (owned_turn hrow ht (fun g hg e => by have := (HLv.out g hg).1; have e2 : g = R := e; omega)) (Nat.zero_le _), fun y hy => ⟨(HRr.out.pay y (one y hy)).1.turn0 ht (fun h1 g hg => ((HR.out.np y (one y hy)).1 h1 g hg).1), (HRr.out.pay y (one y hy)).2.turn0 ht (fun h1 g hg => ((HR.out.np y (one y hy)).2 h1 g hg).1)⟩, ?_, fun g hg => ⟨fun e => by have := (HLv.out g hg).1; omega, Nat.lt_of_lt_of_le (HLv.out g hg).2 ht.size⟩, fun y hy => ⟨fun h1 g hg => ⟨((HR.out.np y (one y hy)).1 h1 g hg).1, fun e => by have := (HLv.out g e).1; have := (HR.out.pay y (one y hy)).1.lt0 h1 hg; omega⟩, fun h1 g hg => ⟨((HR.out.np y (one y hy)).2 h1 g hg).1, fun e => by have := (HLv.out g e).1; have := (HR.out.pay y (one y hy)).2.lt0 h1 hg; omega⟩⟩⟩, (Turn.of_below HP.out.1).trans ht, fun g hg => (HLv.out g hg).1⟩
      rw [dropS, HR.out.e, keptV, List.filter_map]
      rfl
end Go.Proofs.Ytnoegbdmjinfjaa

/-
  Layer 17 as a machine: a table's state, and what each call makes of it. No program is named here.
-/
namespace Go.Proofs.Ytnoegbdmjinfjaa
open Go.RowKit

/-- a table: its most, its memory, the highest id, the active ids, the late ones -/
structure St17 where
  most : Int
  mem : Int
  hi : Int
  A : List Int
  L : List Int
def St17.new (most mem : Int) : St17 := ⟨most, mem, 0, [], []⟩
def lateT (s : St17) (id : Int) : St17 := { s with L := if s.mem < ((s.L ++ [id]).length : Int) then (s.L ++ [id]).drop 1 else s.L ++ [id] }
def badId (id : Int) : Prop := id < 1 ∨ 2147483647 < id ∨ id % 2 = 0
instance (id : Int) : Decidable (badId id) := by unfold badId; infer_instance
def openS (s : St17) (id : Int) : St17 := if badId id then s else if id ≤ s.hi then s else if s.most ≤ (s.A.length : Int) then lateT { s with hi := id } id else { s with hi := id, A := s.A ++ [id] }
def openE (s : St17) (id : Int) : Int := if badId id then 1 else if id ≤ s.hi then 6 else if s.most ≤ (s.A.length : Int) then 4 else 0
def woutL (l : List Int) (n : Int) : List Int := l.filter (fun x => decide (x ≠ n))
def closeS (s : St17) (id : Int) (late : Bool) : St17 := if id ∈ s.A then (if late = true then lateT { s with A := woutL s.A id } id else { s with A := woutL s.A id }) else s
def closeE (s : St17) (id : Int) : Int := if id ∈ s.A then 0 else 5
def kindT (s : St17) (id : Int) : Int := if id < 1 ∨ id % 2 = 0 ∨ s.hi < id then 0 else if id ∈ s.A then 1 else if id ∈ s.L then 2 else 3
theorem woutL_le (l : List Int) (n : Int) : (woutL l n).length ≤ l.length := List.length_filter_le _ _
theorem lateT_le (s : St17) (id : Int) : (lateT s id).L.length ≤ s.L.length + 1 ∧ (lateT s id).A = s.A ∧ (lateT s id).hi = s.hi ∧ (lateT s id).most = s.most ∧ (lateT s id).mem = s.mem := by
  refine ⟨?_, rfl, rfl, rfl, rfl⟩
  unfold lateT
  split <;> simp
end Go.Proofs.Ytnoegbdmjinfjaa

/-
  Layer 17's reference: Has, Less, Ints.
-/
namespace Go.Proofs.Ytnoegbdmjinfjaa
set_option maxRecDepth 20000
open Go.RowKit

theorem Try.infoI17 : (Try.prog.info? 3).map (fun i => (i.zero, i.size, i.bytes)) = some (some (.int .i64 0), 1, 8) := by kernel_rfl
theorem ints17_any (u v : Value) (xs ys : List Int) (w : World) (hu : Sl .i64 w u xs) (hv : Sl .i64 w v ys) :
    Calls Try.prog 12 #[u, v] w fun e w' => e = .returned (.bool (decide (xs = ys))) ∧ ∃ n, w' = w.drewN n := by
  have hmx := hu.len
  have hmy := hv.len
  unfold maxLen at hmx hmy
  by_cases hl : xs.length = ys.length
  · rcases hu.parts with ⟨rfl, a, cap, rfl⟩ | ⟨hp, b, off, cap, rfl, hlc, hcm, hb, hc⟩
    · obtain rfl : ys = [] := List.eq_nil_of_length_eq_zero (by simpa using hl.symm)
      obtain ⟨a2, cap2, rfl, _⟩ := hv
      clear hl hu
      go_enter Try.func12, Try.ntmps12
      go_wp2
      refine wp_loop_rounds 1 ?_
      rw [rounds_succ]
      go_wp2
      go_ret
      exact ⟨rfl, 0, rfl⟩
    · rcases hv.parts with ⟨rfl, _⟩ | ⟨hp2, b2, off2, cap2, rfl, hlc2, hcm2, hb2, hc2⟩
      · exact absurd hl (by rw [List.length_nil]; omega)
      · have hle : xs.length ≤ ys.length := by omega
        have hge : ys.length ≤ xs.length := by omega
        have hn : ((xs.length : Int) != (ys.length : Int)) = false := by simp; omega
        clear hl hu hv
        go_enter Try.func12, Try.ntmps12
        go_wp2
        clear hn
        go_loopw [5] (fun i wr => ∃ k n : Nat, k ≤ xs.length ∧ i = .int .i64 k ∧ Hid (xs.take k = ys.take k) ∧ wr = w.drewN n) (fun i _ => xs.length - (intOf i).toNat)
        case atStart => exact ⟨0, 0, Nat.zero_le _, rfl, rfl, rfl⟩
        case round =>
          obtain ⟨k, n, hk, rfl, HT, rfl⟩ := hrel
          by_cases hlt : k < xs.length
          · have hcx := hc k hlt
            have hcy := hc2 k (by omega)
            clear hc hc2
            by_cases hz : at0 xs k = at0 ys k
            · have hb : (at0 xs k != at0 ys k) = false := by simp [hz]
              have HZ := Lib.hid hz
              clear hz
              go_wp2
              go_quiet (fail)
              go_wp2
              go_roundw
              case rel => exact ⟨k + 1, _, by omega, by go_num, (by show _ = _; rw [take_at0 xs k hlt, take_at0 ys k (by omega), HT.out, HZ.out]), rfl⟩
              case measure => simp [intOf]; omega
            · have hb : (at0 xs k != at0 ys k) = true := by simp [hz]
              have hne : xs ≠ ys := fun e => hz (by rw [e])
              have HD := Lib.hid (decide_eq_false hne)
              clear hz hne
              go_wp2
              go_quiet (fail)
              go_wp2
              go_ret
              exact ⟨by rw [HD.out]; rfl, _, by first | rfl | exact World.drewN_drewN ..⟩
          · obtain rfl : k = xs.length := by omega
            have he : xs = ys := by
              have := HT.out
              rwa [List.take_length, List.take_of_length_le (by omega)] at this
            have HD := Lib.hid (decide_eq_true he)
            clear he
            go_wp2
            go_ret
            exact ⟨by rw [HD.out]; rfl, _, by first | rfl | exact World.drewN_drewN ..⟩
  · have hn : ((xs.length : Int) != (ys.length : Int)) = true := by simp; omega
    have hne : xs ≠ ys := fun e => hl (by rw [e])
    have HD := Lib.hid (decide_eq_false hne)
    clear hne hl
    obtain ⟨a, cap, rfl, _⟩ := hu
    obtain ⟨a2, cap2, rfl, _⟩ := hv
    go_enter Try.func12, Try.ntmps12
    go_wp2
    go_ret
    exact ⟨by rw [HD.out]; rfl, 0, rfl⟩
end Go.Proofs.Ytnoegbdmjinfjaa

/-
  Layer 20's reference: the sender, IDs.
-/
namespace Go.Proofs.Ytnoegbdmjinfjaa
set_option maxRecDepth 20000
open Go.RowKit

set_option maxHeartbeats 1000000 in
theorem rids20_any (R : Nat) (lv : Value) (ys : List SmV) (q : Sd) (w : World) (h : RsObj w R lv ys q) (hl : ys.length ≤ 100000) (hw : ∀ y ∈ ys, (Lit.int .i64 y.x.id).wf = true) :
    Calls Try.prog 14 #[.pointer (some ⟨R, 0, none⟩)] w fun e w' => ∃ v, e = .returned v ∧ w'.ownsRow w.heap.size 3 1 v q.l.length ((q.l.map (·.id)).map (Value.int .i64)) ∧ Sl .i64 w' v (q.l.map (·.id)) ∧ Below w.heap.size w w' := by
  obtain ⟨al, cl, elv, hc1, hc2⟩ := h.l.1.shape
  unfold maxLen at hc2
  obtain ⟨N, hN⟩ : ∃ N, ys.length = N := ⟨_, rfl⟩
  rw [hN] at elv hc1 hl
  subst elv
  have HN := Lib.hid (show ys.length = N ∧ q.l.length = N from ⟨hN, by rw [h.e, List.length_map, hN]⟩)
  have HR := Lib.hid h
  have HWf := Lib.hid hw
  clear hN h hw
  obtain ⟨f0, f1, f2⟩ := HR.out.blk.cells
  go_enter Try.func14, Try.ntmps14
  go_wp2_with fail
  go_loopg [3, 4] N (fun q' s3 s4 wr => ∃ k : Nat, k + q' = N ∧ s4 = .int .i64 k ∧ ∃ v, s3 = v ∧ Hid (Below w.heap.size w wr ∧ wr.ownsRow w.heap.size 3 1 v k (((q.l.take k).map (·.id)).map (Value.int .i64))))
  case atStart => exact ⟨0, by omega, rfl, _, rfl, Lib.hid ⟨Below.refl _ _, ⟨rfl, .inl ⟨rfl, rfl⟩⟩⟩⟩
  case round =>
    obtain ⟨k, hkq, rfl, v, rfl, HP⟩ := hrel
    have HKQ := Lib.hid hkq
    have hk : k ≤ N := by omega
    clear hkq f0 f1 f2
    have HRr := Lib.hid (HR.out.below HP.out.1)
    obtain ⟨f0, f1, f2⟩ := HRr.out.blk.cells
    obtain ⟨ao, co, rfl, _⟩ := owned_shape HP.out.2
    by_cases hlt : k < N
    · obtain ⟨y, hy⟩ : ∃ y, ys[k]? = some y := ⟨ys[k]'(by rw [HN.out.1]; exact hlt), List.getElem?_eq_getElem (by rw [HN.out.1]; exact hlt)⟩
      have HY := Lib.hid (show q.l[k]? = some y.x by rw [HR.out.e, List.getElem?_map, hy]; rfl)
      have HW := Lib.hid (HWf.out y (List.mem_of_getElem? hy))
      obtain ⟨b, off, rfl, hbl, hcell⟩ := HRr.out.l.1.at_ (i := k) (by rw [HN.out.1]; exact hlt)
      have c0 := hcell _ hy 0 (by omega)
      simp only [smC, List.getElem?_cons_zero, Nat.add_zero] at c0
      clear hcell hy
      obtain ⟨XS, hXS⟩ : ∃ XS, (q.l.take k).map (·.id) = XS := ⟨_, rfl⟩
      have HXL := Lib.hid (show XS.length = k by rw [← hXS, List.length_map, List.length_take, HN.out.2]; omega)
      rw [hXS] at HP
      have HXS := Lib.hid hXS
      clear hXS
      go_wp2_with (at_builtin; refine app_ints rfl (.tmp 14) (.tmp 23) 43 rfl w.heap.size 3 .i64 8 Try.underlying43 Try.infoI17 _ _ XS rfl (HP.out.2.alloc _) _ [y.x.id] rfl (Sl.lit [y.x.id] rfl rfl rfl (by simpa using HW.out) (by unfold maxLen; simp)) (by have := HXL.out; simp; omega) (by have := HXL.out; unfold maxLen; simp; omega) (by have := HP.out.1.size; simp; omega) ?_; intro v9 w9 own9 hb9 hg9; obtain ⟨a9, k9, rfl, _⟩ := owned_shape own9)
      have HP9 := Lib.hid (show Below w.heap.size w w9 ∧ w9.ownsRow w.heap.size 3 1 (.slice a9 (XS.length + 1) k9) (k + 1) (((q.l.take (k + 1)).map (·.id)).map (Value.int .i64)) from by
        refine ⟨HP.out.1.trans (((Below.refl _ _).alloc HP.out.1.size _).trans hb9), ?_⟩
        rw [List.take_add_one, HY.out, List.map_append, HXS.out]
        have h1 := own9
        simp only [List.length_singleton, HXL.out] at h1 ⊢
        exact h1)
      clear own9 hb9 hg9
      go_roundg (N - (k + 1))
      case measure => have := HKQ.out; omega
      case rel => exact ⟨k + 1, by omega, by go_num, _, rfl, HP9⟩
    · obtain rfl : k = N := by omega
      have hall : q.l.take k = q.l := by rw [← HN.out.2, List.take_length]
      have HO := Lib.hid (show wr.ownsRow w.heap.size 3 1 (.slice ao k co) q.l.length ((q.l.map (·.id)).map (Value.int .i64)) from by
        have := HP.out.2
        rw [hall] at this
        rw [HN.out.2]
        exact this)
      have HSl := Lib.hid (show Sl .i64 wr (.slice ao k co) (q.l.map (·.id)) from Sl.of_own HO.out (fun n hn => by
        rw [HR.out.e, List.map_map] at hn
        obtain ⟨y, hy, rfl⟩ := List.mem_map.1 hn
        exact HWf.out y hy) (by rw [List.length_map, HN.out.2]; unfold maxLen; omega))
      clear hlt hk hall
      go_wp2_with fail
      go_ret
      exact ⟨_, rfl, HO.out, HSl.out, HP.out.1⟩
end Go.Proofs.Ytnoegbdmjinfjaa

/-
  A law for many array or struct literals, one behind the other: what they build is reckoned by the kernel. No program is named here.
-/
namespace Go.Proofs.Ytnoegbdmjinfjaa
open Go.RowKit

/-- the frame behind n operations that build -/
def buildAll (P : Program) : Nat → List Oper → Act → Option Act
  | 0, _, a => some a
  | _ + 1, [], _ => none
  | n + 1, o :: l, a =>
    match o.guard, o.op with
    | none, .build t parts =>
      match P.built t (parts.map fun (i, x) => (i, a.eval x)).toList with
      | some cells => buildAll P n l (a.put o.dst (.agg cells))
      | none => none
    | _, _ => none

theorem wpList_buildAll0 {P : Program} {ops : Array Oper} {Q : Exit → Act → World → Prop} : ∀ (n : Nat) {l : List Oper} {a a' : Act} {w : World},
    buildAll P n l a = some a' → wpList P ops Q (l.drop n) a' w → wpList P ops Q l a w
  | 0, l, a, a', w, h, k => by
    simp only [buildAll, Option.some.injEq] at h
    subst h
    exact k
  | n + 1, [], a, a', w, h, k => by simp [buildAll] at h
  | n + 1, o :: l, a, a', w, h, k => by
    unfold buildAll at h
    split at h
    · rename_i t parts hg ho
      split at h
      · rename_i cells hc
        exact wpList_buildTo hg t parts ho o.dst rfl cells hc (wpList_buildAll0 n h k)
      · cases h
    · cases h
/-- the same, its list's length said first, so that no other list is taken -/
theorem wpList_buildAll {P : Program} {ops : Array Oper} {Q : Exit → Act → World → Prop} {l : List Oper} {a : Act} {w : World} (m n : Nat) (_hm : l.length = m) (ts : Array Value)
    (h : buildAll P n l a = some { a with tmps := ts }) (k : wpList P ops Q (l.drop n) { a with tmps := ts } w) : wpList P ops Q l a w := wpList_buildAll0 n h k
/-- two results, the first of which lies in a block of its own -/
theorem results_row_tmp1 {P : Program} {fn : Func} {p u : Tmp} {ty : TypeId} (h : fn.results = #[.cell p ty, .tmp u]) (tmps : Array Value) (w : World) (g : Nat) (t : TypeId) (cs : Array Value) (fr : Nat × Nat) (d : TypeDesc)
    (hp : tmps.getD p undef = .pointer (some ⟨g, 0, none⟩)) (hg : w.heap[g]? = some (.cells cs t fr))
    (hu : P.underlying ty = some d) (hd : (match d with | .struct _ | .array _ _ => true | _ => false) = true) (hi : (P.info? ty).map (·.size) = some cs.size) :
    (results fn tmps).run P w = .ok (.tuple #[.agg cs, tmps.getD u undef]) w := by
  have hp' : tmps[p]?.getD undef = .pointer (some ⟨g, 0, none⟩) := by simpa using hp
  simp [results, h, hp', asAddr, run_loadVar_row w g t ty cs fr d hg hu hd hi, Result.andThen]
/-- a slice literal of constants of one cell each, every place written -/
theorem wpList_buildOnes {P : Program} {ops : Array Oper} {rest : List Oper} {o : Oper} {a : Act} {w : World} {Q : Exit → Act → World → Prop} (hg : o.guard = none) (t e : TypeId) (len : Nat) (parts : Array (Nat × Operand)) (ho : o.op = .buildSlice t len parts)
    (vs : List Value) (hu : P.underlying t = some (.slice e)) (hsz : (P.info? e).map (·.size) = some 1) (hz : ((P.info? e).bind (·.zero)).isSome = true)
    (hlen : len = vs.length) (hpos : 0 < len) (hsmall : len ≤ 2 ^ 24)
    (hparts : parts.toList = (vs.zipIdx 0).map fun x => (x.2, Operand.const x.1)) (h1 : ∀ v ∈ vs, v.cells = #[v])
    (h : wpList P ops Q rest (a.put o.dst (.slice (some ⟨w.heap.size, 0, none⟩) len len)) (w.alloc (.cells vs.toArray e))) : wpList P ops Q (o :: rest) a w := by
  cases hie : P.info? e with
  | none => simp [hie] at hsz
  | some ie =>
    simp only [hie, Option.map_some, Option.some.injEq, Option.bind_some] at hsz hz
    obtain ⟨z, hzz⟩ := Option.isSome_iff_exists.1 hz
    refine wpList_buildSlice hg t e len parts ho _ ie z hu hie hzz (by rw [hsz]; omega) (by rw [hsz]; omega) ?_ h
    have e1 : (parts.map fun (i, x) => (i, a.eval x)).toList = (vs.zipIdx 0).map fun x => (x.2, x.1) := by
      rw [Array.toList_map, hparts, List.map_map]
      rfl
    rw [e1, hsz]
    exact Great.fill_flat _ _ h1 (by simp [hlen])
/-- the address of a slice's element -/
theorem run_index_sl {P : Program} {t : TypeId} {s : Nat} (ht : P.underlying t = some (.slice (P.elem t))) (he : ∀ w, (sizeOf (P.elem t)).run P w = .ok s w) (b off n cap k : Nat) (hk : k < n) (q : IntKind) (W : World) :
    (Instr.indexAt t (.slice (some ⟨b, off, none⟩) n cap) (.int q k)).run P W = .ok (.pointer (some ⟨b, off + k * s, none⟩)) W := by
  rw [run_indexAt_slice W t ⟨b, off, none⟩ n cap q k ht, if_pos ⟨by omega, by omega⟩, he]
  simp [Result.andThen, Go.WideShapes.add_plain]
end Go.Proofs.Ytnoegbdmjinfjaa

/-
  What the document's own answer Same of layer 1 does: whether two rows of bytes are the same.
-/
namespace Go.Proofs.Ytnoegbdmjinfjaa
open Go.RowKit

theorem Try.info5' : (Try.prog.info? 5).map (fun i => (i.zero, i.size, i.bytes)) = some (some (.int .u8 0), 1, 1) := by kernel_rfl

theorem Try.slice22 : Try.prog.underlying 32 = some (.slice (Try.prog.elem 32)) := by kernel_rfl
theorem Try.size22 (w : World) : (sizeOf (Try.prog.elem 32)).run Try.prog w = .ok 1 w := by kernel_rfl

theorem same_any (u v : Value) (xs ys : List Int) (w : World) (hu : Sl .u8 w u xs) (hv : Sl .u8 w v ys) :
    Calls Try.prog 36 #[u, v] w fun e w' => e = .returned (.bool (decide (xs = ys))) ∧ ∃ n, w' = w.drewN n := by
  have hmx := hu.len
  have hmy := hv.len
  unfold maxLen at hmx hmy
  by_cases hl : xs.length = ys.length
  · rcases hu.parts with ⟨rfl, a, cap, rfl⟩ | ⟨hp, b, off, cap, rfl, hlc, hcm, hb, hc⟩
    · obtain rfl : ys = [] := List.eq_nil_of_length_eq_zero (by simpa using hl.symm)
      obtain ⟨a2, cap2, rfl, _⟩ := hv
      clear hl hu
      go_enter Try.func36, Try.ntmps36
      go_wp2
      refine wp_loop_rounds 1 ?_
      rw [rounds_succ]
      go_wp2
      go_ret
      exact ⟨rfl, 0, rfl⟩
    · rcases hv.parts with ⟨rfl, _⟩ | ⟨hp2, b2, off2, cap2, rfl, hlc2, hcm2, hb2, hc2⟩
      · exact absurd hl (by rw [List.length_nil]; omega)
      · have hle : xs.length ≤ ys.length := by omega
        have hge : ys.length ≤ xs.length := by omega
        have hn : ((xs.length : Int) != (ys.length : Int)) = false := by simp; omega
        clear hl hu hv
        go_enter Try.func36, Try.ntmps36
        go_wp2
        clear hn
        go_loopw [5] (fun i wr => ∃ k n : Nat, k ≤ xs.length ∧ i = .int .i64 k ∧ Hid (xs.take k = ys.take k) ∧ wr = w.drewN n) (fun i _ => xs.length - (intOf i).toNat)
        case atStart => exact ⟨0, 0, Nat.zero_le _, rfl, rfl, rfl⟩
        case round =>
          obtain ⟨k, n, hk, rfl, HT, rfl⟩ := hrel
          by_cases hlt : k < xs.length
          · have hcx := hc k hlt
            have hcy := hc2 k (by omega)
            clear hc hc2
            by_cases hz : at0 xs k = at0 ys k
            · have hb : (at0 xs k != at0 ys k) = false := by simp [hz]
              have HZ := Lib.hid hz
              clear hz
              go_wp2
              go_quiet (fail)
              go_wp2
              go_roundw
              case rel => exact ⟨k + 1, _, by omega, by go_num, (by show _ = _; rw [take_at0 xs k hlt, take_at0 ys k (by omega), HT.out, HZ.out]), rfl⟩
              case measure => simp [intOf]; omega
            · have hb : (at0 xs k != at0 ys k) = true := by simp [hz]
              have hne : xs ≠ ys := fun e => hz (by rw [e])
              have HD := Lib.hid (decide_eq_false hne)
              clear hz hne
              go_wp2
              go_quiet (fail)
              go_wp2
              go_ret
              exact ⟨by rw [HD.out]; rfl, _, by first | rfl | exact World.drewN_drewN ..⟩
          · obtain rfl : k = xs.length := by omega
            have he : xs = ys := by
              have := HT.out
              rwa [List.take_length, List.take_of_length_le (by omega)] at this
            have HD := Lib.hid (decide_eq_true he)
            clear he
            go_wp2
            go_ret
            exact ⟨by rw [HD.out]; rfl, _, by first | rfl | exact World.drewN_drewN ..⟩
  · have hn : ((xs.length : Int) != (ys.length : Int)) = true := by simp; omega
    have hne : xs ≠ ys := fun e => hl (by rw [e])
    have HD := Lib.hid (decide_eq_false hne)
    clear hne hl
    obtain ⟨a, cap, rfl, _⟩ := hu
    obtain ⟨a2, cap2, rfl, _⟩ := hv
    go_enter Try.func36, Try.ntmps36
    go_wp2
    go_ret
    exact ⟨by rw [HD.out]; rfl, 0, rfl⟩

end Go.Proofs.Ytnoegbdmjinfjaa

/-
  Layer 20's reference: the sender, Head (written by wip/tools/gen20h.py).
-/
namespace Go.Proofs.Ytnoegbdmjinfjaa
set_option maxRecDepth 20000
open Go.RowKit

theorem RsObj.setN {W : World} {R g c N : Nat} {ys : List SmV} {q : Sd} (h : RsObj W R (.slice (some ⟨g, 0, none⟩) N c) ys q) (hN : ys.length = N) {i j : Nat} {y y' : SmV} {u : Value} (hy : ys[i]? = some y) (hj : j < 7) (e : smC y' = (smC y).set j u) (hs : Sl .u8 W y'.hv y'.x.head ∧ Sl .u8 W y'.bv y'.x.b)
    (hn : (y'.x.head ≠ [] → ∀ k, y'.hv.ownBlock = some k → k ≠ R ∧ g ≠ k) ∧ (y'.x.b ≠ [] → ∀ k, y'.bv.ownBlock = some k → k ≠ R ∧ g ≠ k)) :
    RsObj (W.setCell ⟨g, i * 7 + j, none⟩ u) R (.slice (some ⟨g, 0, none⟩) N c) (ys.set i y') { q with l := q.l.set i y'.x } ∧ (ys.set i y').length = N ∧ (ys.set i y')[i]? = some y' ∧ Turn (fun k => k = g) W (W.setCell ⟨g, i * 7 + j, none⟩ u) := by
  subst hN
  obtain ⟨h1, h2⟩ := h.setC hy hj e hs hn
  exact ⟨h1, by rw [List.length_set], by rw [List.getElem?_set_self (List.getElem?_eq_some_iff.1 hy).1], h2⟩
set_option maxHeartbeats 4000000 in
theorem rhead20_yes (R : Nat) (lv : Value) (ys : List SmV) (q : Sd) (id : Int) (bv : Value) (zs : List Int) (last : Bool) (k : Nat) (y : SmV) (w : World) (h : RsObj w R lv ys q) (hat : at20 q.l id = k) (hy : ys[k]? = some y) (hs : y.x.said = false) (hb : Sl .u8 w bv zs) (hz : zs.length ≤ 16384) :
    Calls Try.prog 30 #[.pointer (some ⟨R, 0, none⟩), .int .i64 id, bv, .bool last] w fun e w' => e = .returned (.int .i64 0) ∧
      ∃ hv, RsObj w' R lv (ys.set k ⟨{ y.x with head := zs, waits := true, said := true, fin := last }, hv, y.bv⟩) { q with l := q.l.set k { y.x with head := zs, waits := true, said := true, fin := last } } ∧ Turn (fun g => lv.ownBlock = some g) w w' ∧ ∀ g, hv.ownBlock = some g → w.heap.size ≤ g := by
  obtain ⟨g, c, elv, hk, hc1, hc2, hgR, hgl, hfr, hcell⟩ := h.shape hy
  unfold maxLen at hc2
  have HR := Lib.hid (show RsObj w R (.slice (some ⟨g, 0, none⟩) ys.length c) ys q from elv ▸ h)
  subst elv
  have HAt := Lib.hid hat
  have HY := Lib.hid hy
  obtain ⟨ab, cb, rfl, _⟩ := (show _ from hb)
  have HB := Lib.hid (And.intro hb hz)
  have c4 := hcell 4 (by decide)
  simp only [smC, List.getElem?_cons_succ, List.getElem?_cons_zero] at c4
  rw [hs] at c4
  obtain ⟨f0, f1, f2⟩ := HR.out.blk.cells
  obtain ⟨N, hN⟩ : ∃ N, ys.length = N := ⟨_, rfl⟩
  have HN := Lib.hid hN
  rw [hN] at f1 hk hc1
  have dk : decide ((k : Int) < 0) = false := decide_eq_false (by omega)
  have dz : decide ((16384 : Int) < (zs.length : Int)) = false := decide_eq_false (by omega)
  have dz' : decide (16384 < zs.length) = false := decide_eq_false (by omega)
  have hix := fun q => run_index_sl (P := Try.prog) (t := 62) (s := 7) Try.underlying62 (fun _ => by kernel_rfl) g 0 N c k hk q
  simp only [Nat.zero_add] at hix
  clear hcell hfr h hat hy hN hs hb
  go_enter Try.func30, Try.ntmps30
  go_wp2_with fail
  refine (rat20_any R _ ys q id w HR.out).mono ?_
  rintro e w1 ⟨rfl, e0⟩
  have e1 := e0.symm
  clear e0
  subst e1
  rw [HAt.out]
  go_wp2_with fail
  refine wp_region_table 10 [26, 27, 28, 29, 30, 31, 32, 33, 34, 35] [[], [(0, 26)], [(1, 27)], [(2, 28)], [], [], [], [(5, 31), (6, 32)], [(3, 29), (4, 30)], [(8, 34)]]
    (fun i v w' => match i with
      | 0 => v = .pointer (some ⟨R, 0, none⟩)
      | 1 => v = .pointer (some ⟨R, 0, none⟩)
      | 2 => v = .pointer (some ⟨R, 1, none⟩)
      | 3 => v = .slice (some ⟨g, 0, none⟩) N c
      | 4 => v = .int .i64 (k : Int)
      | 5 => ∃ C, v = .slice (some ⟨C, 0, none⟩) 0 0 ∧ w'.ownsRow w.heap.size 5 1 (.slice (some ⟨C, 0, none⟩) 0 0) 0 []
      | 6 => v = .slice ab zs.length cb
      | 7 => w'.ownsRow w.heap.size 5 1 v zs.length (zs.map (Value.int .u8))
      | 8 => v = .pointer (some ⟨g, k * 7, none⟩)
      | 9 => v = .pointer (some ⟨g, k * 7 + 2, none⟩)
      | _ => True) (by kernel_rfl) (by kernel_rfl) ?tStab ?tOps ?tRest
  case tStab =>
    intro i v w3 w4 h hb
    match i, h with
    | 0, h | 1, h | 2, h | 3, h | 4, h | 6, h | 8, h | 9, h => exact h
    | 5, h => exact (by obtain ⟨C, e, h1⟩ := h; exact ⟨C, e, owned_below h1 hb⟩)
    | 7, h => exact owned_below h hb
    | i + 10, _ => trivial
  case tOps =>
    simp only [List.take_succ_cons, List.take_zero, opsOk]
    refine ⟨?_, ?_, ?_, ?_, ?_, ?_, ?_, ?_, ?_, ?_, trivial⟩
    · intro ρ w3 hc hf ho hB hj
      have x0 : ρ (.tmp 0) = .pointer (some ⟨R, 0, none⟩) := ho 0 (by decide)
      simp [gives, go_sem, x0, Below.refl]
    · intro ρ w3 hc hf ho hB hj
      have x0 : ρ (.tmp 26) = .pointer (some ⟨R, 0, none⟩) := hj (0, 26) (by simp)
      simp [gives, go_sem, x0, Below.refl]
    · intro ρ w3 hc hf ho hB hj
      have x0 : ρ (.tmp 27) = .pointer (some ⟨R, 0, none⟩) := hj (1, 27) (by simp)
      simp [gives, go_sem, x0, Below.refl]
    · intro ρ w3 hc hf ho hB hj
      have x0 : ρ (.tmp 28) = .pointer (some ⟨R, 1, none⟩) := hj (2, 28) (by simp)
      obtain ⟨f0, f1, f2⟩ := (HR.out.below hB).blk.cells
      rw [HN.out] at f1
      simp [gives, go_sem, x0, f1, Below.refl]
    · intro ρ w3 hc hf ho hB hj
      have x0 : ρ (.tmp 9) = .int .i64 (k : Int) := ho 9 (by decide)
      simp [gives, go_sem, x0, Below.refl]
    · intro ρ w3 hc hf ho hB hj
      simp [gives, go_sem]
      exact ⟨World.ownsRow_made _ _ 0 hB.size (by decide) rfl, (Below.refl _ _).alloc (Nat.le_refl _) _⟩
    · intro ρ w3 hc hf ho hB hj
      have x0 : ρ (.tmp 2) = .slice ab zs.length cb := ho 2 (by decide)
      simp [gives, go_sem, x0, Below.refl]
    · intro ρ w3 hc hf ho hB hj
      have x0 : ∃ C, (ρ (.tmp 31)) = .slice (some ⟨C, 0, none⟩) 0 0 ∧ w3.ownsRow w.heap.size 5 1 (.slice (some ⟨C, 0, none⟩) 0 0) 0 [] := hj (5, 31) (by simp)
      have x1 : ρ (.tmp 32) = .slice ab zs.length cb := hj (6, 32) (by simp)
      obtain ⟨C, x0, hown⟩ := x0
      refine gives_fresh_ints (.tmp 31) (.tmp 32) 32 rfl w.heap.size 5 .u8 1 Try.underlying32 Try.info5' C x0 hown _ zs x1 (HB.out.1.below hB) (by have := HB.out.2; omega) (by have := HB.out.2; unfold maxLen; omega) hB.size ?_
      intro v5 w5 ho5 hb5
      exact ⟨ho5, hb5⟩
    · intro ρ w3 hc hf ho hB hj
      have x0 : ρ (.tmp 29) = .slice (some ⟨g, 0, none⟩) N c := hj (3, 29) (by simp)
      have x1 : ρ (.tmp 30) = .int .i64 (k : Int) := hj (4, 30) (by simp)
      have i1 := hix .i64
      simp [gives, go_sem, x0, x1, i1, Below.refl]
    · intro ρ w3 hc hf ho hB hj
      have x0 : ρ (.tmp 34) = .pointer (some ⟨g, k * 7, none⟩) := hj (8, 34) (by simp)
      simp [gives, go_sem, x0, Below.refl]
  case tRest =>
    intro X w3 hBw hX
    have x0 : X 0 = .pointer (some ⟨R, 0, none⟩) := hX 0 (by decide)
    have x1 : X 1 = .pointer (some ⟨R, 0, none⟩) := hX 1 (by decide)
    have x2 : X 2 = .pointer (some ⟨R, 1, none⟩) := hX 2 (by decide)
    have x3 : X 3 = .slice (some ⟨g, 0, none⟩) N c := hX 3 (by decide)
    have x4 : X 4 = .int .i64 (k : Int) := hX 4 (by decide)
    have x5 := hX 5 (by decide)
    have x6 : X 6 = .slice ab zs.length cb := hX 6 (by decide)
    have x7 := hX 7 (by decide)
    have x8 : X 8 = .pointer (some ⟨g, k * 7, none⟩) := hX 8 (by decide)
    have x9 : X 9 = .pointer (some ⟨g, k * 7 + 2, none⟩) := hX 9 (by decide)
    simp only [putAll, List.getD_cons_zero, List.getD_cons_succ, Act.put, List.setIfInBounds_toArray, List.set_cons_zero, List.set_cons_succ, List.drop_succ_cons, List.drop_zero]
    rw [x0, x1, x2, x3, x4, x6, x8, x9]
    obtain ⟨C, e5, _⟩ := x5
    obtain ⟨a7, k7, e7, _⟩ := owned_shape x7
    rw [e7] at x7
    rw [e5, e7]
    have HO := Lib.hid (show RsObj w3 R (.slice (some ⟨g, 0, none⟩) N c) ys q ∧ Sl .u8 w3 (.slice a7 zs.length k7) zs ∧ (∀ g, (Value.slice a7 zs.length k7).ownBlock = some g → w.heap.size ≤ g) ∧ Below w.heap.size w w3 from
      ⟨by rw [← HN.out]; exact HR.out.below hBw, Sl.of_own x7 HB.out.1.fit (by have := HB.out.2; unfold maxLen; omega), fun g hg => (x7.lt g hg).1, hBw⟩)
    have hnp : ∀ y' : SmV, y'.hv = .slice a7 zs.length k7 → y'.bv = y.bv → y'.x.b = y.x.b → (y'.x.head ≠ [] → ∀ k, y'.hv.ownBlock = some k → k ≠ R ∧ g ≠ k) ∧ (y'.x.b ≠ [] → ∀ k, y'.bv.ownBlock = some k → k ≠ R ∧ g ≠ k) := fun y' e1 e2 e3 => by
      have hn := HR.out.np y (List.mem_of_getElem? HY.out)
      have hR := HR.out.blk.lt
      rw [e1, e2, e3]
      exact ⟨fun _ k hk => ⟨fun e => by have := HO.out.2.2.1 k hk; omega, fun e => by have := HO.out.2.2.1 k hk; omega⟩, fun h1 k hk => ⟨(hn.2 h1 k hk).1, fun e => (hn.2 h1 k hk).2 (by rw [← e]; rfl)⟩⟩
    have hpb : Sl .u8 w3 y.bv y.x.b := (HO.out.1.pay y (List.mem_of_getElem? HY.out)).2
    obtain ⟨s1, n1, t1, u1⟩ := HO.out.1.setN HN.out (j := 2) (y' := ⟨{ y.x with head := zs }, .slice a7 zs.length k7, y.bv⟩) (u := .slice a7 zs.length k7) HY.out (by decide) rfl ⟨HO.out.2.1, hpb⟩ (hnp _ rfl rfl rfl)
    have p1 := s1.pay _ (List.mem_of_getElem? t1)
    obtain ⟨s2, n2, t2, u2⟩ := s1.setN n1 (j := 3) (y' := ⟨{ y.x with head := zs, waits := true }, .slice a7 zs.length k7, y.bv⟩) (u := .bool true) t1 (by decide) rfl p1 (hnp _ rfl rfl rfl)
    have p2 := s2.pay _ (List.mem_of_getElem? t2)
    obtain ⟨s3, n3, t3, u3⟩ := s2.setN n2 (j := 4) (y' := ⟨{ y.x with head := zs, waits := true, said := true }, .slice a7 zs.length k7, y.bv⟩) (u := .bool true) t2 (by decide) rfl p2 (hnp _ rfl rfl rfl)
    have p3 := s3.pay _ (List.mem_of_getElem? t3)
    obtain ⟨s4, n4, t4, u4⟩ := s3.setN n3 (j := 5) (y' := ⟨{ y.x with head := zs, waits := true, said := true, fin := last }, .slice a7 zs.length k7, y.bv⟩) (u := .bool last) t3 (by decide) rfl p3 (hnp _ rfl rfl rfl)
    have HF := Lib.hid (And.intro s4 (((Turn.of_below HO.out.2.2.2 : Turn (fun k => k = g) w w3).trans u1).trans (u2.trans (u3.trans u4))))
    obtain ⟨_, _, _, hka, _, _, _, hgl3, hfr, hcell⟩ := HO.out.1.shape HY.out
    obtain ⟨f0, f1, f2⟩ := HO.out.1.blk.cells
    have HA := Lib.hid (And.intro hfr hcell)
    clear x0 x1 x2 x3 x4 x6 x7 x8 x9 e5 e7 hX hBw hnp hpb p1 p2 p3 s1 n1 t1 u1 s2 n2 t2 u2 s3 n3 t3 u3 s4 n4 t4 u4 hka hgl3 hfr hcell
    have q2 := HA.out.2 2 (by decide)
    have q3 := HA.out.2 3 (by decide)
    have q4 := HA.out.2 4 (by decide)
    have q5 := HA.out.2 5 (by decide)
    have z2 := HA.out.1 (k * 7 + 2)
    have z3 := HA.out.1 (k * 7 + 3)
    have z4 := HA.out.1 (k * 7 + 4)
    have z5 := HA.out.1 (k * 7 + 5)
    simp only [smC, List.getElem?_cons_succ, List.getElem?_cons_zero] at q2 q3 q4 q5
    clear c4
    go_wp2_with fail
    go_ret
    have hs := HF.out
    simp only [List.set_set] at hs
    exact ⟨rfl, .slice a7 zs.length k7, by first | exact hs.1 | (rw [HN.out]; exact hs.1), hs.2.mono (fun j _ e => by rw [show j = g from e]; rfl), HO.out.2.2.1⟩
end Go.Proofs.Ytnoegbdmjinfjaa

/-
  Regions that draw their order, walked under a held condition: an operation taken early, the only one that is ready. No program is named here.
-/
namespace Go.Proofs.Ytnoegbdmjinfjaa
open Go.RowKit

theorem wpAnyH_early {P : Program} {ops : Array Oper} {Q : Exit → Act → World → Prop} {md : Region.Mode} {S : World → Prop} (i : Nat) (d : Tmp) (v : Value) {fuel : Nat} {listed : Array Bool} {a : Act} {w : World}
    (hs : Region.noSelect ops = true) (hf : Region.free md ops listed i = true) (hr : (Region.ready md ops listed).contains i = true) (hQ : ∀ c a w, Q (.panic c) (a.put (some d) v) w → Q (.panic c) a w)
    (ho : (ops[i]?).map (·.dst) = some (some d)) (hy : ∀ o, ops[i]? = some o → YieldsIf P ops S o v a) (hS : S w)
    (h : wpAnyH P md ops Q S fuel (listed.setIfInBounds i true) (a.put (some d) v) w) : wpAnyH P md ops Q S (fuel + 1) listed a w := by
  cases hi : ops[i]? with
  | none => rw [hi] at ho; cases ho
  | some o =>
    rw [hi] at ho
    have hd : o.dst = some d := by simpa using ho
    refine wpAnyH_take hi hs hf hr ?_ (hy o hi) hS ?_
    · rw [hd]; exact hQ
    · rw [hd]; exact h
theorem wpAnyH_only {P : Program} {ops : Array Oper} {Q : Exit → Act → World → Prop} {md : Region.Mode} {S : World → Prop} (i : Nat) {fuel : Nat} {listed : Array Bool} {a : Act} {w : World} (hr : Region.ready md ops listed = [i]) (hg : (ops[i]?).map (·.guard) = some none)
    (h : ∀ o, ops[i]? = some o → o.wp P a w (fun a' w' => S w' ∧ wpAnyH P md ops Q S fuel (listed.setIfInBounds i true) a' w') Q) : wpAnyH P md ops Q S (fuel + 1) listed a w := by
  refine wpAnyH_all hr (by simp) fun j hj => ?_
  simp only [List.mem_singleton] at hj
  subst hj
  cases ho : ops[j]? with
  | none => rw [ho] at hg; cases hg
  | some o =>
    rw [ho] at hg
    simp only [Option.map_some, Option.some.injEq] at hg
    unfold wpOp
    simp only [ho, wanted_none hg, if_true]
    exact .inl (h o ho)
/-- two are ready -/
theorem wpAnyH_two {P : Program} {ops : Array Oper} {Q : Exit → Act → World → Prop} {md : Region.Mode} {S : World → Prop} (i j : Nat) {fuel : Nat} {listed : Array Bool} {a : Act} {w : World} (hr : Region.ready md ops listed = [i, j]) (hgi : (ops[i]?).map (·.guard) = some none) (hgj : (ops[j]?).map (·.guard) = some none)
    (hi : ∀ o, ops[i]? = some o → o.wp P a w (fun a' w' => S w' ∧ wpAnyH P md ops Q S fuel (listed.setIfInBounds i true) a' w') Q)
    (hj : ∀ o, ops[j]? = some o → o.wp P a w (fun a' w' => S w' ∧ wpAnyH P md ops Q S fuel (listed.setIfInBounds j true) a' w') Q) : wpAnyH P md ops Q S (fuel + 1) listed a w := by
  refine wpAnyH_all hr (by simp) fun n hn => ?_
  simp only [List.mem_cons, List.not_mem_nil, or_false] at hn
  rcases hn with rfl | rfl
  · cases ho : ops[n]? with
    | none => rw [ho] at hgi; cases hgi
    | some o =>
      rw [ho] at hgi
      simp only [Option.map_some, Option.some.injEq] at hgi
      unfold wpOp
      simp only [ho, wanted_none hgi, if_true]
      exact .inl (hi o ho)
  · cases ho : ops[n]? with
    | none => rw [ho] at hgj; cases hgj
    | some o =>
      rw [ho] at hgj
      simp only [Option.map_some, Option.some.injEq] at hgj
      unfold wpOp
      simp only [ho, wanted_none hgj, if_true]
      exact .inl (hj o ho)
/-- two are ready: the first makes something, the second yields the same in every world: they commute -/
theorem wpAnyH_swap {P : Program} {ops : Array Oper} {Q : Exit → Act → World → Prop} {md : Region.Mode} {S : World → Prop} (i j di dj : Nat) (v : Value) {fuel : Nat} {listed : Array Bool} {a : Act} {w : World} (hr : Region.ready md ops listed = [i, j])
    (hri : Region.ready md ops (listed.setIfInBounds i true) = [j]) (hrj : Region.ready md ops (listed.setIfInBounds j true) = [i]) (hgi : (ops[i]?).map (fun o => (o.dst, o.guard)) = some (some di, none)) (hgj : (ops[j]?).map (fun o => (o.dst, o.guard)) = some (some dj, none)) (hij : i ≠ j) (hd : di ≠ dj)
    (R : Value → World → Prop) (hi : ∀ o, ops[i]? = some o → gives P o a.eval w R ∧ gives P o (a.put (some dj) v).eval w R)
    (hj : ∀ o, ops[j]? = some o → gives P o a.eval w (fun u w' => u = v ∧ w' = w) ∧ ∀ u w1, R u w1 → gives P o (a.put (some di) u).eval w1 (fun x w' => x = v ∧ w' = w1)) (hS0 : S w) (hS : ∀ u w', R u w' → S w')
    (h : ∀ u w', R u w' → wpAnyH P md ops Q S fuel ((listed.setIfInBounds i true).setIfInBounds j true) ((a.put (some di) u).put (some dj) v) w') : wpAnyH P md ops Q S (fuel + 2) listed a w := by
  have gi : ∀ o, ops[i]? = some o → o.dst = some di ∧ o.guard = none := fun o ho => by rw [ho] at hgi; simpa using hgi
  have gj : ∀ o, ops[j]? = some o → o.dst = some dj ∧ o.guard = none := fun o ho => by rw [ho] at hgj; simpa using hgj
  have hgi' : (ops[i]?).map (·.guard) = some none := by
    cases ho : ops[i]? with
    | none => rw [ho] at hgi; cases hgi
    | some o => simp [(gi o ho).2]
  have hgj' : (ops[j]?).map (·.guard) = some none := by
    cases ho : ops[j]? with
    | none => rw [ho] at hgj; cases hgj
    | some o => simp [(gj o ho).2]
  refine wpAnyH_two i j hr hgi' hgj' (fun o ho => ?_) (fun o ho => ?_)
  · refine wp_of_gives (hi o ho).1 (fun u w1 hu => ⟨hS u w1 hu, ?_⟩)
    rw [(gi o ho).1]
    refine wpAnyH_only j hri hgj' (fun o' ho' => ?_)
    refine wp_of_gives ((hj o' ho').2 u w1 hu) ?_
    rintro x w' ⟨rfl, rfl⟩
    rw [(gj o' ho').1]
    exact ⟨hS u _ hu, h u _ hu⟩
  · refine wp_of_gives (hj o ho).1 ?_
    rintro x w' ⟨rfl, rfl⟩
    refine ⟨hS0, ?_⟩
    rw [(gj o ho).1]
    refine wpAnyH_only i hrj hgi' (fun o' ho' => ?_)
    refine wp_of_gives (hi o' ho').2 (fun u w1 hu => ⟨hS u w1 hu, ?_⟩)
    rw [(gi o' ho').1]
    have h2 := h u w1 hu
    rw [Array.setIfInBounds_comm _ _ hij] at h2
    rwa [Act.put_comm _ _ _ (fun d e1 e2 => hd ((Option.some.inj e1).trans (Option.some.inj e2).symm))] at h2
/-- a value of one cell, stored -/
theorem wp_put {P : Program} {o : Oper} {a : Act} {w : World} {K : Act → World → Prop} {Q : Exit → Act → World → Prop} (hd : o.dst = none) (ty : TypeId) (x y : Operand) (ho : o.op = .store ty x y) (g j : Nat) (u : Value) (hx : a.eval x = .pointer (some ⟨g, j, none⟩)) (hy : a.eval y = u) (h1 : u.oneCell' = true)
    (hi : (P.info? ty).map (·.size) = some 1) (hc : (w.cell? ⟨g, j, none⟩).isSome = true) (hf : w.frozen? ⟨g, j, none⟩ = false) (h : K a (w.setCell ⟨g, j, none⟩ u)) : o.wp P a w K Q := by
  have hcs : u.cells = #[u] := by cases u <;> first | rfl | cases h1
  have hrun : (storeVar ty ⟨g, j, none⟩ u).run P w = .ok () (w.setCell ⟨g, j, none⟩ u) := by
    cases hq : P.info? ty with
    | none => simp [hq] at hi
    | some i =>
      have hs : i.size = 1 := by simpa [hq] using hi
      have h2 := run_storeCells_cells (P := P) g j [u] 0 w (fun k hk => by have e : k = 0 := (by simpa using hk); subst e; exact hc) (fun k hk => by have e : k = 0 := (by simpa using hk); subst e; exact hf) (fun v hv => by simp at hv; subst hv; exact h1)
      simp only [Nat.add_zero] at h2
      simp [storeVar, sizeOf, typeInfo, hq, hcs, hs, h2]
      rfl
  unfold Oper.wp execOp
  simp only [ho, hx, hy, Instr.storeAt, Instr.sureAddr, Sem.run_bind, Sem.run_pure, Result.andThen_ok, hrun]
  have h' : K (a.put o.dst undef) (w.setCell ⟨g, j, none⟩ u) := by rw [hd]; exact h
  exact h'
end Go.Proofs.Ytnoegbdmjinfjaa

/-
  A region that draws its order and only reads, and calls what makes memory: its operations one by one, in a class of worlds. No program is named here.
-/
namespace Go.Proofs.Ytnoegbdmjinfjaa
open Go.RowKit

/-- one operation: what it leaves of a class of worlds -/
theorem quiet_take {P : Program} {ops : Array Oper} {C : World → Prop} {Q : Act → Prop} {o : Oper} {rest : List Oper} {a : Act} (v : Value) (hw : Region.wanted o (yielded ops a.tmps) = true) (h : ∀ w, C w → o.quietAt P a C w v) (hr : wpQuiet P ops C Q rest (a.put o.dst v)) : wpQuiet P ops C Q (o :: rest) a :=
  wpQuiet_step fun K hK => by rw [if_pos hw]; exact ⟨v, h, hK _ hr⟩
theorem quiet_pure {P : Program} {C : World → Prop} {o : Oper} {a : Act} {v : Value} (h : ∀ w, (execOp a.eval o).run P w = .ok (.value v) w) : ∀ w, C w → o.quietAt P a C w v := fun w _ => by
  unfold Oper.quietAt; rw [h w]; exact ⟨rfl, rfl⟩
theorem quiet_call {P : Program} {C : World → Prop} {o : Oper} {a : Act} {v : Value} (f : FuncId) (xs : Array Operand) (ts : Array TypeId) (ho : o.op = .call { callee := .value (.func f), args := xs, argTypes := ts })
    (vals : List Value) (hx : xs.toList.map a.eval = vals) (he : ∀ args w, (callFunc f args).run P w = .ok (.enter f args) w) (h : ∀ w, C w → Calls P f vals.toArray w fun e w'' => e = .returned v ∧ C w'') : ∀ w, C w → o.quietAt P a C w v := fun w hw => by
  have hx' : xs.map a.eval = vals.toArray := by rw [← hx, ← Array.toList_map, Array.toArray_toList]
  have h' := h w hw
  rw [← hx'] at h'
  unfold Oper.quietAt execOp
  simp [ho, resolve, invoke, go_sem, he, Oper.quietUpon]
  exact h'

theorem quiet_is {P : Program} {C : World → Prop} {o : Oper} {a : Act} {v : Value} (h : ∀ w, C w → (execOp a.eval o).run P w = .ok (.value v) w) : ∀ w, C w → o.quietAt P a C w v := fun w hw => by
  unfold Oper.quietAt; rw [h w hw]; exact ⟨rfl, rfl⟩
end Go.Proofs.Ytnoegbdmjinfjaa
