
/-
  Numbers as bytes, plain mathematics: no program is named here.
-/
import Derived.Test.YtiappeagdnkedaaKit
import Derived.Test.YtiappeagdnkedaaBits
namespace Go.Proofs.Ytiappeagdnkedaa

/-- the number whose bytes these are, the highest one first -/
def num (zs : List Int) : Int := zs.foldl (fun n z => 256 * n + z) 0
theorem num_nil : num [] = 0 := rfl
theorem num_snoc (zs : List Int) (z : Int) : num (zs ++ [z]) = 256 * num zs + z := by simp [num, List.foldl_append]
theorem num_take (zs : List Int) (k : Nat) (h : k < zs.length) : num (zs.take (k + 1)) = 256 * num (zs.take k) + at0 zs k := by
  rw [take_at0 zs k h, num_snoc]
theorem num_bound : ∀ (k : Nat) (zs : List Int), zs.length = k → Fit .u8 zs → 0 ≤ num zs ∧ num zs < 256 ^ k := by
  intro k
  induction k with
  | zero => intro zs h _; obtain rfl := List.eq_nil_of_length_eq_zero h; simp [num]
  | succ k ih =>
    intro zs h hf
    have e := take_at0 zs k (by omega)
    rw [List.take_of_length_le (by omega)] at e
    have hb := hf.byte k
    have := ih (zs.take k) (by simp; omega) (hf.take k)
    rw [e, num_snoc, Int.pow_succ]
    omega
theorem num_take_bound (zs : List Int) (k : Nat) (hf : Fit .u8 zs) (hk : k ≤ zs.length) : 0 ≤ num (zs.take k) ∧ num (zs.take k) < 256 ^ k :=
  num_bound k _ (by simp; omega) (hf.take k)
theorem num_small (zs : List Int) (k : Nat) (hf : Fit .u8 zs) (hk : k < zs.length) (h4 : zs.length ≤ 4) : 0 ≤ num (zs.take k) ∧ num (zs.take k) ≤ 16777215 := by
  have := num_take_bound zs k hf (by omega)
  have h : (256 : Int) ^ k ≤ 256 ^ 3 := by
    rcases (show k = 0 ∨ k = 1 ∨ k = 2 ∨ k = 3 by omega) with rfl | rfl | rfl | rfl <;> decide
  have e : (256 : Int) ^ 3 = 16777216 := by decide
  omega

/-- a number's bytes, the highest one first: the lowest so many -/
def putL (n : Int) : Nat → List Int
  | 0 => []
  | s + 1 => putL (n / 256) s ++ [n % 256]
theorem putL_length (s : Nat) : ∀ n, (putL n s).length = s := by
  induction s with
  | zero => intro n; rfl
  | succ s ih => intro n; simp [putL, ih]
theorem putL_fit (s : Nat) : ∀ n, Fit .u8 (putL n s) := by
  induction s with
  | zero => intro n x hx; simp [putL] at hx
  | succ s ih =>
    intro n x hx
    simp only [putL, List.mem_append, List.mem_singleton] at hx
    rcases hx with hx | rfl
    · exact ih _ x hx
    · exact WalkArith.wf_u8 (by omega)
theorem div_pow8 (n : Int) (k : Nat) : n / 2 ^ (8 * k) = n / 256 ^ k := by rw [Int.pow_mul]; rfl
theorem putL_cons (s : Nat) : ∀ n, putL n (s + 1) = (n / 256 ^ s % 256) :: putL n s := by
  induction s with
  | zero => intro n; simp [putL]
  | succ s ih =>
    intro n
    rw [putL, ih (n / 256), putL, List.cons_append, Int.ediv_ediv_of_nonneg (by omega), Int.pow_succ, Int.mul_comm]
/-- so many places, of which the last k are filled -/
def rowP (n : Int) (s k : Nat) : List Int := List.replicate (s - k) 0 ++ putL n k
theorem rowP_length (n : Int) (s k : Nat) (h : k ≤ s) : (rowP n s k).length = s := by simp [rowP, putL_length]; omega
theorem rowP_set (n : Int) (s k : Nat) (h : k < s) : (rowP n s k).set (s - 1 - k) (n / 256 ^ k % 256) = rowP n s (k + 1) := by
  unfold rowP
  obtain ⟨d, rfl⟩ : ∃ d, s = k + 1 + d := ⟨s - (k + 1), by omega⟩
  rw [show k + 1 + d - k = d + 1 by omega, show k + 1 + d - 1 - k = d by omega, show k + 1 + d - (k + 1) = d by omega, List.replicate_succ', List.append_assoc, putL_cons,
    List.set_append_right _ _ (by simp)]
  simp
theorem rowP_whole (n : Int) (s : Nat) : rowP n s s = putL n s := by simp [rowP]
theorem rowP_zero (n : Int) (s : Nat) : rowP n s 0 = List.replicate s 0 := by simp [rowP, putL]
theorem num_putL (s : Nat) : ∀ n, 0 ≤ n → n < 256 ^ s → num (putL n s) = n := by
  induction s with
  | zero => intro n h1 h2; simp at h2; have : n = 0 := by omega
            subst this; rfl
  | succ s ih =>
    intro n h1 h2
    rw [Int.pow_succ] at h2
    rw [putL, num_snoc, ih (n / 256) (by omega) (by omega)]
    omega
theorem putL_num : ∀ (s : Nat) (zs : List Int), zs.length = s → Fit .u8 zs → putL (num zs) s = zs := by
  intro s
  induction s with
  | zero => intro zs h _; obtain rfl := List.eq_nil_of_length_eq_zero h; rfl
  | succ s ih =>
    intro zs h hf
    have e := take_at0 zs s (by omega)
    rw [List.take_of_length_le (by omega)] at e
    have hb := hf.byte s
    have := ih (zs.take s) (by simp; omega) (hf.take s)
    have hn : num zs = 256 * num (zs.take s) + at0 zs s := by rw [← num_snoc, ← e]
    rw [putL, hn, show (256 * num (zs.take s) + at0 zs s) / 256 = num (zs.take s) by omega, show (256 * num (zs.take s) + at0 zs s) % 256 = at0 zs s by omega, this, ← e]

theorem num_cons_aux (zs : List Int) : ∀ a : Int, zs.foldl (fun n z => 256 * n + z) a = a * 256 ^ zs.length + num zs := by
  induction zs with
  | nil => intro a; simp [num]
  | cons z zs ih =>
    intro a
    have h2 : num (z :: zs) = (256 * 0 + z) * 256 ^ zs.length + num zs := ih _
    rw [List.foldl_cons, ih, h2, List.length_cons, Int.pow_succ]
    generalize (256 : Int) ^ zs.length = P
    rw [Int.mul_zero, Int.zero_add, Int.add_mul, Int.mul_comm 256 a, Int.mul_assoc, Int.mul_comm P 256, Int.add_assoc]
theorem num_cons (a : Int) (zs : List Int) : num (a :: zs) = a * 256 ^ zs.length + num zs := by
  have := num_cons_aux zs (256 * 0 + a)
  simpa [num] using this
/-- are bytes less than others, the first that differs telling? -/
def lessL : List Int → List Int → Bool
  | a :: as, b :: bs => if a = b then lessL as bs else decide (a < b)
  | _, _ => false
theorem lessL_num : ∀ (xs ys : List Int), xs.length = ys.length → Fit .u8 xs → Fit .u8 ys → lessL xs ys = decide (num xs < num ys) := by
  intro xs
  induction xs with
  | nil => intro ys h _ _; obtain rfl := List.eq_nil_of_length_eq_zero h.symm; simp [lessL]
  | cons a as ih =>
    intro ys h hx hy
    cases ys with
    | nil => simp at h
    | cons b bs =>
      have hl : as.length = bs.length := by simpa using h
      have fx : Fit .u8 as := fun n hn => hx n (List.mem_cons_of_mem _ hn)
      have fy : Fit .u8 bs := fun n hn => hy n (List.mem_cons_of_mem _ hn)
      have bx := num_bound _ as rfl fx
      have by_ := num_bound _ bs rfl fy
      rw [lessL, num_cons, num_cons, hl]
      rw [hl] at bx
      have hp : (0 : Int) ≤ 256 ^ bs.length := Int.le_of_lt (Int.pow_pos (by omega))
      generalize (256 : Int) ^ bs.length = P at *
      by_cases e : a = b
      · subst e
        rw [if_pos rfl, ih bs hl fx fy]
        congr 1
        apply propext
        omega
      · rw [if_neg e]
        congr 1
        apply propext
        by_cases hab : a < b
        · have := Int.mul_le_mul_of_nonneg_right (show a + 1 ≤ b by omega) hp
          rw [Int.add_mul] at this
          omega
        · have := Int.mul_le_mul_of_nonneg_right (show b + 1 ≤ a by omega) hp
          rw [Int.add_mul] at this
          omega
theorem lessL_at : ∀ (k : Nat) (xs ys : List Int), xs.take k = ys.take k → k < xs.length → k < ys.length → at0 xs k ≠ at0 ys k → lessL xs ys = decide (at0 xs k < at0 ys k) := by
  intro k
  induction k with
  | zero =>
    intro xs ys _ h1 h2 hne
    cases xs with
    | nil => simp at h1
    | cons a as =>
      cases ys with
      | nil => simp at h2
      | cons b bs => simp [at0] at hne ⊢; simp [lessL, hne]
  | succ k ih =>
    intro xs ys h h1 h2 hne
    cases xs with
    | nil => simp at h1
    | cons a as =>
      cases ys with
      | nil => simp at h2
      | cons b bs =>
        simp only [List.take_succ_cons, List.cons.injEq] at h
        obtain ⟨rfl, h⟩ := h
        have e1 : at0 (a :: as) (k + 1) = at0 as k := by simp [at0]
        have e2 : at0 (a :: bs) (k + 1) = at0 bs k := by simp [at0]
        rw [e1, e2] at *
        rw [lessL, if_pos rfl]
        exact ih as bs h (by simpa using h1) (by simpa using h2) hne
theorem lessL_end : ∀ (xs ys : List Int), xs.take (min xs.length ys.length) = ys.take (min xs.length ys.length) → lessL xs ys = false := by
  intro xs
  induction xs with
  | nil => intro ys _; simp [lessL]
  | cons a as ih =>
    intro ys h
    cases ys with
    | nil => simp [lessL]
    | cons b bs =>
      have e : min (a :: as).length (b :: bs).length = min as.length bs.length + 1 := by simp only [List.length_cons]; omega
      rw [e] at h
      simp only [List.take_succ_cons, List.cons.injEq] at h
      obtain ⟨rfl, h⟩ := h
      rw [lessL, if_pos rfl]
      exact ih bs h

end Go.Proofs.Ytiappeagdnkedaa
