
/-
  Numbers in a part of a byte: plain mathematics, no function of the program is named here.
-/
import Derived.Test.YtimggejonppegaaDoorKit
namespace Go.Proofs.YtimggejonppegaaDoor
open Go.RowKit

/-- groups of seven bits, the lowest first, at most so many and one -/
def grpL : Nat → Int → List Int
  | 0, r => [r]
  | f + 1, r => if r < 128 then [r] else (128 + r % 128) :: grpL f (r / 128)
/-- the bytes of a number, for a prefix that holds up to m -/
def encP (m above n : Int) : List Int := if n < m then [above + n] else (above + m) :: grpL 4 (n - m)
/-- what is read behind a full prefix: 'f': so many bytes more at most -/
def decF (zs : List Int) : Nat → Nat → Int → Int → Int × Int × Int
  | 0, _, _, _ => (0, 0, 3)
  | f + 1, i, t, n =>
    if zs.length ≤ i then (0, 0, 2)
    else if 16777215 < n + t * (at0 zs i % 128) then (0, 0, 3)
    else if at0 zs i < 128 then (n + t * (at0 zs i % 128), (i : Int) + 1, 0)
    else decF zs f (i + 1) (128 * t) (n + t * (at0 zs i % 128))
/-- the number that bytes begin with, how many they are, the error -/
def decP (m : Int) (zs : List Int) : Int × Int × Int :=
  if zs.length = 0 then (0, 0, 2) else if at0 zs 0 % (m + 1) < m then (at0 zs 0 % (m + 1), 1, 0) else decF zs 4 1 1 m

theorem grpL_fit : ∀ (f : Nat) (r : Int), 0 ≤ r → r < 128 * 128 ^ f → Fit .u8 (grpL f r)
  | 0, r, h0, h1 => by
    intro n hn
    simp only [grpL, List.mem_singleton] at hn
    subst hn
    exact WalkArith.wf_u8 (by simp at h1; omega)
  | f + 1, r, h0, h1 => by
    intro n hn
    unfold grpL at hn
    split at hn
    · simp only [List.mem_singleton] at hn
      subst hn
      exact WalkArith.wf_u8 (by omega)
    · rcases List.mem_cons.1 hn with rfl | hn
      · exact WalkArith.wf_u8 (by omega)
      · refine grpL_fit f (r / 128) (by omega) ?_ n hn
        rw [Int.pow_succ] at h1
        exact Int.ediv_lt_of_lt_mul (by omega) (by rw [Int.mul_comm _ 128] at h1; rw [Int.mul_comm _ 128]; exact h1)
theorem grpL_length : ∀ (f : Nat) (r : Int), 1 ≤ (grpL f r).length ∧ (grpL f r).length ≤ f + 1
  | 0, r => by simp [grpL]
  | f + 1, r => by
    unfold grpL
    split
    · simp
    · have := grpL_length f (r / 128)
      simp; omega
theorem grpL_small {f : Nat} {r : Int} (h : r < 128) : grpL f r = [r] := by
  cases f with
  | zero => rfl
  | succ f => rw [grpL, if_pos h]
theorem grpL_great {f : Nat} {r : Int} (h : 128 ≤ r) : grpL (f + 1) r = (128 + r % 128) :: grpL f (r / 128) := by rw [grpL, if_neg (by omega)]
theorem encP_length (m above n : Int) : 1 ≤ (encP m above n).length ∧ (encP m above n).length ≤ 6 := by
  unfold encP
  split
  · simp
  · have := grpL_length 4 (n - m); simp; omega
theorem at0_app_right (xs ys : List Int) (i : Nat) : at0 (xs ++ ys) (xs.length + i) = at0 ys i := by
  simp [at0, List.getElem?_append_right]
theorem at0_app_left {xs ys : List Int} {i : Nat} (h : i < xs.length) : at0 (xs ++ ys) i = at0 xs i := by
  simp [at0, List.getElem?_append_left h]
theorem at0_zero (x : Int) (ys : List Int) : at0 (x :: ys) 0 = x := rfl

/-- there and back, behind a full prefix -/
theorem decF_grpL : ∀ (f : Nat) (pre behind : List Int) (t n r : Int), 0 ≤ r → r < 128 * 128 ^ f → 0 < t → n + t * r ≤ 16777215 →
    decF (pre ++ (grpL f r ++ behind)) (f + 1) pre.length t n = (n + t * r, (pre.length : Int) + ((grpL f r).length : Int), 0)
  | f, pre, behind, t, n, r, h0, h1, ht, hm => by
    have ha : at0 (pre ++ (grpL f r ++ behind)) pre.length = at0 (grpL f r) 0 := by
      have := at0_app_right pre (grpL f r ++ behind) 0
      rw [Nat.add_zero] at this
      rw [this, at0_app_left (grpL_length f r).1]
    have hl : ¬ (pre ++ (grpL f r ++ behind)).length ≤ pre.length := by
      have := (grpL_length f r).1
      simp; omega
    by_cases hs : r < 128
    · rw [decF, if_neg hl, ha, grpL_small hs, at0_zero, Int.emod_eq_of_lt h0 hs, if_neg (by omega), if_pos hs]
      simp
    · cases f with
      | zero => simp at h1; omega
      | succ f =>
        have hr : 0 ≤ r / 128 := by omega
        have e : t * r = t * (r % 128) + 128 * t * (r / 128) := by
          have := Int.emod_add_mul_ediv r 128
          calc t * r = t * (r % 128 + 128 * (r / 128)) := by rw [this]
            _ = _ := by rw [Int.mul_add, ← Int.mul_assoc, Int.mul_comm t 128]
        have hp : 0 ≤ 128 * t * (r / 128) := Int.mul_nonneg (by omega) hr
        have em : (128 + r % 128) % 128 = r % 128 := by omega
        rw [decF, if_neg hl, ha, grpL_great (by omega), at0_zero, em, if_neg (by omega), if_neg (by omega)]
        have ih := decF_grpL f (pre ++ [128 + r % 128]) behind (128 * t) (n + t * (r % 128)) (r / 128) hr (by
          rw [Int.pow_succ] at h1
          exact Int.ediv_lt_of_lt_mul (by omega) (by rw [Int.mul_comm _ 128] at h1; rw [Int.mul_comm _ 128]; exact h1)) (by omega) (by omega)
        simp only [List.append_assoc, List.cons_append, List.nil_append, List.length_append, List.length_cons, List.length_nil] at ih ⊢
        rw [ih]
        simp only [Prod.mk.injEq, and_true]
        constructor <;> omega
/-- cut short, behind a full prefix -/
theorem decF_cut : ∀ (f : Nat) (pre : List Int) (t n r : Int) (j : Nat), 0 ≤ r → r < 128 * 128 ^ f → 0 < t → n + t * r ≤ 16777215 → j < (grpL f r).length →
    decF (pre ++ (grpL f r).take j) (f + 1) pre.length t n = (0, 0, 2)
  | f, pre, t, n, r, 0, h0, h1, ht, hm, hj => by
    rw [decF, if_pos (by simp)]
  | f, pre, t, n, r, j + 1, h0, h1, ht, hm, hj => by
    by_cases hs : r < 128
    · rw [grpL_small hs] at hj; simp at hj
    · cases f with
      | zero => simp at h1; omega
      | succ f =>
        have hr : 0 ≤ r / 128 := by omega
        have e : t * r = t * (r % 128) + 128 * t * (r / 128) := by
          have := Int.emod_add_mul_ediv r 128
          calc t * r = t * (r % 128 + 128 * (r / 128)) := by rw [this]
            _ = _ := by rw [Int.mul_add, ← Int.mul_assoc, Int.mul_comm t 128]
        have hp : 0 ≤ 128 * t * (r / 128) := Int.mul_nonneg (by omega) hr
        have em : (128 + r % 128) % 128 = r % 128 := by omega
        rw [grpL_great (by omega)] at hj ⊢
        have ha : at0 (pre ++ ((128 + r % 128) :: grpL f (r / 128)).take (j + 1)) pre.length = 128 + r % 128 := by
          have := at0_app_right pre (((128 + r % 128) :: grpL f (r / 128)).take (j + 1)) 0
          exact this
        rw [decF, if_neg (by simp), ha, em, if_neg (by omega), if_neg (by omega)]
        have ih := decF_cut f (pre ++ [128 + r % 128]) (128 * t) (n + t * (r % 128)) (r / 128) j hr (by
          rw [Int.pow_succ] at h1
          exact Int.ediv_lt_of_lt_mul (by omega) (by rw [Int.mul_comm _ 128] at h1; rw [Int.mul_comm _ 128]; exact h1)) (by omega) (by omega) (by simpa using hj)
        simp only [List.append_assoc, List.cons_append, List.nil_append, List.length_append, List.length_cons, List.length_nil, List.take_succ_cons] at ih ⊢
        exact ih

theorem grpL_more : ∀ (f : Nat) (r : Int), 0 ≤ r → r < 128 * 128 ^ f → grpL (f + 1) r = grpL f r
  | 0, r, h0, h1 => by rw [grpL_small (by simpa using h1), grpL_small (by simpa using h1)]
  | f + 1, r, h0, h1 => by
    by_cases h : r < 128
    · rw [grpL_small h, grpL_small h]
    · rw [grpL_great (f := f + 1) (r := r) (by omega), grpL_great (f := f) (r := r) (by omega)]
      rw [grpL_more f (r / 128) (by omega) (by
        rw [Int.pow_succ] at h1
        exact Int.ediv_lt_of_lt_mul (by omega) (by rw [Int.mul_comm _ 128] at h1; rw [Int.mul_comm _ 128]; exact h1))]
theorem grpL_four (r : Int) (hr : 0 ≤ r) (hlt : r < 268435456) : grpL 4 r = grpL 3 r := grpL_more 3 r hr (by omega)
/-- there and back -/
theorem decP_encP (m above n : Int) (behind : List Int) (hm : 0 < m) (ha : above % (m + 1) = 0) (h0 : 0 ≤ n) (h1 : n ≤ 16777215) :
    decP m (encP m above n ++ behind) = (n, ((encP m above n).length : Int), 0) := by
  have mod (x : Int) (hx0 : 0 ≤ x) (hx : x < m + 1) : (above + x) % (m + 1) = x := by
    rw [Int.add_emod, ha, Int.zero_add, Int.emod_emod_of_dvd _ (Int.dvd_refl _), Int.emod_eq_of_lt hx0 hx]
  unfold decP encP
  by_cases hn : n < m
  · rw [if_pos hn, if_neg (by simp), List.cons_append, at0_zero, mod n h0 (by omega), if_pos hn]
    simp
  · rw [if_neg hn, if_neg (by simp), List.cons_append, at0_zero, mod m (by omega) (by omega), if_neg (by omega)]
    have := decF_grpL 3 [above + m] behind 1 m (n - m) (by omega) (by omega) (by omega) (by omega)
    have e : grpL 4 (n - m) = grpL 3 (n - m) := grpL_four _ (by omega) (by omega)
    rw [e]
    simp only [List.length_cons, List.length_nil, List.cons_append, List.nil_append, Nat.zero_add] at this ⊢
    rw [this]
    simp only [Prod.mk.injEq, and_true]
    constructor <;> omega
theorem encP_five (m above n : Int) (hm : 0 < m) (h0 : 0 ≤ n) (h1 : n ≤ 16777215) : (encP m above n).length ≤ 5 := by
  unfold encP
  split
  · simp
  · rw [grpL_four _ (by omega) (by omega)]
    have := grpL_length 3 (n - m)
    simp; omega
/-- cut short -/
theorem decP_cut (m above n : Int) (j : Nat) (hm : 0 < m) (ha : above % (m + 1) = 0) (h0 : 0 ≤ n) (h1 : n ≤ 16777215) (hj : j < (encP m above n).length) :
    decP m ((encP m above n).take j) = (0, 0, 2) := by
  have mod (x : Int) (hx0 : 0 ≤ x) (hx : x < m + 1) : (above + x) % (m + 1) = x := by
    rw [Int.add_emod, ha, Int.zero_add, Int.emod_emod_of_dvd _ (Int.dvd_refl _), Int.emod_eq_of_lt hx0 hx]
  cases j with
  | zero => simp [decP]
  | succ j =>
    unfold encP at hj ⊢
    by_cases hn : n < m
    · rw [if_pos hn] at hj; simp at hj
    · rw [if_neg hn] at hj ⊢
      rw [grpL_four _ (by omega) (by omega)] at hj ⊢
      rw [List.take_succ_cons]
      unfold decP
      rw [if_neg (by simp), at0_zero, mod m (by omega) (by omega), if_neg (by omega)]
      have := decF_cut 3 [above + m] 1 m (n - m) j (by omega) (by omega) (by omega) (by omega) (by simpa using hj)
      simpa using this
theorem encP_inj {m above n n' : Int} (hm : 0 < m) (ha : above % (m + 1) = 0) (h0 : 0 ≤ n) (h1 : n ≤ 16777215) (h0' : 0 ≤ n') (h1' : n' ≤ 16777215) : encP m above n = encP m above n' ↔ n = n' := by
  constructor
  · intro e
    have a := decP_encP m above n [] hm ha h0 h1
    have b := decP_encP m above n' [] hm ha h0' h1'
    rw [e] at a
    rw [a] at b
    exact (Prod.mk.inj b).1
  · rintro rfl; rfl
theorem encP_fit (m above n : Int) (hm : 0 < m) (ha0 : 0 ≤ above) (ha1 : above + m ≤ 255) (h0 : 0 ≤ n) (h1 : n ≤ 16777215) : Fit .u8 (encP m above n) := by
  intro x hx
  unfold encP at hx
  split at hx
  · simp only [List.mem_singleton] at hx
    subst hx
    exact WalkArith.wf_u8 (by omega)
  · rcases List.mem_cons.1 hx with rfl | hx
    · exact WalkArith.wf_u8 (by omega)
    · exact grpL_fit 4 (n - m) (by omega) (by omega) x hx
end Go.Proofs.YtimggejonppegaaDoor
