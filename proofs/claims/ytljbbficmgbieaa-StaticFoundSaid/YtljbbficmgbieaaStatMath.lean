
/-
  Layer 6, plain: what is found of a name and a value. No program is named here.
-/
import Derived.Test.YtljbbficmgbieaaStatTab
namespace Go.Proofs.Ytljbbficmgbieaa
open Go.RowKit

/-- the least index of a name among the first k (0: none) -/
def nameTo (n : ByteArray) : Nat → Nat
  | 0 => 0
  | k + 1 => if nameTo n k = 0 ∧ fNm k = n then k + 1 else nameTo n k
/-- the least index of a name and a value among the first k (0: none) -/
def bothTo (n v : ByteArray) : Nat → Nat
  | 0 => 0
  | k + 1 => if bothTo n v k = 0 ∧ fNm k = n ∧ fVl k = v then k + 1 else bothTo n v k
/-- the least index of a name among the last g (0: none) -/
def nameOf (n : ByteArray) : Nat → Nat
  | 0 => 0
  | g + 1 => if fNm (61 - (g + 1)) = n then 61 - g else nameOf n g
def findI (n v : ByteArray) : Nat := if bothTo n v 61 = 0 then nameTo n 61 else bothTo n v 61
def findB (n v : ByteArray) : Bool := decide (bothTo n v 61 ≠ 0)
def findT (n v : ByteArray) : Value := .tuple #[.int .i64 (findI n v), .bool (findB n v)]

theorem nameTo_says (n : ByteArray) : ∀ k, (nameTo n k = 0 ∧ ∀ i, i < k → fNm i ≠ n) ∨ (∃ i, i < k ∧ nameTo n k = i + 1 ∧ fNm i = n ∧ ∀ j, j < i → fNm j ≠ n)
  | 0 => .inl ⟨rfl, fun i hi => by omega⟩
  | k + 1 => by
    unfold nameTo
    rcases nameTo_says n k with ⟨h0, h1⟩ | ⟨i, hi, h0, h1, h2⟩
    · by_cases hk : fNm k = n
      · rw [if_pos ⟨h0, hk⟩]
        exact .inr ⟨k, by omega, rfl, hk, h1⟩
      · rw [if_neg (fun h => hk h.2)]
        refine .inl ⟨h0, fun i hi => ?_⟩
        by_cases e : i = k
        · rw [e]; exact hk
        · exact h1 i (by omega)
    · rw [if_neg (fun h => by omega)]
      exact .inr ⟨i, by omega, h0, h1, h2⟩
theorem bothTo_says (n v : ByteArray) : ∀ k, (bothTo n v k = 0 ∧ ∀ i, i < k → ¬ (fNm i = n ∧ fVl i = v)) ∨ (∃ i, i < k ∧ bothTo n v k = i + 1 ∧ fNm i = n ∧ fVl i = v ∧ ∀ j, j < i → ¬ (fNm j = n ∧ fVl j = v))
  | 0 => .inl ⟨rfl, fun i hi => by omega⟩
  | k + 1 => by
    unfold bothTo
    rcases bothTo_says n v k with ⟨h0, h1⟩ | ⟨i, hi, h0, h1, h2, h3⟩
    · by_cases hk : fNm k = n ∧ fVl k = v
      · rw [if_pos ⟨h0, hk⟩]
        exact .inr ⟨k, by omega, rfl, hk.1, hk.2, h1⟩
      · rw [if_neg (fun h => hk h.2)]
        refine .inl ⟨h0, fun i hi => ?_⟩
        by_cases e : i = k
        · rw [e]; exact hk
        · exact h1 i (by omega)
    · rw [if_neg (fun h => by omega)]
      exact .inr ⟨i, by omega, h0, h1, h2, h3⟩
theorem nameOf_says (n : ByteArray) : ∀ g, g ≤ 61 → (nameOf n g = 0 ∧ ∀ i, 61 - g ≤ i → i < 61 → fNm i ≠ n) ∨ (∃ i, 61 - g ≤ i ∧ i < 61 ∧ nameOf n g = i + 1 ∧ fNm i = n ∧ ∀ j, 61 - g ≤ j → j < i → fNm j ≠ n)
  | 0, _ => .inl ⟨rfl, fun i hi => by omega⟩
  | g + 1, hg => by
    unfold nameOf
    by_cases hk : fNm (61 - (g + 1)) = n
    · rw [if_pos hk]
      exact .inr ⟨61 - (g + 1), by omega, by omega, by omega, hk, fun j h1 h2 => by omega⟩
    · rw [if_neg hk]
      rcases nameOf_says n g (by omega) with ⟨h0, h1⟩ | ⟨i, h1, h2, h3, h4, h5⟩
      · refine .inl ⟨h0, fun i hi h61 => ?_⟩
        by_cases e : i = 61 - (g + 1)
        · rw [e]; exact hk
        · exact h1 i (by omega) h61
      · refine .inr ⟨i, by omega, h2, h3, h4, fun j hj hi => ?_⟩
        by_cases e : j = 61 - (g + 1)
        · rw [e]; exact hk
        · exact h5 j (by omega) hi
theorem nameOf_all (n : ByteArray) : nameOf n 61 = nameTo n 61 := by
  rcases nameTo_says n 61 with ⟨h0, h1⟩ | ⟨i, hi, h0, h1, h2⟩ <;> rcases nameOf_says n 61 (Nat.le_refl _) with ⟨k0, k1⟩ | ⟨j, kj, kj2, k0, k1, k2⟩
  · omega
  · exact absurd k1 (h1 j kj2)
  · exact absurd h1 (k1 i (by omega) hi)
  · have a1 : ¬ i < j := fun h => k2 i (by omega) h h1
    have a2 : ¬ j < i := fun h => h2 j h k1
    omega
/-- what was found stays so -/
theorem bothTo_first (n v : ByteArray) {k : Nat} (h0 : bothTo n v k = 0) (hk : k < 61) (h1 : fNm k = n) (h2 : fVl k = v) : bothTo n v 61 = k + 1 := by
  rcases bothTo_says n v k with ⟨_, g1⟩ | ⟨i, _, g, _⟩
  · rcases bothTo_says n v 61 with ⟨_, f1⟩ | ⟨i, hi, f0, f1, f2, f3⟩
    · exact absurd ⟨h1, h2⟩ (f1 k hk)
    · have a1 : ¬ i < k := fun h => g1 i h ⟨f1, f2⟩
      have a2 : ¬ k < i := fun h => f3 k h ⟨h1, h2⟩
      omega
  · omega
theorem find_both {n v : ByteArray} {k : Nat} (h0 : bothTo n v k = 0) (hk : k < 61) (h1 : fNm k = n) (h2 : fVl k = v) : findT n v = .tuple #[.int .i64 ((k : Int) + 1), .bool true] := by
  have := bothTo_first n v h0 hk h1 h2
  rw [findT, findI, findB, this, if_neg (by omega), decide_eq_true (by omega)]
  rfl
theorem find_name {n v : ByteArray} (h0 : bothTo n v 61 = 0) : findT n v = .tuple #[.int .i64 (nameTo n 61), .bool false] := by
  rw [findT, findI, findB, h0, if_pos rfl, decide_eq_false (by omega)]
theorem bothTo_next {n v : ByteArray} {k : Nat} (h0 : bothTo n v k = 0) (h : ¬ (fNm k = n ∧ fVl k = v)) : bothTo n v (k + 1) = 0 := by
  rw [bothTo, if_neg (fun g => h g.2)]; exact h0
theorem nameTo_le (n : ByteArray) (k : Nat) : nameTo n k ≤ k := by
  rcases nameTo_says n k with ⟨h, _⟩ | ⟨i, hi, h, _⟩ <;> omega

/-- each field is found at its own index -/
theorem own_all : (List.range 61).all (fun i => (List.range 61).all fun j => i == j || !(eqB (fNm i) (fNm j) && eqB (fVl i) (fVl j))) = true := by decide +kernel
theorem own_one {i j : Nat} (hi : i < 61) (hj : j < 61) (h1 : fNm j = fNm i) (h2 : fVl j = fVl i) : j = i := by
  have := List.all_eq_true.1 (List.all_eq_true.1 own_all i (List.mem_range.2 hi)) j (List.mem_range.2 hj)
  rw [h1, h2, eqB_iff.2 rfl, eqB_iff.2 rfl] at this
  simp at this
  exact this.symm
theorem find_own {k : Nat} (hk : k < 61) : findT (fNm k) (fVl k) = .tuple #[.int .i64 ((k : Int) + 1), .bool true] := by
  refine find_both ?_ hk rfl rfl
  rcases bothTo_says (fNm k) (fVl k) k with ⟨h, _⟩ | ⟨i, hi, _, h1, h2, _⟩
  · exact h
  · have := own_one hk (by omega) h1 h2
    omega
/-- a value that no field has -/
def noVal : ByteArray := ⟨#[110, 111, 32, 115, 117, 99, 104, 32, 118, 97, 108, 117, 101]⟩
theorem noVal_all : (List.range 61).all (fun i => !eqB (fVl i) noVal) = true := by decide +kernel
theorem find_noVal (n : ByteArray) : findT n noVal = .tuple #[.int .i64 (nameTo n 61), .bool false] := by
  refine find_name ?_
  rcases bothTo_says n noVal 61 with ⟨h, _⟩ | ⟨i, hi, _, _, h2, _⟩
  · exact h
  · have := List.all_eq_true.1 noVal_all i (List.mem_range.2 hi)
    rw [h2, eqB_iff.2 rfl] at this
    simp at this
/-- what is found, in full -/
theorem find_says (n v : ByteArray) :
    (findI n v = 0 ∧ findB n v = false) ∨
    (∃ k, k < 61 ∧ findI n v = k + 1 ∧ fNm k = n ∧ (fVl k = v ∨ findB n v = false) ∧ 1 ≤ nameTo n 61 ∧ nameTo n 61 ≤ k + 1) := by
  rcases bothTo_says n v 61 with ⟨h0, _⟩ | ⟨i, hi, h0, h1, h2, _⟩
  · rcases nameTo_says n 61 with ⟨g0, _⟩ | ⟨j, hj, g0, g1, _⟩
    · exact .inl ⟨by rw [findI, if_pos h0, g0], by rw [findB, h0]; rfl⟩
    · exact .inr ⟨j, hj, by rw [findI, if_pos h0, g0], g1, .inr (by rw [findB, h0]; rfl), by omega, by omega⟩
  · refine .inr ⟨i, hi, by rw [findI, if_neg (by omega), h0], h1, .inl h2, ?_⟩
    rcases nameTo_says n 61 with ⟨_, g1⟩ | ⟨j, hj, g0, g1, g2⟩
    · exact absurd h1 (g1 i hi)
    · have : ¬ i < j := fun h => g2 i h h1
      omega
end Go.Proofs.Ytljbbficmgbieaa
