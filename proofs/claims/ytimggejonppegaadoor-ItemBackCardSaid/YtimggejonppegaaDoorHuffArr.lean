
/-
  Layer 4, plain mathematics: the codes as loops make them. No program is named here.
-/
import Derived.Test.YtimggejonppegaaDoorHuffMath
namespace Go.Proofs.YtimggejonppegaaDoor
open Go.RowKit

theorem if_same {p q : Prop} [Decidable p] [Decidable q] (h : p ↔ q) (a b : Int) : (if p then a else b) = if q then a else b := by
  by_cases hp : p
  · rw [if_pos hp, if_pos (h.1 hp)]
  · rw [if_neg hp, if_neg (fun hq => hp (h.2 hq))]

/-- the codes as a loop makes them: those of lengths below n, and of length n those ahead of c -/
def arrAt (n c : Nat) : List Int := (List.range 257).map fun x => if len x < n ∨ (len x = n ∧ x < c) then (code x : Int) else 0
/-- the next code there -/
def nextAt (n c : Nat) : Nat := nextN.getD n 0 + (lenN.take c).countP (fun x => x == n)
theorem arrAt_length (n c : Nat) : (arrAt n c).length = 257 := by simp [arrAt]
theorem arrAt_low {n : Nat} (h : n ≤ 5) : arrAt n 0 = List.replicate 257 0 := by
  rw [List.eq_replicate_iff]
  refine ⟨arrAt_length _ _, fun b hb => ?_⟩
  obtain ⟨x, hx, rfl⟩ := List.mem_map.1 hb
  have := (len_bd (List.mem_range.1 hx)).1
  exact if_neg (by omega)
theorem arrAt_skip {n c : Nat} (h : len c ≠ n) : arrAt n (c + 1) = arrAt n c := by
  apply List.ext_getElem (by simp [arrAt])
  intro i h1 h2
  simp only [arrAt, List.getElem_map, List.getElem_range]
  by_cases he : i = c
  · subst he
    exact if_same (by omega) _ _
  · exact if_same (by omega) _ _
theorem arrAt_set {n c : Nat} (h : len c = n) : (arrAt n c).set c (code c : Int) = arrAt n (c + 1) := by
  apply List.ext_getElem (by simp [arrAt])
  intro i h1 h2
  rw [List.getElem_set]
  simp only [arrAt, List.getElem_map, List.getElem_range]
  by_cases he : c = i
  · subst he
    rw [if_pos rfl, if_pos (by omega)]
  · rw [if_neg he]
    exact if_same (by omega) _ _
theorem arrAt_row (n : Nat) : arrAt n 257 = arrAt (n + 1) 0 := by
  apply List.ext_getElem (by simp [arrAt])
  intro i h1 h2
  have hi : i < 257 := by simpa [arrAt] using h1
  simp only [arrAt, List.getElem_map, List.getElem_range]
  exact if_same (by omega) _ _
def codeL : List Int := (List.range 257).map fun x => (code x : Int)
def lenL : List Int := (List.range 257).map fun x => (len x : Int)
theorem codeL_length : codeL.length = 257 := by simp [codeL]
theorem lenL_length : lenL.length = 257 := by simp [lenL]
theorem codeL_at {c : Nat} (h : c < 257) : at0 codeL c = (code c : Int) := by simp [at0, codeL, h]
theorem lenL_at {c : Nat} (h : c < 257) : at0 lenL c = (len c : Int) := by simp [at0, lenL, h]
theorem arrAt_end : arrAt 31 0 = codeL := by
  apply List.ext_getElem (by simp [arrAt, codeL])
  intro i h1 h2
  have hi : i < 257 := by simpa [arrAt] using h1
  have := (len_bd hi).2
  simp [arrAt, codeL, show len i < 31 by omega]
theorem nextAt_skip {n c : Nat} (hc : c < 257) (h : len c ≠ n) : nextAt n (c + 1) = nextAt n c := by
  have hl : c < lenN.length := by rw [lenN_length]; exact hc
  have e : lenN[c] = len c := by simp [len, hl]
  unfold nextAt
  rw [List.take_succ_eq_append_getElem hl, List.countP_append, e]
  simp [h]
theorem nextAt_set {n c : Nat} (hc : c < 257) (h : len c = n) : nextAt n (c + 1) = nextAt n c + 1 := by
  have hl : c < lenN.length := by rw [lenN_length]; exact hc
  have e : lenN[c] = len c := by simp [len, hl]
  unfold nextAt
  rw [List.take_succ_eq_append_getElem hl, List.countP_append, e]
  simp [h, Nat.add_assoc]
theorem next_rows : (List.range 31).all (fun n => nextAt (n + 1) 0 == 2 * nextAt n 257) = true := by decide +kernel
theorem nextAt_row {n : Nat} (h : n ≤ 30) : nextAt (n + 1) 0 = 2 * nextAt n 257 := by
  have := List.all_eq_true.1 next_rows n (List.mem_range.2 (by omega))
  simpa using this
theorem next_codes : (List.range 257).all (fun c => nextAt (len c) c == code c) = true := by decide +kernel
theorem nextAt_code {c : Nat} (h : c < 257) : nextAt (len c) c = code c := by
  have := List.all_eq_true.1 next_codes c (List.mem_range.2 h)
  simpa using this
theorem next_all : (List.range 32).all (fun n => Nat.ble (nextN.getD n 0) 2147483648) = true := by decide +kernel
theorem nextAt_le {n : Nat} (h : n ≤ 31) (c : Nat) : nextAt n c ≤ 2147483905 := by
  have := List.all_eq_true.1 next_all n (List.mem_range.2 (by omega))
  have h2 := List.countP_le_length (p := fun x => x == n) (l := lenN.take c)
  have h3 : (lenN.take c).length ≤ 257 := by rw [List.length_take, lenN_length]; omega
  simp only [Nat.ble_eq] at this
  unfold nextAt
  omega
theorem nextAt_low : nextAt 1 0 = 0 ∧ nextAt 5 0 = 0 := by decide +kernel
theorem lenL_list : lenL = lenN.map (fun (x : Nat) => (x : Int)) := by decide +kernel

end Go.Proofs.YtimggejonppegaaDoor
