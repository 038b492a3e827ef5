
/-
  There and back, of frames: what their bytes begin with, and what these are, cut short or not. Plain words: no function of the program is named here.
-/
import Derived.Test.YtfdkbaekohaaoaaFrameKit
namespace Go.Proofs.Ytfdkbaekohaaoaa
open Go.RowKit

/-- the bytes of frames, one behind the other -/
def encs (fs : List Fr) : List Int := fs.flatMap Fr.enc
theorem encs_cons (f : Fr) (fs : List Fr) : encs (f :: fs) = f.enc ++ encs fs := by simp [encs]
theorem encs_snoc (fs : List Fr) (f : Fr) : encs (fs ++ [f]) = encs fs ++ f.enc := by simp [encs]
/-- such as may be, whose payloads are bytes, no more than a bound -/
def Okf (most : Int) (f : Fr) : Prop := f.right ∧ Fit .u8 f.pay ∧ (f.pay.length : Int) ≤ most
theorem encs_fit {most : Int} : ∀ {fs : List Fr}, (∀ f ∈ fs, Okf most f) → Fit .u8 (encs fs)
  | [], _ => by intro n hn; simp [encs] at hn
  | f :: fs, h => by
    rw [encs_cons]
    intro n hn
    rcases List.mem_append.1 hn with hn | hn
    · exact Fr.enc_fit (h f (by simp)).1 (h f (by simp)).2.1 n hn
    · exact encs_fit (fun g hg => h g (by simp [hg])) n hn
theorem encs_length_le {most : Nat} : ∀ {fs : List Fr}, (∀ f ∈ fs, Okf most f) → (encs fs).length ≤ fs.length * (9 + most)
  | [], _ => by simp [encs]
  | f :: fs, h => by
    have h1 := (h f (by simp)).2.2
    have h2 := encs_length_le (most := most) (fs := fs) (fun g hg => h g (by simp [hg]))
    rw [encs_cons, List.length_append, Fr.enc_length, List.length_cons, Nat.add_mul, Nat.one_mul]
    omega

theorem len3 : ∀ {l : List Int}, l.length = 3 → ∃ a b c, l = [a, b, c]
  | [a, b, c], _ => ⟨a, b, c, rfl⟩
theorem len4 : ∀ {l : List Int}, l.length = 4 → ∃ a b c d, l = [a, b, c, d]
  | [a, b, c, d], _ => ⟨a, b, c, d, rfl⟩
theorem enc_shape {f : Fr} (rest : List Int) : ∃ a b c d e g h : Int, putL f.pay.length 3 = [a, b, c] ∧ putL f.stream 4 = [d, e, g, h] ∧ f.enc ++ rest = [a, b, c, f.kind, f.flags, d, e, g, h] ++ (f.pay ++ rest) := by
  obtain ⟨a, b, c, e3⟩ := len3 (putL_length 3 (f.pay.length : Int))
  obtain ⟨d, e, g, h, e4⟩ := len4 (putL_length 4 f.stream)
  exact ⟨a, b, c, d, e, g, h, e3, e4, by simp [Fr.enc, e3, e4]⟩
theorem take3 {f : Fr} (hf : f.right) (rest : List Int) : num ((f.enc ++ rest).take 3) = f.pay.length := by
  obtain ⟨a, b, c, d, e, g, h, e3, _, e0⟩ := enc_shape (f := f) rest
  rw [e0]
  have : List.take 3 ([a, b, c, f.kind, f.flags, d, e, g, h] ++ (f.pay ++ rest)) = [a, b, c] := rfl
  rw [this, ← e3]
  have h7 := hf.2.2.2.2.2.2
  exact num_putL 3 _ (by omega) (by simp; omega)
theorem next_enc {most : Int} {f : Fr} (h : Okf most f) (rest : List Int) : nextE (f.enc ++ rest) most = 0 ∧ nextN (f.enc ++ rest) most = f.enc.length ∧ nextF (f.enc ++ rest) most = f := by
  obtain ⟨hr, hp, hm⟩ := h
  have h3 := take3 hr rest
  have hl := Fr.enc_length f
  have hE : nextE (f.enc ++ rest) most = 0 := by
    unfold nextE
    rw [h3, if_neg (by rw [List.length_append]; omega), if_neg (by omega), if_neg (by rw [List.length_append]; omega)]
  refine ⟨hE, ?_, ?_⟩
  · rw [nextN, if_pos hE, h3, hl]; omega
  · rw [nextF, if_pos hE, h3]
    obtain ⟨a, b, c, d, e, g, h, _, e4, e0⟩ := enc_shape (f := f) rest
    rw [e0]
    have s4 : num [d, e, g, h] = f.stream := by
      rw [← e4]
      exact num_putL 4 _ (by have := hr.2.2.2.2.1; omega) (by have := hr.2.2.2.2.2.1; simp; omega)
    have t5 : ((([a, b, c, f.kind, f.flags, d, e, g, h] ++ (f.pay ++ rest)).drop 5).take 4) = [d, e, g, h] := rfl
    have t9 : ([a, b, c, f.kind, f.flags, d, e, g, h] ++ (f.pay ++ rest)).drop 9 = f.pay ++ rest := rfl
    rw [t5, t9, s4, Int.toNat_natCast, List.take_left]
    have hs := hr.2.2.2.2
    rw [Int.emod_eq_of_lt hs.1 (by omega)]
    rfl
theorem next_cut {most : Int} {f : Fr} (h : Okf most f) (k : Nat) (hk : k < f.enc.length) : nextE (f.enc.take k) most = 2 := by
  obtain ⟨hr, _, hm⟩ := h
  have hl := Fr.enc_length f
  unfold nextE
  by_cases h9 : k < 9
  · rw [if_pos (by rw [List.length_take]; omega)]
  · have h3 := take3 hr []
    rw [List.append_nil] at h3
    rw [if_neg (by rw [List.length_take]; omega), List.take_take, show min 3 k = 3 by omega, h3, if_neg (by omega), if_pos (by rw [List.length_take]; omega)]
theorem allOf_encs {most : Int} : ∀ {fs : List Fr}, (∀ f ∈ fs, Okf most f) → allOf most (encs fs) = (fs, ((encs fs).length : Int), 0)
  | [], _ => by simp [encs, allOf_nil]
  | f :: fs, h => by
    obtain ⟨h1, h2, h3⟩ := next_enc (h f (by simp)) (encs fs)
    have ih := allOf_encs (fs := fs) (fun g hg => h g (by simp [hg]))
    rw [encs_cons, allOf_step (by rw [← encs_cons]; exact encs_fit h) h1, h2, h3, Int.toNat_natCast, List.drop_left, ih]
    simp
/-- how many of them are whole, cut behind so many bytes -/
def cutW : List Fr → Nat → Nat
  | [], _ => 0
  | f :: fs, s => if f.enc.length ≤ s then 1 + cutW fs (s - f.enc.length) else 0
theorem cutW_le : ∀ (fs : List Fr) (s : Nat), cutW fs s ≤ fs.length
  | [], _ => Nat.le_refl _
  | f :: fs, s => by
    rw [cutW]
    split
    · have := cutW_le fs (s - f.enc.length); simp; omega
    · simp
/-- the first k of them end so early just if they are whole -/
theorem cutW_iff : ∀ (fs : List Fr) (s k : Nat), k ≤ fs.length → ((encs (fs.take k)).length ≤ s ↔ k ≤ cutW fs s)
  | [], s, k, h => by
    simp only [List.length_nil, Nat.le_zero] at h
    subst h
    simp [encs, cutW]
  | f :: fs, s, 0, _ => by simp [encs]
  | f :: fs, s, k + 1, h => by
    have ih := cutW_iff fs (s - f.enc.length) k (by simpa using h)
    rw [List.take_succ_cons, encs_cons, List.length_append, cutW]
    have hl := Fr.enc_length f
    split
    · omega
    · omega
theorem allOf_cut {most : Int} : ∀ {fs : List Fr} (s : Nat), (∀ f ∈ fs, Okf most f) → s ≤ (encs fs).length →
    allOf most ((encs fs).take s) = (fs.take (cutW fs s), ((encs (fs.take (cutW fs s))).length : Int), if (encs (fs.take (cutW fs s))).length = s then 0 else 2)
  | [], s, _, hs => by
    have : s = 0 := by simpa [encs] using hs
    subst this
    simp [encs, cutW, allOf_nil]
  | f :: fs, s, h, hs => by
    have hl := Fr.enc_length f
    have hok := h f (by simp)
    by_cases hfs : f.enc.length ≤ s
    · have e1 : cutW (f :: fs) s = cutW fs (s - f.enc.length) + 1 := by rw [cutW, if_pos hfs, Nat.add_comm]
      rw [e1, List.take_succ_cons, encs_cons, encs_cons, List.take_append, List.take_of_length_le hfs]
      rw [encs_cons, List.length_append] at hs
      have ih := allOf_cut (most := most) (fs := fs) (s - f.enc.length) (fun g hg => h g (by simp [hg])) (by omega)
      obtain ⟨h1, h2, h3⟩ := next_enc hok ((encs fs).take (s - f.enc.length))
      have hfit : Fit .u8 (f.enc ++ (encs fs).take (s - f.enc.length)) := by
        have := encs_fit h
        rw [encs_cons] at this
        intro n hn
        rcases List.mem_append.1 hn with hn | hn
        · exact this n (List.mem_append_left _ hn)
        · exact this n (List.mem_append_right _ (List.mem_of_mem_take hn))
      rw [allOf_step hfit h1, h2, h3, Int.toNat_natCast, List.drop_left, ih]
      simp only [List.length_append, Prod.mk.injEq, true_and]
      refine ⟨by omega, ?_⟩
      by_cases hc : (encs (fs.take (cutW fs (s - f.enc.length)))).length = s - f.enc.length
      · rw [if_pos hc, if_pos (by omega)]
      · rw [if_neg hc, if_neg (by omega)]
    · have e1 : cutW (f :: fs) s = 0 := by rw [cutW, if_neg hfs]
      rw [e1, List.take_zero, encs_cons, List.take_append_of_le_length (by omega)]
      by_cases h0 : s = 0
      · subst h0
        simp [encs, allOf_nil]
      · have hc := next_cut hok s (by omega)
        rw [allOf_bad (by rw [List.length_take]; omega) (by rw [hc]; decide), hc]
        simp only [encs, List.flatMap_nil, List.length_nil, Prod.mk.injEq, true_and]
        rw [if_neg (by omega)]
        exact ⟨rfl, rfl⟩
/-- cut between two just if what is whole ends there -/
theorem between_iff (fs : List Fr) (s : Nat) : (encs (fs.take (cutW fs s))).length = s ↔ s = 0 ∨ (0 < cutW fs s ∧ (encs (fs.take (cutW fs s))).length = s) := by
  constructor
  · intro h
    by_cases h0 : cutW fs s = 0
    · rw [h0] at h
      left
      simpa [encs] using h.symm
    · exact .inr ⟨by omega, h⟩
  · rintro (rfl | ⟨_, h⟩)
    · have h1 : cutW fs 0 = 0 := by
        cases fs with
        | nil => rfl
        | cons f fs => rw [cutW, if_neg (by rw [Fr.enc_length]; omega)]
      rw [h1]
      simp [encs]
    · exact h

end Go.Proofs.Ytfdkbaekohaaoaa
