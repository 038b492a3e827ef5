
/-
  Layer 17: what holds of a table in StreamsOnce. No program is named here.
-/
import Derived.Test.YtcompnndnelamaaStrmMath
import Derived.Test.YtcompnndnelamaaTurn
namespace Go.Proofs.Ytcompnndnelamaa
open Go.RowKit

/-- what holds of a table, of all ids that were opened, and of those that became late -/
structure In17 (most mem : Int) (s : St17) (xo late : List Int) : Prop where
  m : s.most = most
  e : s.mem = mem
  e0 : 0 ≤ mem
  h0 : 0 ≤ s.hi
  h1 : s.hi ≤ 2147483647
  o : ∀ x ∈ xo, 1 ≤ x ∧ x ≤ s.hi
  t : ∀ x ∈ late, 1 ≤ x ∧ x ≤ s.hi
  a : (s.A.length : Int) ≤ most
  l : (s.L.length : Int) ≤ mem
  suf : ∃ pre, late = pre ++ s.L
  kl : ∀ x ∈ s.L, 1 ≤ x ∧ x % 2 = 1 ∧ x ≤ s.hi ∧ x ∉ s.A
  ka : ∀ x ∈ s.A, 1 ≤ x ∧ x % 2 = 1 ∧ x ≤ s.hi
section
variable {most mem : Int} {s : St17} {xo late : List Int} {n : Int}
theorem In17.new (hm : 0 ≤ most) (he : 0 ≤ mem) : In17 most mem (St17.new most mem) [] [] :=
  ⟨rfl, rfl, he, Int.le_refl 0, (by show (0 : Int) ≤ 2147483647; decide), (fun x h => by cases h), (fun x h => by cases h), by simpa [St17.new] using hm, by simpa [St17.new] using he, ⟨[], rfl⟩, (fun x h => by cases h), (fun x h => by cases h)⟩
theorem openE_cases (s : St17) (n : Int) : (openE s n = 0 ∧ ¬ badId n ∧ s.hi < n ∧ (s.A.length : Int) < s.most ∧ openS s n = { s with hi := n, A := s.A ++ [n] }) ∨ (openE s n = 4 ∧ ¬ badId n ∧ s.hi < n ∧ openS s n = lateT { s with hi := n } n) ∨ (openE s n ≠ 0 ∧ openE s n ≠ 4 ∧ openS s n = s) := by
  unfold openE openS
  by_cases h1 : badId n
  · rw [if_pos h1, if_pos h1]; exact .inr (.inr ⟨by decide, by decide, rfl⟩)
  · rw [if_neg h1, if_neg h1]
    by_cases h2 : n ≤ s.hi
    · rw [if_pos h2, if_pos h2]; exact .inr (.inr ⟨by decide, by decide, rfl⟩)
    · rw [if_neg h2, if_neg h2]
      by_cases h3 : s.most ≤ (s.A.length : Int)
      · rw [if_pos h3, if_pos h3]; exact .inr (.inl ⟨rfl, h1, by omega, rfl⟩)
      · rw [if_neg h3, if_neg h3]; exact .inl ⟨rfl, h1, by omega, by omega, rfl⟩
theorem notBad (h : ¬ badId n) : 1 ≤ n ∧ n ≤ 2147483647 ∧ n % 2 = 1 := by unfold badId at h; omega
theorem In17.opened (h : In17 most mem s xo late) (hn : ¬ badId n) (hhi : s.hi < n) (ha : (s.A.length : Int) < s.most) : In17 most mem { s with hi := n, A := s.A ++ [n] } (xo ++ [n]) late := by
  obtain ⟨n1, n2, n3⟩ := notBad hn
  have hm := h.m
  refine ⟨h.m, h.e, h.e0, by dsimp only; omega, n2, fun x hx => ?_, fun x hx => ?_, by simp only [List.length_append, List.length_singleton]; omega, h.l, h.suf, fun x hx => ?_, fun x hx => ?_⟩
  · rcases List.mem_append.1 hx with hx | hx
    · have := h.o x hx; dsimp only; omega
    · rw [List.mem_singleton] at hx; subst hx; dsimp only; omega
  · have := h.t x hx; dsimp only; omega
  · obtain ⟨k1, k2, k3, k4⟩ := h.kl x hx
    refine ⟨k1, k2, by dsimp only; omega, fun e => ?_⟩
    rcases List.mem_append.1 e with e | e
    · exact k4 e
    · rw [List.mem_singleton] at e; subst e; omega
  · rcases List.mem_append.1 hx with hx | hx
    · have := h.ka x hx; dsimp only; omega
    · rw [List.mem_singleton] at hx; subst hx; dsimp only; omega
/-- an id becomes late -/
theorem In17.lated (h : In17 most mem s xo late) (n1 : 1 ≤ n) (n2 : n % 2 = 1) (n3 : n ≤ s.hi) (n4 : n ∉ s.A) : In17 most mem (lateT s n) xo (late ++ [n]) := by
  obtain ⟨e1, e2, e3, e4, e5⟩ := lateT_le s n
  have hl := h.l
  have he0 := h.e0
  have hL : (lateT s n).L = if s.mem < ((s.L ++ [n]).length : Int) then (s.L ++ [n]).drop 1 else s.L ++ [n] := rfl
  have hsub : ∀ x ∈ (lateT s n).L, x ∈ s.L ++ [n] := fun x hx => by
    rw [hL] at hx
    split at hx
    · exact List.mem_of_mem_drop hx
    · exact hx
  refine ⟨by rw [e4]; exact h.m, by rw [e5]; exact h.e, h.e0, by rw [e3]; exact h.h0, by rw [e3]; exact h.h1, fun x hx => by rw [e3]; exact h.o x hx, fun x hx => ?_, by rw [e2]; exact h.a, ?_, ?_, fun x hx => ?_, fun x hx => by rw [e2] at hx; rw [e3]; exact h.ka x hx⟩
  · rw [e3]
    rcases List.mem_append.1 hx with hx | hx
    · exact h.t x hx
    · rw [List.mem_singleton] at hx; subst hx; exact ⟨n1, n3⟩
  · rw [hL]
    have hm := h.e
    split
    · rw [List.length_drop, List.length_append, List.length_singleton]; omega
    · omega
  · obtain ⟨pre, hp⟩ := h.suf
    rw [hL]
    split
    · refine ⟨pre ++ (s.L ++ [n]).take 1, ?_⟩
      rw [hp, List.append_assoc, List.append_assoc, List.take_append_drop]
    · exact ⟨pre, by rw [hp, List.append_assoc]⟩
  · rw [e2, e3]
    rcases List.mem_append.1 (hsub x hx) with hx | hx
    · exact h.kl x hx
    · rw [List.mem_singleton] at hx; subst hx; exact ⟨n1, n2, n3, n4⟩
theorem In17.more (h : In17 most mem s xo late) (n1 : 1 ≤ n) (n3 : n ≤ s.hi) : In17 most mem s (xo ++ [n]) late :=
  ⟨h.m, h.e, h.e0, h.h0, h.h1, fun x hx => by
    rcases List.mem_append.1 hx with hx | hx
    · exact h.o x hx
    · rw [List.mem_singleton] at hx; subst hx; exact ⟨n1, n3⟩, h.t, h.a, h.l, h.suf, h.kl, h.ka⟩
theorem In17.raised (h : In17 most mem s xo late) (hn : ¬ badId n) (hhi : s.hi < n) : In17 most mem { s with hi := n } xo late := by
  obtain ⟨n1, n2, n3⟩ := notBad hn
  exact ⟨h.m, h.e, h.e0, by dsimp only; omega, n2, fun x hx => by have := h.o x hx; dsimp only; omega, fun x hx => by have := h.t x hx; dsimp only; omega, h.a, h.l, h.suf, fun x hx => by obtain ⟨k1, k2, k3, k4⟩ := h.kl x hx; exact ⟨k1, k2, by dsimp only; omega, k4⟩, fun x hx => by have := h.ka x hx; dsimp only; omega⟩
theorem In17.full (h : In17 most mem s xo late) (hn : ¬ badId n) (hhi : s.hi < n) : In17 most mem (lateT { s with hi := n } n) (xo ++ [n]) (late ++ [n]) := by
  obtain ⟨n1, n2, n3⟩ := notBad hn
  have h2 := (h.raised hn hhi).lated (n := n) n1 n3 (Int.le_refl _) (fun e => by have := h.ka n e; omega)
  exact h2.more n1 (by rw [(lateT_le _ _).2.2.1]; exact Int.le_refl _)
theorem wout_mem (l : List Int) (n x : Int) : x ∈ woutL l n ↔ x ∈ l ∧ x ≠ n := by simp [woutL]
theorem wout_no {l : List Int} {n : Int} (h : n ∉ l) : woutL l n = l := by
  unfold woutL
  rw [List.filter_eq_self]
  intro x hx
  simp only [decide_eq_true_eq]
  exact fun e => h (e ▸ hx)
theorem In17.closed (h : In17 most mem s xo late) (n : Int) : In17 most mem { s with A := woutL s.A n } xo late := by
  have hl := woutL_le s.A n
  have ha := h.a
  exact ⟨h.m, h.e, h.e0, h.h0, h.h1, h.o, h.t, by dsimp only; omega, h.l, h.suf, fun x hx => ⟨(h.kl x hx).1, (h.kl x hx).2.1, (h.kl x hx).2.2.1, fun e => (h.kl x hx).2.2.2 ((wout_mem _ _ _).1 e).1⟩, fun x hx => h.ka x ((wout_mem _ _ _).1 hx).1⟩
theorem In17.close_late (h : In17 most mem s xo late) (hn : n ∈ s.A) : In17 most mem (lateT { s with A := woutL s.A n } n) xo (late ++ [n]) := by
  obtain ⟨n1, n2, n3⟩ := h.ka n hn
  exact (h.closed n).lated n1 n2 n3 (fun e => ((wout_mem _ _ _).1 e).2 rfl)
theorem In17.kind (h : In17 most mem s xo late) {x : Int} (hx : x ∈ s.L) : kindT s x = 2 := by
  obtain ⟨k1, k2, k3, k4⟩ := h.kl x hx
  unfold kindT
  rw [if_neg (by omega), if_neg k4, if_pos hx]
theorem In17.fit (h : In17 most mem s xo late) : Fit .i64 xo ∧ Fit .i64 late ∧ Fit .i64 s.A := by
  have hh := h.h1
  exact ⟨fun x hx => WalkArith.wf_i64 (by have := h.o x hx; omega), fun x hx => WalkArith.wf_i64 (by have := h.t x hx; omega), fun x hx => WalkArith.wf_i64 (by have := h.ka x hx; omega)⟩
theorem In17.twice (h : In17 most mem s xo late) (hhi : s.hi < n) : n ∉ xo := fun e => by have := h.o n e; omega
end
/-- owners: the table, the row of the opened, that of the open ones, that of the late ones -/
def onB (B : Nat → Prop) (vo va vl : Value) : Nat → Nat → Prop
  | 0, g => B g
  | 1, g => vo.ownBlock = some g
  | 2, g => va.ownBlock = some g
  | 3, g => vl.ownBlock = some g
  | _, _ => False
theorem Sep.on {base : Nat} {B B' : Nat → Prop} {vo va vl vo' va' vl' : Value} {W W' : World} (h : Sep base (onB B vo va vl) W) (hs : W.heap.size ≤ W'.heap.size)
    (h0 : (∀ g, B' g → B g ∨ W.heap.size ≤ g) ∧ ∀ g, B' g → g < W'.heap.size) (h1 : (∀ g, vo'.ownBlock = some g → vo.ownBlock = some g ∨ W.heap.size ≤ g) ∧ ∀ g, vo'.ownBlock = some g → g < W'.heap.size)
    (h2 : (∀ g, va'.ownBlock = some g → va.ownBlock = some g ∨ W.heap.size ≤ g) ∧ ∀ g, va'.ownBlock = some g → g < W'.heap.size) (h3 : (∀ g, vl'.ownBlock = some g → vl.ownBlock = some g ∨ W.heap.size ≤ g) ∧ ∀ g, vl'.ownBlock = some g → g < W'.heap.size)
    (hn : ∀ i j g, i < j → W.heap.size ≤ g → onB B' vo' va' vl' i g → onB B' vo' va' vl' j g → False) : Sep base (onB B' vo' va' vl') W' := by
  refine h.many hs (fun i g hg => ?_) (fun i g hg => ?_) hn
  · match i, hg with
    | 0, hg => exact h0.1 g hg
    | 1, hg => exact h1.1 g hg
    | 2, hg => exact h2.1 g hg
    | 3, hg => exact h3.1 g hg
  · match i, hg with
    | 0, hg => exact h0.2 g hg
    | 1, hg => exact h1.2 g hg
    | 2, hg => exact h2.2 g hg
    | 3, hg => exact h3.2 g hg
end Go.Proofs.Ytcompnndnelamaa
