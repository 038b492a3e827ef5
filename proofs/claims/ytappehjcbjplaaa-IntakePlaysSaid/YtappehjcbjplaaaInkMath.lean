
/-
  Layer 13: an intake by what it has of its bytes: feeding, the next frame. No program is named here.
-/
import Derived.Test.YtappehjcbjplaaaFrameKit
namespace Go.Proofs.Ytappehjcbjplaaa
open Go.RowKit

theorem Fit.append' {k : IntKind} {xs ys : List Int} (hx : Fit k xs) (hy : Fit k ys) : Fit k (xs ++ ys) := fun n hn => by
  rcases List.mem_append.1 hn with h | h
  · exact hx n h
  · exact hy n h
/-- the preface's bytes -/
def preL : List Int := [80, 82, 73, 32, 42, 32, 72, 84, 84, 80, 47, 50, 46, 48, 13, 10, 13, 10, 83, 77, 13, 10, 13, 10]
theorem preL_length : preL.length = 24 := rfl
theorem preL_fit : Fit .u8 preL := fun n hn => by simpa using List.all_eq_true.1 (show preL.all (fun n => (Lit.int .u8 n).wf) = true by decide) n hn
/-- does a byte of the preface differ? -/
def wrongL (bs : List Int) : Bool := !decide (bs.take 24 = preL.take bs.length)
theorem wrongL_no {bs : List Int} {k : Nat} (hk : k = min 24 bs.length) (h : bs.take k = preL.take k) : wrongL bs = false := by
  unfold wrongL
  rw [Bool.not_eq_false', decide_eq_true_iff]
  by_cases hl : 24 ≤ bs.length
  · have : k = 24 := by omega
    subst this
    rw [h, List.take_of_length_le (by rw [preL_length]; exact Nat.le_refl _), List.take_of_length_le (by rw [preL_length]; exact hl)]
  · have : k = bs.length := by omega
    subst this
    rw [List.take_of_length_le (by omega), ← h, List.take_of_length_le (Nat.le_refl _)]
theorem wrongL_yes {bs : List Int} {k : Nat} (h1 : k < 24) (h2 : k < bs.length) (h : at0 bs k ≠ at0 preL k) : wrongL bs = true := by
  unfold wrongL
  rw [Bool.not_eq_true', decide_eq_false_iff_not]
  intro e
  refine h ?_
  have e1 : at0 (bs.take 24) k = at0 (preL.take bs.length) k := by rw [e]
  rwa [at0_take h1, at0_take h2] at e1
theorem wrongL_grow {bs b : List Int} (h : wrongL bs = true) : wrongL (bs ++ b) = true := by
  unfold wrongL at h ⊢
  rw [Bool.not_eq_true', decide_eq_false_iff_not] at h ⊢
  intro e
  refine h ?_
  have := congrArg (List.take bs.length) e
  rw [List.take_take, List.take_take, List.length_append] at this
  rw [show min bs.length (bs.length + b.length) = bs.length by omega] at this
  rw [← this, Nat.min_comm, ← List.take_take, List.take_append_of_le_length (Nat.le_refl _), List.take_of_length_le (Nat.le_refl bs.length)]
theorem wrongL_behind {bs : List Int} (b : List Int) (h : 24 ≤ bs.length) : wrongL (bs ++ b) = wrongL bs := by
  unfold wrongL
  rw [List.take_append_of_le_length h, List.take_of_length_le (l := preL) (by rw [preL_length, List.length_append]; omega), List.take_of_length_le (l := preL) (by rw [preL_length]; omega)]
theorem wrongL_head {bs : List Int} (h : 24 ≤ bs.length) : wrongL bs = !decide (bs.take 24 = preL) := by
  unfold wrongL
  rw [List.take_of_length_le (l := preL) (by rw [preL_length]; omega)]

/-- an intake: its most, the bytes that were not told, whether the preface has come, what it is over with -/
structure Ik where
  most : Int
  got : List Int
  begun : Bool
  over : Int
def Ik.new (most : Int) : Ik := ⟨most, [], false, 0⟩
def feedI (s : Ik) (b : List Int) : Ik :=
  if s.over ≠ 0 then s else if s.begun = true then { s with got := s.got ++ b }
  else if wrongL (s.got ++ b) = true then ⟨s.most, [], false, 3⟩
  else if 24 ≤ (s.got ++ b).length then ⟨s.most, (s.got ++ b).drop 24, true, 0⟩ else ⟨s.most, s.got ++ b, false, 0⟩
/-- the next frame, the error, the intake behind it -/
def nextIF (s : Ik) : Fr := if s.over ≠ 0 then Fr.zero else if s.begun = false then Fr.zero else nextF s.got s.most
def nextIE (s : Ik) : Int := if s.over ≠ 0 then s.over else if s.begun = false then 2 else nextE s.got s.most
def nextIS (s : Ik) : Ik :=
  if s.over ≠ 0 then s else if s.begun = false then s else if nextE s.got s.most = 0 then { s with got := s.got.drop (nextN s.got s.most).toNat }
  else if nextE s.got s.most = 4 then ⟨s.most, [], true, 4⟩ else s
theorem nextE_cases (zs : List Int) (most : Int) : nextE zs most = 0 ∨ nextE zs most = 2 ∨ nextE zs most = 4 := by
  unfold nextE
  split
  · exact .inr (.inl rfl)
  · split
    · exact .inr (.inr rfl)
    · split
      · exact .inr (.inl rfl)
      · exact .inl rfl
/-- what is whole stays so, whatever is behind it -/
theorem next_app {zs : List Int} {most : Int} (b : List Int) (h : nextE zs most = 0) : nextE (zs ++ b) most = 0 ∧ nextN (zs ++ b) most = nextN zs most ∧ nextF (zs ++ b) most = nextF zs most := by
  have h' := h
  unfold nextE at h
  split at h
  · cases h
  rename_i h9
  split at h
  · cases h
  rename_i hm
  split at h
  · cases h
  rename_i hk
  have e3 : (zs ++ b).take 3 = zs.take 3 := List.take_append_of_le_length (by omega)
  have he : nextE (zs ++ b) most = 0 := by
    unfold nextE
    rw [e3, if_neg (by rw [List.length_append]; omega), if_neg hm, if_neg (by rw [List.length_append]; omega)]
  refine ⟨he, ?_, ?_⟩
  · unfold nextN; rw [if_pos he, if_pos h', e3]
  · unfold nextF
    rw [if_pos he, if_pos h', e3]
    have a3 : at0 (zs ++ b) 3 = at0 zs 3 := by simp [at0, List.getElem?_append_left (show 3 < zs.length by omega)]
    have a4 : at0 (zs ++ b) 4 = at0 zs 4 := by simp [at0, List.getElem?_append_left (show 4 < zs.length by omega)]
    have d5 : ((zs ++ b).drop 5).take 4 = (zs.drop 5).take 4 := by
      rw [List.drop_append_of_le_length (by omega), List.take_append_of_le_length (by simp; omega)]
    have d9 : ((zs ++ b).drop 9).take (num (zs.take 3)).toNat = (zs.drop 9).take (num (zs.take 3)).toNat := by
      rw [List.drop_append_of_le_length (by omega), List.take_append_of_le_length (by simp; omega)]
    rw [a3, a4, d5, d9]
/-- what is too long stays so -/
theorem full_app {zs : List Int} {most : Int} (b : List Int) (h : nextE zs most = 4) : nextE (zs ++ b) most = 4 := by
  unfold nextE at h
  split at h
  · cases h
  rename_i h9
  split at h
  · rename_i hm
    have e3 : (zs ++ b).take 3 = zs.take 3 := List.take_append_of_le_length (by omega)
    unfold nextE
    rw [e3, if_neg (by rw [List.length_append]; omega), if_pos hm]
  · split at h <;> cases h

/-- where the rest begins, behind so many frames -/
def offs (most : Int) (bs : List Int) : Nat → Nat
  | 0 => 24
  | k + 1 => offs most bs k + (nextN (bs.drop (offs most bs k)) most).toNat
/-- so many frames are whole -/
def Whole (most : Int) (bs : List Int) (told : Nat) : Prop := 24 ≤ bs.length ∧ ∀ i, i < told → nextE (bs.drop (offs most bs i)) most = 0
theorem Whole.le {most : Int} {bs : List Int} (hf : Fit .u8 bs) : ∀ {told : Nat}, Whole most bs told → offs most bs told ≤ bs.length ∧ 9 * told ≤ offs most bs told := by
  intro told
  induction told with
  | zero => intro h; exact ⟨h.1, by show 0 ≤ _; omega⟩
  | succ k ih =>
    intro h
    obtain ⟨h1, h2⟩ := ih ⟨h.1, fun i hi => h.2 i (by omega)⟩
    obtain ⟨_, a2, a3, _⟩ := next_step (h.2 k (by omega)) (hf.drop _)
    rw [List.length_drop] at a3
    show offs most bs k + _ ≤ _ ∧ _ ≤ offs most bs k + _
    omega
theorem Whole.app {most : Int} {bs : List Int} (hf : Fit .u8 bs) (b : List Int) : ∀ {told : Nat}, Whole most bs told → Whole most (bs ++ b) told ∧ ∀ i, i ≤ told → offs most (bs ++ b) i = offs most bs i := by
  intro told
  induction told with
  | zero => intro h; exact ⟨⟨by rw [List.length_append]; have := h.1; omega, fun i hi => by omega⟩, fun i hi => by rw [Nat.le_zero.1 hi]; rfl⟩
  | succ k ih =>
    intro h
    have hk : Whole most bs k := ⟨h.1, fun i hi => h.2 i (by omega)⟩
    obtain ⟨h1, h2⟩ := ih hk
    have hle := (Whole.le hf hk).1
    have hd : (bs ++ b).drop (offs most bs k) = bs.drop (offs most bs k) ++ b := List.drop_append_of_le_length hle
    obtain ⟨a1, a2, _⟩ := next_app b (h.2 k (by omega))
    refine ⟨⟨h1.1, fun i hi => ?_⟩, fun i hi => ?_⟩
    · by_cases hik : i = k
      · subst hik; rw [h2 i (Nat.le_refl _), hd]; exact a1
      · exact h1.2 i (by omega)
    · by_cases hik : i = k + 1
      · subst hik
        show offs most (bs ++ b) k + _ = offs most bs k + _
        rw [h2 k (Nat.le_refl _), hd, a2]
      · exact h2 i (by omega)
/-- how the reference's fields tell of an intake -/
def RkRel (s : Ik) (bs : List Int) (told : Nat) : Prop :=
  (s.over = 0 ∧ wrongL bs = false ∧ s.begun = false ∧ bs.length < 24 ∧ s.got = bs ∧ told = 0) ∨
  (s.over = 0 ∧ wrongL bs = false ∧ s.begun = true ∧ Whole s.most bs told ∧ s.got = bs.drop (offs s.most bs told)) ∨
  (s.over = 3 ∧ wrongL bs = true ∧ s.begun = false ∧ s.got = []) ∨
  (s.over = 4 ∧ wrongL bs = false ∧ 24 ≤ bs.length ∧ s.begun = true ∧ s.got = [])
theorem RkRel.feed {s : Ik} {bs : List Int} {told : Nat} (h : RkRel s bs told) (hf : Fit .u8 bs) (ho : s.over = 0) (b : List Int) : RkRel (feedI s b) (bs ++ b) told ∧ (wrongL (bs ++ b) = true → (feedI s b).over = 3) ∧ (wrongL (bs ++ b) = false → (feedI s b).over = 0) ∧ (feedI s b).most = s.most := by
  rcases h with ⟨_, h2, h3, h4, h5, h6⟩ | ⟨_, h2, h3, h4, h5⟩ | ⟨h1, _⟩ | ⟨h1, _⟩
  · unfold feedI
    rw [if_neg (by simp [ho]), if_neg (by rw [h3]; decide), h5]
    by_cases hw : wrongL (bs ++ b) = true
    · rw [if_pos hw]
      exact ⟨.inr (.inr (.inl ⟨rfl, hw, rfl, rfl⟩)), fun _ => rfl, fun h => (by rw [hw] at h; cases h), rfl⟩
    · rw [if_neg hw]
      have hw' : wrongL (bs ++ b) = false := by simpa using hw
      by_cases hl : 24 ≤ (bs ++ b).length
      · rw [if_pos hl]
        refine ⟨.inr (.inl ⟨rfl, hw', rfl, ⟨hl, fun i hi => by omega⟩, ?_⟩), fun h => absurd h hw, fun _ => rfl, rfl⟩
        rw [h6]; rfl
      · rw [if_neg hl]
        exact ⟨.inl ⟨rfl, hw', rfl, by omega, rfl, h6⟩, fun h => absurd h hw, fun _ => rfl, rfl⟩
  · unfold feedI
    rw [if_neg (by simp [ho]), if_pos h3]
    have hw : wrongL (bs ++ b) = false := by rw [wrongL_behind b h4.1]; exact h2
    obtain ⟨a1, a2⟩ := Whole.app hf b h4
    refine ⟨.inr (.inl ⟨ho, hw, h3, a1, ?_⟩), fun h => (by rw [hw] at h; cases h), fun _ => ho, rfl⟩
    show s.got ++ b = _
    rw [a2 told (Nat.le_refl _), h5, List.drop_append_of_le_length (Whole.le hf h4).1]
  · rw [h1] at ho; cases ho
  · rw [h1] at ho; cases ho
end Go.Proofs.Ytappehjcbjplaaa
