
/-
  Layer 13: bytes in chunks: all frames that an intake tells, however its bytes come. No program is named here.
-/
import Derived.Test.YtappehjcbjplaaaInkMath
namespace Go.Proofs.Ytappehjcbjplaaa
open Go.RowKit

/-- all that an intake tells, in at most so many asks, the error at last, the intake behind it -/
def framesI : Nat → Ik → List Fr × Int × Ik
  | 0, s => ([], 0, s)
  | n + 1, s => if nextIE s = 0 then (nextIF s :: (framesI n (nextIS s)).1, (framesI n (nextIS s)).2.1, (framesI n (nextIS s)).2.2) else ([], nextIE s, nextIS s)
theorem framesI_stop {n : Nat} {s : Ik} (h : nextIE s ≠ 0) : framesI (n + 1) s = ([], nextIE s, nextIS s) := by rw [framesI, if_neg h]
theorem framesI_go {n : Nat} {s : Ik} (h : nextIE s = 0) : framesI (n + 1) s = (nextIF s :: (framesI n (nextIS s)).1, (framesI n (nextIS s)).2.1, (framesI n (nextIS s)).2.2) := by rw [framesI, if_pos h]

theorem joinA_join (a b : List Fr) (m k : Int) (r : List Fr × Int × Int) : joinA a m (joinA b k r) = joinA (a ++ b) (m + k) r := by
  simp [joinA, Int.add_assoc]
theorem joinA_nil (r : List Fr × Int × Int) : joinA [] 0 r = r := by simp [joinA]
/-- what stands behind bytes: their frames are those of them all -/
theorem allOf_app (most : Int) : ∀ (L : Nat) (zs : List Int), zs.length ≤ L → Fit .u8 zs →
    ((allOf most zs).2.2 = 0 ∨ (allOf most zs).2.2 = 2 ∨ (allOf most zs).2.2 = 4) ∧ 0 ≤ (allOf most zs).2.1 ∧ (allOf most zs).2.1 ≤ zs.length ∧
    ((allOf most zs).2.2 = 4 → ∀ z, Fit .u8 z → allOf most (zs ++ z) = allOf most zs) ∧
    ((allOf most zs).2.2 ≠ 4 → ∀ z, Fit .u8 z → allOf most (zs ++ z) = joinA (allOf most zs).1 (allOf most zs).2.1 (allOf most (zs.drop (allOf most zs).2.1.toNat ++ z))) ∧
    ((allOf most zs).2.2 = 0 → (allOf most zs).2.1 = zs.length) ∧
    ((allOf most zs).2.2 = 2 → nextE (zs.drop (allOf most zs).2.1.toNat) most = 2) := by
  intro L
  induction L with
  | zero =>
    intro zs hl _
    obtain rfl := List.eq_nil_of_length_eq_zero (Nat.le_zero.1 hl)
    rw [allOf_nil]
    refine ⟨.inl rfl, Int.le_refl _, Int.le_refl _, fun h => (by cases h), fun _ z _ => ?_, fun _ => rfl, fun h => (by cases h)⟩
    simp [joinA]
  | succ L ih =>
    intro zs hl hf
    by_cases h0 : zs.length = 0
    · obtain rfl := List.eq_nil_of_length_eq_zero h0
      rw [allOf_nil]
      refine ⟨.inl rfl, Int.le_refl _, Int.le_refl _, fun h => (by cases h), fun _ z _ => ?_, fun _ => rfl, fun h => (by cases h)⟩
      simp [joinA]
    by_cases he : nextE zs most = 0
    · obtain ⟨a1, a2, a3, _⟩ := next_step he hf
      have hd : (zs.drop (nextN zs most).toNat).length ≤ L := by rw [List.length_drop]; omega
      obtain ⟨i1, i2, i3, i4, i5, i6, i7⟩ := ih _ hd (hf.drop _)
      rw [allOf_step hf he]
      generalize hA : allOf most (zs.drop (nextN zs most).toNat) = A at i1 i2 i3 i4 i5 i6 i7
      rw [List.length_drop] at i3 i6
      simp only
      refine ⟨i1, by omega, by omega, fun h z hz => ?_, fun h z hz => ?_, fun h => by have := i6 h; omega, fun h => ?_⟩
      · obtain ⟨b1, b2, b3⟩ := next_app z he
        rw [allOf_step (Fit.append' hf hz) b1, b2, b3, List.drop_append_of_le_length (by omega), i4 h z hz]
      · obtain ⟨b1, b2, b3⟩ := next_app z he
        rw [allOf_step (Fit.append' hf hz) b1, b2, b3, List.drop_append_of_le_length (by omega), i5 h z hz]
        rw [List.drop_drop, show (nextN zs most).toNat + A.2.1.toNat = (nextN zs most + A.2.1).toNat by omega]
        simp [joinA, Int.add_assoc]
      · have := i7 h
        rw [List.drop_drop, show (nextN zs most).toNat + A.2.1.toNat = (nextN zs most + A.2.1).toNat by omega] at this
        exact this
    · rw [allOf_bad h0 he]
      simp only
      have hc := (nextE_cases zs most).resolve_left he
      refine ⟨.inr hc, Int.le_refl _, by omega, fun h z _ => ?_, fun h z _ => ?_, fun h => (by rw [h] at he; exact absurd rfl he), fun h => ?_⟩
      · have := full_app z h
        rw [allOf_bad (by rw [List.length_append]; omega) (by rw [this]; decide), this, h]
      · simp [joinA]
      · simpa using h

/-- behind all frames: the error -/
def endE (e : Int) : Int := if e = 0 then 2 else e
theorem framesI_all : ∀ (n : Nat) (s : Ik), s.over = 0 → s.begun = true → Fit .u8 s.got → s.got.length < 9 * n →
    framesI n s = ((allOf s.most s.got).1, endE (allOf s.most s.got).2.2, if (allOf s.most s.got).2.2 = 4 then ⟨s.most, [], true, 4⟩ else { s with got := s.got.drop (allOf s.most s.got).2.1.toNat }) := by
  intro n
  induction n with
  | zero => intro s _ _ _ h; omega
  | succ n ih =>
    intro s ho hb hf hl
    have hE : nextIE s = nextE s.got s.most := by simp [nextIE, ho, hb]
    by_cases he : nextE s.got s.most = 0
    · obtain ⟨a1, a2, a3, _⟩ := next_step he hf
      rw [framesI_go (by rw [hE]; exact he)]
      have hS : nextIS s = { s with got := s.got.drop (nextN s.got s.most).toNat } := by simp [nextIS, ho, hb, he]
      have hF : nextIF s = nextF s.got s.most := by simp [nextIF, ho, hb]
      have := ih (nextIS s) (by rw [hS]; exact ho) (by rw [hS]; exact hb) (by rw [hS]; exact hf.drop _) (by rw [hS]; simp only [List.length_drop]; omega)
      rw [this, hS, hF]
      have hst := allOf_step hf he
      rw [hst]
      simp only
      obtain ⟨_, j2, _⟩ := allOf_app s.most _ (s.got.drop (nextN s.got s.most).toNat) (Nat.le_refl _) (hf.drop _)
      rw [List.drop_drop, show (nextN s.got s.most).toNat + (allOf s.most (s.got.drop (nextN s.got s.most).toNat)).2.1.toNat = (nextN s.got s.most + (allOf s.most (s.got.drop (nextN s.got s.most).toNat)).2.1).toNat by omega]
    · rw [framesI_stop (by rw [hE]; exact he), hE]
      have hS : nextIS s = if nextE s.got s.most = 4 then ⟨s.most, [], true, 4⟩ else s := by
        unfold nextIS
        rw [if_neg (by simp [ho]), if_neg (by simp [hb]), if_neg he]
      rw [hS]
      by_cases h0 : s.got.length = 0
      · have hn := List.eq_nil_of_length_eq_zero h0
        rw [hn, allOf_nil]
        have : nextE [] s.most = 2 := by simp [nextE]
        rw [this]
        simp only [endE]
        have : s = { s with got := [] } := by rw [← hn]
        simpa using this
      · rw [allOf_bad h0 he]
        simp only [endE, if_neg he]
        by_cases h4 : nextE s.got s.most = 4
        · rw [if_pos h4, if_pos h4]
        · rw [if_neg h4, if_neg h4]; simp

/-- an intake that has got these bytes in all, and told these frames -/
def CkInv (most : Int) (all : List Int) (told : List Fr) (s : Ik) : Prop :=
  s.most = most ∧ Fit .u8 all ∧
  ((s.over = 0 ∧ s.begun = false ∧ all.length < 24 ∧ wrongL all = false ∧ s.got = all ∧ told = []) ∨
   (s.over = 0 ∧ s.begun = true ∧ 24 ≤ all.length ∧ wrongL all = false ∧ ∃ m : Nat, m ≤ (all.drop 24).length ∧ s.got = (all.drop 24).drop m ∧ ∀ z, Fit .u8 z → allOf most (all.drop 24 ++ z) = joinA told m (allOf most (s.got ++ z))) ∨
   (s.over = 3 ∧ s.begun = false ∧ wrongL all = true ∧ s.got = [] ∧ told = []) ∨
   (s.over = 4 ∧ s.begun = true ∧ 24 ≤ all.length ∧ wrongL all = false ∧ s.got = [] ∧ ∃ m : Int, ∀ z, Fit .u8 z → allOf most (all.drop 24 ++ z) = (told, m, 4)))
theorem CkInv.new (most : Int) : CkInv most [] [] (Ik.new most) := ⟨rfl, (fun _ h => by cases h), .inl ⟨rfl, rfl, by decide, rfl, rfl, rfl⟩⟩
theorem CkInv.feed {most : Int} {all : List Int} {told : List Fr} {s : Ik} (h : CkInv most all told s) {b : List Int} (hb : Fit .u8 b) : CkInv most (all ++ b) told (feedI s b) := by
  obtain ⟨hm, hf, h⟩ := h
  have hfb := Fit.append' hf hb
  rcases h with ⟨h1, h2, h3, h4, h5, h6⟩ | ⟨h1, h2, h3, h4, m, h5, h6, h7⟩ | ⟨h1, h2, h3, h4, h5⟩ | ⟨h1, h2, h3, h4, h5, m, h6⟩
  · subst h6
    unfold feedI
    rw [if_neg (by simp [h1]), if_neg (by simp [h2]), h5]
    by_cases hw : wrongL (all ++ b) = true
    · rw [if_pos hw]
      exact ⟨hm, hfb, .inr (.inr (.inl ⟨rfl, rfl, hw, rfl, rfl⟩))⟩
    · rw [if_neg hw]
      have hw' : wrongL (all ++ b) = false := by simpa using hw
      by_cases hl : 24 ≤ (all ++ b).length
      · rw [if_pos hl]
        exact ⟨hm, hfb, .inr (.inl ⟨rfl, rfl, hl, hw', 0, Nat.zero_le _, rfl, fun z _ => (joinA_nil _).symm⟩)⟩
      · rw [if_neg hl]
        exact ⟨hm, hfb, .inl ⟨rfl, rfl, by omega, hw', rfl, rfl⟩⟩
  · unfold feedI
    rw [if_neg (by simp [h1]), if_pos h2]
    have hd : (all ++ b).drop 24 = all.drop 24 ++ b := List.drop_append_of_le_length h3
    refine ⟨hm, hfb, .inr (.inl ⟨h1, h2, by rw [List.length_append]; omega, by rw [wrongL_behind b h3]; exact h4, m, by rw [hd, List.length_append]; omega, ?_, fun z hz => ?_⟩)⟩
    · rw [hd, List.drop_append_of_le_length h5, h6]
    · rw [hd, List.append_assoc, h7 _ (Fit.append' hb hz), List.append_assoc]
  · have : feedI s b = s := by unfold feedI; rw [if_pos (by rw [h1]; decide)]
    rw [this]
    exact ⟨hm, hfb, .inr (.inr (.inl ⟨h1, h2, wrongL_grow h3, h4, h5⟩))⟩
  · have : feedI s b = s := by unfold feedI; rw [if_pos (by rw [h1]; decide)]
    rw [this]
    have hd : (all ++ b).drop 24 = all.drop 24 ++ b := List.drop_append_of_le_length h3
    refine ⟨hm, hfb, .inr (.inr (.inr ⟨h1, h2, by rw [List.length_append]; omega, by rw [wrongL_behind b h3]; exact h4, h5, m, fun z hz => ?_⟩))⟩
    rw [hd, List.append_assoc, h6 _ (Fit.append' hb hz)]
/-- nothing is left to be told -/
def Done (s : Ik) : Prop := nextIE s ≠ 0
theorem CkInv.frames {most : Int} {all : List Int} {told : List Fr} {s : Ik} (h : CkInv most all told s) {n : Nat} (hn : s.got.length < 9 * n) :
    CkInv most all (told ++ (framesI n s).1) (framesI n s).2.2 ∧ (framesI n s).2.1 = nextIE (framesI n s).2.2 ∧ (framesI n s).2.1 ≠ 0 ∧ nextIS (framesI n s).2.2 = (framesI n s).2.2 := by
  obtain ⟨k, rfl⟩ : ∃ k, n = k + 1 := ⟨n - 1, by omega⟩
  have h0 := h
  obtain ⟨hm, hf, h⟩ := h
  rcases h with ⟨h1, h2, h3, h4, h5, h6⟩ | ⟨h1, h2, h3, h4, m, h5, h6, h7⟩ | ⟨h1, h2, h3, h4, h5⟩ | ⟨h1, h2, h3, h4, h5, m, h6⟩
  · have hE : nextIE s = 2 := by simp [nextIE, h1, h2]
    have hS : nextIS s = s := by simp [nextIS, h1, h2]
    rw [framesI_stop (by rw [hE]; decide), hS, List.append_nil]
    exact ⟨h0, rfl, (show nextIE s ≠ 0 by rw [hE]; decide), hS⟩
  · have hfg : Fit .u8 s.got := by rw [h6]; exact (hf.drop 24).drop m
    have hA := framesI_all (k + 1) s h1 h2 hfg hn
    obtain ⟨j1, j2, j3, j4, j5, j6, j7⟩ := allOf_app s.most _ s.got (Nat.le_refl _) hfg
    rw [hm] at j1 j2 j3 j4 j5 j6 j7
    rw [hA, hm]
    generalize hAA : allOf most s.got = A at j1 j2 j3 j4 j5 j6 j7
    simp only
    by_cases h4' : A.2.2 = 4
    · rw [if_pos h4', h4']
      refine ⟨⟨rfl, hf, .inr (.inr (.inr ⟨rfl, rfl, h3, h4, rfl, (m : Int) + A.2.1, fun z hz => ?_⟩))⟩, rfl, (show (4 : Int) ≠ 0 by decide), rfl⟩
      rw [h7 z hz, j4 h4' z hz]
      simp [joinA, h4']
    · rw [if_neg h4']
      have hgl : s.got.length = (all.drop 24).length - m := by rw [h6, List.length_drop]
      have hI : CkInv most all (told ++ A.1) { s with got := s.got.drop A.2.1.toNat } := by
        refine ⟨hm, hf, .inr (.inl ⟨h1, h2, h3, h4, m + A.2.1.toNat, by omega, ?_, fun z hz => ?_⟩)⟩
        · show s.got.drop _ = _
          rw [h6, List.drop_drop]
        · rw [h7 z hz, j5 h4' z hz, joinA_join, show ((m + A.2.1.toNat : Nat) : Int) = (m : Int) + A.2.1 by omega]
      have hE : endE A.2.2 = 2 := by
        rcases j1 with h | h | h
        · rw [h]; rfl
        · rw [h]; rfl
        · exact absurd h h4'
      have hN : nextIE { s with got := s.got.drop A.2.1.toNat } = 2 := by
        have : nextIE { s with got := s.got.drop A.2.1.toNat } = nextE (s.got.drop A.2.1.toNat) most := by simp [nextIE, h1, h2, hm]
        rw [this]
        rcases j1 with h | h | h
        · have := j6 h
          rw [List.drop_of_length_le (by omega)]
          simp [nextE]
        · exact j7 h
        · exact absurd h h4'
      have hNS : nextIS { s with got := s.got.drop A.2.1.toNat } = { s with got := s.got.drop A.2.1.toNat } := by
        have : nextE (s.got.drop A.2.1.toNat) s.most = 2 := by
          have e : nextIE { s with got := s.got.drop A.2.1.toNat } = nextE (s.got.drop A.2.1.toNat) s.most := by simp [nextIE, h1, h2]
          rw [← e]; exact hN
        simp [nextIS, h1, h2, this]
      rw [hE]
      rw [hm] at hN hI hNS
      exact ⟨hI, hN.symm, by decide, hNS⟩
  · have hE : nextIE s = 3 := by simp [nextIE, h1]
    have hS : nextIS s = s := by simp [nextIS, h1]
    rw [framesI_stop (by rw [hE]; decide), hS, List.append_nil]
    exact ⟨h0, rfl, (show nextIE s ≠ 0 by rw [hE]; decide), hS⟩
  · have hE : nextIE s = 4 := by simp [nextIE, h1]
    have hS : nextIS s = s := by simp [nextIS, h1]
    rw [framesI_stop (by rw [hE]; decide), hS, List.append_nil]
    exact ⟨h0, rfl, (show nextIE s ≠ 0 by rw [hE]; decide), hS⟩
/-- what was told, and is left, when nothing is left to be told -/
theorem CkInv.done {most : Int} {all : List Int} {told : List Fr} {s : Ik} (h : CkInv most all told s) (hd : nextIE s ≠ 0) (hst : nextIS s = s) :
    (24 ≤ all.length ∧ wrongL all = false → s.begun = true ∧ told = (allOf most (all.drop 24)).1 ∧ nextIE s = endE (allOf most (all.drop 24)).2.2 ∧ s.got.length = if (allOf most (all.drop 24)).2.2 = 4 then 0 else (all.drop 24).length - (allOf most (all.drop 24)).2.1.toNat) ∧
    (¬ (24 ≤ all.length ∧ wrongL all = false) → s.begun = false ∧ told = [] ∧ nextIE s = (if wrongL all = true then 3 else 2) ∧ s.got.length = if wrongL all = true then 0 else all.length) := by
  obtain ⟨hm, hf, h⟩ := h
  rcases h with ⟨h1, h2, h3, h4, h5, h6⟩ | ⟨h1, h2, h3, h4, m, h5, h6, h7⟩ | ⟨h1, h2, h3, h4, h5⟩ | ⟨h1, h2, h3, h4, h5, m, h6⟩
  · refine ⟨fun h => by omega, fun _ => ⟨h2, h6, ?_, ?_⟩⟩
    · rw [if_neg (by simp [h4])]; simp [nextIE, h1, h2]
    · rw [if_neg (by simp [h4]), h5]
  · refine ⟨fun _ => ?_, fun h => absurd ⟨h3, h4⟩ h⟩
    have hE : nextIE s = nextE s.got s.most := by simp [nextIE, h1, h2]
    have hz := h7 [] (fun _ h => by cases h)
    rw [List.append_nil, List.append_nil] at hz
    rw [hE, hm] at hd
    have hn4 : nextE s.got most ≠ 4 := fun e => by
      have : (nextIS s).over = 4 := by simp [nextIS, h1, h2, hm, e]
      rw [hst, h1] at this; cases this
    by_cases h0 : s.got.length = 0
    · have hn := List.eq_nil_of_length_eq_zero h0
      rw [hn, allOf_nil] at hz
      rw [hz, hE, hm, hn]
      simp only [joinA, List.append_nil]
      refine ⟨h2, trivial, by simp [nextE, endE], ?_⟩
      rw [if_neg (by decide)]
      have : s.got.length = (all.drop 24).length - m := by rw [h6, List.length_drop]
      simp only [List.length_nil]
      omega
    · rw [allOf_bad h0 hd] at hz
      rw [hz, hE, hm]
      simp only [joinA, List.append_nil, endE, if_neg hd]
      refine ⟨h2, trivial, trivial, ?_⟩
      rw [if_neg hn4]
      have : s.got.length = (all.drop 24).length - m := by rw [h6, List.length_drop]
      omega
  · refine ⟨fun h => (by rw [h3] at h; cases h.2), fun _ => ⟨h2, h5, ?_, ?_⟩⟩
    · rw [if_pos h3]; simp [nextIE, h1]
    · rw [if_pos h3, h4]; rfl
  · refine ⟨fun _ => ?_, fun h => absurd ⟨h3, h4⟩ h⟩
    have hz := h6 [] (fun _ h => by cases h)
    rw [List.append_nil] at hz
    rw [hz, h5]
    exact ⟨h2, rfl, by simp [nextIE, h1, endE], by simp⟩
end Go.Proofs.Ytappehjcbjplaaa
