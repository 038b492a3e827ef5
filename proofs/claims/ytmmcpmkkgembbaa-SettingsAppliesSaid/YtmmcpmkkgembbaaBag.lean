
/-
  A region that draws its order, where at one point some operations that yield nothing (stores, inserts) may come up in whatever order, each by itself: one law for all their orders. No program is named here.
-/
import Derived.Test.YtmmcpmkkgembbaaRegion
namespace Go.Proofs.Ytmmcpmkkgembbaa
open Go.RowKit

/-- which operations have come up: those of a base, and some of the bag -/
def lstOf (base : List Bool) (J : List Nat) (S : Nat → Bool) : Array Bool := ((List.range base.length).map (fun i => base.getD i false || (J.contains i && S i))).toArray
theorem lstOf_get {base : List Bool} {J : List Nat} {S : Nat → Bool} {i : Nat} (hi : i < base.length) (d : Bool) : (lstOf base J S).getD i d = (base.getD i false || (J.contains i && S i)) := by simp [lstOf, hi]
theorem lstOf_size {base : List Bool} {J : List Nat} {S : Nat → Bool} : (lstOf base J S).size = base.length := by simp [lstOf]
theorem lstOf_set {base : List Bool} {J : List Nat} {S : Nat → Bool} {i : Nat} (hi : i ∈ J) : (lstOf base J S).setIfInBounds i true = lstOf base J (fun j => j == i || S j) := by
  apply Array.ext
  · simp [lstOf]
  · intro k h1 h2
    have hk : k < base.length := by simpa [lstOf] using h2
    rw [Array.getElem_setIfInBounds]
    · by_cases hki : i = k
      · subst hki
        simp [lstOf, hi]
      · simp [lstOf, hki, show (k == i) = false by simpa using Ne.symm hki]
    · simpa [lstOf] using hk
theorem lstOf_full {base : List Bool} {J : List Nat} {S : Nat → Bool} (h : ∀ i ∈ J, S i = true) : lstOf base J S = lstOf base J (fun _ => true) := by
  unfold lstOf
  congr 1
  refine List.map_congr_left fun i _ => ?_
  by_cases hi : i ∈ J
  · simp [h i hi]
  · simp [hi]
def bagB (l : List Oper) (J : List Nat) (base : List Bool) : Bool :=
  decide (base.length = l.length) && decide J.Nodup && J.all (fun i => !base.getD i true && (match l[i]? with
    | some o => o.guard.isNone && o.dst.isNone && o.after.all (fun e => !Region.binds .any e || base.getD e.on false)
    | none => false)) &&
  (List.range l.length).all (fun i => J.contains i || base.getD i false || J.all (fun j => Region.waitsFor .any l.toArray i j))

theorem wpAny_bag {P : Program} {l : List Oper} {Q : Exit → Act → World → Prop} {a : Act} (J : List Nat) (base : List Bool) (hB : bagB l J base = true) (Inv : (Nat → Bool) → World → Prop) (f : Nat)
    (hop : ∀ i ∈ J, ∀ (S : Nat → Bool) (w : World) (o : Oper), l[i]? = some o → S i = false → Inv S w → o.wp P a w (fun a' w' => a' = a ∧ Inv (fun j => j == i || S j) w') Q)
    (hend : ∀ (S : Nat → Bool) (w : World), (∀ i ∈ J, S i = true) → Inv S w → wpAny P .any l.toArray Q f (lstOf base J S) a w) :
    ∀ (m : Nat) (S : Nat → Bool) (w : World), J.countP (fun i => !S i) = m → Inv S w → wpAny P .any l.toArray Q (m + f) (lstOf base J S) a w := by
  simp only [bagB, Bool.and_eq_true, decide_eq_true_eq, List.all_eq_true, Bool.or_eq_true] at hB
  obtain ⟨⟨⟨hlen, hnd⟩, hJ⟩, hR⟩ := hB
  have hin : ∀ i ∈ J, ∃ o, l[i]? = some o ∧ o.guard = none ∧ o.dst = none ∧ (∀ e ∈ o.after, Region.binds .any e = true → base.getD e.on false = true) ∧ base.getD i true = false := fun i hi => by
    obtain ⟨h1, h2⟩ := hJ i hi
    split at h2
    · rename_i o ho
      simp only [Bool.and_eq_true, Option.isNone_iff_eq_none, Array.all_eq_true_iff_forall_mem, Bool.or_eq_true, Bool.not_eq_true'] at h2 h1
      exact ⟨o, ho, h2.1.1, h2.1.2, fun e he hb => (h2.2 e he).resolve_left (by simp [hb]), h1⟩
    · cases h2
  intro m
  induction m with
  | zero =>
    intro S w hm hI
    rw [Nat.zero_add]
    refine hend S w (fun i hi => ?_) hI
    have := List.countP_eq_zero.1 hm i hi
    simpa using this
  | succ m ih =>
    intro S w hm hI
    obtain ⟨j0, hj0, hs0⟩ : ∃ j, j ∈ J ∧ S j = false := by
      have : 0 < J.countP (fun i => !S i) := by omega
      obtain ⟨j, hj, hs⟩ := List.countP_pos_iff.1 this
      exact ⟨j, hj, by simpa using hs⟩
    rw [Nat.add_right_comm]
    refine ⟨fun h0 => ?_, fun i hi => ?_⟩
    · obtain ⟨o, ho, hg, hd, ha, hb⟩ := hin j0 hj0
      have hj0l : j0 < base.length := by rw [hlen]; exact (List.getElem?_eq_some_iff.1 ho).1
      have : j0 ∈ Region.ready .any l.toArray (lstOf base J S) := mem_ready.2 ⟨by
        rw [lstOf_get hj0l, hs0]
        have : base.getD j0 false = false := by
          simp [hj0l] at hb ⊢; exact hb
        rw [this]; simp, o, by simpa using ho, fun e he hbnd => by
          have h1 := ha e he hbnd
          have he' : e.on < base.length := by
            by_cases h : e.on < base.length
            · exact h
            · simp [List.getD_eq_getElem?_getD, List.getElem?_eq_none (by omega : base.length ≤ e.on)] at h1
          rw [lstOf_get he', h1]; rfl⟩
      rw [h0] at this
      cases this
    · obtain ⟨h0, o, ho, hall'⟩ := mem_ready.1 hi
      have hil : i < l.length := by have := (Array.getElem?_eq_some_iff.1 ho).1; simpa using this
      rw [lstOf_get (by omega)] at h0
      simp only [Bool.or_eq_false_iff, Bool.and_eq_false_iff] at h0
      have hiJ : i ∈ J := by
        rcases hR i (List.mem_range.2 hil) with (h | h) | h
        · simpa using h
        · rw [h] at h0; cases h0.1
        · obtain ⟨oj, hoj, e, he, hbnd, hon⟩ := Region.waitsFor_spec (h j0 hj0)
          obtain rfl := Option.some.inj (hoj.symm.trans ho)
          have h2 := hall' e he hbnd
          rw [hon] at h2
          obtain ⟨o0, ho0, _, _, _, hb0⟩ := hin j0 hj0
          have hj0l : j0 < base.length := by rw [hlen]; exact (List.getElem?_eq_some_iff.1 ho0).1
          rw [lstOf_get hj0l, hs0] at h2
          have : base.getD j0 false = false := by
            simp [hj0l] at hb0 ⊢; exact hb0
          rw [this] at h2
          simp at h2
      have hSi : S i = false := by
        rcases h0.2 with h | h
        · simp at h; exact absurd hiJ h
        · exact h
      obtain ⟨o', ho', hg, hd, _, _⟩ := hin i hiJ
      have ho2 : l[i]? = some o := by simpa using ho
      obtain rfl := Option.some.inj (ho'.symm.trans ho2)
      unfold wpOp
      simp only [ho, wanted_none hg, if_true]
      refine .inl (Oper.wp_mono ?_ (hop i hiJ S w o' ho2 hSi hI))
      rintro a' w' ⟨rfl, hI'⟩
      rw [lstOf_set hiJ]
      refine ih _ w' ?_ hI'
      have := countP_flip (fun j => !S j) (fun j => !(j == i || S j)) i (by simp [hSi]) (by simp) (fun j hj => by simp [show (j == i) = false by simpa using hj]) J hnd hiJ
      omega
end Go.Proofs.Ytmmcpmkkgembbaa
