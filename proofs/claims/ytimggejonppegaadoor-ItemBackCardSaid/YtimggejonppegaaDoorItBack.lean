
/-
  Items: there and back, cut short, what comes out.
-/
import Derived.Test.YtimggejonppegaaDoorItRefDec
namespace Go.Proofs.YtimggejonppegaaDoor
open Go.RowKit

theorem kindI_first {k n : Int} (h0 : 0 ≤ k) (h4 : k < 5) (hn : 0 ≤ n) (r : List Int) : kindI (at0 (encP (fullP (bitsI k)) (aboveI k) n ++ r) 0) = k := by
  have f7 : fullP 7 = 127 := by decide
  have f6 : fullP 6 = 63 := by decide
  have f5 : fullP 5 = 31 := by decide
  have f4 : fullP 4 = 15 := by decide
  obtain ⟨c, hc, h1, h2⟩ : ∃ c, at0 (encP (fullP (bitsI k)) (aboveI k) n ++ r) 0 = c ∧ aboveI k ≤ c ∧ c ≤ aboveI k + fullP (bitsI k) := by
    unfold encP
    split
    · exact ⟨aboveI k + n, rfl, by omega, by omega⟩
    · have hb := bitsI_bound k
      have := (fullP_bound (b := bitsI k) (by omega) (by omega)).1
      exact ⟨aboveI k + fullP (bitsI k), rfl, by omega, by omega⟩
  rw [hc]
  rcases kind_cases h0 h4 with rfl | rfl | rfl | rfl | rfl <;> simp [bitsI, aboveI, f7, f6, f5, f4] at h1 h2 <;> unfold kindI
  · rw [if_pos (by omega)]
  · rw [if_neg (by omega), if_pos (by omega)]
  · rw [if_neg (by omega), if_neg (by omega), if_neg (by omega), if_neg (by omega)]
  · rw [if_neg (by omega), if_neg (by omega), if_neg (by omega), if_pos (by omega)]
  · rw [if_neg (by omega), if_neg (by omega), if_pos (by omega)]
theorem litS_dec {zs : List Int} (hf : Fit .u8 zs) (hz : zs.length ≤ 1000000) (behind : List Int) {most : Int} (hm : (zs.length : Int) ≤ most) : decL most (litS zs ++ behind) = (zs, ((litS zs).length : Int), 0) := by
  obtain ⟨sq, h⟩ := litS_sq zs
  rw [h]
  exact decL_lit sq hf hz behind hm
theorem litS_cut {zs : List Int} (hf : Fit .u8 zs) (hz : zs.length ≤ 1000000) {most : Int} {j : Nat} (hj : j < (litS zs).length) : decL most ((litS zs).take j) = ([], 0, 2) := by
  obtain ⟨sq, h⟩ := litS_sq zs
  rw [h] at hj ⊢
  exact decL_cut sq hf hz hj
theorem nums_emp : nums ⟨#[]⟩ = [] := rfl
theorem rightI.nameless {k n : Int} {a b : ByteArray} (h : rightI k n a b) (ht : textsI k = true) (h0 : n ≠ 0) : a = ⟨#[]⟩ := size_nil ((h.2.2.2.1 ht).2.2 h0)
theorem rightI.bare {k n : Int} {a b : ByteArray} (h : rightI k n a b) (ht : textsI k = false) : a = ⟨#[]⟩ ∧ b = ⟨#[]⟩ := ⟨size_nil (h.2.2.2.2 ht).1, size_nil (h.2.2.2.2 ht).2⟩

theorem encI_plain {k n : Int} {a b : ByteArray} (ht : textsI k = false) : encI k n a b = encP (fullP (bitsI k)) (aboveI k) n := by
  rw [encI, nameI, valI, if_neg (by simp [ht]), if_neg (by simp [ht]), List.append_nil, List.append_nil]
theorem encI_one {k n : Int} {a b : ByteArray} (ht : textsI k = true) (h0 : n ≠ 0) : encI k n a b = encP (fullP (bitsI k)) (aboveI k) n ++ litS (nums b) := by
  rw [encI, nameI, valI, if_pos ht, if_pos ht, if_neg h0, List.append_nil]
theorem encI_two {k : Int} {a b : ByteArray} (ht : textsI k = true) : encI k 0 a b = encP (fullP (bitsI k)) (aboveI k) 0 ++ (litS (nums a) ++ litS (nums b)) := by
  rw [encI, nameI, valI, if_pos ht, if_pos ht, if_pos rfl, List.append_assoc]

/-- what the number's bytes say -/
structure HeadI (k n : Int) (P : List Int) : Prop where
  pos : 1 ≤ P.length
  dec : ∀ r, decP (fullP (bitsI k)) (P ++ r) = (n, (P.length : Int), 0)
  cut : ∀ j, j < P.length → decP (fullP (bitsI k)) (P.take j) = (0, 0, 2)
  kind : ∀ r, kindI (at0 (P ++ r) 0) = k
  least : ¬ n < leastI k
theorem rightI.head {k n : Int} {a b : ByteArray} (h : rightI k n a b) : HeadI k n (encP (fullP (bitsI k)) (aboveI k) n) := by
  have hB := bitsI_bound k
  have hF := fullP_bound (b := bitsI k) (by omega) (by omega)
  exact ⟨(encP_length _ _ _).1, fun r => decP_encP _ _ _ r (by omega) h.enc.2.2.2.2 h.num.1 h.num.2, fun j hj => decP_cut _ _ _ j (by omega) h.enc.2.2.2.2 h.num.1 h.num.2 hj, fun r => kindI_first h.1.1 h.1.2 h.num.1 r, by have := h.2.1; omega⟩
theorem HeadI.ne {k n : Int} {P : List Int} (h : HeadI k n P) (r : List Int) : 0 < (P ++ r).length := by have := h.pos; rw [List.length_append]; omega
theorem drop_head (P r : List Int) : (P ++ r).drop (P.length : Int).toNat = r := by simp
theorem drop_head2 (P Q r : List Int) : (P ++ (Q ++ r)).drop ((P.length : Int) + (Q.length : Int)).toNat = r := by
  rw [← List.append_assoc, show ((P.length : Int) + (Q.length : Int)).toNat = (P ++ Q).length by simp; omega]
  simp

/-- there and back -/
theorem encI_back {k n : Int} {a b : ByteArray} (h : rightI k n a b) {most : Int} (ha : (a.size : Int) ≤ most) (hb : (b.size : Int) ≤ most) (behind : List Int) :
    decI most (encI k n a b ++ behind) = ⟨k, n, nums a, nums b, ((encI k n a b).length : Int), 0⟩ := by
  have hs := rightI_sizes h
  have hna : (nums a).length = a.size := nums_length a
  have hnb : (nums b).length = b.size := nums_length b
  have H := h.head
  by_cases ht : textsI k = true
  · by_cases h0 : n = 0
    · subst h0
      rw [encI_two ht]
      generalize encP (fullP (bitsI k)) (aboveI k) 0 = P at H
      have e : P ++ (litS (nums a) ++ litS (nums b)) ++ behind = P ++ (litS (nums a) ++ (litS (nums b) ++ behind)) := by simp
      rw [e, decI_two (H.ne _) (H.kind _) (H.dec _) H.least ht, decNV, drop_head, litS_dec (nums_fit a) (by omega) _ (by omega)]
      rw [if_neg (by simp), decV, drop_head2, litS_dec (nums_fit b) (by omega) _ (by omega), if_neg (by simp)]
      simp only [DecO.mk.injEq, true_and, and_true]
      simp
      omega
    · rw [encI_one ht h0]
      generalize encP (fullP (bitsI k)) (aboveI k) n = P at H
      rw [List.append_assoc, decI_one (H.ne _) (H.kind _) (H.dec _) H.least ht h0, decV, drop_head, litS_dec (nums_fit b) (by omega) _ (by omega), if_neg (by simp), h.nameless ht h0, nums_emp]
      simp only [DecO.mk.injEq, true_and, and_true]
      simp
  · have ht : textsI k = false := by simpa using ht
    rw [encI_plain ht]
    generalize encP (fullP (bitsI k)) (aboveI k) n = P at H
    rw [decI_plain (H.ne _) (H.kind _) (H.dec _) H.least ht, (h.bare ht).1, (h.bare ht).2, nums_emp]
/-- cut short -/
theorem encI_cut {k n : Int} {a b : ByteArray} (h : rightI k n a b) {most : Int} (ha : (a.size : Int) ≤ most) {j : Nat} (hj : j < (encI k n a b).length) : decI most ((encI k n a b).take j) = .err 2 := by
  have hs := rightI_sizes h
  have hna : (nums a).length = a.size := nums_length a
  have hnb : (nums b).length = b.size := nums_length b
  have H := h.head
  by_cases hj0 : j = 0
  · subst hj0
    rw [List.take_zero, decI_nil]
  -- behind the first byte
  have short : ∀ (P r : List Int), HeadI k n P → j < P.length → decI most ((P ++ r).take j) = .err 2 := by
    intro P r H hlt
    rw [List.take_append_of_le_length (by omega)]
    have hk := H.kind []
    rw [List.append_nil] at hk
    exact decI_err (by rw [List.length_take]; omega) (by rw [at0_take (by omega)]; exact hk) (H.cut j hlt) (by decide)
  by_cases ht : textsI k = true
  · by_cases h0 : n = 0
    · subst h0
      rw [encI_two ht] at hj ⊢
      generalize encP (fullP (bitsI k)) (aboveI k) 0 = P at H hj
      by_cases h1 : j < P.length
      · exact short P _ H h1
      · have e : (P ++ (litS (nums a) ++ litS (nums b))).take j = P ++ (litS (nums a) ++ litS (nums b)).take (j - P.length) := by rw [List.take_append, List.take_of_length_le (by omega)]
        rw [e, decI_two (H.ne _) (H.kind _) (H.dec _) H.least ht, decNV, drop_head]
        rw [List.length_append, List.length_append] at hj
        by_cases h2 : j - P.length < (litS (nums a)).length
        · rw [List.take_append_of_le_length (by omega), litS_cut (nums_fit a) (by omega) h2]
          rfl
        · rw [List.take_append, List.take_of_length_le (by omega), litS_dec (nums_fit a) (by omega) _ (by omega), if_neg (by simp), decV, drop_head2, litS_cut (nums_fit b) (by omega) (by omega)]
          rfl
    · rw [encI_one ht h0] at hj ⊢
      generalize encP (fullP (bitsI k)) (aboveI k) n = P at H hj
      by_cases h1 : j < P.length
      · exact short P _ H h1
      · have e : (P ++ litS (nums b)).take j = P ++ (litS (nums b)).take (j - P.length) := by rw [List.take_append, List.take_of_length_le (by omega)]
        rw [List.length_append] at hj
        rw [e, decI_one (H.ne _) (H.kind _) (H.dec _) H.least ht h0, decV, drop_head, litS_cut (nums_fit b) (by omega) (by omega)]
        rfl
  · have ht : textsI k = false := by simpa using ht
    rw [encI_plain ht] at hj ⊢
    have := short _ [] H hj
    rwa [List.append_nil] at this

theorem decL_len {most : Int} {zs a : List Int} {u : Int} (hf : Fit .u8 zs) (h : decL most zs = (a, u, 0)) : Fit .u8 a ∧ (a.length : Int) ≤ max most 0 := by
  have h1 := decL_fit (most := most) hf
  rw [h] at h1
  refine ⟨h1, ?_⟩
  by_cases h0 : (decP (fullP 7) zs).2.2 = 0
  · obtain ⟨p1, p2, p3, p4⟩ := decP_ok hf h0
    rw [decL, if_neg (by simp [h0])] at h
    split at h
    · cases h
    · split at h
      · split at h
        · rename_i e
          simp only [Prod.mk.injEq] at h
          exact absurd h.2.2 e
        · rename_i e
          obtain ⟨t, z, hd⟩ : ∃ t z, decB most ((zs.take ((decP (fullP 7) zs).2.1 + (decP (fullP 7) zs).1).toNat).drop (decP (fullP 7) zs).2.1.toNat) = (t, z) := ⟨_, _, rfl⟩
          rw [hd] at h e
          have hz : z = 0 := by simpa using e
          subst hz
          simp only [Prod.mk.injEq] at h
          obtain ⟨rfl, _⟩ := h
          exact (enc_dec ((hf.take _).drop _) hd).2.2
      · split at h
        · cases h
        · simp only [Prod.mk.injEq] at h
          rw [← h.1, List.length_drop, List.length_take]
          omega
  · rw [decL, if_pos h0] at h
    simp only [Prod.mk.injEq] at h
    exact absurd h.2.2 h0
/-- what comes out may be -/
theorem decI_ok {most : Int} {zs : List Int} (hf : Fit .u8 zs) (h0 : 0 ≤ most) {k n u : Int} {a b : List Int} (h : decI most zs = ⟨k, n, a, b, u, 0⟩) :
    rightI k n (strOfNums a) (strOfNums b) ∧ (a.length : Int) ≤ most ∧ (b.length : Int) ≤ most ∧ Fit .u8 a ∧ Fit .u8 b := by
  have nil : Fit .u8 ([] : List Int) := fun x hx => by simp at hx
  have hz : 0 < zs.length := by
    rcases zs with _ | ⟨x, r⟩
    · rw [decI_nil] at h; cases h
    · simp
  obtain ⟨k', hk⟩ : ∃ k, kindI (at0 zs 0) = k := ⟨_, rfl⟩
  have hkb : 0 ≤ k' ∧ k' < 5 := by rw [← hk]; exact kindI_bound _
  obtain ⟨m, p, e, hd⟩ : ∃ n p e, decP (fullP (bitsI k')) zs = (n, p, e) := ⟨_, _, _, rfl⟩
  by_cases he : e = 0
  · subst he
    have hB := bitsI_bound k'
    obtain ⟨n0, n1, p0, p1⟩ := decP_okm (by omega) hf hd
    by_cases hl : m < leastI k'
    · rw [decI_less hz hk hd hl] at h; cases h
    · have size : ∀ xs : List Int, (strOfNums xs).size = xs.length := fun xs => by simp [strOfNums, ByteArray.size]
      have txt : ∀ xs : List Int, (xs.length : Int) ≤ max (min most 65536) 0 → (strOfNums xs).size ≤ 65536 := fun xs hx => by rw [size]; omega
      by_cases ht : textsI k' = true
      · by_cases hm : m = 0
        · subst hm
          rw [decI_two hz hk hd hl ht, decNV] at h
          obtain ⟨x, v, f, h1⟩ : ∃ b v f, decL (min most 65536) (zs.drop p.toNat) = (b, v, f) := ⟨_, _, _, rfl⟩
          rw [h1] at h
          by_cases hf0 : f = 0
          · subst hf0
            rw [if_neg (by simp), decV] at h
            obtain ⟨y, z, g, h2⟩ : ∃ y z g, decL (min most 65536) (zs.drop (p + v).toNat) = (y, z, g) := ⟨_, _, _, rfl⟩
            simp only [h2] at h
            by_cases hg0 : g = 0
            · subst hg0
              rw [if_neg (by simp)] at h
              simp only [DecO.mk.injEq] at h
              obtain ⟨rfl, rfl, rfl, rfl, rfl, _⟩ := h
              have l1 := decL_len (hf.drop _) h1
              have l2 := decL_len (hf.drop _) h2
              exact ⟨⟨hkb, by omega, n1, fun _ => ⟨txt _ l1.2, txt _ l2.2, fun h => absurd rfl h⟩, fun h => by rw [ht] at h; cases h⟩, by omega, by omega, l1.1, l2.1⟩
            · rw [if_pos hg0] at h
              simp only [DecO.err, DecO.mk.injEq] at h
              exact absurd h.2.2.2.2.2 hg0
          · rw [if_pos hf0] at h
            simp only [DecO.err, DecO.mk.injEq] at h
            exact absurd h.2.2.2.2.2 hf0
        · rw [decI_one hz hk hd hl ht hm, decV] at h
          obtain ⟨x, v, f, h1⟩ : ∃ b v f, decL (min most 65536) (zs.drop p.toNat) = (b, v, f) := ⟨_, _, _, rfl⟩
          simp only [h1] at h
          by_cases hf0 : f = 0
          · subst hf0
            rw [if_neg (by simp)] at h
            simp only [DecO.mk.injEq] at h
            obtain ⟨rfl, rfl, rfl, rfl, rfl, _⟩ := h
            have l1 := decL_len (hf.drop _) h1
            exact ⟨⟨hkb, by omega, n1, fun _ => ⟨by decide, txt _ l1.2, fun _ => rfl⟩, fun h => by rw [ht] at h; cases h⟩, by simp; omega, by omega, nil, l1.1⟩
          · rw [if_pos hf0] at h
            simp only [DecO.err, DecO.mk.injEq] at h
            exact absurd h.2.2.2.2.2 hf0
      · have ht : textsI k' = false := by simpa using ht
        rw [decI_plain hz hk hd hl ht] at h
        simp only [DecO.mk.injEq] at h
        obtain ⟨rfl, rfl, rfl, rfl, rfl, _⟩ := h
        exact ⟨⟨hkb, by omega, n1, fun h => (by rw [ht] at h; cases h), fun _ => ⟨rfl, rfl⟩⟩, by simp; omega, by simp; omega, nil, nil⟩
  · rw [decI_err hz hk hd he] at h
    simp only [DecO.err, DecO.mk.injEq] at h
    exact absurd h.2.2.2.2.2 he

/-- an item's bytes fit, and are not too many -/
theorem encI_fit {k n : Int} {a b : ByteArray} (h : rightI k n a b) : Fit .u8 (encI k n a b) := by
  have hs := rightI_sizes h
  have hB := bitsI_bound k
  have hF := fullP_bound (b := bitsI k) (by omega) (by omega)
  have hP := encP_fit (fullP (bitsI k)) (aboveI k) n (by omega) h.enc.2.2.1 (above_bound (by omega) (by omega) h.enc.2.2.2.1 h.enc.2.2.2.2) h.num.1 h.num.2
  have nil : Fit .u8 ([] : List Int) := fun x hx => by simp at hx
  rw [encI]
  refine (hP.append ?_).append ?_
  · rw [nameI]; split
    · split
      · exact litS_fit (nums_fit a) (by rw [nums_length]; omega)
      · exact nil
    · exact nil
  · rw [valI]; split
    · exact litS_fit (nums_fit b) (by rw [nums_length]; omega)
    · exact nil
theorem encI_length {k n : Int} {a b : ByteArray} (h : rightI k n a b) : 1 ≤ (encI k n a b).length ∧ (encI k n a b).length ≤ 16 + 4 * a.size + 4 * b.size := by
  have hs := rightI_sizes h
  have hp := encP_length (fullP (bitsI k)) (aboveI k) n
  have h1 := litS_length (nums_fit a) (by rw [nums_length]; omega)
  have h2 := litS_length (nums_fit b) (by rw [nums_length]; omega)
  rw [nums_length] at h1 h2
  have e1 : (nameI k n a).length ≤ 4 * a.size + 5 := by
    rw [nameI]; split
    · split
      · omega
      · simp
    · simp
  have e2 : (valI k b).length ≤ 4 * b.size + 5 := by
    rw [valI]; split
    · omega
    · simp
  rw [encI, List.length_append, List.length_append]
  omega
end Go.Proofs.YtimggejonppegaaDoor
