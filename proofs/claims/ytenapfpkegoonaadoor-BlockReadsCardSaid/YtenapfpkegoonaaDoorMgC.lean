/-
  Several texts of mine, one behind the other: ItBack, Ref05, ItRefEnc, ItAny.
-/
import Derived.Test.YtenapfpkegoonaaDoorMgB
import Derived.Laws.StructEq

/-
  Items: there and back, cut short, what comes out.
-/
namespace Go.Proofs.YtenapfpkegoonaaDoor
set_option maxRecDepth 20000
open Go.RowKit

theorem kindI_first {k n : Int} (h0 : 0 ≤ k) (h4 : k < 5) (hn : 0 ≤ n) (r : List Int) : kindI (at0 (encP (fullP (bitsI k)) (aboveI k) n ++ r) 0) = k := by
  have f7 : fullP 7 = 127 := by decide
  have f6 : fullP 6 = 63 := by decide
  have f5 : fullP 5 = 31 := by decide
  have f4 : fullP 4 = 15 := by decide
  obtain ⟨c, hc, h1, h2⟩ : ∃ c, at0 (encP (fullP (bitsI k)) (aboveI k) n ++ r) 0 = c ∧ aboveI k ≤ c ∧ c ≤ aboveI k + fullP (bitsI k) := by
    unfold encP
    split
    · exact ⟨aboveI k + n, rfl, by omega, by omega⟩
    · have hb := bitsI_bound k
      have := (fullP_bound (b := bitsI k) (by omega) (by omega)).1
      exact ⟨aboveI k + fullP (bitsI k), rfl, by omega, by omega⟩
  rw [hc]
  rcases kind_cases h0 h4 with rfl | rfl | rfl | rfl | rfl <;> simp [bitsI, aboveI, f7, f6, f5, f4] at h1 h2 <;> unfold kindI
  · rw [if_pos (by omega)]
  · rw [if_neg (by omega), if_pos (by omega)]
  · rw [if_neg (by omega), if_neg (by omega), if_neg (by omega), if_neg (by omega)]
  · rw [if_neg (by omega), if_neg (by omega), if_neg (by omega), if_pos (by omega)]
  · rw [if_neg (by omega), if_neg (by omega), if_pos (by omega)]
theorem litS_dec {zs : List Int} (hf : Fit .u8 zs) (hz : zs.length ≤ 1000000) (behind : List Int) {most : Int} (hm : (zs.length : Int) ≤ most) : decL most (litS zs ++ behind) = (zs, ((litS zs).length : Int), 0) := by
  obtain ⟨sq, h⟩ := litS_sq zs
  rw [h]
  exact decL_lit sq hf hz behind hm
theorem litS_cut {zs : List Int} (hf : Fit .u8 zs) (hz : zs.length ≤ 1000000) {most : Int} {j : Nat} (hj : j < (litS zs).length) : decL most ((litS zs).take j) = ([], 0, 2) := by
  obtain ⟨sq, h⟩ := litS_sq zs
  rw [h] at hj ⊢
  exact decL_cut sq hf hz hj
theorem nums_emp : nums ⟨#[]⟩ = [] := rfl
theorem rightI.nameless {k n : Int} {a b : ByteArray} (h : rightI k n a b) (ht : textsI k = true) (h0 : n ≠ 0) : a = ⟨#[]⟩ := size_nil ((h.2.2.2.1 ht).2.2 h0)
theorem rightI.bare {k n : Int} {a b : ByteArray} (h : rightI k n a b) (ht : textsI k = false) : a = ⟨#[]⟩ ∧ b = ⟨#[]⟩ := ⟨size_nil (h.2.2.2.2 ht).1, size_nil (h.2.2.2.2 ht).2⟩

theorem encI_plain {k n : Int} {a b : ByteArray} (ht : textsI k = false) : encI k n a b = encP (fullP (bitsI k)) (aboveI k) n := by
  rw [encI, nameI, valI, if_neg (by simp [ht]), if_neg (by simp [ht]), List.append_nil, List.append_nil]
theorem encI_one {k n : Int} {a b : ByteArray} (ht : textsI k = true) (h0 : n ≠ 0) : encI k n a b = encP (fullP (bitsI k)) (aboveI k) n ++ litS (nums b) := by
  rw [encI, nameI, valI, if_pos ht, if_pos ht, if_neg h0, List.append_nil]
theorem encI_two {k : Int} {a b : ByteArray} (ht : textsI k = true) : encI k 0 a b = encP (fullP (bitsI k)) (aboveI k) 0 ++ (litS (nums a) ++ litS (nums b)) := by
  rw [encI, nameI, valI, if_pos ht, if_pos ht, if_pos rfl, List.append_assoc]

/-- what the number's bytes say -/
structure HeadI (k n : Int) (P : List Int) : Prop where
  pos : 1 ≤ P.length
  dec : ∀ r, decP (fullP (bitsI k)) (P ++ r) = (n, (P.length : Int), 0)
  cut : ∀ j, j < P.length → decP (fullP (bitsI k)) (P.take j) = (0, 0, 2)
  kind : ∀ r, kindI (at0 (P ++ r) 0) = k
  least : ¬ n < leastI k
theorem rightI.head {k n : Int} {a b : ByteArray} (h : rightI k n a b) : HeadI k n (encP (fullP (bitsI k)) (aboveI k) n) := by
  have hB := bitsI_bound k
  have hF := fullP_bound (b := bitsI k) (by omega) (by omega)
  exact ⟨(encP_length _ _ _).1, fun r => decP_encP _ _ _ r (by omega) h.enc.2.2.2.2 h.num.1 h.num.2, fun j hj => decP_cut _ _ _ j (by omega) h.enc.2.2.2.2 h.num.1 h.num.2 hj, fun r => kindI_first h.1.1 h.1.2 h.num.1 r, by have := h.2.1; omega⟩
theorem HeadI.ne {k n : Int} {P : List Int} (h : HeadI k n P) (r : List Int) : 0 < (P ++ r).length := by have := h.pos; rw [List.length_append]; omega
theorem drop_head (P r : List Int) : (P ++ r).drop (P.length : Int).toNat = r := by simp
theorem drop_head2 (P Q r : List Int) : (P ++ (Q ++ r)).drop ((P.length : Int) + (Q.length : Int)).toNat = r := by
  rw [← List.append_assoc, show ((P.length : Int) + (Q.length : Int)).toNat = (P ++ Q).length by simp; omega]
  simp

/-- there and back -/
theorem encI_back {k n : Int} {a b : ByteArray} (h : rightI k n a b) {most : Int} (ha : (a.size : Int) ≤ most) (hb : (b.size : Int) ≤ most) (behind : List Int) :
    decI most (encI k n a b ++ behind) = ⟨k, n, nums a, nums b, ((encI k n a b).length : Int), 0⟩ := by
  have hs := rightI_sizes h
  have hna : (nums a).length = a.size := nums_length a
  have hnb : (nums b).length = b.size := nums_length b
  have H := h.head
  by_cases ht : textsI k = true
  · by_cases h0 : n = 0
    · subst h0
      rw [encI_two ht]
      generalize encP (fullP (bitsI k)) (aboveI k) 0 = P at H
      have e : P ++ (litS (nums a) ++ litS (nums b)) ++ behind = P ++ (litS (nums a) ++ (litS (nums b) ++ behind)) := by simp
      rw [e, decI_two (H.ne _) (H.kind _) (H.dec _) H.least ht, decNV, drop_head, litS_dec (nums_fit a) (by omega) _ (by omega)]
      rw [if_neg (by simp), decV, drop_head2, litS_dec (nums_fit b) (by omega) _ (by omega), if_neg (by simp)]
      simp only [DecO.mk.injEq, true_and, and_true]
      simp
      omega
    · rw [encI_one ht h0]
      generalize encP (fullP (bitsI k)) (aboveI k) n = P at H
      rw [List.append_assoc, decI_one (H.ne _) (H.kind _) (H.dec _) H.least ht h0, decV, drop_head, litS_dec (nums_fit b) (by omega) _ (by omega), if_neg (by simp), h.nameless ht h0, nums_emp]
      simp only [DecO.mk.injEq, true_and, and_true]
      simp
  · have ht : textsI k = false := by simpa using ht
    rw [encI_plain ht]
    generalize encP (fullP (bitsI k)) (aboveI k) n = P at H
    rw [decI_plain (H.ne _) (H.kind _) (H.dec _) H.least ht, (h.bare ht).1, (h.bare ht).2, nums_emp]
/-- cut short -/
theorem encI_cut {k n : Int} {a b : ByteArray} (h : rightI k n a b) {most : Int} (ha : (a.size : Int) ≤ most) {j : Nat} (hj : j < (encI k n a b).length) : decI most ((encI k n a b).take j) = .err 2 := by
  have hs := rightI_sizes h
  have hna : (nums a).length = a.size := nums_length a
  have hnb : (nums b).length = b.size := nums_length b
  have H := h.head
  by_cases hj0 : j = 0
  · subst hj0
    rw [List.take_zero, decI_nil]
  -- behind the first byte
  have short : ∀ (P r : List Int), HeadI k n P → j < P.length → decI most ((P ++ r).take j) = .err 2 := by
    intro P r H hlt
    rw [List.take_append_of_le_length (by omega)]
    have hk := H.kind []
    rw [List.append_nil] at hk
    exact decI_err (by rw [List.length_take]; omega) (by rw [at0_take (by omega)]; exact hk) (H.cut j hlt) (by decide)
  by_cases ht : textsI k = true
  · by_cases h0 : n = 0
    · subst h0
      rw [encI_two ht] at hj ⊢
      generalize encP (fullP (bitsI k)) (aboveI k) 0 = P at H hj
      by_cases h1 : j < P.length
      · exact short P _ H h1
      · have e : (P ++ (litS (nums a) ++ litS (nums b))).take j = P ++ (litS (nums a) ++ litS (nums b)).take (j - P.length) := by rw [List.take_append, List.take_of_length_le (by omega)]
        rw [e, decI_two (H.ne _) (H.kind _) (H.dec _) H.least ht, decNV, drop_head]
        rw [List.length_append, List.length_append] at hj
        by_cases h2 : j - P.length < (litS (nums a)).length
        · rw [List.take_append_of_le_length (by omega), litS_cut (nums_fit a) (by omega) h2]
          rfl
        · rw [List.take_append, List.take_of_length_le (by omega), litS_dec (nums_fit a) (by omega) _ (by omega), if_neg (by simp), decV, drop_head2, litS_cut (nums_fit b) (by omega) (by omega)]
          rfl
    · rw [encI_one ht h0] at hj ⊢
      generalize encP (fullP (bitsI k)) (aboveI k) n = P at H hj
      by_cases h1 : j < P.length
      · exact short P _ H h1
      · have e : (P ++ litS (nums b)).take j = P ++ (litS (nums b)).take (j - P.length) := by rw [List.take_append, List.take_of_length_le (by omega)]
        rw [List.length_append] at hj
        rw [e, decI_one (H.ne _) (H.kind _) (H.dec _) H.least ht h0, decV, drop_head, litS_cut (nums_fit b) (by omega) (by omega)]
        rfl
  · have ht : textsI k = false := by simpa using ht
    rw [encI_plain ht] at hj ⊢
    have := short _ [] H hj
    rwa [List.append_nil] at this

theorem decL_len {most : Int} {zs a : List Int} {u : Int} (hf : Fit .u8 zs) (h : decL most zs = (a, u, 0)) : Fit .u8 a ∧ (a.length : Int) ≤ max most 0 := by
  have h1 := decL_fit (most := most) hf
  rw [h] at h1
  refine ⟨h1, ?_⟩
  by_cases h0 : (decP (fullP 7) zs).2.2 = 0
  · obtain ⟨p1, p2, p3, p4⟩ := decP_ok hf h0
    rw [decL, if_neg (by simp [h0])] at h
    split at h
    · cases h
    · split at h
      · split at h
        · rename_i e
          simp only [Prod.mk.injEq] at h
          exact absurd h.2.2 e
        · rename_i e
          obtain ⟨t, z, hd⟩ : ∃ t z, decB most ((zs.take ((decP (fullP 7) zs).2.1 + (decP (fullP 7) zs).1).toNat).drop (decP (fullP 7) zs).2.1.toNat) = (t, z) := ⟨_, _, rfl⟩
          rw [hd] at h e
          have hz : z = 0 := by simpa using e
          subst hz
          simp only [Prod.mk.injEq] at h
          obtain ⟨rfl, _⟩ := h
          exact (enc_dec ((hf.take _).drop _) hd).2.2
      · split at h
        · cases h
        · simp only [Prod.mk.injEq] at h
          rw [← h.1, List.length_drop, List.length_take]
          omega
  · rw [decL, if_pos h0] at h
    simp only [Prod.mk.injEq] at h
    exact absurd h.2.2 h0
/-- what comes out may be -/
theorem decI_ok {most : Int} {zs : List Int} (hf : Fit .u8 zs) (h0 : 0 ≤ most) {k n u : Int} {a b : List Int} (h : decI most zs = ⟨k, n, a, b, u, 0⟩) :
    rightI k n (strOfNums a) (strOfNums b) ∧ (a.length : Int) ≤ most ∧ (b.length : Int) ≤ most ∧ Fit .u8 a ∧ Fit .u8 b := by
  have nil : Fit .u8 ([] : List Int) := fun x hx => by simp at hx
  have hz : 0 < zs.length := by
    rcases zs with _ | ⟨x, r⟩
    · rw [decI_nil] at h; cases h
    · simp
  obtain ⟨k', hk⟩ : ∃ k, kindI (at0 zs 0) = k := ⟨_, rfl⟩
  have hkb : 0 ≤ k' ∧ k' < 5 := by rw [← hk]; exact kindI_bound _
  obtain ⟨m, p, e, hd⟩ : ∃ n p e, decP (fullP (bitsI k')) zs = (n, p, e) := ⟨_, _, _, rfl⟩
  by_cases he : e = 0
  · subst he
    have hB := bitsI_bound k'
    obtain ⟨n0, n1, p0, p1⟩ := decP_okm (by omega) hf hd
    by_cases hl : m < leastI k'
    · rw [decI_less hz hk hd hl] at h; cases h
    · have size : ∀ xs : List Int, (strOfNums xs).size = xs.length := fun xs => by simp [strOfNums, ByteArray.size]
      have txt : ∀ xs : List Int, (xs.length : Int) ≤ max (min most 65536) 0 → (strOfNums xs).size ≤ 65536 := fun xs hx => by rw [size]; omega
      by_cases ht : textsI k' = true
      · by_cases hm : m = 0
        · subst hm
          rw [decI_two hz hk hd hl ht, decNV] at h
          obtain ⟨x, v, f, h1⟩ : ∃ b v f, decL (min most 65536) (zs.drop p.toNat) = (b, v, f) := ⟨_, _, _, rfl⟩
          rw [h1] at h
          by_cases hf0 : f = 0
          · subst hf0
            rw [if_neg (by simp), decV] at h
            obtain ⟨y, z, g, h2⟩ : ∃ y z g, decL (min most 65536) (zs.drop (p + v).toNat) = (y, z, g) := ⟨_, _, _, rfl⟩
            simp only [h2] at h
            by_cases hg0 : g = 0
            · subst hg0
              rw [if_neg (by simp)] at h
              simp only [DecO.mk.injEq] at h
              obtain ⟨rfl, rfl, rfl, rfl, rfl, _⟩ := h
              have l1 := decL_len (hf.drop _) h1
              have l2 := decL_len (hf.drop _) h2
              exact ⟨⟨hkb, by omega, n1, fun _ => ⟨txt _ l1.2, txt _ l2.2, fun h => absurd rfl h⟩, fun h => by rw [ht] at h; cases h⟩, by omega, by omega, l1.1, l2.1⟩
            · rw [if_pos hg0] at h
              simp only [DecO.err, DecO.mk.injEq] at h
              exact absurd h.2.2.2.2.2 hg0
          · rw [if_pos hf0] at h
            simp only [DecO.err, DecO.mk.injEq] at h
            exact absurd h.2.2.2.2.2 hf0
        · rw [decI_one hz hk hd hl ht hm, decV] at h
          obtain ⟨x, v, f, h1⟩ : ∃ b v f, decL (min most 65536) (zs.drop p.toNat) = (b, v, f) := ⟨_, _, _, rfl⟩
          simp only [h1] at h
          by_cases hf0 : f = 0
          · subst hf0
            rw [if_neg (by simp)] at h
            simp only [DecO.mk.injEq] at h
            obtain ⟨rfl, rfl, rfl, rfl, rfl, _⟩ := h
            have l1 := decL_len (hf.drop _) h1
            exact ⟨⟨hkb, by omega, n1, fun _ => ⟨by decide, txt _ l1.2, fun _ => rfl⟩, fun h => by rw [ht] at h; cases h⟩, by simp; omega, by omega, nil, l1.1⟩
          · rw [if_pos hf0] at h
            simp only [DecO.err, DecO.mk.injEq] at h
            exact absurd h.2.2.2.2.2 hf0
      · have ht : textsI k' = false := by simpa using ht
        rw [decI_plain hz hk hd hl ht] at h
        simp only [DecO.mk.injEq] at h
        obtain ⟨rfl, rfl, rfl, rfl, rfl, _⟩ := h
        exact ⟨⟨hkb, by omega, n1, fun h => (by rw [ht] at h; cases h), fun _ => ⟨rfl, rfl⟩⟩, by simp; omega, by simp; omega, nil, nil⟩
  · rw [decI_err hz hk hd he] at h
    simp only [DecO.err, DecO.mk.injEq] at h
    exact absurd h.2.2.2.2.2 he

/-- an item's bytes fit, and are not too many -/
theorem encI_fit {k n : Int} {a b : ByteArray} (h : rightI k n a b) : Fit .u8 (encI k n a b) := by
  have hs := rightI_sizes h
  have hB := bitsI_bound k
  have hF := fullP_bound (b := bitsI k) (by omega) (by omega)
  have hP := encP_fit (fullP (bitsI k)) (aboveI k) n (by omega) h.enc.2.2.1 (above_bound (by omega) (by omega) h.enc.2.2.2.1 h.enc.2.2.2.2) h.num.1 h.num.2
  have nil : Fit .u8 ([] : List Int) := fun x hx => by simp at hx
  rw [encI]
  refine (hP.append ?_).append ?_
  · rw [nameI]; split
    · split
      · exact litS_fit (nums_fit a) (by rw [nums_length]; omega)
      · exact nil
    · exact nil
  · rw [valI]; split
    · exact litS_fit (nums_fit b) (by rw [nums_length]; omega)
    · exact nil
theorem encI_length {k n : Int} {a b : ByteArray} (h : rightI k n a b) : 1 ≤ (encI k n a b).length ∧ (encI k n a b).length ≤ 16 + 4 * a.size + 4 * b.size := by
  have hs := rightI_sizes h
  have hp := encP_length (fullP (bitsI k)) (aboveI k) n
  have h1 := litS_length (nums_fit a) (by rw [nums_length]; omega)
  have h2 := litS_length (nums_fit b) (by rw [nums_length]; omega)
  rw [nums_length] at h1 h2
  have e1 : (nameI k n a).length ≤ 4 * a.size + 5 := by
    rw [nameI]; split
    · split
      · omega
      · simp
    · simp
  have e2 : (valI k b).length ≤ 4 * b.size + 5 := by
    rw [valI]; split
    · omega
    · simp
  rw [encI, List.length_append, List.length_append]
  omega
end Go.Proofs.YtenapfpkegoonaaDoor

/-
  The document's own answers for layer 5: a text's bytes, the shorter ones.
-/
namespace Go.Proofs.YtenapfpkegoonaaDoor
set_option maxRecDepth 20000
open Go.RowKit

set_option maxHeartbeats 1000000 in
theorem refEnc5_any (sq : Bool) (s : ByteArray) (w : World) :
    Calls Tryd.prog 85 #[.string s, .bool sq] w fun e w' => ∃ v, e = .returned (.tuple #[v, .int .i64 (encL sq s).2]) ∧ Sl .u8 w' v (encL sq s).1 ∧ Below w.heap.size w w' := by
  by_cases hs : s.size ≤ 65536
  · have HE := Lib.hid (show encL sq s = (lit sq (nums s), 0) by rw [encL, if_pos hs])
    have hz : (nums s).length ≤ 1000000 := by rw [nums_length]; omega
    have hf := nums_fit s
    have HOK := Lib.hid (encOk_lit sq hf hz)
    have hbl := body_length sq hf
    have hhl := head_length sq hf hz
    have d1 : decide (65536 < (s.size : Int)) = false := decide_eq_false (by omega)
    obtain ⟨v, W, hc, hv, hb⟩ := str_bytes (P := Tryd.prog) w 9 30 5 s Tryd.underlying9 Tryd.underlying30 Tryd.underlying5 (by unfold maxLen; omega)
    have HS := Lib.hid (And.intro hv hb)
    clear hv hb
    cases sq
    · obtain ⟨ax, cx, hxe, _⟩ := id HS.out.1
      subst hxe
      obtain ⟨NX, hNX⟩ : ∃ NX, (body false (nums s)).length = NX := ⟨_, rfl⟩
      have HNX := Lib.hid hNX
      have hx : (nums s).length = NX := hNX
      rw [hNX] at HOK hbl
      rw [hx] at HS hc
      clear hNX hx
      go_enter Tryd.func85, Tryd.ntmps85
      go_wp2_with fail
      refine (refEnc3_own NX 7 (above false) _ HOK.out).mono ?_
      rintro e w2 ⟨y, rfl, hO, hb2⟩
      obtain ⟨ay, cy, rfl, _⟩ := owned_shape hO
      have hfit2 := HOK.out.fit
      have HB2 : Hid (Sl .u8 w2 (.slice ax NX cx) (body false (nums s)) ∧ Below w.heap.size w w2) := ⟨HS.out.1.below hb2, HS.out.2.trans (hb2.mono HS.out.2.size)⟩
      have hsz := hb2.size
      have hw1 := HS.out.2.size
      have hh : (encP (fullP 7) (above false) NX).length ≤ 5 := by rw [← HNX.out]; exact hhl.2
      clear HS hb2
      go_wp2_with (at_builtin; refine app_ints rfl (.tmp 26) (.tmp 27) 30 rfl W.heap.size 5 .u8 1 Tryd.underlying30 Tryd.info5' _ _ (encP (fullP 7) (above false) NX) rfl hO _ (body false (nums s)) rfl HB2.out.1 (by rw [HNX.out]; omega) (by rw [HNX.out]; unfold maxLen; omega) hsz ?_; intro v3 w3 hO3 hb3 hg3; obtain ⟨a3, c3, rfl, _⟩ := owned_shape hO3)
      go_ret2
      rw [HE.out]
      refine ⟨_, rfl, Sl.of_own (base := W.heap.size) (e := 5) (zs := lit false (nums s)) (n := (lit false (nums s)).length) ?_ (lit_fit false hf hz) ?_, ?_⟩
      · have e : lit false (nums s) = encP (fullP 7) (above false) NX ++ body false (nums s) := by rw [lit, head, HNX.out]
        rw [e, List.length_append]
        exact hO3
      · have := lit_length false hf hz; unfold maxLen; omega
      · exact HB2.out.2.trans (hb3.mono hw1)
    · obtain ⟨v2, W2, hc2, hv2, hb2⟩ := str_bytes (P := Tryd.prog) W 9 30 5 s Tryd.underlying9 Tryd.underlying30 Tryd.underlying5 (by unfold maxLen; omega)
      have HS2 := Lib.hid (And.intro hv2 (HS.out.2.trans (hb2.mono HS.out.2.size)))
      clear hv2 hb2 HS
      go_enter Tryd.func85, Tryd.ntmps85
      go_wp2_with fail
      refine (refEnc_any v2 (nums s) _ HS2.out.1 hz).mono ?_
      rintro e w1 ⟨x, rfl, hx, hb1⟩
      have HS : Hid (Sl .u8 w1 x (body true (nums s)) ∧ Below w.heap.size w w1) := ⟨hx, HS2.out.2.trans (hb1.mono HS2.out.2.size)⟩
      obtain ⟨ax, cx, rfl, _⟩ := id hx
      obtain ⟨NX, hNX⟩ : ∃ NX, (body true (nums s)).length = NX := ⟨_, rfl⟩
      have HNX := Lib.hid hNX
      have hxn : (enc (nums s)).length = NX := hNX
      rw [hNX] at HOK hbl
      rw [hxn] at HS ⊢
      clear hNX hx hb1 HS2 hxn
      go_wp2_with fail
      refine (refEnc3_own NX 7 (above true) _ HOK.out).mono ?_
      rintro e w2 ⟨y, rfl, hO, hb2⟩
      obtain ⟨ay, cy, rfl, _⟩ := owned_shape hO
      have HB2 : Hid (Sl .u8 w2 (.slice ax NX cx) (body true (nums s)) ∧ Below w.heap.size w w2) := ⟨HS.out.1.below hb2, HS.out.2.trans (hb2.mono HS.out.2.size)⟩
      have hsz := hb2.size
      have hw1 := HS.out.2.size
      have hh : (encP (fullP 7) (above true) NX).length ≤ 5 := by rw [← HNX.out]; exact hhl.2
      clear HS hb2
      go_wp2_with (at_builtin; refine app_ints rfl (.tmp 26) (.tmp 27) 30 rfl w1.heap.size 5 .u8 1 Tryd.underlying30 Tryd.info5' _ _ (encP (fullP 7) (above true) NX) rfl hO _ (body true (nums s)) rfl HB2.out.1 (by rw [HNX.out]; omega) (by rw [HNX.out]; unfold maxLen; omega) hsz ?_; intro v3 w3 hO3 hb3 hg3; obtain ⟨a3, c3, rfl, _⟩ := owned_shape hO3)
      go_ret2
      rw [HE.out]
      refine ⟨_, rfl, Sl.of_own (base := w1.heap.size) (e := 5) (zs := lit true (nums s)) (n := (lit true (nums s)).length) ?_ (lit_fit true hf hz) ?_, ?_⟩
      · have e : lit true (nums s) = encP (fullP 7) (above true) NX ++ body true (nums s) := by rw [lit, head, HNX.out]
        rw [e, List.length_append]
        exact hO3
      · have := lit_length true hf hz; unfold maxLen; omega
      · exact HB2.out.2.trans (hb3.mono hw1)
  · have HE := Lib.hid (show encL sq s = ([], 1) by rw [encL, if_neg hs])
    have d1 : decide (65536 < (s.size : Int)) = true := decide_eq_true (by omega)
    clear hs
    go_enter Tryd.func85, Tryd.ntmps85
    go_wp2_with fail
    go_ret2
    rw [HE.out]
    exact ⟨_, rfl, Sl.nil _ _, Below.refl _ _⟩

theorem refShort_any (s : ByteArray) (w : World) (hs : s.size ≤ 65536) :
    Calls Tryd.prog 62 #[.string s] w fun e w' => ∃ v, e = .returned v ∧ Sl .u8 w' v (litS (nums s)) ∧ Below w.heap.size w w' := by
  have HF := Lib.hid (show encL false s = (lit false (nums s), 0) by rw [encL, if_pos hs])
  have HT := Lib.hid (show encL true s = (lit true (nums s), 0) by rw [encL, if_pos hs])
  have HI := Lib.hid (litS_is (nums s))
  go_enter Tryd.func62, Tryd.ntmps62
  go_wp2_with fail
  refine (refEnc5_any false s _).mono ?_
  rintro e w1 ⟨x, rfl, hx, hb1⟩
  rw [HF.out] at hx ⊢
  have HS1 := Lib.hid (And.intro hx hb1)
  obtain ⟨ax, cx, rfl, _⟩ := id hx
  clear hx hb1
  go_wp2_with fail
  refine (refEnc5_any true s _).mono ?_
  rintro e w2 ⟨y, rfl, hy, hb2⟩
  rw [HT.out] at hy ⊢
  have HS2 := Lib.hid (And.intro hy (And.intro (HS1.out.1.below hb2) (HS1.out.2.trans (hb2.mono HS1.out.2.size))))
  obtain ⟨ay, cy, rfl, _⟩ := id hy
  clear hy hb2 HS1
  obtain ⟨A, hA⟩ : ∃ A, (lit false (nums s)).length = A := ⟨_, rfl⟩
  obtain ⟨B, hB⟩ : ∃ B, (lit true (nums s)).length = B := ⟨_, rfl⟩
  simp only [hA, hB] at HS2 HI ⊢
  by_cases h : A ≤ B
  · have HE : Hid (litS (nums s) = lit false (nums s)) := HI.out.trans (if_pos h)
    have d2 : decide ((A : Int) ≤ (B : Int)) = true := decide_eq_true (by omega)
    go_wp2_with fail
    go_ret
    rw [HE.out]
    exact ⟨_, rfl, HS2.out.2⟩
  · have HE : Hid (litS (nums s) = lit true (nums s)) := HI.out.trans (if_neg h)
    have d2 : decide ((A : Int) ≤ (B : Int)) = false := decide_eq_false (by omega)
    go_wp2_with fail
    go_ret
    rw [HE.out]
    exact ⟨_, rfl, HS2.out.1, HS2.out.2.2⟩
end Go.Proofs.YtenapfpkegoonaaDoor

/-
  The document's own answer for layer 8: an item's bytes.
-/
namespace Go.Proofs.YtenapfpkegoonaaDoor
set_option maxRecDepth 20000
open Go.RowKit

theorem refIEnc_no (k n : Int) (a b : ByteArray) (w : World) (h : ¬ rightI k n a b) :
    Calls Tryd.prog 35 #[itV k n a b] w fun e w' => e = .returned (.tuple #[.slice none 0 0, .int .i64 1]) ∧ Below w.heap.size w w' := by
  have D := Lib.hid (decide_eq_false h)
  clear h
  unfold itV
  go_enter Tryd.func35, Tryd.ntmps35
  go_wp2_with fail
  refine (refRight_any k n a b _).mono ?_
  rintro e w1 ⟨rfl, hb⟩
  rw [D.out]
  go_wp2_with fail
  go_ret2
  exact ⟨rfl, ((Below.refl _ _).alloc (Nat.le_refl _) _).trans (hb.mono (by simp))⟩

set_option maxHeartbeats 4000000 in
theorem refIEnc_yes (k n : Int) (a b : ByteArray) (w : World) (h : rightI k n a b) :
    Calls Tryd.prog 35 #[itV k n a b] w fun e w' => ∃ v, e = .returned (.tuple #[v, .int .i64 0]) ∧ w'.ownsRow w.heap.size 5 1 v (encI k n a b).length ((encI k n a b).map (Value.int .u8)) ∧ Below w.heap.size w w' := by
  have D := Lib.hid (decide_eq_true h)
  have HR := Lib.hid h
  obtain ⟨m, hm⟩ : ∃ m, bitsI k = m := ⟨_, rfl⟩
  obtain ⟨A, hA⟩ : ∃ A, aboveI k = A := ⟨_, rfl⟩
  obtain ⟨P, hP⟩ : ∃ P, encP (fullP (bitsI k)) (aboveI k) n = P := ⟨_, rfl⟩
  have HBI : Hid (∀ W : World, Calls Tryd.prog 47 #[.int .i64 k] W fun e w' => e = .returned (.int .i64 m) ∧ W = w') := by
    intro W; rw [← hm]; exact refBits_any k W h.1.1 h.1.2
  have HAB : Hid (∀ W : World, Calls Tryd.prog 61 #[.int .i64 k] W fun e w' => e = .returned (.int .i64 A) ∧ W = w') := by
    intro W; rw [← hA]; exact refAbove_any k W h.1.1 h.1.2
  have HEN : Hid (∀ W : World, w.heap.size ≤ W.heap.size → Calls Tryd.prog 60 #[.int .i64 n, .int .i64 m, .int .i64 A] W fun e w' => ∃ v, e = .returned (.tuple #[v, .int .i64 0]) ∧ w'.ownsRow w.heap.size 5 1 v P.length (P.map (Value.int .u8)) ∧ Below W.heap.size W w') := by
    intro W hW
    rw [← hm, ← hA, ← hP]
    refine (refEnc3_own n _ _ W h.enc).mono ?_
    rintro e w' ⟨v, rfl, hO, hb⟩
    exact ⟨v, rfl, owned_mono hO hW, hb⟩
  have HE : Hid (encI k n a b = P ++ nameI k n a ++ valI k b) := by show _ = _; rw [encI, hP]
  have hp6 : P.length ≤ 6 := by rw [← hP]; exact (encP_length _ _ _).2
  have HSA := Lib.hid (rightI_sizes h)
  have hk := Lib.hid h.1
  clear h hm hA hP
  unfold itV
  go_enter Tryd.func35, Tryd.ntmps35
  go_wp2_with fail
  refine (refRight_any k n a b _).mono ?_
  rintro e w1 ⟨rfl, hb⟩
  rw [D.out]
  have hI : ItAt w1 w.heap.size 67 k n a b := (hb.block _ (by simp)).trans (heap_alloc_new _ _)
  have hB1 : Below w.heap.size w w1 := ((Below.refl _ _).alloc (Nat.le_refl _) _).trans (hb.mono (by simp))
  have HC0 : Hid (∀ W, Below w1.heap.size w1 W → W.cell? ⟨w.heap.size, 0, none⟩ = some (.int .i64 k)) := fun W hW => (hI.grown hW).c0
  have HC1 : Hid (∀ W, Below w1.heap.size w1 W → W.cell? ⟨w.heap.size, 1, none⟩ = some (.int .i64 n)) := fun W hW => (hI.grown hW).c1
  have HI := Lib.hid (And.intro hI hB1)
  have HSZ : Hid (w.heap.size ≤ w1.heap.size) := hB1.size
  clear hb hI hB1 D
  go_wp2_with fail
  refine wp_region_late 12 [14, 15, 16, 17, 18, 19, 20, 21, 22, 13, 23, 24] [[], [(0, 14)], [], [(2, 16)], [(3, 17)], [], [(5, 19)], [(6, 20)], [(1, 15), (4, 18), (7, 21)], [(8, 22)], [(9, 13)], [(9, 13)]] [11]
    (fun i v w' => match i with
      | 0 => v = .pointer (some ⟨w.heap.size, 1, none⟩)
      | 1 => v = .int .i64 n
      | 2 => v = .pointer (some ⟨w.heap.size, 0, none⟩)
      | 3 => v = .int .i64 k
      | 4 => v = .int .i64 m
      | 5 => v = .pointer (some ⟨w.heap.size, 0, none⟩)
      | 6 => v = .int .i64 k
      | 7 => v = .int .i64 A
      | 8 => ∃ u, v = .tuple #[u, .int .i64 0] ∧ w'.ownsRow w.heap.size 5 1 u P.length (P.map (Value.int .u8))
      | 9 => ∃ u, v = .tuple #[u, .int .i64 0] ∧ w'.ownsRow w.heap.size 5 1 u P.length (P.map (Value.int .u8))
      | 10 => w'.ownsRow w.heap.size 5 1 v P.length (P.map (Value.int .u8))
      | 11 => v = .int .i64 0
      | _ => True) (by kernel_rfl) (by kernel_rfl) ?tStab ?tOps ?tLate ?tRest
  case tStab =>
    intro i v w3 w4 h hb
    match i, h with
    | 0, h | 1, h | 2, h | 3, h | 4, h | 5, h | 6, h | 7, h | 11, h => exact h
    | 8, h => obtain ⟨u, e, h⟩ := h; exact ⟨u, e, owned_below h hb⟩
    | 9, h => obtain ⟨u, e, h⟩ := h; exact ⟨u, e, owned_below h hb⟩
    | 10, h => exact owned_below h hb
    | i + 12, _ => trivial
  case tOps =>
    simp only [List.take_succ_cons, List.take_zero, opsOk]
    refine ⟨?_, ?_, ?_, ?_, ?_, ?_, ?_, ?_, ?_, ?_, ?_, ?_, trivial⟩
    · intro ρ w3 hc hf ho hB hj
      have x0 : ρ (.tmp 1) = .pointer (some ⟨w.heap.size, 0, none⟩) := ho 1 (by decide)
      simp [gives, go_sem, x0, Below.refl]
    · intro ρ w3 hc hf ho hB hj
      have x0 : ρ (.tmp 14) = .pointer (some ⟨w.heap.size, 1, none⟩) := hj (0, 14) (by simp)
      have cc := HC1.out _ hB
      simp [gives, go_sem, x0, cc, Below.refl]
    · intro ρ w3 hc hf ho hB hj
      have x0 : ρ (.tmp 1) = .pointer (some ⟨w.heap.size, 0, none⟩) := ho 1 (by decide)
      simp [gives, go_sem, x0, Below.refl]
    · intro ρ w3 hc hf ho hB hj
      have x0 : ρ (.tmp 16) = .pointer (some ⟨w.heap.size, 0, none⟩) := hj (2, 16) (by simp)
      have cc := HC0.out _ hB
      simp [gives, go_sem, x0, cc, Below.refl]
    · intro ρ w3 hc hf ho hB hj
      have x0 : ρ (.tmp 17) = .int .i64 k := hj (3, 17) (by simp)
      simp [gives, go_sem, x0, hf]
      exact (HBI.out _).mono (by rintro e w4 ⟨rfl, rfl⟩; exact ⟨_, rfl, rfl, Below.refl _ _⟩)
    · intro ρ w3 hc hf ho hB hj
      have x0 : ρ (.tmp 1) = .pointer (some ⟨w.heap.size, 0, none⟩) := ho 1 (by decide)
      simp [gives, go_sem, x0, Below.refl]
    · intro ρ w3 hc hf ho hB hj
      have x0 : ρ (.tmp 19) = .pointer (some ⟨w.heap.size, 0, none⟩) := hj (5, 19) (by simp)
      have cc := HC0.out _ hB
      simp [gives, go_sem, x0, cc, Below.refl]
    · intro ρ w3 hc hf ho hB hj
      have x0 : ρ (.tmp 20) = .int .i64 k := hj (6, 20) (by simp)
      simp [gives, go_sem, x0, hf]
      exact (HAB.out _).mono (by rintro e w4 ⟨rfl, rfl⟩; exact ⟨_, rfl, rfl, Below.refl _ _⟩)
    · intro ρ w3 hc hf ho hB hj
      have x0 : ρ (.tmp 15) = .int .i64 n := hj (1, 15) (by simp)
      have x1 : ρ (.tmp 18) = .int .i64 m := hj (4, 18) (by simp)
      have x2 : ρ (.tmp 21) = .int .i64 A := hj (7, 21) (by simp)
      simp [gives, go_sem, x0, x1, x2, hf]
      exact (HEN.out _ (Nat.le_trans HSZ.out hB.size)).mono (by rintro e w4 ⟨u, rfl, hO, hb4⟩; exact ⟨_, rfl, ⟨u, rfl, hO⟩, hb4⟩)
    · intro ρ w3 hc hf ho hB hj
      have x0 : ∃ u, (ρ (.tmp 22)) = .tuple #[u, .int .i64 0] ∧ w3.ownsRow w.heap.size 5 1 u P.length (P.map (Value.int .u8)) := hj (8, 22) (by simp)
      obtain ⟨u, hu, hO⟩ := x0
      simp [gives, go_sem, hu, Below.refl]
      exact hO
    · intro ρ w3 hc hf ho hB hj
      have x0 : ∃ u, (ρ (.tmp 13)) = .tuple #[u, .int .i64 0] ∧ w3.ownsRow w.heap.size 5 1 u P.length (P.map (Value.int .u8)) := hj (9, 13) (by simp)
      obtain ⟨u, hu, hO⟩ := x0
      simp [gives, go_sem, hu, Below.refl]
      exact hO
    · intro ρ w3 hc hf ho hB hj
      have x0 : ∃ u, (ρ (.tmp 13)) = .tuple #[u, .int .i64 0] ∧ w3.ownsRow w.heap.size 5 1 u P.length (P.map (Value.int .u8)) := hj (9, 13) (by simp)
      obtain ⟨u, hu, hO⟩ := x0
      simp [gives, go_sem, hu, Below.refl]
  case tLate =>
    intro i hi _ o ho
    simp only [List.mem_cons, List.not_mem_nil, or_false] at hi
    subst hi
    obtain rfl := Option.some.inj ho
    intro ρ w3 hc _ _ hj
    obtain ⟨u, hu, _⟩ := hj (9, 13) (by simp)
    exact ⟨_, fun w' => by simp [go_sem, hu], rfl⟩
  case tRest =>
    intro X w3 hBw hX
    have x0 : X 0 = .pointer (some ⟨w.heap.size, 1, none⟩) := hX 0 (by decide)
    have x1 : X 1 = .int .i64 n := hX 1 (by decide)
    have x2 : X 2 = .pointer (some ⟨w.heap.size, 0, none⟩) := hX 2 (by decide)
    have x3 : X 3 = .int .i64 k := hX 3 (by decide)
    have x4 : X 4 = .int .i64 m := hX 4 (by decide)
    have x5 : X 5 = .pointer (some ⟨w.heap.size, 0, none⟩) := hX 5 (by decide)
    have x6 : X 6 = .int .i64 k := hX 6 (by decide)
    have x7 : X 7 = .int .i64 A := hX 7 (by decide)
    have x8 := hX 8 (by decide)
    have x9 := hX 9 (by decide)
    have x10 := hX 10 (by decide)
    have x11 : X 11 = .int .i64 0 := hX 11 (by decide)
    simp only [putAll, List.getD_cons_zero, List.getD_cons_succ, Act.put, List.setIfInBounds_toArray, List.set_cons_zero, List.set_cons_succ, List.drop_succ_cons, List.drop_zero]
    rw [x0, x1, x2, x3, x4, x5, x6, x7, x11]

    have HW : Hid (ItAt w3 w.heap.size 67 k n a b ∧ Below w.heap.size w w3 ∧ w3.ownsRow w.heap.size 5 1 (X 10) P.length (P.map (Value.int .u8))) := ⟨HI.out.1.grown hBw, HI.out.2.trans (hBw.mono HI.out.2.size), x10⟩
    obtain ⟨y, hy⟩ : ∃ y, X 10 = y := ⟨_, rfl⟩
    rw [hy] at HW ⊢
    clear hX hBw x8 x9 x10 x11 HC0 HC1 HBI HAB HEN HI HSZ hy
    have c0 := HW.out.1.c0
    have c1 := HW.out.1.c1
    have c2 := HW.out.1.c2
    have c3 := HW.out.1.c3
    have hlt := HW.out.1.lt
    obtain ⟨ay, cy, rfl, _⟩ := owned_shape HW.out.2.2
    by_cases ht : textsI k = true
    · have e0 : (k == 0) = false := by simp [textsI] at ht ⊢; omega
      have e4 : (k == 4) = false := by simp [textsI] at ht ⊢; omega
      have hlb := (litS_length (nums_fit b) (by rw [nums_length]; have := HSA.out; omega)).2
      rw [nums_length] at hlb
      have hla := (litS_length (nums_fit a) (by rw [nums_length]; have := HSA.out; omega)).2
      rw [nums_length] at hla
      have hsa := HSA.out.1
      have hsb := HSA.out.2
      by_cases h0 : n = 0
      · have HE2 : Hid (encI k n a b = P ++ litS (nums a) ++ litS (nums b)) := by show _ = _; rw [HE.out, nameI, valI, if_pos ht, if_pos h0, if_pos ht]
        subst h0
        clear ht
        go_wp2_with fail
        refine Calm.intro ?_
        go_wp2_with fail
        refine (refShort_any a _ hsa).mono ?_
        rintro e w4 ⟨x, rfl, hx, hb4⟩
        obtain ⟨ax, cx, rfl, _⟩ := id hx
        have hO4 := owned_below HW.out.2.2 hb4
        have hw4 : w.heap.size ≤ w4.heap.size := Nat.le_trans HW.out.2.1.size hb4.size
        have hI4 := HW.out.1.grown hb4
        obtain ⟨Q, hQ⟩ : ∃ Q, P ++ litS (nums a) = Q := ⟨_, rfl⟩
        have hql : Q.length ≤ 6 + (4 * a.size + 5) := by rw [← hQ, List.length_append]; omega
        have HQ := Lib.hid hQ
        go_wp2_with (at_builtin; refine app_ints rfl (.tmp 40) (.tmp 41) 30 rfl w.heap.size 5 .u8 1 Tryd.underlying30 Tryd.info5' _ _ P rfl hO4 _ (litS (nums a)) rfl hx (by omega) (by unfold maxLen; omega) hw4 ?_; intro v5 w5 hO5 hb5 hg5; rw [← List.length_append, hQ] at hO5; have hI5 := hI4.app (by decide) hO4 hg5; have c35 := hI5.c3; have hlt5 := hI5.lt; obtain ⟨a5, c5, rfl, _⟩ := owned_shape hO5)
        refine (refShort_any b _ hsb).mono ?_
        rintro e w6 ⟨x6, rfl, hx6, hb6⟩
        clear hQ
        obtain ⟨ax6, cx6, rfl, _⟩ := id hx6
        have hO6 := owned_below hO5 hb6
        have hw6 : w.heap.size ≤ w6.heap.size := Nat.le_trans hw4 (Nat.le_trans hb5.size hb6.size)
        have hB6 : Below w.heap.size w w6 := ((HW.out.2.1.trans (hb4.mono HW.out.2.1.size)).trans hb5).trans (hb6.mono (Nat.le_trans hw4 hb5.size))
        go_wp2_with (at_builtin; refine app_ints rfl (.tmp 46) (.tmp 47) 30 rfl w.heap.size 5 .u8 1 Tryd.underlying30 Tryd.info5' _ _ Q rfl hO6 _ (litS (nums b)) rfl hx6 (by omega) (by unfold maxLen; omega) hw6 ?_; intro v7 w7 hO7 hb7 hg7; obtain ⟨a7, c7, rfl, _⟩ := owned_shape hO7)
        go_ret2
        exact ⟨_, rfl, by rw [HE2.out, HQ.out, List.length_append]; exact hO7, hB6.trans hb7⟩
      · have HE2 : Hid (encI k n a b = P ++ litS (nums b)) := by show _ = _; rw [HE.out, nameI, valI, if_pos ht, if_neg h0, if_pos ht, List.append_nil]
        have en : (n == 0) = false := by simp [h0]
        clear ht h0
        go_wp2_with fail
        refine Calm.intro ?_
        go_wp2_with fail
        refine (refShort_any b _ hsb).mono ?_
        rintro e w6 ⟨x6, rfl, hx6, hb6⟩
        obtain ⟨ax6, cx6, rfl, _⟩ := id hx6
        have hO6 := owned_below HW.out.2.2 hb6
        have hw6 : w.heap.size ≤ w6.heap.size := Nat.le_trans HW.out.2.1.size hb6.size
        have hB6 : Below w.heap.size w w6 := HW.out.2.1.trans (hb6.mono HW.out.2.1.size)
        go_wp2_with (at_builtin; refine app_ints rfl (.tmp 46) (.tmp 47) 30 rfl w.heap.size 5 .u8 1 Tryd.underlying30 Tryd.info5' _ _ P rfl hO6 _ (litS (nums b)) rfl hx6 (by omega) (by unfold maxLen; omega) hw6 ?_; intro v7 w7 hO7 hb7 hg7; obtain ⟨a7, c7, rfl, _⟩ := owned_shape hO7)
        go_ret2
        exact ⟨_, rfl, by rw [HE2.out, List.length_append]; exact hO7, hB6.trans hb7⟩
    · have HE2 : Hid (encI k n a b = P) := by show _ = _; rw [HE.out, nameI, valI, if_neg ht, if_neg ht, List.append_nil, List.append_nil]
      have hkk : k = 0 ∨ k = 4 := by simp [textsI] at ht; have := hk.out; omega
      clear ht hk
      rcases hkk with rfl | rfl
      all_goals
        go_wp2_with fail
        refine Calm.intro ?_
        go_wp2_with fail
        go_ret2
        exact ⟨_, rfl, by rw [HE2.out]; exact HW.out.2.2, HW.out.2.1⟩
end Go.Proofs.YtenapfpkegoonaaDoor

/-
  Items: Encode whatever the item; the law's own copy of an item; whether two items are one.
-/
namespace Go.Proofs.YtenapfpkegoonaaDoor
set_option maxRecDepth 20000
open Go.RowKit

theorem iEnc_any (k n : Int) (a b : ByteArray) (w : World) (hT : ShT w) :
    Calls Tryd.prog 32 #[itV k n a b] w fun e w' => ∃ v, e = .returned (.tuple #[v, .int .i64 (encT k n a b).2]) ∧ Sl .u8 w' v (encT k n a b).1 ∧ Below w.heap.size w w' := by
  by_cases h : rightI k n a b
  · rw [encT, if_pos h]
    have hl := encI_length h
    have hs := rightI_sizes h
    refine (iEnc_yes k n a b w hT h).mono ?_
    rintro e w' ⟨v, rfl, hO, hb⟩
    exact ⟨v, rfl, Sl.of_own hO (encI_fit h) (by show (encI k n a b).length ≤ maxLen; unfold maxLen; omega), hb⟩
  · rw [encT, if_neg h]
    refine (iEnc_no k n a b w hT h).mono ?_
    rintro e w' ⟨rfl, hb⟩
    exact ⟨_, rfl, Sl.nil _ _, hb⟩
theorem refIEnc_any (k n : Int) (a b : ByteArray) (w : World) :
    Calls Tryd.prog 35 #[itV k n a b] w fun e w' => ∃ v, e = .returned (.tuple #[v, .int .i64 (encT k n a b).2]) ∧ Sl .u8 w' v (encT k n a b).1 ∧ Below w.heap.size w w' := by
  by_cases h : rightI k n a b
  · rw [encT, if_pos h]
    have hl := encI_length h
    have hs := rightI_sizes h
    refine (refIEnc_yes k n a b w h).mono ?_
    rintro e w' ⟨v, rfl, hO, hb⟩
    exact ⟨v, rfl, Sl.of_own hO (encI_fit h) (by show (encI k n a b).length ≤ maxLen; unfold maxLen; omega), hb⟩
  · rw [encT, if_neg h]
    refine (refIEnc_no k n a b w h).mono ?_
    rintro e w' ⟨rfl, hb⟩
    exact ⟨_, rfl, Sl.nil _ _, hb⟩

theorem it_held : Tryd.prog.stoodInHeld 65 = false := by kernel_rfl
theorem it_struct : Tryd.prog.underlying 65 = some (.struct (Tryd.prog.fieldsOf 65)) := by kernel_rfl
theorem it_fields : ((Tryd.prog.fieldsOf 65).toList.map fun f => (f.name, f.type, f.offset)) = [("Kind", 3, 0), ("N", 3, 1), ("Name", 9, 2), ("Value", 9, 3)] := by kernel_rfl
theorem it30_held : Tryd.prog.stoodInHeld 67 = false := by kernel_rfl
theorem it30_struct : Tryd.prog.underlying 67 = some (.struct (Tryd.prog.fieldsOf 67)) := by kernel_rfl
theorem it30_fields : ((Tryd.prog.fieldsOf 67).toList.map fun f => (f.name, f.type, f.offset)) = [("Kind", 3, 0), ("N", 3, 1), ("Name", 9, 2), ("Value", 9, 3)] := by kernel_rfl
theorem it_part0 (k n : Int) (a b : ByteArray) (w : World) : (part 3 #[.int .i64 k, .int .i64 n, .string a, .string b] 0).run Tryd.prog w = .ok (.int .i64 k) w := by kernel_rfl
theorem it_part1 (k n : Int) (a b : ByteArray) (w : World) : (part 3 #[.int .i64 k, .int .i64 n, .string a, .string b] 1).run Tryd.prog w = .ok (.int .i64 n) w := by kernel_rfl
theorem it_part2 (k n : Int) (a b : ByteArray) (w : World) : (part 9 #[.int .i64 k, .int .i64 n, .string a, .string b] 2).run Tryd.prog w = .ok (.string a) w := by kernel_rfl
theorem it_part3 (k n : Int) (a b : ByteArray) (w : World) : (part 9 #[.int .i64 k, .int .i64 n, .string a, .string b] 3).run Tryd.prog w = .ok (.string b) w := by kernel_rfl
/-- whether two items are one -/
def eqI (k n : Int) (a b : ByteArray) (k' n' : Int) (a' b' : ByteArray) : Bool := k == k' && (n == n' && (a.toList == a'.toList && b.toList == b'.toList))
theorem toList_inj8 {a b : ByteArray} (h : a.toList = b.toList) : a = b := by
  rw [ByteArray.toList_eq, ByteArray.toList_eq] at h
  exact ByteArray.ext (Array.toList_inj.1 h)
theorem eqI_self (k n : Int) (a b : ByteArray) : eqI k n a b k n a b = true := by simp [eqI]
theorem eqFields_it {P : Program} (w : World) (tI tS : TypeId) (hI : P.underlying tI = some (.int .i64)) (hS : P.underlying tS = some .string) (k n k' n' : Int) (a b a' b' : ByteArray) (fs : List Field)
    (hf : (fs.map fun f => (f.name, f.type, f.offset)) = [("Kind", tI, 0), ("N", tI, 1), ("Name", tS, 2), ("Value", tS, 3)])
    (p0 : ∀ (k n : Int) (a b : ByteArray) (w : World), (part tI #[.int .i64 k, .int .i64 n, .string a, .string b] 0).run P w = .ok (.int .i64 k) w) (p1 : ∀ (k n : Int) (a b : ByteArray) (w : World), (part tI #[.int .i64 k, .int .i64 n, .string a, .string b] 1).run P w = .ok (.int .i64 n) w)
    (p2 : ∀ (k n : Int) (a b : ByteArray) (w : World), (part tS #[.int .i64 k, .int .i64 n, .string a, .string b] 2).run P w = .ok (.string a) w) (p3 : ∀ (k n : Int) (a b : ByteArray) (w : World), (part tS #[.int .i64 k, .int .i64 n, .string a, .string b] 3).run P w = .ok (.string b) w) :
    (Op.eqFields 9999 #[.int .i64 k, .int .i64 n, .string a, .string b] #[.int .i64 k', .int .i64 n', .string a', .string b'] fs).run P w = .ok (eqI k n a b k' n' a' b') w := by
  match fs, hf with
  | [], hf => simp at hf
  | [_], hf => simp at hf
  | [_, _], hf => simp at hf
  | [_, _, _], hf => simp at hf
  | _ :: _ :: _ :: _ :: _ :: _, hf => simp at hf
  | [f, g, h, i], hf =>
    simp only [List.map_cons, List.map_nil, List.cons.injEq, Prod.mk.injEq, and_true] at hf
    obtain ⟨⟨f1, f2, f3⟩, ⟨g1, g2, g3⟩, ⟨h1, h2, h3⟩, ⟨i1, i2, i3⟩⟩ := hf
    have ne1 : ("Kind" : String) ≠ "_" := by decide
    have ne2 : ("N" : String) ≠ "_" := by decide
    have ne3 : ("Name" : String) ≠ "_" := by decide
    have ne4 : ("Value" : String) ≠ "_" := by decide
    simp only [Op.eqFields, f1, f2, f3, g1, g2, g3, h1, h2, h3, i1, i2, i3, ne1, ne2, ne3, ne4, ne_eq, not_false_eq_true, if_true, Sem.run_bind, p0, Result.andThen_ok, run_equalIn_int w 9998 tI _ _ _ _ hI]
    rw [eqI]
    cases e1 : (k == k')
    · simp
    · simp only [Bool.not_true, Bool.false_eq_true, if_false, Sem.run_bind, p1, Result.andThen_ok, run_equalIn_int w 9998 tI _ _ _ _ hI]
      cases e2 : (n == n')
      · simp
      · simp only [Bool.not_true, Bool.false_eq_true, if_false, Sem.run_bind, p2, Result.andThen_ok, run_equalIn_string w 9998 tS _ _ hS]
        cases e3 : (a.toList == a'.toList)
        · simp
        · simp only [Bool.not_true, Bool.false_eq_true, if_false, Sem.run_bind, p3, Result.andThen_ok, run_equalIn_string w 9998 tS _ _ hS]
          cases e4 : (b.toList == b'.toList) <;> simp
theorem it_eql (k n k' n' : Int) (a b a' b' : ByteArray) (w : World) : (binOp .eql 65 (.agg #[.int .i64 k, .int .i64 n, .string a, .string b]) (.agg #[.int .i64 k', .int .i64 n', .string a', .string b'])).run Tryd.prog w = .ok (.bool (eqI k n a b k' n' a' b')) w := by
  rw [run_eql_struct, run_equalIn_agg w 9999 65 _ _ it_struct it_held, eqFields_it w 3 9 Tryd.underlying3 Tryd.underlying9 _ _ _ _ _ _ _ _ _ it_fields it_part0 it_part1 it_part2 it_part3]
  rfl
theorem it_neq (k n k' n' : Int) (a b a' b' : ByteArray) (w : World) : (binOp .neq 65 (.agg #[.int .i64 k, .int .i64 n, .string a, .string b]) (.agg #[.int .i64 k', .int .i64 n', .string a', .string b'])).run Tryd.prog w = .ok (.bool (!eqI k n a b k' n' a' b')) w := by
  rw [run_neq_struct, run_equalIn_agg w 9999 65 _ _ it_struct it_held, eqFields_it w 3 9 Tryd.underlying3 Tryd.underlying9 _ _ _ _ _ _ _ _ _ it_fields it_part0 it_part1 it_part2 it_part3]
  rfl
theorem it30_eql (k n k' n' : Int) (a b a' b' : ByteArray) (w : World) : (binOp .eql 67 (.agg #[.int .i64 k, .int .i64 n, .string a, .string b]) (.agg #[.int .i64 k', .int .i64 n', .string a', .string b'])).run Tryd.prog w = .ok (.bool (eqI k n a b k' n' a' b')) w := by
  rw [run_eql_struct, run_equalIn_agg w 9999 67 _ _ it30_struct it30_held, eqFields_it w 3 9 Tryd.underlying3 Tryd.underlying9 _ _ _ _ _ _ _ _ _ it30_fields it_part0 it_part1 it_part2 it_part3]
  rfl

/-- one result, which lies in a block of its own -/
theorem results_row0 {P : Program} {fn : Func} {p : Tmp} {ty : TypeId} (h : fn.results = #[.cell p ty]) (tmps : Array Value) (w : World) (g : Nat) (t : TypeId) (cs : Array Value) (fr : Nat × Nat) (d : TypeDesc)
    (hp : tmps.getD p undef = .pointer (some ⟨g, 0, none⟩)) (hg : w.heap[g]? = some (.cells cs t fr))
    (hu : P.underlying ty = some d) (hd : (match d with | .struct _ | .array _ _ => true | _ => false) = true) (hi : (P.info? ty).map (·.size) = some cs.size) :
    (results fn tmps).run P w = .ok (.agg cs) w := by
  have hp' : tmps[p]?.getD undef = .pointer (some ⟨g, 0, none⟩) := by simpa using hp
  simp [results, h, hp', asAddr, run_loadVar_row w g t ty cs fr d hg hu hd hi]

end Go.Proofs.YtenapfpkegoonaaDoor
