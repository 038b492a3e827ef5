
/-
  Texts as bytes: plain mathematics, no function of the program is named here.
-/
import Derived.Test.YtimggejonppegaaDoorPrefWalks
import Derived.Test.YtimggejonppegaaDoorPrefMath
import Derived.Test.YtimggejonppegaaDoorHuffMath
namespace Go.Proofs.YtimggejonppegaaDoor
open Go.RowKit

theorem full7 : fullP 7 = 127 := by decide
/-- what stands behind the count -/
def body (sq : Bool) (zs : List Int) : List Int := if sq then enc zs else zs
/-- what stands above the count's prefix -/
def above (sq : Bool) : Int := if sq then 128 else 0
/-- the count's bytes -/
def head (sq : Bool) (zs : List Int) : List Int := encP (fullP 7) (above sq) (body sq zs).length
/-- a text's bytes -/
def lit (sq : Bool) (zs : List Int) : List Int := head sq zs ++ body sq zs
/-- the shorter ones -/
def litS (zs : List Int) : List Int := lit (decide (sizeT zs < zs.length)) zs
/-- the text that bytes begin with, how many they are, the error -/
def decL (most : Int) (zs : List Int) : List Int × Int × Int :=
  if (decP (fullP 7) zs).2.2 ≠ 0 then ([], 0, (decP (fullP 7) zs).2.2)
  else if (zs.length : Int) - (decP (fullP 7) zs).2.1 < (decP (fullP 7) zs).1 then ([], 0, 2)
  else if 128 ≤ at0 zs 0 then
    if (decB most ((zs.take ((decP (fullP 7) zs).2.1 + (decP (fullP 7) zs).1).toNat).drop (decP (fullP 7) zs).2.1.toNat)).2 ≠ 0 then ([], 0, (decB most ((zs.take ((decP (fullP 7) zs).2.1 + (decP (fullP 7) zs).1).toNat).drop (decP (fullP 7) zs).2.1.toNat)).2)
    else ((decB most ((zs.take ((decP (fullP 7) zs).2.1 + (decP (fullP 7) zs).1).toNat).drop (decP (fullP 7) zs).2.1.toNat)).1, (decP (fullP 7) zs).2.1 + (decP (fullP 7) zs).1, 0)
  else if max most 0 < (decP (fullP 7) zs).1 then ([], 0, 4)
  else ((zs.take ((decP (fullP 7) zs).2.1 + (decP (fullP 7) zs).1).toNat).drop (decP (fullP 7) zs).2.1.toNat, (decP (fullP 7) zs).2.1 + (decP (fullP 7) zs).1, 0)

theorem body_length (sq : Bool) {zs : List Int} (hf : Fit .u8 zs) : (body sq zs).length ≤ 4 * zs.length := by
  cases sq
  · simp [body]; omega
  · simp only [body, if_true]; rw [enc_length]; exact sizeT_le zs hf
theorem body_fit (sq : Bool) {zs : List Int} (hf : Fit .u8 zs) : Fit .u8 (body sq zs) := by
  cases sq
  · exact hf
  · exact enc_fit zs
theorem above_mod (sq : Bool) : above sq % (fullP 7 + 1) = 0 := by cases sq <;> decide
theorem above_le (sq : Bool) : 0 ≤ above sq ∧ above sq + fullP 7 ≤ 255 := by cases sq <;> decide
theorem head_length (sq : Bool) {zs : List Int} (hf : Fit .u8 zs) (hz : zs.length ≤ 1000000) : 1 ≤ (head sq zs).length ∧ (head sq zs).length ≤ 5 := by
  have := body_length sq hf
  exact ⟨(encP_length _ _ _).1, encP_five _ _ _ (by rw [full7]; decide) (by omega) (by omega)⟩
theorem lit_fit (sq : Bool) {zs : List Int} (hf : Fit .u8 zs) (hz : zs.length ≤ 1000000) : Fit .u8 (lit sq zs) := by
  intro n hn
  rcases List.mem_append.1 hn with h | h
  · have := body_length sq hf
    exact encP_fit _ _ _ (by rw [full7]; decide) (above_le sq).1 (above_le sq).2 (by omega) (by omega) n h
  · exact body_fit sq hf n h
theorem lit_length (sq : Bool) {zs : List Int} (hf : Fit .u8 zs) (hz : zs.length ≤ 1000000) : 1 ≤ (lit sq zs).length ∧ (lit sq zs).length ≤ 4 * zs.length + 5 := by
  have h1 := body_length sq hf
  have h2 := head_length sq hf hz
  simp only [lit, List.length_append]
  omega
/-- the count comes back -/
theorem lit_dec (sq : Bool) {zs : List Int} (hf : Fit .u8 zs) (hz : zs.length ≤ 1000000) (behind : List Int) : decP (fullP 7) (head sq zs ++ behind) = (((body sq zs).length : Int), ((head sq zs).length : Int), 0) := by
  have := body_length sq hf
  exact decP_encP _ _ _ _ (by rw [full7]; decide) (above_mod sq) (by omega) (by omega)
/-- the mark comes back -/
theorem lit_mark (sq : Bool) (zs behind : List Int) : 128 ≤ at0 (lit sq zs ++ behind) 0 ↔ sq = true := by
  have : at0 (lit sq zs ++ behind) 0 = above sq + min ((body sq zs).length : Int) 127 := by
    rw [lit, head, encP, full7]
    split
    · simp only [List.cons_append, List.nil_append, at0_zero]
      rw [Int.min_eq_left (by omega)]
    · simp only [List.cons_append, at0_zero]
      rw [Int.min_eq_right (by omega)]
  rw [this]
  cases sq <;> simp [above] <;> omega
theorem cut_body (sq : Bool) (zs behind : List Int) : ((lit sq zs ++ behind).take (((head sq zs).length : Int) + ((body sq zs).length : Int)).toNat).drop ((head sq zs).length : Int).toNat = body sq zs := by
  rw [show (((head sq zs).length : Int) + ((body sq zs).length : Int)).toNat = (lit sq zs).length by simp [lit]; omega, List.take_left, Int.toNat_natCast, lit, List.drop_left]
theorem dec_full {zs : List Int} (hf : Fit .u8 zs) (h0 : 0 < zs.length) : decB (zs.length - 1) (enc zs) = ([], 4) := by
  obtain ⟨l, x, rfl⟩ : ∃ l x, zs = l ++ [x] := ⟨zs.dropLast, zs.getLast (List.ne_nil_of_length_pos h0), (List.dropLast_concat_getLast _).symm⟩
  have hx := bounds_u8 (hf x (by simp))
  rw [decB, bitsB_enc, pad, bitsT_snoc, List.append_assoc, dec_text (fun z hz => hf z (by simp [hz])) (by simp), dec_code (by omega), if_pos (by simp)]
/-- there and back -/
theorem decL_lit (sq : Bool) {zs : List Int} (hf : Fit .u8 zs) (hz : zs.length ≤ 1000000) (behind : List Int) {most : Int} (hm : (zs.length : Int) ≤ most) : decL most (lit sq zs ++ behind) = (zs, ((lit sq zs).length : Int), 0) := by
  have hd := lit_dec sq hf hz (body sq zs ++ behind)
  rw [← List.append_assoc, ← lit] at hd
  have hk := lit_mark sq zs behind
  have hc := cut_body sq zs behind
  have hl : ((lit sq zs).length : Int) = (head sq zs).length + (body sq zs).length := by simp [lit]
  rw [decL, hd]
  simp only [ne_eq, not_true_eq_false, if_false]
  rw [if_neg (by simp; omega), hc]
  cases sq
  · rw [if_neg (by rw [hk]; decide), if_neg (by simp [body]; omega), hl]
    rfl
  · rw [if_pos (by rw [hk])]
    simp only [body, if_true] at hl ⊢
    rw [dec_enc hf hm, if_neg (by simp), hl]
/-- a bound that is less -/
theorem decL_full (sq : Bool) {zs : List Int} (hf : Fit .u8 zs) (hz : zs.length ≤ 1000000) (h0 : 0 < zs.length) : decL (zs.length - 1) (lit sq zs) = ([], 0, 4) := by
  have hd := lit_dec sq hf hz (body sq zs)
  rw [← lit] at hd
  have hk := lit_mark sq zs []
  have hc := cut_body sq zs []
  rw [List.append_nil] at hk hc
  have hl : ((lit sq zs).length : Int) = (head sq zs).length + (body sq zs).length := by simp [lit]
  rw [decL, hd]
  simp only [ne_eq, not_true_eq_false, if_false]
  rw [if_neg (by omega), hc]
  cases sq
  · rw [if_neg (by rw [hk]; decide), if_pos (by simp [body]; omega)]
  · rw [if_pos (by rw [hk])]
    simp only [body, if_true]
    rw [dec_full hf h0]
    rfl
/-- cut short -/
theorem decL_cut (sq : Bool) {zs : List Int} (hf : Fit .u8 zs) (hz : zs.length ≤ 1000000) {most : Int} {j : Nat} (hj : j < (lit sq zs).length) : decL most ((lit sq zs).take j) = ([], 0, 2) := by
  have hb := body_length sq hf
  by_cases h : j < (head sq zs).length
  · have e : (lit sq zs).take j = (head sq zs).take j := by rw [lit, List.take_append_of_le_length (by omega)]
    have hd := decP_cut (fullP 7) (above sq) (body sq zs).length j (by rw [full7]; decide) (above_mod sq) (by omega) (by omega) h
    rw [e, decL]
    rw [head] at *
    rw [hd]
    rfl
  · have e : (lit sq zs).take j = head sq zs ++ (body sq zs).take (j - (head sq zs).length) := by rw [lit, List.take_append, List.take_of_length_le (by omega)]
    have hd := lit_dec sq hf hz ((body sq zs).take (j - (head sq zs).length))
    have hl : (lit sq zs).length = (head sq zs).length + (body sq zs).length := by simp [lit]
    rw [e, decL, hd]
    simp only [ne_eq, not_true_eq_false, if_false]
    rw [if_pos (by simp; omega)]
theorem grpL_mono : ∀ (f : Nat) (r s : Int), 0 ≤ r → r ≤ s → (grpL f r).length ≤ (grpL f s).length
  | 0, r, s, _, _ => by simp [grpL]
  | f + 1, r, s, h0, h => by
    by_cases hr : r < 128
    · rw [grpL_small hr]; exact (grpL_length _ _).1
    · rw [grpL_great (by omega), grpL_great (by omega)]
      have := grpL_mono f (r / 128) (s / 128) (by omega) (by omega)
      simp; omega
theorem encP_mono (m a a' n n' : Int) (h : n ≤ n') : (encP m a n).length ≤ (encP m a' n').length := by
  unfold encP
  by_cases h1 : n < m
  · rw [if_pos h1]; split <;> simp
  · rw [if_neg h1, if_neg (by omega)]
    have := grpL_mono 4 (n - m) (n' - m) (by omega) (by omega)
    simp; omega
/-- the shorter ones are no longer than either -/
theorem litS_le (sq : Bool) (zs : List Int) : (litS zs).length ≤ (lit sq zs).length := by
  have e : ∀ b, (body b zs).length = if b then sizeT zs else zs.length := fun b => by cases b <;> simp [body, enc_length]
  unfold litS lit
  simp only [List.length_append, head]
  by_cases h : sizeT zs < zs.length
  · have := encP_mono (fullP 7) (above true) (above sq) (body true zs).length (body sq zs).length (by rw [e, e]; cases sq <;> simp <;> omega)
    rw [decide_eq_true h]
    have h2 := e true
    have h3 := e sq
    cases sq <;> simp_all <;> omega
  · have := encP_mono (fullP 7) (above false) (above sq) (body false zs).length (body sq zs).length (by rw [e, e]; cases sq <;> simp <;> omega)
    rw [decide_eq_false h]
    have h2 := e false
    have h3 := e sq
    cases sq <;> simp_all <;> omega
/-- which ones they are -/
theorem litS_is (zs : List Int) : litS zs = if (lit false zs).length ≤ (lit true zs).length then lit false zs else lit true zs := by
  have e : ∀ b, (body b zs).length = if b then sizeT zs else zs.length := fun b => by cases b <;> simp [body, enc_length]
  by_cases h : sizeT zs < zs.length
  · have := encP_mono (fullP 7) (above true) (above false) (body true zs).length (body false zs).length (by rw [e, e]; simp; omega)
    rw [if_neg (by simp only [lit, List.length_append, head] at *; rw [e, e] at *; simp at *; omega), litS, decide_eq_true h]
  · have := encP_mono (fullP 7) (above false) (above true) (body false zs).length (body true zs).length (by rw [e, e]; simp; omega)
    rw [if_pos (by simp only [lit, List.length_append, head] at *; rw [e, e] at *; simp at *; omega), litS, decide_eq_false h]
theorem litS_sq (zs : List Int) : ∃ sq, litS zs = lit sq zs := ⟨_, rfl⟩

/-- what a count that is there says -/
theorem decF_ok : ∀ {zs : List Int} {f i : Nat} {t n : Int}, (∀ k, 0 ≤ at0 zs k) → 0 ≤ t → 0 ≤ n → (decF zs f i t n).2.2 = 0 → 0 ≤ (decF zs f i t n).1 ∧ (decF zs f i t n).1 ≤ 16777215 ∧ 1 ≤ (decF zs f i t n).2.1 ∧ (decF zs f i t n).2.1 ≤ zs.length
  | zs, 0, i, t, n, _, _, _, h => by simp [decF] at h
  | zs, f + 1, i, t, n, hz, ht, hn, h => by
    have h0 : 0 ≤ t * (at0 zs i % 128) := Int.mul_nonneg ht (by have := hz i; omega)
    rw [decF] at h ⊢
    split at h
    · simp at h
    · rename_i h1
      rw [if_neg h1]
      split at h
      · simp at h
      · rename_i h2
        rw [if_neg h2]
        split at h
        · rename_i h3
          rw [if_pos h3]
          simp only
          omega
        · rename_i h3
          rw [if_neg h3]
          exact decF_ok hz (by omega) (by omega) h
theorem decP_ok {zs : List Int} (hf : Fit .u8 zs) (h : (decP (fullP 7) zs).2.2 = 0) : 0 ≤ (decP (fullP 7) zs).1 ∧ (decP (fullP 7) zs).1 ≤ 16777215 ∧ 1 ≤ (decP (fullP 7) zs).2.1 ∧ (decP (fullP 7) zs).2.1 ≤ zs.length := by
  have hz : ∀ k, 0 ≤ at0 zs k := fun k => (hf.byte k).1
  rw [full7] at *
  unfold decP at h ⊢
  split at h
  · simp at h
  · rename_i h1
    rw [if_neg h1]
    split at h
    · rename_i h2
      have := hz 0
      rw [if_pos h2]
      simp only
      omega
    · rename_i h2
      rw [if_neg h2]
      exact decF_ok hz (by omega) (by omega) h
theorem decL_fit {most : Int} {zs : List Int} (hf : Fit .u8 zs) : Fit .u8 (decL most zs).1 := by
  have nil : Fit .u8 ([] : List Int) := fun x hx => by simp at hx
  rw [decL]
  split
  · exact nil
  split
  · exact nil
  split
  · split
    · exact nil
    · exact decB_fit ((hf.take _).drop _)
  split
  · exact nil
  · exact (hf.take _).drop _
end Go.Proofs.YtimggejonppegaaDoor
