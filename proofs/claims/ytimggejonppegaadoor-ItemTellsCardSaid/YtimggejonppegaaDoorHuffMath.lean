
/-
  Layer 4, plain mathematics: texts as bits, bits as bytes; there and back. No program is named here.
-/
import Derived.Test.YtimggejonppegaaDoorHuffTab
namespace Go.Proofs.YtimggejonppegaaDoor
open Go.RowKit

/-- so many bits of a number, the highest one first -/
def bitsOf : Nat → Nat → List Nat
  | 0, _ => []
  | n + 1, k => bitsOf n (k / 2) ++ [k % 2]
def Bits (l : List Nat) : Prop := ∀ x ∈ l, x < 2
theorem bitsOf_length : ∀ n k, (bitsOf n k).length = n
  | 0, _ => rfl
  | n + 1, k => by simp [bitsOf, bitsOf_length n]
theorem bitsOf_bits : ∀ n k, Bits (bitsOf n k)
  | 0, _ => fun x hx => by simp [bitsOf] at hx
  | n + 1, k => fun x hx => by
    simp only [bitsOf, List.mem_append, List.mem_singleton] at hx
    rcases hx with hx | rfl
    · exact bitsOf_bits n _ x hx
    · omega
theorem bitsOf_snoc {n k b : Nat} (hb : b < 2) : bitsOf (n + 1) (2 * k + b) = bitsOf n k ++ [b] := by
  rw [bitsOf, half_bit hb, show (2 * k + b) % 2 = b by omega]
theorem bitsOf_get : ∀ {n k i : Nat}, i < n → (bitsOf n k).getD i 0 = k / 2 ^ (n - 1 - i) % 2
  | n + 1, k, i, h => by
    rw [bitsOf]
    by_cases he : i = n
    · subst he
      have : (bitsOf i (k / 2)).length = i := bitsOf_length _ _
      simp [List.getD, this]
    · have hl : i < n := by omega
      have hlen : (bitsOf n (k / 2)).length = n := bitsOf_length _ _
      have ih := bitsOf_get (k := k / 2) hl
      rw [List.getD, List.getElem?_append_left (by rw [hlen]; exact hl), ← List.getD, ih, Nat.div_div_eq_div_mul, ← Nat.pow_succ', show (n - 1 - i).succ = n + 1 - 1 - i by omega]
theorem Bits.append {a b : List Nat} (ha : Bits a) (hb : Bits b) : Bits (a ++ b) := fun x hx => (List.mem_append.1 hx).elim (ha x) (hb x)
theorem Bits.take {a : List Nat} (h : Bits a) (n : Nat) : Bits (a.take n) := fun x hx => h x (List.mem_of_mem_take hx)
theorem Bits.drop {a : List Nat} (h : Bits a) (n : Nat) : Bits (a.drop n) := fun x hx => h x (List.mem_of_mem_drop hx)
theorem bits_ones (n : Nat) : Bits (List.replicate n 1) := fun x hx => by rw [(List.mem_replicate.1 hx).2]; omega

/-- a list from its end on -/
theorem snocInd {α : Type} {p : List α → Prop} (h0 : p []) (h1 : ∀ l a, p l → p (l ++ [a])) (l : List α) : p l := by
  rw [← List.reverse_reverse l]
  induction l.reverse with
  | nil => exact h0
  | cons a t ih => rw [List.reverse_cons]; exact h1 _ _ ih
/-- the number of bits -/
def val (l : List Nat) : Nat := l.foldl (fun a b => 2 * a + b) 0
theorem val_snoc (l : List Nat) (b : Nat) : val (l ++ [b]) = 2 * val l + b := by simp [val]
theorem val_append : ∀ (l m : List Nat), val (l ++ m) = val l * 2 ^ m.length + val m := by
  intro l m
  induction m using snocInd with
  | h0 => simp [val]
  | h1 m b ih =>
    rw [← List.append_assoc, val_snoc, ih, val_snoc, List.length_append, List.length_singleton, Nat.pow_succ, Nat.mul_add, Nat.add_assoc, Nat.mul_comm (2 ^ m.length) 2, Nat.mul_left_comm]
theorem val_lt (l : List Nat) (h : Bits l) : val l < 2 ^ l.length := by
  induction l using snocInd with
  | h0 => simp [val]
  | h1 m b ih =>
    have h1 := ih (fun x hx => h x (by simp [hx]))
    have h2 := h b (by simp)
    rw [val_snoc, List.length_append, List.length_singleton, Nat.pow_succ]
    omega
theorem val_bitsOf : ∀ (n k : Nat), k < 2 ^ n → val (bitsOf n k) = k
  | 0, k, h => by simp [bitsOf, val]; omega
  | n + 1, k, h => by
    rw [bitsOf, val_snoc, val_bitsOf n (k / 2) (by rw [Nat.pow_succ] at h; omega)]
    omega
theorem bitsOf_val (l : List Nat) (h : Bits l) : bitsOf l.length (val l) = l := by
  induction l using snocInd with
  | h0 => rfl
  | h1 m b ih =>
    rw [val_snoc, List.length_append, List.length_singleton, bitsOf_snoc (h b (by simp)), ih (fun x hx => h x (by simp [hx]))]
theorem ones_eq (n : Nat) : bitsOf n (2 ^ n - 1) = List.replicate n 1 := by
  induction n with
  | zero => rfl
  | succ n ih =>
    have hp : 0 < 2 ^ n := Nat.pow_pos (by omega)
    rw [show 2 ^ (n + 1) - 1 = 2 * (2 ^ n - 1) + 1 by rw [Nat.pow_succ]; omega, bitsOf_snoc (by omega), ih, List.replicate_succ']

/-- bits in groups of eight, each one a byte -/
def grp (l : List Nat) : List Int := if _h : l.length < 8 then [] else (val (l.take 8) : Int) :: grp (l.drop 8)
  termination_by l.length
  decreasing_by simp; omega
theorem grp_short {l : List Nat} (h : l.length < 8) : grp l = [] := by rw [grp, dif_pos h]
theorem grp_cons {l m : List Nat} (h : l.length = 8) : grp (l ++ m) = (val l : Int) :: grp m := by
  rw [grp, dif_neg (by simp; omega), List.take_left' h, List.drop_left' h]
theorem grp_append : ∀ (n : Nat) (l m : List Nat), l.length = 8 * n → grp (l ++ m) = grp l ++ grp m
  | 0, l, m, h => by
    obtain rfl := List.eq_nil_of_length_eq_zero (by omega : l.length = 0)
    simp [grp_short]
  | n + 1, l, m, h => by
    have h1 : (l.take 8).length = 8 := by simp; omega
    have h2 : (l.drop 8).length = 8 * n := by simp; omega
    have e : l = l.take 8 ++ l.drop 8 := (List.take_append_drop 8 l).symm
    rw [e, List.append_assoc, grp_cons h1, grp_cons h1, grp_append n _ m h2, List.cons_append]
theorem grp_one {l : List Nat} (h : l.length = 8) : grp l = [(val l : Int)] := by
  have := grp_cons (m := []) h
  rwa [List.append_nil, grp_short (l := []) (by decide)] at this
theorem grp_length : ∀ (n : Nat) (l : List Nat), l.length = 8 * n → (grp l).length = n
  | 0, l, h => by rw [grp_short (by omega)]; rfl
  | n + 1, l, h => by
    have h1 : (l.take 8).length = 8 := by simp; omega
    have h2 : (l.drop 8).length = 8 * n := by simp; omega
    rw [← List.take_append_drop 8 l, grp_cons h1, List.length_cons, grp_length n _ h2]
theorem grp_fit : ∀ (n : Nat) (l : List Nat), l.length = 8 * n → Bits l → Fit .u8 (grp l)
  | 0, l, h, _ => by rw [grp_short (by omega)]; intro x hx; simp at hx
  | n + 1, l, h, hb => by
    have h1 : (l.take 8).length = 8 := by simp; omega
    have h2 : (l.drop 8).length = 8 * n := by simp; omega
    rw [← List.take_append_drop 8 l, grp_cons h1]
    intro x hx
    rcases List.mem_cons.1 hx with rfl | hx
    · have := val_lt _ (hb.take 8)
      rw [h1] at this
      exact WalkArith.wf_u8 (by omega)
    · exact grp_fit n _ h2 (hb.drop 8) x hx

/-- the bits of bytes -/
def bitsB (zs : List Int) : List Nat := zs.flatMap fun z => bitsOf 8 z.toNat
theorem bitsB_nil : bitsB [] = [] := rfl
theorem bitsB_cons (z : Int) (zs : List Int) : bitsB (z :: zs) = bitsOf 8 z.toNat ++ bitsB zs := by simp [bitsB]
theorem bitsB_append (a b : List Int) : bitsB (a ++ b) = bitsB a ++ bitsB b := by simp [bitsB]
theorem bitsB_length : ∀ zs : List Int, (bitsB zs).length = 8 * zs.length
  | [] => rfl
  | z :: zs => by rw [bitsB_cons, List.length_append, bitsOf_length, bitsB_length zs, List.length_cons]; omega
theorem bitsB_bits (zs : List Int) : Bits (bitsB zs) := fun x hx => by
  obtain ⟨z, _, hz⟩ := List.mem_flatMap.1 hx
  exact bitsOf_bits _ _ x hz
theorem bitsB_grp : ∀ (n : Nat) (l : List Nat), l.length = 8 * n → Bits l → bitsB (grp l) = l
  | 0, l, h, _ => by
    obtain rfl := List.eq_nil_of_length_eq_zero (by omega : l.length = 0)
    rw [grp_short (by simp)]; rfl
  | n + 1, l, h, hb => by
    have h1 : (l.take 8).length = 8 := by simp; omega
    have h2 : (l.drop 8).length = 8 * n := by simp; omega
    have e := bitsOf_val _ (hb.take 8)
    rw [h1] at e
    conv => lhs; rw [← List.take_append_drop 8 l]
    rw [grp_cons h1, bitsB_cons, Int.toNat_natCast, e, bitsB_grp n _ h2 (hb.drop 8), List.take_append_drop]
theorem grp_bitsB : ∀ (zs : List Int), Fit .u8 zs → grp (bitsB zs) = zs
  | [], _ => by rw [bitsB_nil, grp_short (by simp)]
  | z :: zs, h => by
    have hz := bounds_u8 (h z (by simp))
    rw [bitsB_cons, grp_cons (bitsOf_length _ _), val_bitsOf _ _ (by omega), grp_bitsB zs (fun x hx => h x (by simp [hx]))]
    congr 1; omega
/-- the bit at a place -/
theorem bitsB_at : ∀ {zs : List Int} {q r : Nat}, q < zs.length → r < 8 → (bitsB zs).getD (8 * q + r) 0 = (bitsOf 8 (at0 zs q).toNat).getD r 0
  | z :: zs, 0, r, _, hr => by
    rw [bitsB_cons, List.getD, List.getElem?_append_left (by rw [bitsOf_length]; omega), ← List.getD]
    simp [at0]
  | z :: zs, q + 1, r, hq, hr => by
    have := bitsB_at (zs := zs) (q := q) (by simpa using hq) hr
    rw [bitsB_cons, List.getD, List.getElem?_append_right (by rw [bitsOf_length]; omega), bitsOf_length, show 8 * (q + 1) + r - 8 = 8 * q + r by omega, ← List.getD, this]
    simp [at0]

/-- the bits of a text: its codes, one behind the other -/
def bitsT (zs : List Int) : List Nat := zs.flatMap fun z => bitsOf (len z.toNat) (code z.toNat)
theorem bitsT_nil : bitsT [] = [] := rfl
theorem bitsT_cons (z : Int) (zs : List Int) : bitsT (z :: zs) = bitsOf (len z.toNat) (code z.toNat) ++ bitsT zs := by simp [bitsT]
theorem bitsT_snoc (zs : List Int) (z : Int) : bitsT (zs ++ [z]) = bitsT zs ++ bitsOf (len z.toNat) (code z.toNat) := by simp [bitsT]
theorem bitsT_bits (zs : List Int) : Bits (bitsT zs) := fun x hx => by
  obtain ⟨z, _, hz⟩ := List.mem_flatMap.1 hx
  exact bitsOf_bits _ _ x hz
theorem bitsT_length : ∀ (zs : List Int), Fit .u8 zs → (bitsT zs).length ≤ 30 * zs.length
  | [], _ => by simp [bitsT]
  | z :: zs, h => by
    have hz := bounds_u8 (h z (by simp))
    have := (len_bd (c := z.toNat) (by omega)).2
    have := bitsT_length zs (fun x hx => h x (by simp [hx]))
    rw [bitsT_cons, List.length_append, bitsOf_length, List.length_cons]
    omega

/-- how many 1s are missing -/
def miss (n : Nat) : Nat := (8 - n % 8) % 8
def pad (l : List Nat) : List Nat := l ++ List.replicate (miss l.length) 1
theorem pad_length (l : List Nat) : (pad l).length = 8 * ((l.length + 7) / 8) := by
  simp only [pad, List.length_append, List.length_replicate, miss]; omega
theorem pad_bits {l : List Nat} (h : Bits l) : Bits (pad l) := h.append (bits_ones _)
/-- a text's bytes -/
def enc (zs : List Int) : List Int := grp (pad (bitsT zs))
def sizeT (zs : List Int) : Nat := ((bitsT zs).length + 7) / 8
theorem enc_length (zs : List Int) : (enc zs).length = sizeT zs := grp_length _ _ (pad_length _)
theorem enc_fit (zs : List Int) : Fit .u8 (enc zs) := grp_fit _ _ (pad_length _) (pad_bits (bitsT_bits _))
theorem bitsB_enc (zs : List Int) : bitsB (enc zs) = pad (bitsT zs) := bitsB_grp _ _ (pad_length _) (pad_bits (bitsT_bits _))
theorem sizeT_le (zs : List Int) (h : Fit .u8 zs) : sizeT zs ≤ 4 * zs.length := by
  have := bitsT_length zs h
  unfold sizeT; omega

/-- what bits are the text of: what has come out, and the bits that wait -/
def dec (most : Int) : List Nat → List Int → Nat → Nat → List Int × Int
  | [], out, n, k => if n ≤ 7 ∧ k + 1 = 2 ^ n then (out, 0) else ([], 3)
  | b :: bs, out, n, k =>
    match look (n + 1) (2 * k + b) with
    | none => dec most bs out (n + 1) (2 * k + b)
    | some c => if c = 256 then ([], 3) else if most ≤ out.length then ([], 4) else dec most bs (out ++ [(c : Int)]) 0 0
def decB (most : Int) (zs : List Int) : List Int × Int := dec most (bitsB zs) [] 0 0
theorem dec_none {most : Int} {b : Nat} {bs : List Nat} {out : List Int} {n k : Nat} (h : look (n + 1) (2 * k + b) = none) : dec most (b :: bs) out n k = dec most bs out (n + 1) (2 * k + b) := by rw [dec, h]
theorem dec_some {most : Int} {b : Nat} {bs : List Nat} {out : List Int} {n k c : Nat} (h : look (n + 1) (2 * k + b) = some c) :
    dec most (b :: bs) out n k = if c = 256 then ([], 3) else if most ≤ out.length then ([], 4) else dec most bs (out ++ [(c : Int)]) 0 0 := by rw [dec, h]

/-- the text that comes out, its bits, and 1s, are the bits -/
theorem dec_back : ∀ {most : Int} {bs : List Nat} {out : List Int} {n k : Nat} {t : List Int}, Bits bs → dec most bs out n k = (t, 0) → Fit .u8 out → ((out.length : Int) ≤ max most 0) →
    ∃ j, j ≤ 7 ∧ bitsT out ++ bitsOf n k ++ bs = bitsT t ++ List.replicate j 1 ∧ Fit .u8 t ∧ (t.length : Int) ≤ max most 0
  | most, [], out, n, k, t, _, h, hf, hm => by
    rw [dec] at h
    by_cases hc : n ≤ 7 ∧ k + 1 = 2 ^ n
    · rw [if_pos hc] at h
      cases h
      refine ⟨n, hc.1, ?_, hf, hm⟩
      rw [← ones_eq, ← hc.2, List.append_nil, Nat.add_sub_cancel]
    · rw [if_neg hc] at h
      simp at h
  | most, b :: bs, out, n, k, t, hb, h, hf, hm => by
    have hb1 := hb b (by simp)
    have hb2 : Bits bs := fun x hx => hb x (by simp [hx])
    cases e : look (n + 1) (2 * k + b) with
    | none =>
      rw [dec_none e] at h
      obtain ⟨j, h1, h2, h3⟩ := dec_back hb2 h hf hm
      refine ⟨j, h1, ?_, h3⟩
      rw [bitsOf_snoc hb1] at h2
      rw [← h2]; simp
    | some c =>
      obtain ⟨hc, hl, hk⟩ := look_of e
      rw [dec_some e] at h
      by_cases h256 : c = 256
      · rw [if_pos h256] at h; simp at h
      · rw [if_neg h256] at h
        by_cases hm2 : most ≤ out.length
        · rw [if_pos hm2] at h; simp at h
        · rw [if_neg hm2] at h
          have hf2 : Fit .u8 (out ++ [(c : Int)]) := by
            intro x hx
            rcases List.mem_append.1 hx with hx | hx
            · exact hf x hx
            · rw [List.mem_singleton] at hx
              rw [hx]
              exact WalkArith.wf_u8 (by omega)
          obtain ⟨j, h1, h2, h3⟩ := dec_back hb2 h hf2 (by simp; omega)
          refine ⟨j, h1, ?_, h3⟩
          rw [bitsT_snoc, Int.toNat_natCast, hl, hk, bitsOf_snoc hb1] at h2
          rw [← h2]
          simp [bitsOf]
theorem dec_err {most : Int} {bs : List Nat} {out : List Int} {n k : Nat} : (dec most bs out n k).2 ≠ 0 → (dec most bs out n k).1 = [] := by
  induction bs generalizing out n k with
  | nil =>
    rw [dec]
    split <;> simp
  | cons b bs ih =>
    cases e : look (n + 1) (2 * k + b) with
    | none => rw [dec_none e]; exact ih
    | some c =>
      rw [dec_some e]
      split
      · simp
      · split
        · simp
        · exact ih

/-- the first bits of a code are none -/
theorem dec_walk {most : Int} {d : Nat} (hd : d < 257) : ∀ {i : Nat} {bs : List Nat} {out : List Int}, i < len d → dec most ((bitsOf (len d) (code d)).take i ++ bs) out 0 0 = dec most bs out i (code d / 2 ^ (len d - i))
  | 0, bs, out, _ => by
    rw [Nat.sub_zero, Nat.div_eq_of_lt (code_lt hd)]; rfl
  | i + 1, bs, out, h => by
    have hg := bitsOf_get (n := len d) (k := code d) (i := i) (by omega)
    have hl := bitsOf_length (len d) (code d)
    have ht : (bitsOf (len d) (code d)).take (i + 1) = (bitsOf (len d) (code d)).take i ++ [code d / 2 ^ (len d - 1 - i) % 2] := by
      rw [List.take_succ_eq_append_getElem (by omega), ← hg]
      simp [show i < (bitsOf (len d) (code d)).length by omega]
    rw [ht, List.append_assoc, dec_walk hd (by omega), List.singleton_append]
    have he : 2 * (code d / 2 ^ (len d - i)) + code d / 2 ^ (len d - 1 - i) % 2 = code d / 2 ^ (len d - (i + 1)) := by
      rw [show len d - i = (len d - (i + 1)) + 1 by omega, Nat.pow_succ, ← Nat.div_div_eq_div_mul, show len d - 1 - i = len d - (i + 1) by omega]
      omega
    rw [dec_none, he]
    rw [he]
    cases e : look (i + 1) (code d / 2 ^ (len d - (i + 1))) with
    | none => rfl
    | some c =>
      obtain ⟨hc, h1, h2⟩ := look_of e
      have := begins hc hd (by omega) (by rw [h1]; exact h2)
      subst this
      omega
/-- a whole code is its byte -/
theorem dec_code {most : Int} {d : Nat} (hd : d < 256) {bs : List Nat} {out : List Int} : dec most (bitsOf (len d) (code d) ++ bs) out 0 0 = if most ≤ out.length then ([], 4) else dec most bs (out ++ [(d : Int)]) 0 0 := by
  have hb := len_bd (c := d) (by omega)
  have hl := bitsOf_length (len d) (code d)
  have ht : bitsOf (len d) (code d) = (bitsOf (len d) (code d)).take (len d - 1) ++ [code d % 2] := by
    obtain ⟨m, hm⟩ : ∃ m, len d = m + 1 := ⟨len d - 1, by omega⟩
    rw [hm, bitsOf, show m + 1 - 1 = m by omega, List.take_left' (bitsOf_length _ _)]
  rw [ht, List.append_assoc, dec_walk (by omega) (by omega), List.singleton_append]
  have he : 2 * (code d / 2 ^ (len d - (len d - 1))) + code d % 2 = code d := by
    rw [show len d - (len d - 1) = 1 by omega]; omega
  rw [dec_some (c := d), if_neg (by omega)]
  rw [he, show len d - 1 + 1 = len d by omega]
  exact look_is (by omega)
/-- a whole text comes back -/
theorem dec_text {most : Int} : ∀ {zs : List Int} {bs : List Nat} {out : List Int}, Fit .u8 zs → (out.length : Int) + zs.length ≤ most → dec most (bitsT zs ++ bs) out 0 0 = dec most bs (out ++ zs) 0 0
  | [], bs, out, _, _ => by simp [bitsT]
  | z :: zs, bs, out, hf, hm => by
    have hz := bounds_u8 (hf z (by simp))
    have hm' : (out.length : Int) + (zs.length + 1) ≤ most := by simpa using hm
    rw [bitsT_cons, List.append_assoc, dec_code (by omega), if_neg (by omega), dec_text (fun x hx => hf x (by simp [hx])) (by simp; omega), List.append_assoc, Int.toNat_of_nonneg hz.1]
    rfl
/-- 1s, fewer than the end's code has, are none -/
theorem dec_ones {most : Int} {n : Nat} (h : n < 30) {out : List Int} : dec most (List.replicate n 1) out 0 0 = if n ≤ 7 then (out, 0) else ([], 3) := by
  have hw := dec_walk (most := most) (d := 256) (by omega) (i := n) (bs := []) (out := out) (by rw [len_end]; exact h)
  rw [len_end, code_end, show (1073741823 : Nat) = 2 ^ 30 - 1 from rfl, ones_eq, List.take_replicate, Nat.min_eq_left (by omega), List.append_nil] at hw
  rw [hw, dec]
  have he : (2 ^ 30 - 1) / 2 ^ (30 - n) + 1 = 2 ^ n := by
    have hp : 0 < 2 ^ (30 - n) := Nat.pow_pos (by omega)
    have hn : 0 < 2 ^ n := Nat.pow_pos (by omega)
    have e : (2 : Nat) ^ 30 = 2 ^ n * 2 ^ (30 - n) := by rw [← Nat.pow_add]; congr 1; omega
    have : (2 ^ 30 - 1) / 2 ^ (30 - n) = 2 ^ n - 1 := by
      rw [e]
      rw [Nat.div_eq_iff hp]
      have e2 : (2 ^ n - 1) * 2 ^ (30 - n) + 2 ^ (30 - n) = 2 ^ n * 2 ^ (30 - n) := by
        rw [← Nat.add_one_mul, Nat.sub_add_cancel hn]
      omega
    omega
  simp [he]

theorem miss_lt (n : Nat) : miss n ≤ 7 := by unfold miss; omega
/-- there and back -/
theorem dec_enc {most : Int} {zs : List Int} (hf : Fit .u8 zs) (hm : (zs.length : Int) ≤ most) : decB most (enc zs) = (zs, 0) := by
  have := miss_lt (bitsT zs).length
  rw [decB, bitsB_enc, pad, dec_text hf (by simpa using hm), dec_ones (by omega), if_pos this, List.nil_append]
theorem dec_enc255 {most : Int} {zs : List Int} (hf : Fit .u8 zs) (hm : (zs.length : Int) ≤ most) : decB most (enc zs ++ [255]) = ([], 3) := by
  have := miss_lt (bitsT zs).length
  have e : bitsB [255] = List.replicate 8 1 := by decide
  rw [decB, bitsB_append, bitsB_enc, pad, List.append_assoc, e, List.replicate_append_replicate, dec_text hf (by simpa using hm), dec_ones (by omega), if_neg (by omega)]
theorem enc_dec {most : Int} {zs t : List Int} (hf : Fit .u8 zs) (h : decB most zs = (t, 0)) : enc t = zs ∧ Fit .u8 t ∧ (t.length : Int) ≤ max most 0 := by
  obtain ⟨j, h1, h2, h3, h4⟩ := dec_back (bitsB_bits zs) h (by intro x hx; simp at hx) (by simp; omega)
  refine ⟨?_, h3, h4⟩
  rw [bitsT_nil, List.nil_append, bitsOf, List.nil_append] at h2
  have hl := congrArg List.length h2
  rw [bitsB_length, List.length_append, List.length_replicate] at hl
  have hj : j = miss (bitsT t).length := by unfold miss; omega
  rw [enc, pad, ← hj, ← h2, grp_bitsB zs hf]
theorem decB_fit {most : Int} {zs : List Int} (hf : Fit .u8 zs) : Fit .u8 (decB most zs).1 := by
  by_cases h : (decB most zs).2 = 0
  · exact (enc_dec (t := (decB most zs).1) hf (by rw [← h])).2.1
  · rw [decB] at h ⊢
    rw [dec_err h]
    intro x hx; simp at hx
end Go.Proofs.YtimggejonppegaaDoor
