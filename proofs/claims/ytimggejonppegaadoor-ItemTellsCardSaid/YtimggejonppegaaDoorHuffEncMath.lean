
/-
  Layer 4, plain mathematics: bits that wait, byte by byte. No program is named here.
-/
import Derived.Test.YtimggejonppegaaDoorHuffArr
import Derived.Test.YtimggejonppegaaDoorBits
namespace Go.Proofs.YtimggejonppegaaDoor
open Go.RowKit

theorem val_ones (n : Nat) : val (List.replicate n 1) = 2 ^ n - 1 := by
  have h := val_bitsOf n (2 ^ n - 1) (by have : 0 < 2 ^ n := Nat.pow_pos (by omega); omega)
  rwa [ones_eq] at h
/-- one byte more of the bits that wait -/
theorem byte_step {V m : Nat} {rest : List Nat} (hb : Bits rest) (hl : rest.length = m + 8) (hv : V % 2 ^ (m + 8) = val rest) : V / 2 ^ m % 256 = val (rest.take 8) ∧ V % 2 ^ m = val (rest.drop 8) := by
  have h1 : (rest.take 8).length = 8 := by simp; omega
  have h2 : (rest.drop 8).length = m := by simp; omega
  have e : val rest = val (rest.take 8) * 2 ^ m + val (rest.drop 8) := by
    conv => lhs; rw [← List.take_append_drop 8 rest]
    rw [val_append, h2]
  have b1 := val_lt _ (hb.take 8)
  have b2 := val_lt _ (hb.drop 8)
  rw [h1] at b1
  rw [h2] at b2
  have hp : 0 < 2 ^ m := Nat.pow_pos (by omega)
  have hV := Nat.div_add_mod V (2 ^ (m + 8))
  rw [hv, e, Nat.pow_add, show (2 : Nat) ^ 8 = 256 from rfl, Nat.mul_assoc] at hV
  obtain ⟨q, hq⟩ : ∃ q, V / (2 ^ m * 256) = q := ⟨_, rfl⟩
  rw [hq] at hV
  have hV2 : V = 2 ^ m * (256 * q + val (rest.take 8)) + val (rest.drop 8) := by
    rw [Nat.mul_add, Nat.mul_comm (2 ^ m) (val (rest.take 8)), Nat.add_assoc]
    exact hV.symm
  constructor
  · rw [hV2, Nat.mul_add_div hp, Nat.div_eq_of_lt b2]
    omega
  · rw [hV2, Nat.mul_add_mod, Nat.mod_eq_of_lt b2]
/-- the bits of one text more -/
theorem wait_more {x L c : Nat} {rest : List Nat} (hx : x = val rest) (hc : c < 2 ^ L) : x * 2 ^ L + c = val (rest ++ bitsOf L c) := by
  rw [val_append, bitsOf_length, val_bitsOf _ _ hc, hx]
/-- the last byte -/
theorem enc_last {zs : List Int} {done rest : List Nat} {m : Nat} (h : bitsT zs = done ++ rest) (hd : done.length = 8 * m) (h0 : 0 < rest.length) (h7 : rest.length ≤ 7) :
    enc zs = grp done ++ [((val rest * 2 ^ (8 - rest.length) + (2 ^ (8 - rest.length) - 1) : Nat) : Int)] := by
  have hm : miss (bitsT zs).length = 8 - rest.length := by rw [h, List.length_append, hd]; unfold miss; omega
  have hl : (rest ++ List.replicate (8 - rest.length) 1).length = 8 := by rw [List.length_append, List.length_replicate]; omega
  rw [enc, pad, hm, h, List.append_assoc, grp_append m _ _ hd, grp_one hl, val_append, val_ones, List.length_replicate]
theorem enc_done {zs : List Int} {done rest : List Nat} {m : Nat} (h : bitsT zs = done ++ rest) (hd : done.length = 8 * m) (h0 : rest.length = 0) : enc zs = grp done := by
  obtain rfl := List.eq_nil_of_length_eq_zero h0
  have hm : miss (bitsT zs).length = 0 := by rw [h, List.length_append, hd]; unfold miss; simp
  rw [enc, pad, hm, h]
  simp
theorem val_take_succ {l : List Nat} {k : Nat} (h : k < l.length) : val (l.take (k + 1)) = 2 * val (l.take k) + l.getD k 0 := by
  rw [List.take_succ_eq_append_getElem h, val_snoc]
  simp [h]
theorem grp_take {P : List Nat} {m n : Nat} (hl : P.length = 8 * n) (h : m < n) : grp (P.take (8 * (m + 1))) = grp (P.take (8 * m)) ++ [((val ((P.drop (8 * m)).take 8) : Nat) : Int)] := by
  have e : P.take (8 * (m + 1)) = P.take (8 * m) ++ (P.drop (8 * m)).take 8 := by
    rw [show 8 * (m + 1) = 8 * m + 8 by omega, List.take_add]
  have h1 : (P.take (8 * m)).length = 8 * m := by rw [List.length_take]; omega
  have h2 : ((P.drop (8 * m)).take 8).length = 8 := by rw [List.length_take, List.length_drop]; omega
  rw [e, grp_append m _ _ h1, grp_one h2]
theorem getD_drop_take (P : List Nat) (a k n : Nat) (h : k < n) : ((P.drop a).take n).getD k 0 = P.getD (a + k) 0 := by
  simp [List.getD, h]

/-- numbers as Go's: a shift to the left, a join below, a mask, a byte -/
theorem pow_le40 {L : Nat} (h : L ≤ 40) : 2 ^ L ≤ 1099511627776 := Nat.pow_le_pow_right (n := 2) (by omega) h
theorem shl_small {x L : Nat} (hx : x < 256) (hL : L ≤ 30) : IntKind.i64.wrap ((x : Int) * 2 ^ L) = ((x * 2 ^ L : Nat) : Int) := by
  have h1 : 2 ^ L ≤ 1073741824 := Nat.pow_le_pow_right (by omega : 2 > 0) hL
  have h2 : x * 2 ^ L ≤ 255 * 1073741824 := Nat.mul_le_mul (by omega) h1
  have e : (x : Int) * 2 ^ L = ((x * 2 ^ L : Nat) : Int) := by push_cast; rfl
  rw [e]
  exact wrap_i64_small (by omega) (by omega)
theorem or_small {x L c : Nat} (hx : x < 256) (hL : L ≤ 30) (hc : c < 2 ^ L) : bits .or .i64 ((x * 2 ^ L : Nat) : Int) (c : Int) = ((x * 2 ^ L + c : Nat) : Int) := by
  have h1 : 2 ^ L ≤ 1073741824 := Nat.pow_le_pow_right (by omega : 2 > 0) hL
  have h2 : x * 2 ^ L ≤ 255 * 1073741824 := Nat.mul_le_mul (by omega) h1
  have hm : ((x * 2 ^ L : Nat) : Int) % 2 ^ L = 0 := by
    have : (2 : Int) ^ L = ((2 ^ L : Nat) : Int) := by push_cast; rfl
    rw [this, ← Int.natCast_emod, Nat.mul_mod_left]
    rfl
  have hc' : (c : Int) < 2 ^ L := by
    have : (2 : Int) ^ L = ((2 ^ L : Nat) : Int) := by push_cast; rfl
    rw [this]; omega
  rw [i64_join L _ _ (by omega) (by omega) hm (by omega) hc' (by omega)]
  omega
theorem mask_small {V n : Nat} (hV : V < 1099511627776) (hn : n ≤ 30) : bits .and .i64 (V : Int) (((2 ^ n - 1 : Nat) : Int)) = ((V % 2 ^ n : Nat) : Int) := by
  have h1 : 2 ^ n ≤ 1073741824 := Nat.pow_le_pow_right (by omega : 2 > 0) hn
  rw [i64_and _ _ (by omega) (by omega) (by omega) (by omega), Int.toNat_natCast, Int.toNat_natCast, Nat.and_two_pow_sub_one_eq_mod]
end Go.Proofs.YtimggejonppegaaDoor
