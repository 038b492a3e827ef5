
/-
  Go's bit operations on int, at numbers that are not negative: plain mathematics, no program is named here.
-/
import Derived.Test.YtiappeagdnkedaaKit
import Derived.Laws.BitsAllLaws
namespace Go.Proofs.Ytiappeagdnkedaa
open Go.RowKit

theorem wrap_i64_small {n : Int} (h1 : 0 ≤ n) (h2 : n < 9223372036854775808) : IntKind.i64.wrap n = n := by
  simp [IntKind.wrap, IntKind.bits, IntKind.signed]; omega
theorem i64_or (a b : Int) (h1 : 0 ≤ a) (h2 : a < 9223372036854775808) (h3 : 0 ≤ b) (h4 : b < 9223372036854775808) : bits .or .i64 a b = ((a.toNat ||| b.toNat : Nat) : Int) := by
  obtain ⟨A, rfl⟩ := Int.eq_ofNat_of_zero_le h1
  obtain ⟨B, rfl⟩ := Int.eq_ofNat_of_zero_le h3
  have hx : A ||| B < 2 ^ 63 := Nat.or_lt_two_pow (by omega) (by omega)
  show IntKind.i64.wrap ((BitVec.ofInt 64 (A : Int) ||| BitVec.ofInt 64 (B : Int)).toNat : Int) = _
  rw [BitVec.toNat_or, ofInt_u64 A (by omega), ofInt_u64 B (by omega), wrap_i64_small (by omega) (by omega)]
  simp
theorem i64_and (a b : Int) (h1 : 0 ≤ a) (h2 : a < 9223372036854775808) (h3 : 0 ≤ b) (h4 : b < 9223372036854775808) : bits .and .i64 a b = ((a.toNat &&& b.toNat : Nat) : Int) := by
  obtain ⟨A, rfl⟩ := Int.eq_ofNat_of_zero_le h1
  obtain ⟨B, rfl⟩ := Int.eq_ofNat_of_zero_le h3
  have hx : A &&& B < 2 ^ 63 := Nat.and_lt_two_pow _ (by omega)
  show IntKind.i64.wrap ((BitVec.ofInt 64 (A : Int) &&& BitVec.ofInt 64 (B : Int)).toNat : Int) = _
  rw [BitVec.toNat_and, ofInt_u64 A (by omega), ofInt_u64 B (by omega), wrap_i64_small (by omega) (by omega)]
  simp
/-- what is joined by 'or' to a number that ends in so many zeros is added -/
theorem i64_join (i : Nat) (x y : Int) (h1 : 0 ≤ x) (h2 : x < 9223372036854775808) (hx : x % 2 ^ i = 0) (h3 : 0 ≤ y) (h4 : y < 2 ^ i) (h5 : y < 9223372036854775808) : bits .or .i64 x y = x + y := by
  rw [i64_or x y h1 h2 h3 h5]
  obtain ⟨A, rfl⟩ := Int.eq_ofNat_of_zero_le h1
  obtain ⟨B, rfl⟩ := Int.eq_ofNat_of_zero_le h3
  simp only [Int.toNat_natCast]
  rw [nat_join i A B (by exact_mod_cast hx) (by exact_mod_cast h4)]
  simp
/-- a byte joined below -/
theorem or_byte (m z : Int) (h1 : 0 ≤ m) (h2 : m < 36028797018963968) (h3 : 0 ≤ z) (h4 : z ≤ 255) : bits .or .i64 (m * 256) z = 256 * m + z := by
  rw [i64_join 8 (m * 256) z (by omega) (by omega) (by omega) h3 (by omega) (by omega)]
  omega

end Go.Proofs.Ytiappeagdnkedaa
