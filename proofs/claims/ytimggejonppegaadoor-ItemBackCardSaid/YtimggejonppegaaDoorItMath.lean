
/-
  What an item's bytes are, and which item bytes begin with.
-/
import Derived.Test.YtimggejonppegaaDoorItRow
import Derived.Test.YtimggejonppegaaDoorItKind
import Derived.Test.YtimggejonppegaaDoorLitDec
namespace Go.Proofs.YtimggejonppegaaDoor
open Go.RowKit

/-- the texts' bytes -/
def nameI (k n : Int) (a : ByteArray) : List Int := if textsI k then (if n = 0 then litS (nums a) else []) else []
def valI (k : Int) (b : ByteArray) : List Int := if textsI k then litS (nums b) else []
/-- an item's bytes -/
def encI (k n : Int) (a b : ByteArray) : List Int := encP (fullP (bitsI k)) (aboveI k) n ++ nameI k n a ++ valI k b

/-- what Decode answers -/
structure DecO where
  k : Int
  n : Int
  a : List Int
  b : List Int
  at_ : Int
  e : Int
def DecO.err (e : Int) : DecO := ⟨0, 0, [], [], 0, e⟩
/-- a value behind so many bytes -/
def decV (most : Int) (zs : List Int) (k n : Int) (a : List Int) (p : Int) : DecO :=
  if (decL (min most 65536) (zs.drop p.toNat)).2.2 ≠ 0 then .err (decL (min most 65536) (zs.drop p.toNat)).2.2
  else ⟨k, n, a, (decL (min most 65536) (zs.drop p.toNat)).1, p + (decL (min most 65536) (zs.drop p.toNat)).2.1, 0⟩
/-- a name and a value -/
def decNV (most : Int) (zs : List Int) (k n : Int) (p : Int) : DecO :=
  if (decL (min most 65536) (zs.drop p.toNat)).2.2 ≠ 0 then .err (decL (min most 65536) (zs.drop p.toNat)).2.2
  else decV most zs k n (decL (min most 65536) (zs.drop p.toNat)).1 (p + (decL (min most 65536) (zs.drop p.toNat)).2.1)
def decI (most : Int) (zs : List Int) : DecO :=
  if zs.length = 0 then .err 2
  else if (decP (fullP (bitsI (kindI (at0 zs 0)))) zs).2.2 ≠ 0 then .err (decP (fullP (bitsI (kindI (at0 zs 0)))) zs).2.2
  else if (decP (fullP (bitsI (kindI (at0 zs 0)))) zs).1 < leastI (kindI (at0 zs 0)) then .err 3
  else if textsI (kindI (at0 zs 0)) then
    if (decP (fullP (bitsI (kindI (at0 zs 0)))) zs).1 = 0 then decNV most zs (kindI (at0 zs 0)) 0 (decP (fullP (bitsI (kindI (at0 zs 0)))) zs).2.1
    else decV most zs (kindI (at0 zs 0)) (decP (fullP (bitsI (kindI (at0 zs 0)))) zs).1 [] (decP (fullP (bitsI (kindI (at0 zs 0)))) zs).2.1
  else ⟨kindI (at0 zs 0), (decP (fullP (bitsI (kindI (at0 zs 0)))) zs).1, [], [], (decP (fullP (bitsI (kindI (at0 zs 0)))) zs).2.1, 0⟩
/-- as a value -/
def DecO.val (d : DecO) : Value := .tuple #[itV d.k d.n (strOfNums d.a) (strOfNums d.b), .int .i64 d.at_, .int .i64 d.e]

theorem bitsI_bound (k : Int) : 4 ≤ bitsI k ∧ bitsI k ≤ 7 := by unfold bitsI; split <;> (try split) <;> (try split) <;> omega
theorem aboveI_ok {k : Int} (h0 : 0 ≤ k) (h4 : k < 5) : 0 ≤ aboveI k ∧ aboveI k ≤ 255 ∧ aboveI k % (fullP (bitsI k) + 1) = 0 := by
  rcases kind_cases h0 h4 with rfl | rfl | rfl | rfl | rfl <;> decide
theorem leastI_nn (k : Int) : 0 ≤ leastI k ∧ leastI k ≤ 1 := by unfold leastI; split <;> omega
theorem rightI.num {k n : Int} {a b : ByteArray} (h : rightI k n a b) : 0 ≤ n ∧ n ≤ 16777215 := by
  have := leastI_nn k
  have h2 := h.2.1
  exact ⟨by omega, h.2.2.1⟩
theorem rightI.enc {k n : Int} {a b : ByteArray} (h : rightI k n a b) : encOk n (bitsI k) (aboveI k) := by
  have h1 := bitsI_bound k
  exact ⟨h.num, ⟨by omega, by omega⟩, aboveI_ok h.1.1 h.1.2⟩
theorem litS_fit {zs : List Int} (hf : Fit .u8 zs) (hz : zs.length ≤ 1000000) : Fit .u8 (litS zs) := lit_fit _ hf hz
theorem litS_length {zs : List Int} (hf : Fit .u8 zs) (hz : zs.length ≤ 1000000) : 1 ≤ (litS zs).length ∧ (litS zs).length ≤ 4 * zs.length + 5 := lit_length _ hf hz
end Go.Proofs.YtimggejonppegaaDoor
