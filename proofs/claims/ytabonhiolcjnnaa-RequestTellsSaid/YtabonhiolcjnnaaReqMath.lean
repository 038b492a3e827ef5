
/-
  Layer 10: what may stand in a name, a value, a list, by definition. No function of the program is named here.
-/
import Derived.Test.YtabonhiolcjnnaaStr
import Derived.Test.YtabonhiolcjnnaaDynKit
import Derived.Test.YtabonhiolcjnnaaStatTab
namespace Go.Proofs.Ytabonhiolcjnnaa
set_option maxRecDepth 20000
open Go.RowKit

/-- bytes: figures, signs, token bytes -/
def figB (c : Int) : Bool := decide (48 ≤ c ∧ c ≤ 57)
def signs10 : List Int := [33, 35, 36, 37, 38, 39, 42, 43, 45, 46, 94, 95, 96, 124, 126]
def signB (c : Int) : Bool := signs10.contains c
def tokC (low : Bool) (c : Int) : Bool := decide (97 ≤ c ∧ c ≤ 122) || (decide (65 ≤ c ∧ c ≤ 90) && !low) || figB c || signB c
def tokB (low : Bool) (zs : List Int) : Bool := zs.all (tokC low) && decide (zs ≠ [])
def innC (c : Int) : Bool := !(c == 0 || c == 10 || c == 13)
def edgeC (c : Int) : Bool := !(c == 9 || c == 32)
def valB (zs : List Int) : Bool := zs.all innC && (decide (zs = []) || (edgeC (at0 zs 0) && edgeC (at0 zs (zs.length - 1))))
/-- the number of figures -/
def figN : Int → List Int → Int
  | n, [] => n
  | n, c :: r => figN (10 * n + (c - 48)) r
def numB (zs : List Int) : Int := if 1 ≤ zs.length ∧ zs.length ≤ 15 ∧ zs.all figB = true then figN 0 zs else -1
theorem figN_append (n : Int) (a : List Int) (c : Int) : figN n (a ++ [c]) = 10 * figN n a + (c - 48) := by
  induction a generalizing n with
  | nil => rfl
  | cons x r ih => exact ih _
theorem figN_range : ∀ (a : List Int) (n : Int), a.all figB = true → 0 ≤ n → 0 ≤ figN n a ∧ figN n a + 1 ≤ (n + 1) * 10 ^ a.length
  | [], n, _, h0 => ⟨h0, by simp [figN]⟩
  | c :: r, n, h, h0 => by
    rw [List.all_cons, Bool.and_eq_true] at h
    have hc := of_decide_eq_true h.1
    have := figN_range r (10 * n + (c - 48)) h.2 (by omega)
    refine ⟨this.1, Int.le_trans this.2 ?_⟩
    rw [List.length_cons, Int.pow_succ, show (n + 1) * (10 ^ r.length * 10) = (10 * n + 10) * 10 ^ r.length by rw [Int.mul_comm (10 ^ r.length) 10, ← Int.mul_assoc]; congr 1; omega]
    exact Int.mul_le_mul_of_nonneg_right (by omega) (Int.le_of_lt (Int.pow_pos (by decide)))
/-- texts that are looked for -/
def tx (l : List UInt8) : ByteArray := ⟨l.toArray⟩
def nConn : ByteArray := tx [99, 111, 110, 110, 101, 99, 116, 105, 111, 110]
def nKeep : ByteArray := tx [107, 101, 101, 112, 45, 97, 108, 105, 118, 101]
def nProxy : ByteArray := tx [112, 114, 111, 120, 121, 45, 99, 111, 110, 110, 101, 99, 116, 105, 111, 110]
def nTrans : ByteArray := tx [116, 114, 97, 110, 115, 102, 101, 114, 45, 101, 110, 99, 111, 100, 105, 110, 103]
def nUpgr : ByteArray := tx [117, 112, 103, 114, 97, 100, 101]
def nTe : ByteArray := tx [116, 101]
def nTrail : ByteArray := tx [116, 114, 97, 105, 108, 101, 114, 115]
def nLen : ByteArray := tx [99, 111, 110, 116, 101, 110, 116, 45, 108, 101, 110, 103, 116, 104]
/-- a field that is ordinary -/
def badB (n : ByteArray) : Bool := eqB n nConn || (eqB n nKeep || (eqB n nProxy || (eqB n nTrans || eqB n nUpgr)))
def ordF (f : Fd) : Bool :=
  (tokB true (nums f.1) && valB (nums f.2)) && (!badB f.1 && (bif eqB f.1 nTe then eqB f.2 nTrail else bif eqB f.1 nLen then decide (0 ≤ numB (nums f.2)) else true))
def lenL : List Fd → Int
  | [] => -1
  | f :: r => bif eqB f.1 nLen then numB (nums f.2) else lenL r
/-- do two of them tell the same number? -/
def agree2 (f g : Fd) : Bool := !(eqB f.1 nLen && (eqB g.1 nLen && numB (nums f.2) != numB (nums g.2)))
def agreeL (l : List Fd) : Prop := ∀ f ∈ l, ∀ g ∈ l, agree2 f g = true
instance (l : List Fd) : Decidable (agreeL l) := by unfold agreeL; infer_instance
def trailB (l : List Fd) : Bool := l.all ordF && decide (agreeL l)
/-- the value of a name, the last one, and how often it is there -/
def valOf (name : ByteArray) : ByteArray × Nat → List Fd → ByteArray × Nat
  | x, [] => x
  | x, f :: r => valOf name (bif eqB f.1 name then (f.2, x.2 + 1) else x) r
theorem valOf_append (name : ByteArray) (a : List Fd) (f : Fd) : ∀ x : ByteArray × Nat, valOf name x (a ++ [f]) = bif eqB f.1 name then (f.2, (valOf name x a).2 + 1) else valOf name x a := by
  induction a with
  | nil => intro x; rfl
  | cons y r ih => intro x; exact ih _
theorem valOf_le (name : ByteArray) (a : List Fd) : ∀ x : ByteArray × Nat, (valOf name x a).2 ≤ x.2 + a.length := by
  induction a with
  | nil => intro x; exact Nat.le_refl _
  | cons y r ih =>
    intro x
    refine Nat.le_trans (ih _) ?_
    cases eqB y.1 name
    · exact Nat.add_le_add_left (Nat.le_succ _) _
    · rw [List.length_cons]; simp only [cond_true]; omega
/-- begins with a colon -/
def colB (f : Fd) : Bool := decide (0 < f.1.size) && at0 (nums f.1) 0 == 58
def nMeth : ByteArray := tx [58, 109, 101, 116, 104, 111, 100]
def nSchm : ByteArray := tx [58, 115, 99, 104, 101, 109, 101]
def nPath : ByteArray := tx [58, 112, 97, 116, 104]
def nAuth : ByteArray := tx [58, 97, 117, 116, 104, 111, 114, 105, 116, 121]
def nStat : ByteArray := tx [58, 115, 116, 97, 116, 117, 115]
def vConn : ByteArray := tx [67, 79, 78, 78, 69, 67, 84]
def v0 : ByteArray × Nat := (⟨#[]⟩, 0)
/-- how many fields ahead begin with a colon -/
def headN : List Fd → Nat
  | [] => 0
  | f :: r => bif colB f then headN r + 1 else 0
def headOk (l : List Fd) : Bool := (l.take (headN l)).all fun f => valB (nums f.2)
def reqB (l : List Fd) : Bool :=
  let h := l.take (headN l)
  let m := valOf nMeth v0 h
  let s := valOf nSchm v0 h
  let p := valOf nPath v0 h
  let a := valOf nAuth v0 h
  headOk l && (tokB false (nums m.1) && trailB (l.drop (headN l))) &&
    decide (m.2 = 1 ∧ s.2 ≤ 1 ∧ p.2 ≤ 1 ∧ a.2 ≤ 1 ∧ m.2 + s.2 + p.2 + a.2 = headN l) &&
    (bif eqB m.1 vConn then decide (s.2 = 0 ∧ p.2 = 0) && !eqB a.1 ⟨#[]⟩ else !eqB s.1 ⟨#[]⟩ && !eqB p.1 ⟨#[]⟩)
def respB : List Fd → Bool
  | [] => false
  | f :: r => eqB f.1 nStat && (decide (f.2.size = 3) && (decide (200 ≤ numB (nums f.2)) && (decide (numB (nums f.2) ≤ 599) && trailB r)))
theorem headN_le (l : List Fd) : headN l ≤ l.length := by
  induction l with
  | nil => exact Nat.le_refl _
  | cons f r ih =>
    rw [headN]
    cases colB f
    · exact Nat.zero_le _
    · exact Nat.succ_le_succ ih
theorem headN_go : ∀ {l : List Fd} {n : Nat}, n ≤ headN l → (n = headN l ↔ ∀ f, l[n]? = some f → colB f = false)
  | [], n, h => by
    have : n = 0 := Nat.le_zero.1 h
    subst this
    simp [headN]
  | f :: r, 0, _ => by
    rw [headN]
    cases hc : colB f <;> simp [hc]
  | f :: r, n + 1, h => by
    rw [headN] at h ⊢
    cases hc : colB f
    · rw [hc] at h; exact absurd h (Nat.not_succ_le_zero n)
    · rw [hc] at h
      simp only [cond_true, Nat.add_le_add_iff_right] at h
      rw [List.getElem?_cons_succ, ← headN_go h]
      simp
end Go.Proofs.Ytabonhiolcjnnaa
