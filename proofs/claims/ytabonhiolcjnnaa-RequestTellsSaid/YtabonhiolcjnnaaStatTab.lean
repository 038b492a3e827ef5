
/-
  The static fields, as a list of pairs of texts; no function of the program is named here.
-/
import Derived.WalkKit
import Derived.Laws.StructEq
import Derived.Lib.Hide
namespace Go.Proofs.Ytabonhiolcjnnaa
open Go.RowKit

/-- the fields: names, values -/
def statTab : List (ByteArray × ByteArray) := [
  (⟨#[58, 97, 117, 116, 104, 111, 114, 105, 116, 121]⟩, ⟨#[]⟩),
  (⟨#[58, 109, 101, 116, 104, 111, 100]⟩, ⟨#[71, 69, 84]⟩),
  (⟨#[58, 109, 101, 116, 104, 111, 100]⟩, ⟨#[80, 79, 83, 84]⟩),
  (⟨#[58, 112, 97, 116, 104]⟩, ⟨#[47]⟩),
  (⟨#[58, 112, 97, 116, 104]⟩, ⟨#[47, 105, 110, 100, 101, 120, 46, 104, 116, 109, 108]⟩),
  (⟨#[58, 115, 99, 104, 101, 109, 101]⟩, ⟨#[104, 116, 116, 112]⟩),
  (⟨#[58, 115, 99, 104, 101, 109, 101]⟩, ⟨#[104, 116, 116, 112, 115]⟩),
  (⟨#[58, 115, 116, 97, 116, 117, 115]⟩, ⟨#[50, 48, 48]⟩),
  (⟨#[58, 115, 116, 97, 116, 117, 115]⟩, ⟨#[50, 48, 52]⟩),
  (⟨#[58, 115, 116, 97, 116, 117, 115]⟩, ⟨#[50, 48, 54]⟩),
  (⟨#[58, 115, 116, 97, 116, 117, 115]⟩, ⟨#[51, 48, 52]⟩),
  (⟨#[58, 115, 116, 97, 116, 117, 115]⟩, ⟨#[52, 48, 48]⟩),
  (⟨#[58, 115, 116, 97, 116, 117, 115]⟩, ⟨#[52, 48, 52]⟩),
  (⟨#[58, 115, 116, 97, 116, 117, 115]⟩, ⟨#[53, 48, 48]⟩),
  (⟨#[97, 99, 99, 101, 112, 116, 45, 99, 104, 97, 114, 115, 101, 116]⟩, ⟨#[]⟩),
  (⟨#[97, 99, 99, 101, 112, 116, 45, 101, 110, 99, 111, 100, 105, 110, 103]⟩, ⟨#[103, 122, 105, 112, 44, 32, 100, 101, 102, 108, 97, 116, 101]⟩),
  (⟨#[97, 99, 99, 101, 112, 116, 45, 108, 97, 110, 103, 117, 97, 103, 101]⟩, ⟨#[]⟩),
  (⟨#[97, 99, 99, 101, 112, 116, 45, 114, 97, 110, 103, 101, 115]⟩, ⟨#[]⟩),
  (⟨#[97, 99, 99, 101, 112, 116]⟩, ⟨#[]⟩),
  (⟨#[97, 99, 99, 101, 115, 115, 45, 99, 111, 110, 116, 114, 111, 108, 45, 97, 108, 108, 111, 119, 45, 111, 114, 105, 103, 105, 110]⟩, ⟨#[]⟩),
  (⟨#[97, 103, 101]⟩, ⟨#[]⟩),
  (⟨#[97, 108, 108, 111, 119]⟩, ⟨#[]⟩),
  (⟨#[97, 117, 116, 104, 111, 114, 105, 122, 97, 116, 105, 111, 110]⟩, ⟨#[]⟩),
  (⟨#[99, 97, 99, 104, 101, 45, 99, 111, 110, 116, 114, 111, 108]⟩, ⟨#[]⟩),
  (⟨#[99, 111, 110, 116, 101, 110, 116, 45, 100, 105, 115, 112, 111, 115, 105, 116, 105, 111, 110]⟩, ⟨#[]⟩),
  (⟨#[99, 111, 110, 116, 101, 110, 116, 45, 101, 110, 99, 111, 100, 105, 110, 103]⟩, ⟨#[]⟩),
  (⟨#[99, 111, 110, 116, 101, 110, 116, 45, 108, 97, 110, 103, 117, 97, 103, 101]⟩, ⟨#[]⟩),
  (⟨#[99, 111, 110, 116, 101, 110, 116, 45, 108, 101, 110, 103, 116, 104]⟩, ⟨#[]⟩),
  (⟨#[99, 111, 110, 116, 101, 110, 116, 45, 108, 111, 99, 97, 116, 105, 111, 110]⟩, ⟨#[]⟩),
  (⟨#[99, 111, 110, 116, 101, 110, 116, 45, 114, 97, 110, 103, 101]⟩, ⟨#[]⟩),
  (⟨#[99, 111, 110, 116, 101, 110, 116, 45, 116, 121, 112, 101]⟩, ⟨#[]⟩),
  (⟨#[99, 111, 111, 107, 105, 101]⟩, ⟨#[]⟩),
  (⟨#[100, 97, 116, 101]⟩, ⟨#[]⟩),
  (⟨#[101, 116, 97, 103]⟩, ⟨#[]⟩),
  (⟨#[101, 120, 112, 101, 99, 116]⟩, ⟨#[]⟩),
  (⟨#[101, 120, 112, 105, 114, 101, 115]⟩, ⟨#[]⟩),
  (⟨#[102, 114, 111, 109]⟩, ⟨#[]⟩),
  (⟨#[104, 111, 115, 116]⟩, ⟨#[]⟩),
  (⟨#[105, 102, 45, 109, 97, 116, 99, 104]⟩, ⟨#[]⟩),
  (⟨#[105, 102, 45, 109, 111, 100, 105, 102, 105, 101, 100, 45, 115, 105, 110, 99, 101]⟩, ⟨#[]⟩),
  (⟨#[105, 102, 45, 110, 111, 110, 101, 45, 109, 97, 116, 99, 104]⟩, ⟨#[]⟩),
  (⟨#[105, 102, 45, 114, 97, 110, 103, 101]⟩, ⟨#[]⟩),
  (⟨#[105, 102, 45, 117, 110, 109, 111, 100, 105, 102, 105, 101, 100, 45, 115, 105, 110, 99, 101]⟩, ⟨#[]⟩),
  (⟨#[108, 97, 115, 116, 45, 109, 111, 100, 105, 102, 105, 101, 100]⟩, ⟨#[]⟩),
  (⟨#[108, 105, 110, 107]⟩, ⟨#[]⟩),
  (⟨#[108, 111, 99, 97, 116, 105, 111, 110]⟩, ⟨#[]⟩),
  (⟨#[109, 97, 120, 45, 102, 111, 114, 119, 97, 114, 100, 115]⟩, ⟨#[]⟩),
  (⟨#[112, 114, 111, 120, 121, 45, 97, 117, 116, 104, 101, 110, 116, 105, 99, 97, 116, 101]⟩, ⟨#[]⟩),
  (⟨#[112, 114, 111, 120, 121, 45, 97, 117, 116, 104, 111, 114, 105, 122, 97, 116, 105, 111, 110]⟩, ⟨#[]⟩),
  (⟨#[114, 97, 110, 103, 101]⟩, ⟨#[]⟩),
  (⟨#[114, 101, 102, 101, 114, 101, 114]⟩, ⟨#[]⟩),
  (⟨#[114, 101, 102, 114, 101, 115, 104]⟩, ⟨#[]⟩),
  (⟨#[114, 101, 116, 114, 121, 45, 97, 102, 116, 101, 114]⟩, ⟨#[]⟩),
  (⟨#[115, 101, 114, 118, 101, 114]⟩, ⟨#[]⟩),
  (⟨#[115, 101, 116, 45, 99, 111, 111, 107, 105, 101]⟩, ⟨#[]⟩),
  (⟨#[115, 116, 114, 105, 99, 116, 45, 116, 114, 97, 110, 115, 112, 111, 114, 116, 45, 115, 101, 99, 117, 114, 105, 116, 121]⟩, ⟨#[]⟩),
  (⟨#[116, 114, 97, 110, 115, 102, 101, 114, 45, 101, 110, 99, 111, 100, 105, 110, 103]⟩, ⟨#[]⟩),
  (⟨#[117, 115, 101, 114, 45, 97, 103, 101, 110, 116]⟩, ⟨#[]⟩),
  (⟨#[118, 97, 114, 121]⟩, ⟨#[]⟩),
  (⟨#[118, 105, 97]⟩, ⟨#[]⟩),
  (⟨#[119, 119, 119, 45, 97, 117, 116, 104, 101, 110, 116, 105, 99, 97, 116, 101]⟩, ⟨#[]⟩)]

theorem statTab_len : statTab.length = 61 := by decide +kernel
/-- whether two texts are one, as a walk asks it -/
def eqB (a b : ByteArray) : Bool := a.toList == b.toList
theorem eqB_iff {a b : ByteArray} : eqB a b = true ↔ a = b := by
  rw [eqB, beq_iff_eq, ByteArray.toList_eq, ByteArray.toList_eq]
  exact ⟨fun h => ByteArray.ext (Array.toList_inj.1 h), fun h => by rw [h]⟩
theorem eqB_dec (a b : ByteArray) : eqB a b = decide (a = b) := by
  rw [Bool.eq_iff_iff, eqB_iff, decide_eq_true_iff]
def fNm (i : Nat) : ByteArray := (statTab.getD i (⟨#[]⟩, ⟨#[]⟩)).1
def fVl (i : Nat) : ByteArray := (statTab.getD i (⟨#[]⟩, ⟨#[]⟩)).2
/-- a field, as a value -/
def fldV (n v : ByteArray) : Value := .agg #[.string n, .string v]
/-- all of them, as an array's cells -/
def statV : Array Value := (statTab.flatMap fun p => [Value.string p.1, Value.string p.2]).toArray
theorem statV_size : statV.size = 122 := by decide +kernel
theorem pairs_even {α β : Type} (f g : α → β) : ∀ (l : List α) (i : Nat), (l.flatMap fun p => [f p, g p])[2 * i]? = l[i]?.map f
  | [], i => by simp
  | p :: l, 0 => by simp
  | p :: l, i + 1 => by
    have := pairs_even f g l i
    simp only [List.flatMap_cons, List.cons_append, List.nil_append, List.getElem?_cons_succ, show 2 * (i + 1) = 2 * i + 1 + 1 by omega]
    exact this
theorem pairs_odd {α β : Type} (f g : α → β) : ∀ (l : List α) (i : Nat), (l.flatMap fun p => [f p, g p])[2 * i + 1]? = l[i]?.map g
  | [], i => by simp
  | p :: l, 0 => by simp
  | p :: l, i + 1 => by
    have := pairs_odd f g l i
    simp only [List.flatMap_cons, List.cons_append, List.nil_append, List.getElem?_cons_succ, show 2 * (i + 1) + 1 = 2 * i + 1 + 1 + 1 by omega]
    exact this
theorem statV_nm {i : Nat} (h : i < 61) : statV[2 * i]? = some (.string (fNm i)) := by
  have hl : i < statTab.length := by rw [statTab_len]; exact h
  simp only [statV, List.getElem?_toArray]
  exact (pairs_even (fun (p : ByteArray × ByteArray) => Value.string p.1) (fun p => Value.string p.2) statTab i).trans (by simp [fNm, hl])
theorem statV_vl {i : Nat} (h : i < 61) : statV[2 * i + 1]? = some (.string (fVl i)) := by
  have hl : i < statTab.length := by rw [statTab_len]; exact h
  simp only [statV, List.getElem?_toArray]
  exact (pairs_odd (fun (p : ByteArray × ByteArray) => Value.string p.1) (fun p => Value.string p.2) statTab i).trans (by simp [fVl, hl])
theorem statV_cut {i : Nat} (h : i < 61) : statV.extract (i * 2) (i * 2 + 2) = #[.string (fNm i), .string (fVl i)] := by
  apply Array.ext_getElem?
  intro j
  have hs := statV_size
  rw [Array.getElem?_extract]
  match j with
  | 0 => rw [if_pos (by omega), show i * 2 + 0 = 2 * i by omega, statV_nm h]; rfl
  | 1 => rw [if_pos (by omega), show i * 2 + 1 = 2 * i + 1 by omega, statV_vl h]; rfl
  | j + 2 => rw [if_neg (by omega)]; rfl
/-- one of them, by its index -/
theorem run_statV {P : Program} {t e : TypeId} (ht : P.underlying t = some (.array 61 e)) (ha : ∀ w, (isAgg e).run P w = .ok true w) (he : ∀ w, (sizeOf e).run P w = .ok 2 w) (i : Nat) (hi : i < 61) (k : IntKind) (w : World) :
    (Instr.index t (.agg statV) (.int k i)).run P w = .ok (fldV (fNm i) (fVl i)) w := by
  have h1 : 0 ≤ (i : Int) ∧ (i : Int) < (61 : Nat) := ⟨by omega, by omega⟩
  simp only [Instr.index, asIntOf, Sem.run_bind, Sem.run_pure, Result.andThen_ok, run_underlying ht, h1, and_self, if_true, he, Int.toNat_natCast, part, ha, statV_cut hi, fldV]
end Go.Proofs.Ytabonhiolcjnnaa
