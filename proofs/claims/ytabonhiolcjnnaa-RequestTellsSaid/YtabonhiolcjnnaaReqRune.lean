
/-
  Layer 10, the program's own: texts gone through as runes; strings.ContainsRune.
-/
import Derived.Test.YtabonhiolcjnnaaReqText
import Derived.Test.YtabonhiolcjnnaaBits
import Derived.Laws.RangeString
import Derived.Laws.RangeAny
import Derived.Lib.Strings
import Derived.Lib.Walk
import Derived.Lib.Bytealg
import Derived.BigQuiet
namespace Go.Proofs.Ytabonhiolcjnnaa
set_option maxRecDepth 20000
open Go.RowKit

theorem get_num {s : ByteArray} {k : Nat} (h : k < s.size) : at0 (nums s) k = ((s.get! k).toNat : Int) := by
  simp only [at0, nums, List.getD_eq_getElem?_getD, List.getElem?_map, Array.getElem?_toList]
  rw [Array.getElem?_eq_getElem (show k < s.data.size from h)]
  simp [ByteArray.get!, getElem!_pos, h]
theorem get_num' {s : ByteArray} {k : Nat} (h : k < s.size) : at0 (nums s) k = ((s[k]'h).toNat : Int) := by
  rw [get_num h]
  congr 2
  simp [ByteArray.get!, getElem!_pos, h]
  rfl
/-- the bytes of a rune of several bytes -/
theorem decode_part (s : ByteArray) (pos : Nat) (h : pos < s.size) (ha : 128 ≤ (s[pos]'h).toNat) :
    pos + (Utf8.decode s pos).2 ≤ s.size ∧ ∀ i, i < (Utf8.decode s pos).2 → 128 ≤ at0 (nums s) (pos + i) := by
  have hn : ¬ (s[pos]'h).toNat < 128 := by omega
  have h0 : 128 ≤ at0 (nums s) (pos + 0) := by rw [Nat.add_zero, get_num' h]; omega
  have hc : ∀ k, pos + k < s.size → (s.get! (pos + k)).toNat / 64 = 2 → 128 ≤ at0 (nums s) (pos + k) := fun k hk h2 => by
    rw [get_num hk]; omega
  simp only [Utf8.decode, get_at s pos h, hn, if_false]
  repeat' split
  all_goals simp_all
  all_goals first | omega | (refine ⟨by omega, fun i hi => ?_⟩)
  all_goals
    rcases i with _ | _ | _ | _ | i
    all_goals first | exact h0 | omega | exact hc 1 (by omega) (by omega) | exact hc 2 (by omega) (by omega) | exact hc 3 (by omega) (by omega)
/-- one rune more -/
theorem rune_step (s : ByteArray) (pos : Nat) (h : pos < s.size) :
    ∃ (r : Int) (n : Nat), 1 ≤ n ∧ pos + n ≤ s.size ∧ 0 ≤ r ∧ r ≤ 2147483647 ∧
      ((r < 128 ∧ n = 1 ∧ at0 (nums s) pos = r) ∨ (128 ≤ r ∧ ∀ i, i < n → 128 ≤ at0 (nums s) (pos + i))) ∧
      ∀ (P : Program) (w : World) (ty : TypeId), (Instr.next (.pointer (some ⟨w.heap.size, 0, none⟩)) true ty).run P (w.iter s pos) = .ok (.tuple #[.bool true, .int .i64 pos, .int .i32 r]) (w.iter s (pos + n)) := by
  refine ⟨((Utf8.decode s pos).1 : Int), (Utf8.decode s pos).2, ?_, ?_, by omega, ?_, ?_, fun P w ty => run_next_any w s pos ty h⟩
  · by_cases ha : (s[pos]'h).toNat < 128
    · rw [decode_ascii s pos h ha]; exact Nat.le_refl _
    · exact (decode_high s pos h (by omega)).2
  · by_cases ha : (s[pos]'h).toNat < 128
    · rw [decode_ascii s pos h ha]; exact h
    · exact (decode_part s pos h (by omega)).1
  · have := decode_le s pos; omega
  · by_cases ha : (s[pos]'h).toNat < 128
    · rw [decode_ascii s pos h ha]
      exact .inl ⟨by show ((s[pos]'h).toNat : Int) < 128; omega, rfl, get_num' h⟩
    · refine .inr ⟨by have := (decode_high s pos h (by omega)).1; omega, (decode_part s pos h (by omega)).2⟩
theorem iter_below (w : World) (s : ByteArray) (p : Nat) : Below w.heap.size w (w.iter s p) := (Below.refl _ _).alloc (Nat.le_refl _) _
/-- high bytes -/
theorem high_tok {c : Int} (h : 128 ≤ c) (b : Bool) : tokC b c = false := by
  unfold tokC figB signB
  rw [decide_eq_false (by omega), decide_eq_false (by omega), decide_eq_false (by omega), Bool.eq_false_iff]
  intro x
  simp only [Bool.false_and, Bool.false_or] at x
  have := List.contains_iff_mem.1 x
  simp only [signs10, List.mem_cons, List.not_mem_nil, or_false] at this
  omega
theorem high_fig {c : Int} (h : 128 ≤ c) : figB c = false := by unfold figB; rw [decide_eq_false_iff_not]; omega
theorem high_inn {c : Int} (h : 128 ≤ c) : innC c = true := by
  unfold innC
  rw [show (c == 0) = false from beq_eq_false_iff_ne.2 (by omega), show (c == 10) = false from beq_eq_false_iff_ne.2 (by omega), show (c == 13) = false from beq_eq_false_iff_ne.2 (by omega)]
  rfl
theorem high_edge {c : Int} (h : 128 ≤ c) : edgeC c = true := by
  unfold edgeC
  rw [show (c == 9) = false from beq_eq_false_iff_ne.2 (by omega), show (c == 32) = false from beq_eq_false_iff_ne.2 (by omega)]
  rfl
/-- all bytes are low -/
def Asc (s : ByteArray) : Prop := ∀ k, k < s.size → at0 (nums s) k < 128

theorem idx_none : ∀ (l : List UInt8) (c : UInt8), (∀ b ∈ l, b ≠ c) → Lib.indexByte l c = -1
  | [], _, _ => rfl
  | b :: l, c, h => by
    rw [Lib.indexByte, if_neg (by simpa using h b (List.mem_cons_self ..)), idx_none l c (fun x hx => h x (List.mem_cons_of_mem _ hx))]
    rfl
set_option maxHeartbeats 1000000 in
theorem liteIdx_any (s : ByteArray) (c : Int) (w : World) :
    Calls Try.prog 45 #[.string s, .int .u8 c] w fun e w' => e = .returned (.int .i64 (Lib.indexByte s.data.toList c.toNat.toUInt8)) ∧ w' = w := by
  go_enter Try.func45, Try.ntmps45
  go_wp2
  rw [run_callFunc_extern Try.func46 (by kernel_rfl) (by kernel_rfl) (by kernel_rfl) (e := Extern.BytealgIndexByte.indexByte) (by kernel_rfl), Lib.run_indexByteString]
  simp only [Result.andThen]
  rw [Oper.upon_value]
  go_wp2
  go_ret
  exact ⟨rfl, rfl⟩
theorem idxByte_any (s : ByteArray) (c : Int) (w : World) :
    Calls Try.prog 41 #[.string s, .int .u8 c] w fun e w' => e = .returned (.int .i64 (Lib.indexByte s.data.toList c.toNat.toUInt8)) ∧ w' = w := by
  go_enter Try.func41, Try.ntmps41
  go_wp2_with fail
  refine (liteIdx_any _ _ _).mono ?_
  rintro e w' ⟨rfl, rfl⟩
  go_wp2_with fail
  go_ret
  exact ⟨rfl, rfl⟩
set_option maxHeartbeats 2000000 in
theorem idxRune_low (s : ByteArray) (r : Int) (w : World) (h0 : 0 ≤ r) (h1 : r < 128) :
    Calls Try.prog 40 #[.string s, .int .i32 r] w fun e w' => e = .returned (.int .i64 (Lib.indexByte s.data.toList r.toNat.toUInt8)) ∧ w' = w := by
  go_enter Try.func40, Try.ntmps40
  go_wp2_with fail
  refine (idxByte_any _ _ _).mono ?_
  rintro e w' ⟨rfl, rfl⟩
  go_wp2_with fail
  go_ret
  exact ⟨rfl, rfl⟩
end Go.Proofs.Ytabonhiolcjnnaa
