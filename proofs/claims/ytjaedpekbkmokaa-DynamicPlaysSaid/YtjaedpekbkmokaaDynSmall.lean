
/-
  Layer 7: within, New, Size, oldestFirst, strings.Clone; the reference's Begin, Size.
-/
import Derived.Test.YtjaedpekbkmokaaDynTab
import Derived.WalkSmall
import Derived.Lib.UnsafeStr
import Derived.Lib.BufferWrite
import Derived.Laws.MakeOwn
import Derived.Lib.Hide
namespace Go.Proofs.Ytjaedpekbkmokaa
open Go.RowKit

theorem grown_below {A B : World} (h : A.grownBy B none) : Below A.heap.size A B := ⟨h.os, h.tape, h.output, h.size, fun k hk => h.block k hk (fun e => by cases e)⟩
theorem within_any (a b : Int) (w : World) : Calls Try.prog 20 #[.int .i64 a, .int .i64 b] w fun e w' => e = .returned (.bool (decide (0 ≤ a ∧ a ≤ b))) ∧ w' = w := by
  by_cases h : 0 ≤ a
  · have HD := Lib.hid (show decide (0 ≤ a ∧ a ≤ b) = decide (a ≤ b) from decide_eq_decide.2 ⟨fun x => x.2, fun x => ⟨h, x⟩⟩)
    have d := decide_eq_true h
    clear h
    go_enter Try.func20, Try.ntmps20
    go_wp2
    go_ret
    exact ⟨by rw [HD.out]; rfl, rfl⟩
  · have HD := Lib.hid (show decide (0 ≤ a ∧ a ≤ b) = false from decide_eq_false (fun x => h x.1))
    have d := decide_eq_false h
    clear h
    go_enter Try.func20, Try.ntmps20
    go_wp2
    go_ret
    exact ⟨by rw [HD.out]; rfl, rfl⟩
theorem new_any (b : Int) (w : World) (h0 : 0 ≤ b) (h1 : b ≤ 4096) : Calls Try.prog 6 #[.int .i64 b] w fun e w' => e = .returned (.tuple #[.pointer (some ⟨w.heap.size, 0, none⟩), .int .i64 0]) ∧ TabO w' w.heap.size w.heap.size b b (.slice none 0 0) [] ∧ Below w.heap.size w w' := by
  have d : decide (0 ≤ b ∧ b ≤ 4096) = true := decide_eq_true ⟨h0, h1⟩
  clear h0 h1
  go_enter Try.func6, Try.ntmps6
  go_wp2_with fail
  refine (within_any _ _ _).mono ?_
  rintro e w' ⟨rfl, rfl⟩
  rw [d]
  go_wp2_with fail
  go_ret2
  exact ⟨rfl, ⟨Nat.le_refl _, heap_alloc_new _ _, RowF.nil _ _⟩, (Below.refl _ _).alloc (Nat.le_refl _) _⟩
theorem new_no (b : Int) (w : World) (h : ¬ (0 ≤ b ∧ b ≤ 4096)) : Calls Try.prog 6 #[.int .i64 b] w fun e w' => e = .returned (.tuple #[.pointer none, .int .i64 1]) ∧ w' = w := by
  have d : decide (0 ≤ b ∧ b ≤ 4096) = false := decide_eq_false h
  clear h
  go_enter Try.func6, Try.ntmps6
  go_wp2_with fail
  refine (within_any _ _ _).mono ?_
  rintro e w' ⟨rfl, rfl⟩
  rw [d]
  go_wp2_with fail
  go_ret2
  exact ⟨rfl, rfl⟩
theorem begin_any (b : Int) (w : World) : Calls Try.prog 7 #[.int .i64 b] w fun e w' => e = .returned (.pointer (some ⟨w.heap.size, 0, none⟩)) ∧ TabR w' w.heap.size w.heap.size b b (.slice none 0 0) [] ∧ Below w.heap.size w w' := by
  go_enter Try.func7, Try.ntmps7
  go_wp2_with fail
  go_ret
  exact ⟨rfl, ⟨Nat.le_refl _, heap_alloc_new _ _, RowF.nil _ _⟩, (Below.refl _ _).alloc (Nat.le_refl _) _⟩
/-- a field of a size that may be -/
def small (f : Fd) : Prop := f.1.size ≤ 1000000000 ∧ f.2.size ≤ 1000000000
theorem small.sz {f : Fd} (h : small f) : szF f ≤ 2000000032 := by unfold szF; unfold small at h; omega
theorem size_any (f : Fd) (hf : small f) (w : World) : Calls Try.prog 14 #[.agg #[.string f.1, .string f.2]] w fun e w' => e = .returned (.int .i64 (szF f : Nat)) ∧ Below w.heap.size w w' := by
  obtain ⟨n, x⟩ := f
  obtain ⟨h1, h2⟩ := hf
  dsimp only at h1 h2 ⊢
  go_enter Try.func14, Try.ntmps14
  go_wp2_with fail
  go_ret
  exact ⟨by unfold szF; push_cast; go_num, (Below.refl _ _).alloc (Nat.le_refl _) _⟩
theorem refSize_any (f : Fd) (hf : small f) (w : World) : Calls Try.prog 15 #[.agg #[.string f.1, .string f.2]] w fun e w' => e = .returned (.int .i64 (szF f : Nat)) ∧ Below w.heap.size w w' := by
  obtain ⟨n, x⟩ := f
  obtain ⟨h1, h2⟩ := hf
  dsimp only at h1 h2 ⊢
  go_enter Try.func15, Try.ntmps15
  go_wp2_with fail
  go_ret
  exact ⟨by unfold szF; push_cast; go_num, (Below.refl _ _).alloc (Nat.le_refl _) _⟩
theorem oldestFirst_any (T : Nat) (w : World) :
    Calls Try.prog 24 #[.pointer (some ⟨T, 0, none⟩)] w fun e w' => e = .returned (.func (.func 30) #[] #[.pointer (some ⟨w.heap.size, 0, none⟩)]) ∧ w' = w.alloc (.cells #[.pointer (some ⟨T, 0, none⟩)] 25) := by
  go_enter Try.func24, Try.ntmps24
  go_wp2
  go_ret
  exact ⟨rfl, rfl⟩
/-- make, copy, unsafe.String, one behind the other: the same text, in a row of its own -/
theorem str_again {P : Program} (t e pt it st : TypeId) (ht : P.underlying t = some (.slice e)) (hi : (P.info? e).map (fun i => (i.zero, i.size, i.bytes)) = some (some (.int .u8 0), 1, 1)) (hp : P.underlying pt = some (.pointer e)) (hc : P.cellsOf e = 1)
    (s : ByteArray) (h0 : 0 < s.size) (hm : s.size ≤ 1000000000) (w : World) :
    ∃ (mk : World → World) (W2 W3 : World), (∀ (kl kc : IntKind) (W : World), (Instr.makeSlice t (.int kl (s.size : Int)) (.int kc (s.size : Int))).run P W = .ok (.slice (some ⟨W.heap.size, 0, none⟩) s.size s.size) (mk W)) ∧
      (∀ ty, (Builtin.copy_ #[t, st] ty #[.slice (some ⟨w.heap.size, 0, none⟩) s.size s.size, .string s]).run P (mk w) = .ok (goInt s.size) W2) ∧
      (∀ ty, (Builtin.unsafeString_ #[pt, it] ty #[.pointer (some ⟨w.heap.size, 0, none⟩), .int .i64 (s.size : Int)]).run P W2 = .ok (.string s) W3) ∧ Below w.heap.size w W3 := by
  obtain ⟨mk, hmk, hown, hgr⟩ := make_named (P := P) t e (.int .u8 0) 1 1 ht hi (s.size : Int) s.size rfl (by omega) (by unfold maxLen; omega)
  have hone : (P.info? e).map (·.size) = some 1 := by
    cases hq : P.info? e with
    | none => rw [hq] at hi; cases hi
    | some x => rw [hq] at hi; simp at hi; simp [hi]
  have hrow := own_block (hown w)
  have hlen : (madeCells (Value.int .u8 0).cells (s.size * 1)).toList.toArray.size = s.size := by
    have := (hown w).1
    simpa using this
  generalize (madeCells (Value.int .u8 0).cells (s.size * 1)).toList.toArray = cur at hrow hlen
  have hbl : (Lib.byteCells s.data.toList).length = s.size := by rw [Lib.byteCells_length, ← Lib.size_eq]
  have hall : (cur.toList.take 0 ++ Lib.byteCells s.data.toList ++ cur.toList.drop (0 + s.size)).toArray = (Lib.byteCells s.data.toList).toArray := by
    rw [List.take_zero, List.nil_append, Nat.zero_add, List.drop_of_length_le (by rw [Array.length_toList, hlen]; exact Nat.le_refl _), List.append_nil]
  have hcopy := fun ty => Lib.run_copy_row_string (P := P) (mk w) t st ty e w.heap.size 0 s.size s.size s cur e ht hone hrow (Nat.le_refl _) (by omega)
  rw [hall] at hcopy
  have hnew := setRow_heap (mk w) w.heap.size cur (Lib.byteCells s.data.toList).toArray e (0, 0) hrow
  have hne : s.data.toList ≠ [] := fun h => by rw [Lib.size_eq, h] at h0; exact absurd h0 (by decide)
  have htext := fun ty => Lib.run_unsafeString_row (P := P) ((mk w).setRow w.heap.size (Lib.byteCells s.data.toList).toArray) pt it ty e hp hc w.heap.size s.size (by unfold World.shape?; rw [hnew]; simp [hbl]) s.data.toList hne (by rw [← Lib.size_eq]; exact Nat.le_refl _) (by rw [← Lib.size_eq]; omega)
    (fun j x hx => by
      rw [Go.WideShapes.add_plain, Nat.zero_add]
      exact blk_cell hnew (by simp [Lib.byteCells, hx]))
  rw [← Lib.size_eq] at htext
  exact ⟨mk, _, _, hmk, hcopy, htext, Lib.below_freeze (p := ⟨w.heap.size, 0, none⟩) (below_setRow (grown_below (hgr w)) (Nat.le_refl _) _) (Nat.le_refl _) _⟩
theorem sizeU8 : (Try.prog.info? 5).map (fun i => (i.zero, i.size, i.bytes)) = some (some (.int .u8 0), 1, 1) := by kernel_rfl
set_option maxHeartbeats 1000000 in
theorem slClone_any (s : ByteArray) (w : World) (hlim : s.size ≤ 1000000000) :
    Calls Try.prog 31 #[.string s] w fun e w' => e = .returned (.string s) ∧ Below w.heap.size w w' := by
  rcases Nat.eq_zero_or_pos s.size with h0 | h0
  · obtain rfl : s = ⟨#[]⟩ := ByteArray.ext (Array.eq_empty_of_size_eq_zero h0)
    go_enter Try.func31, Try.ntmps31
    go_wp2
    go_ret
    exact ⟨rfl, Below.refl _ _⟩
  · obtain ⟨mk, W2, W3, hmk, hcp, htx, hb⟩ := str_again (P := Try.prog) 62 5 63 3 9 Try.underlying62 sizeU8 Try.underlying63 (by kernel_rfl) s h0 hlim w
    have d0 : ((s.size : Int) == 0) = false := by rw [beq_eq_false_iff_ne]; omega
    have HB := Lib.hid hb
    clear hb
    go_enter Try.func31, Try.ntmps31
    go_wp2
    go_ret
    exact ⟨rfl, HB.out⟩
theorem strClone_any (s : ByteArray) (w : World) (hlim : s.size ≤ 1000000000) :
    Calls Try.prog 25 #[.string s] w fun e w' => e = .returned (.string s) ∧ Below w.heap.size w w' := by
  go_enter Try.func25, Try.ntmps25
  go_wp2_with fail
  refine (slClone_any _ _ hlim).mono ?_
  rintro e w' ⟨rfl, hb⟩
  have HB := Lib.hid hb
  clear hb
  go_wp2_with fail
  go_ret
  exact ⟨rfl, HB.out⟩
end Go.Proofs.Ytjaedpekbkmokaa
