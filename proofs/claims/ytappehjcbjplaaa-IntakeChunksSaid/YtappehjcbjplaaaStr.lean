
/-
  Strings as lists of numbers: '[]byte(s)', 'string(b)', whether two are one. No function of the program is named here.
-/
import Derived.Test.YtappehjcbjplaaaKit
import Derived.Test.YtappehjcbjplaaaOwn
import Derived.Laws.IdiomStrings
import Derived.Laws.BytesArg
import Derived.Lib.SmallJoins
namespace Go.Proofs.Ytappehjcbjplaaa
open Go.RowKit

/-- a string's bytes, as numbers -/
def nums (s : ByteArray) : List Int := s.data.toList.map fun b => (b.toNat : Int)
theorem nums_length (s : ByteArray) : (nums s).length = s.size := by simp [nums]
theorem nums_fit (s : ByteArray) : Fit .u8 (nums s) := fun n hn => by
  simp only [nums, List.mem_map] at hn
  obtain ⟨b, _, rfl⟩ := hn
  exact WalkArith.wf_u8 (by have := b.toNat_lt; omega)
theorem str_nums (s : ByteArray) : strOfNums (nums s) = s := by
  apply ByteArray.ext
  apply Array.toList_inj.1
  rw [strOfNums_data, nums, List.map_map]
  conv => rhs; rw [← List.map_id s.data.toList]
  apply List.map_congr_left
  intro x _
  simp
theorem nums_str {zs : List Int} (h : Fit .u8 zs) : nums (strOfNums zs) = zs := by
  rw [nums, strOfNums_data, List.map_map]
  conv => rhs; rw [← List.map_id zs]
  apply List.map_congr_left
  intro x hx
  have := bounds_u8 (h x hx)
  simp only [Function.comp, id]
  show ((UInt8.ofNat x.toNat).toNat : Int) = x
  rw [UInt8.toNat_ofNat']
  omega
theorem str_inj {xs ys : List Int} (hx : Fit .u8 xs) (hy : Fit .u8 ys) : strOfNums xs = strOfNums ys ↔ xs = ys :=
  ⟨fun h => by rw [← nums_str hx, ← nums_str hy, h], fun h => by rw [h]⟩

/-- '[]byte(s)' -/
theorem str_bytes {P : Program} (w : World) (src dst e : TypeId) (s : ByteArray) (hs : P.underlying src = some .string) (hd : P.underlying dst = some (.slice e)) (he : P.underlying e = some (.int .u8)) (hm : s.size ≤ maxLen) :
    ∃ v W', (convert src dst (.string s)).run P w = .ok v W' ∧ Sl .u8 W' v (nums s) ∧ Below w.heap.size w W' := by
  refine ⟨_, _, run_bytes_of_string w src dst e s hs hd he, ?_, ((Below.refl _ _).drew).alloc (by simp) _⟩
  have hc := grownCap_le_maxLen w s.size 0 e hm
  have hg : s.size ≤ grownCap w s.size 0 e := grownCap_ge w s.size 0 e
  refine ⟨some ⟨w.heap.size, 0, none⟩, grownCap w s.size 0 e, by rw [nums_length], by rw [nums_length]; exact hg, hc, nums_fit s, .inr ⟨w.heap.size, 0, rfl, by simp, fun i hi => ?_⟩⟩
  rw [nums_length] at hi
  rw [Nat.zero_add, Go.Joins.cell_alloc_mark_at _ _ _ _ _ _ (by simp)]
  simp [bytesRow, nums, at0, Array.getElem?_append, hi]

/-- 'string(b)' -/
theorem Sl.run_str {P : Program} {w : World} {v : Value} {zs : List Int} (h : Sl .u8 w v zs) (src dst e : TypeId) (hs : P.underlying src = some (.slice e)) (he : P.underlying e = some (.int .u8)) (hd : P.underlying dst = some .string) :
    (convert src dst v).run P w = .ok (.string (strOfNums zs)) w := by
  rcases h.parts with ⟨rfl, a, cap, rfl⟩ | ⟨_, b, off, cap, rfl, _, _, _, hc⟩
  · rw [run_convert_bytes_string w src dst e _ 0 cap hs he hd]
    cases a <;> simp [Conv.bytesToString, loadCells]
    all_goals rfl
  · exact run_convert_bytes_arg w src e hs he b off zs.length cap zs rfl (fun i hi => hc i hi) dst hd
end Go.Proofs.Ytappehjcbjplaaa
