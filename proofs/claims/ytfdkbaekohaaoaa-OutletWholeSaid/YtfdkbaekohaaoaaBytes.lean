
/-
  What a slice of bytes is as a string, and the library's comparison of two.
-/
import Derived.Test.YtfdkbaekohaaoaaKit
import Derived.Laws.BytesArg
import Derived.Lib.Bytes
namespace Go.Proofs.Ytfdkbaekohaaoaa
open Go.RowKit

theorem byte_back {x : Int} (h : 0 ≤ x ∧ x ≤ 255) : ((UInt8.ofNat x.toNat).toNat : Int) = x := by
  obtain ⟨n, rfl⟩ := Int.eq_ofNat_of_zero_le h.1
  have : n < 256 := by omega
  simp [UInt8.toNat_ofNat', Nat.mod_eq_of_lt this]
theorem strOfNums_inj {xs ys : List Int} (hx : Fit .u8 xs) (hy : Fit .u8 ys) (h : strOfNums xs = strOfNums ys) : xs = ys := by
  have h1 := congrArg (fun s : ByteArray => s.data.toList.map fun b => ((b.toNat : Nat) : Int)) h
  simp only [strOfNums_data, List.map_map] at h1
  have key : ∀ zs : List Int, Fit .u8 zs → zs.map ((fun b : UInt8 => ((b.toNat : Nat) : Int)) ∘ fun n => UInt8.ofNat n.toNat) = zs := fun zs hz => by
    conv => rhs; rw [← List.map_id zs]
    exact List.map_congr_left fun x hx' => byte_back (bounds_u8 (hz x hx'))
  rwa [key xs hx, key ys hy] at h1
theorem strOfNums_beq {xs ys : List Int} (hx : Fit .u8 xs) (hy : Fit .u8 ys) : ((strOfNums xs).toList == (strOfNums ys).toList) = decide (xs = ys) := by
  by_cases h : xs = ys
  · subst h; simp
  · rw [decide_eq_false h]
    refine beq_eq_false_iff_ne.2 fun e => h (strOfNums_inj hx hy ?_)
    rw [Lib.strOfNums_toList, Lib.strOfNums_toList] at e
    unfold Lib.bytesOf at e
    unfold strOfNums
    rw [e]
theorem Sl.convert {P : Program} {w : World} {v : Value} {xs : List Int} (h : Sl .u8 w v xs) (src e dst : TypeId) (hs : P.underlying src = some (.slice e)) (he : P.underlying e = some (.int .u8)) (hd : P.underlying dst = some .string) :
    (convert src dst v).run P w = .ok (.string (strOfNums xs)) w := by
  rcases h.parts with ⟨rfl, a, cap, rfl⟩ | ⟨hp, b, off, cap, rfl, _, _, _, hc⟩
  · rw [run_convert_bytes_string w src dst e _ 0 cap hs he hd]
    cases a <;> simp [Conv.bytesToString, loadCells]
    all_goals rfl
  · exact run_convert_bytes_arg (P := P) w src e hs he b off xs.length cap xs rfl hc dst hd

end Go.Proofs.Ytfdkbaekohaaoaa
