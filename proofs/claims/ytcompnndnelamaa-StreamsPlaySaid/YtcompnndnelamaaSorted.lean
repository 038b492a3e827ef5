
/-
  slices.Sorted(maps.Keys(m)), m a map of numbers to bools that are true: what it holds, rising.
-/
import Derived.Test.YtcompnndnelamaaStrmMap
import Derived.Test.YtcompnndnelamaaSortLay
import Derived.Test.YtcompnndnelamaaStrmRef
import Derived.Shelf.SlIterI.Nil
import Derived.Shelf.SortM.Plain
import Derived.Shelf.SortM.SortNone
namespace Go.Proofs.Ytcompnndnelamaa
set_option maxRecDepth 20000
open Go.RowKit Go.Maps Go.Sort Go.Shelf

theorem sortsA (m : Nat) : AnyZI.SortsIn Try.prog sortedA_ren Fence.wide m :=
  ⟨fun blk off cap ss W hH hblk hsz => callsIn_wide.2 (AnyM.slices_Sort_int sortA blk off cap ss W hH hblk hsz),
   fun p cap W => callsIn_wide.2 (AnyM.slices_Sort_int_none sortA p cap W)⟩
/-- maps.Keys -/
theorem keys17_any (mb : Option Nat) (W : World) : Calls Try.prog 25 #[.map mb] W fun e w' => e = .returned (.func (.func 31) #[] #[.pointer (some ⟨W.heap.size, 0, none⟩)]) ∧ w' = W.alloc (.cells #[.map mb] 48) :=
  (callsIn_wide (n := 5)).1 (AnyZI.keys_in keysA Fence.wide 5 trivial rfl mb W)
theorem sort_up {l : List Int} (h : l.Pairwise (· < ·)) {ss : List Int} (hp : ss.Perm l) : ss.mergeSort (fun x y => decide (x ≤ y)) = l := by
  have h1 := mergeSort_of_perm_i hp
  rw [h1]
  exact List.mergeSort_of_pairwise (h.imp fun hab => by simp only [decide_eq_true_eq]; omega)
/-- slices.Sorted of that -/
theorem sorted17_any (M : Nat) (A : List Int) (w : World) (hm : MpA Try.prog 3 4 w M A) (hA : A.Pairwise (· < ·)) (hl : A.length ≤ 1000000) (hf : Fit .i64 A) :
    Calls Try.prog 24 #[.func (.func 31) #[] #[.pointer (some ⟨w.heap.size, 0, none⟩)]] (w.alloc (.cells #[.map (some M)] 48)) fun e w' => ∃ v, e = .returned v ∧ Sl .i64 w' v A ∧ Below w.heap.size w w' := by
  have hbl := hm.lt
  have hseq : SeqGives Fence.wide 2 Try.prog 31 #[.pointer (some ⟨w.heap.size, 0, none⟩)] encZ (fun ss => ss.Perm (intKeys (datA A))) (Maps.size (datA A)) (w.alloc (.cells #[.map (some M)] 48)) :=
    AnyZI.keys_gives (ρ := keysA_ren) { keysA with } Fence.wide _ trivial rfl (by omega) w.heap.size M A.length (datA A) _ (by simp) (by simp) (by
      obtain ⟨es, clock, hb, Ft, hs, hD⟩ := hm
      exact ⟨es, clock, (Below.heap_alloc _ _ M hbl).trans hb, Ft, hs, hD⟩)
  have hsz : Maps.size (datA A) ≤ maxLen ∧ Maps.size (datA A) * 8 ≤ 140737488355328 := by rw [datA_size]; unfold maxLen; omega
  have cS := AnyZI.sorted_in sortedA Fence.wide 5 trivial trivial trivial trivial rfl (by omega) (sortsA _) (enters_of Try.func30 (by kernel_rfl) rfl) 31 #[.pointer (some ⟨w.heap.size, 0, none⟩)] trivial (enters_of Try.func31 (by kernel_rfl) rfl) _ _ hsz.1 hsz.2 _ hseq
  change CallsIn _ _ Try.prog 24 _ _ _ at cS
  refine ((callsIn_wide (n := 5)).1 cS).mono ?_
  rintro e w' ⟨v, ss, rfl, hS, hrow, _, hb⟩
  rw [datA_keys] at hS
  rw [sort_up hA hS, hS.length_eq] at hrow
  exact ⟨v, rfl, Sl.owned hrow hf (by unfold maxLen; omega), ((Below.refl _ w).alloc (Nat.le_refl _) _).trans (hb.mono (by simp))⟩
end Go.Proofs.Ytcompnndnelamaa
