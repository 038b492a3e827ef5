
/-
  Layer 13, the program's contracts, as the laws ask for them.
-/
import Derived.Test.YtappehjcbjplaaaInkNext
namespace Go.Proofs.Ytappehjcbjplaaa
set_option maxRecDepth 20000
open Go.RowKit

theorem pNew_yes (most : Int) (w : World) (h0 : 16384 ≤ most) (h1 : most ≤ 16777215) : Calls Try.prog 6 #[.int .i64 most] w fun e w' => ∃ T O, e = .returned (.tuple #[.pointer (some ⟨T, 0, none⟩), .int .i64 0]) ∧ w.heap.size ≤ T ∧ (∀ g, O = some g → w.heap.size ≤ g) ∧ InAt w' T O 0 (Ik.new most) ∧ Below w.heap.size w w' :=
  (new_obj most w h0 h1).mono fun e w' ⟨he, ho, hb⟩ => ⟨_, none, he, Nat.le_refl _, fun g hg => (by cases hg), ⟨_, [], 0, ho, rfl, Nat.le_refl _, Nat.le_refl _, fun _ _ => rfl, rfl⟩, hb⟩
theorem pBegun_any (T N : Nat) (O : Option Nat) (s : Ik) (w : World) (h : InAt w T O N s) : Calls Try.prog 13 #[.pointer (some ⟨T, 0, none⟩)] w fun e w' => e = .returned (.bool s.begun) ∧ Below w.heap.size w w' := by
  obtain ⟨cv, cs, told, ho, _⟩ := h
  exact begun_obj w ho
theorem pLen_any (T N : Nat) (O : Option Nat) (s : Ik) (w : World) (h : InAt w T O N s) : Calls Try.prog 15 #[.pointer (some ⟨T, 0, none⟩)] w fun e w' => e = .returned (.int .i64 (s.got.length : Nat)) ∧ Below w.heap.size w w' := by
  obtain ⟨cv, cs, told, ho, ha, hb, hc, _⟩ := h
  refine (len_obj w ho).mono fun e w' ⟨he, n, hw⟩ => ⟨?_, ?_⟩
  · rw [he, ← ha, List.length_drop]
  · rw [hw]; exact below_drewN (Below.refl _ _) n
end Go.Proofs.Ytappehjcbjplaaa
