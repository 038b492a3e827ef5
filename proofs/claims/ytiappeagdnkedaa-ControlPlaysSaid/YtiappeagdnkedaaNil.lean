
/-
  Bytes against nil; a row of none that was just made.
-/
import Derived.Test.YtiappeagdnkedaaOwn
import Derived.Test.YtiappeagdnkedaaProg
namespace Go.Proofs.Ytiappeagdnkedaa
open Go.RowKit

theorem fresh_own (w : World) (e : TypeId) : (w.alloc (.cells #[] e)).ownsRow w.heap.size e 1 (.slice (some ⟨w.heap.size, 0, none⟩) 0 0) 0 (([] : List Int).map (Value.int .u8)) :=
  ⟨rfl, .inr ⟨w.heap.size, 0, #[], rfl, Nat.le_refl _, heap_alloc_new w _, Nat.le_refl _, by simp, rfl, rfl⟩⟩
theorem nil_none (W : World) : (binOp .eql 32 (.slice none 0 0) (.slice none 0 0)).run Try.prog W = .ok (.bool true) W := by kernel_rfl
theorem nil_some (ad : Addr) (n c : Nat) (W : World) : (binOp .eql 32 (.slice (some ad) n c) (.slice none 0 0)).run Try.prog W = .ok (.bool false) W := by kernel_rfl
end Go.Proofs.Ytiappeagdnkedaa
