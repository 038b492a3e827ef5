
/-
  Layer 11's statement: PayloadPadded, of every frame.
-/
import Derived.Test.YtohghphegcnfkaaLaw11p
namespace Go.Proofs.Ytohghphegcnfkaa
set_option maxRecDepth 20000
open Go.RowKit

theorem padded11_any (v : Value) (f : Fr) (n : Nat) (w : World) (h : FrV w v f) (hn : n < 256) :
    Calls Try.prog 3 #[v, .int .u8 (n : Int)] w fun e w' => e = .returned (.bool true) ∧ Below w.heap.size w w' := by
  by_cases hok : f.pay.length ≤ 500 ∧ (f.kind = 0 ∨ f.kind = 1) ∧ 0 ≤ f.flags ∧ f.flags ≤ 255
  · obtain ⟨kind, flags, stream, pay⟩ := f
    obtain ⟨hl, hk, h0, h1⟩ := hok
    simp only at hl hk h0 h1
    by_cases h8 : flags / 8 % 2 = 1
    · obtain ⟨fl, rfl⟩ : ∃ fl, flags = fl + 8 := ⟨flags - 8, by omega⟩
      rcases hk with rfl | rfl
      · exact padded11_b0 v fl stream pay n w h hn hl (by omega) (by omega) h1 (by omega)
      · exact padded11_b1 v fl stream pay n w h hn hl (by omega) (by omega) h1 (by omega)
    · rcases hk with rfl | rfl
      · exact padded11_a0 v flags stream pay n w h hn hl h0 (by omega) h1 h8
      · exact padded11_a1 v flags stream pay n w h hn hl h0 (by omega) h1 h8
  · exact padded11_no v f n w h hok
theorem padded11_word (v : Value) (f : Fr) (a : Int) (w : World) (h : FrV w v f) (ha : (Lit.int .u8 a).wf = true) :
    Calls Try.prog 3 #[v, .int .u8 a] w fun e w' => e = .returned (.bool true) ∧ Below w.heap.size w w' := by
  have h1 : 0 ≤ a ∧ a ≤ 255 := bounds_u8 ha
  obtain ⟨n, rfl⟩ : ∃ n : Nat, a = n := ⟨a.toNat, by omega⟩
  exact padded11_any v f n w h (by omega)
end Go.Proofs.Ytohghphegcnfkaa
