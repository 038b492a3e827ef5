
/-
  Acts of layers 17 and 18: a byte and a number. No program is named here.
-/
import Derived.Test.YtcembofjhajpbaaRowKit
namespace Go.Proofs.Ytcembofjhajpbaa
open Go.RowKit

/-- an act: a byte and a number -/
structure A17 where
  k : Int
  n : Int
def a17C (x : A17) : List Value := [.int .u8 x.k, .int .i64 x.n]
def SlA17 (w : World) (v : Value) (ys : List A17) : Prop := SlC a17C 2 w v ys ∧ ∀ x ∈ ys, 0 ≤ x.k ∧ x.k ≤ 255
theorem SlA17.below {w w' : World} {v : Value} {ys : List A17} (h : SlA17 w v ys) (hb : Below w.heap.size w w') : SlA17 w' v ys := ⟨h.1.below hb, h.2⟩
end Go.Proofs.Ytcembofjhajpbaa
