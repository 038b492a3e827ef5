
/-
  Acts of layer 19: a byte and a frame. No program is named here.
-/
import Derived.Test.YtiappeagdnkedaaFrameList
import Derived.Test.YtiappeagdnkedaaRowKit
namespace Go.Proofs.Ytiappeagdnkedaa
open Go.RowKit

/-- an act: its kind, its frame with the value of its payload -/
structure A19 where
  k : Int
  p : Fr × Value
def a19C (x : A19) : List Value := [.int .u8 x.k, .int .i64 x.p.1.kind, .int .i64 x.p.1.flags, .int .i64 x.p.1.stream, x.p.2]
def SlA19 (w : World) (v : Value) (ys : List A19) : Prop := SlC a19C 5 w v ys ∧ ∀ x ∈ ys, Sl .u8 w x.p.2 x.p.1.pay ∧ 0 ≤ x.k ∧ x.k ≤ 255
theorem SlA19.below {w w' : World} {v : Value} {ys : List A19} (h : SlA19 w v ys) (hb : Below w.heap.size w w') : SlA19 w' v ys := ⟨h.1.below hb, fun x hx => ⟨(h.2 x hx).1.below hb, (h.2 x hx).2⟩⟩
end Go.Proofs.Ytiappeagdnkedaa
