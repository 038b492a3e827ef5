/-
  bytes.Equal.
-/
import Derived.Test.YtpnpbdekeockcaaProg
import Derived.Test.YtpnpbdekeockcaaBytes
namespace Go.Proofs.Ytpnpbdekeockcaa
open Go.RowKit

theorem bytesEqual_any (u v : Value) (xs ys : List Int) (w : World) (hu : Sl .u8 w u xs) (hv : Sl .u8 w v ys) :
    Calls Try.prog 21 #[u, v] w fun e w' => e = .returned (.bool (decide (xs = ys))) ∧ w = w' := by
  have c1 := hu.convert (P := Try.prog) 23 5 9 Try.underlying23 Try.underlying5 Try.underlying9
  have c2 := hv.convert (P := Try.prog) 23 5 9 Try.underlying23 Try.underlying5 Try.underlying9
  have HB := Lib.hid (strOfNums_beq hu.fit hv.fit)
  clear hu hv
  go_enter Try.func21, Try.ntmps21
  go_wp2
  go_ret
  exact ⟨by rw [← HB.out]; rfl, rfl⟩

end Go.Proofs.Ytpnpbdekeockcaa
