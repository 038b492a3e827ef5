
/-
  Rows of pairs (gantletref11.Pair).
-/
import Derived.Test.YtmmcpmkkgembbaaProg
import Derived.Test.YtmmcpmkkgembbaaRowKit
import Derived.Test.YtmmcpmkkgembbaaPairKit
namespace Go.Proofs.Ytmmcpmkkgembbaa
set_option maxRecDepth 20000
open Go.RowKit

def prC (p : Pr) : List Value := [.int .i64 p.1, .int .i64 p.2]
theorem prC_len (p : Pr) : (prC p).length = 2 := rfl
theorem prC_one (p : Pr) : ∀ u ∈ prC p, u.oneCell' = true := by
  intro u hu
  simp only [prC, List.mem_cons, List.not_mem_nil, or_false] at hu
  rcases hu with rfl | rfl <;> rfl
theorem prSl : Try.prog.underlying 34 = some (.slice 52) := by kernel_rfl
theorem prSz : (Try.prog.info? 52).map (fun i => (i.zero, i.size, i.bytes)) = some (some (.agg #[.int .i64 0, .int .i64 0]), 2, 16) := by kernel_rfl
theorem SlC.toP {w : World} {v : Value} {ps : List Pr} (h : SlC prC 2 w v ps) : SlP w v ps := by
  obtain ⟨a, cap, e, h1, h2, h3⟩ := h
  refine ⟨a, cap, e, h1, h2, h3.imp_right ?_⟩
  rintro ⟨b, off, e, hb, hc⟩
  exact ⟨b, off, e, hb, fun i p hi => ⟨hc i p hi 0 (by omega), hc i p hi 1 (by omega)⟩⟩
end Go.Proofs.Ytmmcpmkkgembbaa
