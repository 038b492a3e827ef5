
/-
  Layer 14's outlet: slices.Clone.
-/
import Derived.Test.YtfdkbaekohaaoaaOutObj
import Derived.Test.YtfdkbaekohaaoaaRegion
import Derived.Test.YtfdkbaekohaaoaaNil
namespace Go.Proofs.Ytfdkbaekohaaoaa
set_option maxRecDepth 20000
open Go.RowKit

/-- a copy in a block from a number on -/
def Cln (lo : Nat) (zs : List Int) (v : Value) (w : World) : Prop := w.ownsRow lo 5 1 v zs.length (zs.map (Value.int .u8)) ∧ Sl .u8 w v zs
theorem Cln.below {lo : Nat} {zs : List Int} {v : Value} {w w' : World} (h : Cln lo zs v w) (hb : Below w.heap.size w w') : Cln lo zs v w' := ⟨owned_below h.1 hb, h.2.below hb⟩
theorem Cln.mono {lo lo' : Nat} {zs : List Int} {v : Value} {w : World} (h : Cln lo zs v w) (hl : lo' ≤ lo) : Cln lo' zs v w := ⟨owned_mono h.1 hl, h.2⟩
set_option maxHeartbeats 1000000 in
theorem clone14_any (v : Value) (zs : List Int) (w : World) (hv : Sl .u8 w v zs) (hl : zs.length ≤ 1000000000) :
    Calls Try.prog 18 #[v] w fun e w' => ∃ bv, e = .returned bv ∧ Cln w.heap.size zs bv w' ∧ Below w.heap.size w w' := by
  obtain ⟨a, cap, rfl, _⟩ := id hv
  obtain ⟨N, hN⟩ : ∃ N, N = zs.length := ⟨_, rfl⟩
  rw [← hN] at hv ⊢
  cases a with
  | none =>
    obtain ⟨rfl, rfl⟩ := hv.bare
    obtain rfl : zs = [] := List.eq_nil_of_length_eq_zero hN.symm
    clear hv hN hl
    have hq : ∀ W, (binOp .eql 27 (.slice none 0 0) (.slice none 0 0)).run Try.prog W = .ok (.bool true) W := fun W => nil_none W
    go_enter Try.func18, Try.ntmps18
    go_wp2
    go_ret
    exact ⟨_, rfl, ⟨World.ownsRow_nil _ _ _ _, Sl.nil _ _⟩, Below.refl _ _⟩
  | some ad =>
    have hal := (Below.refl w.heap.size w).alloc (Nat.le_refl _) (.cells #[] 5)
    have HS := Lib.hid (hv.below hal)
    have HO := Lib.hid (fresh_own w 5)
    have HB := Lib.hid hal
    have HN := Lib.hid hN
    clear hal hN
    have hq : ∀ W, (binOp .eql 27 (.slice (some ad) N cap) (.slice none 0 0)).run Try.prog W = .ok (.bool false) W := fun W => nil_some ad N cap W
    go_enter Try.func18, Try.ntmps18
    go_wp2_with (at_builtin; refine app_ints rfl (.tmp 5) (.tmp 6) 27 rfl w.heap.size 5 .u8 1 Try.underlying27 Try.info5' _ 0 [] rfl HO.out _ zs rfl HS.out (by simp; omega) (by simp; unfold maxLen; omega) (by simp) ?_; intro v2 w3 hO3 hb3 hg3)
    go_ret
    simp only [List.nil_append, List.length_nil, Nat.zero_add] at hO3
    exact ⟨_, rfl, ⟨hO3, Sl.owned hO3 hv.fit (by unfold maxLen; omega)⟩, HB.out.trans hb3⟩
end Go.Proofs.Ytfdkbaekohaaoaa
