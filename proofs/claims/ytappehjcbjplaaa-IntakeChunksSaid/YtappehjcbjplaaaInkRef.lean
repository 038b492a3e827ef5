
/-
  Layer 13's reference: its blocks; wrong, rest.
-/
import Derived.Test.YtappehjcbjplaaaInkMath
import Derived.Test.YtappehjcbjplaaaRef02Next
import Derived.Test.YtappehjcbjplaaaFrameList
import Derived.Test.YtappehjcbjplaaaSame
import Derived.Test.YtappehjcbjplaaaRow0
import Derived.Deep.LoopGhost
import Derived.BigQuiet
import Derived.Lib.SmallJoins
import Derived.Deep.QuietTactic
namespace Go.Proofs.Ytappehjcbjplaaa
set_option maxRecDepth 20000
open Go.RowKit

/-- the reference's block -/
def RkBlk (W : World) (R : Nat) (most : Int) (bv : Value) (told : Nat) (over : Int) : Prop :=
  W.heap[R]? = some (.cells #[.int .i64 most, bv, .int .i64 told, .int .i64 over] 54 (0, 0))
theorem RkBlk.lt {W : World} {R : Nat} {most : Int} {bv : Value} {told : Nat} {over : Int} (h : RkBlk W R most bv told over) : R < W.heap.size := (Array.getElem?_eq_some_iff.1 h).1
theorem RkBlk.below {W W' : World} {R : Nat} {most : Int} {bv : Value} {told : Nat} {over : Int} (h : RkBlk W R most bv told over) (hb : Below W.heap.size W W') : RkBlk W' R most bv told over := (hb.block R h.lt).trans h
theorem RkBlk.cells {W : World} {R : Nat} {most : Int} {bv : Value} {told : Nat} {over : Int} (h : RkBlk W R most bv told over) :
    W.cell? ⟨R, 0, none⟩ = some (.int .i64 most) ∧ W.cell? ⟨R, 1, none⟩ = some bv ∧ W.cell? ⟨R, 2, none⟩ = some (.int .i64 told) ∧ W.cell? ⟨R, 3, none⟩ = some (.int .i64 over) ∧ R < W.heap.size :=
  ⟨blk_cell h rfl, blk_cell h rfl, blk_cell h rfl, blk_cell h rfl, h.lt⟩

theorem Sl.cell_at {k : IntKind} {w : World} {a : Option Addr} {n cap : Nat} {zs : List Int} (h : Sl k w (.slice a n cap) zs) (i : Nat) (hi : i < zs.length) :
    ∃ b off, a = some ⟨b, off, none⟩ ∧ b < w.heap.size ∧ w.cell? ⟨b, off + i, none⟩ = some (.int k (at0 zs i)) := by
  obtain ⟨a', cap', e, _, _, _, h3⟩ := h
  simp only [Value.slice.injEq] at e
  obtain ⟨rfl, rfl, rfl⟩ := e
  rcases h3 with ⟨h3, _⟩ | ⟨b, off, rfl, hb, hc⟩
  · omega
  · exact ⟨b, off, rfl, hb, hc i hi⟩
theorem refPreface_any (w : World) : Calls Try.prog 29 #[] w fun e w' => ∃ v, e = .returned v ∧ Sl .u8 w' v preL ∧ Below w.heap.size w w' := by
  have hcv := Go.Joins.run_convert_bytes_const_at (P := Try.prog) w 30 5 (preL.map (Value.int .u8)).toArray 24 24 w.heap.size rfl Try.underlying30 Try.underlying5
  simp only [preL, List.map_cons, List.map_nil] at hcv
  go_enter Try.func29, Try.ntmps29
  go_wp2_with fail
  go_ret
  refine ⟨_, rfl, ⟨some ⟨w.heap.size, 0, none⟩, 24, rfl, by decide, by unfold maxLen; decide, preL_fit, .inr ⟨w.heap.size, 0, rfl, by simp, fun i hi => ?_⟩⟩, (Below.refl _ _).alloc (Nat.le_refl _) _⟩
  rw [Nat.zero_add, Go.Joins.cell_alloc_mark_at _ _ _ _ _ _ rfl]
  have hi' : i < 24 := hi
  rw [show (#[Value.int .u8 80, .int .u8 82, .int .u8 73, .int .u8 32, .int .u8 42, .int .u8 32, .int .u8 72, .int .u8 84, .int .u8 84, .int .u8 80, .int .u8 47, .int .u8 50, .int .u8 46, .int .u8 48, .int .u8 13, .int .u8 10, .int .u8 13, .int .u8 10, .int .u8 83, .int .u8 77, .int .u8 13, .int .u8 10, .int .u8 13, .int .u8 10] : Array Value) = (preL.map (Value.int .u8)).toArray from rfl]
  simp [at0, hi]

set_option maxHeartbeats 2000000 in
theorem refWrong_any (R : Nat) (most : Int) (bv : Value) (told : Nat) (over : Int) (bs : List Int) (w : World) (hB : RkBlk w R most bv told over) (hv : Sl .u8 w bv bs) :
    Calls Try.prog 23 #[.pointer (some ⟨R, 0, none⟩)] w fun e w' => e = .returned (.bool (wrongL bs)) ∧ Below w.heap.size w w' := by
  obtain ⟨a, c, rfl, hc1, hc2, _⟩ := id hv
  unfold maxLen at hc2
  obtain ⟨L, hL⟩ : ∃ L, bs.length = L := ⟨_, rfl⟩
  rw [hL] at hv hc1 hB
  have HL := Lib.hid hL
  have HV := Lib.hid hv
  have HBk := Lib.hid hB
  clear hL hv hB
  go_enter Try.func23, Try.ntmps23
  go_wp2_with fail
  refine (refPreface_any w).mono ?_
  rintro e w1 ⟨pv, rfl, hp, hb1⟩
  have HW1 := Lib.hid (show Below w.heap.size w w1 ∧ Sl .u8 w1 pv preL ∧ RkBlk w1 R most (.slice a L c) told over ∧ Sl .u8 w1 (.slice a L c) bs from ⟨hb1, hp, HBk.out.below hb1, HV.out.below hb1⟩)
  obtain ⟨ap, cp, rfl, _⟩ := id hp
  simp only [preL_length] at HW1 ⊢
  clear hp hb1
  go_wp2_with fail
  go_loopg [4] 24 (fun q s4 wr => ∃ k : Nat, k + q = 24 ∧ s4 = .int .i64 k ∧ k ≤ L ∧ Hid (bs.take k = preL.take k) ∧ ∃ n, wr = w1.drewN n)
  case atStart => exact ⟨0, by omega, rfl, by omega, Lib.hid rfl, 0, rfl⟩
  case round =>
    obtain ⟨k, hkq, rfl, hkL, HY, n, hwr⟩ := hrel
    have HWr := Lib.hid (show Below w.heap.size w wr ∧ Sl .u8 wr (.slice ap 24 cp) preL ∧ RkBlk wr R most (.slice a L c) told over ∧ Sl .u8 wr (.slice a L c) bs ∧ wr = w1.drewN n from by
      subst hwr
      exact ⟨below_drewN HW1.out.1 n, HW1.out.2.1, HW1.out.2.2.1, HW1.out.2.2.2, rfl⟩)
    clear hwr
    have HKQ := Lib.hid hkq
    have hk : k ≤ 24 := by omega
    clear hkq
    obtain ⟨f0, f1, f2, f3, f4⟩ := RkBlk.cells HWr.out.2.2.1
    by_cases h24 : k < 24
    · by_cases hlt : k < L
      · obtain ⟨b, off, rfl, hbl, hc⟩ := Sl.cell_at HWr.out.2.2.2.1 k (by rw [HL.out]; exact hlt)
        obtain ⟨b2, off2, rfl, hbl2, hc2⟩ := Sl.cell_at HWr.out.2.1 k (by rw [preL_length]; exact h24)
        by_cases hz : at0 bs k = at0 preL k
        · have hb : (at0 preL k != at0 bs k) = false := by simp [hz]
          have HZ := Lib.hid hz
          clear hz
          go_wp2_with fail
          go_quiet (fail)
          go_wp2_with fail
          go_roundg (24 - (k + 1))
          case measure => have := HKQ.out; omega
          case rel => exact ⟨k + 1, by omega, by go_num, by omega, Lib.hid (by rw [take_at0 bs k (by rw [HL.out]; exact hlt), take_at0 preL k (by rw [preL_length]; exact h24), HY.out, HZ.out]), _, by rw [HWr.out.2.2.2.2, World.drewN_drewN]⟩
        · have hb : (at0 preL k != at0 bs k) = true := by simp; exact fun e => hz e.symm
          have HE := Lib.hid (wrongL_yes h24 (by rw [HL.out]; exact hlt) hz)
          clear hz
          go_wp2_with fail
          go_quiet (fail)
          go_wp2_with fail
          go_ret
          exact ⟨by rw [HE.out]; rfl, below_drewN HWr.out.1 _⟩
      · obtain rfl : k = L := by omega
        have HE := Lib.hid (wrongL_no (k := k) (by rw [HL.out]; omega) HY.out)
        clear hlt
        go_wp2_with fail
        go_ret
        exact ⟨by rw [HE.out]; rfl, HWr.out.1⟩
    · obtain rfl : k = 24 := by omega
      have HE := Lib.hid (wrongL_no (k := 24) (by rw [HL.out]; omega) HY.out)
      clear h24
      go_wp2_with fail
      go_ret
      exact ⟨by rw [HE.out]; rfl, HWr.out.1⟩
end Go.Proofs.Ytappehjcbjplaaa
