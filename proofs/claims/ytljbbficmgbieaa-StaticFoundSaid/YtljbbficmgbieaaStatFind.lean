
/-
  static.Find.
-/
import Derived.Test.YtljbbficmgbieaaStatGet
import Derived.Test.YtljbbficmgbieaaStatMath
import Derived.Test.YtljbbficmgbieaaFld
import Derived.Deep.LoopGhost
namespace Go.Proofs.Ytljbbficmgbieaa
open Go.RowKit

set_option maxHeartbeats 1000000 in
set_option maxRecDepth 20000 in
theorem find_any (n v : ByteArray) (w : World) :
    Calls Try.prog 8 #[fldV n v] w fun e w' => e = .returned (findT n v) ∧ Below w.heap.size w w' := by
  unfold fldV
  go_enter Try.func8, Try.ntmps8
  go_wp2_with fail
  refine (fields_any _).mono ?_
  rintro e w1 ⟨rfl, hb1⟩
  have hf1 : FldAt w1 w.heap.size n v := (FldAt.new w n v).grown hb1
  have hB1 : Below w.heap.size w w1 := ((Below.refl _ _).alloc (Nat.le_refl _) _).trans (hb1.mono (by simp))
  clear hb1
  have HF := Lib.hid hf1
  have HB := Lib.hid hB1
  clear hf1 hB1
  go_wp2_with fail
  go_loopg [4, 8] 61 (fun g s4 s8 wr => ∃ k : Nat, k + g = 61 ∧ s8 = .int .i64 k ∧ s4 = .int .i64 (nameTo n k) ∧ Hid (bothTo n v k = 0) ∧ Hid (FldAt wr w.heap.size n v ∧ Below w.heap.size w wr))
  case atStart => exact ⟨0, rfl, rfl, rfl, Lib.hid rfl, Lib.hid ⟨HF.out, HB.out⟩⟩
  case round =>
    obtain ⟨k, hkg, rfl, rfl, H0, HW⟩ := hrel
    clear HF HB
    have HKG := Lib.hid hkg
    have hk : k ≤ 61 := by omega
    clear hkg
    have hn := nameTo_le n k
    obtain ⟨m, hm⟩ : ∃ m, nameTo n k = m := ⟨_, rfl⟩
    have HM := Lib.hid hm
    rw [hm] at hn ⊢
    clear hm
    by_cases hlt : k < 61
    · obtain ⟨a, ha⟩ : ∃ a, fNm k = a := ⟨_, rfl⟩
      obtain ⟨b, hb⟩ : ∃ b, fVl k = b := ⟨_, rfl⟩
      have hx : ∀ (q : IntKind) (W : World), (Instr.index 31 (.agg statV) (.int q (k : Int))).run Try.prog W = .ok (.agg #[.string a, .string b]) W := by
        rw [← ha, ← hb]; exact run_static k hlt
      have HA := Lib.hid ha
      have HBV := Lib.hid hb
      clear ha hb
      have c0 := HW.out.1.c0
      have c1 := HW.out.1.c1
      have hsz := HW.out.1.lt
      by_cases hboth : a = n ∧ b = v
      · obtain ⟨rfl, rfl⟩ := hboth
        have heq := fld_eql a b a b
        rw [eqB_iff.2 rfl, eqB_iff.2 rfl] at heq
        have HR := Lib.hid (find_both H0.out hlt HA.out HBV.out)
        go_wp2_with fail
        go_ret2
        exact ⟨by rw [HR.out, Int.add_comm]; rfl, HW.out.2.alloc HW.out.2.size _⟩
      · have heq := fld_eql a b n v
        have hne : (eqB a n && eqB b v) = false := by
          rw [Bool.eq_false_iff]
          intro h
          rw [Bool.and_eq_true, eqB_iff, eqB_iff] at h
          exact hboth h
        rw [hne] at heq
        clear hne
        have H1 := Lib.hid (bothTo_next H0.out (fun h => hboth ⟨HA.out.symm.trans h.1, HBV.out.symm.trans h.2⟩))
        have HW2 : ∀ (n0 v0 : ByteArray), Hid (FldAt (wr.alloc (.cells #[.string n0, .string v0] 23)) w.heap.size n v ∧ Below w.heap.size w (wr.alloc (.cells #[.string n0, .string v0] 23))) := fun n0 v0 =>
          ⟨HW.out.1.grown ((Below.refl _ _).alloc (Nat.le_refl _) _), HW.out.2.alloc HW.out.2.size _⟩
        by_cases hm : m = 0
        · have e1 : ((m : Int) == 0) = true := by rw [hm]; rfl
          by_cases han : a = n
          · have e2 : (a.toList == n.toList) = true := eqB_iff.2 han
            have HN := Lib.hid (show nameTo n (k + 1) = k + 1 by rw [nameTo, if_pos ⟨HM.out.trans hm, HA.out.trans han⟩])
            clear hm han hboth
            go_wp2_with fail
            go_roundg (61 - (k + 1))
            case measure => have := HKG.out; omega
            case rel => exact ⟨k + 1, by omega, by go_num, by rw [HN.out]; go_num, H1, HW2 _ _⟩
          · have e2 : (a.toList == n.toList) = false := by rw [Bool.eq_false_iff]; exact fun h => han (eqB_iff.1 h)
            have HN := Lib.hid (show nameTo n (k + 1) = m by rw [nameTo, if_neg (fun h => han (HA.out.symm.trans h.2)), HM.out])
            clear hm han hboth
            go_wp2_with fail
            go_roundg (61 - (k + 1))
            case measure => have := HKG.out; omega
            case rel => exact ⟨k + 1, by omega, by go_num, by rw [HN.out], H1, HW2 _ _⟩
        · have e1 : ((m : Int) == 0) = false := by rw [beq_eq_false_iff_ne]; omega
          have HN := Lib.hid (show nameTo n (k + 1) = m by rw [nameTo, if_neg (fun h => hm (HM.out.symm.trans h.1)), HM.out])
          clear hm hboth
          go_wp2_with fail
          go_roundg (61 - (k + 1))
          case measure => have := HKG.out; omega
          case rel => exact ⟨k + 1, by omega, by go_num, by rw [HN.out], H1, HW2 _ _⟩
    · obtain rfl : k = 61 := by omega
      have HR := Lib.hid (find_name H0.out)
      rw [HM.out] at HR
      clear hlt hk
      go_wp2_with fail
      go_ret2
      exact ⟨by rw [HR.out]; rfl, HW.out.2⟩
end Go.Proofs.Ytljbbficmgbieaa
