
/-
  Layer 6's reference: Find.
-/
import Derived.Test.YtljbbficmgbieaaStatRef
import Derived.Deep.LoopGhost
import Derived.Deep.QuietTactic
namespace Go.Proofs.Ytljbbficmgbieaa
open Go.RowKit

theorem nameOf_step (n : ByteArray) {j : Nat} (h : j < 61) : nameOf n (61 - j) = if fNm j = n then j + 1 else nameOf n (61 - (j + 1)) := by
  rw [show 61 - j = 60 - j + 1 by omega, nameOf, show 61 - (60 - j + 1) = j by omega, show 61 - (60 - j) = j + 1 by omega, show 61 - (j + 1) = 60 - j by omega]
theorem nameOf_le (n : ByteArray) {q : Nat} (h : q ≤ 61) : nameOf n q ≤ 61 := by
  rcases nameOf_says n q h with ⟨h, _⟩ | ⟨i, _, hi, h, _⟩ <;> omega
set_option maxHeartbeats 1000000 in
set_option maxRecDepth 20000 in
theorem refFind_any (n v : ByteArray) (w : World) :
    Calls Try.prog 9 #[fldV n v] w fun e w' => e = .returned (findT n v) ∧ Below w.heap.size w w' := by
  unfold fldV
  go_enter Try.func9, Try.ntmps9
  go_wp2_with fail
  refine (names_any _).mono ?_
  rintro e w1 ⟨rfl, hn, hb1⟩
  have hf1 : FldAt w1 w.heap.size n v := (FldAt.new w n v).grown hb1
  have hB1 : Below w.heap.size w w1 := ((Below.refl _ _).alloc (Nat.le_refl _) _).trans (hb1.mono (by simp))
  clear hb1
  obtain ⟨g, hgg⟩ : ∃ g, (w.alloc (.cells #[.string n, .string v] 23)).heap.size = g := ⟨_, rfl⟩
  rw [hgg] at hn ⊢
  clear hgg
  have HF := Lib.hid (And.intro hf1 (And.intro hn hB1))
  clear hf1 hB1 hn
  go_wp2_with fail
  go_loopg [5, 6] 61 (fun q s5 s6 wr => ∃ k : Nat, q = k ∧ k ≤ 61 ∧ s6 = .int .i64 k ∧ s5 = .int .i64 (nameOf n (61 - k)) ∧ Hid (FldAt wr w.heap.size n v ∧ NamesAt wr g ∧ Below w.heap.size w wr))
  case atStart => exact ⟨61, rfl, Nat.le_refl _, rfl, rfl, HF⟩
  case round =>
    obtain ⟨k, hq, hk, rfl, rfl, HW⟩ := hrel
    have HQ := Lib.hid hq
    clear HF hq
    by_cases h1 : 1 ≤ k
    · obtain ⟨j, rfl⟩ : ∃ j, k = j + 1 := ⟨k - 1, by omega⟩
      have hj : j < 61 := by omega
      obtain ⟨m, hm⟩ : ∃ m, nameOf n (61 - (j + 1)) = m := ⟨_, rfl⟩
      have hm61 : m ≤ 61 := by rw [← hm]; exact nameOf_le n (by omega)
      have HS := Lib.hid (nameOf_step n hj)
      rw [hm] at HS ⊢
      clear hm
      obtain ⟨a, ha⟩ : ∃ a, fNm j = a := ⟨_, rfl⟩
      have hx := names_index g j hj
      have c0 := HW.out.1.c0
      have ca := HW.out.2.1.at_ hj
      rw [ha] at ca HS
      have hgs : g < wr.heap.size := (Array.getElem?_eq_some_iff.1 HW.out.2.1).1
      clear ha
      have ej : (((j + 1 : Nat) : Int)) = (j : Int) + 1 := by omega
      rw [ej]
      have d1 : decide (1 ≤ (j : Int) + 1) = true := decide_eq_true (by omega)
      have hw : IntKind.i64.wrap (j : Int) = j := wrap_i64_small (by omega) (by omega)
      have HD : ∀ d : Nat, Hid (FldAt (wr.drewN d) w.heap.size n v ∧ NamesAt (wr.drewN d) g ∧ Below w.heap.size w (wr.drewN d)) := fun d => ⟨HW.out.1, HW.out.2.1, below_drewN HW.out.2.2 d⟩
      by_cases han : a = n
      · have e2 : (a.toList == n.toList) = true := eqB_iff.2 han
        rw [if_pos han] at HS
        clear han
        go_wp2_with fail
        go_quiet (fail)
        go_wp2_with fail
        go_roundg j
        case measure => have := HQ.out; omega
        case rel => exact ⟨j, rfl, by omega, rfl, by rw [HS.out]; go_num, HD _⟩
      · have e2 : (a.toList == n.toList) = false := by rw [Bool.eq_false_iff]; exact fun h => han (eqB_iff.1 h)
        rw [if_neg han] at HS
        clear han
        go_wp2_with fail
        go_quiet (fail)
        go_wp2_with fail
        go_roundg j
        case measure => have := HQ.out; omega
        case rel => exact ⟨j, rfl, by omega, rfl, by rw [HS.out], HD _⟩
    · obtain rfl : k = 0 := by omega
      have HM := Lib.hid (nameOf_all n)
      rw [Nat.sub_zero]
      rw [HM.out]
      obtain ⟨m, hm⟩ : ∃ m, nameTo n 61 = m := ⟨_, rfl⟩
      have HM2 := Lib.hid hm
      rw [hm]
      clear hm hk
      have d1 : decide ((1 : Int) ≤ (0 : Nat)) = false := rfl
      go_wp2_with fail
      go_loopg [7] 61 (fun q s7 wx => ∃ k : Nat, k + q = 61 ∧ s7 = .int .i64 ((k : Int) + 1) ∧ Hid (bothTo n v k = 0) ∧ Hid (FldAt wx w.heap.size n v ∧ NamesAt wx g ∧ Below w.heap.size w wx))
      case atStart => exact ⟨0, rfl, rfl, Lib.hid rfl, HW⟩
      case round =>
        obtain ⟨k, hkq, rfl, H0, HX⟩ := hrel
        have HKQ := Lib.hid hkq
        have hk : k ≤ 61 := by omega
        clear hkq HW
        by_cases hlt : k < 61
        · have HV := Lib.hid (show getV ((k : Int) + 1) = fVl k by rw [getV, if_pos (by omega), show ((k : Int) + 1 - 1).toNat = k by omega])
          obtain ⟨a, ha⟩ : ∃ a, fNm k = a := ⟨_, rfl⟩
          obtain ⟨b, hb⟩ : ∃ b, fVl k = b := ⟨_, rfl⟩
          have hx := names_index g k hlt
          have c0 := HX.out.1.c0
          have c1 := HX.out.1.c1
          have ca := HX.out.2.1.at_ hlt
          rw [ha] at ca
          rw [hb] at HV
          have HA := Lib.hid ha
          have HB := Lib.hid hb
          clear ha hb
          have hw : IntKind.i64.wrap (k : Int) = k := wrap_i64_small (by omega) (by omega)
          have d2 : decide ((k : Int) + 1 ≤ 61) = true := decide_eq_true (by omega)
          have HD : ∀ d : Nat, Hid (FldAt (wr.drewN d) w.heap.size n v ∧ NamesAt (wr.drewN d) g ∧ Below w.heap.size w (wr.drewN d)) := fun d => ⟨HX.out.1, HX.out.2.1, below_drewN HX.out.2.2 d⟩
          by_cases han : a = n
          · have e2 : (a.toList == n.toList) = true := eqB_iff.2 han
            by_cases hbv : b = v
            · have e3 : (b.toList == v.toList) = true := eqB_iff.2 hbv
              have HR := Lib.hid (find_both H0.out hlt (HA.out.trans han) (HB.out.trans hbv))
              clear han hbv
              go_wp2_with fail
              refine (value_any _ _).mono ?_
              rintro e w' ⟨rfl, rfl⟩
              rw [HV.out]
              go_wp2_with fail
              go_quiet (fail)
              go_wp2_with fail
              go_ret2
              exact ⟨by rw [HR.out]; rfl, (HD _).out.2.2⟩
            · have e3 : (b.toList == v.toList) = false := by rw [Bool.eq_false_iff]; exact fun h => hbv (eqB_iff.1 h)
              have H1 := Lib.hid (bothTo_next H0.out (fun h => hbv (HB.out.symm.trans h.2)))
              clear han hbv
              go_wp2_with fail
              refine (value_any _ _).mono ?_
              rintro e w' ⟨rfl, rfl⟩
              rw [HV.out]
              go_wp2_with fail
              go_quiet (fail)
              go_wp2_with fail
              go_roundg (61 - (k + 1))
              case measure => have := HKQ.out; omega
              case rel => exact ⟨k + 1, by omega, by go_num, H1, HD _⟩
          · have e2 : (a.toList == n.toList) = false := by rw [Bool.eq_false_iff]; exact fun h => han (eqB_iff.1 h)
            have H1 := Lib.hid (bothTo_next H0.out (fun h => han (HA.out.symm.trans h.1)))
            clear han
            go_wp2_with fail
            refine (value_any _ _).mono ?_
            rintro e w' ⟨rfl, rfl⟩
            rw [HV.out]
            go_wp2_with fail
            go_quiet (fail)
            go_wp2_with fail
            go_roundg (61 - (k + 1))
            case measure => have := HKQ.out; omega
            case rel => exact ⟨k + 1, by omega, by go_num, H1, HD _⟩
        · obtain rfl : k = 61 := by omega
          have HR := Lib.hid (find_name H0.out)
          rw [HM2.out] at HR
          clear hlt hk
          have d2 : decide (((61 : Nat) : Int) + 1 ≤ 61) = false := rfl
          go_wp2_with fail
          go_ret2
          exact ⟨by rw [HR.out]; rfl, HX.out.2.2⟩
end Go.Proofs.Ytljbbficmgbieaa
