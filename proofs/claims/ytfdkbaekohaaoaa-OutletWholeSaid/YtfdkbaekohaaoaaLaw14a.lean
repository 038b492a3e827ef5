
/-
  Layer 14's laws: acts, and whether they are such as are gone through.
-/
import Derived.Test.YtfdkbaekohaaoaaOutRef
import Derived.Test.YtfdkbaekohaaoaaRowKit
import Derived.Deep.LoopGhost
import Derived.WalkMore
namespace Go.Proofs.Ytfdkbaekohaaoaa
set_option maxRecDepth 20000
open Go.RowKit

/-- an act: its kind, its number, its frames, the value that has them -/
structure A14 where
  k : Int
  n : Int
  l : List (Fr × Value)
  lv : Value
def a14C (x : A14) : List Value := [.int .u8 x.k, .int .i64 x.n, x.lv]
theorem a14C_len (x : A14) : (a14C x).length = 3 := rfl
/-- the value 'v' is a slice that reads as these acts -/
def SlA14 (w : World) (v : Value) (ys : List A14) : Prop := SlC a14C 3 w v ys ∧ ∀ x ∈ ys, SlF w x.lv x.l ∧ 0 ≤ x.k ∧ x.k ≤ 255
theorem SlA14.below {w w' : World} {v : Value} {ys : List A14} (h : SlA14 w v ys) (hb : Below w.heap.size w w') : SlA14 w' v ys := ⟨h.1.below hb, fun x hx => ⟨(h.2 x hx).1.below hb, (h.2 x hx).2⟩⟩
def okA (x : A14) : Bool := decide (x.l.length ≤ 30) && x.l.all (fun p => decide (p.1.pay.length ≤ 500))
def fits14 (ys : List A14) : Bool := decide (ys.length ≤ 30) && ys.all okA
theorem all_upto {α : Type} {f : α → Bool} {l : List α} {k : Nat} {x : α} (h : (l.take k).all f = true) (hx : l[k]? = some x) (hf : f x = true) : (l.take (k + 1)).all f = true := by
  rw [List.take_add_one, List.all_append, h, hx]
  simp [hf]
theorem all_not {α : Type} {f : α → Bool} {l : List α} {k : Nat} {x : α} (hx : l[k]? = some x) (hf : f x = false) : l.all f = false := by
  rw [List.all_eq_false]
  exact ⟨x, List.mem_of_getElem? hx, by simp [hf]⟩
set_option maxHeartbeats 2000000 in
theorem fits14_any (v : Value) (ys : List A14) (w : World) (h : SlA14 w v ys) :
    Calls Try.prog 5 #[v] w fun e w' => e = .returned (.bool (fits14 ys)) ∧ w' = w := by
  obtain ⟨a, c, rfl, hc1, hc2⟩ := h.1.shape
  unfold maxLen at hc2
  obtain ⟨N, hN⟩ : ∃ N, ys.length = N := ⟨_, rfl⟩
  rw [hN] at h hc1 ⊢
  have HN := Lib.hid hN
  have HS := Lib.hid h
  clear hN h
  by_cases h30 : 30 < N
  · have d0 : decide ((30 : Int) < (N : Int)) = true := decide_eq_true (by omega)
    have HE := Lib.hid (show fits14 ys = false by unfold fits14; rw [decide_eq_false (by rw [HN.out]; omega)]; rfl)
    clear h30
    go_enter Try.func5, Try.ntmps5
    go_wp2_with fail
    go_ret
    exact ⟨by rw [HE.out]; rfl, rfl⟩
  have d0 : decide ((30 : Int) < (N : Int)) = false := decide_eq_false (by omega)
  have HH := Lib.hid h30
  clear h30
  go_enter Try.func5, Try.ntmps5
  go_wp2_with fail
  go_loopg [3, 4] N (fun q s3 s4 wr => ∃ k : Nat, k + q = N ∧ s3 = .int .i64 k ∧ Hid (wr = w ∧ (ys.take k).all okA = true))
  case atStart => exact ⟨0, by omega, rfl, Lib.hid ⟨rfl, by simp⟩⟩
  case round =>
    obtain ⟨k, hkq, rfl, HP⟩ := hrel
    have HKQ := Lib.hid hkq
    have hk : k ≤ N := by omega
    clear hkq
    obtain rfl := HP.out.1
    have HA := Lib.hid HP.out.2
    clear HP
    by_cases hlt : k < N
    · obtain ⟨x, hx⟩ : ∃ x, ys[k]? = some x := ⟨ys[k]'(by rw [HN.out]; exact hlt), List.getElem?_eq_getElem (by rw [HN.out]; exact hlt)⟩
      have hmem := List.mem_of_getElem? hx
      have HX := Lib.hid hx
      obtain ⟨hsf, hk0, hk1⟩ := HS.out.2 x hmem
      obtain ⟨b, off, rfl, hbl, hcell⟩ := HS.out.1.at_ (i := k) (by rw [HN.out]; exact hlt)
      have c2 := hcell x hx 2 (by omega)
      simp only [a14C, List.getElem?_cons_succ, List.getElem?_cons_zero] at c2
      obtain ⟨hfp, al, cl, hlv, hl1, hl2, hl3⟩ := id hsf
      obtain ⟨M, hM⟩ : ∃ M, x.l.length = M := ⟨_, rfl⟩
      rw [hlv] at c2
      rw [hM] at c2 hl1 hl3
      have HM := Lib.hid hM
      have HF := Lib.hid (And.intro hfp hl3)
      unfold maxLen at hl2
      clear hcell hmem hx hsf hk0 hk1 hfp hlv hl3 hM
      by_cases hm : 30 < M
      · have d1 : decide ((30 : Int) < (M : Int)) = true := decide_eq_true (by omega)
        have HE := Lib.hid (show fits14 ys = false by
          unfold fits14
          rw [all_not HX.out (by unfold okA; rw [decide_eq_false (by rw [HM.out]; omega)]; rfl), Bool.and_false])
        clear hm
        go_wp2_with fail
        go_ret
        exact ⟨by rw [HE.out]; rfl, rfl⟩
      have d1 : decide ((30 : Int) < (M : Int)) = false := decide_eq_false (by omega)
      have HM30 := Lib.hid hm
      clear hm
      go_wp2_with fail
      go_loopg [4] M (fun q s4 wx => ∃ j : Nat, j + q = M ∧ s4 = .int .i64 j ∧ Hid (wx = wr ∧ (x.l.take j).all (fun p => decide (p.1.pay.length ≤ 500)) = true))
      case atStart => exact ⟨0, by omega, rfl, Lib.hid ⟨rfl, by simp⟩⟩
      case round =>
        obtain ⟨j, hjq, rfl, HP⟩ := hrel
        have HJQ := Lib.hid hjq
        have hj : j ≤ M := by omega
        clear hjq
        obtain rfl := HP.out.1
        have HB := Lib.hid HP.out.2
        clear HP
        by_cases hjt : j < M
        · obtain ⟨p, hp⟩ : ∃ p, x.l[j]? = some p := ⟨x.l[j]'(by rw [HM.out]; exact hjt), List.getElem?_eq_getElem (by rw [HM.out]; exact hjt)⟩
          have hpm := List.mem_of_getElem? hp
          have HPP := Lib.hid hp
          obtain ⟨pa, pc, hpv, _⟩ := HF.out.1 p hpm
          rcases HF.out.2 with ⟨h3, _⟩ | ⟨lb, lo, rfl, hll, hlc⟩
          · exfalso; omega
          obtain ⟨g0, g1, g2, g3⟩ := hlc j p hp
          rw [hpv] at g3
          clear hp hpm hpv hlc g0 g1 g2
          by_cases hL : 500 < p.1.pay.length
          · have d2 : decide ((500 : Int) < (p.1.pay.length : Int)) = true := decide_eq_true (by omega)
            have HE := Lib.hid (show fits14 ys = false by
              unfold fits14
              rw [all_not HX.out (by unfold okA; rw [all_not HPP.out (by rw [decide_eq_false (by omega)]), Bool.and_false]), Bool.and_false])
            clear hL
            go_wp2_with fail
            go_ret
            exact ⟨by rw [HE.out]; rfl, rfl⟩
          · have d2 : decide ((500 : Int) < (p.1.pay.length : Int)) = false := decide_eq_false (by omega)
            have HB' := Lib.hid (all_upto HB.out HPP.out (by rw [decide_eq_true (by omega)]))
            clear hL
            go_wp2_with fail
            go_roundg (M - (j + 1))
            case measure => have := HJQ.out; omega
            case rel => exact ⟨j + 1, by omega, by go_num, Lib.hid ⟨rfl, HB'.out⟩⟩
        · obtain rfl : j = M := by omega
          have HA' := Lib.hid (all_upto HA.out HX.out (by
            unfold okA
            have := HB.out
            rw [List.take_of_length_le (by rw [HM.out]; exact Nat.le_refl _)] at this
            rw [this, decide_eq_true (by have := HM30.out; rw [HM.out]; omega)]
            rfl))
          clear hjt hj
          go_wp2_with fail
          go_roundg (N - (k + 1))
          case measure => have := HKQ.out; omega
          case rel => exact ⟨k + 1, by omega, by go_num, Lib.hid ⟨rfl, HA'.out⟩⟩
    · obtain rfl : k = N := by omega
      have HE := Lib.hid (show fits14 ys = true by
        unfold fits14
        have := HA.out
        rw [List.take_of_length_le (by rw [HN.out]; exact Nat.le_refl _)] at this
        rw [this, decide_eq_true (by have := HH.out; rw [HN.out]; omega)]
        rfl)
      clear hlt hk
      go_wp2_with fail
      go_ret
      exact ⟨by rw [HE.out]; rfl, rfl⟩
end Go.Proofs.Ytfdkbaekohaaoaa
