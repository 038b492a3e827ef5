
/-
  Layer 19's laws: are acts such as are gone through?
-/
import Derived.Test.YtiappeagdnkedaaActs19
import Derived.Test.YtiappeagdnkedaaProg
import Derived.Deep.LoopGhost
import Derived.WalkMore
namespace Go.Proofs.Ytiappeagdnkedaa
set_option maxRecDepth 20000
open Go.RowKit

def fits19 (ys : List A19) : Bool := decide (ys.length ≤ 200) && ys.all (fun x => decide (x.p.1.pay.length ≤ 300))
theorem fits19_yes {ys : List A19} (h : fits19 ys = true) : ys.length ≤ 200 ∧ ∀ x ∈ ys, x.p.1.pay.length ≤ 300 := by
  unfold fits19 at h
  simp only [Bool.and_eq_true, decide_eq_true_eq, List.all_eq_true] at h
  exact h
theorem all_upto19 {α : Type} {f : α → Bool} {l : List α} {k : Nat} {x : α} (h : (l.take k).all f = true) (hx : l[k]? = some x) (hf : f x = true) : (l.take (k + 1)).all f = true := by
  rw [List.take_add_one, List.all_append, h, hx]
  simp [hf]
theorem all_not19 {α : Type} {f : α → Bool} {l : List α} {k : Nat} {x : α} (hx : l[k]? = some x) (hf : f x = false) : l.all f = false := by
  rw [List.all_eq_false]
  exact ⟨x, List.mem_of_getElem? hx, by simp [hf]⟩
set_option maxHeartbeats 1000000 in
theorem fits19_any (v : Value) (ys : List A19) (w : World) (h : SlA19 w v ys) :
    Calls Try.prog 5 #[v] w fun e w' => e = .returned (.bool (fits19 ys)) ∧ w' = w := by
  obtain ⟨a, c, rfl, hc1, hc2⟩ := h.1.shape
  unfold maxLen at hc2
  obtain ⟨N, hN⟩ : ∃ N, ys.length = N := ⟨_, rfl⟩
  rw [hN] at h hc1 ⊢
  have HN := Lib.hid hN
  have HS := Lib.hid h
  clear hN h
  by_cases h30 : 200 < N
  · have d0 : decide ((200 : Int) < (N : Int)) = true := decide_eq_true (by omega)
    have HE := Lib.hid (show fits19 ys = false by unfold fits19; rw [decide_eq_false (by rw [HN.out]; omega)]; rfl)
    clear h30
    go_enter Try.func5, Try.ntmps5
    go_wp2_with fail
    go_ret
    exact ⟨by rw [HE.out]; rfl, rfl⟩
  have d0 : decide ((200 : Int) < (N : Int)) = false := decide_eq_false (by omega)
  have HH := Lib.hid h30
  clear h30
  go_enter Try.func5, Try.ntmps5
  go_wp2_with fail
  go_loopg [3] N (fun q s3 wr => ∃ k : Nat, k + q = N ∧ s3 = .int .i64 k ∧ Hid (wr = w ∧ (ys.take k).all (fun x => decide (x.p.1.pay.length ≤ 300)) = true))
  case atStart => exact ⟨0, by omega, rfl, Lib.hid ⟨rfl, by simp⟩⟩
  case round =>
    obtain ⟨k, hkq, rfl, HP⟩ := hrel
    have HKQ := Lib.hid hkq
    have hk : k ≤ N := by omega
    clear hkq
    obtain rfl := HP.out.1
    have HA := Lib.hid HP.out.2
    clear HP
    by_cases hlt : k < N
    · obtain ⟨x, hx⟩ : ∃ x, ys[k]? = some x := ⟨ys[k]'(by rw [HN.out]; exact hlt), List.getElem?_eq_getElem (by rw [HN.out]; exact hlt)⟩
      have hmem := List.mem_of_getElem? hx
      have HX := Lib.hid hx
      obtain ⟨hsf, hk0, hk1⟩ := HS.out.2 x hmem
      obtain ⟨b, off, rfl, hbl, hcell⟩ := HS.out.1.at_ (i := k) (by rw [HN.out]; exact hlt)
      have c4 := hcell x hx 4 (by omega)
      simp only [a19C, List.getElem?_cons_succ, List.getElem?_cons_zero] at c4
      obtain ⟨pa, pc, hpv, _⟩ := id hsf
      rw [hpv] at c4
      clear hcell hmem hx hsf hk0 hk1 hpv
      by_cases hm : 300 < x.p.1.pay.length
      · have d1 : decide ((300 : Int) < (x.p.1.pay.length : Int)) = true := decide_eq_true (by omega)
        have HE := Lib.hid (show fits19 ys = false by
          unfold fits19
          rw [all_not19 HX.out (by rw [decide_eq_false (by omega)]), Bool.and_false])
        clear hm
        go_wp2_with fail
        go_ret
        exact ⟨by rw [HE.out]; rfl, rfl⟩
      have d1 : decide ((300 : Int) < (x.p.1.pay.length : Int)) = false := decide_eq_false (by omega)
      have HM := Lib.hid hm
      clear hm
      go_wp2_with fail
      go_roundg (N - (k + 1))
      case measure => have := HKQ.out; omega
      case rel => exact ⟨k + 1, by omega, by go_num, Lib.hid ⟨rfl, all_upto19 HA.out HX.out (by rw [decide_eq_true (by have := HM.out; omega)])⟩⟩
    · obtain rfl : k = N := by omega
      have HE := Lib.hid (show fits19 ys = true by
        have h1 := HA.out
        rw [← HN.out, List.take_length] at h1
        unfold fits19
        rw [h1, decide_eq_true (by have := HH.out; rw [HN.out]; omega)]
        rfl)
      clear hlt hk
      go_wp2_with fail
      go_ret
      exact ⟨by rw [HE.out]; rfl, rfl⟩
end Go.Proofs.Ytiappeagdnkedaa
