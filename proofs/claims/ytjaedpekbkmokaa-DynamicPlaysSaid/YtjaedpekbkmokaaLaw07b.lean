
/-
  DynamicPlays: Fits, has.
-/
import Derived.Test.YtjaedpekbkmokaaActs
import Derived.Test.YtjaedpekbkmokaaRef07Add
import Derived.Test.YtjaedpekbkmokaaQuiet
import Derived.Test.YtjaedpekbkmokaaRegion
import Derived.Deep.LoopGhost
namespace Go.Proofs.Ytjaedpekbkmokaa
open Go.RowKit

set_option maxHeartbeats 1000000 in
theorem fits7_any (v : Value) (xs : List Act7) (w : World) (h : SlA w v xs) : Calls Try.prog 4 #[v] w fun e w' => e = .returned (.bool (decide (fitsA xs))) ∧ w' = w := by
  obtain ⟨a, c, rfl, hc1, hc2⟩ := h.shape
  unfold maxLen at hc2
  obtain ⟨N, hN⟩ : ∃ N, N = xs.length := ⟨_, rfl⟩
  rw [← hN] at h hc1 ⊢
  by_cases hl : N ≤ 60
  · have d1 : decide ((60 : Int) < (N : Int)) = false := decide_eq_false (by omega)
    have HN := Lib.hid hN
    clear hN
    go_enter Try.func4, Try.ntmps4
    go_wp2_with fail
    go_loopg [3] N (fun q s3 wr => ∃ k : Nat, k + q = N ∧ s3 = .int .i64 k ∧ Hid (∀ i x, i < k → xs[i]? = some x → x.f.1.size ≤ 300 ∧ x.f.2.size ≤ 300) ∧ wr = w)
    case atStart => exact ⟨0, by omega, rfl, Lib.hid (fun i x hi => by omega), rfl⟩
    case round =>
      obtain ⟨k, hkq, rfl, HK, rfl⟩ := hrel
      have HKQ := Lib.hid hkq
      have hk : k ≤ N := by omega
      clear hkq
      by_cases hlt : k < N
      · obtain ⟨x, hx⟩ : ∃ x, xs[k]? = some x := ⟨xs[k]'(by rw [← HN.out]; exact hlt), List.getElem?_eq_getElem (by rw [← HN.out]; exact hlt)⟩
        obtain ⟨b, off, rfl, hbl, hcell⟩ := h.at_ (i := k) (by rw [← HN.out]; exact hlt)
        obtain ⟨_, c1, c2, _⟩ := hcell x hx
        have hok := (h.1 x (List.mem_of_getElem? hx)).2.2
        unfold maxLen at hok
        obtain ⟨o1, o2⟩ := hok
        have HX := Lib.hid hx
        clear hcell hx
        by_cases h1 : x.f.1.size ≤ 300
        · have e1 : decide ((300 : Int) < (x.f.1.size : Int)) = false := decide_eq_false (by omega)
          by_cases h2 : x.f.2.size ≤ 300
          · have e2 : decide ((300 : Int) < (x.f.2.size : Int)) = false := decide_eq_false (by omega)
            have HK1 : Hid (∀ i y, i < k + 1 → xs[i]? = some y → y.f.1.size ≤ 300 ∧ y.f.2.size ≤ 300) := by
              show ∀ _ _, _
              intro i y hi hy
              by_cases hik : i = k
              · subst hik
                rw [HX.out] at hy
                cases hy
                exact ⟨h1, h2⟩
              · exact HK.out i y (by omega) hy
            clear h1 h2
            go_wp2_with fail
            go_roundg (N - (k + 1))
            case measure => have := HKQ.out; omega
            case rel => exact ⟨k + 1, by omega, by go_num, HK1, rfl⟩
          · have e2 : decide ((300 : Int) < (x.f.2.size : Int)) = true := decide_eq_true (by omega)
            have HD := Lib.hid (show decide (fitsA xs) = false from decide_eq_false (fun hf => h2 (hf.2 x (List.mem_of_getElem? HX.out)).2))
            clear h1 h2
            go_wp2_with fail
            go_ret
            exact ⟨by rw [HD.out]; rfl, rfl⟩
        · have e1 : decide ((300 : Int) < (x.f.1.size : Int)) = true := decide_eq_true (by omega)
          have HD := Lib.hid (show decide (fitsA xs) = false from decide_eq_false (fun hf => h1 (hf.2 x (List.mem_of_getElem? HX.out)).1))
          clear h1
          go_wp2_with fail
          go_ret
          exact ⟨by rw [HD.out]; rfl, rfl⟩
      · obtain rfl : k = N := by omega
        have HD := Lib.hid (show decide (fitsA xs) = true from decide_eq_true ⟨by rw [← HN.out]; exact hl, fun x hx => by
          obtain ⟨i, hi⟩ := List.getElem?_of_mem hx
          exact HK.out i x (by have := (List.getElem?_eq_some_iff.1 hi).1; rw [HN.out]; exact this) hi⟩)
        clear hlt hk
        go_wp2_with fail
        go_ret
        exact ⟨by rw [HD.out]; rfl, rfl⟩
  · have d1 : decide ((60 : Int) < (N : Int)) = true := decide_eq_true (by omega)
    have HD := Lib.hid (show decide (fitsA xs) = false from decide_eq_false (fun hf => hl (by rw [hN]; exact hf.1)))
    clear hl hN
    go_enter Try.func4, Try.ntmps4
    go_wp2_with fail
    go_ret
    exact ⟨by rw [HD.out]; rfl, rfl⟩
theorem fld_neq_self (n x : ByteArray) (w : World) : (binOp .neq 32 (.agg #[.string n, .string x]) (.agg #[.string n, .string x])).run Try.prog w = .ok (.bool false) w := by
  have h := fld_eql n x n x w
  have e : (eqB n n && eqB x x) = true := by rw [Bool.and_eq_true]; exact ⟨eqB_iff.2 rfl, eqB_iff.2 rfl⟩
  rw [run_eql_struct, e] at h
  rw [run_neq_struct]
  generalize (Op.equalIn 10000 32 (.agg #[.string n, .string x]) (.agg #[.string n, .string x])).run Try.prog w = r at *
  cases r with
  | ok b w' =>
    simp only [Result.andThen, Result.ok.injEq, Value.bool.injEq] at h
    obtain ⟨rfl, rfl⟩ := h
    rfl
  | halt x w' => cases h
theorem getO_shape (fs : List Fd) (i : Int) : ∃ n x e, getO fs i = .tuple #[.agg #[.string n, .string x], .int .i64 e] := by
  unfold getO
  split
  · exact ⟨_, _, _, rfl⟩
  · exact ⟨_, _, _, rfl⟩
set_option maxHeartbeats 2000000 in
theorem has7_any (T R base : Nat) (b m b' : Int) (v v' : Value) (fs : List Fd) (w : World) (hT : TabO w base T b m v fs) (hR : TabR w base R b' m v' fs.reverse) (hz : sumF fs ≤ 1000000000) :
    Calls Try.prog 13 #[.pointer (some ⟨T, 0, none⟩), .pointer (some ⟨R, 0, none⟩)] w fun e w' => e = .returned (.bool true) ∧ Below w.heap.size w w' := by
  obtain ⟨N, hN⟩ : ∃ N, N = fs.length := ⟨_, rfl⟩
  have hl := sumF_len fs
  obtain ⟨a', c', ev⟩ := hR.2.2.shape
  rw [List.length_reverse, ← hN] at ev
  subst ev
  rw [← hN] at hl
  have HN := Lib.hid hN
  clear hN
  go_enter Try.func13, Try.ntmps13
  go_wp2_with fail
  go_loopg [5] (N + 2) (fun q s5 wr => ∃ k : Nat, k + q = N + 2 ∧ s5 = .int .i64 k ∧ Hid (Below w.heap.size w wr))
  case atStart => exact ⟨0, by omega, rfl, Lib.hid (Below.refl _ _)⟩
  case round =>
    obtain ⟨k, hkq, rfl, HB⟩ := hrel
    have HKQ := Lib.hid hkq
    have hk : k ≤ N + 2 := by omega
    have c0 := (hR.below HB.out).2.1.c0
    clear hkq
    by_cases hlt : k < N + 2
    · have d1 : decide ((k : Int) ≤ (N : Int) + 1) = true := decide_eq_true (by omega)
      obtain ⟨n, x, E, hg⟩ := getO_shape fs k
      have HG := Lib.hid hg
      have HG2 := Lib.hid ((getR_reverse fs k).trans hg)
      have hne := fld_neq_self n x
      have HLT := Lib.hid hlt
      clear hg hlt
      go_wp2_with fail
      refine (tget_any T base b m k v fs _ (hT.below HB.out)).mono ?_
      rintro e w1 ⟨rfl, hb1⟩
      rw [HG.out]
      have HB1 := Lib.hid (HB.out.trans (hb1.mono HB.out.size))
      clear hb1
      go_wp2_with fail
      have HB2 : Hid (Below w.heap.size w (w1.alloc (.cells #[.string n, .string x] 32)) ∧ FldAt (w1.alloc (.cells #[.string n, .string x] 32)) w1.heap.size n x) := ⟨HB1.out.alloc HB1.out.size _, FldAt.new _ _ _⟩
      clear HB1
      obtain ⟨B1, hB1⟩ : ∃ B1, w1.heap.size = B1 := ⟨_, rfl⟩
      obtain ⟨W2, hW2⟩ : ∃ W2, w1.alloc (.cells #[.string n, .string x] 32) = W2 := ⟨_, rfl⟩
      rw [hW2, hB1] at HB2
      rw [hW2, hB1]
      clear hW2 hB1
      refine (refGet7_any R base b' m k _ fs.reverse _ (hR.below HB2.out.1)).mono ?_
      rintro e w3 ⟨rfl, hb3⟩
      rw [HG2.out]
      have HB3 := Lib.hid (And.intro (HB2.out.1.trans (hb3.mono HB2.out.1.size)) (HB2.out.2.grown hb3))
      clear hb3 HB2
      have hal := (Below.refl w3.heap.size w3).alloc (Nat.le_refl _) (.cells #[.string n, .string x] 32)
      have p0 := (HB3.out.2.grown hal).c0
      have p1 := (HB3.out.2.grown hal).c1
      have q0 := (FldAt.new w3 n x).c0
      have q1 := (FldAt.new w3 n x).c1
      have HB4 := Lib.hid (HB3.out.1.trans (hal.mono HB3.out.1.size))
      clear hal
      go_wp2_with fail
      go_roundg (N + 2 - (k + 1))
      case measure => have := HKQ.out; have := HLT.out; omega
      case rel => exact ⟨k + 1, by have := HKQ.out; have := HLT.out; omega, by go_num, HB4⟩
    · obtain rfl : k = N + 2 := by omega
      have d1 : decide (((N + 2 : Nat) : Int) ≤ (N : Int) + 1) = false := decide_eq_false (by omega)
      clear hlt hk
      go_wp2_with fail
      have hTa := hT.below HB.out
      have hRa := hR.below HB.out
      obtain ⟨S, hS⟩ : ∃ S, S = sumF fs := ⟨_, rfl⟩
      have HS := Lib.hid hS
      clear hS c0 d1
      refine wp_region_quiet (C := fun w' => Below wr.heap.size wr w') (by kernel_rfl) (by kernel_rfl) (Below.refl _ _).drew ?_
      refine quiet_take (.pointer (some ⟨T, 0, none⟩)) rfl (quiet_pure (fun w => rfl)) ?_
      simp only [Act.put, List.setIfInBounds_toArray, List.set_cons_zero, List.set_cons_succ]
      refine quiet_take (.int .i64 (N : Nat)) rfl (quiet_call 17 _ _ rfl [.pointer (some ⟨T, 0, none⟩)] rfl (enters_of Try.func17 (by kernel_rfl) rfl) (fun w hw => (tlen_any T base b m v fs w (hTa.below hw)).mono (by rintro e w'' ⟨rfl, rfl⟩; exact ⟨by rw [HN.out], hw⟩))) ?_
      simp only [Act.put, List.setIfInBounds_toArray, List.set_cons_zero, List.set_cons_succ]
      refine quiet_take (.pointer (some ⟨R, 0, none⟩)) rfl (quiet_pure (fun w => rfl)) ?_
      simp only [Act.put, List.setIfInBounds_toArray, List.set_cons_zero, List.set_cons_succ]
      refine quiet_take (.pointer (some ⟨R, 0, none⟩)) rfl (quiet_pure (fun w => by simp [go_sem])) ?_
      simp only [Act.put, List.setIfInBounds_toArray, List.set_cons_zero, List.set_cons_succ]
      refine quiet_take (.pointer (some ⟨R, 0, none⟩)) rfl (quiet_pure (fun w => by simp [go_sem])) ?_
      simp only [Act.put, List.setIfInBounds_toArray, List.set_cons_zero, List.set_cons_succ]
      refine quiet_take (.slice a' N c') rfl (quiet_is (fun w hw => by have c0 := (hRa.below hw).2.1.c0; simp [go_sem, c0])) ?_
      simp only [Act.put, List.setIfInBounds_toArray, List.set_cons_zero, List.set_cons_succ]
      refine quiet_take (.int .i64 (N : Nat)) rfl (quiet_pure (fun w => by simp [go_sem])) ?_
      simp only [Act.put, List.setIfInBounds_toArray, List.set_cons_zero, List.set_cons_succ]
      refine quiet_take (.bool true) rfl (quiet_pure (fun w => by simp [go_sem])) ?_
      simp only [Act.put, List.setIfInBounds_toArray, List.set_cons_zero, List.set_cons_succ]
      refine quiet_take (.bool true) rfl (quiet_pure (fun w => rfl)) ?_
      simp only [Act.put, List.setIfInBounds_toArray, List.set_cons_zero, List.set_cons_succ]
      refine quiet_take (.pointer (some ⟨T, 0, none⟩)) rfl (quiet_pure (fun w => rfl)) ?_
      simp only [Act.put, List.setIfInBounds_toArray, List.set_cons_zero, List.set_cons_succ]
      refine quiet_take (.int .i64 (S : Nat)) rfl (quiet_call 18 _ _ rfl [.pointer (some ⟨T, 0, none⟩)] rfl (enters_of Try.func18 (by kernel_rfl) rfl) (fun w hw => (tsize_any T base b m v fs w (hTa.below hw)).mono (by rintro e w'' ⟨rfl, rfl⟩; exact ⟨by rw [HS.out], hw⟩))) ?_
      simp only [Act.put, List.setIfInBounds_toArray, List.set_cons_zero, List.set_cons_succ]
      refine quiet_take (.pointer (some ⟨R, 0, none⟩)) rfl (quiet_pure (fun w => rfl)) ?_
      simp only [Act.put, List.setIfInBounds_toArray, List.set_cons_zero, List.set_cons_succ]
      refine quiet_take (.pointer (some ⟨R, 0, none⟩)) rfl (quiet_pure (fun w => by simp [go_sem])) ?_
      simp only [Act.put, List.setIfInBounds_toArray, List.set_cons_zero, List.set_cons_succ]
      refine quiet_take (.pointer (some ⟨R, 0, none⟩)) rfl (quiet_pure (fun w => by simp [go_sem])) ?_
      simp only [Act.put, List.setIfInBounds_toArray, List.set_cons_zero, List.set_cons_succ]
      refine quiet_take (.slice a' N c') rfl (quiet_is (fun w hw => by have c0 := (hRa.below hw).2.1.c0; simp [go_sem, c0])) ?_
      simp only [Act.put, List.setIfInBounds_toArray, List.set_cons_zero, List.set_cons_succ]
      refine quiet_take (.int .i64 (S : Nat)) rfl (quiet_call 27 _ _ rfl [.slice a' N c'] rfl (enters_of Try.func27 (by kernel_rfl) rfl) (fun w hw => (refSum_any _ fs.reverse w (hRa.below hw).2.2.toSl (by rw [sumF_reverse]; exact hz)).mono (by rintro e w'' ⟨rfl, hb⟩; exact ⟨by rw [sumF_reverse, HS.out], hw.trans (hb.mono hw.size)⟩))) ?_
      simp only [Act.put, List.setIfInBounds_toArray, List.set_cons_zero, List.set_cons_succ]
      refine quiet_take (.bool true) rfl (quiet_pure (fun w => by simp [go_sem])) ?_
      simp only [Act.put, List.setIfInBounds_toArray, List.set_cons_zero, List.set_cons_succ]
      refine quiet_take (.bool true) rfl (quiet_pure (fun w => by simp [go_sem])) ?_
      simp only [Act.put, List.setIfInBounds_toArray, List.set_cons_zero, List.set_cons_succ]
      refine quiet_take (.bool true) rfl (quiet_pure (fun w => rfl)) ?_
      simp only [Act.put, List.setIfInBounds_toArray, List.set_cons_zero, List.set_cons_succ]
      refine quiet_take (.pointer (some ⟨T, 0, none⟩)) rfl (quiet_pure (fun w => rfl)) ?_
      simp only [Act.put, List.setIfInBounds_toArray, List.set_cons_zero, List.set_cons_succ]
      refine quiet_take (.int .i64 m) rfl (quiet_call 19 _ _ rfl [.pointer (some ⟨T, 0, none⟩)] rfl (enters_of Try.func19 (by kernel_rfl) rfl) (fun w hw => (tmost_any T base b m v fs w (hTa.below hw)).mono (by rintro e w'' ⟨rfl, rfl⟩; exact ⟨rfl, hw⟩))) ?_
      simp only [Act.put, List.setIfInBounds_toArray, List.set_cons_zero, List.set_cons_succ]
      refine quiet_take (.pointer (some ⟨R, 0, none⟩)) rfl (quiet_pure (fun w => rfl)) ?_
      simp only [Act.put, List.setIfInBounds_toArray, List.set_cons_zero, List.set_cons_succ]
      refine quiet_take (.pointer (some ⟨R, 0, none⟩)) rfl (quiet_pure (fun w => by simp [go_sem])) ?_
      simp only [Act.put, List.setIfInBounds_toArray, List.set_cons_zero, List.set_cons_succ]
      refine quiet_take (.pointer (some ⟨R, 2, none⟩)) rfl (quiet_pure (fun w => by simp [go_sem])) ?_
      simp only [Act.put, List.setIfInBounds_toArray, List.set_cons_zero, List.set_cons_succ]
      refine quiet_take (.int .i64 m) rfl (quiet_is (fun w hw => by have c2 := (hRa.below hw).2.1.c2; simp [go_sem, c2])) ?_
      simp only [Act.put, List.setIfInBounds_toArray, List.set_cons_zero, List.set_cons_succ]
      refine quiet_take (.bool true) rfl (quiet_pure (fun w => by simp [go_sem])) ?_
      simp only [Act.put, List.setIfInBounds_toArray, List.set_cons_zero, List.set_cons_succ]
      refine quiet_take (.bool true) rfl (quiet_pure (fun w => by simp [go_sem])) ?_
      simp only [Act.put, List.setIfInBounds_toArray, List.set_cons_zero, List.set_cons_succ]
      refine quiet_take (.bool true) rfl (quiet_pure (fun w => rfl)) ?_
      simp only [Act.put, List.setIfInBounds_toArray, List.set_cons_zero, List.set_cons_succ]
      intro W3 hb3
      have HB3 := Lib.hid (HB.out.trans (hb3.mono HB.out.size))
      clear hb3
      go_wp2_with fail
      go_ret
      exact ⟨rfl, HB3.out⟩
end Go.Proofs.Ytjaedpekbkmokaa
