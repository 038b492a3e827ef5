
/-
  Layer 11, the program's own: what frames say, kind by kind (written by wip/tools/gen11r.py): update, priority.
-/
import Derived.Test.YtohghphegcnfkaaPayRead1
namespace Go.Proofs.Ytohghphegcnfkaa
set_option maxRecDepth 20000
open Go.RowKit

set_option maxHeartbeats 4000000 in
theorem update_any (v : Value) (f : Fr) (w : World) (h : FrV w v f) (_ : 0 ≤ f.flags) (_ : f.flags ≤ 255) (_ : f.pay.length ≤ 100000000) :
    Calls Try.prog 22 #[v] w fun e w' => AnsW w' e (updF f) ∧ Below w.heap.size w w' := by
  obtain ⟨pv, rfl, hp⟩ := h
  obtain ⟨a, cap, rfl, hcp, hcm, _⟩ := id hp
  unfold maxLen at hcm
  obtain ⟨N, hN⟩ : ∃ N, N = f.pay.length := ⟨_, rfl⟩
  rw [← hN] at hp hcp ⊢
  have HN := Lib.hid hN
  have HS := Lib.hid (Spk11.new w f (.slice a N cap) hp)
  have HP := Lib.hid hp
  clear hp hN
  have c0 := HS.out.box.c0
  have c1 := HS.out.box.c1
  have c2 := HS.out.box.c2
  have c3 := HS.out.box.c3
  have hsz := HS.out.box.lt
  unfold ptA faA at HS c0 c1 c2 c3 hsz
  go_enter Try.func22, Try.ntmps22
  obtain ⟨y, hy⟩ : ∃ y, ((N : Int) != 4) = y := ⟨_, rfl⟩
  have HY := Lib.hid hy
  cases y
  · have h4 : Hid (f.pay.length = 4) := Lib.hid (by have := HY.out; rw [← HN.out]; simp only [bne_eq_false_iff_eq] at this; omega)
    obtain ⟨z, hz⟩ : ∃ z, (lowF f.pay == 0) = z := ⟨_, rfl⟩
    have HZ := Lib.hid hz
    go_wp2_with fail
    refine (lowered_any _ f.pay _ (HP.out.below HS.out.out.b) (by have := h4.out; omega)).mono ?_
    rintro e w1 ⟨rfl, rfl⟩
    cases z
    · have HE := Lib.hid (show updF f = okP (Pt.mk [] [] 0 0 (lowF f.pay) 0 false false false) by
        have h0 : ¬ lowF f.pay = 0 := by simpa using HZ.out
        unfold updF; rw [if_neg (show ¬ f.pay.length ≠ 4 from fun q => q h4.out), if_neg h0]; rfl)
      go_wp2_with fail
      refine (says_any _ (Pt.mk [] [] 0 0 (lowF f.pay) 0 false false false) _ (PtW.mk (p := Pt.mk [] [] 0 0 (lowF f.pay) 0 false false false) (Sl.nil _ _) (Apart11.bare _ _ _) rfl)).mono ?_
      rintro e w9 ⟨⟨qv, rfl, hq⟩, hb9⟩
      have HO := Lib.hid (HS.out.out.grown hb9)
      clear hb9 c0 c1 c2 c3 hsz
      go_wp2_with (first | (refine store_pt11 rfl (.tmp 2) (.tmp 27) rfl w (w.heap.size + 1) _ _ rfl rfl hq HO.out ?_; intro W hP hF hp hb) | (refine store_fa11 rfl (.tmp 3) (.tmp 28) rfl w (w.heap.size + 1) _ _ 0 0 (Nat.le_succ _) rfl rfl hp hP hF hb ?_; intro W2 hP2 hF2 hp2 hb2))
      refine bodyPost_ret (ans_results rfl _ _ (w.heap.size + 1) _ 0 0 rfl rfl hP2 hF2) rfl ?_
      rw [HE.out]
      exact ⟨⟨_, rfl, hp2⟩, hb2⟩
    · have HE := Lib.hid (show updF f = wrongP 1 f.stream by
        have h0 : lowF f.pay = 0 := by simpa using HZ.out
        unfold updF; rw [if_neg (show ¬ f.pay.length ≠ 4 from fun q => q h4.out), if_pos h0])
      go_wp2_with fail
      refine (wrong_any _ f 1 _ (HS.out.fr HP.out)).mono ?_
      rintro e w9 ⟨⟨qv, rfl, hq⟩, hb9⟩
      have HO := Lib.hid (HS.out.out.grown hb9)
      clear hb9 c0 c1 c2 c3 hsz
      go_wp2_with (first | (refine store_pt11 rfl (.tmp 2) (.tmp 21) rfl w (w.heap.size + 1) _ _ rfl rfl hq HO.out ?_; intro W hP hF hp hb) | (refine store_fa11 rfl (.tmp 3) (.tmp 22) rfl w (w.heap.size + 1) _ _ 1 f.stream (Nat.le_succ _) rfl rfl hp hP hF hb ?_; intro W2 hP2 hF2 hp2 hb2))
      refine bodyPost_ret (ans_results rfl _ _ (w.heap.size + 1) _ 1 f.stream rfl rfl hP2 hF2) rfl ?_
      rw [HE.out]
      exact ⟨⟨_, rfl, hp2⟩, hb2⟩
  · have HE := Lib.hid (show updF f = wrongP 6 0 by
      have h4 : f.pay.length ≠ 4 := by have := HY.out; simp only [bne_iff_ne, ne_eq] at this; rw [← HN.out]; omega
      unfold updF; rw [if_pos h4])
    go_wp2_with fail
    refine (broken_any 6 _).mono ?_
    rintro e w9 ⟨⟨qv, rfl, hq⟩, hb9⟩
    have HO := Lib.hid (HS.out.out.grown hb9)
    clear hb9 c0 c1 c2 c3 hsz
    go_wp2_with (first | (refine store_pt11 rfl (.tmp 2) (.tmp 11) rfl w (w.heap.size + 1) _ _ rfl rfl hq HO.out ?_; intro W hP hF hp hb) | (refine store_fa11 rfl (.tmp 3) (.tmp 12) rfl w (w.heap.size + 1) _ _ 6 0 (Nat.le_succ _) rfl rfl hp hP hF hb ?_; intro W2 hP2 hF2 hp2 hb2))
    refine bodyPost_ret (ans_results rfl _ _ (w.heap.size + 1) _ 6 0 rfl rfl hP2 hF2) rfl ?_
    rw [HE.out]
    exact ⟨⟨_, rfl, hp2⟩, hb2⟩
set_option maxHeartbeats 4000000 in
theorem prio_any (v : Value) (f : Fr) (w : World) (h : FrV w v f) (_ : 0 ≤ f.flags) (_ : f.flags ≤ 255) (_ : f.pay.length ≤ 100000000) :
    Calls Try.prog 16 #[v] w fun e w' => AnsW w' e (prioF f) ∧ Below w.heap.size w w' := by
  obtain ⟨pv, rfl, hp⟩ := h
  obtain ⟨a, cap, rfl, hcp, hcm, _⟩ := id hp
  unfold maxLen at hcm
  obtain ⟨N, hN⟩ : ∃ N, N = f.pay.length := ⟨_, rfl⟩
  rw [← hN] at hp hcp ⊢
  have HN := Lib.hid hN
  have HS := Lib.hid (Spk11.new w f (.slice a N cap) hp)
  have HP := Lib.hid hp
  clear hp hN
  have c0 := HS.out.box.c0
  have c1 := HS.out.box.c1
  have c2 := HS.out.box.c2
  have c3 := HS.out.box.c3
  have hsz := HS.out.box.lt
  unfold ptA faA at HS c0 c1 c2 c3 hsz
  go_enter Try.func16, Try.ntmps16
  obtain ⟨z, hz⟩ : ∃ z, (f.stream == 0) = z := ⟨_, rfl⟩
  obtain ⟨y, hy⟩ : ∃ y, ((N : Int) != 5) = y := ⟨_, rfl⟩
  have HY := Lib.hid hy
  have HZ := Lib.hid hz
  have H0 : z = false → ¬ f.stream = 0 := by rintro rfl; simpa using hz
  cases z
  · have h0 := Lib.hid (H0 rfl)
    clear H0
    cases y
    · have h5 : Hid (f.pay.length = 5) := Lib.hid (by have := HY.out; rw [← HN.out]; simp only [bne_eq_false_iff_eq] at this; omega)
      go_wp2_with fail
      refine (isItself_any _ _ f f.pay _ (HS.out.fr HP.out) (HP.out.below HS.out.out.b) (by have := h5.out; omega)).mono ?_
      rintro e w1 ⟨rfl, hb⟩
      have HS2 := Lib.hid (HS.out.grown hb)
      clear hb c0 c1 c2 c3 hsz 
      have c0 := HS2.out.box.c0
      have c1 := HS2.out.box.c1
      have c2 := HS2.out.box.c2
      have c3 := HS2.out.box.c3
      have hsz := HS2.out.box.lt
      by_cases hi : lowF f.pay = f.stream
      · have HE := Lib.hid (show prioF f = wrongP 1 f.stream by
          unfold prioF; rw [if_neg h0.out, if_neg (show ¬ f.pay.length ≠ 5 from fun q => q h5.out), if_pos hi])
        rw [decide_eq_true hi]
        clear hi
        go_wp2_with fail
        refine (wrong_any _ f 1 _ (HS2.out.fr HP.out)).mono ?_
        rintro e w9 ⟨⟨qv, rfl, hq⟩, hb9⟩
        have HO := Lib.hid (HS2.out.out.grown hb9)
        clear hb9 c0 c1 c2 c3 hsz
        go_wp2_with (first | (refine store_pt11 rfl (.tmp 2) (.tmp 30) rfl w (w.heap.size + 1) _ _ rfl rfl hq HO.out ?_; intro W hP hF hp hb) | (refine store_fa11 rfl (.tmp 3) (.tmp 31) rfl w (w.heap.size + 1) _ _ 1 f.stream (Nat.le_succ _) rfl rfl hp hP hF hb ?_; intro W2 hP2 hF2 hp2 hb2))
        refine bodyPost_ret (ans_results rfl _ _ (w.heap.size + 1) _ 1 f.stream rfl rfl hP2 hF2) rfl ?_
        rw [HE.out]
        exact ⟨⟨_, rfl, hp2⟩, hb2⟩
      · have HE := Lib.hid (show prioF f = okP Pt.zero by
          unfold prioF; rw [if_neg h0.out, if_neg (show ¬ f.pay.length ≠ 5 from fun q => q h5.out), if_neg hi])
        rw [decide_eq_false hi]
        clear hi
        go_wp2_with fail
        refine (says_any _ Pt.zero _ (PtW.zero _)).mono ?_
        rintro e w9 ⟨⟨qv, rfl, hq⟩, hb9⟩
        have HO := Lib.hid (HS2.out.out.grown hb9)
        clear hb9 c0 c1 c2 c3 hsz
        go_wp2_with (first | (refine store_pt11 rfl (.tmp 2) (.tmp 35) rfl w (w.heap.size + 1) _ _ rfl rfl hq HO.out ?_; intro W hP hF hp hb) | (refine store_fa11 rfl (.tmp 3) (.tmp 36) rfl w (w.heap.size + 1) _ _ 0 0 (Nat.le_succ _) rfl rfl hp hP hF hb ?_; intro W2 hP2 hF2 hp2 hb2))
        refine bodyPost_ret (ans_results rfl _ _ (w.heap.size + 1) _ 0 0 rfl rfl hP2 hF2) rfl ?_
        rw [HE.out]
        exact ⟨⟨_, rfl, hp2⟩, hb2⟩
    · have HE := Lib.hid (show prioF f = wrongP 6 f.stream by
        have h5 : f.pay.length ≠ 5 := by have := HY.out; simp only [bne_iff_ne, ne_eq] at this; rw [← HN.out]; omega
        unfold prioF; rw [if_neg h0.out, if_pos h5])
      go_wp2_with fail
      refine (wrong_any _ f 6 _ (HS.out.fr HP.out)).mono ?_
      rintro e w9 ⟨⟨qv, rfl, hq⟩, hb9⟩
      have HO := Lib.hid (HS.out.out.grown hb9)
      clear hb9 c0 c1 c2 c3 hsz
      go_wp2_with (first | (refine store_pt11 rfl (.tmp 2) (.tmp 20) rfl w (w.heap.size + 1) _ _ rfl rfl hq HO.out ?_; intro W hP hF hp hb) | (refine store_fa11 rfl (.tmp 3) (.tmp 21) rfl w (w.heap.size + 1) _ _ 6 f.stream (Nat.le_succ _) rfl rfl hp hP hF hb ?_; intro W2 hP2 hF2 hp2 hb2))
      refine bodyPost_ret (ans_results rfl _ _ (w.heap.size + 1) _ 6 f.stream rfl rfl hP2 hF2) rfl ?_
      rw [HE.out]
      exact ⟨⟨_, rfl, hp2⟩, hb2⟩
  · have HE := Lib.hid (show prioF f = wrongP 1 0 by
      have h0 : f.stream = 0 := by simpa using HZ.out
      unfold prioF; rw [if_pos h0])
    clear H0
    go_wp2_with fail
    refine (broken_any 1 _).mono ?_
    rintro e w9 ⟨⟨qv, rfl, hq⟩, hb9⟩
    have HO := Lib.hid (HS.out.out.grown hb9)
    clear hb9 c0 c1 c2 c3 hsz
    go_wp2_with (first | (refine store_pt11 rfl (.tmp 2) (.tmp 10) rfl w (w.heap.size + 1) _ _ rfl rfl hq HO.out ?_; intro W hP hF hp hb) | (refine store_fa11 rfl (.tmp 3) (.tmp 11) rfl w (w.heap.size + 1) _ _ 1 0 (Nat.le_succ _) rfl rfl hp hP hF hb ?_; intro W2 hP2 hF2 hp2 hb2))
    refine bodyPost_ret (ans_results rfl _ _ (w.heap.size + 1) _ 1 0 rfl rfl hP2 hF2) rfl ?_
    rw [HE.out]
    exact ⟨⟨_, rfl, hp2⟩, hb2⟩
end Go.Proofs.Ytohghphegcnfkaa
