
/-
  Layer 11, the program's own: what frames say, kind by kind (written by wip/tools/gen11r.py): settings.
-/
import Derived.Test.YtohghphegcnfkaaPayRead1
import Derived.Test.YtohghphegcnfkaaPayPairs
namespace Go.Proofs.Ytohghphegcnfkaa
set_option maxRecDepth 20000
open Go.RowKit

theorem PtW.ofPairs {w : World} {pv : Value} {ps : List Pr} {b b' : Bool} (h1 : SlP w pv ps) (h2 : Apart11 w pv) (hb : b = b') : PtW w (.agg (ptA (.slice none 0 0) pv (Pt.mk [] ps 0 0 0 0 false false b'))) (Pt.mk [] ps 0 0 0 0 false false b) :=
  hb ▸ ⟨_, _, rfl, Sl.nil _ _, h1, Apart11.bare _ _ _, h2⟩
set_option maxHeartbeats 4000000 in
theorem sett_any (v : Value) (f : Fr) (w : World) (h : FrV w v f) (h0 : 0 ≤ f.flags) (h1 : f.flags ≤ 255) (hl : f.pay.length ≤ 100000000) :
    Calls Try.prog 18 #[v] w fun e w' => AnsW w' e (settF f) ∧ Below w.heap.size w w' := by
  obtain ⟨pv, rfl, hp⟩ := h
  obtain ⟨a, cap, rfl, hcp, hcm, _⟩ := id hp
  unfold maxLen at hcm
  obtain ⟨N, hN⟩ : ∃ N, N = f.pay.length := ⟨_, rfl⟩
  rw [← hN] at hp hl hcp ⊢
  have HN := Lib.hid hN
  have HS := Lib.hid (Spk11.new w f (.slice a N cap) hp)
  have HP := Lib.hid hp
  clear hp hN
  have c0 := HS.out.box.c0
  have c1 := HS.out.box.c1
  have c2 := HS.out.box.c2
  have c3 := HS.out.box.c3
  have hsz := HS.out.box.lt
  unfold ptA faA at HS c0 c1 c2 c3 hsz
  go_enter Try.func18, Try.ntmps18
  obtain ⟨z, hz⟩ : ∃ z, (f.stream != 0) = z := ⟨_, rfl⟩
  have HZ := Lib.hid hz
  go_wp2_with fail
  refine (phas_any _ f 1 _ (HS.out.fr HP.out) h0 h1 (by omega)).mono ?_
  rintro e w1 ⟨rfl, hb⟩
  have HS2 := Lib.hid (HS.out.grown hb)
  clear hb c0 c1 c2 c3 hsz 
  have c0 := HS2.out.box.c0
  have c1 := HS2.out.box.c1
  have c2 := HS2.out.box.c2
  have c3 := HS2.out.box.c3
  have hsz := HS2.out.box.lt
  cases z
  · have s0 : Hid (f.stream = 0) := Lib.hid (by simpa using HZ.out)
    obtain ⟨y1, hy1⟩ : ∃ y, decide ((0 : Nat) < N) = y := ⟨_, rfl⟩
    obtain ⟨y2, hy2⟩ : ∃ y, ((N : Int).tmod 6 != 0) = y := ⟨_, rfl⟩
    have hy1' : decide ((0 : Int) < (N : Int)) = y1 := by rw [← hy1]; exact decide_eq_decide.2 (by omega)
    have HY1 := Lib.hid hy1
    have H2 : Hid ((f.pay.length % 6 ≠ 0) ↔ y2 = true) := Lib.hid (by
      rw [← hy2, ← HN.out]; simp only [bne_iff_ne, ne_eq]; rw [Int.tmod_eq_emod_of_nonneg (by omega)]; omega)
    have h63 : (N : Int).tmod 6 = ((N % 6 : Nat) : Int) := by rw [Int.tmod_eq_emod_of_nonneg (by omega)]; omega
    obtain ⟨q1, hq1⟩ : ∃ q, flagB f 1 = q := ⟨_, rfl⟩
    rw [hq1]
    have HQ1 := Lib.hid hq1
    clear hq1
    by_cases hbad : (q1 = true ∧ y1 = true) ∨ y2 = true
    · have HE := Lib.hid (show settF f = wrongP 6 0 by
        unfold settF; rw [if_neg (show ¬ f.stream ≠ 0 from fun q => q s0.out), if_pos (hbad.imp (fun q => ⟨by rw [HQ1.out]; exact q.1, by have := HY1.out; rw [q.2] at this; rw [← HN.out]; simpa using this⟩) (fun q => H2.out.2 q))])
      have HBAD := Lib.hid hbad
      clear hbad
      cases q1 <;> cases y1 <;> cases y2
      all_goals first
        | (exfalso; have := HBAD.out; simp at this; done)
        | (go_wp2_with fail
           refine (broken_any 6 _).mono ?_
           rintro e w9 ⟨⟨qv, rfl, hq⟩, hb9⟩
           have HO := Lib.hid (HS2.out.out.grown hb9)
           clear hb9 c0 c1 c2 c3 hsz
           go_wp2_with (first | (refine store_pt11 rfl (.tmp 2) (.tmp 30) rfl w (w.heap.size + 1) _ _ rfl rfl hq HO.out ?_; intro W hP hF hp hb) | (refine store_fa11 rfl (.tmp 3) (.tmp 31) rfl w (w.heap.size + 1) _ _ 6 0 (Nat.le_succ _) rfl rfl hp hP hF hb ?_; intro W2 hP2 hF2 hp2 hb2))
           refine bodyPost_ret (ans_results rfl _ _ (w.heap.size + 1) _ 6 0 rfl rfl hP2 hF2) rfl ?_
           rw [HE.out]
           exact ⟨⟨_, rfl, hp2⟩, hb2⟩)
    · have HE := Lib.hid (show settF f = okP (Pt.mk [] (pairsF (f.pay.length / 6) f.pay) 0 0 0 0 false false (flagB f 1)) by
        unfold settF; rw [if_neg (show ¬ f.stream ≠ 0 from fun q => q s0.out), if_neg (fun q => hbad (q.imp (fun q => ⟨by rw [← HQ1.out]; exact q.1, by rw [← HY1.out]; have := q.2; rw [← HN.out] at this; simpa using this⟩) (fun q => H2.out.1 q)))]; rfl)
      have HM6 := Lib.hid (show f.pay.length % 6 = 0 by
        have h := H2.out
        by_cases h6 : f.pay.length % 6 = 0
        · exact h6
        · exact absurd (.inr (h.1 h6)) hbad)
      have HBAD := Lib.hid hbad
      clear hbad
      cases q1 <;> cases y1 <;> cases y2
      all_goals first
        | (exfalso; have := HBAD.out; simp at this; done)
        | (go_wp2_with fail
           refine (ppairs_any _ f.pay _ (HP.out.below HS2.out.out.b) HM6.out (by rw [← HN.out]; omega)).mono ?_
           rintro e w2 ⟨pw, rfl, hpw, hap, hb⟩
           obtain ⟨aq, cq, rfl, hcq, hcq2⟩ := hpw.shape
           have HPW := Lib.hid (And.intro hpw hap)
           rw [pairsF_length] at HPW ⊢
           obtain ⟨LK, hLK⟩ : ∃ LK, LK = f.pay.length / 6 := ⟨_, rfl⟩
           clear hpw hap
           have HS3 := Lib.hid (HS2.out.grown hb)
           clear hb c0 c1 c2 c3 hsz hcq hcq2
           have c0 := HS3.out.box.c0
           have c1 := HS3.out.box.c1
           have c2 := HS3.out.box.c2
           have c3 := HS3.out.box.c3
           have hsz := HS3.out.box.lt
           go_wp2_with fail
           refine (says_any _ (Pt.mk [] (pairsF (f.pay.length / 6) f.pay) 0 0 0 0 false false (flagB f 1)) _ (PtW.ofPairs HPW.out.1 HPW.out.2 HQ1.out)).mono ?_
           rintro e w9 ⟨⟨qv, rfl, hq⟩, hb9⟩
           have HO := Lib.hid (HS3.out.out.grown hb9)
           clear hb9 c0 c1 c2 c3 hsz
           go_wp2_with (first | (refine store_pt11 rfl (.tmp 2) (.tmp 39) rfl w (w.heap.size + 1) _ _ rfl rfl hq HO.out ?_; intro W hP hF hp hb) | (refine store_fa11 rfl (.tmp 3) (.tmp 40) rfl w (w.heap.size + 1) _ _ 0 0 (Nat.le_succ _) rfl rfl hp hP hF hb ?_; intro W2 hP2 hF2 hp2 hb2))
           refine bodyPost_ret (ans_results rfl _ _ (w.heap.size + 1) _ 0 0 rfl rfl hP2 hF2) rfl ?_
           rw [HE.out]
           exact ⟨⟨_, rfl, hp2⟩, hb2⟩)
  · have HE := Lib.hid (show settF f = wrongP 1 0 by
      have s0 : f.stream ≠ 0 := by simpa using HZ.out
      unfold settF; rw [if_pos s0])
    go_wp2_with fail
    refine (broken_any 1 _).mono ?_
    rintro e w9 ⟨⟨qv, rfl, hq⟩, hb9⟩
    have HO := Lib.hid (HS2.out.out.grown hb9)
    clear hb9 c0 c1 c2 c3 hsz
    go_wp2_with (first | (refine store_pt11 rfl (.tmp 2) (.tmp 13) rfl w (w.heap.size + 1) _ _ rfl rfl hq HO.out ?_; intro W hP hF hp hb) | (refine store_fa11 rfl (.tmp 3) (.tmp 14) rfl w (w.heap.size + 1) _ _ 1 0 (Nat.le_succ _) rfl rfl hp hP hF hb ?_; intro W2 hP2 hF2 hp2 hb2))
    refine bodyPost_ret (ans_results rfl _ _ (w.heap.size + 1) _ 1 0 rfl rfl hP2 hF2) rfl ?_
    rw [HE.out]
    exact ⟨⟨_, rfl, hp2⟩, hb2⟩
end Go.Proofs.Ytohghphegcnfkaa
