
/-
  Layer 10's reference: Request, Response.
-/
import Derived.Test.YtabonhiolcjnnaaReqList
namespace Go.Proofs.Ytabonhiolcjnnaa
set_option maxRecDepth 20000
open Go.RowKit

theorem valOf_mild (nm : ByteArray) : ∀ (l : List Fd) (x : ByteArray × Nat), Mild l → x.1.size ≤ 1000000 → (valOf nm x l).1.size ≤ 1000000
  | [], _, _, h => h
  | f :: r, x, hm, h => by
    rw [valOf]
    refine valOf_mild nm r _ (fun g hg => hm g (List.mem_cons_of_mem _ hg)) ?_
    cases eqB f.1 nm
    · exact h
    · exact (hm f List.mem_cons_self).2
theorem Mild.take {fs : List Fd} (h : Mild fs) (n : Nat) : Mild (fs.take n) := fun f hf => h f (List.mem_of_mem_take hf)
theorem eqB_nil (a : ByteArray) : eqB a ⟨#[]⟩ = a.toList.isEmpty := by
  unfold eqB
  rw [show (⟨#[]⟩ : ByteArray).toList = [] from ByteArray.toList_mk []]
  cases a.toList <;> rfl
/-- what 'value' says, under names -/
theorem refVal_named (v : Value) (fs : List Fd) (n : Nat) (nm : ByteArray) (w : World) (h : SlD w v fs) (hn : n ≤ fs.length) (hm : Mild fs) :
    ∃ (x : ByteArray) (z : Int), Hid (x = (valOf nm v0 (fs.take n)).1 ∧ z = ((valOf nm v0 (fs.take n)).2 : Nat) ∧ x.size ≤ 1000000) ∧ 0 ≤ z ∧ z ≤ n ∧
      Hid (Calls Try.prog 25 #[v, .int .i64 (n : Int), .string nm] w fun e w' => e = .returned (.tuple #[.string x, .int .i64 z]) ∧ w' = w) := by
  refine ⟨_, _, Lib.hid ⟨rfl, rfl, valOf_mild nm _ _ (hm.take n) (by decide)⟩, by omega, ?_, Lib.hid (refVal_any v fs n nm w h hn)⟩
  have := valOf_le nm (fs.take n) v0
  rw [List.length_take] at this
  simp only [v0] at this ⊢
  omega
theorem colB_head : ∀ {l : List Fd} {k : Nat} {f : Fd}, k < headN l → l[k]? = some f → colB f = true
  | [], _, _, _, h => by cases h
  | g :: r, 0, f, h, hf => by
    rw [List.getElem?_cons_zero, Option.some.injEq] at hf
    subst hf
    rw [headN] at h
    cases hc : colB g
    · rw [hc] at h; exact absurd h (Nat.lt_irrefl 0)
    · rfl
  | g :: r, k + 1, f, h, hf => by
    rw [headN] at h
    cases hc : colB g
    · rw [hc] at h; exact absurd h (Nat.not_lt_zero _)
    · rw [hc] at h
      exact colB_head (Nat.lt_of_succ_lt_succ h) hf
set_option maxHeartbeats 4000000 in
theorem refReq_any (v : Value) (fs : List Fd) (w : World) (h : SlD w v fs) (hm : Mild fs) :
    Calls Try.prog 11 #[v] w fun e w' => e = .returned (.bool (reqB fs)) ∧ Below w.heap.size w w' := by
  obtain ⟨a, c, rfl, hc1, hc2⟩ := h.shape
  unfold maxLen at hc2
  obtain ⟨N, hN⟩ : ∃ N, N = fs.length := ⟨_, rfl⟩
  rw [← hN] at h hc1 ⊢
  have HN := Lib.hid hN
  have HM := Lib.hid hm
  have HH := Lib.hid h
  clear hN hm
  go_enter Try.func11, Try.ntmps11
  go_wp2_with fail
  go_loopg [3] N (fun q s3 wr => ∃ k : Nat, k + q = N ∧ s3 = .int .i64 k ∧ Hid (k ≤ headN fs ∧ (fs.take k).all (fun f => valB (nums f.2)) = true) ∧ wr = w)
  case atStart => exact ⟨0, by omega, rfl, Lib.hid ⟨Nat.zero_le _, rfl⟩, rfl⟩
  case round =>
    obtain ⟨k, hkq, rfl, HL, rfl⟩ := hrel
    have HKQ := Lib.hid hkq
    have hk : k ≤ N := by omega
    clear hkq
    by_cases hkh : k = headN fs
    · obtain ⟨me, m, HM1, hm0, hm1, HMC⟩ := refVal_named _ fs k nMeth wr HH.out (by rw [← HN.out]; exact hk) HM.out
      obtain ⟨sc, s, HS1, hs0, hs1, HSC⟩ := refVal_named _ fs k nSchm wr HH.out (by rw [← HN.out]; exact hk) HM.out
      obtain ⟨pa, p, HP1, hp0, hp1, HPC⟩ := refVal_named _ fs k nPath wr HH.out (by rw [← HN.out]; exact hk) HM.out
      obtain ⟨au, u, HU1, hu0, hu1, HUC⟩ := refVal_named _ fs k nAuth wr HH.out (by rw [← HN.out]; exact hk) HM.out
      obtain ⟨t, ht⟩ : ∃ t, tokB false (nums me) = t := ⟨_, rfl⟩
      obtain ⟨r, hr⟩ : ∃ r, trailB (fs.drop k) = r := ⟨_, rfl⟩
      have HQ := Lib.hid (show reqB fs = ((t && r) && decide (m = 1 ∧ s ≤ 1 ∧ p ≤ 1 ∧ u ≤ 1 ∧ m + s + p + u = k) && (bif eqB me vConn then decide (s = 0 ∧ p = 0) && !eqB au ⟨#[]⟩ else !eqB sc ⟨#[]⟩ && !eqB pa ⟨#[]⟩)) by
        have ho : headOk fs = true := by unfold headOk; rw [← hkh]; exact HL.out.2
        unfold reqB
        rw [ho, ← hkh]
        simp only [← HM1.out.1, ← HS1.out.1, ← HP1.out.1, ← HU1.out.1, ht, hr, Bool.true_and]
        congr 2
        · congr 1
          refine propext ?_
          rw [HM1.out.2.1, HS1.out.2.1, HP1.out.2.1, HU1.out.2.1]
          omega
        · congr 2
          refine propext ?_
          rw [HS1.out.2.1, HP1.out.2.1]
          omega)
      obtain ⟨tl, htl, hsl⟩ := SlD.from_ (P := Try.prog) (t := 22) slcFd (fun _ => by kernel_rfl) HH.out k (by rw [← HN.out]; exact hk)
      have HTL := Lib.hid hsl
      have HT := Lib.hid ht
      have HR := Lib.hid hr
      have hcase : (∃ f, fs[k]? = some f ∧ k < N ∧ ((f.1.size : Int) = 0 ∨ 0 < (f.1.size : Int) ∧ at0 (nums f.1) 0 ≠ 58)) ∨ k = N := by
        by_cases hlt : k < N
        · refine .inl ?_
          obtain ⟨f, hf⟩ := fld_at (fs := fs) (k := k) (by rw [← HN.out]; exact hlt)
          have hcb := (headN_go HL.out.1).1 hkh f hf
          refine ⟨f, hf, hlt, ?_⟩
          by_cases hz : f.1.size = 0
          · exact .inl (by omega)
          · refine .inr ⟨by omega, fun h58 => ?_⟩
            unfold colB at hcb
            rw [h58, decide_eq_true (show 0 < f.1.size by omega)] at hcb
            cases hcb
        · exact .inr (by omega)
      clear hsl ht hr hkh
      rcases hcase with ⟨f, hf, hlt, hz⟩ | rfl
      · obtain ⟨b, off, rfl, hbl, hcell⟩ := HH.out.at_ (i := k) (by rw [← HN.out]; exact hlt)
        obtain ⟨c0, c1⟩ := hcell f hf
        obtain ⟨z, hzz⟩ : ∃ z : Int, z = (f.1.size : Int) := ⟨_, rfl⟩
        have hln : ∀ W, (Builtin.len_ #[9] 3 #[.string f.1]).run Try.prog W = .ok (.int .i64 z) W := fun W => by
          rw [run_len_string W _ _ f.1 Try.underlying9, hzz]; rfl
        rw [← hzz] at hz
        rcases hz with hz | ⟨hz, h58⟩
        · have d1 : decide (0 < z) = false := decide_eq_false (by omega)
          clear hcell hf hzz hz
          go_wp2_with fail
          refine HMC.out.mono ?_
          rintro e w1 ⟨rfl, rfl⟩
          go_wp2_with fail
          refine HSC.out.mono ?_
          rintro e w1 ⟨rfl, rfl⟩
          go_wp2_with fail
          refine HPC.out.mono ?_
          rintro e w1 ⟨rfl, rfl⟩
          go_wp2_with fail
          refine HUC.out.mono ?_
          rintro e w1 ⟨rfl, rfl⟩
          go_wp2_with fail
          refine (refToken_any _ _ _ HM1.out.2.2).mono ?_
          rintro e w1 ⟨rfl, rfl⟩
          rw [HT.out]
          go_wp2_with fail
          refine (refTrail_any _ _ _ HTL.out (HM.out.drop _)).mono ?_
          rintro e w1 ⟨rfl, hb1⟩
          rw [HR.out]
          have HB := Lib.hid hb1
          clear hb1
          cases t
          · go_wp2_with fail
            go_ret
            exact ⟨by rw [HQ.out]; rfl, HB.out⟩
          cases r
          · go_wp2_with fail
            go_ret
            exact ⟨by rw [HQ.out]; rfl, HB.out⟩
          by_cases h1 : m = 1
          rotate_left
          · have d1 : (m != 1) = true := by rw [bne_iff_ne]; exact h1
            have HF := Lib.hid (show reqB fs = false by rw [HQ.out, decide_eq_false (by omega)]; simp)
            go_wp2_with fail
            go_ret
            exact ⟨by rw [HF.out]; rfl, HB.out⟩
          by_cases h2 : s ≤ 1
          rotate_left
          · have d1 : (m != 1) = false := by rw [bne_eq_false_iff_eq]; exact h1
            have d2 : decide (1 < s) = true := decide_eq_true (by omega)
            have HF := Lib.hid (show reqB fs = false by rw [HQ.out, decide_eq_false (by omega)]; simp)
            go_wp2_with fail
            go_ret
            exact ⟨by rw [HF.out]; rfl, HB.out⟩
          by_cases h3 : p ≤ 1
          rotate_left
          · have d1 : (m != 1) = false := by rw [bne_eq_false_iff_eq]; exact h1
            have d2 : decide (1 < s) = false := decide_eq_false (by omega)
            have d3 : decide (1 < p) = true := decide_eq_true (by omega)
            have HF := Lib.hid (show reqB fs = false by rw [HQ.out, decide_eq_false (by omega)]; simp)
            go_wp2_with fail
            go_ret
            exact ⟨by rw [HF.out]; rfl, HB.out⟩
          by_cases h4 : u ≤ 1
          rotate_left
          · have d1 : (m != 1) = false := by rw [bne_eq_false_iff_eq]; exact h1
            have d2 : decide (1 < s) = false := decide_eq_false (by omega)
            have d3 : decide (1 < p) = false := decide_eq_false (by omega)
            have d4 : decide (1 < u) = true := decide_eq_true (by omega)
            have HF := Lib.hid (show reqB fs = false by rw [HQ.out, decide_eq_false (by omega)]; simp)
            go_wp2_with fail
            go_ret
            exact ⟨by rw [HF.out]; rfl, HB.out⟩
          have d1 : (m != 1) = false := by rw [bne_eq_false_iff_eq]; exact h1
          have d2 : decide (1 < s) = false := decide_eq_false (by omega)
          have d3 : decide (1 < p) = false := decide_eq_false (by omega)
          have d4 : decide (1 < u) = false := decide_eq_false (by omega)
          by_cases h5 : m + s + p + u = k
          rotate_left
          · have d5 : (m + s + p + u != (k : Int)) = true := by rw [bne_iff_ne]; exact h5
            have HF := Lib.hid (show reqB fs = false by rw [HQ.out, decide_eq_false (by omega)]; simp)
            go_wp2_with fail
            go_ret
            exact ⟨by rw [HF.out]; rfl, HB.out⟩
          have d5 : (m + s + p + u != (k : Int)) = false := by rw [bne_eq_false_iff_eq]; exact h5
          have HQ2 := Lib.hid (show reqB fs = (bif (me.toList == [67, 79, 78, 78, 69, 67, 84]) then ((s == 0) && (p == 0)) && !au.toList.isEmpty else !sc.toList.isEmpty && !pa.toList.isEmpty) by
            rw [HQ.out, decide_eq_true ⟨h1, h2, h3, h4, h5⟩, eqB_nil, eqB_nil, eqB_nil, show decide (s = 0 ∧ p = 0) = ((s == 0) && (p == 0)) by rw [Bool.decide_and]; rfl]
            simp only [eqB, vConn, tx, ByteArray.toList_mk, Bool.true_and])
          obtain ⟨x1, e1⟩ : ∃ x, (me.toList == [67, 79, 78, 78, 69, 67, 84]) = x := ⟨_, rfl⟩
          obtain ⟨x2, e2⟩ : ∃ x, (s == 0) = x := ⟨_, rfl⟩
          obtain ⟨x3, e3⟩ : ∃ x, (p == 0) = x := ⟨_, rfl⟩
          obtain ⟨x4, e4⟩ : ∃ x, au.toList.isEmpty = x := ⟨_, rfl⟩
          obtain ⟨x5, e5⟩ : ∃ x, sc.toList.isEmpty = x := ⟨_, rfl⟩
          obtain ⟨x6, e6⟩ : ∃ x, pa.toList.isEmpty = x := ⟨_, rfl⟩
          rw [e1, e2, e3, e4, e5, e6] at HQ2
          clear h5
          cases x1
          · clear e2 e3 e4
            cases x5
            · cases x6
              · go_wp2_with fail
                go_ret
                exact ⟨by rw [HQ2.out]; rfl, HB.out⟩
              · go_wp2_with fail
                go_ret
                exact ⟨by rw [HQ2.out]; rfl, HB.out⟩
            · go_wp2_with fail
              go_ret
              exact ⟨by rw [HQ2.out]; rfl, HB.out⟩
          · clear e5 e6
            cases x2
            · go_wp2_with fail
              go_ret
              exact ⟨by rw [HQ2.out]; rfl, HB.out⟩
            · cases x3
              · go_wp2_with fail
                go_ret
                exact ⟨by rw [HQ2.out]; rfl, HB.out⟩
              · cases x4
                · go_wp2_with fail
                  go_ret
                  exact ⟨by rw [HQ2.out]; rfl, HB.out⟩
                · go_wp2_with fail
                  go_ret
                  exact ⟨by rw [HQ2.out]; rfl, HB.out⟩
        · have d1 : decide (0 < z) = true := decide_eq_true hz
          have hi0 : ∀ (q : IntKind) (W : World), (Instr.index 9 (.string f.1) (.int q (0 : Int))).run Try.prog W = .ok (.int .u8 (at0 (nums f.1) 0)) W := str_at (P := Try.prog) (t := 9) Try.underlying9 f.1 (k := 0) (by omega)
          obtain ⟨ch, hch⟩ : ∃ ch, at0 (nums f.1) 0 = ch := ⟨_, rfl⟩
          rw [hch] at hi0 h58
          have d2 : (ch == 58) = false := beq_eq_false_iff_ne.2 h58
          clear hcell hf hzz hz hch h58
          go_wp2_with fail
          refine HMC.out.mono ?_
          rintro e w1 ⟨rfl, rfl⟩
          go_wp2_with fail
          refine HSC.out.mono ?_
          rintro e w1 ⟨rfl, rfl⟩
          go_wp2_with fail
          refine HPC.out.mono ?_
          rintro e w1 ⟨rfl, rfl⟩
          go_wp2_with fail
          refine HUC.out.mono ?_
          rintro e w1 ⟨rfl, rfl⟩
          go_wp2_with fail
          refine (refToken_any _ _ _ HM1.out.2.2).mono ?_
          rintro e w1 ⟨rfl, rfl⟩
          rw [HT.out]
          go_wp2_with fail
          refine (refTrail_any _ _ _ HTL.out (HM.out.drop _)).mono ?_
          rintro e w1 ⟨rfl, hb1⟩
          rw [HR.out]
          have HB := Lib.hid hb1
          clear hb1
          cases t
          · go_wp2_with fail
            go_ret
            exact ⟨by rw [HQ.out]; rfl, HB.out⟩
          cases r
          · go_wp2_with fail
            go_ret
            exact ⟨by rw [HQ.out]; rfl, HB.out⟩
          by_cases h1 : m = 1
          rotate_left
          · have d1 : (m != 1) = true := by rw [bne_iff_ne]; exact h1
            have HF := Lib.hid (show reqB fs = false by rw [HQ.out, decide_eq_false (by omega)]; simp)
            go_wp2_with fail
            go_ret
            exact ⟨by rw [HF.out]; rfl, HB.out⟩
          by_cases h2 : s ≤ 1
          rotate_left
          · have d1 : (m != 1) = false := by rw [bne_eq_false_iff_eq]; exact h1
            have d2 : decide (1 < s) = true := decide_eq_true (by omega)
            have HF := Lib.hid (show reqB fs = false by rw [HQ.out, decide_eq_false (by omega)]; simp)
            go_wp2_with fail
            go_ret
            exact ⟨by rw [HF.out]; rfl, HB.out⟩
          by_cases h3 : p ≤ 1
          rotate_left
          · have d1 : (m != 1) = false := by rw [bne_eq_false_iff_eq]; exact h1
            have d2 : decide (1 < s) = false := decide_eq_false (by omega)
            have d3 : decide (1 < p) = true := decide_eq_true (by omega)
            have HF := Lib.hid (show reqB fs = false by rw [HQ.out, decide_eq_false (by omega)]; simp)
            go_wp2_with fail
            go_ret
            exact ⟨by rw [HF.out]; rfl, HB.out⟩
          by_cases h4 : u ≤ 1
          rotate_left
          · have d1 : (m != 1) = false := by rw [bne_eq_false_iff_eq]; exact h1
            have d2 : decide (1 < s) = false := decide_eq_false (by omega)
            have d3 : decide (1 < p) = false := decide_eq_false (by omega)
            have d4 : decide (1 < u) = true := decide_eq_true (by omega)
            have HF := Lib.hid (show reqB fs = false by rw [HQ.out, decide_eq_false (by omega)]; simp)
            go_wp2_with fail
            go_ret
            exact ⟨by rw [HF.out]; rfl, HB.out⟩
          have d1 : (m != 1) = false := by rw [bne_eq_false_iff_eq]; exact h1
          have d2 : decide (1 < s) = false := decide_eq_false (by omega)
          have d3 : decide (1 < p) = false := decide_eq_false (by omega)
          have d4 : decide (1 < u) = false := decide_eq_false (by omega)
          by_cases h5 : m + s + p + u = k
          rotate_left
          · have d5 : (m + s + p + u != (k : Int)) = true := by rw [bne_iff_ne]; exact h5
            have HF := Lib.hid (show reqB fs = false by rw [HQ.out, decide_eq_false (by omega)]; simp)
            go_wp2_with fail
            go_ret
            exact ⟨by rw [HF.out]; rfl, HB.out⟩
          have d5 : (m + s + p + u != (k : Int)) = false := by rw [bne_eq_false_iff_eq]; exact h5
          have HQ2 := Lib.hid (show reqB fs = (bif (me.toList == [67, 79, 78, 78, 69, 67, 84]) then ((s == 0) && (p == 0)) && !au.toList.isEmpty else !sc.toList.isEmpty && !pa.toList.isEmpty) by
            rw [HQ.out, decide_eq_true ⟨h1, h2, h3, h4, h5⟩, eqB_nil, eqB_nil, eqB_nil, show decide (s = 0 ∧ p = 0) = ((s == 0) && (p == 0)) by rw [Bool.decide_and]; rfl]
            simp only [eqB, vConn, tx, ByteArray.toList_mk, Bool.true_and])
          obtain ⟨x1, e1⟩ : ∃ x, (me.toList == [67, 79, 78, 78, 69, 67, 84]) = x := ⟨_, rfl⟩
          obtain ⟨x2, e2⟩ : ∃ x, (s == 0) = x := ⟨_, rfl⟩
          obtain ⟨x3, e3⟩ : ∃ x, (p == 0) = x := ⟨_, rfl⟩
          obtain ⟨x4, e4⟩ : ∃ x, au.toList.isEmpty = x := ⟨_, rfl⟩
          obtain ⟨x5, e5⟩ : ∃ x, sc.toList.isEmpty = x := ⟨_, rfl⟩
          obtain ⟨x6, e6⟩ : ∃ x, pa.toList.isEmpty = x := ⟨_, rfl⟩
          rw [e1, e2, e3, e4, e5, e6] at HQ2
          clear h5
          cases x1
          · clear e2 e3 e4
            cases x5
            · cases x6
              · go_wp2_with fail
                go_ret
                exact ⟨by rw [HQ2.out]; rfl, HB.out⟩
              · go_wp2_with fail
                go_ret
                exact ⟨by rw [HQ2.out]; rfl, HB.out⟩
            · go_wp2_with fail
              go_ret
              exact ⟨by rw [HQ2.out]; rfl, HB.out⟩
          · clear e5 e6
            cases x2
            · go_wp2_with fail
              go_ret
              exact ⟨by rw [HQ2.out]; rfl, HB.out⟩
            · cases x3
              · go_wp2_with fail
                go_ret
                exact ⟨by rw [HQ2.out]; rfl, HB.out⟩
              · cases x4
                · go_wp2_with fail
                  go_ret
                  exact ⟨by rw [HQ2.out]; rfl, HB.out⟩
                · go_wp2_with fail
                  go_ret
                  exact ⟨by rw [HQ2.out]; rfl, HB.out⟩
      · go_wp2_with fail
        refine HMC.out.mono ?_
        rintro e w1 ⟨rfl, rfl⟩
        go_wp2_with fail
        refine HSC.out.mono ?_
        rintro e w1 ⟨rfl, rfl⟩
        go_wp2_with fail
        refine HPC.out.mono ?_
        rintro e w1 ⟨rfl, rfl⟩
        go_wp2_with fail
        refine HUC.out.mono ?_
        rintro e w1 ⟨rfl, rfl⟩
        go_wp2_with fail
        refine (refToken_any _ _ _ HM1.out.2.2).mono ?_
        rintro e w1 ⟨rfl, rfl⟩
        rw [HT.out]
        go_wp2_with fail
        refine (refTrail_any _ _ _ HTL.out (HM.out.drop _)).mono ?_
        rintro e w1 ⟨rfl, hb1⟩
        rw [HR.out]
        have HB := Lib.hid hb1
        clear hb1
        cases t
        · go_wp2_with fail
          go_ret
          exact ⟨by rw [HQ.out]; rfl, HB.out⟩
        cases r
        · go_wp2_with fail
          go_ret
          exact ⟨by rw [HQ.out]; rfl, HB.out⟩
        by_cases h1 : m = 1
        rotate_left
        · have d1 : (m != 1) = true := by rw [bne_iff_ne]; exact h1
          have HF := Lib.hid (show reqB fs = false by rw [HQ.out, decide_eq_false (by omega)]; simp)
          go_wp2_with fail
          go_ret
          exact ⟨by rw [HF.out]; rfl, HB.out⟩
        by_cases h2 : s ≤ 1
        rotate_left
        · have d1 : (m != 1) = false := by rw [bne_eq_false_iff_eq]; exact h1
          have d2 : decide (1 < s) = true := decide_eq_true (by omega)
          have HF := Lib.hid (show reqB fs = false by rw [HQ.out, decide_eq_false (by omega)]; simp)
          go_wp2_with fail
          go_ret
          exact ⟨by rw [HF.out]; rfl, HB.out⟩
        by_cases h3 : p ≤ 1
        rotate_left
        · have d1 : (m != 1) = false := by rw [bne_eq_false_iff_eq]; exact h1
          have d2 : decide (1 < s) = false := decide_eq_false (by omega)
          have d3 : decide (1 < p) = true := decide_eq_true (by omega)
          have HF := Lib.hid (show reqB fs = false by rw [HQ.out, decide_eq_false (by omega)]; simp)
          go_wp2_with fail
          go_ret
          exact ⟨by rw [HF.out]; rfl, HB.out⟩
        by_cases h4 : u ≤ 1
        rotate_left
        · have d1 : (m != 1) = false := by rw [bne_eq_false_iff_eq]; exact h1
          have d2 : decide (1 < s) = false := decide_eq_false (by omega)
          have d3 : decide (1 < p) = false := decide_eq_false (by omega)
          have d4 : decide (1 < u) = true := decide_eq_true (by omega)
          have HF := Lib.hid (show reqB fs = false by rw [HQ.out, decide_eq_false (by omega)]; simp)
          go_wp2_with fail
          go_ret
          exact ⟨by rw [HF.out]; rfl, HB.out⟩
        have d1 : (m != 1) = false := by rw [bne_eq_false_iff_eq]; exact h1
        have d2 : decide (1 < s) = false := decide_eq_false (by omega)
        have d3 : decide (1 < p) = false := decide_eq_false (by omega)
        have d4 : decide (1 < u) = false := decide_eq_false (by omega)
        by_cases h5 : m + s + p + u = k
        rotate_left
        · have d5 : (m + s + p + u != (k : Int)) = true := by rw [bne_iff_ne]; exact h5
          have HF := Lib.hid (show reqB fs = false by rw [HQ.out, decide_eq_false (by omega)]; simp)
          go_wp2_with fail
          go_ret
          exact ⟨by rw [HF.out]; rfl, HB.out⟩
        have d5 : (m + s + p + u != (k : Int)) = false := by rw [bne_eq_false_iff_eq]; exact h5
        have HQ2 := Lib.hid (show reqB fs = (bif (me.toList == [67, 79, 78, 78, 69, 67, 84]) then ((s == 0) && (p == 0)) && !au.toList.isEmpty else !sc.toList.isEmpty && !pa.toList.isEmpty) by
          rw [HQ.out, decide_eq_true ⟨h1, h2, h3, h4, h5⟩, eqB_nil, eqB_nil, eqB_nil, show decide (s = 0 ∧ p = 0) = ((s == 0) && (p == 0)) by rw [Bool.decide_and]; rfl]
          simp only [eqB, vConn, tx, ByteArray.toList_mk, Bool.true_and])
        obtain ⟨x1, e1⟩ : ∃ x, (me.toList == [67, 79, 78, 78, 69, 67, 84]) = x := ⟨_, rfl⟩
        obtain ⟨x2, e2⟩ : ∃ x, (s == 0) = x := ⟨_, rfl⟩
        obtain ⟨x3, e3⟩ : ∃ x, (p == 0) = x := ⟨_, rfl⟩
        obtain ⟨x4, e4⟩ : ∃ x, au.toList.isEmpty = x := ⟨_, rfl⟩
        obtain ⟨x5, e5⟩ : ∃ x, sc.toList.isEmpty = x := ⟨_, rfl⟩
        obtain ⟨x6, e6⟩ : ∃ x, pa.toList.isEmpty = x := ⟨_, rfl⟩
        rw [e1, e2, e3, e4, e5, e6] at HQ2
        clear h5
        cases x1
        · clear e2 e3 e4
          cases x5
          · cases x6
            · go_wp2_with fail
              go_ret
              exact ⟨by rw [HQ2.out]; rfl, HB.out⟩
            · go_wp2_with fail
              go_ret
              exact ⟨by rw [HQ2.out]; rfl, HB.out⟩
          · go_wp2_with fail
            go_ret
            exact ⟨by rw [HQ2.out]; rfl, HB.out⟩
        · clear e5 e6
          cases x2
          · go_wp2_with fail
            go_ret
            exact ⟨by rw [HQ2.out]; rfl, HB.out⟩
          · cases x3
            · go_wp2_with fail
              go_ret
              exact ⟨by rw [HQ2.out]; rfl, HB.out⟩
            · cases x4
              · go_wp2_with fail
                go_ret
                exact ⟨by rw [HQ2.out]; rfl, HB.out⟩
              · go_wp2_with fail
                go_ret
                exact ⟨by rw [HQ2.out]; rfl, HB.out⟩
    · have hlh : k < headN fs := by have := HL.out.1; omega
      have hlt : k < N := by have := headN_le fs; rw [← HN.out] at this; omega
      obtain ⟨f, hf⟩ := fld_at (fs := fs) (k := k) (by rw [← HN.out]; exact hlt)
      obtain ⟨b, off, rfl, hbl, hcell⟩ := HH.out.at_ (i := k) (by rw [← HN.out]; exact hlt)
      obtain ⟨c0, c1⟩ := hcell f hf
      have hcb := colB_head hlh hf
      unfold colB at hcb
      rw [Bool.and_eq_true, decide_eq_true_iff, beq_iff_eq] at hcb
      obtain ⟨z, hzz⟩ : ∃ z : Int, z = (f.1.size : Int) := ⟨_, rfl⟩
      have hln : ∀ W, (Builtin.len_ #[9] 3 #[.string f.1]).run Try.prog W = .ok (.int .i64 z) W := fun W => by
        rw [run_len_string W _ _ f.1 Try.underlying9, hzz]; rfl
      have d1 : decide (0 < z) = true := decide_eq_true (by omega)
      have hi0 : ∀ (q : IntKind) (W : World), (Instr.index 9 (.string f.1) (.int q (0 : Int))).run Try.prog W = .ok (.int .u8 (at0 (nums f.1) 0)) W := str_at (P := Try.prog) (t := 9) Try.underlying9 f.1 (k := 0) hcb.1
      rw [hcb.2] at hi0
      obtain ⟨y, hy⟩ : ∃ y, valB (nums f.2) = y := ⟨_, rfl⟩
      have HY := Lib.hid hy
      have HZ := Lib.hid (HM.out.at_ hf).2
      have HX : Hid (valB (nums f.2) = true → k + 1 ≤ headN fs ∧ (fs.take (k + 1)).all (fun f => valB (nums f.2)) = true) := fun q => by
        refine ⟨hlh, ?_⟩
        rw [take_at hf, List.all_append, HL.out.2]; simp [q]
      have HW : Hid (valB (nums f.2) = false → reqB fs = false) := fun q => by
        unfold reqB
        rw [show headOk fs = false by
          unfold headOk
          rw [Bool.eq_false_iff]; intro hal
          have hmem : f ∈ fs.take (headN fs) := List.mem_of_getElem? (i := k) (by rw [List.getElem?_take, if_pos hlh]; exact hf)
          have := List.all_eq_true.1 hal f hmem
          rw [q] at this; cases this]
        rfl
      clear hcell hf hzz hcb hy hlh hkh
      go_wp2_with fail
      refine (refValue_any _ _ HZ.out).mono ?_
      rintro e w1 ⟨rfl, rfl⟩
      rw [HY.out]
      cases y
      · go_wp2_with fail
        go_ret
        exact ⟨by rw [HW.out HY.out]; rfl, Below.refl _ _⟩
      · go_wp2_with fail
        go_roundg (N - (k + 1))
        case measure => have := HKQ.out; omega
        case rel => exact ⟨k + 1, by omega, by go_num, HX.out HY.out, rfl⟩
end Go.Proofs.Ytabonhiolcjnnaa
